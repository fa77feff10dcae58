import Derived.Test.YtaidmbdkbjgojaaGreatCu15
import Derived.Test.YtaidmbdkbjgojaaGreatRea
namespace Go.Proofs.YtaidmbdkbjgojaaGreat
open Go.RowKit Go.OpenShut
theorem OwnU.setW {w:World} {B g cp n:Nat} {f:Nat → Int} (h:OwnU w B (some ⟨g,0,none⟩) cp n f) {i:Nat} (hi:i < n) (v:Int):OwnU (w.setCell ⟨g,i,none⟩ (.int .u64 v)) B (some ⟨g,0,none⟩) cp n (put f i v):=by
 obtain ⟨h0,⟨h1,_⟩ | ⟨g',cap,cur,h1,h2,h3,h4,h5,h6,h7⟩⟩:=h
 ·cases h1
 ·cases h1
  refine ⟨by simp, .inr ⟨g,cp,cur.setIfInBounds i (.int .u64 v),rfl,h2,At.set (show At w g (.cells cur 47) from h3) i (.int .u64 v),h4,h5,by simpa using h6, ?_⟩⟩
  apply List.ext_getElem?
  intro j
  have e:(cur.toList.take (n * 1))[j]? = ((List.range n).map fun i => Value.int .u64 (f i))[j]?:=by rw [h7]
  by_cases hj:j < n
  ·rw [List.getElem?_take_of_lt (by omega),Array.getElem?_toList] at e
   rw [List.getElem?_take_of_lt (by omega),Array.getElem?_toList,Array.getElem?_setIfInBounds]
   unfold Go.Proofs.YtaidmbdkbjgojaaGreat.put
   by_cases hji:i = j
   ·subst hji
    rw [if_pos rfl]
    have hc:i < cur.size:=by
     rw [List.getElem?_map,List.getElem?_range hi] at e
     exact (Array.getElem?_eq_some_iff.1 e).1
    rw [if_pos hc]
    simp [hi]
   ·rw [if_neg hji,e]
    simp only [List.getElem?_map,List.getElem?_range hj,Option.map_some]
    rw [if_neg (fun e => hji e.symm)]
  ·rw [List.getElem?_eq_none (by simp; omega),List.getElem?_eq_none (by simp; omega)]
def inPl (P:Nat → Nat) (n v:Nat):Bool:=(List.range n).any fun j => P j == v
def pkW (f P:Nat → Nat) (n i:Nat):List Nat:=((List.range i).map f).filter (inPl P n)
theorem pkW_yes {f P:Nat → Nat} {n i:Nat} (h:inPl P n (f i) = true):pkW f P n (i + 1) = pkW f P n i ++ [f i]:=by
 unfold pkW
 rw [List.range_succ,List.map_append,List.filter_append]
 simp [h]
theorem pkW_no {f P:Nat → Nat} {n i:Nat} (h:inPl P n (f i) = false):pkW f P n (i + 1) = pkW f P n i:=by
 unfold pkW
 rw [List.range_succ,List.map_append,List.filter_append]
 simp [h]
theorem pkW_len (f P:Nat → Nat) (n i:Nat):(pkW f P n i).length ≤ i:=by
 unfold pkW
 have:=List.length_filter_le (inPl P n) ((List.range i).map f)
 simpa using this
theorem pkW_in {f P:Nat → Nat} {n i v:Nat} (h:v ∈ pkW f P n i):∃ j,j < n ∧ v = P j:=by
 have h1:=(List.mem_filter.1 h).2
 unfold inPl at h1
 rw [List.any_eq_true] at h1
 obtain ⟨j,hj,h2⟩:=h1
 exact ⟨j,List.mem_range.1 hj,(beq_iff_eq.1 h2).symm⟩
theorem getD_app2 {A B:List Nat} {j:Nat}:(A ++ B).getD j 0 = if j < A.length then A.getD j 0 else B.getD (j - A.length) 0:=by
 rw [List.getD_eq_getElem?_getD,List.getD_eq_getElem?_getD,List.getD_eq_getElem?_getD]
 split
 ·rw [List.getElem?_append_left (by assumption)]
 ·rw [List.getElem?_append_right (by omega)]
theorem wsN_list (A:List Nat):wsN A.length (fun j => ((A.getD j 0:Nat):Int)) = A:=by
 apply List.ext_getElem?
 intro j
 unfold wsN
 by_cases hj:j < A.length
 ·rw [List.getElem?_map,List.getElem?_range hj,List.getElem?_eq_getElem hj]
  simp [List.getD_eq_getElem?_getD,hj]
 ·rw [List.getElem?_eq_none (by simp; omega),List.getElem?_eq_none (by omega)]
theorem getD_map {A:List Nat} {g:Nat → Nat} {j:Nat} (h:j < A.length):(A.map g).getD j 0 = g (A.getD j 0):=by
 rw [List.getD_eq_getElem?_getD,List.getD_eq_getElem?_getD,List.getElem?_map,List.getElem?_eq_getElem h]
 rfl
theorem of_yes (w:World) (p:Nat) (a:DA) (S:DS) (h:Dev w p a S) (c:Cfg) (hc:c.Ok) (hcn:c.words = a.n) (k:Nat) (hk:k ≤ 1) (u:Nat) (hu:u ≤ c.space) (rs:Value) (x n r:Nat) (ho:obW S c k u x = some (n,r)) (hx:x < 9223372036854775808)
  (hw:∀ j:Nat,c.frm k ≤ j → j < c.frm k + u → ∃ x:Nat,S.now j = (x:Int) ∧ x < 18446744073709551616) :
  Calls Tryz.prog 14 #[ptr a.d,cfgV c,bkV k u rs, .int .i64 (x:Nat)] w fun e w' => e = .returned (.tuple #[obV (n:Nat) (r:Nat) (x:Nat), .int .i64 0]) ∧ Keeps [] w w':=by
 refine (of_ob w p a S h c hc hcn k hk u hu rs (x:Nat) (by omega) hw).mono ?_
 rintro e w' ⟨h1 | h1,hk⟩
 ·obtain ⟨x',n',r',h2,h3,rfl⟩:=h1
  obtain rfl:x = x':=by omega
  rw [ho] at h3
  cases h3
  exact ⟨rfl,hk⟩
 ·have:=h1.1 x rfl
  rw [ho] at this
  cases this
theorem pair_self {LS:List Nat} {v:Nat} (h:v = 0 ∨ v ∈ LS):PairOk LS LS v v:=by
 rcases h with rfl | h
 ·exact .inl ⟨rfl,rfl⟩
 ·exact .inr ⟨LS.idxOf v,idx_get h,idx_get h⟩
theorem SamI.refl {S:DS} {c:Cfg} {k us:Nat} {ws:List Nat} (h:RdyC S c k us ws):SamI S S c k us k us (rcF S c k us ws) (rcF S c k us ws):=by
 refine ⟨rfl,rcF_nodup,rcF_nodup,fun t x y hx hy => ?_⟩
 rw [hx] at hy
 injection hy with hy
 subst hy
 have hm:=List.mem_of_getElem? hx
 obtain ⟨⟨n,r⟩,hnr⟩:=Option.isSome_iff_exists.1 (rcF_ob hm)
 obtain ⟨q1,q2,q3,q4,q5,q6⟩:=obW_some hnr
 refine ⟨n,r,hnr,hnr,fun i hi => pair_self (h.nm x hm _ ?_),fun i _ _ => rfl⟩
 unfold nmW
 exact List.mem_map.2 ⟨i,List.mem_range.2 (by omega),rfl⟩
theorem rc_mem {S:DS} {c:Cfg} {k us:Nat} {ws:List Nat} {v:Nat} (hv:v ∈ ws) (h:v = 0 ∨ (obW S c k us v).isSome = true):v = 0 ∨ v ∈ rcF S c k us ws:=by
 rcases h with h | h
 ·exact .inl h
 ·exact .inr (mem_rcF.2 (.here hv h))
theorem ShutL.keepT {w w':World} {p:Nat} {a:DA} {l u:Int} {S:DS} {q:Sc} {c:Cfg} {r:Nat} {T:List Nat} (h:ShutL p a l u S q c r w) (hk:Keeps T w w') (hT:∀ b ∈ a.d :: q.bl p a,b ∉ T):ShutL p a l u S q c r w':=by
 obtain ⟨st,f,t,R,U,pl,wd,h1,h2⟩:=h
 exact ⟨st,f,t,R,U,pl,wd,h1.keep hk (fun b hb => hT b (List.mem_cons_of_mem _ hb)) (hT _ (by simp)),h2⟩
theorem Hp.keepT {w w':World} {p:Nat} {a:DA} {q:Sc} {c:Cfg} {k us:Nat} {rs ws:List Nat} {os:List (Nat × Nat)} {u:Int} {S:DS} {r:Nat} {T:List Nat} (h:Hp p a q c k us rs ws os u S r w) (hk:Keeps T w w') (hT:∀ b ∈ a.d :: q.bl p a,b ∉ T):Hp p a q c k us rs ws os u S r w':=⟨h.sh.keepT hk hT,h.hp,h.ok⟩
set_option maxHeartbeats 1000000 in
theorem collect15_open (w:World) (p:Nat) (a:DA) (l u:Int) (S:DS) (q:Sc) (c:Cfg) (m r:Nat) (pl:Nat → Nat) (D:Nat → Int) (f0 t0:Int) (hG:OpenG p a l u S q c m r pl D f0 t0 w) (y:Value) :
  Calls Tryz.prog 18 #[ptr a.d,cfgV c,ptr q.b,y] w fun e w' => e = .returned (.tuple #[.pointer none, .int .i64 2]) ∧ Keeps [] w w':=by
 have HG:=hid hG
 clear hG
 go_enter Tryz.func18,Tryz.ntmps18
 go_wp2_with fail
 have K0:=(Keeps.refl [] w).alloc (cfgO c)
 obtain ⟨w0,hw0⟩:∃ w0,w0 = w.alloc (cfgO c):=⟨_,rfl⟩
 rw [← hw0] at K0 ⊢
 clear hw0
 refine (sopen_g (HG.out.keep0 K0)).mono ?_
 rintro e w1 ⟨rfl,rfl⟩
 go_wp2_with fail
 refine bodyPost_ret (v:=.tuple #[.pointer none, .int .i64 2]) (by simp [results,Tryz.results18,go_sem]) rfl ?_
 exact ⟨rfl,K0⟩
end Go.Proofs.YtaidmbdkbjgojaaGreat
