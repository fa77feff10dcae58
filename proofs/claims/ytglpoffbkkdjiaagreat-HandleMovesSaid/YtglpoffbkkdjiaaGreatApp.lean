import Derived.Test.YtglpoffbkkdjiaaGreatAwk14
import Derived.Test.YtglpoffbkkdjiaaGreatTwo
import Derived.Test.YtglpoffbkkdjiaaGreatCkl
import Derived.Test.YtglpoffbkkdjiaaGreatAwk13
import Derived.Laws.OwnMore
import Derived.Maps.AppendAt
namespace Go.Proofs.YtglpoffbkkdjiaaGreat
open Go.RowKit Go.OpenShut
structure HepS (S:DS) (c:Cfg) (n k u:Nat) (rs:List Nat) (l:List (Nat × Nat)):Prop where
 act:S.now c.act = ((k:Nat):Int)
 used:S.now (c.act + 1) = ((u:Nat):Int)
 rl:rs.length = c.roots
 root:∀ j,j < c.roots → S.now (c.root j) = ((rs.getD j 0:Nat):Int)
 rb:∀ v ∈ rs,v < 9223372036854775808
 k1:k ≤ 1
 wd:WdA S c n
 chn:Chn S c k u l false
 ok:ckC S c k l false = 0
theorem HepS.us {S:DS} {c:Cfg} {n k u:Nat} {rs:List Nat} {l:List (Nat × Nat)} (h:HepS S c n k u rs l):u ≤ c.space:=h.chn.fits
theorem HepS.same {S S':DS} {c:Cfg} {n k u:Nat} {rs:List Nat} {l:List (Nat × Nat)} (h:HepS S c n k u rs l) (hn:c.words = n) (he:∀ j,c.act ≤ j → j < n → S'.now j = S.now j):HepS S' c n k u rs l:=by
 have h1:=frm_space (c:=c) k h.k1
 have h2:=frm_ge (c:=c) k
 have h3:=frm_ge (c:=c) 0
 have h4:=h.us
 have h5:=root_end c
 have hle:=h.chn.le
 refine ⟨by rw [he _ (by omega) (by omega)]; exact h.act,by rw [he _ (by omega) (by omega)]; exact h.used,h.rl,fun j hj => ?_,h.rb,h.k1,⟨fun j a b => ?_,fun j a b => ?_⟩,h.chn.same fun j hj => he _ (by omega) (by omega), ?_⟩
 ·rw [he _ (by unfold Cfg.root; omega) (by unfold Cfg.root; omega)]
  exact h.root j hj
 ·have:j < n:=by have:=frm_space (c:=c) 0 (by omega); omega
  rw [he j a this]; exact h.wd.blk j a b
 ·rw [he j (by omega) b]; exact h.wd.sp j a b
 ·rw [ckC_same (fun j hj => he _ (by unfold Cfg.root; omega) (by unfold Cfg.root; omega)) fun i hi j hj => ?_]
  ·exact h.ok
  ·obtain ⟨e1,e2,_⟩:=h.chn.head i _ (nL_in hi)
   have h6:=posN_end hi
   have e3:rL l i ≤ nL l i:=e2
   exact he _ (by omega) (by omega)
def hdL (S:DS) (LS:List Nat):List (Nat × Nat):=LS.map fun x => (hdN (S.now x).toNat,hdR (S.now x).toNat)
theorem hdL_len (S:DS) (LS:List Nat):lenL (hdL S LS) = szF S LS:=by
 induction LS with
 | nil => rfl
 | cons x l ih => rw [szF_cons, ← ih]; exact lenL_cons _ _
theorem hdL_pos (S:DS) (LS:List Nat) (i:Nat):posL (hdL S LS) i = szF S (LS.take i):=by
 unfold posL
 rw [show (hdL S LS).take i = hdL S (LS.take i) by unfold hdL; rw [List.map_take]]
 exact hdL_len _ _
theorem hdL_get {S:DS} {LS:List Nat} {t x:Nat} (h:LS[t]? = some x):(hdL S LS)[t]? = some (hdN (S.now x).toNat,hdR (S.now x).toNat):=by
 unfold hdL
 rw [List.getElem?_map,h]
 rfl
theorem hdL_n {S:DS} {LS:List Nat} {t x:Nat} (h:LS[t]? = some x):nL (hdL S LS) t = hdN (S.now x).toNat ∧ rL (hdL S LS) t = hdR (S.now x).toNat:=by
 unfold nL rL
 rw [List.getD_eq_getElem?_getD,hdL_get h]
 exact ⟨rfl,rfl⟩
section
variable {S S1 S2:DS} {c:Cfg} {n k u:Nat} {LS:List Nat}
theorem okW_wt (S:DS) (c:Cfg) (k:Nat) (LS:List Nat) (v:Nat):okW c (1 - k) (hdL S LS) ((wtC S c k LS v:Nat):Int) = true:=by
 rw [okW_iff]
 by_cases hv:v ∈ LS
 ·refine .inr ⟨LS.idxOf v,by unfold hdL; rw [List.length_map]; exact List.idxOf_lt_length_iff.2 hv, ?_⟩
  unfold wtC plC
  rw [if_pos hv,hdL_pos]
 ·exact .inl (by rw [wtC_no hv]; rfl)
theorem Cpd.hep (h:Cpd S S1 c k LS) (hc:c.Ok) (hn:c.words = n) (hk:k ≤ 1) (hu:u ≤ c.space) (hob:∀ x ∈ LS,(obW S c k u x).isSome = true) (hsz:szF S LS ≤ c.space) (hwd:WdA S c n)
  {rs:List Nat} (hrl:rs.length = c.roots) (h1:S2.now c.act = ((1 - k:Nat):Int)) (h2:S2.now (c.act + 1) = ((szF S LS:Nat):Int)) (h3:∀ j,j < c.roots → S2.now (c.root j) = ((wtC S c k LS (rs.getD j 0):Nat):Int)) (h4:∀ j,c.frm 0 ≤ j → j < n → S2.now j = S1.now j) :
  HepS S2 c n (1 - k) (szF S LS) (rs.map (wtC S c k LS)) (hdL S LS):=by
 have hf0:=frm_ge (c:=c) 0
 have hf1:=frm_space (c:=c) (1 - k) (by omega)
 have hf2:=frm_space (c:=c) k hk
 have hfk:c.frm 0 ≤ c.frm (1 - k):=by unfold Cfg.frm; omega
 have hfk2:c.frm 0 ≤ c.frm k:=by unfold Cfg.frm; omega
 have hfr:=frm_le hc.small (show 1 - k ≤ 2 by omega)
 have hs:=hc.small.2.2
 have hre:=root_end c
 have hlt:∀ v,wtC S c k LS v ≤ 100000:=fun v => by
  by_cases hv:v ∈ LS
  ·have e1:=plC_end (S:=S) (c:=c) (k:=k) (idx_get hv)
   unfold wtC
   rw [if_pos hv]
   omega
  ·rw [wtC_no hv]; omega
 have hcp:∀ t x,LS[t]? = some x → ∀ o,o ≤ hdN (S.now x).toNat → c.frm 0 ≤ plC S c k LS t + o ∧ plC S c k LS t + o < n:=fun t x hx o ho => by
  have e1:=plC_end (S:=S) (c:=c) (k:=k) hx
  have e2:=plC_ge (S:=S) (c:=c) (k:=k) (LS:=LS) t
  omega
 have hsrc:∀ x ∈ LS, ∀ o,o ≤ hdN (S.now x).toNat → c.frm 0 ≤ x + o ∧ x + o < n:=fun x hx o ho => by
  obtain ⟨f1,f2,f3,f4,_⟩:=ob_yes (hob x hx)
  omega
 refine ⟨h1,h2,by rw [List.length_map]; exact hrl,fun j hj => ?_,fun v hv => ?_,by omega,⟨fun j a b => ?_,fun j a b => ?_⟩,⟨hsz,fun t y hy => ?_,fun _ => hdL_len _ _,fun h => by cases h⟩,ckC_ok (fun j hj => ?_) fun t ht j hj => ?_⟩
 ·rw [h3 j hj,List.getD_eq_getElem?_getD,List.getD_eq_getElem?_getD,List.getElem?_map,List.getElem?_eq_getElem (by omega)]
  rfl
 ·obtain ⟨x,_,rfl⟩:=List.mem_map.1 hv
  have:=hlt x
  omega
 ·by_cases e1:j = c.act
  ·exact ⟨1 - k,by rw [e1]; exact h1,by omega⟩
  ·by_cases e2:j = c.act + 1
   ·exact ⟨szF S LS,by rw [e2]; exact h2,by omega⟩
   ·obtain ⟨i,rfl⟩:∃ i,j = c.root i:=⟨j - (c.act + 2),by unfold Cfg.root; omega⟩
    have hi:i < c.roots:=by unfold Cfg.root at b; omega
    exact ⟨_,h3 i hi,by have:=hlt (rs.getD i 0); omega⟩
 ·rw [h4 j a b]
  by_cases hz:c.frm (1 - k) ≤ j ∧ j < c.frm (1 - k) + szF S LS
  ·obtain ⟨t,x,off,g1,g2,g3⟩:=szF_ex S LS (j - c.frm (1 - k)) (by omega)
   have hj:j = plC S c k LS t + off:=by unfold plC; omega
   have hxm:=List.mem_of_getElem? g1
   cases off with
   | zero =>
    rw [hj,Nat.add_zero,h.head t x g1]
    have:=hsrc x hxm 0 (by omega)
    exact hwd.sp x (by omega) (by omega)
   | succ i =>
    rw [show j = plC S c k LS t + 1 + i by omega]
    by_cases hi:i < hdR (S.now x).toNat
    ·rw [h.name t x g1 i hi]
     exact ⟨_,rfl,by have:=hlt (S.now (x + 1 + i)).toNat; omega⟩
    ·rw [h.num t x g1 i (by omega) (by omega)]
     have:=hsrc x hxm (i + 1) g2
     exact hwd.sp _ (by omega) (by omega)
  ·rw [h.rest j hz]
   exact hwd.sp j a b
 ·obtain ⟨x,hx⟩:∃ x,LS[t]? = some x:=by
   have h5:=(List.getElem?_eq_some_iff.1 hy).1
   unfold hdL at h5
   rw [List.length_map] at h5
   exact ⟨_,List.getElem?_eq_getElem h5⟩
  rw [hdL_get hx] at hy
  injection hy with hy
  subst hy
  obtain ⟨f1,f2,f3,f4,_⟩:=ob_yes (hob x (List.mem_of_getElem? hx))
  have f5:=isHd_pk f3
  have f6:=hcp t x hx 0 (by omega)
  refine ⟨f5.2.1,f5.2.2, ?_⟩
  rw [hdL_pos,h4 _ (by unfold plC at f6; omega) (by unfold plC at f6; omega)]
  have f7:=h.head t x hx
  unfold plC at f7
  rw [f7]
  have:=hsrc x (List.mem_of_getElem? hx) 0 (by omega)
  obtain ⟨v,g1,_⟩:=hwd.sp x (by omega) (by omega)
  rw [g1,Int.toNat_natCast]
  rw [g1,Int.toNat_natCast] at f5
  exact congrArg (fun z:Nat => (z:Int)) f5.1
 ·rw [h3 j hj]
  exact okW_wt S c k LS _
 ·obtain ⟨x,hx⟩:∃ x,LS[t]? = some x:=by
   unfold hdL at ht
   rw [List.length_map] at ht
   exact ⟨_,List.getElem?_eq_getElem ht⟩
  rw [(hdL_n hx).2] at hj
  obtain ⟨f1,f2,f3,f4,_⟩:=ob_yes (hob x (List.mem_of_getElem? hx))
  have f5:=isHd_pk f3
  have f6:=hcp t x hx (j + 1) (by omega)
  rw [hdL_pos,show c.frm (1 - k) + szF S (LS.take t) + 1 + j = plC S c k LS t + 1 + j from rfl,h4 _ (by omega) (by omega),h.name t x hx j hj]
  exact okW_wt S c k LS _
end
theorem CP.Ok.next {P:CP} (h:P.Ok) {S1:DS} (hC:Cpd P.S S1 P.c P.k P.LS):CP.Ok ⟨P.p,P.a,S1,P.c,1 - P.k,szF P.S P.LS,P.ws.map (wtC P.S P.c P.k P.LS),P.rs.map (wtC P.S P.c P.k P.LS)⟩:=by
 have h1:=frm_le h.c.small (show 1 - P.k ≤ 2 by omega)
 have h2:=h.c.small.2.2
 have hpre:P.Pre P.LS:=⟨[],by rw [List.append_nil]⟩
 have hw:∀ l:List Nat, ∀ v ∈ l.map (wtC P.S P.c P.k P.LS),v < 9223372036854775808:=fun l v hv => by
  obtain ⟨x,_,rfl⟩:=List.mem_map.1 hv
  have:=wt_few h hpre x
  omega
 exact ⟨h.c,h.n,by show 1 - P.k ≤ 1; omega,h.rdy.sz,h.rdy.next (by omega) hC,hw _,hw _,by rw [List.length_map]; exact h.few,by rw [List.length_map]; exact h.root⟩
theorem LnkS.hep {c:Cfg} {n:Nat} {os:List (Nat × Nat)} {G:Nat → Nat} {m:Nat} {S:DS} (h:LnkS c n os (lnkG c os G m 0) S) (hc:c.Ok):HepS S c n 0 (lenL os) (wsN c.roots fun j => lnkG c os G m 0 (refL os + j)) os:=by
 have hfr:=frm_le hc.small (show 0 ≤ 2 by omega)
 have hs:=hc.small.2.2
 have hf:=h.fits
 have hlow:=fun q => lnkG_low c os G m (by omega) q
 refine ⟨h.act,h.used,wsN_len _ _,fun j hj => ?_,fun v hv => ?_,by omega,h.wd hs fun q => by obtain ⟨v,h1,h2⟩:=hlow q; exact ⟨v,h1,by omega⟩,h.chain,ckC_ok (fun j hj => ?_) fun i hi j hj => ?_⟩
 ·have h4:(wsN c.roots fun j => lnkG c os G m 0 (refL os + j)).getD j 0 = (lnkG c os G m 0 (refL os + j)).toNat:=by simp [wsN,List.getD,hj]
  obtain ⟨v,h1,_⟩:=hlow (refL os + j)
  rw [h.root j hj,h4,h1,Int.toNat_natCast]
 ·obtain ⟨j,_,rfl⟩:=List.mem_map.1 hv
  obtain ⟨v,h1,h2⟩:=hlow (refL os + j)
  show (lnkG c os G m 0 (refL os + j)).toNat < _
  rw [h1]
  omega
 ·rw [h.root j hj]
  exact lnkG_ok c os G m _
 ·rw [h.name i j hi hj]
  exact lnkG_ok c os G m _
end Go.Proofs.YtglpoffbkkdjiaaGreat
namespace Go.Proofs.YtglpoffbkkdjiaaGreat
open Go.RowKit Go.OpenShut
theorem app2U_run {w:World} {B B2:Nat} {xx y:Option Addr} {cp n c m:Nat} {f g:Nat → Int} (hown:OwnU w B xx cp n f) (hy:OwnU w B2 y c m g) (hb:n + m ≤ 100000) (hB:B ≤ w.heap.size) (ty:TypeId) :
  ∃ x' cp' w',(Builtin.append_ #[56,56] ty #[.slice xx n cp, .slice y m c]).run Tryz.prog w = .ok (.slice x' (n + m) cp') w' ∧ OwnU w' B x' cp' (n + m) (fun i => if i < n then f i else g (i - n)) ∧ Keeps (blkL xx) w w' ∧ (∀ b ∈ blkL x',b ∈ blkL xx ∨ w.heap.size ≤ b):=by
 have hi:∃ i,Tryz.prog.info? 80 = some i ∧ (i.zero,i.size,i.bytes) = (some (.int .u64 0),1,8):=by
  have h:(Tryz.prog.info? 80).map (fun i => (i.zero,i.size,i.bytes)) = some (some (.int .u64 0),1,8):=by kernel_rfl
  exact Option.map_eq_some_iff.1 h
 obtain ⟨i,hi1,hi2⟩:=hi
 simp only [Prod.mk.injEq] at hi2
 obtain ⟨hz,hsz,hby⟩:=hi2
 have e:((List.range n).map fun i => (.int .u64 (f i):Value)) ++ ((List.range m).map fun i => (.int .u64 (g i):Value)) = (List.range (n + m)).map fun i => (.int .u64 ((if i < n then f i else g (i - n))):Value):=by
  apply List.ext_getElem?
  intro j
  by_cases hj:j < n
  ·rw [List.getElem?_append_left (by simpa using hj)]
   simp [hj,show j < n + m by omega]
  ·rw [List.getElem?_append_right (by simp; omega)]
   by_cases hj2:j < n + m
   ·simp [hj,hj2,show j - n < m by omega]
   ·simp [hj2,show ¬ j - n < m by omega]
 rcases hy.2 with ⟨h1,h2⟩ | ⟨g0,cap0,cur0,h1,h2,h3,h4,h5,h6,h7⟩
 ·injection h1 with h1 _ h1c
  subst h1; subst h2; subst h1c
  refine ⟨xx,cp,w,run_append_owned_none (P:=Tryz.prog) w B _ ty 80 i 1 Tryz.underlying56 hi1 _ n _ hown,hown.eq fun j hj => (if_pos hj).symm,Keeps.refl _ _,fun b hb => .inl hb⟩
 ·injection h1 with h1 _ h1c
  subst h1; subst h1c
  have hnews:∀ j u,((List.range m).map fun i => (.int .u64 (g i):Value))[j]? = some u → w.cell? ((⟨g0,0,none⟩:Addr).add j) = some u:=by
   intro j u hj
   obtain ⟨hj1,_⟩:=List.getElem?_eq_some_iff.1 hj
   have hj2:j < m:=by simpa using hj1
   have e2:(⟨g0,0,none⟩:Addr).add j = ⟨g0,j,none⟩:=by unfold Addr.add; split <;> simp_all
   rw [e2]
   refine At.cell (show At w g0 (.cells cur0 80) from h3) j ?_
   have e3:(cur0.toList.take (m * 1))[j]? = some u:=by rw [h7]; exact hj
   rwa [List.getElem?_take_of_lt (by omega),Array.getElem?_toList] at e3
  obtain ⟨v',w',hrun,g1,g2,g3,g4⟩:=run_append_own_at (P:=Tryz.prog) w B 56 ty 80 i (.int .u64 0) 1 8 Tryz.underlying56 hi1 hz hsz hby rfl (by omega) _ n _ hown ⟨g0,0,none⟩ m c
   ((List.range m).map fun i => (.int .u64 (g i):Value)) (by simp) hnews (by simp [Value.oneCell']) (by unfold maxLen; omega) (by omega) hB
  rw [e] at g1
  have hk:=grown_keeps g2
  obtain ⟨k1,k2⟩:=g1
  rcases k2 with ⟨rfl,k3⟩ | ⟨g9,cap9,cur9,rfl,k4⟩
  ·refine ⟨none,0,w',by rw [hrun,k3],⟨k1, .inl ⟨by rw [k3],k3⟩⟩,hk,by simp [blkL]⟩
  ·refine ⟨some ⟨g9,0,none⟩,cap9,w',hrun,⟨k1, .inr ⟨g9,cap9,cur9,rfl,k4⟩⟩,hk,fun b hb => ?_⟩
   have hbg:b = g9:=by simpa [blkL] using hb
   subst hbg
   rcases g4 with g4 | g4
   ·left
    cases xx with
    | none => simp [Value.ownBlock] at g4
    | some a => simp [Value.ownBlock] at g4; simp [blkL]; exact g4
   ·right
    simp [Value.ownBlock] at g4; omega
theorem app2U_list {ops:Array Oper} {rest:List Oper} {o:Oper} {a:Act} {w:World} {Q:Exit → Act → World → Prop} (hgd:o.guard = none) (s x:Operand)
  (ho:o.op = .call { callee:=.builtin .append,args:=#[s,x],argTypes:=#[56,56] })
  (B B2:Nat) (xx y:Option Addr) (cp n c m:Nat) (f g:Nat → Int) (hs:a.eval s = .slice xx n cp) (hx:a.eval x = .slice y m c) (hown:OwnU w B xx cp n f) (hy:OwnU w B2 y c m g) (hb:n + m ≤ 100000) (hB:B ≤ w.heap.size)
  (h:∀ x' cp' w',OwnU w' B x' cp' (n + m) (fun i => if i < n then f i else g (i - n)) → Keeps (blkL xx) w w' → (∀ b ∈ blkL x',b ∈ blkL xx ∨ w.heap.size ≤ b) → wpList Tryz.prog ops Q rest (a.put o.dst (.slice x' (n + m) cp')) w') :
  wpList Tryz.prog ops Q (o :: rest) a w:=by
 refine wpList_plain hgd fun K' hK' => ?_
 obtain ⟨x',cp',w',hrun,h1,h2,h3⟩:=app2U_run hown hy hb hB o.type
 unfold Oper.wp
 simp [execOp,ho,resolve,invoke,builtin,hs,hx,hrun,Result.andThen]
 exact hK' _ _ (h x' cp' w' h1 h2 h3)
end Go.Proofs.YtglpoffbkkdjiaaGreat
