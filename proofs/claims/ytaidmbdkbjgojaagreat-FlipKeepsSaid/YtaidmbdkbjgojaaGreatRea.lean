import Derived.Test.YtaidmbdkbjgojaaGreatRob
import Derived.BigQuiet
import Derived.Deep.RegionHeld3
namespace Go.Proofs.YtaidmbdkbjgojaaGreat
open Go.RowKit Go.OpenShut
def pkV (G P:Nat → Nat) (n i:Nat):Nat:=if G i % 6 = 0 ∨ n = 0 then G i / 6 else P (G i / 6 % n)
theorem pkV_le {G P:Nat → Nat} {n i:Nat} (hG:G i ≤ 65535) (hP:∀ j,j < n → P j ≤ 100000):pkV G P n i ≤ 100000:=by
 unfold pkV
 split
 ·omega
 ·rename_i h
  exact hP _ (Nat.mod_lt _ (by omega))
theorem pick_end {w wr w9:World} {x:Option Addr} {cp i g9 cap9 v:Nat} {G P:Nat → Nat} {n:Nat} (hK:Keeps [] w wr) (hO:OwnU wr w.heap.size x cp i (fun i => (pkV G P n i:Nat)))
  (hO9:OwnU w9 w.heap.size (some ⟨g9,0,none⟩) cap9 (i + 1) (put (fun i => ((pkV G P n i:Nat):Int)) i ((v:Nat):Int))) (hk9:Keeps (blkL x) (wr.alloc (.cells #[.int .u64 (v:Nat)] 47)) w9) (hv:pkV G P n i = v) :
  OwnU w9 w.heap.size (some ⟨g9,0,none⟩) cap9 (i + 1) (fun i => (pkV G P n i:Nat)) ∧ Keeps [] w w9:=by
 refine ⟨hO9.eq fun j hj => ?_,(hK.trans ((Keeps.refl [] wr).alloc _)).new hk9 fun b hb => .inr (hO.ge b hb).1⟩
 unfold put
 by_cases hji:j = i
 ·rw [if_pos hji,hji,hv]
 ·rw [if_neg hji]
set_option maxRecDepth 100000 in
set_option maxHeartbeats 4000000 in
theorem pick_at (w:World) (px y:Option Addr) (n cn m cm:Nat) (G P:Nat → Nat) (hG:ReadsW w y m G) (hP:ReadsN w px n P) (hPb:∀ i,i < n → P i ≤ 100000) (hm:m ≤ 1000) (hn:n ≤ 1000000) :
  Calls Tryz.prog 10 #[.slice px n cn, .slice y m cm] w fun e w' => ∃ x cp,e = .returned (.slice x m cp) ∧ OwnU w' w.heap.size x cp m (fun i => (pkV G P n i:Nat)) ∧ Keeps [] w w':=by
 have hmi:(m:Int) ≤ 1000:=by omega
 have hni:(n:Int) ≤ 1000000:=by omega
 have HG:=hid hG
 have HP:=hid hP
 have HPB:=hid hPb
 clear hG hP hPb
 go_enter Tryz.func10,Tryz.ntmps10
 go_wp2_with fail
 go_loopg [5,10] m (fun rr s5 s10 wr => ∃ (i:Nat) (x:Option Addr) (cp:Nat),i + rr = m ∧ s10 = .int .i64 i ∧ s5 = .slice x i cp ∧ OwnU wr w.heap.size x cp i (fun i => (pkV G P n i:Nat)) ∧ Keeps [] w wr)
 case atStart => exact ⟨0,none,0,by omega,rfl,rfl,ownU_nil _ _ _,Keeps.refl _ _⟩
 case round =>
  obtain ⟨i,x,cp,hi,rfl,rfl,hO,hK⟩:=hrel
  have HO:=hid hO
  have HK:=hid hK
  by_cases hil:i < m
  ·obtain ⟨b,off,rfl,hb,hcl⟩:=HG.out.resolve_left (by omega)
   obtain ⟨hc0,hg⟩:=hcl i hil
   have d0:=(hK.cell hb (by simp)).trans hc0
   obtain ⟨gi,hgi⟩:∃ gi,gi = G i:=⟨_,rfl⟩
   rw [← hgi] at d0 hg
   obtain ⟨g6,hg6⟩:∃ g6,g6 = gi % 6:=⟨_,rfl⟩
   obtain ⟨gq,hgq⟩:∃ gq,gq = gi / 6:=⟨_,rfl⟩
   have e1:(gi:Int) % 6 = (g6:Int):=by omega
   have e2:(gi:Int).tmod 6 = (g6:Int):=by rw [Int.tmod_eq_emod_of_nonneg (by omega)]; exact e1
   have e3:IntKind.u16.wrap (g6:Int) = (g6:Int):=IntWalk.u16_in _ (by omega)
   have e4:(gi:Int) / 6 = (gq:Int):=by omega
   have e5:(gi:Int).tdiv 6 = (gq:Int):=by rw [Int.tdiv_eq_ediv_of_nonneg (by omega)]; exact e4
   have e6:IntKind.u16.wrap (gq:Int) = (gq:Int):=IntWalk.u16_in _ (by omega)
   have e7:IntKind.i64.wrap (gq:Int) = (gq:Int):=IntWalk.i64_in _ (by omega)
   have e8:IntKind.u64.wrap (gq:Int) = (gq:Int):=IntWalk.u64_in _ (by omega)
   have hgb:(gq:Int) ≤ 65535:=by omega
   have hg6b:(g6:Int) ≤ 5:=by omega
   have hii:(i:Int) < (m:Int):=by omega
   have hi1:i ≤ 100000:=by omega
   have hbw:w.heap.size ≤ wr.heap.size:=hK.size
   have HGI:=hid (And.intro hgi (And.intro hg6 hgq))
   have HI:=hid (And.intro hi hil)
   clear hgi hg6 hgq hi hil hcl hc0 hb hO hK hg
   by_cases h6:g6 = 0
   ·subst h6
    have HVV:Hid (pkV G P n i = gq):=by
     show _ = _
     unfold pkV
     rw [if_pos (.inl (by rw [← HGI.out.1, ← HGI.out.2.1])), ← HGI.out.1, ← HGI.out.2.2]
    have hcX:=(At.new wr (.cells #[.int .u64 (gq:Nat)] 47)).cell 0 rfl
    have HOX:=hid (HO.out.keep ((Keeps.refl [] wr).alloc (.cells #[.int .u64 (gq:Nat)] 47)) (by simp))
    have hBX:w.heap.size ≤ (wr.alloc (.cells #[.int .u64 (gq:Nat)] 47)).heap.size:=by simp only [World.size_alloc]; omega
    go_wp2_with (at_builtin; refine appU_many rfl _ _ rfl w.heap.size x cp i _ rfl HOX.out _ _ (gq:Nat) rfl hcX hi1 hBX ?_; intro g9 cap9 w9 hO9 hk9 hg9)
    have HE:=hid (pick_end (v:=gq) HK.out HO.out hO9 hk9 HVV.out)
    clear hO9 hk9 hg9
    go_roundg (m - (i + 1))
    case measure => (have:=HI.out; omega)
    case rel => exact ⟨i + 1,some ⟨g9,0,none⟩,cap9,by have:=HI.out; omega,by go_num,rfl,HE.out⟩
   have t1:((g6:Int) == 0) = false:=by rw [beq_eq_false_iff_ne]; omega
   by_cases h0:n = 0
   ·subst h0
    have HVV:Hid (pkV G P 0 i = gq):=by
     show _ = _
     unfold pkV
     rw [if_pos (.inr rfl), ← HGI.out.1, ← HGI.out.2.2]
    clear h6
    have hcX:=(At.new wr (.cells #[.int .u64 (gq:Nat)] 47)).cell 0 rfl
    have HOX:=hid (HO.out.keep ((Keeps.refl [] wr).alloc (.cells #[.int .u64 (gq:Nat)] 47)) (by simp))
    have hBX:w.heap.size ≤ (wr.alloc (.cells #[.int .u64 (gq:Nat)] 47)).heap.size:=by simp only [World.size_alloc]; omega
    go_wp2_with (at_builtin; refine appU_many rfl _ _ rfl w.heap.size x cp i _ rfl HOX.out _ _ (gq:Nat) rfl hcX hi1 hBX ?_; intro g9 cap9 w9 hO9 hk9 hg9)
    have HE:=hid (pick_end (v:=gq) HK.out HO.out hO9 hk9 HVV.out)
    clear hO9 hk9 hg9
    go_roundg (m - (i + 1))
    case measure => (have:=HI.out; omega)
    case rel => exact ⟨i + 1,some ⟨g9,0,none⟩,cap9,by have:=HI.out; omega,by go_num,rfl,HE.out⟩
   have t2:((n:Int) == 0) = false:=by rw [beq_eq_false_iff_ne]; omega
   have t3:¬ (n:Int) = 0:=by omega
   obtain ⟨bx,ox,rfl,hbx,hcx⟩:=HP.out.resolve_left h0
   obtain ⟨gn,hgn⟩:∃ gn,gn = gq % n:=⟨_,rfl⟩
   have hgl:gn < n:=by rw [hgn]; exact Nat.mod_lt _ (by omega)
   have f1:(gq:Int).tmod (n:Int) = (gn:Int):=by rw [hgn]; exact (Int.ofNat_tmod gq n).symm
   have f2:(gq:Int) % (n:Int) = (gn:Int):=by rw [hgn]; exact (Int.natCast_emod gq n).symm
   have f3:IntKind.i64.wrap (gn:Int) = (gn:Int):=IntWalk.i64_in _ (by omega)
   have f4:IntKind.i64.wrap ((gq:Int).tmod (n:Int)) = (gn:Int):=by rw [f1]; exact f3
   have hgi2:(gn:Int) < (n:Int):=by omega
   obtain ⟨pv,hpv⟩:∃ pv,pv = P gn:=⟨_,rfl⟩
   have d1:=(HK.out.cell hbx (by simp)).trans (hcx gn hgl)
   rw [← hpv] at d1
   have hpb:(pv:Int) ≤ 100000:=by have:=HPB.out gn hgl; omega
   have f5:IntKind.u64.wrap (pv:Int) = (pv:Int):=IntWalk.u64_in _ (by omega)
   have HVV:Hid (pkV G P n i = pv):=by
    show _ = _
    unfold pkV
    rw [if_neg (by rw [← HGI.out.1, ← HGI.out.2.1]; omega), ← HGI.out.1, ← HGI.out.2.2, ← hgn,hpv]
   clear hgn hgl hpv hbx hcx h6 h0
   ·
    have hcX:=(At.new wr (.cells #[.int .u64 (pv:Nat)] 47)).cell 0 rfl
    have HOX:=hid (HO.out.keep ((Keeps.refl [] wr).alloc (.cells #[.int .u64 (pv:Nat)] 47)) (by simp))
    have hBX:w.heap.size ≤ (wr.alloc (.cells #[.int .u64 (pv:Nat)] 47)).heap.size:=by simp only [World.size_alloc]; omega
    go_wp2_with (at_builtin; refine appU_many rfl _ _ rfl w.heap.size x cp i _ rfl HOX.out _ _ (pv:Nat) rfl hcX hi1 hBX ?_; intro g9 cap9 w9 hO9 hk9 hg9)
    have HE:=hid (pick_end (v:=pv) HK.out HO.out hO9 hk9 HVV.out)
    clear hO9 hk9 hg9
    go_roundg (m - (i + 1))
    case measure => (have:=HI.out; omega)
    case rel => exact ⟨i + 1,some ⟨g9,0,none⟩,cap9,by have:=HI.out; omega,by go_num,rfl,HE.out⟩
  ·have hie:i = m:=by omega
   subst hie
   clear hi hil hO hK
   go_wp2_with fail
   go_ret
   exact ⟨x,cp,rfl,HO.out,HK.out⟩
end Go.Proofs.YtaidmbdkbjgojaaGreat
namespace Go.Proofs.YtaidmbdkbjgojaaGreat
open Go.RowKit Go.OpenShut
theorem appI_many {ops:Array Oper} {rest:List Oper} {o:Oper} {a:Act} {w:World} {Q:Exit → Act → World → Prop} (hgd:o.guard = none) (s x:Operand)
  (ho:o.op = .call { callee:=.builtin .append,args:=#[s,x],argTypes:=#[34,34] })
  (B:Nat) (xx:Option Addr) (cp n:Nat) (f:Nat → Nat) (hs:a.eval s = .slice xx n cp) (hown:OwnI w B xx cp n f) (b c i:Nat) (hx:a.eval x = .slice (some ⟨b,0,none⟩) 1 c) (hc:w.cell? ⟨b,0,none⟩ = some (.int .i64 (i:Nat)))
  (hn:n ≤ 100000) (hB:B ≤ w.heap.size)
  (h:∀ g cap w',OwnI w' B (some ⟨g,0,none⟩) cap (n + 1) (put f n i) → Keeps (blkL xx) w w' → (blkL xx = [g] ∨ w.heap.size ≤ g) → wpList Tryz.prog ops Q rest (a.put o.dst (.slice (some ⟨g,0,none⟩) (n + 1) cap)) w') :
  wpList Tryz.prog ops Q (o :: rest) a w:=by
 have hi:∃ i,Tryz.prog.info? 3 = some i ∧ (i.zero,i.size,i.bytes) = (some (.int .i64 0),1,8):=by
  have h:(Tryz.prog.info? 3).map (fun i => (i.zero,i.size,i.bytes)) = some (some (.int .i64 0),1,8):=by kernel_rfl
  exact Option.map_eq_some_iff.1 h
 obtain ⟨ti,hi1,hi2⟩:=hi
 simp only [Prod.mk.injEq] at hi2
 obtain ⟨hz,hsz,hby⟩:=hi2
 refine wpList_append_own_at w hgd s x 34 ho B 3 ti (.int .i64 0) 1 8 Tryz.underlying34 hi1 hz hsz hby rfl (by omega) _ n _ hs hown ⟨b,0,none⟩ 1 c [.int .i64 (i:Nat)] hx rfl (fun j u hj => ?_) (by simp [Value.oneCell']) (by unfold maxLen; omega) (by omega) hB ?_
 ·cases j with
  | zero => simp at hj; subst hj; exact hc
  | succ j => simp at hj
 ·intro v' w' h1 h2 h3 h4
  have hne:v' ≠ .slice none 0 0:=fun e => by have:=(h3.1 e).2; omega
  have h1':=h1
  obtain ⟨_,⟨rfl,_⟩ | ⟨g,cap,cur,rfl,hB',hg,h5⟩⟩:=h1'
  ·exact absurd rfl hne
  ·rw [range_put_i] at h1
   refine h g cap w' h1 (grown_keeps h2) ?_
   rcases h4 with h4 | h4
   ·left
    cases xx with
    | none => simp [Value.ownBlock] at h4
    | some a => simp [Value.ownBlock] at h4; simp [blkL]; exact h4.symm
   ·right
    simp [Value.ownBlock] at h4; omega
set_option maxHeartbeats 1000000 in
theorem indexI_at (w:World) (x:Option Addr) (n cp:Nat) (f:Nat → Nat) (B i:Nat) (h:OwnI w B x cp n f) (hn:n ≤ 100000) :
  Calls Tryz.prog 55 #[.slice x n cp, .int .i64 i] w fun e w' => ((∃ k:Nat,k < n ∧ f k = i ∧ e = .returned (.int .i64 k)) ∨ ((∀ k,k < n → f k ≠ i) ∧ e = .returned (.int .i64 (-1)))) ∧ w = w':=by
 have hni:(n:Int) ≤ 100000:=by omega
 have HF:=hid h.form
 clear h
 go_enter Tryz.func55,Tryz.ntmps55
 go_wp2_with fail
 go_loopg [8] n (fun r sl wr => ∃ k:Nat,k + r = n ∧ sl = .int .i64 k ∧ w = wr ∧ ∀ j,j < k → f j ≠ i)
 case atStart => exact ⟨0,by omega,rfl,rfl,fun j hj => by omega⟩
 case round =>
  obtain ⟨k,hk,rfl,rfl,hno⟩:=hrel
  have HNO:=hid hno
  clear hno
  by_cases hlt:k < n
  ·obtain ⟨g,cur,rfl,hg,hA,hcur⟩:∃ g cur,x = some ⟨g,0,none⟩ ∧ B ≤ g ∧ At w g (.cells cur 3) ∧ ∀ i,i < n → cur[i]? = some (.int .i64 (f i:Nat)):=by
    rcases HF.out with ⟨_,h⟩ | h
    ·omega
    ·exact h
   have d0:w.cell? ⟨g,k,none⟩ = some (.int .i64 (f k:Nat)):=hA.cell k (hcur k hlt)
   have hki:(k:Int) ≤ 100000:=by omega
   obtain ⟨z,hz⟩:∃ z,z = f k:=⟨_,rfl⟩
   rw [← hz] at d0
   have HZ:=hid hz
   clear hz hcur
   by_cases hiz:i = z
   ·subst hiz
    go_wp2_with fail
    go_ret
    exact ⟨.inl ⟨k,hlt,HZ.out.symm,rfl⟩,rfl⟩
   ·have t1:((i:Int) == (z:Int)) = false:=by rw [beq_eq_false_iff_ne]; omega
    have t2:(i == z) = false:=by rw [beq_eq_false_iff_ne]; exact hiz
    have HIZ:=hid hiz
    clear hiz
    go_wp2_with fail
    go_roundg (n - (k + 1))
    case measure => omega
    case rel => exact ⟨k + 1,by omega,by go_num,rfl,fun j hj => by
     by_cases hjk:j = k
     ·subst hjk; rw [← HZ.out]; exact fun e => HIZ.out e.symm
     ·exact HNO.out j (by omega)⟩
  ·have hkn:k = n:=by omega
   subst hkn
   go_wp2_with fail
   go_ret
   exact ⟨.inr ⟨HNO.out,rfl⟩,rfl⟩
set_option maxHeartbeats 1000000 in
theorem containsI_at (w:World) (x:Option Addr) (n cp:Nat) (f:Nat → Nat) (B i:Nat) (h:OwnI w B x cp n f) (hn:n ≤ 100000) :
  Calls Tryz.prog 11 #[.slice x n cp, .int .i64 i] w fun e w' => e = .returned (.bool ((List.range n).any fun j => f j == i)) ∧ w = w':=by
 have HI:=hid (indexI_at w x n cp f B i h hn)
 clear h
 go_enter Tryz.func11,Tryz.ntmps11
 go_wp2_with fail
 refine HI.out.mono ?_
 rintro e w1 ⟨⟨k,h1,h2,rfl⟩ | ⟨h1,rfl⟩,rfl⟩
 ·have HE:Hid (((List.range n).any fun j => f j == i) = true):=by
   show _ = _
   rw [List.any_eq_true]
   exact ⟨k,List.mem_range.2 h1,by rw [h2]; exact beq_self_eq_true i⟩
  have hk0:(0:Int) ≤ (k:Int):=by omega
  clear h2
  go_wp2_with fail
  go_ret
  rw [HE.out]
  simp
 ·have HE:Hid (((List.range n).any fun j => f j == i) = false):=by
   show _ = _
   rw [List.any_eq_false]
   exact fun j hj => by simpa using h1 j (List.mem_range.1 hj)
  clear h1
  go_wp2_with fail
  go_ret
  rw [HE.out]
  simp
def RowO (w0:World) (ob:Nat) (L:List Nat) (w:World):Prop :=
 ∃ x cp,At w ob (.cells #[.slice x L.length cp] 34) ∧ OwnI w w0.heap.size x cp L.length (fun i => L.getD i 0) ∧ Keeps [ob] w0 w
theorem RowO.keep {w0 w w':World} {ob:Nat} {L:List Nat} (h:RowO w0 ob L w) (hk:Keeps [] w w'):RowO w0 ob L w':=by
 obtain ⟨x,cp,h1,h2,h3⟩:=h
 exact ⟨x,cp,hk.at h1 (by simp),h2.keep hk (by simp),h3.trans (hk.mono (by simp))⟩
theorem mem_getD {L:List Nat} {v:Nat}:((List.range L.length).any fun j => L.getD j 0 == v) = decide (v ∈ L):=by
 rw [Bool.eq_iff_iff,List.any_eq_true,decide_eq_true_iff,List.mem_iff_getElem?]
 constructor
 ·rintro ⟨j,hj,he⟩
  have hj:=List.mem_range.1 hj
  refine ⟨j, ?_⟩
  rw [beq_iff_eq,List.getD_eq_getElem?_getD,List.getElem?_eq_getElem hj] at he
  rw [List.getElem?_eq_getElem hj, ← he]
  rfl
 ·rintro ⟨j,hj⟩
  obtain ⟨h1,h2⟩:=List.getElem?_eq_some_iff.1 hj
  refine ⟨j,List.mem_range.2 h1, ?_⟩
  rw [beq_iff_eq,List.getD_eq_getElem?_getD,hj]
  rfl
theorem getD_app {L:List Nat} {v j:Nat} (hj:j < L.length + 1):put (fun i => L.getD i 0) L.length v j = (L ++ [v]).getD j 0:=by
 unfold put
 by_cases h:j = L.length
 ·rw [if_pos h,List.getD_eq_getElem?_getD,h,List.getElem?_append_right (Nat.le_refl _)]
  simp
 ·rw [if_neg h]
  show L.getD j 0 = _
  rw [List.getD_eq_getElem?_getD,List.getD_eq_getElem?_getD,List.getElem?_append_left (by omega)]
set_option maxRecDepth 100000 in
set_option maxHeartbeats 4000000 in
theorem see13_at (w0 w:World) (ob db cb bb:Nat) (L:List Nat) (p:Nat) (a:DA) (S:DS) (c:Cfg) (k u:Nat) (rs:Value) (hd:At w db (.cells #[ptr a.d] 28)) (hcb:At w cb (cfgO c)) (hbb:At w bb (bkO k u rs)) (hD:Dev w p a S)
  (hc:c.Ok) (hcn:c.words = a.n) (hk:k ≤ 1) (hu:u ≤ c.space) (hx:∀ j:Nat,c.frm k ≤ j → j < c.frm k + u → ∃ x:Nat,S.now j = (x:Int) ∧ x < 18446744073709551616)
  (hR:RowO w0 ob L w) (hob:ob < w0.heap.size) (hL:L.length ≤ 5000) (v:Nat) (hv:v < 18446744073709551616) :
  Calls Tryz.prog 56 #[.int .u64 v,ptr ob,ptr db,ptr cb,ptr bb] w fun e w' => e = .returned (.tuple #[]) ∧ RowO w0 ob (seeW S c k u L v) w':=by
 obtain ⟨y,cy,hA,hO,hK⟩:=hR
 have hfr:=frm_le hc.small (show k ≤ 2 by omega)
 have hsp:=hc.small.2.2
 have HOF:=hid (fun (w':World) (hk':Keeps [] w w') (z:Int) (hz:-9223372036854775808 ≤ z ∧ z < 9223372036854775808) => of_ob w' p a S (hD.keep hk' (by simp) (by simp) (by simp) (by simp)) c hc hcn k hk u hu rs z hz hx)
 have HCO:=hid (containsI_at w y L.length cy (fun i => L.getD i 0) w0.heap.size v hO (by omega))
 rw [mem_getD] at HCO
 have HA:=hid hA
 have HO:=hid hO
 have HK:=hid hK
 have hob2:ob < w.heap.size:=hA.lt
 have HOB:=hid (And.intro hob hob2)
 have hwz:w0.heap.size ≤ w.heap.size:=hK.size
 have HWZ:=hid hwz
 have HL:=hid hL
 have HNO:Hid (1099511627776 ≤ v → (obW S c k u v).isSome = false):=fun h => by
  rw [Bool.eq_false_iff]
  intro ho
  have:=obW_in ho
  omega
 have o0:=hA.cell 0 rfl
 have d0:=hd.cell 0 rfl
 have c0:=hcb.cell 0 rfl
 have c1:=hcb.cell 1 rfl
 have c2:=hcb.cell 2 rfl
 have b0:=hbb.cell 0 rfl
 have b1:=hbb.cell 1 rfl
 have b2:=hbb.cell 2 rfl
 clear hd hcb hbb hD hc hcn hx hO hK hA hob hob2 hwz hL
 go_enter Tryz.func56,Tryz.ntmps56
 by_cases h40:1099511627776 ≤ v
 ·have t1:decide ((1099511627776:Int) ≤ (v:Int)) = true:=decide_eq_true (by omega)
  have t2:decide ((v:Int) ≥ (1099511627776:Int)) = true:=decide_eq_true (by omega)
  have s1:(1099511627776:Int) ≤ (v:Int):=by omega
  have HS:Hid (seeW S c k u L v = L):=seeW_none (HNO.out h40)
  clear hv
  go_wp2_with fail
  exact bodyPost_ret (v:=.tuple #[]) (by simp [results,Tryz.results56,go_sem]) rfl ⟨rfl,by rw [HS.out]; exact ⟨y,cy,HA.out,HO.out,HK.out⟩⟩
 have t1:decide ((1099511627776:Int) ≤ (v:Int)) = false:=decide_eq_false (by omega)
 have t2:decide ((v:Int) ≥ (1099511627776:Int)) = false:=decide_eq_false (by omega)
 have s1:(v:Int) < 1099511627776:=by omega
 have e1:IntKind.i64.wrap (v:Int) = (v:Int):=IntWalk.i64_in _ (by omega)
 have HV:=hid (show -9223372036854775808 ≤ (v:Int) ∧ (v:Int) < 9223372036854775808 by omega)
 clear hv h40 HNO
 go_wp2_with fail
 refine HCO.out.mono ?_
 rintro e w1 ⟨rfl,rfl⟩
 by_cases hm:v ∈ L
 ·rw [decide_eq_true hm]
  have HS:Hid (seeW S c k u L v = L):=seeW_had hm
  clear hm
  go_wp2_with fail
  exact bodyPost_ret (v:=.tuple #[]) (by simp [results,Tryz.results56,go_sem]) rfl ⟨rfl,by rw [HS.out]; exact ⟨y,cy,HA.out,HO.out,HK.out⟩⟩
 rw [decide_eq_false hm]
 have HM:=hid hm
 clear hm
 go_wp2_with fail
 refine (HOF.out w (Keeps.refl _ _) (v:Int) HV.out).mono ?_
 rintro e w2 ⟨⟨x,n,r,hx,ho,rfl⟩ | ⟨hno,code,hcode,rfl⟩,k12⟩
 ·obtain rfl:v = x:=by omega
  have HS:Hid (seeW S c k u L v = L ++ [v]):=seeW_yes (by rw [ho]; rfl) HM.out
  have hA2:=(k12.at HA.out (by simp)).alloc (obO (n:Nat) (r:Nat) (v:Nat))
  have HA2:=hid (k12.at HA.out (by simp))
  have HO2:=hid (HO.out.keep k12 (by simp))
  have HK2:=hid (HK.out.trans (k12.mono (by simp)))
  have hz2:w.heap.size ≤ w2.heap.size:=k12.size
  have HZ2:=hid hz2
  have hB2:w0.heap.size ≤ w2.heap.size:=by have:=HWZ.out; omega
  have hL2:L.length ≤ 100000:=by have:=HL.out; omega
  have hoy:ob ∉ blkL y:=fun h => by have:=(HO.out.ge _ h).1; have:=HOB.out; omega
  have HOY:=hid hoy
  obtain ⟨n',hn'⟩:∃ n',n' = L.length:=⟨_,rfl⟩
  rw [← hn'] at hA2 HA2 HO2 hL2
  have HN':=hid hn'
  clear ho hx k12 o0 d0 c0 c1 c2 b0 b1 b2 hz2 hoy hn'
  go_upto_region 3 with fail
  have hA3:=HA2.out.alloc (obO (n:Nat) (r:Nat) (v:Nat))
  have hO3:=HO2.out.keep ((Keeps.refl [] w2).alloc (obO (n:Nat) (r:Nat) (v:Nat))) (by simp)
  obtain ⟨w3,hw3⟩:∃ w3,w3 = w2.alloc (obO (n:Nat) (r:Nat) (v:Nat)):=⟨_,rfl⟩
  have k23:Keeps [] w2 w3:=by rw [hw3]; exact (Keeps.refl _ _).alloc _
  rw [← hw3] at hA3 hO3
  first | rw [← hw3] | skip
  have HK3:=hid (HK2.out.trans (k23.mono (by simp)))
  have hB3:w0.heap.size ≤ (w3.alloc (.cells #[.int .i64 (v:Nat)] 3)).heap.size:=by simp only [World.size_alloc]; have:=k23.size; omega
  have HA3:=hid (hA3.alloc (.cells #[.int .i64 (v:Nat)] 3))
  have HO3:=hid (hO3.keep ((Keeps.refl [] w3).alloc (.cells #[.int .i64 (v:Nat)] 3)) (by simp))
  have hcX:=(At.new w3 (.cells #[.int .i64 (v:Nat)] 3)).cell 0 rfl
  have a0:=hA3.cell 0 rfl
  clear hw3 k23 hA3 hO3 hA2
  go_wp2_with (at_builtin; refine appI_many rfl _ _ rfl w0.heap.size y cy n' _ rfl HO3.out _ _ v rfl hcX hL2 hB3 ?_; intro g9 cap9 w9 hO9 hk9 hg9; have hA9:=hk9.at HA3.out HOY.out; have a9:=hA9.cell 0 rfl; have af9:=hA9.free 0)
  go_end0
  rw [HS.out]
  refine ⟨rfl,some ⟨g9,0,none⟩,cap9, ?_, ?_, ?_⟩
  ·rw [List.length_append,List.length_singleton, ← HN'.out]
   simpa using hA9.set 0 (.slice (some ⟨g9,0,none⟩) (n' + 1) cap9)
  ·have k1:Keeps [ob] w9 (w9.setCell ⟨ob,0,none⟩ (.slice (some ⟨g9,0,none⟩) (n' + 1) cap9)):=(Keeps.refl _ _).set (p:=⟨ob,0,none⟩) (.inl (by simp)) _
   rw [List.length_append,List.length_singleton, ← HN'.out]
   refine (hO9.keep k1 (fun b hb h => ?_)).eq fun j hj => ?_
   ·have h1:=(hO9.ge b hb).1
    have h2:=List.mem_singleton.1 h
    have h3:=HOB.out
    omega
   ·rw [HN'.out] at hj ⊢
    exact getD_app hj
  ·refine ((HK3.out.trans ((Keeps.refl [ob] w3).alloc _)).new hk9 (fun b hb => .inr ?_)).set (p:=⟨ob,0,none⟩) (.inl (by simp)) _
   exact (HO.out.ge b hb).1
 ·have HS:Hid (seeW S c k u L v = L):=seeW_none (hno v rfl)
  have tc:(code == 0) = false:=by rw [beq_eq_false_iff_ne]; exact hcode
  have HE:Hid (RowO w0 ob L w2):=RowO.keep ⟨y,cy,HA.out,HO.out,HK.out⟩ k12
  clear hno hcode k12 o0 d0 c0 c1 c2 b0 b1 b2
  go_wp2_with fail
  go_end0
  exact ⟨rfl,by rw [HS.out]; exact HE.out.keep ((Keeps.refl _ _).alloc _)⟩
set_option maxRecDepth 100000 in
set_option maxHeartbeats 4000000 in
theorem reached13_at (w:World) (p:Nat) (a:DA) (S:DS) (c:Cfg) (hD:Dev w p a S) (hc:c.Ok) (hcn:c.words = a.n) (k:Nat) (hk:k ≤ 1) (u:Nat) (hu:u ≤ c.space) (rs:Value)
  (hx:∀ j:Nat,c.frm k ≤ j → j < c.frm k + u → ∃ x:Nat,S.now j = (x:Int) ∧ x < 18446744073709551616)
  (y:Option Addr) (m cy:Nat) (f:Nat → Int) (hr:Reads w y m f) (hm:m ≤ 1000) (hf:∀ i,i < m → ∃ v:Nat,f i = (v:Int) ∧ v < 18446744073709551616) :
  Calls Tryz.prog 13 #[ptr a.d,cfgV c,bkV k u rs, .slice y m cy] w fun e w' => ∃ x cp,e = .returned (.slice x (rcF S c k u (wsN m f)).length cp) ∧ OwnI w' w.heap.size x cp (rcF S c k u (wsN m f)).length (fun i => (rcF S c k u (wsN m f)).getD i 0) ∧ Keeps [] w w':=by
 have hfr:=frm_le hc.small (show k ≤ 2 by omega)
 have hsp:=hc.small.2.2
 have hfa:c.frm k + c.space ≤ a.n:=by rw [← hcn]; exact frm_space k (by omega)
 have hf0:0 < c.frm k:=by have h1:=(root_end c).2; have h2:=(root_end c).1; have:c.frm 0 ≤ c.frm k:=by { unfold Cfg.frm; omega }; omega
 have hmi:(m:Int) ≤ 1000:=by omega
 have hui:(u:Int) ≤ 4096:=by omega
 have HDL:Hid (a.d < w.heap.size ∧ a.s < w.heap.size ∧ a.k < w.heap.size ∧ a.m < w.heap.size):=⟨hD.dev.lt,hD.now.lt,hD.kept.lt,hD.map.lt⟩
 have HB:=hid (And.intro hfr (And.intro hsp (And.intro hfa (And.intro hf0 hu))))
 have HC:=hid (And.intro hc (And.intro hcn hk))
 have HX:=hid hx
 have HR:=hid hr
 have HF:=hid hf
 clear hfr hsp hfa hf0 hu hc hcn hk hx hr hf
 go_enter Tryz.func13,Tryz.ntmps13
 go_upto_region 2 with fail
 have hA0:=(((At.new w (.cells #[ptr a.d] 28)).alloc (cfgO c)).alloc (bkO k u rs)).alloc (.cells #[.slice none 0 0] 34)
 have hC0:=((At.new (w.alloc (.cells #[ptr a.d] 28)) (cfgO c)).alloc (bkO k u rs)).alloc (.cells #[.slice none 0 0] 34)
 have hB0:=(At.new ((w.alloc (.cells #[ptr a.d] 28)).alloc (cfgO c)) (bkO k u rs)).alloc (.cells #[.slice none 0 0] 34)
 have hO0:=At.new (((w.alloc (.cells #[ptr a.d] 28)).alloc (cfgO c)).alloc (bkO k u rs)) (.cells #[.slice none 0 0] 34)
 have K0:=((((Keeps.refl [] w).alloc (.cells #[ptr a.d] 28)).alloc (cfgO c)).alloc (bkO k u rs)).alloc (.cells #[.slice none 0 0] 34)
 simp only [World.size_alloc] at hC0 hB0 hO0
 obtain ⟨w0,hw0⟩:∃ w0,w0 = (((w.alloc (.cells #[ptr a.d] 28)).alloc (cfgO c)).alloc (bkO k u rs)).alloc (.cells #[.slice none 0 0] 34):=⟨_,rfl⟩
 have hz0:w0.heap.size = w.heap.size + 4:=by rw [hw0]; simp
 rw [← hw0] at hA0 hC0 hB0 hO0 K0
 first | rw [← hw0] | skip
 obtain ⟨q0,hq0⟩:∃ q,q = w.heap.size:=⟨_,rfl⟩
 obtain ⟨q1,hq1⟩:∃ q,q = w.heap.size + 1:=⟨_,rfl⟩
 obtain ⟨q2,hq2⟩:∃ q,q = w.heap.size + 1 + 1:=⟨_,rfl⟩
 obtain ⟨ob,hob⟩:∃ q,q = w.heap.size + 1 + 1 + 1:=⟨_,rfl⟩
 rw [← hob, ← hq2, ← hq1, ← hq0]
 rw [← hq0] at hA0
 rw [← hq1] at hC0
 rw [← hq2] at hB0
 rw [← hob] at hO0
 have HQ:Hid (q0 = w.heap.size ∧ q1 = q0 + 1 ∧ q2 = q0 + 2 ∧ ob = q0 + 3 ∧ w0.heap.size = q0 + 4):=⟨hq0,by omega,by omega,by omega,by omega⟩
 have HCT:Hid (∀ w',Keeps [ob] w0 w' → At w' q0 (.cells #[ptr a.d] 28) ∧ At w' q1 (cfgO c) ∧ At w' q2 (bkO k u rs) ∧ Dev w' p a S ∧ Reads w' y m f):=fun w' hk => by
  have hq:=HQ.out
  have hd:=HDL.out
  have kw:Keeps [ob] w w':=(K0.mono (by simp)).trans hk
  refine ⟨hk.at hA0 (by simp; omega),hk.at hC0 (by simp; omega),hk.at hB0 (by simp; omega),hD.keep kw (by simp; omega) (by simp; omega) (by simp; omega) (by simp; omega), ?_⟩
  rcases HR.out with h | ⟨b,off,rfl,hb,_⟩
  ·exact .inl h
  ·exact (HR.out.keep K0 (by simp)).keep hk fun b' off' h => by
    injection h with h
    injection h with h
    simp
    omega
 have HR0:Hid (RowO w0 ob [] w0):=⟨none,0,hO0,ownI_nil _ _ _,Keeps.refl _ _⟩
 have HK0:=hid K0
 clear hw0 hz0 hq0 hq1 hq2 hob hA0 hC0 hB0 hO0 K0 hD
 have HSE:Hid (∀ (L:List Nat) (w':World) (v:Nat),RowO w0 ob L w' → L.length ≤ 5000 → v < 18446744073709551616 →
   Calls Tryz.prog 56 #[.int .u64 v,ptr ob,ptr q0,ptr q1,ptr q2] w' fun e w'' => e = .returned (.tuple #[]) ∧ RowO w0 ob (seeW S c k u L v) w''):=fun L w' v hR hL hv => by
  obtain ⟨h1,h2,h3,h4,_⟩:=HCT.out w' (by obtain ⟨_,_,_,_,hk⟩:=hR; exact hk)
  exact see13_at w0 w' ob q0 q1 q2 L p a S c k u rs h1 h2 h3 h4 HC.out.1 HC.out.2.1 HC.out.2.2 HB.out.2.2.2.2 HX.out hR (by have:=HQ.out; omega) hL v hv
 go_wp2_with fail
 go_loopg [21] m (fun rr s wr => ∃ i:Nat,i + rr = m ∧ s = .int .i64 i ∧ RowO w0 ob (seeL S c k u [] ((wsN m f).take i)) wr)
 case atStart => exact ⟨0,by omega,rfl,HR0.out⟩
 case round =>
  obtain ⟨i,hi,rfl,hR⟩:=hrel
  have HRi:=hid hR
  have HL:=hid (seeL_len (S:=S) (c:=c) (k:=k) (u:=u) ((wsN m f).take i) (out:=[]) List.nodup_nil (by simp))
  by_cases hil:i < m
  ·have hii:(i:Int) < (m:Int):=by omega
   obtain ⟨_,_,_,_,h5⟩:=HCT.out wr (by obtain ⟨_,_,_,_,hk⟩:=hR; exact hk)
   obtain ⟨b,off,rfl,hb,hcl⟩:=h5.resolve_left (by omega)
   obtain ⟨v,hv,hvb⟩:=HF.out i hil
   have d0:=hcl i hil
   rw [hv] at d0
   have HTK:=hid (wsN_take (f:=f) hil)
   have HV:=hid (And.intro hv hvb)
   have HI:=hid (And.intro hi hil)
   clear hi hil hR h5 hb hcl hv hvb
   go_wp2_with fail
   refine (HSE.out _ wr v HRi.out (by have:=HL.out; omega) HV.out.2).mono ?_
   rintro e w1 ⟨rfl,hR1⟩
   have HE:Hid (RowO w0 ob (seeL S c k u [] ((wsN m f).take (i + 1))) w1):=by
    rw [HTK.out,HV.out.1,Int.toNat_natCast,seeL_one]
    exact hR1
   clear hR1 d0
   go_wp2_with fail
   go_roundg (m - (i + 1))
   case measure => (have:=HI.out; omega)
   case rel => exact ⟨i + 1,by have:=HI.out; omega,by go_num,HE.out⟩
  ·have hie:i = m:=by omega
   subst hie
   rename World => wA
   have HR1:Hid (RowO w0 ob (rcW S c k u (wsN i f) 0) wA):=by
    have h1:=HRi.out
    rw [List.take_of_length_le (by rw [wsN_len]; omega)] at h1
    exact h1
   obtain ⟨ws,hws⟩:∃ ws,ws = wsN i f:=⟨_,rfl⟩
   rw [← hws] at HR1
   have HWS:=hid hws
   clear hi hil hR HRi HL hws
   go_wp2_with fail
   go_loopg [13] u (fun rr s wr => ∃ j:Nat,j + rr = u ∧ s = .int .i64 j ∧ RowO w0 ob (rcW S c k u ws j) wr)
   case atStart => exact ⟨0,by omega,rfl,HR1.out⟩
   case round =>
    obtain ⟨j,hj,rfl,hR⟩:=hrel
    rename World => wB
    have hju:(j:Int) ≤ 4096:=by omega
    obtain ⟨x,cp,hA,hO,hK⟩:=hR
    have hlen:=rcW_len (S:=S) (c:=c) (k:=k) (u:=u) (ws:=ws) j
    obtain ⟨n',hn'⟩:∃ n',n' = (rcW S c k u ws j).length:=⟨_,rfl⟩
    rw [← hn'] at hA hO hlen
    have hni:(n':Int) ≤ 4096:=by omega
    have a0:=hA.cell 0 rfl
    have HA:=hid hA
    have HO:=hid hO
    have HK:=hid hK
    have HN:=hid hn'
    by_cases hjn:j < n'
    ·have hjni:(j:Int) < (n':Int):=by omega
     obtain ⟨X,hX⟩:∃ X,X = (rcW S c k u ws j).getD j 0:=⟨_,rfl⟩
     have hXg:(rcW S c k u ws j)[j]? = some X:=by
      rw [hX,List.getD_eq_getElem?_getD,List.getElem?_eq_getElem (by omega)]
      rfl
     have hob2:=rcW_ob j X (List.mem_of_getElem? hXg)
     obtain ⟨⟨nn,rn⟩,hnr⟩:=Option.isSome_iff_exists.1 hob2
     obtain ⟨x1,x2,x3,x4,x5,x6⟩:=obW_some hnr
     obtain ⟨g,rfl,hgB,hgl,hgc⟩:=hO.cell (by omega)
     have d0:=hgc j hjn
     rw [← hX] at d0
     have HG:=hid hgc
     have HXG:=hid hXg
     have HXX:=hid (And.intro x1 (And.intro x2 (And.intro x3 (And.intro x4 (And.intro x5 x6)))))
     have hrn:(rn:Int) ≤ 64:=by omega
     have hXb:(X:Int) ≤ 30000:=by have:=HB.out; omega
     have HLP:=hid (And.intro hgB hgl)
     have HOFX:=hid (fun (w':World) (hk':Keeps [ob] w0 w') => (of_ob w' p a S (HCT.out w' hk').2.2.2.1 c HC.out.1 HC.out.2.1 k HC.out.2.2 u HB.out.2.2.2.2 rs (X:Int) (by omega) HX.out).mono (R':=fun e w'' => e = .returned (.tuple #[obV (nn:Nat) (rn:Nat) (X:Nat), .int .i64 0]) ∧ Keeps [] w' w'') (by
      rintro e w'' ⟨⟨x',n1,r1,g1,g2,rfl⟩ | ⟨hno,_⟩,hk2⟩
      ·obtain rfl:X = x':=by omega
       rw [hnr] at g2
       injection g2 with g2
       injection g2 with g2 g3
       exact ⟨by rw [g2,g3],hk2⟩
      ·have:=hno X rfl
       rw [hnr] at this
       exact Bool.noConfusion this))
     have HOFB:Hid (∀ w',Keeps [] wB w' → Calls Tryz.prog 14 #[ptr a.d,cfgV c,bkV k u rs, .int .i64 (X:Nat)] w' fun e w'' => e = .returned (.tuple #[obV (nn:Nat) (rn:Nat) (X:Nat), .int .i64 0]) ∧ Keeps [] w' w''):=fun w' hk' => HOFX.out w' (HK.out.trans (hk'.mono (by simp)))
     have HCC:Hid (∀ w',Keeps [] wB w' → (w'.cell? ⟨q0,0,none⟩ = some (ptr a.d) ∧ w'.cell? ⟨q1,0,none⟩ = some (.int .i64 c.log) ∧ w'.cell? ⟨q1,1,none⟩ = some (.int .i64 c.roots) ∧ w'.cell? ⟨q1,2,none⟩ = some (.int .i64 c.space) ∧
       w'.cell? ⟨q2,0,none⟩ = some (.int .i64 k) ∧ w'.cell? ⟨q2,1,none⟩ = some (.int .i64 u) ∧ w'.cell? ⟨q2,2,none⟩ = some rs ∧ w'.cell? ⟨ob,0,none⟩ = some (.slice (some ⟨g,0,none⟩) n' cp) ∧ w'.cell? ⟨g,j,none⟩ = some (.int .i64 (X:Nat)))):=fun w' hk => by
      obtain ⟨h1,h2,h3,_,_⟩:=HCT.out w' (HK.out.trans (hk.mono (by simp)))
      exact ⟨h1.cell 0 rfl,h2.cell 0 rfl,h2.cell 1 rfl,h2.cell 2 rfl,h3.cell 0 rfl,h3.cell 1 rfl,h3.cell 2 rfl,(hk.at HA.out (by simp)).cell 0 rfl,by rw [hk.cell HLP.out.2 (by simp),HG.out j hjn, ← hX]⟩
     have HJ:=hid (And.intro hj hjn)
     clear hX hXg hob2 hnr x1 x2 x3 x4 x5 x6 hgB hgl hgc hj hjn hA hO hK hn' hlen d0 a0
     obtain ⟨d0,c0,c1,c2,b0,b1,b2,a0,g0⟩:=HCC.out wB (Keeps.refl _ _)
     go_upto_region 11 with fail
     go_cut [14,15] from 35 to 45 (fun s14 s15 wx => ∃ b5,s14 = ptr b5 ∧ s15 = .int .i64 0 ∧ At wx b5 (obO (nn:Nat) (rn:Nat) (X:Nat)) ∧ wB.heap.size ≤ b5 ∧ Keeps [] wB wx)
     case first =>
      go_region_held3 (fun w' => w'.cell? ⟨q0,0,none⟩ = some (ptr a.d) ∧ w'.cell? ⟨q1,0,none⟩ = some (.int .i64 c.log) ∧ w'.cell? ⟨q1,1,none⟩ = some (.int .i64 c.roots) ∧ w'.cell? ⟨q1,2,none⟩ = some (.int .i64 c.space) ∧
        w'.cell? ⟨q2,0,none⟩ = some (.int .i64 k) ∧ w'.cell? ⟨q2,1,none⟩ = some (.int .i64 u) ∧ w'.cell? ⟨q2,2,none⟩ = some rs ∧ w'.cell? ⟨ob,0,none⟩ = some (.slice (some ⟨g,0,none⟩) n' cp) ∧ w'.cell? ⟨g,j,none⟩ = some (.int .i64 (X:Nat)))
       ((refine HCC.out _ ?_; repeat' (first | assumption | exact Keeps.refl _ _ | refine Keeps.drew ?_ | refine Keeps.alloc ?_ _ | (refine Keeps.trans ?_ hk) | (refine Keeps.set ?_ (by right; simp) _))))
       (first
         | (go_at_call 14; refine (HOFB.out _ ?_).mono ?_; (repeat' (first | exact Keeps.refl _ _ | refine Keeps.drew ?_ | refine Keeps.alloc ?_ _)); rintro e w' ⟨rfl,hk⟩; try (have h5:=hk.at (At.drew (At.new wB (obO 0 0 0))) (by simp); have x0:=h5.cell 0 rfl; have x1:=h5.cell 1 rfl; have x2:=h5.cell 2 rfl; have y0:=h5.free 0; have y1:=h5.free 1; have y2:=h5.free 2)))
      all_goals
       go_wp2_with fail
       go_meet
       first
        | exact ⟨_,rfl,rfl,At.new _ _,hk.size,((Keeps.refl [] wB).drew.trans hk).alloc _⟩
        | exact ⟨_,rfl,rfl,((h5.set 0 (.int .i64 nn)).set 1 (.int .i64 rn)).set 2 (.int .i64 X),Nat.le_refl _,(((((Keeps.refl [] wB).alloc _).drew.trans hk).set (.inr (Nat.le_refl _)) _).set (.inr (Nat.le_refl _)) _).set (.inr (Nat.le_refl _)) _⟩
     case rest =>
     obtain ⟨b5,rfl,rfl,hA5,hz5,k5⟩:=hcut
     rename World => wC
     have o1:=hA5.cell 1 rfl
     have HRC:Hid (RowO w0 ob (rcW S c k u ws j) wC):=RowO.keep (by rw [show n' = _ from HN.out] at *; exact ⟨_,_,HA.out,HO.out,HK.out⟩) k5
     have HNS:Hid (rcW S c k u ws (j + 1) = seeL S c k u (rcW S c k u ws j) (nmW S X)):=rcW_some HXG.out
     clear hA5 hz5 k5 HCC HOFB HOFX HA HO HK HG HLP
     go_wp2_with fail
     clear o1
     go_loopg [49] rn (fun r3 s wr => ∃ q:Nat,q + r3 = rn ∧ s = .int .i64 q ∧ RowO w0 ob (seeL S c k u (rcW S c k u ws j) ((nmW S X).take q)) wr)
     case atStart => exact ⟨0,by omega,rfl,HRC.out⟩
     case round =>
      obtain ⟨q,hq,rfl,hR⟩:=hrel
      rename World => wD
      have HRD:=hid hR
      by_cases hqr:q < rn
      ·have hqi:(q:Int) < (rn:Int):=by omega
       obtain ⟨L2,hL2⟩:∃ L2,L2 = seeL S c k u (rcW S c k u ws j) ((nmW S X).take q):=⟨_,rfl⟩
       rw [← hL2] at hR HRD
       have hg2:L2[j]? = some X:=by rw [hL2]; exact seeL_get _ HXG.out
       have hll:L2.length ≤ u:=by rw [hL2]; exact seeL_len _ (rcW_nodup j) (rcW_ob j)
       obtain ⟨x2,cp2,hA2,hO2,hK2⟩:=hR
       obtain ⟨n2,hn2⟩:∃ n2,n2 = L2.length:=⟨_,rfl⟩
       have hjl:=(List.getElem?_eq_some_iff.1 hg2).1
       rw [← hn2] at hA2 hO2 hll hjl
       obtain ⟨g2,rfl,hg2B,hg2l,hg2c⟩:=hO2.cell (by omega)
       have hgx:=hg2c j hjl
       rw [show L2.getD j 0 = X by rw [List.getD_eq_getElem?_getD,hg2]; rfl] at hgx
       have hza:X + 1 + q < c.frm k + u:=by have:=HXX.out; omega
       obtain ⟨v,hv,hvb⟩:=HX.out (X + 1 + q) (by have:=HXX.out; omega) hza
       obtain ⟨z3,hz3⟩:∃ z3,z3 = X + 1 + q:=⟨_,rfl⟩
       have e5:(X:Int) + 1 + (q:Int) = (z3:Int):=by omega
       have e6:IntKind.i64.wrap ((X:Int) + 1) = (X:Int) + 1:=IntWalk.i64_in _ (by omega)
       have e7:IntKind.i64.wrap ((X:Int) + 1 + (q:Int)) = (z3:Int):=by rw [e5]; exact IntWalk.i64_in _ (by omega)
       have e8:IntKind.i64.wrap (z3:Int) = (z3:Int):=IntWalk.i64_in _ (by omega)
       have hjn2:(j:Int) < (n2:Int):=by omega
       have HLD:=hid (fun (w':World) (hk':Keeps [] wD w') => load_in w' p a S z3 (HCT.out w' (hK2.trans (hk'.mono (by simp)))).2.2.2.1 (by have:=HB.out; omega))
       rw [hz3,hv, ← hz3] at HLD
       have HCC:Hid (∀ w',Keeps [] wD w' → (w'.cell? ⟨q0,0,none⟩ = some (ptr a.d) ∧ w'.cell? ⟨ob,0,none⟩ = some (.slice (some ⟨g2,0,none⟩) n2 cp2) ∧ w'.cell? ⟨g2,j,none⟩ = some (.int .i64 (X:Nat)))):=fun w' hk => by
        obtain ⟨h1,_,_,_,_⟩:=HCT.out w' (hK2.trans (hk.mono (by simp)))
        exact ⟨h1.cell 0 rfl,(hk.at hA2 (by simp)).cell 0 rfl,by rw [hk.cell hg2l (by simp)]; exact hgx⟩
       have HNX:Hid (seeL S c k u (rcW S c k u ws j) ((nmW S X).take (q + 1)) = seeW S c k u L2 v):=by
        show _ = _
        rw [nmW_take (by have:=HXX.out; omega),seeL_one, ← hL2, ← hz3,hz3,hv,Int.toNat_natCast]
       have HL2:=hid (And.intro hvb (show L2.length ≤ 5000 by have:=HB.out; omega))
       have HQQ:=hid (And.intro hq hqr)
       clear hq hqr hL2 hg2 hll hA2 hO2 hK2 hn2 hjl hg2B hg2l hg2c hgx hza hv hvb hz3
       go_wp2_with fail
       have kk:Keeps [] wD wD.drew:=(Keeps.refl _ _).drew
       go_region_held3 (fun w' => w'.cell? ⟨q0,0,none⟩ = some (ptr a.d) ∧ w'.cell? ⟨ob,0,none⟩ = some (.slice (some ⟨g2,0,none⟩) n2 cp2) ∧ w'.cell? ⟨g2,j,none⟩ = some (.int .i64 (X:Nat)))
        (exact HCC.out _ kk)
        (first
          | (go_at_call 57; (first | rw [e8] | skip); refine (HLD.out _ kk).mono ?_; rintro e w' ⟨rfl,rfl⟩))
       rename_i hHd
       clear hHd
       have HRk:=hid (HRD.out.keep kk)
       clear HLD HCC e5 e6 e7 e8
       by_cases hv0:v = 0
       ·have t1:((v:Int) != 0) = false:=by subst hv0; rfl
        have HS:Hid (seeW S c k u L2 v = L2):=seeW_none (by
         rw [Bool.eq_false_iff]
         intro ho
         have:=obW_in ho
         have:=HB.out
         omega)
        clear hv0
        go_wp2_with fail
        go_roundg (rn - (q + 1))
        case measure => (have:=HQQ.out; omega)
        case rel => exact ⟨q + 1,by have:=HQQ.out; omega,by go_num,by rw [HNX.out,HS.out]; exact HRk.out⟩
       ·have t1:((v:Int) != 0) = true:=by rw [bne_iff_ne]; omega
        clear hv0
        go_wp2_with fail
        refine (HSE.out L2 _ v HRk.out HL2.out.2 HL2.out.1).mono ?_
        rintro e w9 ⟨rfl,hR9⟩
        have HR9:=hid hR9
        clear hR9
        go_wp2_with fail
        go_roundg (rn - (q + 1))
        case measure => (have:=HQQ.out; omega)
        case rel => exact ⟨q + 1,by have:=HQQ.out; omega,by go_num,by rw [HNX.out]; exact HR9.out⟩
      ·have hqe:q = rn:=by omega
       subst hqe
       have HE:Hid (RowO w0 ob (rcW S c k u ws (j + 1)) wD):=by
        have h1:=HRD.out
        rw [List.take_of_length_le (by rw [nmW_len]; have:=HXX.out; omega), ← HNS.out] at h1
        exact h1
       clear hq hqr hR
       go_wp2_with fail
       go_roundg (u - (j + 1))
       case measure => (have h1:=HJ.out; have h2:=HN.out; have h3:=rcW_len (S:=S) (c:=c) (k:=k) (u:=u) (ws:=ws) j; omega)
       case rel => exact ⟨j + 1,by have h1:=HJ.out; have h2:=HN.out; have h3:=rcW_len (S:=S) (c:=c) (k:=k) (u:=u) (ws:=ws) j; omega,by go_num,HE.out⟩
    ·have HE:Hid (rcW S c k u ws j = rcF S c k u ws):=rcW_fin (by omega)
     have hjni:(n':Int) ≤ (j:Int):=by omega
     have t1:decide ((j:Int) < (n':Int)) = false:=decide_eq_false (by omega)
     clear hj hA hO hK hn' hlen
     go_wp2_with fail
     go_ret
     rw [← HWS.out]
     refine ⟨x,cp,by rw [← HE.out, ← HN.out]; rfl, ?_, ?_⟩
     ·rw [← HE.out, ← HN.out]
      exact HO.out.low (by have:=HQ.out; omega)
     ·exact HK0.out.new HK.out (fun b hb => .inr (by have:=List.mem_singleton.1 hb; have:=HQ.out; omega))
end Go.Proofs.YtaidmbdkbjgojaaGreat
