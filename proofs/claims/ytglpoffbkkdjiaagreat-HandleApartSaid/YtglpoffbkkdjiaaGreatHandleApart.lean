import Derived.Test.YtglpoffbkkdjiaaGreatLw16
namespace Go.Proofs.YtglpoffbkkdjiaaGreat
open Go.RowKit Go.OpenShut
def SeenI (S:Int → Option Value) (m:Nat) (g:Nat → Nat):Prop:=∀ z v,S z = some v → ∃ n s:Nat,z = (n:Nat) ∧ n ≤ m ∧ v = .int .i64 (s:Nat) ∧ (g n ≠ 0 → s = g n)
theorem SeenI.set {S:Int → Option Value} {m t p:Nat} {g:Nat → Nat} (h:SeenI S m g) (ht:t ≤ m) (hg:g t = p):SeenI (fun z => if z = (t:Nat) then some (.int .i64 (p:Nat)) else S z) m g:=fun z v hv => by
 dsimp only at hv
 split at hv
 ·rename_i hz
  injection hv with hv
  exact ⟨t,p,hz,ht,hv.symm,fun _ => hg.symm⟩
 ·exact h z v hv
theorem SeenI.drop {S:Int → Option Value} {m t:Nat} {g:Nat → Nat} (h:SeenI S m g):SeenI S m (upd g t 0):=fun z v hv => by
 obtain ⟨n,s,h1,h2,h3,h4⟩:=h z v hv
 refine ⟨n,s,h1,h2,h3,fun h0 => ?_⟩
 by_cases hn:n = t
 ·subst hn; rw [upd_on] at h0; exact absurd rfl h0
 ·rw [upd_off hn] at h0 ⊢; exact h4 h0
theorem SeenI.more {S:Int → Option Value} {m p:Nat} {g:Nat → Nat} (h:SeenI S m g):SeenI S (m + 1) (upd g (m + 1) p):=fun z v hv => by
 obtain ⟨n,s,h1,h2,h3,h4⟩:=h z v hv
 refine ⟨n,s,h1,by omega,h3,fun h0 => ?_⟩
 rw [upd_off (by omega)] at h0 ⊢
 exact h4 h0
set_option maxRecDepth 100000 in
set_option maxHeartbeats 1000000 in
theorem hapart_great (y:Option Addr) (n cp:Nat) (W:World) (d:Nat) (hn:60 < n) :
  Calls Tryz.prog 4 #[.slice y n cp, .int .u8 (d:Nat)] W fun e w' => e = .returned (.bool true) ∧ Below W.heap.size W w':=by
 have hn2:(60:Int) < (n:Int):=by omega
 go_enter Tryz.func4,Tryz.ntmps4
 go_wp2_with fail
 refine (awake16_any _).mono ?_
 rintro e w1 ⟨rfl,hb1⟩
 go_wp2_with fail
 go_ret
 exact ⟨rfl,hb1⟩
set_option maxRecDepth 100000 in
set_option maxHeartbeats 4000000 in
theorem hapart_small (y:Option Addr) (n cp:Nat) (F:Nat → Nat) (W:World) (hR:ReadsB W y n F) (d:Nat) (hd:d ≤ 255) (hn:n ≤ 60) :
  Calls Tryz.prog 4 #[.slice y n cp, .int .u8 (d:Nat)] W fun e w' => e = .returned (.bool true) ∧ Below W.heap.size W w':=by
 have hmk:=fun w:World => run_makeMap (P:=Tryz.prog) (w:=w) 32
 have hn2:(n:Int) ≤ 60:=by omega
 have HR:=hid hR
 clear hR
 have hdi:(d:Int) ≤ 255:=by omega
 go_enter Tryz.func4,Tryz.ntmps4
 go_wp2_with fail
 refine (awake16_any _).mono ?_
 rintro e w1 ⟨rfl,hb1⟩
 have K1:Keeps [] W w1:=Go.Proofs.YtglpoffbkkdjiaaGreat.Below.keeps hb1 []
 clear hb1
 go_wp2_with fail
 refine (hnew_at w1).mono ?_
 rintro e w2 ⟨x,rfl,hT2,hk2,hx⟩
 have hal:=Keeps.alloc (Keeps.refl [] w2) (.map #[] 0)
 have hT3:=hT2.keep hal (by simp)
 have hM3:=IMap.made w2
 have K3:=(K1.trans hk2).trans hal
 have HX:Hid (∀ b ∈ x.bl,W.heap.size ≤ b ∧ b ≠ w2.heap.size):=fun b hb => ⟨Nat.le_trans K1.size (hx b hb),by have:=hT2.lt b hb; omega⟩
 have HSB:Hid (W.heap.size ≤ w2.heap.size):=(K1.trans hk2).size
 obtain ⟨sb,hsb⟩:∃ sb,sb = w2.heap.size:=⟨_,rfl⟩
 obtain ⟨w3,hw3⟩:∃ w3,w3 = w2.alloc (.map #[] 0):=⟨_,rfl⟩
 go_upto_region 7 with fail
 rw [← hsb] at HX HSB hM3 ⊢
 rw [← hw3] at hT3 hM3 K3 ⊢
 have HT3:=hid hT3
 have HM3:=hid hM3
 have HK3:=hid K3
 clear hsb hw3 hT2 hk2 hx hal hT3 hM3 K1 K3 hmk
 go_wp2_with fail
 go_loopg [7,8,9,10,11,12,22] n (fun r s7 s8 s9 s10 s11 s12 s22 wr => ∃ (k m:Nat) (g:Nat → Nat) (S:Int → Option Value),k + r = n ∧ s22 = .int .i64 k ∧ TabW wr x m g ∧ IMap wr sb S ∧ SeenI S m g ∧ m ≤ 2 * k ∧ Keeps [] W wr)
 case atStart => exact ⟨0,0,fun _ => 0,_,by omega,rfl,HT3.out,HM3.out,(fun z v hv => by cases hv),by omega,HK3.out⟩
 case round =>
  obtain ⟨k,m,g,S,hk,rfl,hT,hM,hS,hmk,hK⟩:=hrel
  have HT:=hid hT
  have HM:=hid hM
  have HS:=hid hS
  have HK:=hid hK
  clear hT hM hS hK
  by_cases hlt:k < n
  ·have hlti:(k:Int) < (n:Int):=by omega
   obtain ⟨b,off,rfl,hb,hc⟩:=(HR.out.keep HK.out (by simp)).1.resolve_left (by omega)
   have d0:=hc k hlt
   have hv:=HR.out.2 k
   obtain ⟨v,hve⟩:∃ v,v = F k:=⟨_,rfl⟩
   rw [← hve] at d0 hv
   have hvi:(v:Int) ≤ 255:=by omega
   have hpe:((1 + v:Nat):Int) = 1 + (v:Int):=by omega
   have HC:=hid (htake_any wr x m g (1 + v) HT.out (by omega) (by omega) (by omega))
   rw [hpe] at HC
   have HPE:=hid hpe
   clear hc hb hve hpe
   go_wp2_with fail
   refine HC.out.mono ?_
   rintro e w4 ⟨t,m1,g1,rfl,hT4,hgt,hor,hk4⟩
   have hM4:=HM.out.keep hk4 (fun h => (HX.out sb h).2 rfl)
   have HK4:Hid (Keeps [] W w4):=hid (HK.out.new hk4 (fun b hb => .inr (HX.out b hb).1))
   have hbd:=hT4.bd t (by omega)
   have hm1:m1 ≤ m + 1:=by rcases hor with h | h <;> omega
   have hS4:SeenI S m1 g1:=by
    rcases hor with ⟨rfl,rfl⟩ | ⟨_,rfl,rfl,_⟩
    ·exact HS.out
    ·exact HS.out.more
   have hti:(t:Int) ≤ 200:=by omega
   have ht1:(1:Int) ≤ (t:Int):=by omega
   obtain ⟨q,b1,hRL,hqb⟩:∃ (q:Int) (b1:Bool),(Instr.lookup 32 (.map (some sb)) (.int .i64 (t:Nat)) true).run Tryz.prog w4 = .ok (.tuple #[.int .i64 q, .bool b1]) w4 ∧ (b1 = true → q = 1 + (v:Int)):=by
    rw [hM4.lookup Tryz.underlying32 Tryz.underlying3 (zeroI w4) (t:Nat) true]
    cases hs:S (t:Nat) with
    | none => exact ⟨0,false,rfl,fun h => by cases h⟩
    | some u =>
     obtain ⟨n',s,h1,h2,rfl,h4⟩:=hS4 _ _ hs
     obtain rfl:t = n':=by omega
     refine ⟨(s:Nat),true,rfl,fun _ => ?_⟩
     have:=h4 (by omega)
     omega
   have HT4:=hid hT4
   have HM4:=hid hM4
   have HS4:=hid hS4
   have HQ:=hid hqb
   have HG:=hid (And.intro hgt (And.intro hbd hm1))
   clear hT4 hM4 hS4 hgt hor hk4 hbd hm1 HC hqb d0
   go_upto_region 12 with fail
   go_cut [49] from 38 to 49 (fun s49 wx => s49 = .bool false ∧ wx = w4)
   case first =>
    cases b1 with
    | false =>
     go_wp2_with fail
     go_meet
     exact ⟨by rw [decide_eq_false (by omega)],rfl⟩
    | true =>
     have hq:=HQ.out rfl
     subst hq
     go_wp2_with fail
     go_meet
     exact ⟨by rw [decide_eq_false (by omega)],rfl⟩
   case rest =>
    obtain ⟨rfl,rfl⟩:=hcut
    have hM4:=HM4.out
    clear hRL
    go_wp2_with (at_mapUpdate; refine wpList_update_at rfl _ _ _ _ rfl 3 3 Tryz.underlying32 Tryz.underlying3 sb _ rfl hM4 (t:Nat) (.int .i64 (1 + (v:Int))) rfl rfl ?_; intro w5 hm5 hk5; have HM5:=hid hm5; have HK5:=hid hk5; clear hm5 hk5 hM4)
    ·have HT5:=hid (HT4.out.keep HK5.out (fun b hb h => (HX.out b hb).2 (List.mem_singleton.1 h)))
     have HD:=hid (hdrop_at w5 x m1 g1 (t:Nat) HT5.out)
     rw [Int.toNat_natCast,if_pos (by omega)] at HD
     refine HD.out.mono ?_
     rintro e w6 ⟨rfl,hT6,hk6⟩
     have hno:∀ i,upd g1 t 0 i ≠ 1 + v:=fun i hi => by
      by_cases hit:i = t
      ·rw [hit,upd_on] at hi; omega
      ·rw [upd_off hit] at hi
       exact hit (HT5.out.uq (by rw [hi,HG.out.1]) (by omega))
     have HC:=hid (htake_new w6 x m1 _ (1 + v) hT6 hno (by omega) (by omega) (by have:=HG.out; omega))
     have hme:((m1 + 1:Nat):Int) = (m1:Int) + 1:=by omega
     rw [HPE.out,hme] at HC
     have hm6:=HM5.out.keep hk6 (fun h => by
      simp only [List.mem_cons,List.not_mem_nil,or_false] at h
      rcases h with h | h
      ·exact (HX.out x.p (by simp)).2 h.symm
      ·exact (HX.out x.n (by simp)).2 h.symm)
     have HM6:=hid hm6
     have HK6:Hid (Keeps [] W w6):=hid ((HK4.out.new HK5.out (fun b hb => .inr (by rw [List.mem_singleton.1 hb]; exact HSB.out))).new hk6 (fun b hb => .inr (HX.out b (by simp only [List.mem_cons,List.not_mem_nil,or_false] at hb ⊢; exact .inr hb)).1))
     have hlt2:¬ ((m1:Int) + 1 ≤ (t:Int)):=by have:=HG.out; omega
     have hm1i:(m1:Int) ≤ 200:=by have:=HG.out; omega
     clear hT6 hk6 hno hme HD hm6
     go_wp2_with fail
     refine HC.out.mono ?_
     rintro e w7 ⟨rfl,hT7,hk7⟩
     have HT7:=hid hT7
     have HM7:=hid (HM6.out.keep hk7 (fun h => (HX.out sb h).2 rfl))
     have HK7:Hid (Keeps [] W w7):=hid (HK6.out.new hk7 (fun b hb => .inr (HX.out b hb).1))
     clear hT7 hk7 HC
     go_wp2_with fail
     go_roundg (n - (k + 1))
     case measure => omega
     case rel =>
      refine ⟨k + 1,m1 + 1,_,_,by omega,by go_num,HT7.out,HM7.out, ?_,by have:=HG.out; omega,HK7.out⟩
      have h1:=((HS4.out.set HG.out.2.1.2.1 HG.out.1).drop (t:=t)).more (p:=1 + v)
      rw [HPE.out] at h1
      exact h1
    ·go_roundg (n - (k + 1))
     case measure => omega
     case rel =>
      refine ⟨k + 1,m1,g1,_,by omega,by go_num,HT4.out.keep HK5.out (fun b hb h => (HX.out b hb).2 (List.mem_singleton.1 h)),HM5.out, ?_,by have:=HG.out; omega,HK4.out.new HK5.out (fun b hb => .inr (by rw [List.mem_singleton.1 hb]; exact HSB.out))⟩
      have h1:=HS4.out.set HG.out.2.1.2.1 HG.out.1
      rw [HPE.out] at h1
      exact h1
  ·obtain rfl:k = n:=by omega
   clear HT HM HS
   go_wp2_with fail
   go_ret
   exact ⟨rfl,HK.out.below (Nat.le_refl _) (by simp)⟩
theorem handleApart_walk (y:Option Addr) (n cp:Nat) (f:Nat → Int) (d:Int) (W:World) (R:ReadsV (Value.int .u8) W y n f) (hw:∀ i,i < n → (Lit.int .u8 (f i)).wf = true) (_:n ≤ maxLen) (wd:(Lit.int .u8 d).wf = true) :
  Calls Tryz.prog 4 #[.slice y n cp, .int .u8 d] W fun e w' => e = .returned (.bool true) ∧ Below W.heap.size W w':=by
 have hd:=bounds_u8 wd
 obtain ⟨d0,rfl⟩:∃ d0:Nat,d = (d0:Int):=⟨d.toNat,by omega⟩
 by_cases hn:60 < n
 ·exact hapart_great y n cp W d0 hn
 ·exact hapart_small y n cp _ W (readsB_any R hw) d0 (by omega) (by omega)
end Go.Proofs.YtglpoffbkkdjiaaGreat
