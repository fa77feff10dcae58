import Derived.Test.YtglpoffbkkdjiaaGreatLw16
namespace Go.Proofs.YtglpoffbkkdjiaaGreat
open Go.RowKit Go.OpenShut
set_option maxRecDepth 100000 in
set_option maxHeartbeats 1000000 in
theorem hrises_great (y:Option Addr) (n cp:Nat) (W:World) (hn:60 < n) :
  Calls Tryz.prog 6 #[.slice y n cp] W fun e w' => e = .returned (.bool true) ∧ Below W.heap.size W w':=by
 have hn2:(60:Int) < (n:Int):=by omega
 go_enter Tryz.func6,Tryz.ntmps6
 go_wp2_with fail
 refine (awake16_any _).mono ?_
 rintro e w1 ⟨rfl,hb1⟩
 go_wp2_with fail
 go_ret
 exact ⟨rfl,hb1⟩
set_option maxRecDepth 100000 in
set_option maxHeartbeats 4000000 in
theorem hrises_small (y:Option Addr) (n cp:Nat) (F:Nat → Nat) (W:World) (hR:ReadsB W y n F) (hn:n ≤ 60) :
  Calls Tryz.prog 6 #[.slice y n cp] W fun e w' => e = .returned (.bool true) ∧ Below W.heap.size W w':=by
 have hmk:=fun w:World => run_makeMap (P:=Tryz.prog) (w:=w) 32
 have hn2:(n:Int) ≤ 60:=by omega
 have HR:=hid hR
 clear hR
 go_enter Tryz.func6,Tryz.ntmps6
 go_wp2_with fail
 refine (awake16_any _).mono ?_
 rintro e w1 ⟨rfl,hb1⟩
 have K1:Keeps [] W w1:=Go.Proofs.YtglpoffbkkdjiaaGreat.Below.keeps hb1 []
 clear hb1
 go_wp2_with fail
 refine (hnew_at w1).mono ?_
 rintro e w2 ⟨x,rfl,hT2,hk2,hx⟩
 have hal:=Keeps.alloc (Keeps.refl [] w2) (.map #[] 0)
 have hT3:=hT2.keep hal (by simp)
 have hM3:=IMap.made w2
 have K3:=(K1.trans hk2).trans hal
 have HX:Hid (∀ b ∈ x.bl,W.heap.size ≤ b ∧ b ≠ w2.heap.size):=fun b hb => ⟨Nat.le_trans K1.size (hx b hb),by have:=hT2.lt b hb; omega⟩
 have HSB:Hid (W.heap.size ≤ w2.heap.size):=(K1.trans hk2).size
 obtain ⟨sb,hsb⟩:∃ sb,sb = w2.heap.size:=⟨_,rfl⟩
 obtain ⟨w3,hw3⟩:∃ w3,w3 = w2.alloc (.map #[] 0):=⟨_,rfl⟩
 go_upto_region 7 with fail
 rw [← hsb] at HX HSB hM3 ⊢
 rw [← hw3] at hT3 hM3 K3 ⊢
 have HT3:=hid hT3
 have HM3:=hid hM3
 have HK3:=hid K3
 clear hsb hw3 hT2 hk2 hx hal hT3 hM3 K1 K3 hmk
 go_wp2_with fail
 go_loopg [5,7,8,9,10,21] n (fun r s5 s7 s8 s9 s10 s21 wr => ∃ (k m:Nat) (g:Nat → Nat),k + r = n ∧ s21 = .int .i64 k ∧ s5 = .int .i64 m ∧ TabW wr x m g ∧ (∃ E,IMap wr sb E ∧ Pl g E) ∧ (∀ i,1 ≤ i → i ≤ m → g i ≠ 0) ∧ m ≤ k ∧ Keeps [] W wr)
 case atStart => exact ⟨0,0,fun _ => 0,by omega,rfl,rfl,HT3.out,⟨_,HM3.out,pl_nil⟩,fun i h1 h2 => by omega,by omega,HK3.out⟩
 case round =>
  obtain ⟨k,m,g,hk,rfl,rfl,hT,⟨E,hE,hPl⟩,hful,hmk,hK⟩:=hrel
  have HT:=hid hT
  have HE:=hid hE
  have HPL:=hid hPl
  have HF:=hid hful
  have HK:=hid hK
  clear hT hE hPl hful hK
  by_cases hlt:k < n
  ·have hlti:(k:Int) < (n:Int):=by omega
   obtain ⟨b,off,rfl,hb,hc⟩:=(HR.out.keep HK.out (by simp)).1.resolve_left (by omega)
   have d0:=hc k hlt
   have hv:=HR.out.2 k
   obtain ⟨v,hve⟩:∃ v,v = F k:=⟨_,rfl⟩
   rw [← hve] at d0 hv
   have hvi:(v:Int) ≤ 255:=by omega
   have hpe:((1 + v:Nat):Int) = 1 + (v:Int):=by omega
   clear hc hb hve
   by_cases hex:∃ i,g i = 1 + v
   ·obtain ⟨i,hi⟩:=hex
    have hi0:g i ≠ 0:=by omega
    have hbd:=HT.out.bd i hi0
    have HC:=hid (htake_had wr x m g i (1 + v) HT.out hi (by omega))
    rw [hpe] at HC
    have hRL:(Instr.lookup 32 (.map (some sb)) (.int .i64 (1 + (v:Int))) true).run Tryz.prog wr = .ok (.tuple #[.int .i64 (i:Nat), .bool true]) wr:=by
     rw [← hpe,HE.out.lookup Tryz.underlying32 Tryz.underlying3 (zeroI wr) (1 + v:Nat) true, ← hi,HPL.out.1 i hi0]
     rfl
    clear hi hi0 hbd hpe
    go_wp2_with fail
    refine HC.out.mono ?_
    rintro e w4 ⟨rfl,rfl⟩
    go_wp2_with fail
    go_roundg (n - (k + 1))
    case measure => omega
    case rel => exact ⟨k + 1,m,g,by omega,by go_num,rfl,HT.out,⟨E,HE.out,HPL.out⟩,HF.out,by omega,HK.out⟩
   ·have hno:∀ i,g i ≠ 1 + v:=fun i hi => hex ⟨i,hi⟩
    have HC:=hid (htake_new wr x m g (1 + v) HT.out hno (by omega) (by omega) (by omega))
    have hme:((m + 1:Nat):Int) = (m:Int) + 1:=by omega
    have hmi:(m:Int) ≤ 60:=by omega
    rw [hpe,hme] at HC
    have HNO:=hid hno
    have HPE:=hid (And.intro hpe hme)
    clear hex hno hpe hme
    go_wp2_with fail
    refine HC.out.mono ?_
    rintro e w4 ⟨rfl,hT4,hk4⟩
    have hE4:=HE.out.keep hk4 (fun h => (HX.out sb h).2 rfl)
    have HT4:=hid hT4
    have HK4:Hid (Keeps [] W w4):=hid (HK.out.new hk4 (fun b hb => .inr (HX.out b hb).1))
    have hRL:(Instr.lookup 32 (.map (some sb)) (.int .i64 (1 + (v:Int))) true).run Tryz.prog w4 = .ok (.tuple #[.int .i64 0, .bool false]) w4:=by
     rw [← HPE.out.1,hE4.lookup Tryz.underlying32 Tryz.underlying3 (zeroI w4) (1 + v:Nat) true,HPL.out.none (fun i _ => HNO.out i)]
     rfl
    clear hT4 hk4 HC d0
    go_wp2_with (at_mapUpdate; refine wpList_update_at rfl _ _ _ _ rfl 3 3 Tryz.underlying32 Tryz.underlying3 sb _ rfl hE4 (1 + (v:Int)) _ rfl rfl ?_; intro w5 hm5 hk5; have HM5:=hid hm5; have HK5:=hid hk5; clear hm5 hk5 hE4 hRL)
    go_roundg (n - (k + 1))
    case measure => omega
    case rel =>
     refine ⟨k + 1,m + 1,upd g (m + 1) (1 + v),by omega,by go_num,by rw [HPE.out.2],HT4.out.keep HK5.out (fun b hb h => (HX.out b hb).2 (List.mem_singleton.1 h)),⟨_,HM5.out, ?_⟩,fun i h1 h2 => ?_,by omega,HK4.out.new HK5.out (fun b hb => .inr (by rw [List.mem_singleton.1 hb]; exact HSB.out))⟩
     ·have h1:=HPL.out.set (k:=m + 1) (v:=1 + v) (by omega) HNO.out (by
       by_cases hz:g (m + 1) = 0
       ·exact hz
       ·have:=(HT.out.bd _ hz).2.1; omega)
      rw [HPE.out.1,HPE.out.2] at h1
      exact h1
     ·by_cases him:i = m + 1
      ·rw [him,upd_on]; omega
      ·rw [upd_off him]; exact HF.out i h1 (by omega)
  ·obtain rfl:k = n:=by omega
   have HL:=hid (numL_full HT.out.bd HF.out)
   have HC:=hid (hnumbers_at wr x m g HT.out)
   have hln:(numL m g).length = m:=by rw [HL.out,List.length_range']
   rw [hln] at HC
   have hmi:(m:Int) ≤ 60:=by omega
   clear hln
   go_wp2_with fail
   refine HC.out.mono ?_
   rintro e w4 ⟨y4,cp4,rfl,hO4,hk4⟩
   have HT4:=hid (HT.out.keep hk4 (by simp))
   have HK4:=hid (HK.out.trans hk4)
   have HS:=hid (isSorted_at w4 _ y4 m cp4 _ hO4 (fun i hi => by
    have h1:=List.pairwise_iff_getElem.1 (numL_rise m g) i (i + 1) (by rw [HL.out,List.length_range']; omega) (by rw [HL.out,List.length_range']; omega) (by omega)
    simp only [List.getD_eq_getElem?_getD]
    rw [List.getElem?_eq_getElem (by rw [HL.out,List.length_range']; omega),List.getElem?_eq_getElem (by rw [HL.out,List.length_range']; omega)]
    simp only [Option.getD_some]
    omega) (by omega))
   clear hO4 hk4 HC
   go_wp2_with fail
   refine HS.out.mono ?_
   rintro e w5 ⟨rfl,hk5⟩
   have hg0:g 0 = 0:=by
    by_cases hz:g 0 = 0
    ·exact hz
    ·have:=(HT4.out.bd _ hz).1; omega
   have hg1:g (m + 1) = 0:=by
    by_cases hz:g (m + 1) = 0
    ·exact hz
    ·have:=(HT4.out.bd _ hz).2.1; omega
   have HT5:=hid (HT4.out.keep hk5 (by simp))
   have HK5:=hid (HK4.out.trans hk5)
   have HD:=hid (hdrop_at w5 x m g ((m:Int) + 1) HT5.out)
   have e1:((m:Int) + 1).toNat = m + 1:=by omega
   have e2:decide (0 ≤ (m:Int) + 1 ∧ g (m + 1) ≠ 0) = false:=decide_eq_false (fun h => h.2 hg1)
   have e3:(if 0 ≤ (m:Int) + 1 then upd g (m + 1) 0 else g) = g:=by rw [if_pos (by omega),upd_same hg1]
   rw [e1,e2,e3] at HD
   have HG0:=hid hg0
   clear hk5 HS hg0 hg1 e1 e2 e3
   go_wp2_with fail
   refine HD.out.mono ?_
   rintro e w6 ⟨rfl,hT6,hk6⟩
   have HK6:Hid (Keeps [] W w6):=hid (HK5.out.new hk6 (fun b hb => .inr (HX.out b (by simp only [List.mem_cons,List.not_mem_nil,or_false] at hb ⊢; exact .inr hb)).1))
   have HD2:=hid (hdrop_at w6 x m g 0 hT6)
   have e2:decide (0 ≤ (0:Int) ∧ g (0:Int).toNat ≠ 0) = false:=decide_eq_false (fun h => h.2 HG0.out)
   rw [e2] at HD2
   clear hT6 hk6 HD e2
   go_wp2_with fail
   refine HD2.out.mono ?_
   rintro e w7 ⟨rfl,hT7,hk7⟩
   have HK7:Hid (Keeps [] W w7):=hid (HK6.out.new hk7 (fun b hb => .inr (HX.out b (by simp only [List.mem_cons,List.not_mem_nil,or_false] at hb ⊢; exact .inr hb)).1))
   clear hT7 hk7 HD2
   go_wp2_with fail
   go_ret
   exact ⟨rfl,HK7.out.below (Nat.le_refl _) (by simp)⟩
theorem handleRises_walk (y:Option Addr) (n cp:Nat) (f:Nat → Int) (W:World) (R:ReadsV (Value.int .u8) W y n f) (hw:∀ i,i < n → (Lit.int .u8 (f i)).wf = true) (_:n ≤ maxLen) :
  Calls Tryz.prog 6 #[.slice y n cp] W fun e w' => e = .returned (.bool true) ∧ Below W.heap.size W w':=by
 by_cases hn:60 < n
 ·exact hrises_great y n cp W hn
 ·exact hrises_small y n cp _ W (readsB_any R hw) (by omega)
end Go.Proofs.YtglpoffbkkdjiaaGreat
