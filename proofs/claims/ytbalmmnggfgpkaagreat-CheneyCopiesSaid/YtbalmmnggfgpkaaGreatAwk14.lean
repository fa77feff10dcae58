/- Layer 14's fixed fact. -/
import Derived.Test.YtbalmmnggfgpkaaGreatAwk13
import Derived.Test.YtbalmmnggfgpkaaGreatLka
import Derived.Deep.RegionHeld3
namespace Go.Proofs.YtbalmmnggfgpkaaGreat
open Go.RowKit Go.OpenShut

theorem fld_act (w : World) (k u : Int) (rs : Value) : (Instr.field 33 (bkV k u rs) 0).run Tryz.prog w = .ok (.int .i64 k) w := by kernel_rfl
theorem fld_used (w : World) (k u : Int) (rs : Value) : (Instr.field 33 (bkV k u rs) 1).run Tryz.prog w = .ok (.int .i64 u) w := by kernel_rfl

set_option maxRecDepth 100000 in
set_option maxHeartbeats 4000000 in
theorem awake14_any {Col : CP → World → Nat → List Nat → Nat → Prop} (C : ColK Col) (w : World) : Calls Tryz.prog 8 #[] w fun e w' => e = .returned (.bool true) ∧ Below w.heap.size w w' := by
  go_enter Tryz.func8, Tryz.ntmps8
  go_wp2_with fail
  refine (awake13_any _).mono ?_
  rintro e w1 ⟨rfl, hb1⟩
  have K1 : Keeps [] w w1 := Go.Proofs.YtbalmmnggfgpkaaGreat.Below.keeps hb1 []
  clear hb1
  have hos : [(1, 0)] = fillL (mk3 0 0 40).space (hdsL (fun _ => 0) (fun i => i + 1) 1) := by decide
  have hok := mk3_ok 0 0 40
  obtain ⟨c, hc⟩ : ∃ c, c = mk3 0 0 40 := ⟨_, rfl⟩
  rw [← hc] at hos hok
  have HO := hid hok
  have HC := hid hc
  have HOS := hid hos
  clear hok hc hos
  go_wp2_with fail
  have hH2 := At.new w1 (.cells #[.int .u8 0, .int .u8 1] 69)
  have hy : ReadsH (w1.alloc (.cells #[.int .u8 0, .int .u8 1] 69)) (some ⟨w1.heap.size, 0, none⟩) 1 (fun _ => 0) (fun i => i + 1) :=
    .inr ⟨w1.heap.size, 0, rfl, hH2.lt, fun i hi => by
      obtain rfl : i = 0 := by omega
      exact ⟨hH2.cell 0 rfl, hH2.cell 1 rfl, by decide, by decide⟩⟩
  have K2 := K1.alloc (.cells #[.int .u8 0, .int .u8 1] 69)
  refine (linked_at _ 0 0 40 (by omega) (by omega) (by omega) _ 1 1 (fun _ => 0) (fun i => i + 1) hy (by omega) none 0 0 (fun _ => 0) (.inl rfl) (by omega) 0 (by omega) c HC.out [(1, 0)] HOS.out).mono ?_
  rintro e w3 ⟨p, a, u, S, x, cp, y, cy, B, rfl, hn, hP, hub, hL, hU, hI, hb, hB, hk3⟩
  have K3 := K2.trans hk3
  have hl1 : ([(1, 0)] : List (Nat × Nat)).length = 1 := rfl
  have hUl : (lenL [(1, 0)] : Nat) = 2 := rfl
  have hos : c.frm 0 + lenL [(1, 0)] ≤ 1000000 := by
    have := frm_le HO.out.small (show 0 ≤ 2 by omega)
    omega
  obtain ⟨P, hPq⟩ : ∃ P : CP, P = ⟨p, a, S, c, 0, lenL [(1, 0)], [0], wsN c.roots fun j => lnkG c [(1, 0)] (fun _ => 0) 0 0 (refL [(1, 0)] + j)⟩ := ⟨_, rfl⟩
  have hPok : P.Ok := by rw [hPq]; exact ok14 p HO.out hn hL (nmdP_start S c _) [0] (by simp) (by simp)
  have hPLS : P.LS = [] := by rw [hPq]; exact rcF_nought _ _ _ _
  have hPN : P.N = 2 := by unfold CP.N; rw [hPLS, hPq]; rfl
  rw [hl1, hUl]
  have HPQ := hid hPq
  have HPO := hid hPok
  have HLS := hid (And.intro hPLS hPN)
  have HP := hid hP
  have HU := hid hU
  have HK3 := hid K3
  have HUB := hid hub
  have HW : Hid (∀ b ∈ [p, a.d, a.s, a.k, a.m], w.heap.size ≤ b ∧ b < w3.heap.size) := fun b hb' => by
    have h1 := K2.size
    have h2 := hP.pow.lt
    have h3 := hP.dev.dev.lt
    have h4 := hP.dev.now.lt
    have h5 := hP.dev.kept.lt
    have h6 := hP.dev.map.lt
    simp only [List.mem_cons, List.not_mem_nil, or_false] at hb'
    omega
  have HGW := hid (lnkG_low c [(1, 0)] (fun _ => 0) 0 hos)
  clear hy hH2 K1 K2 hk3 hb hB hI hL hU hP hn hub hos hPq hPok hPLS hPN K3 hl1 hUl
  go_upto_region 6 with fail
  obtain ⟨cb, hcb⟩ : ∃ cb, cb = w3.heap.size := ⟨_, rfl⟩
  obtain ⟨w4, hw4⟩ : ∃ w4, w4 = (w3.alloc (cfgO c)).alloc (bkO 0 2 (.slice x c.roots cp)) := ⟨_, rfl⟩
  have hC4 : At w4 cb (cfgO c) := by rw [hw4, hcb]; exact (At.new w3 _).alloc _
  have hB4 : At w4 (cb + 1) (bkO 0 2 (.slice x c.roots cp)) := by
    have := At.new (w3.alloc (cfgO c)) (bkO 0 2 (.slice x c.roots cp))
    rw [World.size_alloc] at this
    rw [hw4, hcb]; exact this
  have k34 : Keeps [] w3 w4 := by rw [hw4]; exact ((Keeps.refl [] w3).alloc _).alloc _
  rw [← hw4, ← hcb]
  clear hw4 hcb
  have k45 : Keeps [] w4 (w4.alloc (.cells #[.int .u64 0] 40)) := (Keeps.refl _ _).alloc _
  have h0 := At.new w4 (.cells #[.int .u64 0] 40)
  have hfP : P.p = p ∧ P.a = a ∧ P.S = S ∧ P.c = c ∧ P.k = 0 ∧ P.us = 2 ∧ P.ws = [0] ∧ P.rs.length = c.roots := by rw [HPQ.out]; exact ⟨rfl, rfl, rfl, rfl, rfl, rfl, rfl, wsN_len _ _⟩
  obtain ⟨q1, q2, q3, q4, q5, q6, q7, q8⟩ := hfP
  have hnew := C.new P (w4.alloc (.cells #[.int .u64 0] 40)) HPO.out (by rw [q1, q2, q3]; exact HP.out.dev.keep (k34.trans k45) (by simp) (by simp) (by simp) (by simp)) x cp (by
      rw [HPQ.out]
      refine reads_ws ((HU.out.rd).keep (k34.trans k45) (by simp)) fun j _ => ?_
      obtain ⟨v, h1, _⟩ := HGW.out (refL [(1, 0)] + j)
      rw [h1]
      omega) (some ⟨w4.heap.size, 0, none⟩) 1 (by
      rw [q7]
      exact .inr ⟨w4.heap.size, 0, rfl, h0.lt, fun i hi => by
        obtain rfl : i = 0 := by have : [0].length = 1 := rfl; omega
        exact h0.cell 0 rfl⟩)
  rw [q2, q4, q5, q6, q7, q8] at hnew
  have HNEW := hid hnew
  have HQ := hid (And.intro q1 (And.intro q2 (And.intro q3 (And.intro q4 (And.intro q5 (And.intro q6 (And.intro q7 q8)))))))
  have HK5 := hid (k34.trans k45)
  have c0 := hC4.cell 0 rfl
  have c1 := hC4.cell 1 rfl
  have c2 := hC4.cell 2 rfl
  have b0 := hB4.cell 0 rfl
  have b1 := hB4.cell 1 rfl
  have b2 := hB4.cell 2 rfl
  clear hnew k34 k45 h0 q1 q2 q3 q4 q5 q6 q7 q8 hC4 hB4
  go_wp2_with fail
  refine HNEW.out.mono ?_
  rintro e w6 ⟨xb, T, rfl, hCol, hT, hk56⟩
  have HK6 : Hid (Keeps [] w3 w6) := HK5.out.trans hk56
  have HT6 : Hid (∀ b ∈ T, b ∉ [P.p, P.a.d, P.a.s, P.a.k, P.a.m] ∧ w3.heap.size ≤ b) := fun b hb => by
    have h1 := hT b hb
    have h2 := HK5.out.size
    rw [HQ.out.1, HQ.out.2.1]
    exact ⟨fun h => by have := (HW.out b h).2; omega, by omega⟩
  have HCOL := hid hCol
  clear hCol hT hk56 HNEW c0 c1 c2 b0 b1 b2
  have HST := hid (C.step HCOL.out (u := u) (S := S) (by rw [HQ.out.1, HQ.out.2.1]; exact HP.out.keep0 HK6.out) (by have := HUB.out; omega) (by have := P.at_start; rwa [HQ.out.2.2.1] at this) (fun b hb => (HT6.out b hb).1) (by rw [HLS.out.2]; omega))
  go_wp2_with fail
  refine HST.out.mono ?_
  rintro e w7 ⟨T7, u7, S7, rfl, hCol7, hP7, hat7, _, hu7, hT7, hk67⟩
  have HT67 : Hid (∀ b ∈ T7, b ∉ [P.p, P.a.d, P.a.s, P.a.k, P.a.m] ∧ w3.heap.size ≤ b) := fun b hb => by
    rcases hT7 b hb with h | h
    · exact HT6.out b h
    · have h1 := HK6.out.size
      rw [HQ.out.1, HQ.out.2.1]
      exact ⟨fun h => by have := (HW.out b h).2; omega, by omega⟩
  have hlow : ∀ T : List Nat, (∀ b ∈ T, b ∉ [P.p, P.a.d, P.a.s, P.a.k, P.a.m] ∧ w3.heap.size ≤ b) → ∀ b ∈ T ++ [P.p, P.a.s, P.a.k, P.a.m], b ∈ ([] : List Nat) ∨ w.heap.size ≤ b := fun T hT b hb => by
    have h1 := HK3.out.size
    rcases List.mem_append.1 hb with h | h
    · have := (hT b h).2
      exact .inr (by omega)
    · rw [HQ.out.1, HQ.out.2.1] at h
      refine .inr (HW.out b ?_).1
      simp only [List.mem_cons, List.not_mem_nil, or_false] at h ⊢
      omega
  have HK7 : Hid (Keeps [] w w7) := (HK3.out.trans HK6.out).new hk67 (hlow T HT6.out)
  have HSZ : Hid (w3.heap.size ≤ w7.heap.size) := Nat.le_trans HK6.out.size hk67.size
  have HLOW := hid hlow
  have hd1 : decide (0 + 1 = P.N) = false := by rw [HLS.out.2]; rfl
  rw [hd1]
  have HST2 := hid (C.step hCol7 hP7 (by have := HUB.out; omega) hat7 (fun b hb => (HT67.out b hb).1) (by rw [HLS.out.2]; omega))
  clear hCol7 hP7 hat7 hu7 hT7 hk67 HST hlow hd1
  go_wp2_with fail
  refine HST2.out.mono ?_
  rintro e w8 ⟨T8, u8, S8, rfl, hCol8, _, _, _, _, _, hk78⟩
  have HK8 : Hid (Keeps [] w w8) := HK7.out.new hk78 (HLOW.out T7 HT67.out)
  have hd1 : decide (0 + 1 + 1 = P.N) = true := by rw [HLS.out.2]; rfl
  rw [hd1]
  have hcs : P.cs (0 + 1 + 1) = [] := by rw [P.cs_end (by rw [HLS.out.1, HQ.out.2.2.2.2.2.2.1]; exact Nat.le_succ 1), HLS.out.1]
  have HBL : Hid (∀ w', Keeps [] w8 w' → Calls Tryz.prog 17 #[ptr xb] w' fun e w'' => (∃ y cy, e = .returned (bkV 1 0 (.slice y c.roots cy))) ∧ Keeps [] w' w'') := fun w' hk => by
    refine (C.block (C.keep hCol8 hk (by simp))).mono ?_
    rintro e w'' ⟨y, cy, rfl, _, hk'⟩
    rw [hcs, HQ.out.2.2.2.2.1, HQ.out.2.2.2.2.2.2.2]
    exact ⟨⟨y, cy, rfl⟩, hk'⟩
  clear hCol8 hk78 HST2 hd1 hcs
  have hf1 := fld_act
  have hf2 := fld_used
  go_wp2_with fail
  refine (HBL.out _ (Keeps.refl _ _)).mono ?_
  rintro e w9 ⟨⟨y9, cy9, rfl⟩, hk9⟩
  go_wp2_with fail
  refine (HBL.out _ hk9).mono ?_
  rintro e w10 ⟨⟨y10, cy10, rfl⟩, hk10⟩
  have HE : Hid (Below w.heap.size w w10) := ((HK8.out.trans hk9).trans hk10).below (Nat.le_refl _) (by simp)
  clear hk9 hk10
  go_wp2_with fail
  go_ret
  exact ⟨rfl, HE.out⟩

end Go.Proofs.YtbalmmnggfgpkaaGreat

