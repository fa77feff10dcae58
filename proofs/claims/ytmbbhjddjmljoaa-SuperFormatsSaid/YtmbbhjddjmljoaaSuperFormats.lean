/- The walk of the law SuperFormats. -/
import Derived.Test.YtmbbhjddjmljoaaLaw5
namespace Go.Proofs.Ytmbbhjddjmljoaa
open Go.RowKit Go.OpenShut

set_option maxHeartbeats 400000 in
theorem sf1_at (w : World) (b : Nat) (bits : Int) (i : Nat) (h : At w b (wordO bits)) (hi : i ≤ 17592186044416) :
    Calls Try.prog 14 #[.int .i64 i, ptr b] w fun e w' => e = .returned (.int .u8 (chV bits i)) ∧ w = w' := by
  have c1 := h.cell 0 rfl
  go_enter Try.func14, Try.ntmps14
  go_wp2_with fail
  refine (choice_at w bits i hi).mono ?_
  rintro e w1 ⟨rfl, rfl⟩
  go_wp2
  go_ret
  exact ⟨rfl, rfl⟩

theorem sf1_chooser (b : Nat) (bits : Int) (n : Nat) (hn : n ≤ 17592186044416) :
    Chooser 14 #[ptr b] n (chV bits) [] [b] (fun _ w => At w b (wordO bits)) where
  inv := fun w i => by simp [go_sem]
  call := fun i w hi h => (sf1_at w b bits i h (by omega)).mono fun e w' ⟨he, hw⟩ => ⟨he, by rw [← hw]; exact h, by rw [← hw]; exact Keeps.refl _ _⟩
  keep := fun _ w w' S h hk hs => hk.at h (hs b (by simp))
  low := chV_low bits

/-- What is kept as it stands is left so. -/
theorem left_kept {S : DS} {j : Nat} (hi : ∀ k, S.is k = false) (hk : S.kept j = S.now j) (x : Int) : leftV S j x = S.now j := by
  rcases left_cases S j x with e | e | ⟨e, _⟩
  · exact e
  · rw [e, hk]
  · rw [hi] at e; cases e

set_option maxRecDepth 100000 in
set_option maxHeartbeats 2000000 in
theorem formats_great (l r s : Nat) (x : Option Addr) (n cp : Nat) (bits : Int) (W : World) (hn : 30 < n) :
    Calls Try.prog 3 #[c3V l r s, .slice x n cp, .int .u64 bits] W fun e w' => e = .returned (.bool true) ∧ Below W.heap.size W w' := by
  go_enter Try.func3, Try.ntmps3
  go_wp2_with fail
  refine (awake5_any _).mono ?_
  rintro e w1 ⟨rfl, hb1⟩
  have K1 := Go.Proofs.Ytmbbhjddjmljoaa.Below.keeps hb1 []
  go_wp2_with fail
  go_ret
  exact ⟨rfl, ((((Keeps.refl [] W).alloc _).alloc _).trans K1).below (Nat.le_refl _) (by simp)⟩

set_option maxRecDepth 100000 in
set_option maxHeartbeats 4000000 in
theorem formats_small (l r s : Nat) (x : Option Addr) (n cp : Nat) (f : Nat → Int) (bits : Int) (W : World) (hl : l ≤ 65535) (hr : r ≤ 65535) (hs : s ≤ 65535) (hn : n ≤ 30) (hR : Reads W x n f) :
    Calls Try.prog 3 #[c3V l r s, .slice x n cp, .int .u64 bits] W fun e w' => e = .returned (.bool true) ∧ Below W.heap.size W w' := by
  have g1 : decide (30 < n) = false := by rw [decide_eq_false_iff_not]; omega
  have g2 : decide (30 < (n : Int)) = false := by rw [decide_eq_false_iff_not]; omega
  have HR := hid hR
  clear hR
  go_enter Try.func3, Try.ntmps3
  go_wp2_with fail
  have hB0 := (At.new W (c3O l r s)).alloc (wordO bits)
  have hV0 := At.new (W.alloc (c3O l r s)) (wordO bits)
  have K0 := ((Keeps.refl [] W).alloc (c3O l r s)).alloc (wordO bits)
  rw [show (W.alloc (c3O l r s)).heap.size = W.heap.size + 1 by simp] at hV0
  refine (awake5_any _).mono ?_
  rintro e w1 ⟨rfl, hb1⟩
  have k1 := Go.Proofs.Ytmbbhjddjmljoaa.Below.keeps hb1 []
  have K1 := K0.trans k1
  have hB1 := k1.at hB0 (by simp)
  have hV1 := k1.at hV0 (by simp)
  clear hb1 k1 hB0 hV0 K0
  have c0 : w1.cell? ⟨W.heap.size, 0, none⟩ = some (.int .u16 l) := hB1.cell 0 rfl
  have c1 : w1.cell? ⟨W.heap.size, 1, none⟩ = some (.int .u16 r) := hB1.cell 1 rfl
  have c2 : w1.cell? ⟨W.heap.size, 2, none⟩ = some (.int .u16 s) := hB1.cell 2 rfl
  go_wp2_with fail
  refine (make3_at w1 l r s hl hr hs).mono ?_
  rintro e w2 ⟨rfl, hk2⟩
  have K2 := K1.trans hk2
  have hV2 := hk2.at hV1 (by simp)
  have hok := mk3_ok l r s
  obtain ⟨c, hc⟩ : ∃ c, c = mk3 l r s := ⟨_, rfl⟩
  rw [← hc] at hok ⊢
  clear hc c0 c1 c2 hB1 hV1 hk2 K1
  go_wp2_with fail
  have hC3 := At.new w2 (cfgO c)
  have hV3 := hV2.alloc (cfgO c)
  have K3 := K2.alloc (cfgO c)
  have hvc : W.heap.size + 1 < w2.heap.size := hV2.lt
  obtain ⟨cb, hcb⟩ : ∃ cb, cb = w2.heap.size := ⟨_, rfl⟩
  rw [← hcb] at hC3 hvc ⊢
  have HCB := hid hcb
  clear hcb hV2 K2
  refine (formatted_at _ c hok x n cp f (HR.out.keep K3 (by simp)) hn).mono ?_
  rintro e w4 ⟨p, a, u, S, rfl, haN, hP, hu, hW, hkp, his, ⟨b1, b2, b3, b4, b5⟩, hk4⟩
  simp only [World.size_alloc] at b1 b2 b3 b4 b5
  rw [← HCB.out] at b1 b2 b3 b4 b5
  have hC4 := hk4.at hC3 (by simp)
  have hV4 := hk4.at hV3 (by simp)
  have K4 := K3.trans hk4
  have z3 := K3.size
  have HN := hid haN
  have HO := hid hok
  have HK := hid hkp
  have HI := hid his
  have HW := hid hW
  clear haN hok hkp his hW hC3 hV3 K3 hk4
  have c0 := hC4.cell 0 rfl
  have c1 := hC4.cell 1 rfl
  have c2 := hC4.cell 2 rfl
  go_wp2_with fail
  refine (whole_true w4 p a S c hP.dev HO.out HN.out HW.out).mono ?_
  rintro e w5 ⟨rfl, hk5⟩
  have hP5 := hP.keep0 hk5
  have hC5 := hk5.at hC4 (by simp)
  have hV5 := hk5.at hV4 (by simp)
  have K5 := K4.trans hk5
  clear c0 c1 c2 hP hC4 hV4 K4 hk5
  have hnb : a.n ≤ 17592186044416 := by have := hP5.dev.few; have := a.n8; omega
  have hvl := hV5.lt
  have HCR := hid (crash_plain w5 p a S hP5.dev _ #[ptr (W.heap.size + 1)] (chV bits) [W.heap.size + 1] _ (sf1_chooser (W.heap.size + 1) bits a.n hnb) hV5 (by simp; omega) (by simp; omega))
  go_wp2_with fail
  refine HCR.out.mono ?_
  rintro e w6 ⟨rfl, hD6, _, hk6⟩
  have K6 : Keeps [] W w6 := K5.new hk6 (by simp; omega)
  have hC6 := hk6.at hC5 (by simp; omega)
  have hW6 : WholeF c (fun i => leftV S i (chV bits i % 3)) := HW.out.congr HO.out fun j hj => left_kept HI.out (HK.out j (by rw [← HN.out]; exact hj)) _
  have HW6 := hid hW6
  clear hW6 hk6 HCR hP5 hC5 hV5 K5
  go_wp2_with fail
  refine (read_whole w6 p a _ c hD6 HO.out HN.out HW6.out).mono ?_
  rintro e w7 ⟨rfl, hk7⟩
  have hD7 := hD6.keep hk7 (by simp) (by simp) (by simp) (by simp)
  have hC7 := hk7.at hC6 (by simp)
  have K7 := K6.trans hk7
  have hD8 := hD7.keep ((Keeps.refl [] w7).alloc (cfgO c)) (by simp) (by simp) (by simp) (by simp)
  have hC8 := hC7.alloc (cfgO c)
  have hG8 := At.new w7 (cfgO c)
  have K8 := K7.alloc (cfgO c)
  have hcl : cb < w7.heap.size := hC7.lt
  clear hD6 hC6 K6 hk7
  have c0 := hC8.cell 0 rfl
  have c1 := hC8.cell 1 rfl
  have c2 := hC8.cell 2 rfl
  go_wp2_with fail
  refine (whole_true _ p a _ c hD8 HO.out HN.out HW6.out).mono ?_
  rintro e w9 ⟨rfl, hk9⟩
  have hC9 := hk9.at hC8 (by simp)
  have hG9 := hk9.at hG8 (by simp)
  have K9 := K8.trans hk9
  clear c0 c1 c2 hC8 hG8 K8 hk9
  have c0 := hC9.cell 0 rfl
  have c1 := hC9.cell 1 rfl
  have c2 := hC9.cell 2 rfl
  have d0 := hG9.cell 0 rfl
  have d1 := hG9.cell 1 rfl
  have d2 := hG9.cell 2 rfl
  go_wp2_with fail
  go_ret
  exact ⟨rfl, K9.below (Nat.le_refl _) (by simp)⟩

theorem superFormats_walk (l r s : Int) (x : Option Addr) (n cp : Nat) (f : Nat → Int) (bits : Int) (W : World) (wl : (Lit.int .u16 l).wf = true) (wr : (Lit.int .u16 r).wf = true) (ws : (Lit.int .u16 s).wf = true)
    (R0 : ReadsV (Value.int .u64) W x n f) (_ : ∀ i, i < n → (Lit.int .u64 (f i)).wf = true) (_ : n ≤ maxLen) (_ : (Lit.int .u64 bits).wf = true) :
    Calls Try.prog 3 #[.agg #[.int .u16 l, .int .u16 r, .int .u16 s], .slice x n cp, .int .u64 bits] W fun e w' => e = .returned (.bool true) ∧ Below W.heap.size W w' := by
  obtain ⟨l, rfl, hl⟩ := c3_open wl
  obtain ⟨r, rfl, hr⟩ := c3_open wr
  obtain ⟨s, rfl, hs⟩ := c3_open ws
  by_cases hn : 30 < n
  · exact formats_great l r s x n cp bits W hn
  · exact formats_small l r s x n cp f bits W hl hr hs (by omega) R0.words

end Go.Proofs.Ytmbbhjddjmljoaa
