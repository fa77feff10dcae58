/- The walk of the law SuperTwice. -/
import Derived.Test.YtmbbhjddjmljoaaLaw5
import Derived.Test.YtmbbhjddjmljoaaArgs
namespace Go.Proofs.Ytmbbhjddjmljoaa
open Go.RowKit Go.OpenShut

set_option maxRecDepth 100000 in
set_option maxHeartbeats 2000000 in
theorem twice_great (l r s : Nat) (x : Option Addr) (n cp : Nat) (y : Option Addr) (m cq : Nat) (v : Int) (W : World) (hg : 20 < n ∨ 20 < m) :
    Calls Try.prog 7 #[c3V l r s, .slice x n cp, .slice y m cq, .int .u64 v] W fun e w' => e = .returned (.bool true) ∧ Below W.heap.size W w' := by
  by_cases h1 : 20 < n
  · go_enter Try.func7, Try.ntmps7
    go_wp2_with fail
    refine (awake5_any _).mono ?_
    rintro e w1 ⟨rfl, hb1⟩
    have K1 := Go.Proofs.Ytmbbhjddjmljoaa.Below.keeps hb1 []
    go_wp2_with fail
    go_ret
    exact ⟨rfl, (((Keeps.refl [] W).alloc _).trans K1).below (Nat.le_refl _) (by simp)⟩
  · have h2 : 20 < m := by omega
    have g1 : decide (20 < n) = false := by rw [decide_eq_false_iff_not]; omega
    have g2 : decide (20 < (n : Int)) = false := by rw [decide_eq_false_iff_not]; omega
    go_enter Try.func7, Try.ntmps7
    go_wp2_with fail
    refine (awake5_any _).mono ?_
    rintro e w1 ⟨rfl, hb1⟩
    have K1 := Go.Proofs.Ytmbbhjddjmljoaa.Below.keeps hb1 []
    go_wp2_with fail
    go_ret
    exact ⟨rfl, (((Keeps.refl [] W).alloc _).trans K1).below (Nat.le_refl _) (by simp)⟩

set_option maxRecDepth 100000 in
set_option maxHeartbeats 4000000 in
theorem twice_small (l r s : Nat) (x : Option Addr) (n cp : Nat) (f : Nat → Int) (y : Option Addr) (m cq : Nat) (g : Nat → Int) (v : Int) (W : World) (hl : l ≤ 65535) (hr : r ≤ 65535) (hs : s ≤ 65535) (hn : n ≤ 20) (hm : m ≤ 20)
    (hR : Reads W x n f) (hY : ReadsV (Value.int .u16) W y m g) (hG : ∀ i, i < m → 0 ≤ g i ∧ g i ≤ 65535) :
    Calls Try.prog 7 #[c3V l r s, .slice x n cp, .slice y m cq, .int .u64 v] W fun e w' => e = .returned (.bool true) ∧ Below W.heap.size W w' := by
  have g1 : decide (20 < n) = false := by rw [decide_eq_false_iff_not]; omega
  have g2 : decide (20 < (n : Int)) = false := by rw [decide_eq_false_iff_not]; omega
  have g3 : decide (20 < m) = false := by rw [decide_eq_false_iff_not]; omega
  have g4 : decide (20 < (m : Int)) = false := by rw [decide_eq_false_iff_not]; omega
  have HR := hid hR
  have HY := hid hY
  have HG := hid hG
  clear hR hY hG
  go_enter Try.func7, Try.ntmps7
  go_wp2_with fail
  have hB0 := At.new W (c3O l r s)
  have K0 := (Keeps.refl [] W).alloc (c3O l r s)
  refine (awake5_any _).mono ?_
  rintro e w1 ⟨rfl, hb1⟩
  have k1 := Go.Proofs.Ytmbbhjddjmljoaa.Below.keeps hb1 []
  have K1 := K0.trans k1
  have hB1 := k1.at hB0 (by simp)
  clear hb1 k1 hB0 K0
  have c0 : w1.cell? ⟨W.heap.size, 0, none⟩ = some (.int .u16 l) := hB1.cell 0 rfl
  have c1 : w1.cell? ⟨W.heap.size, 1, none⟩ = some (.int .u16 r) := hB1.cell 1 rfl
  have c2 : w1.cell? ⟨W.heap.size, 2, none⟩ = some (.int .u16 s) := hB1.cell 2 rfl
  go_wp2_with fail
  refine (make3_at w1 l r s hl hr hs).mono ?_
  rintro e w2 ⟨rfl, hk2⟩
  have K2 := K1.trans hk2
  have hok := mk3_ok l r s
  obtain ⟨c, hc⟩ : ∃ c, c = mk3 l r s := ⟨_, rfl⟩
  rw [← hc] at hok ⊢
  clear hc c0 c1 c2 hB1 hk2 K1
  go_wp2_with fail
  have hC3 := At.new w2 (cfgO c)
  have K3 := K2.alloc (cfgO c)
  have hz2 := K2.size
  obtain ⟨cb, hcb⟩ : ∃ cb, cb = w2.heap.size := ⟨_, rfl⟩
  rw [← hcb] at hC3 hz2 ⊢
  have HCB := hid hcb
  clear hcb K2
  refine (formatted_at _ c hok x n cp f (HR.out.keep K3 (by simp)) (by omega)).mono ?_
  rintro e w4 ⟨p, a, u, S, rfl, haN, hP, hu, hW, hkp, his, ⟨b1, b2, b3, b4, b5⟩, hk4⟩
  simp only [World.size_alloc] at b1 b2 b3 b4 b5
  rw [← HCB.out] at b1 b2 b3 b4 b5
  have hC4 := hk4.at hC3 (by simp)
  have K4 := K3.trans hk4
  have hwg := words_ge hok
  have hpos : 0 < a.n ∧ a.n ≤ 15000 := by omega
  have HN := hid haN
  have HO := hid hok
  have h0 := hP.lo
  clear haN hok hkp his hW hC3 K3 hk4 hwg
  go_wp2_with fail
  go_loopg [40] m (fun r s wr => ∃ i : Nat, i + r = m ∧ s = .int .i64 i ∧ (∃ S' u', Pw wr p a (-1) u' S' ∧ u' ≤ u + (i : Int)) ∧ Keeps [p, a.s, a.k, a.m] w4 wr)
  case atStart => exact ⟨0, by omega, rfl, ⟨S, u, hP, by omega⟩, Keeps.refl _ _⟩
  case round =>
    obtain ⟨i, hi, rfl, ⟨S', u', hPi, hui⟩, hK⟩ := hrel
    have h0' := hPi.lo
    by_cases hlt : i < m
    · obtain ⟨b, off, rfl, hbl, hc⟩ : ∃ b off, y = some ⟨b, off, none⟩ ∧ b < W.heap.size ∧ W.cell? ⟨b, off + i, none⟩ = some (.int .u16 (g i)) := by
        rcases HY.out with h | ⟨b, off, h1, h2, h3⟩
        · omega
        · exact ⟨b, off, h1, h2, h3 i hlt⟩
      have KW : Keeps [] W wr := K4.new hK (by simp; omega)
      have c1 := (KW.cell (p := ⟨b, off + i, none⟩) hbl (by simp)).trans hc
      clear hc
      obtain ⟨k, hk⟩ : ∃ k : Nat, (k : Int) = g i := ⟨(g i).toNat, by have := (HG.out i hlt).1; omega⟩
      have hkb : k ≤ 65535 := by have := (HG.out i hlt).2; omega
      have hki : (k : Int) ≤ 65535 := by omega
      rw [← hk] at c1
      clear hk
      obtain ⟨j, hj⟩ : ∃ j : Nat, j = k % a.n := ⟨_, rfl⟩
      have ej : (k : Int) % (a.n : Int) = (j : Int) := by omega
      have hjn : j < a.n := by rw [hj]; exact Nat.mod_lt _ hpos.1
      clear hj
      have HL := hid (len_at wr p a S' hPi.dev)
      have hST := hid (fun q => store_ran wr p a (-1) u' S' j q hPi hjn (by omega))
      go_wp2_with fail
      refine HL.out.mono ?_
      rintro e w6 ⟨rfl, rfl⟩
      go_wp2_with fail
      refine (hST.out _).mono ?_
      intro e w6 hr6
      obtain ⟨rfl, hP6, hK6⟩ := hr6.free h0'
      clear hr6
      go_wp2_with fail
      go_roundg (m - (i + 1))
      case measure => omega
      case rel => exact ⟨i + 1, by omega, by go_num, ⟨_, _, hP6, by simp; omega⟩, hK.trans hK6⟩
    · have hC5 := hK.at hC4 (by simp; omega)
      have K5 : Keeps [] W wr := K4.new hK (by simp; omega)
      have c0 := hC5.cell 0 rfl
      have c1 := hC5.cell 1 rfl
      have c2 := hC5.cell 2 rfl
      have hub : u' < 4611686018427300000 := by omega
      clear hC4 hK hi K4
      go_wp2_with fail
      refine (format_free wr p a u' S' c hPi HO.out HN.out hub).mono ?_
      rintro e w6 ⟨rfl, hP6, hk6⟩
      have hW6 := hid (fmt_done S' (L := a.L) HO.out)
      have hC6 := hk6.at hC5 (by simp; omega)
      have K6 : Keeps [] W w6 := K5.new hk6 (by simp; omega)
      obtain ⟨T, hT⟩ : ∃ T, T = execs S' (fmtL c a.L) := ⟨_, rfl⟩
      rw [← hT] at hP6 hW6
      clear hT c0 c1 c2 hC5 K5 hk6 hPi
      go_wp2_with fail
      refine (read_whole w6 p a T c hP6.dev HO.out HN.out hW6.out.1).mono ?_
      rintro e w7 ⟨rfl, hk7⟩
      have hP7 := (hP6.keep0 hk7).keep0 ((Keeps.refl [] w7).alloc (cfgO c))
      have hC7 := (hk7.at hC6 (by simp)).alloc (cfgO c)
      have hG7 := At.new w7 (cfgO c)
      have K7 := (K6.trans hk7).alloc (cfgO c)
      have hcl : cb < w7.heap.size := (hk7.at hC6 (by simp)).lt
      clear hk7 hC6 K6 hP6
      go_wp2_with fail
      refine (kept_at _ p a T hP7.dev).mono ?_
      rintro e w8 ⟨v8, rfl, hv8, hk8⟩
      obtain ⟨q8, cap8, rfl, hq8, hq8b, _, hR8⟩ := hv8.reads
      have hP8 := hP7.keep0 hk8
      have hC8 := hk8.at hC7 (by simp)
      have hG8 := hk8.at hG7 (by simp)
      have K8 := K7.trans hk8
      have d3 : w8.cell? ⟨q8, 0, none⟩ = some (.int .u64 6076848300954571569) := by
        rcases hR8 with h | ⟨b, off, he, hb, hc⟩
        · omega
        · cases he
          have := hc 0 hpos.1
          rw [hW6.out.2.1 0 (by have := a.n8; omega), hW6.out.1.1] at this
          exact this
      have c0 := hC8.cell 0 rfl
      have c1 := hC8.cell 1 rfl
      have c2 := hC8.cell 2 rfl
      have d0 := hG8.cell 0 rfl
      have d1 := hG8.cell 1 rfl
      have d2 := hG8.cell 2 rfl
      clear hv8 hR8 hk8 hC7 hG7 K7 hP7
      go_wp2_with fail
      refine (whole_true w8 p a T c hP8.dev HO.out HN.out hW6.out.1).mono ?_
      rintro e w9 ⟨rfl, hk9⟩
      have e3 := (hk9.cell (p := ⟨q8, 0, none⟩) hq8b (by simp)).trans d3
      have K9 := K8.trans hk9
      have hpi : (0 : Int) < (a.n : Int) := by omega
      have hpn := hpos.1
      clear c0 c1 c2 d0 d1 d2 d3 hk9
      go_wp2_with fail
      go_ret
      exact ⟨rfl, K9.below (Nat.le_refl _) (by simp)⟩

theorem superTwice_walk (l r s : Int) (x : Option Addr) (n cp : Nat) (f : Nat → Int) (y : Option Addr) (m cq : Nat) (g : Nat → Int) (v : Int) (W : World) (wl : (Lit.int .u16 l).wf = true) (wr : (Lit.int .u16 r).wf = true) (ws : (Lit.int .u16 s).wf = true)
    (R0 : ReadsV (Value.int .u64) W x n f) (_ : ∀ i, i < n → (Lit.int .u64 (f i)).wf = true) (_ : n ≤ maxLen) (R1 : ReadsV (Value.int .u16) W y m g) (F1 : ∀ i, i < m → (Lit.int .u16 (g i)).wf = true) (_ : m ≤ maxLen) (_ : (Lit.int .u64 v).wf = true) :
    Calls Try.prog 7 #[.agg #[.int .u16 l, .int .u16 r, .int .u16 s], .slice x n cp, .slice y m cq, .int .u64 v] W fun e w' => e = .returned (.bool true) ∧ Below W.heap.size W w' := by
  obtain ⟨l, rfl, hl⟩ := c3_open wl
  obtain ⟨r, rfl, hr⟩ := c3_open wr
  obtain ⟨s, rfl, hs⟩ := c3_open ws
  by_cases hg : 20 < n ∨ 20 < m
  · exact twice_great l r s x n cp y m cq v W hg
  · exact twice_small l r s x n cp f y m cq g v W hl hr hs (by omega) (by omega) R0.words R1 (fun i hi => bounds_u16 (F1 i hi))

end Go.Proofs.Ytmbbhjddjmljoaa
