/- The walk of the law SuperReads. -/
import Derived.Test.YtmbbhjddjmljoaaLaw5
namespace Go.Proofs.Ytmbbhjddjmljoaa
open Go.RowKit Go.OpenShut

/-- Four words. -/
def fourF (a b c d : Int) : Nat → Int
  | 0 => a | 1 => b | 2 => c | _ => d

theorem four_cells (a b c d : Int) : #[Value.int .u64 a, .int .u64 b, .int .u64 c, .int .u64 d] = u64s 4 (fourF a b c d) :=
  u64s_ext rfl fun i hi => by
    match i, hi with
    | 0, _ => rfl
    | 1, _ => rfl
    | 2, _ => rfl
    | 3, _ => rfl

/-- Words of 64 bits. -/
def InU (f : Nat → Int) : Prop := ∀ i, 0 ≤ f i ∧ f i ≤ 18446744073709551615

theorem InU.put {f : Nat → Int} (h : InU f) (i : Nat) {v : Int} (hv : 0 ≤ v ∧ v ≤ 18446744073709551615) : InU (put f i v) := fun j => by
  unfold Go.Proofs.Ytmbbhjddjmljoaa.put
  split
  · exact hv
  · exact h j

theorem fourF_in {a b c d : Int} (ha : 0 ≤ a ∧ a ≤ 18446744073709551615) (hb : 0 ≤ b ∧ b ≤ 18446744073709551615) (hc : 0 ≤ c ∧ c ≤ 18446744073709551615) (hd : 0 ≤ d ∧ d ≤ 18446744073709551615) : InU (fourF a b c d) := fun i => by
  unfold fourF
  split <;> assumption

theorem cell_in_alloc {w : World} {a : Addr} {v : Value} (h : w.cell? a = some v) (o : Obj) : (w.alloc o).cell? a = some v := by
  have hl : a.block < w.heap.size := by
    unfold World.cell? at h
    rcases Nat.lt_or_ge a.block w.heap.size with h1 | h1
    · exact h1
    · simp [Array.getElem?_eq_none h1] at h
  rw [← h]
  unfold World.cell?
  rw [Below.heap_alloc w o a.block hl]

theorem fitsB_off {c : Cfg} {n : Nat} (h : c.words ≠ n) : fitsB (c.log : Int) (c.roots : Int) (c.space : Int) n = false := by
  unfold fitsB
  rw [Bool.and_eq_false_iff]
  right
  simpa using h

theorem words_same {x y : Nat} (h : x = y) : ((x : Int) == (y : Int)) = true ∧ ((x : Int) != (y : Int)) = false ∧ decide ((x : Int) = (y : Int)) = true := by subst h; simp
theorem words_other {x y : Nat} (h : x ≠ y) : ((x : Int) == (y : Int)) = false ∧ ((x : Int) != (y : Int)) = true ∧ decide ((x : Int) = (y : Int)) = false := by
  have : ((x : Int) == (y : Int)) = false := by rw [beq_eq_false_iff_ne]; omega
  refine ⟨this, by rw [bne, this]; rfl, by rw [decide_eq_false_iff_not]; omega⟩

/-- A box of a config. -/
def BoxAt (c : Cfg) (w0 : World) (v : Value) (wx : World) : Prop := ∃ b, v = ptr b ∧ w0.heap.size ≤ b ∧ At wx b (cfgO c) ∧ Keeps [] w0 wx

theorem asInt_low {y : Int} (h : 0 ≤ y ∧ y ≤ 18446744073709551615) : (y ≤ 9223372036854775807 ∧ asInt y = y) ∨ (9223372036854775807 < y ∧ asInt y < 0) := by
  unfold asInt wrap64
  omega

/-- Numbers beyond the limits fit nothing. -/
theorem fits_beyond {x y z : Int} (n : Nat) (hx : 0 ≤ x ∧ x ≤ 18446744073709551615) (hy : 0 ≤ y ∧ y ≤ 18446744073709551615) (hz : 0 ≤ z ∧ z ≤ 18446744073709551615)
    (h : ¬ (x ≤ 200 ∧ y ≤ 16 ∧ z ≤ 4096 ∧ 1 ≤ y ∧ y + 2 ≤ x ∧ 8 ≤ z)) : fitsB (asInt x) (asInt y) (asInt z) n = false := by
  unfold fitsB
  have : cfgB (asInt x) (asInt y) (asInt z) = false := by
    rw [Bool.eq_false_iff]
    simp [cfgB]
    rcases asInt_low hx with ⟨a1, a2⟩ | ⟨a1, a2⟩ <;> rcases asInt_low hy with ⟨b1, b2⟩ | ⟨b1, b2⟩ <;> rcases asInt_low hz with ⟨d1, d2⟩ | ⟨d1, d2⟩ <;> omega
  rw [this]
  rfl

/-- The words that are laid, by any of two rows of four. -/
def LaidRow (w0 : World) (g N : Nat) (wr : World) : Prop := ∃ h : Nat → Int, InU h ∧ At wr g (.cells (u64s N h) 26) ∧ Keeps [g] w0 wr

set_option maxRecDepth 100000 in
set_option maxHeartbeats 4000000 in
theorem reads_walk0 (l r s m k : Nat) (x0 x1 x2 x3 : Int) (W : World) (hl : l ≤ 65535) (hr : r ≤ 65535) (hs : s ≤ 65535) (_hm : m ≤ 255) (hk : k ≤ 255) (hx : InU (fourF x0 x1 x2 x3)) :
    Calls Try.prog 6 #[c3V l r s, .agg #[.int .u64 x0, .int .u64 x1, .int .u64 x2, .int .u64 x3], .int .u8 m, .int .u8 k] W fun e w' => e = .returned (.bool true) ∧ Below W.heap.size W w' := by
  have hki : (k : Int) ≤ 255 := by omega
  obtain ⟨N, hN⟩ : ∃ N, N = (mk3 l r s).words + 8 * (k % 3 / 2) := ⟨_, rfl⟩
  have hwg := words_ge (mk3_ok l r s)
  have HMK := hid (run_make_at (P := Try.prog) 25 26 (.int .u64 0) 8 Try.underlying25 (by kernel_rfl) rfl N (by omega) (by omega))
  have HX := hid hx
  clear hx
  go_enter Try.func6, Try.ntmps6
  go_wp2_with fail
  have hB0 := (At.new W (c3O l r s)).alloc (.cells #[Value.int .u64 x0, .int .u64 x1, .int .u64 x2, .int .u64 x3] 56)
  have hX0 := At.new (W.alloc (c3O l r s)) (.cells #[Value.int .u64 x0, .int .u64 x1, .int .u64 x2, .int .u64 x3] 56)
  have K0 := ((Keeps.refl [] W).alloc (c3O l r s)).alloc (.cells #[Value.int .u64 x0, .int .u64 x1, .int .u64 x2, .int .u64 x3] 56)
  rw [show (W.alloc (c3O l r s)).heap.size = W.heap.size + 1 by simp] at hX0
  refine (awake5_any _).mono ?_
  rintro e w1 ⟨rfl, hb1⟩
  have k1 := Go.Proofs.Ytmbbhjddjmljoaa.Below.keeps hb1 []
  have K1 := K0.trans k1
  have hB1 := k1.at hB0 (by simp)
  have hX1 := k1.at hX0 (by simp)
  rw [four_cells] at hX1
  clear hb1 k1 hB0 hX0 K0
  have c0 : w1.cell? ⟨W.heap.size, 0, none⟩ = some (.int .u16 l) := hB1.cell 0 rfl
  have c1 : w1.cell? ⟨W.heap.size, 1, none⟩ = some (.int .u16 r) := hB1.cell 1 rfl
  have c2 : w1.cell? ⟨W.heap.size, 2, none⟩ = some (.int .u16 s) := hB1.cell 2 rfl
  go_wp2_with fail
  refine (make3_at w1 l r s hl hr hs).mono ?_
  rintro e w2 ⟨rfl, hk2⟩
  have K2 := K1.trans hk2
  have hX2 := hk2.at hX1 (by simp)
  have hok := mk3_ok l r s
  obtain ⟨c, hc⟩ : ∃ c, c = mk3 l r s := ⟨_, rfl⟩
  rw [← hc] at hok hwg hN ⊢
  have HNw := hid hN
  have HO := hid hok
  have hwi : (c.words : Int) ≤ 15000 := by omega
  have hsm := hok.small
  have hcl : (c.log : Int) ≤ 200 ∧ (c.roots : Int) ≤ 16 ∧ (c.space : Int) ≤ 4096 := by obtain ⟨q1, q2, q3⟩ := hsm; omega
  obtain ⟨il, ir, is⟩ := hcl
  clear hc c0 c1 c2 hB1 hX1 hk2 K1
  go_wp2_with fail
  have hC3 := At.new w2 (cfgO c)
  have hX3 := hX2.alloc (cfgO c)
  have K3 := K2.alloc (cfgO c)
  have hz2 : W.heap.size + 1 < w2.heap.size := hX2.lt
  obtain ⟨cb, hcb⟩ : ∃ cb, cb = w2.heap.size := ⟨_, rfl⟩
  rw [← hcb] at hC3 hz2 ⊢
  have HCB := hid hcb
  clear hcb K2 hN hok hX2
  refine (cwords_at _ c hsm).mono ?_
  rintro e w3 ⟨rfl, hk3⟩
  have hC4 := hk3.at hC3 (by simp)
  have hX4 := hk3.at hX3 (by simp)
  have K4 := K3.trans hk3
  have hcw : cb < w3.heap.size := hC4.lt
  have e1 : (c.words : Int) + 8 * ((k : Int) % 3 / 2) = (N : Int) := by have := HNw.out; omega
  have hmk := HMK.out
  have c0 := hC4.cell 0 rfl
  have c1 := hC4.cell 1 rfl
  have c2 := hC4.cell 2 rfl
  clear hC3 K3 hk3 hX3
  go_upto_region 5 with fail
  clear hmk e1
  have hA := At.new w3 (.cells (rowOf id N fun _ => .int .u64 0) 26)
  have hC5 := hC4.alloc (.cells (rowOf id N fun _ => .int .u64 0) 26)
  have hX5 := hX4.alloc (.cells (rowOf id N fun _ => .int .u64 0) 26)
  have K5 := K4.alloc (.cells (rowOf id N fun _ => .int .u64 0) 26)
  rw [rowOf_u64 N (fun _ => 0)] at hA hC5 hX5 K5 ⊢
  have hgz : W.heap.size ≤ w3.heap.size := K4.size
  obtain ⟨g, hg⟩ : ∃ g, g = w3.heap.size := ⟨_, rfl⟩
  obtain ⟨w5, hw5⟩ : ∃ w5, w5 = w3.alloc (.cells (u64s N fun _ => 0) 26) := ⟨_, rfl⟩
  have hg5 : w5.heap.size = w3.heap.size + 1 := by rw [hw5]; simp
  have HG5 := hid hg5
  rw [← hw5] at hA hC5 hX5 K5 ⊢
  rw [← hg] at hA hcw hgz ⊢
  have HG := hid hg
  clear hw5 hg hg5 c0 c1 c2 hC4 hX4 K4
  have c0 := hC5.cell 0 rfl
  have c1 := hC5.cell 1 rfl
  have c2 := hC5.cell 2 rfl
  go_wp2_with fail
  have hY := At.new w5 (.cells #[Value.int .u64 6076848300954571569, .int .u64 c.log, .int .u64 c.roots, .int .u64 c.space] 56)
  have hA6 := hA.alloc (.cells #[Value.int .u64 6076848300954571569, .int .u64 c.log, .int .u64 c.roots, .int .u64 c.space] 56)
  have hC6 := hC5.alloc (.cells #[Value.int .u64 6076848300954571569, .int .u64 c.log, .int .u64 c.roots, .int .u64 c.space] 56)
  have hX6 := hX5.alloc (.cells #[Value.int .u64 6076848300954571569, .int .u64 c.log, .int .u64 c.roots, .int .u64 c.space] 56)
  have K6 := K5.alloc (.cells #[Value.int .u64 6076848300954571569, .int .u64 c.log, .int .u64 c.roots, .int .u64 c.space] 56)
  have hY2 : At (w5.alloc (.cells #[Value.int .u64 6076848300954571569, .int .u64 c.log, .int .u64 c.roots, .int .u64 c.space] 56)) w5.heap.size (.cells (u64s 4 (fourF 6076848300954571569 c.log c.roots c.space)) 56) := by rw [← four_cells]; exact hY
  have HYin := hid (fourF_in (a := 6076848300954571569) (b := c.log) (c := c.roots) (d := c.space) (by omega) (by omega) (by omega) (by omega))
  have hyb : g < w5.heap.size := hA.lt
  obtain ⟨yb, hyb0⟩ : ∃ yb, yb = w5.heap.size := ⟨_, rfl⟩
  obtain ⟨w6, hw6⟩ : ∃ w6, w6 = w5.alloc (.cells #[Value.int .u64 6076848300954571569, .int .u64 c.log, .int .u64 c.roots, .int .u64 c.space] 56) := ⟨_, rfl⟩
  rw [← hw6] at hY2 hA6 hC6 hX6 K6 ⊢
  rw [← hyb0] at hY2 hyb ⊢
  clear hw6 hyb0 hY hA hC5 hX5 K5 c0 c1 c2
  have h4N : 4 ≤ N := by have := HNw.out; omega
  go_loopg [40] 4 (fun r s wr => ∃ i : Nat, i + r = 4 ∧ s = .int .i64 i ∧ LaidRow w6 g N wr)
  case atStart => exact ⟨0, by omega, rfl, _, fun _ => ⟨by omega, by omega⟩, hA6, Keeps.refl _ _⟩
  case round =>
    obtain ⟨i, hi, rfl, h, hin, hAi, hK⟩ := hrel
    by_cases hlt : i < 4
    · have hiN : i < N := by omega
      have x0' := (hK.at hX6 (by simp; omega)).cell i (u64s_get hlt)
      have f0 := hAi.free i
      have g0 := hAi.cell i (u64s_get hiN)
      have hA7 := hAi.set i (.int .u64 (fourF x0 x1 x2 x3 i))
      rw [u64s_set] at hA7
      have HI7 := hid (hin.put i (HX.out i))
      have HH := hid hin
      have HI := hid hi
      have y0' := (hK.at hY2 (by simp; omega)).cell i (u64s_get hlt)
      have hne1 : yb ≠ g := by omega
      have hne2 : g ≠ yb := by omega
      have k7 : Keeps [g] w6 (wr.setCell ⟨g, i, none⟩ (.int .u64 (fourF x0 x1 x2 x3 i))) := hK.set (.inl (by simp)) _
      clear hi hin
      cases ht : (bits .and .u8 ((m : Int) / 2 ^ i) 1 == 1)
      · go_wp2_with fail
        go_roundg (4 - (i + 1))
        case measure => have := HI.out; omega
        case rel => exact ⟨i + 1, by have := HI.out; omega, by go_num, _, HI7.out, hA7, k7⟩
      · have hA8 := hA7.set i (.int .u64 (fourF 6076848300954571569 c.log c.roots c.space i))
        rw [u64s_set] at hA8
        have HI8 := hid (HI7.out.put i (HYin.out i))
        go_wp2_with fail
        go_roundg (4 - (i + 1))
        case measure => have := HI.out; omega
        case rel => exact ⟨i + 1, by have := HI.out; omega, by go_num, _, HI8.out, hA8, k7.set (.inl (by simp)) _⟩
    · have K7 : Keeps [] W wr := K6.new hK (by simp; omega)
      have hN8 : N % 8 = 0 := by have := HNw.out; omega
      have hNb : N ≤ 20000 := by have := HNw.out; omega
      have HAi := hid hAi
      have HIN := hid hin
      have hC7 := hK.at hC6 (by simp; omega)
      clear hi hin hY2 hA6 hC6 hX6 K6 hK
      go_wp2_with fail
      refine (lnew_at wr (some ⟨g, 0, none⟩) N N (N / 8) _ (Reads.of_at0 hAi (Nat.le_refl _)) (by omega) (by omega)).mono ?_
      rintro e w8 ⟨p, a, rfl, haL, hD8, hp8, _, hk8⟩
      have hA8 := hk8.at hAi (by simp)
      have K8 := K7.trans hk8
      have HNa : Hid (N = a.n) := by show _ = _; have := a.n8; omega
      have hn8 : 8 ≤ a.n := by have := HNa.out; omega
      clear hAi HAi hk8 hp8 haL K7 hC7
      obtain ⟨S, hS⟩ : ∃ S : DS, S = { now := fun i => if i < N then h i else 0, kept := fun i => if i < N then h i else 0, tok := fun _ => 0, is := fun _ => false } := ⟨_, rfl⟩
      rw [← hS] at hD8
      have hS' : ∀ i, i < N → S.now i = h i := fun i hi => by rw [hS]; simp [hi]
      have HS := hid hS'
      clear hS hS'
      have d0 := hA8.cell 0 (u64s_get (by omega))
      have d1 := hA8.cell 1 (u64s_get (by omega))
      have d2 := hA8.cell 2 (u64s_get (by omega))
      have d3 := hA8.cell 3 (u64s_get (by omega))
      have hgl : g < w8.heap.size := hA8.lt
      have i0 := HS.out 0 (by omega)
      have i1 := HS.out 1 (by omega)
      have i2 := HS.out 2 (by omega)
      have i3 := HS.out 3 (by omega)
      have b0 := HIN.out 0
      have b1 := HIN.out 1
      have b2 := HIN.out 2
      have b3 := HIN.out 3
      generalize h 0 = y0 at d0 i0 b0
      generalize h 1 = y1 at d1 i1 b1
      generalize h 2 = y2 at d2 i2 b2
      generalize h 3 = y3 at d3 i3 b3
      have B0 := hid b0
      have B1 := hid b1
      have B2 := hid b2
      have B3 := hid b3
      have J0 := hid i0
      have J1 := hid i1
      have J2 := hid i2
      have J3 := hid i3
      clear b0 b1 b2 b3 i0 i1 i2 i3 hA8
      have hNi : (4 : Int) ≤ (N : Int) := by omega
      by_cases h0 : y0 = magicI
      · have t0 : (y0 == 6076848300954571569) = true := by rw [beq_iff_eq]; exact h0
        have t1 : (y0 != 6076848300954571569) = false := by rw [bne, t0]; rfl
        have R := hid (read_on w8 p a S hD8 hn8 (by rw [J0.out]; exact h0))
        clear h0
        by_cases hlim : y1 ≤ 200 ∧ y2 ≤ 16 ∧ y3 ≤ 4096 ∧ 1 ≤ y2 ∧ y2 + 2 ≤ y1 ∧ 8 ≤ y3
        · obtain ⟨n1, rfl⟩ : ∃ n : Nat, y1 = (n : Int) := ⟨y1.toNat, by have := B1.out; omega⟩
          obtain ⟨n2, rfl⟩ : ∃ n : Nat, y2 = (n : Int) := ⟨y2.toNat, by have := B2.out; omega⟩
          obtain ⟨n3, rfl⟩ : ∃ n : Nat, y3 = (n : Int) := ⟨y3.toNat, by have := B3.out; omega⟩
          obtain ⟨l1, l2, l3, l4, l5, l6⟩ := hlim
          have hcOk : (Cfg.mk n1 n2 n3).Ok := by unfold Cfg.Ok; simp only; omega
          have q1 : decide (200 < n1) = false := by rw [decide_eq_false_iff_not]; omega
          have q2 : decide (16 < n2) = false := by rw [decide_eq_false_iff_not]; omega
          have q3 : decide (4096 < n3) = false := by rw [decide_eq_false_iff_not]; omega
          have q4 : decide (n2 < 1) = false := by rw [decide_eq_false_iff_not]; omega
          have q5 : decide ((n1 : Int) < (n2 : Int) + 2) = false := by rw [decide_eq_false_iff_not]; omega
          have q6 : decide (n3 < 8) = false := by rw [decide_eq_false_iff_not]; omega
          have p1 : decide ((200 : Int) < (n1 : Int)) = false := by rw [decide_eq_false_iff_not]; omega
          have p2 : decide ((16 : Int) < (n2 : Int)) = false := by rw [decide_eq_false_iff_not]; omega
          have p3 : decide ((4096 : Int) < (n3 : Int)) = false := by rw [decide_eq_false_iff_not]; omega
          have p4 : decide ((n2 : Int) < 1) = false := by rw [decide_eq_false_iff_not]; omega
          have p6 : decide ((n3 : Int) < 8) = false := by rw [decide_eq_false_iff_not]; omega
          have e9 : IntKind.u64.wrap ((n2 : Int) + 2) = (n2 : Int) + 2 := IntWalk.u64_in _ (by omega)
          have HCK := hid hcOk
          clear l4 l5 l6 hcOk
          by_cases hfit : (Cfg.mk n1 n2 n3).words = a.n
          · have hans : Hid (rdAns S a.n = rdV n1 n2 n3 0) := by
              show _ = _
              unfold rdAns
              rw [J1.out, J2.out, J3.out, asInt_nat _ (by omega), asInt_nat _ (by omega), asInt_nat _ (by omega), if_pos]
              have : cfgB (n1 : Int) (n2 : Int) (n3 : Int) = true := by have := HCK.out; unfold Cfg.Ok at this; simp only at this; simp [cfgB]; omega
              unfold fitsB
              rw [this]
              simpa using hfit
            have HFIT := hid hfit
            clear hfit
            go_wp2_with fail
            refine R.out.mono ?_
            rintro e w9 ⟨rfl, hk9⟩
            rw [hans.out]
            have d0' := (hk9.cell (p := ⟨g, 0, none⟩) hgl (by simp)).trans d0
            have d1' := (hk9.cell (p := ⟨g, 1, none⟩) hgl (by simp)).trans d1
            have d2' := (hk9.cell (p := ⟨g, 2, none⟩) hgl (by simp)).trans d2
            have d3' := (hk9.cell (p := ⟨g, 3, none⟩) hgl (by simp)).trans d3
            have hg9 : g < w9.heap.size := Nat.lt_of_lt_of_le hgl hk9.size
            have K9 := (K8.trans hk9).alloc (.cells #[.int .i64 n1, .int .i64 n2, .int .i64 n3] 29)
            clear d0 d1 d2 d3
            go_upto_region 19 with fail
            have A1 := cell_in_alloc d1' (.cells #[.int .i64 n1, .int .i64 n2, .int .i64 n3] 29)
            have A2 := cell_in_alloc d2' (.cells #[.int .i64 n1, .int .i64 n2, .int .i64 n3] 29)
            have A3 := cell_in_alloc d3' (.cells #[.int .i64 n1, .int .i64 n2, .int .i64 n3] 29)
            have G9 := At.new w9 (.cells #[.int .i64 n1, .int .i64 n2, .int .i64 n3] 29)
            have hg10 : g < (w9.alloc (.cells #[.int .i64 n1, .int .i64 n2, .int .i64 n3] 29)).heap.size := by simp; omega
            have hb10 : w9.heap.size < (w9.alloc (.cells #[.int .i64 n1, .int .i64 n2, .int .i64 n3] 29)).heap.size := by simp
            obtain ⟨wz, hwz⟩ : ∃ wz, wz = w9.alloc (.cells #[.int .i64 n1, .int .i64 n2, .int .i64 n3] 29) := ⟨_, rfl⟩
            obtain ⟨gb, hgb⟩ : ∃ gb, gb = w9.heap.size := ⟨_, rfl⟩
            rw [← hwz] at A1 A2 A3 G9 K9 hg10 hb10 ⊢
            rw [← hgb] at G9 hb10 ⊢
            clear hwz hgb d0' d1' d2' d3' hg9 hk9
            have e0 := G9.cell 0 rfl
            have e1 := G9.cell 1 rfl
            have e2 := G9.cell 2 rfl
            have m1 : 1 < N := by omega
            have m2 : 2 < N := by omega
            have m3 : 3 < N := by omega
            have o1 : (1 : Int) < (N : Int) := by omega
            have o2 : (2 : Int) < (N : Int) := by omega
            have o3 : (3 : Int) < (N : Int) := by omega
            go_quiet (fail)
            have Kq := K9.drewN nq
            have Gq : At (wz.drewN nq) gb _ := G9.drewN nq
            have Q1 : (wz.drewN nq).cell? ⟨g, 1, none⟩ = some (.int .u64 n1) := A1
            have Q2 : (wz.drewN nq).cell? ⟨g, 2, none⟩ = some (.int .u64 n2) := A2
            have Q3 : (wz.drewN nq).cell? ⟨g, 3, none⟩ = some (.int .u64 n3) := A3
            have hgq : g < (wz.drewN nq).heap.size := hg10
            have hbq : gb < (wz.drewN nq).heap.size := hb10
            obtain ⟨wq, hwq⟩ : ∃ wq, wq = wz.drewN nq := ⟨_, rfl⟩
            rw [← hwq] at Kq Gq Q1 Q2 Q3 hgq hbq ⊢
            clear hwq A1 A2 A3 G9 K9 hg10 hb10 e0 e1 e2 q1 q2 q3 q4 q5 q6 e9 p1 p2 p3 p4 p6
            go_upto_region 21 with fail
            go_cut [16] from 126 (fun s16 wx => BoxAt ⟨n1, n2, n3⟩ wq s16 wx)
            case first =>
              go_region
              all_goals
                go_wp2_with fail
                go_meet
                refine ⟨_, rfl, ?_, ?_, ?_⟩
                · first | exact Nat.le_refl _ | (simp; done)
                · exact (At.new _ _).drew
                · repeat' (first | exact Keeps.refl _ _ | refine Keeps.drew ?_ | refine Keeps.alloc ?_ _ | (refine Keeps.set ?_ (by right; simp) _))
            case rest =>
              obtain ⟨b, rfl, hbz, hb, hkb⟩ := hcut
              have hGc := hkb.at Gq (by simp)
              have Kc := Kq.trans hkb
              have hgc : g < wc.heap.size := Nat.lt_of_lt_of_le hgq hkb.size
              clear Kq Gq Q1 Q2 Q3 hgq hbq hkb
              have c0 := hb.cell 0 rfl
              have c1 := hb.cell 1 rfl
              have c2 := hb.cell 2 rfl
              go_wp2_with fail
              refine (cwords_at wc ⟨n1, n2, n3⟩ HCK.out.small).mono ?_
              rintro e w11 ⟨rfl, hk11⟩
              have hb11 := hk11.at hb (by simp)
              have hG11 := hk11.at hGc (by simp)
              have K11 := Kc.trans hk11
              clear c0 c1 c2 hb hGc Kc hk11
              have c0 := hb11.cell 0 rfl
              have c1 := hb11.cell 1 rfl
              have c2 := hb11.cell 2 rfl
              have e0 := hG11.cell 0 rfl
              have e1 := hG11.cell 1 rfl
              have e2 := hG11.cell 2 rfl
              have TT := words_same (show (Cfg.mk n1 n2 n3).words = N by rw [HFIT.out, HNa.out])
              obtain ⟨T1, T2, T3⟩ := TT
              go_wp2_with fail
              go_ret
              exact ⟨rfl, K11.below (Nat.le_refl _) (by simp)⟩
          · have hans : Hid (rdAns S a.n = rdV 0 0 0 1) := by
              show _ = _
              unfold rdAns
              rw [J1.out, J2.out, J3.out, asInt_nat _ (by omega), asInt_nat _ (by omega), asInt_nat _ (by omega), if_neg]
              rw [Bool.not_eq_true]
              exact fitsB_off (c := ⟨n1, n2, n3⟩) hfit
            have HFIT := hid hfit
            clear hfit
            go_wp2_with fail
            refine R.out.mono ?_
            rintro e w9 ⟨rfl, hk9⟩
            rw [hans.out]
            have d0' := (hk9.cell (p := ⟨g, 0, none⟩) hgl (by simp)).trans d0
            have d1' := (hk9.cell (p := ⟨g, 1, none⟩) hgl (by simp)).trans d1
            have d2' := (hk9.cell (p := ⟨g, 2, none⟩) hgl (by simp)).trans d2
            have d3' := (hk9.cell (p := ⟨g, 3, none⟩) hgl (by simp)).trans d3
            have hg9 : g < w9.heap.size := Nat.lt_of_lt_of_le hgl hk9.size
            have K9 := (K8.trans hk9).alloc (.cells #[.int .i64 0, .int .i64 0, .int .i64 0] 29)
            clear d0 d1 d2 d3
            go_upto_region 19 with fail
            have A1 := cell_in_alloc d1' (.cells #[.int .i64 0, .int .i64 0, .int .i64 0] 29)
            have A2 := cell_in_alloc d2' (.cells #[.int .i64 0, .int .i64 0, .int .i64 0] 29)
            have A3 := cell_in_alloc d3' (.cells #[.int .i64 0, .int .i64 0, .int .i64 0] 29)
            have G9 := At.new w9 (.cells #[.int .i64 0, .int .i64 0, .int .i64 0] 29)
            have hg10 : g < (w9.alloc (.cells #[.int .i64 0, .int .i64 0, .int .i64 0] 29)).heap.size := by simp; omega
            have hb10 : w9.heap.size < (w9.alloc (.cells #[.int .i64 0, .int .i64 0, .int .i64 0] 29)).heap.size := by simp
            obtain ⟨wz, hwz⟩ : ∃ wz, wz = w9.alloc (.cells #[.int .i64 0, .int .i64 0, .int .i64 0] 29) := ⟨_, rfl⟩
            obtain ⟨gb, hgb⟩ : ∃ gb, gb = w9.heap.size := ⟨_, rfl⟩
            rw [← hwz] at A1 A2 A3 G9 K9 hg10 hb10 ⊢
            rw [← hgb] at G9 hb10 ⊢
            clear hwz hgb d0' d1' d2' d3' hg9 hk9
            have e0 := G9.cell 0 rfl
            have e1 := G9.cell 1 rfl
            have e2 := G9.cell 2 rfl
            have m1 : 1 < N := by omega
            have m2 : 2 < N := by omega
            have m3 : 3 < N := by omega
            have o1 : (1 : Int) < (N : Int) := by omega
            have o2 : (2 : Int) < (N : Int) := by omega
            have o3 : (3 : Int) < (N : Int) := by omega
            go_quiet (fail)
            have Kq := K9.drewN nq
            have Gq : At (wz.drewN nq) gb _ := G9.drewN nq
            have Q1 : (wz.drewN nq).cell? ⟨g, 1, none⟩ = some (.int .u64 n1) := A1
            have Q2 : (wz.drewN nq).cell? ⟨g, 2, none⟩ = some (.int .u64 n2) := A2
            have Q3 : (wz.drewN nq).cell? ⟨g, 3, none⟩ = some (.int .u64 n3) := A3
            have hgq : g < (wz.drewN nq).heap.size := hg10
            have hbq : gb < (wz.drewN nq).heap.size := hb10
            obtain ⟨wq, hwq⟩ : ∃ wq, wq = wz.drewN nq := ⟨_, rfl⟩
            rw [← hwq] at Kq Gq Q1 Q2 Q3 hgq hbq ⊢
            clear hwq A1 A2 A3 G9 K9 hg10 hb10 e0 e1 e2 q1 q2 q3 q4 q5 q6 e9 p1 p2 p3 p4 p6
            go_upto_region 21 with fail
            go_cut [16] from 126 (fun s16 wx => BoxAt ⟨n1, n2, n3⟩ wq s16 wx)
            case first =>
              go_region
              all_goals
                go_wp2_with fail
                go_meet
                refine ⟨_, rfl, ?_, ?_, ?_⟩
                · first | exact Nat.le_refl _ | (simp; done)
                · exact (At.new _ _).drew
                · repeat' (first | exact Keeps.refl _ _ | refine Keeps.drew ?_ | refine Keeps.alloc ?_ _ | (refine Keeps.set ?_ (by right; simp) _))
            case rest =>
              obtain ⟨b, rfl, hbz, hb, hkb⟩ := hcut
              have hGc := hkb.at Gq (by simp)
              have Kc := Kq.trans hkb
              have hgc : g < wc.heap.size := Nat.lt_of_lt_of_le hgq hkb.size
              clear Kq Gq Q1 Q2 Q3 hgq hbq hkb
              have c0 := hb.cell 0 rfl
              have c1 := hb.cell 1 rfl
              have c2 := hb.cell 2 rfl
              go_wp2_with fail
              refine (cwords_at wc ⟨n1, n2, n3⟩ HCK.out.small).mono ?_
              rintro e w11 ⟨rfl, hk11⟩
              have hb11 := hk11.at hb (by simp)
              have hG11 := hk11.at hGc (by simp)
              have K11 := Kc.trans hk11
              clear c0 c1 c2 hb hGc Kc hk11
              have c0 := hb11.cell 0 rfl
              have c1 := hb11.cell 1 rfl
              have c2 := hb11.cell 2 rfl
              have e0 := hG11.cell 0 rfl
              have e1 := hG11.cell 1 rfl
              have e2 := hG11.cell 2 rfl
              have TT := words_other (show (Cfg.mk n1 n2 n3).words ≠ N by rw [HNa.out]; exact HFIT.out)
              obtain ⟨T1, T2, T3⟩ := TT
              go_wp2_with fail
              go_ret
              exact ⟨rfl, K11.below (Nat.le_refl _) (by simp)⟩
        · have hans : Hid (rdAns S a.n = rdV 0 0 0 1) := by show _ = _; unfold rdAns; rw [J1.out, J2.out, J3.out, fits_beyond a.n B1.out B2.out B3.out hlim]; rfl
          have hor : 200 < y1 ∨ (y1 ≤ 200 ∧ 16 < y2) ∨ (y1 ≤ 200 ∧ y2 ≤ 16 ∧ 4096 < y3) ∨ (y1 ≤ 200 ∧ y2 ≤ 16 ∧ y3 ≤ 4096 ∧ y2 < 1) ∨ (y1 ≤ 200 ∧ y2 ≤ 16 ∧ y3 ≤ 4096 ∧ 1 ≤ y2 ∧ y1 < y2 + 2) ∨ (y1 ≤ 200 ∧ y2 ≤ 16 ∧ y3 ≤ 4096 ∧ 1 ≤ y2 ∧ y2 + 2 ≤ y1 ∧ y3 < 8) := by omega
          clear hlim
          go_wp2_with fail
          refine R.out.mono ?_
          rintro e w9 ⟨rfl, hk9⟩
          rw [hans.out]
          have d0' := (hk9.cell (p := ⟨g, 0, none⟩) hgl (by simp)).trans d0
          have d1' := (hk9.cell (p := ⟨g, 1, none⟩) hgl (by simp)).trans d1
          have d2' := (hk9.cell (p := ⟨g, 2, none⟩) hgl (by simp)).trans d2
          have d3' := (hk9.cell (p := ⟨g, 3, none⟩) hgl (by simp)).trans d3
          have hg9 : g < w9.heap.size := Nat.lt_of_lt_of_le hgl hk9.size
          have K9 := (K8.trans hk9).alloc (.cells #[.int .i64 0, .int .i64 0, .int .i64 0] 29)
          have b1 := B1.out.1
          have b2 := B2.out.1
          have b3 := B3.out.1
          clear d0 d1 d2 d3
          go_upto_region 19 with fail
          have A1 := cell_in_alloc d1' (.cells #[.int .i64 0, .int .i64 0, .int .i64 0] 29)
          have A2 := cell_in_alloc d2' (.cells #[.int .i64 0, .int .i64 0, .int .i64 0] 29)
          have A3 := cell_in_alloc d3' (.cells #[.int .i64 0, .int .i64 0, .int .i64 0] 29)
          have G9 := At.new w9 (.cells #[.int .i64 0, .int .i64 0, .int .i64 0] 29)
          obtain ⟨wz, hwz⟩ : ∃ wz, wz = w9.alloc (.cells #[.int .i64 0, .int .i64 0, .int .i64 0] 29) := ⟨_, rfl⟩
          obtain ⟨gb, hgb⟩ : ∃ gb, gb = w9.heap.size := ⟨_, rfl⟩
          rw [← hwz] at A1 A2 A3 G9 K9 ⊢
          rw [← hgb] at G9 ⊢
          clear hwz hgb d0' d1' d2' d3' hg9 hk9
          have e0 := G9.cell 0 rfl
          have e1 := G9.cell 1 rfl
          have e2 := G9.cell 2 rfl
          have n1 : (1 : Int) < (N : Int) := by omega
          have n2 : (2 : Int) < (N : Int) := by omega
          have n3 : (3 : Int) < (N : Int) := by omega
          have m1 : 1 < N := by omega
          have m2 : 2 < N := by omega
          have m3 : 3 < N := by omega
          rcases hor with o | ⟨o1, o⟩ | ⟨o1, o2, o⟩ | ⟨o1, o2, o3, o⟩ | ⟨o1, o2, o3, o4, o⟩ | ⟨o1, o2, o3, o4, o5, o⟩
          · have q1 : decide (200 < y1) = true := by rw [decide_eq_true_eq]; omega
            clear b1 b2 b3 o
            go_quiet (fail)
            go_wp2_with fail
            go_ret
            exact ⟨rfl, (K9.drewN _).below (Nat.le_refl _) (by simp)⟩
          · have q1 : decide (200 < y1) = false := by rw [decide_eq_false_iff_not]; omega
            have q2 : decide (16 < y2) = true := by rw [decide_eq_true_eq]; omega
            clear b1 b2 b3 o o1
            go_quiet (fail)
            go_wp2_with fail
            go_ret
            exact ⟨rfl, (K9.drewN _).below (Nat.le_refl _) (by simp)⟩
          · have q1 : decide (200 < y1) = false := by rw [decide_eq_false_iff_not]; omega
            have q2 : decide (16 < y2) = false := by rw [decide_eq_false_iff_not]; omega
            have q3 : decide (4096 < y3) = true := by rw [decide_eq_true_eq]; omega
            clear b1 b2 b3 o o1 o2
            go_quiet (fail)
            go_wp2_with fail
            go_ret
            exact ⟨rfl, (K9.drewN _).below (Nat.le_refl _) (by simp)⟩
          · have q1 : decide (200 < y1) = false := by rw [decide_eq_false_iff_not]; omega
            have q2 : decide (16 < y2) = false := by rw [decide_eq_false_iff_not]; omega
            have q3 : decide (4096 < y3) = false := by rw [decide_eq_false_iff_not]; omega
            have q4 : decide (y2 < 1) = true := by rw [decide_eq_true_eq]; omega
            clear b1 b2 b3 o o1 o2 o3
            go_quiet (fail)
            go_wp2_with fail
            go_ret
            exact ⟨rfl, (K9.drewN _).below (Nat.le_refl _) (by simp)⟩
          · have q1 : decide (200 < y1) = false := by rw [decide_eq_false_iff_not]; omega
            have q2 : decide (16 < y2) = false := by rw [decide_eq_false_iff_not]; omega
            have q3 : decide (4096 < y3) = false := by rw [decide_eq_false_iff_not]; omega
            have q4 : decide (y2 < 1) = false := by rw [decide_eq_false_iff_not]; omega
            have q5 : decide (y1 < y2 + 2) = true := by rw [decide_eq_true_eq]; omega
            have e9 : IntKind.u64.wrap (y2 + 2) = y2 + 2 := IntWalk.u64_in _ (by omega)
            clear b1 b2 b3 o o1 o2 o3 o4
            go_quiet (fail)
            go_wp2_with fail
            go_ret
            exact ⟨rfl, (K9.drewN _).below (Nat.le_refl _) (by simp)⟩
          · have q1 : decide (200 < y1) = false := by rw [decide_eq_false_iff_not]; omega
            have q2 : decide (16 < y2) = false := by rw [decide_eq_false_iff_not]; omega
            have q3 : decide (4096 < y3) = false := by rw [decide_eq_false_iff_not]; omega
            have q4 : decide (y2 < 1) = false := by rw [decide_eq_false_iff_not]; omega
            have q5 : decide (y1 < y2 + 2) = false := by rw [decide_eq_false_iff_not]; omega
            have q6 : decide (y3 < 8) = true := by rw [decide_eq_true_eq]; omega
            have e9 : IntKind.u64.wrap (y2 + 2) = y2 + 2 := IntWalk.u64_in _ (by omega)
            clear b1 b2 b3 o o1 o2 o3 o4 o5
            go_quiet (fail)
            go_wp2_with fail
            go_ret
            exact ⟨rfl, (K9.drewN _).below (Nat.le_refl _) (by simp)⟩
      · have t0 : (y0 == 6076848300954571569) = false := by rw [beq_eq_false_iff_ne]; exact h0
        have t1 : (y0 != 6076848300954571569) = true := by rw [bne, t0]; rfl
        have R := hid (read_magic w8 p a S hD8 (by omega) (by rw [J0.out]; exact h0))
        clear h0
        go_wp2_with fail
        refine R.out.mono ?_
        rintro e w9 ⟨rfl, hk9⟩
        have d0' := (hk9.cell (p := ⟨g, 0, none⟩) hgl (by simp)).trans d0
        have hg9 : g < w9.heap.size := Nat.lt_of_lt_of_le hgl hk9.size
        have hG := At.new w9 (.cells #[.int .i64 0, .int .i64 0, .int .i64 0] 29)
        have K9 := (K8.trans hk9).alloc (.cells #[.int .i64 0, .int .i64 0, .int .i64 0] 29)
        clear d0 d1 d2 d3
        go_wp2_with fail
        go_ret
        exact ⟨rfl, K9.below (Nat.le_refl _) (by simp)⟩

theorem superReads_walk (l r s x0 x1 x2 x3 m k : Int) (W : World) (wl : (Lit.int .u16 l).wf = true) (wr : (Lit.int .u16 r).wf = true) (ws : (Lit.int .u16 s).wf = true)
    (w0 : (Lit.int .u64 x0).wf = true) (w1 : (Lit.int .u64 x1).wf = true) (w2 : (Lit.int .u64 x2).wf = true) (w3 : (Lit.int .u64 x3).wf = true) (wm : (Lit.int .u8 m).wf = true) (wk : (Lit.int .u8 k).wf = true) :
    Calls Try.prog 6 #[.agg #[.int .u16 l, .int .u16 r, .int .u16 s], .agg #[.int .u64 x0, .int .u64 x1, .int .u64 x2, .int .u64 x3], .int .u8 m, .int .u8 k] W fun e w' => e = .returned (.bool true) ∧ Below W.heap.size W w' := by
  obtain ⟨l, rfl, hl⟩ := c3_open wl
  obtain ⟨r, rfl, hr⟩ := c3_open wr
  obtain ⟨s, rfl, hs⟩ := c3_open ws
  obtain ⟨hm0, hm⟩ := bounds_u8 wm
  obtain ⟨hk0, hk⟩ := bounds_u8 wk
  obtain ⟨m, rfl⟩ : ∃ n : Nat, (n : Int) = m := ⟨m.toNat, by omega⟩
  obtain ⟨k, rfl⟩ : ∃ n : Nat, (n : Int) = k := ⟨k.toNat, by omega⟩
  exact reads_walk0 l r s m k x0 x1 x2 x3 W hl hr hs (by omega) (by omega) (fourF_in (bounds_u64 w0) (bounds_u64 w1) (bounds_u64 w2) (bounds_u64 w3))

end Go.Proofs.Ytmbbhjddjmljoaa
