/- Objects' heads: which may be, their words, packed and unpacked; layer 4's fixed fact. -/
import Derived.Test.YtcdlikblebdfkaaGreatReg
import Derived.Laws.BitsAllLaws
namespace Go.Proofs.YtcdlikblebdfkaaGreat
open Go.RowKit Go.OpenShut

/-- A head as a value. -/
abbrev hdV (n r : Int) : Value := .agg #[.int .i64 n, .int .i64 r]

abbrev hdO (n r : Int) : Obj := .cells #[.int .i64 n, .int .i64 r] 42

/-- May it be? -/
def hdB (n r : Int) : Bool := (decide (0 ≤ n) && decide (n ≤ 64)) && (decide (0 ≤ r) && decide (r ≤ n))

/-- What Check answers. -/
def hdE (n r : Int) : Int := if hdB n r then 0 else 5

theorem hdE_zero {n r : Int} (h : 0 ≤ n ∧ n ≤ 64 ∧ 0 ≤ r ∧ r ≤ n) : hdE n r = 0 := by
  have : hdB n r = true := by simp [hdB]; omega
  simp [hdE, this]

theorem hdE_five {n r : Int} (h : n < 0 ∨ 64 < n ∨ r < 0 ∨ n < r) : hdE n r = 5 := by
  have : hdB n r = false := by
    rw [Bool.eq_false_iff]
    simp [hdB]
    omega
  simp [hdE, this]

set_option maxHeartbeats 400000 in
theorem hcheck_any (w : World) (n r : Int) :
    Calls Tryz.prog 42 #[hdV n r] w fun e w' => e = .returned (.int .i64 (hdE n r)) ∧ Keeps [] w w' := by
  go_enter Tryz.func42, Tryz.ntmps42
  go_wp2
  all_goals
    go_ret
    refine ⟨?_, (Keeps.refl _ _).alloc _⟩
    first
      | (have H : hdB n r = true := by simp [hdB]; omega
         simp [hdE, H]
         done)
      | (have H : hdB n r = false := by
           rw [Bool.eq_false_iff]
           simp [hdB]
           omega
         simp [hdE, H]
         done)

set_option maxHeartbeats 400000 in
theorem hsize_at (w : World) (n r : Int) (hn : -1000 ≤ n ∧ n ≤ 1000) :
    Calls Tryz.prog 16 #[hdV n r] w fun e w' => e = .returned (.int .i64 (n + 1)) ∧ Keeps [] w w' := by
  go_enter Tryz.func16, Tryz.ntmps16
  go_wp2
  go_ret
  exact ⟨rfl, (Keeps.refl _ _).alloc _⟩

/-- A head's word. -/
def hdPk (n r : Nat) : Nat := 12754194144713244672 + r * 4294967296 + n

theorem hdPk_or (n r : Nat) (hn : n ≤ 64) (hr : r ≤ n) : bits .or .u64 (bits .or .u64 12754194144713244672 ((r : Int) * 4294967296)) (n : Int) = (hdPk n r : Nat) := by
  have e1 : ((r : Int) * 4294967296) = ((r * 4294967296 : Nat) : Int) := by omega
  have j1 : 12754194144713244672 ||| r * 4294967296 = 12754194144713244672 + r * 4294967296 := nat_join 56 _ _ (by decide) (by omega)
  have j2 : (12754194144713244672 + r * 4294967296) ||| n = 12754194144713244672 + r * 4294967296 + n := nat_join 32 _ _ (by omega) (by omega)
  rw [e1, show (12754194144713244672 : Int) = ((12754194144713244672 : Nat) : Int) from rfl, u64_or_nat _ _ (by omega) (by omega), j1, u64_or_nat _ _ (by omega) (by omega), j2]
  rfl

set_option maxHeartbeats 400000 in
theorem hpack_at (w : World) (n r : Nat) (hn : n ≤ 64) (hr : r ≤ n) :
    Calls Tryz.prog 57 #[hdV n r] w fun e w' => e = .returned (.int .u64 (hdPk n r)) ∧ Keeps [] w w' := by
  have H := hid (hdPk_or n r hn hr)
  go_enter Tryz.func57, Tryz.ntmps57
  go_wp2
  go_ret
  exact ⟨by rw [H.out]; rfl, (Keeps.refl _ _).alloc _⟩

/-- What a word says of words, and of names, if it is a head. -/
def hdN (x : Nat) : Nat := x % 4294967296
def hdR (x : Nat) : Nat := x / 4294967296 % 16777216
/-- Is it a head? -/
def isHd (x : Nat) : Bool := x / 72057594037927936 == 177 && (decide (hdN x ≤ 64) && decide (hdR x ≤ hdN x))

theorem isHd_pk {x : Nat} (h : isHd x = true) : x = hdPk (hdN x) (hdR x) ∧ hdN x ≤ 64 ∧ hdR x ≤ hdN x := by
  simp [isHd] at h
  refine ⟨?_, h.2.1, h.2.2⟩
  unfold hdPk hdN hdR
  omega

theorem hdN_pk (n r : Nat) (hn : n ≤ 64) : hdN (hdPk n r) = n := by unfold hdN hdPk; omega
theorem hdR_pk (n r : Nat) (hn : n ≤ 64) (hr : r ≤ n) : hdR (hdPk n r) = r := by unfold hdR hdPk; omega
theorem isHd_of_pk (n r : Nat) (hn : n ≤ 64) (hr : r ≤ n) : isHd (hdPk n r) = true := by
  simp only [isHd, hdN_pk n r hn, hdR_pk n r hn hr]
  simp [hn, hr]
  unfold hdPk; omega

theorem bare_lt (x : Nat) (hx : x < 18446744073709551616) : x ^^^ 12754194144713244672 < 18446744073709551616 :=
  Nat.xor_lt_two_pow (n := 64) hx (by decide)

theorem bare_low (x : Nat) : (x ^^^ 12754194144713244672) % 4294967296 = hdN x := by
  have h : (x ^^^ 12754194144713244672) % 2 ^ 32 = (x % 2 ^ 32) ^^^ (12754194144713244672 % 2 ^ 32) := Nat.xor_mod_two_pow
  have e : 12754194144713244672 % 2 ^ 32 = 0 := by decide
  rw [e, Nat.xor_zero] at h
  exact h

theorem bare_high (x : Nat) : (x ^^^ 12754194144713244672) / 4294967296 = (x / 72057594037927936 ^^^ 177) * 16777216 + hdR x := by
  have h : (x ^^^ 12754194144713244672) / 2 ^ 32 = (x / 2 ^ 32) ^^^ (12754194144713244672 / 2 ^ 32) := Nat.xor_div_two_pow
  have e : 12754194144713244672 / 2 ^ 32 = 2969567232 := by decide
  rw [e] at h
  have h1 : (x / 2 ^ 32 ^^^ 2969567232) % 2 ^ 24 = (x / 2 ^ 32 % 2 ^ 24) ^^^ (2969567232 % 2 ^ 24) := Nat.xor_mod_two_pow
  have h2 : (x / 2 ^ 32 ^^^ 2969567232) / 2 ^ 24 = (x / 2 ^ 32 / 2 ^ 24) ^^^ (2969567232 / 2 ^ 24) := Nat.xor_div_two_pow
  have e1 : 2969567232 % 2 ^ 24 = 0 := by decide
  have e2 : 2969567232 / 2 ^ 24 = 177 := by decide
  rw [e1, Nat.xor_zero] at h1
  rw [e2, Nat.div_div_eq_div_mul] at h2
  have h3 := Nat.div_add_mod (x / 2 ^ 32 ^^^ 2969567232) (2 ^ 24)
  rw [h1, h2] at h3
  show (x ^^^ 12754194144713244672) / 2 ^ 32 = _
  rw [h, ← h3]
  unfold hdR
  have : 2 ^ 32 * 2 ^ 24 = 72057594037927936 := by decide
  rw [this]
  omega

theorem bare_hdB (x : Nat) : hdB (hdN x : Nat) ((x / 72057594037927936 ^^^ 177) * 16777216 + hdR x : Nat) = isHd x := by
  have hr : hdR x < 16777216 := Nat.mod_lt _ (by decide)
  by_cases h : x / 72057594037927936 = 177
  · simp only [h, Nat.xor_self, Nat.zero_mul, Nat.zero_add, isHd, hdB]
    rw [Bool.eq_iff_iff]
    simp
    omega
  · have hz : x / 72057594037927936 ^^^ 177 ≠ 0 := by
      intro h0
      apply h
      have := congrArg (· ^^^ 177) h0
      simpa [Nat.xor_assoc] using this
    have h1 : isHd x = false := by simp [isHd, h]
    rw [h1, Bool.eq_false_iff]
    generalize x / 72057594037927936 ^^^ 177 = q at hz
    simp [hdB]
    omega

/-- What Unpack answers. -/
def unV (x : Nat) : Value := if isHd x then .tuple #[hdV (hdN x) (hdR x), .bool true] else .tuple #[hdV 0 0, .bool false]

set_option maxHeartbeats 1000000 in
theorem hunpack_at (w : World) (x : Nat) (hx : x < 18446744073709551616) :
    Calls Tryz.prog 29 #[.int .u64 x] w fun e w' => e = .returned (unV x) ∧ Keeps [] w w' := by
  have X := hid (show bits .xor .u64 (x : Int) 12754194144713244672 = ((x ^^^ 12754194144713244672 : Nat) : Int) from u64_xor_nat x 12754194144713244672 hx (by decide))
  have e1 := bare_low x
  have e2 := bare_high x
  have e3 := bare_lt x hx
  have hB := bare_hdB x
  generalize hq : x ^^^ 12754194144713244672 = q at e1 e2 e3 X
  have L : Hid ((q : Int) % 4294967296 = (hdN x : Nat)) := by show _ = _; omega
  have M : Hid (wrap64 ((q : Int) / 4294967296) = (((x / 72057594037927936 ^^^ 177) * 16777216 + hdR x : Nat) : Int)) := by
    show _ = _
    rw [IntWalk.wrap64_in _ (by omega), ← e2]
    simp
  clear hq e1 e2
  have hyR : isHd x = true → (x / 72057594037927936 ^^^ 177) * 16777216 + hdR x = hdR x := by
    intro h
    simp [isHd] at h
    simp [h.1]
  generalize (x / 72057594037927936 ^^^ 177) * 16777216 + hdR x = y at M hB hyR
  cases hi : isHd x
  · rw [hi] at hB
    have hE : Hid (hdE (hdN x : Nat) (y : Nat) = 5) := by show _ = _; simp [hdE, hB]
    have hV : Hid (unV x = .tuple #[hdV 0 0, .bool false]) := by show _ = _; simp [unV, hi]
    clear hi hB hyR
    go_enter Tryz.func29, Tryz.ntmps29
    go_wp2_with fail
    rw [X.out, L.out, M.out]
    refine (hcheck_any _ _ _).mono ?_
    rintro e w1 ⟨rfl, hK⟩
    rw [hE.out]
    have b0 := hK.at ((At.new w (hdO 0 0)).alloc (hdO (hdN x) y)) (by simp)
    have b1 := hK.at (At.new (w.alloc (hdO 0 0)) (hdO (hdN x) y)) (by simp)
    have K := (((Keeps.refl [] w).alloc (hdO 0 0)).alloc (hdO (hdN x) y)).trans hK
    rw [show (w.alloc (hdO 0 0)).heap.size = w.heap.size + 1 by simp] at b1
    clear hK
    have c00 := b0.cell 0 rfl
    have c01 := b0.cell 1 rfl
    have f00 := b0.free 0
    have f01 := b0.free 1
    have c10 := b1.cell 0 rfl
    have c11 := b1.cell 1 rfl
    go_wp2_with fail
    have d1 := ((b0.set 0 (.int .i64 0)).set 1 (.int .i64 0)).cell 0 rfl
    have d2 := ((b0.set 0 (.int .i64 0)).set 1 (.int .i64 0)).cell 1 rfl
    refine bodyPost_ret (v := .tuple #[hdV 0 0, .bool false]) ?_ rfl ?_
    · simp [results, Tryz.results29, go_sem, d1, d2]
    · exact ⟨by rw [hV.out], (K.set (.inr (by simp)) _).set (.inr (by simp)) _⟩
  · rw [hi] at hB
    have hE : Hid (hdE (hdN x : Nat) (y : Nat) = 0) := by show _ = _; simp [hdE, hB]
    have hy : Hid (((y : Nat) : Int) = (hdR x : Nat)) := by
      show _ = _
      rw [hyR hi]
    have hV : Hid (unV x = .tuple #[hdV (hdN x) (hdR x), .bool true]) := by show _ = _; simp [unV, hi]
    clear hi hB hyR
    go_enter Tryz.func29, Tryz.ntmps29
    go_wp2_with fail
    rw [X.out, L.out, M.out, hy.out]
    refine (hcheck_any _ _ _).mono ?_
    rintro e w1 ⟨rfl, hK⟩
    rw [← hy.out, hE.out, hy.out]
    have b0 := hK.at ((At.new w (hdO 0 0)).alloc (hdO (hdN x) (hdR x))) (by simp)
    have b1 := hK.at (At.new (w.alloc (hdO 0 0)) (hdO (hdN x) (hdR x))) (by simp)
    have K := (((Keeps.refl [] w).alloc (hdO 0 0)).alloc (hdO (hdN x) (hdR x))).trans hK
    rw [show (w.alloc (hdO 0 0)).heap.size = w.heap.size + 1 by simp] at b1
    clear hK
    have c00 := b0.cell 0 rfl
    have c01 := b0.cell 1 rfl
    have f00 := b0.free 0
    have f01 := b0.free 1
    have c10 := b1.cell 0 rfl
    have c11 := b1.cell 1 rfl
    go_wp2_with fail
    have d1 := ((b0.set 0 (.int .i64 (hdN x))).set 1 (.int .i64 (hdR x))).cell 0 rfl
    have d2 := ((b0.set 0 (.int .i64 (hdN x))).set 1 (.int .i64 (hdR x))).cell 1 rfl
    refine bodyPost_ret (v := .tuple #[hdV (hdN x) (hdR x), .bool true]) ?_ rfl ?_
    · simp [results, Tryz.results29, go_sem, d1, d2]
    · exact ⟨by rw [hV.out], (K.set (.inr (by simp)) _).set (.inr (by simp)) _⟩

/-- Unpack of a head's word. -/
theorem hunpack_pk (w : World) (n r : Nat) (hn : n ≤ 64) (hr : r ≤ n) :
    Calls Tryz.prog 29 #[.int .u64 (hdPk n r)] w fun e w' => e = .returned (.tuple #[hdV n r, .bool true]) ∧ Keeps [] w w' := by
  refine (hunpack_at w (hdPk n r) (by unfold hdPk; omega)).mono ?_
  rintro e w' ⟨rfl, hk⟩
  refine ⟨?_, hk⟩
  simp only [unV, isHd_of_pk n r hn hr, hdN_pk n r hn, hdR_pk n r hn hr, if_true]

set_option maxHeartbeats 400000 in
theorem awake4_any (w : World) : Calls Tryz.prog 80 #[] w fun e w' => e = .returned (.bool true) ∧ Below w.heap.size w w' := by
  go_enter Tryz.func80, Tryz.ntmps80
  go_wp2_with fail
  refine (awake3_any _).mono ?_
  rintro e w1 ⟨rfl, hb1⟩
  have K1 : Keeps [] w w1 := Go.Proofs.YtcdlikblebdfkaaGreat.Below.keeps hb1 []
  clear hb1
  go_wp2_with fail
  refine (hunpack_pk _ 3 1 (by omega) (by omega)).mono ?_
  rintro e w2 ⟨rfl, hK2⟩
  go_wp2_with fail
  refine (hsize_at _ 3 1 (by omega)).mono ?_
  rintro e w3 ⟨rfl, hK3⟩
  have a2 := hK3.at (At.new w2 (hdO 3 1)) (by simp)
  have K3 := ((K1.trans hK2).alloc (hdO 3 1)).trans hK3
  clear K1 hK2 hK3
  have c20 := a2.cell 0 rfl
  have c21 := a2.cell 1 rfl
  go_wp2_with fail
  refine (hpack_at _ 3 1 (by omega) (by omega)).mono ?_
  rintro e w4 ⟨rfl, hK4⟩
  have hv : Hid (((hdPk 3 1 : Nat) : Int) = 12754194149008211971) := by show _ = _; simp [hdPk]
  rw [hv.out]
  go_wp2_with fail
  go_ret
  exact ⟨rfl, (K3.trans hK4).below (Nat.le_refl _) (by simp)⟩

end Go.Proofs.YtcdlikblebdfkaaGreat
