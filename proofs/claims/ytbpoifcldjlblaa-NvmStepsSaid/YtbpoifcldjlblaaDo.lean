/- One step, on a device and by definition: the contracts of Do. -/
import Derived.Test.YtbpoifcldjlblaaM
namespace Go.Proofs.Ytbpoifcldjlblaa
open Go.RowKit

/-- Nothing of the one lies in the other. -/
def Sep (p : Nat) (a : DA) (x : MA) : Prop := ∀ b ∈ x.blocks, b ≠ p ∧ b ≠ a.d ∧ b ≠ a.s ∧ b ≠ a.k ∧ b ≠ a.m

/-- Which word a step means. -/
def idx (n : Nat) (q : Int) : Int := if 0 < n ∧ 10 < q then q % n else q - 3

theorem idx_low (n : Nat) (q : Int) (h : 0 ≤ q ∧ q ≤ 255) : -3 ≤ idx n q ∧ idx n q ≤ 255 := by
  unfold idx
  split
  · rename_i hc
    obtain ⟨m, rfl⟩ := Int.eq_ofNat_of_zero_le h.1
    have e : (m : Int) % (n : Int) = ((m % n : Nat) : Int) := rfl
    have := Nat.mod_le m n
    omega
  · omega

/-- A step, as a value; boxed. -/
abbrev stepV (d q v bits : Int) : Value := .agg #[.int .u8 d, .int .u8 q, .int .u64 v, .int .u64 bits]
abbrev stepO (d q v bits : Int) : Obj := .cells #[.int .u8 d, .int .u8 q, .int .u64 v, .int .u64 bits] 32

/-- How Do ends: it is right; both are the same thing still. -/
def DoPost (p : Nat) (a : DA) (x : MA) (l u' : Int) (w : World) (e : Ending) (w' : World) : Prop :=
  e = .returned (.bool true) ∧ (∃ S', Dev w' p a S' ∧ MDev w' x a.n S'.ms) ∧ At w' p (powO l u') ∧ Keeps (p :: (a.blocks ++ x.blocks)) w w'

/-- How it ends where the power goes. -/
def DoGone (p : Nat) (a : DA) (x : MA) (S : DS) (l u : Int) (w : World) (e : Ending) (w' : World) : Prop :=
  e = .panicked [{ v := goneV, recovered := false }] ∧ Dev w' p a S ∧ MDev w' x a.n S.ms ∧ At w' p (powO l u) ∧ Keeps [] w w'

theorem grow_put {α : Type} (lo z : Nat) (hz : lo ≤ z) (f g : Nat → α) : (fun y => if lo ≤ y ∧ y < z + 1 then f y else g y) = put (fun y => if lo ≤ y ∧ y < z then f y else g y) z (f z) := by
  funext y
  simp only [put]
  by_cases hy : y = z
  · subst hy
    rw [if_pos ⟨hz, by omega⟩, if_pos rfl]
  · have e : (lo ≤ y ∧ y < z + 1) ↔ (lo ≤ y ∧ y < z) := by omega
    simp only [e, if_neg hy]

theorem line_all {α : Type} (k q8 : Nat) (hq : q8 = 8 * (k / 8)) (f g : Nat → α) : (fun y => if q8 ≤ y ∧ y < q8 + 8 then f y else g y) = fun y => if y / 8 = k / 8 then f y else g y := by
  funext y
  have e : (q8 ≤ y ∧ y < q8 + 8) ↔ y / 8 = k / 8 := by omega
  simp only [e]

set_option maxRecDepth 100000 in
set_option maxHeartbeats 4000000 in
theorem do_flush (w : World) (p : Nat) (a : DA) (x : MA) (S : DS) (l u : Int) (h : Dev w p a S) (hp : At w p (powO l u)) (hm : MDev w x a.n S.ms) (hsep : Sep p a x) (d q v bits : Int) (hq : 0 ≤ q ∧ q ≤ 255) (hd : 0 ≤ d ∧ d ≤ 255) (k : Nat) (hk : k < a.n) (hd7 : d % 7 = 4) (hu0 : 0 ≤ u) (hu1 : u < 9223372036854775807) (hst : Stays l u) (hidx : idx a.n q = (k : Int)) :
    Calls Try.prog 14 #[ptr x.m, ptr a.d, stepV d q v bits] w (DoPost p a x l (u + 1) w) := by
  have hn := h.few
  have hnb : a.n ≤ 17592186044416 := by have := a.n8; omega
  have c0 := hm.mo.cell 0 rfl
  have l1 := hm.mo.lt
  have HIDX := hid hidx
  have hil := idx_low a.n q hq
  rw [hidx] at hil
  clear hidx
  have HSEP := hid hsep
  clear hsep
  have hn0 : decide (0 < (a.n : Int)) = true := by rw [decide_eq_true_iff]; omega
  have hkn : decide ((k : Int) < (a.n : Int)) = true := by rw [decide_eq_true_iff]; omega
  obtain ⟨q8, hq8⟩ : ∃ q8, q8 = 8 * (k / 8) := ⟨_, rfl⟩
  have e8 : (k : Int) / 8 * 8 = (q8 : Int) := by omega
  have hqb : q8 + 8 ≤ a.n := by have := a.n8; omega
  have HQ8 := hid hq8
  have HST := hid hst
  clear hq8 hst
  go_enter Try.func14, Try.ntmps14
  go_upto_if 33 with fail
  go_cut [8] (fun s8 wx => s8 = .int .i64 (k : Int) ∧ At wx w.heap.size (stepO d q v bits) ∧ Keeps [] w wx)
  case first =>
    have hx := HIDX.out
    unfold idx at hx
    by_cases h10 : 10 < q
    · have e10 : decide (10 < q) = true := by simpa using h10
      rw [if_pos ⟨by omega, h10⟩] at hx
      have HX := hid hx
      clear hx
      go_wp2_with fail
      go_meet
      exact ⟨congrArg (Value.int .i64) HX.out, At.new _ _, (Keeps.refl _ _).alloc _⟩
    · have e10 : decide (10 < q) = false := by simpa using h10
      rw [if_neg (fun h => h10 h.2)] at hx
      have HX := hid hx
      clear hx
      go_wp2_with fail
      go_meet
      exact ⟨congrArg (Value.int .i64) HX.out, At.new _ _, (Keeps.refl _ _).alloc _⟩
  case rest =>
    obtain ⟨rfl, hB, hK⟩ := hcut
    have h1 := h.keep hK (by simp) (by simp) (by simp) (by simp)
    have hp1 := hK.at hp (by simp)
    have hm1 := hm.keep hK (by simp)
    have b0 := hB.cell 0 rfl
    have b1 := hB.cell 1 rfl
    have b2 := hB.cell 2 rfl
    have b3 := hB.cell 3 rfl
    have ZB : Hid (p < w.heap.size ∧ (a.d < w.heap.size ∧ a.s < w.heap.size ∧ a.k < w.heap.size ∧ a.m < w.heap.size) ∧ x.m < w.heap.size ∧ x.n < w.heap.size ∧ x.k < w.heap.size ∧ x.t < w.heap.size ∧ x.i < w.heap.size) := ⟨hp.lt, h.low, hm.low⟩
    clear c0 l1 h hp hm
    have HF := hid (flush_in _ p a S l u k h1 hp1 hk hu0 hu1 HST.out)
    go_wp2_with fail
    refine HF.out.mono ?_
    rintro e w2 ⟨rfl, h2, hp2, hk2⟩
    have hm2 := hm1.keep hk2 (by intro b hb; have := HSEP.out b hb; simp; exact ⟨this.1, this.2.2.2.2⟩)
    clear h1 hp1 hm1 b0 b1 b2 b3 hB
    have K2 : Keeps [p, a.m] w w2 := (hK.mono (by simp)).trans hk2
    go_wp2_with fail
    go_loopg [11] 8 (fun r s wr => ∃ z : Nat, z + r = q8 + 8 ∧ q8 ≤ z ∧ s = .int .i64 z ∧ MDev wr x a.n ⟨S.now, S.kept, fun y => if q8 ≤ y ∧ y < z then S.now y else S.tok y, fun y => if q8 ≤ y ∧ y < z then true else S.is (y / 8)⟩ ∧ Keeps [x.t, x.i] w2 wr)
    case atStart =>
      refine ⟨q8, by omega, Nat.le_refl _, rfl, ?_, Keeps.refl _ _⟩
      have e1 : (fun y => if q8 ≤ y ∧ y < q8 then S.now y else S.tok y) = S.tok := by funext y; rw [if_neg (by omega)]
      have e2 : (fun y => if q8 ≤ y ∧ y < q8 then true else S.is (y / 8)) = fun y => S.is (y / 8) := by funext y; rw [if_neg (by omega)]
      rw [e1, e2]
      exact hm2
    case round =>
      obtain ⟨z, hz, hz8, rfl, hM, hKr⟩ := hrel
      by_cases hlt : z < q8 + 8
      · have hzn : z < a.n := by omega
        have hzb : (z : Int) < (a.n : Int) := by omega
        have m0 := hM.mo.cell 0 rfl
        have m2 := hM.mo.cell 2 rfl
        have m3 := hM.mo.cell 3 rfl
        have n1 := hM.now.cell hzn
        have t1 := hM.too.cell hzn
        have t2 := hM.too.free z
        have i1 := hM.is.cell z (rowOf_get hzn)
        have i2 := hM.is.free z
        have ne1 := hM.ti
        have ne2 := hM.nt
        have ne3 := hM.ni
        have ne4 := hM.mt
        have ne5 := hM.mi
        go_wp2_with fail
        go_region
        have e1 := grow_put q8 z hz8 S.now S.tok
        have e2 := grow_put q8 z hz8 (fun _ => true) (fun y => S.is (y / 8))
        have E1 := hid e1
        have E2 := hid e2
        clear e1 e2 m0 m2 m3 n1 t1 t2 i1 i2
        all_goals
          go_wp2_with fail
          go_roundg (q8 + 8 - (z + 1))
          case measure => omega
          case rel =>
            refine ⟨z + 1, by omega, by omega, by go_num, ?_, ?_⟩
            · rw [E1.out, E2.out]
              first | exact ((hM.set_tok hzn _).set_is z true).drew | exact ((hM.set_is z true).set_tok hzn _).drew
            · first | exact ((hKr.set (.inl (by simp)) _).set (.inl (by simp)) _).drew
      · have hz9 : z = q8 + 8 := by omega
        subst hz9
        go_wp2_with fail
        go_ret
        refine ⟨rfl, ⟨_, h2.keep hKr ?_ ?_ ?_ ?_, ?_⟩, hKr.at hp2 ?_, ?_⟩
        · have h1 := HSEP.out x.t (by simp); have h2 := HSEP.out x.i (by simp); simp; omega
        · have h1 := HSEP.out x.t (by simp); have h2 := HSEP.out x.i (by simp); simp; omega
        · have h1 := HSEP.out x.t (by simp); have h2 := HSEP.out x.i (by simp); simp; omega
        · have h1 := HSEP.out x.t (by simp); have h2 := HSEP.out x.i (by simp); simp; omega
        · rw [line_all k q8 HQ8.out S.now S.tok, line_all k q8 HQ8.out (fun _ => true) (fun y => S.is (y / 8))] at hM
          exact hM
        · have h1 := HSEP.out x.t (by simp); have h2 := HSEP.out x.i (by simp); simp; omega
        · exact (K2.mono (by intro b _ hb; simp at hb ⊢; omega)).new hKr (by intro b hb; simp at hb ⊢; omega)

set_option maxRecDepth 100000 in
set_option maxHeartbeats 4000000 in
theorem do_store (w : World) (p : Nat) (a : DA) (x : MA) (S : DS) (l u : Int) (h : Dev w p a S) (hp : At w p (powO l u)) (hm : MDev w x a.n S.ms) (hsep : Sep p a x) (d q v bits : Int) (hq : 0 ≤ q ∧ q ≤ 255) (hd : 0 ≤ d ∧ d ≤ 255) (k : Nat) (hk : k < a.n) (hd7 : d % 7 < 4) (hu0 : 0 ≤ u) (hu1 : u < 9223372036854775807) (hst : Stays l u) (hidx : idx a.n q = (k : Int)) :
    Calls Try.prog 14 #[ptr x.m, ptr a.d, stepV d q v bits] w (DoPost p a x l (u + 1) w) := by
  have hn := h.few
  have hnb : a.n ≤ 17592186044416 := by have := a.n8; omega
  have c0 := hm.mo.cell 0 rfl
  have l1 := hm.mo.lt
  have HIDX := hid hidx
  have hil := idx_low a.n q hq
  rw [hidx] at hil
  clear hidx
  have HSEP := hid hsep
  clear hsep
  have hn0 : decide (0 < (a.n : Int)) = true := by rw [decide_eq_true_iff]; omega
  have hkn : decide ((k : Int) < (a.n : Int)) = true := by rw [decide_eq_true_iff]; omega
  have s4 : (d % 7 == 4) = false := by rw [beq_eq_false_iff_ne]; omega
  have s5 : (d % 7 == 5) = false := by rw [beq_eq_false_iff_ne]; omega
  have s6 : (d % 7 == 6) = false := by rw [beq_eq_false_iff_ne]; omega
  have HST := hid hst
  clear hst
  go_enter Try.func14, Try.ntmps14
  go_upto_if 33 with fail
  go_cut [8] (fun s8 wx => s8 = .int .i64 (k : Int) ∧ At wx w.heap.size (stepO d q v bits) ∧ Keeps [] w wx)
  case first =>
    have hx := HIDX.out
    unfold idx at hx
    by_cases h10 : 10 < q
    · have e10 : decide (10 < q) = true := by simpa using h10
      rw [if_pos ⟨by omega, h10⟩] at hx
      have HX := hid hx
      clear hx
      go_wp2_with fail
      go_meet
      exact ⟨congrArg (Value.int .i64) HX.out, At.new _ _, (Keeps.refl _ _).alloc _⟩
    · have e10 : decide (10 < q) = false := by simpa using h10
      rw [if_neg (fun h => h10 h.2)] at hx
      have HX := hid hx
      clear hx
      go_wp2_with fail
      go_meet
      exact ⟨congrArg (Value.int .i64) HX.out, At.new _ _, (Keeps.refl _ _).alloc _⟩
  case rest =>
    obtain ⟨rfl, hB, hK⟩ := hcut
    have h1 := h.keep hK (by simp) (by simp) (by simp) (by simp)
    have hp1 := hK.at hp (by simp)
    have hm1 := hm.keep hK (by simp)
    have b0 := hB.cell 0 rfl
    have b1 := hB.cell 1 rfl
    have b2 := hB.cell 2 rfl
    have b3 := hB.cell 3 rfl
    have ZB : Hid (p < w.heap.size ∧ (a.d < w.heap.size ∧ a.s < w.heap.size ∧ a.k < w.heap.size ∧ a.m < w.heap.size) ∧ x.m < w.heap.size ∧ x.n < w.heap.size ∧ x.k < w.heap.size ∧ x.t < w.heap.size ∧ x.i < w.heap.size) := ⟨hp.lt, h.low, hm.low⟩
    clear c0 l1 h hp hm
    have HF := hid (store_in _ p a S l u k v h1 hp1 hk hu0 hu1 HST.out)
    go_wp2_with fail
    refine HF.out.mono ?_
    rintro e w2 ⟨rfl, h2, hp2, hk2⟩
    have hm2 := hm1.keep hk2 (by intro b hb; have := HSEP.out b hb; simp; exact ⟨this.1, this.2.2.1⟩)
    have hB2 := hk2.at hB (by simp; have := ZB.out; omega)
    clear h1 hp1 hm1 b0 b1 b2 b3
    have K2 : Keeps [p, a.s] w w2 := (hK.mono (by simp)).trans hk2
    have b2 := hB2.cell 2 rfl
    have m0 := hm2.mo.cell 0 rfl
    have n1 := hm2.now.cell hk
    have n2 := hm2.now.free k
    have kb : (k : Int) < (a.n : Int) := by omega
    have ne1 : x.n ≠ w.heap.size := by have := ZB.out; omega
    have ne2 := hm2.mn
    go_wp2_with fail
    go_region
    all_goals
      clear m0 n1 n2 b2
      go_wp2_with fail
      go_ret
      have h1 := HSEP.out x.n (by simp)
      refine ⟨rfl, ⟨_, h2.keep (((Keeps.refl [x.n] w2).set (.inl (by simp)) _).drew) ?_ ?_ ?_ ?_, (hm2.set_now hk v).drew⟩, (((Keeps.refl [x.n] w2).set (.inl (by simp)) _).drew).at hp2 ?_, ?_⟩
      · simp; omega
      · simp; omega
      · simp; omega
      · simp; omega
      · simp; omega
      · exact (K2.mono (by intro b _ hb; simp at hb ⊢; omega)).new (((Keeps.refl [x.n] w2).set (.inl (by simp)) _).drew) (by intro b hb; simp at hb ⊢; omega)

set_option maxRecDepth 100000 in
set_option maxHeartbeats 4000000 in
theorem do_flush_goes (w : World) (p : Nat) (a : DA) (x : MA) (S : DS) (l u : Int) (h : Dev w p a S) (hp : At w p (powO l u)) (hm : MDev w x a.n S.ms) (hsep : Sep p a x) (d q v bits : Int) (hq : 0 ≤ q ∧ q ≤ 255) (hd : 0 ≤ d ∧ d ≤ 255) (k : Nat) (hk : k < a.n) (hd7 : d % 7 = 4) (hu0 : 0 ≤ u) (hu1 : u < 9223372036854775807) (hl : l = u) (hidx : idx a.n q = (k : Int)) :
    Calls Try.prog 14 #[ptr x.m, ptr a.d, stepV d q v bits] w (DoGone p a x S l u w) := by
  have hn := h.few
  have hnb : a.n ≤ 17592186044416 := by have := a.n8; omega
  have c0 := hm.mo.cell 0 rfl
  have l1 := hm.mo.lt
  have HIDX := hid hidx
  have hil := idx_low a.n q hq
  rw [hidx] at hil
  clear hidx
  have HSEP := hid hsep
  clear hsep
  have hn0 : decide (0 < (a.n : Int)) = true := by rw [decide_eq_true_iff]; omega
  have hkn : decide ((k : Int) < (a.n : Int)) = true := by rw [decide_eq_true_iff]; omega
  subst hl
  go_enter Try.func14, Try.ntmps14
  go_upto_if 33 with fail
  go_cut [8] (fun s8 wx => s8 = .int .i64 (k : Int) ∧ At wx w.heap.size (stepO d q v bits) ∧ Keeps [] w wx)
  case first =>
    have hx := HIDX.out
    unfold idx at hx
    by_cases h10 : 10 < q
    · have e10 : decide (10 < q) = true := by simpa using h10
      rw [if_pos ⟨by omega, h10⟩] at hx
      have HX := hid hx
      clear hx
      go_wp2_with fail
      go_meet
      exact ⟨congrArg (Value.int .i64) HX.out, At.new _ _, (Keeps.refl _ _).alloc _⟩
    · have e10 : decide (10 < q) = false := by simpa using h10
      rw [if_neg (fun h => h10 h.2)] at hx
      have HX := hid hx
      clear hx
      go_wp2_with fail
      go_meet
      exact ⟨congrArg (Value.int .i64) HX.out, At.new _ _, (Keeps.refl _ _).alloc _⟩
  case rest =>
    obtain ⟨rfl, hB, hK⟩ := hcut
    have h1 := h.keep hK (by simp) (by simp) (by simp) (by simp)
    have hp1 := hK.at hp (by simp)
    have hm1 := hm.keep hK (by simp)
    have b0 := hB.cell 0 rfl
    have b1 := hB.cell 1 rfl
    have b2 := hB.cell 2 rfl
    have b3 := hB.cell 3 rfl
    have ZB : Hid (p < w.heap.size ∧ (a.d < w.heap.size ∧ a.s < w.heap.size ∧ a.k < w.heap.size ∧ a.m < w.heap.size) ∧ x.m < w.heap.size ∧ x.n < w.heap.size ∧ x.k < w.heap.size ∧ x.t < w.heap.size ∧ x.i < w.heap.size) := ⟨hp.lt, h.low, hm.low⟩
    clear c0 l1 h hp hm
    have HF := hid (flush_goes _ p a S l k h1 hp1 hk hu0 hu1)
    go_wp2_with fail
    refine HF.out.mono ?_
    rintro e w2 ⟨rfl, h2, hp2, hk2⟩
    exact ⟨rfl, rfl, h2, hm1.keep hk2 (by simp), hp2, hK.trans hk2⟩

set_option maxRecDepth 100000 in
set_option maxHeartbeats 4000000 in
theorem do_flush_out00 (w : World) (p : Nat) (a : DA) (x : MA) (S : DS) (l u : Int) (h : Dev w p a S) (hp : At w p (powO l u)) (hm : MDev w x a.n S.ms) (hsep : Sep p a x) (d q v bits : Int) (hq : 0 ≤ q ∧ q ≤ 255) (hd : 0 ≤ d ∧ d ≤ 255) (i : Int) (hz : ¬ 0 < a.n) (h0 : 0 ≤ i) (hi : ¬ i < a.n) (hd7 : d % 7 = 4) (hidx : idx a.n q = i) :
    Calls Try.prog 14 #[ptr x.m, ptr a.d, stepV d q v bits] w (DoPost p a x l u w) := by
  have hn := h.few
  have hnb : a.n ≤ 17592186044416 := by have := a.n8; omega
  have c0 := hm.mo.cell 0 rfl
  have l1 := hm.mo.lt
  have HIDX := hid hidx
  have hil := idx_low a.n q hq
  rw [hidx] at hil
  clear hidx
  have HSEP := hid hsep
  clear hsep
  have hc : ¬ (0 < a.n ∧ 10 < q) := fun h => hz h.1
  have hn0 : decide (0 < (a.n : Int)) = false := by rw [decide_eq_false_iff_not]; omega
  have g0 : decide (0 ≤ i) = true := by rw [decide_eq_true_iff]; omega
  have g1 : decide (i < (a.n : Int)) = false := by rw [decide_eq_false_iff_not]; omega
  go_enter Try.func14, Try.ntmps14
  go_upto_if 33 with fail
  go_cut [8] (fun s8 wx => s8 = .int .i64 i ∧ At wx w.heap.size (stepO d q v bits) ∧ Keeps [] w wx)
  case first =>
    have hx := HIDX.out
    unfold idx at hx
    rw [if_neg hc] at hx
    have HX := hid hx
    clear hx
    go_wp2_with fail
    go_meet
    exact ⟨congrArg (Value.int .i64) HX.out, At.new _ _, (Keeps.refl _ _).alloc _⟩
  case rest =>
    obtain ⟨rfl, hB, hK⟩ := hcut
    have h1 := h.keep hK (by simp) (by simp) (by simp) (by simp)
    have hp1 := hK.at hp (by simp)
    have hm1 := hm.keep hK (by simp)
    have b0 := hB.cell 0 rfl
    have b1 := hB.cell 1 rfl
    have b2 := hB.cell 2 rfl
    have b3 := hB.cell 3 rfl
    have ZB : Hid (p < w.heap.size ∧ (a.d < w.heap.size ∧ a.s < w.heap.size ∧ a.k < w.heap.size ∧ a.m < w.heap.size) ∧ x.m < w.heap.size ∧ x.n < w.heap.size ∧ x.k < w.heap.size ∧ x.t < w.heap.size ∧ x.i < w.heap.size) := ⟨hp.lt, h.low, hm.low⟩
    clear c0 l1 h hp hm
    have HF := hid (flush_out _ p a S i h1 (by omega))
    clear b1
    go_wp2_with fail
    refine HF.out.mono ?_
    rintro e w2 ⟨rfl, rfl⟩
    go_wp2_with fail
    go_ret
    exact ⟨rfl, ⟨S, h1, hm1⟩, hp1, hK.mono (by simp)⟩

set_option maxRecDepth 100000 in
set_option maxHeartbeats 4000000 in
theorem do_flush_out01 (w : World) (p : Nat) (a : DA) (x : MA) (S : DS) (l u : Int) (h : Dev w p a S) (hp : At w p (powO l u)) (hm : MDev w x a.n S.ms) (hsep : Sep p a x) (d q v bits : Int) (hq : 0 ≤ q ∧ q ≤ 255) (hd : 0 ≤ d ∧ d ≤ 255) (i : Int) (hz : ¬ 0 < a.n) (hi : ¬ 0 ≤ i) (hd7 : d % 7 = 4) (hidx : idx a.n q = i) :
    Calls Try.prog 14 #[ptr x.m, ptr a.d, stepV d q v bits] w (DoPost p a x l u w) := by
  have hn := h.few
  have hnb : a.n ≤ 17592186044416 := by have := a.n8; omega
  have c0 := hm.mo.cell 0 rfl
  have l1 := hm.mo.lt
  have HIDX := hid hidx
  have hil := idx_low a.n q hq
  rw [hidx] at hil
  clear hidx
  have HSEP := hid hsep
  clear hsep
  have hc : ¬ (0 < a.n ∧ 10 < q) := fun h => hz h.1
  have hn0 : decide (0 < (a.n : Int)) = false := by rw [decide_eq_false_iff_not]; omega
  have g0 : decide (0 ≤ i) = false := by rw [decide_eq_false_iff_not]; omega
  go_enter Try.func14, Try.ntmps14
  go_upto_if 33 with fail
  go_cut [8] (fun s8 wx => s8 = .int .i64 i ∧ At wx w.heap.size (stepO d q v bits) ∧ Keeps [] w wx)
  case first =>
    have hx := HIDX.out
    unfold idx at hx
    rw [if_neg hc] at hx
    have HX := hid hx
    clear hx
    go_wp2_with fail
    go_meet
    exact ⟨congrArg (Value.int .i64) HX.out, At.new _ _, (Keeps.refl _ _).alloc _⟩
  case rest =>
    obtain ⟨rfl, hB, hK⟩ := hcut
    have h1 := h.keep hK (by simp) (by simp) (by simp) (by simp)
    have hp1 := hK.at hp (by simp)
    have hm1 := hm.keep hK (by simp)
    have b0 := hB.cell 0 rfl
    have b1 := hB.cell 1 rfl
    have b2 := hB.cell 2 rfl
    have b3 := hB.cell 3 rfl
    have ZB : Hid (p < w.heap.size ∧ (a.d < w.heap.size ∧ a.s < w.heap.size ∧ a.k < w.heap.size ∧ a.m < w.heap.size) ∧ x.m < w.heap.size ∧ x.n < w.heap.size ∧ x.k < w.heap.size ∧ x.t < w.heap.size ∧ x.i < w.heap.size) := ⟨hp.lt, h.low, hm.low⟩
    clear c0 l1 h hp hm
    have HF := hid (flush_out _ p a S i h1 (by omega))
    clear b1
    go_wp2_with fail
    refine HF.out.mono ?_
    rintro e w2 ⟨rfl, rfl⟩
    go_wp2_with fail
    go_ret
    exact ⟨rfl, ⟨S, h1, hm1⟩, hp1, hK.mono (by simp)⟩

set_option maxRecDepth 100000 in
set_option maxHeartbeats 4000000 in
theorem do_flush_out10 (w : World) (p : Nat) (a : DA) (x : MA) (S : DS) (l u : Int) (h : Dev w p a S) (hp : At w p (powO l u)) (hm : MDev w x a.n S.ms) (hsep : Sep p a x) (d q v bits : Int) (hq : 0 ≤ q ∧ q ≤ 255) (hd : 0 ≤ d ∧ d ≤ 255) (i : Int) (hz : 0 < a.n) (h10 : ¬ 10 < q) (h0 : 0 ≤ i) (hi : ¬ i < a.n) (hd7 : d % 7 = 4) (hidx : idx a.n q = i) :
    Calls Try.prog 14 #[ptr x.m, ptr a.d, stepV d q v bits] w (DoPost p a x l u w) := by
  have hn := h.few
  have hnb : a.n ≤ 17592186044416 := by have := a.n8; omega
  have c0 := hm.mo.cell 0 rfl
  have l1 := hm.mo.lt
  have HIDX := hid hidx
  have hil := idx_low a.n q hq
  rw [hidx] at hil
  clear hidx
  have HSEP := hid hsep
  clear hsep
  have hc : ¬ (0 < a.n ∧ 10 < q) := fun h => h10 h.2
  have hn0 : decide (0 < (a.n : Int)) = true := by rw [decide_eq_true_iff]; omega
  have e10 : decide (10 < q) = false := by rw [decide_eq_false_iff_not]; omega
  have g0 : decide (0 ≤ i) = true := by rw [decide_eq_true_iff]; omega
  have g1 : decide (i < (a.n : Int)) = false := by rw [decide_eq_false_iff_not]; omega
  go_enter Try.func14, Try.ntmps14
  go_upto_if 33 with fail
  go_cut [8] (fun s8 wx => s8 = .int .i64 i ∧ At wx w.heap.size (stepO d q v bits) ∧ Keeps [] w wx)
  case first =>
    have hx := HIDX.out
    unfold idx at hx
    rw [if_neg hc] at hx
    have HX := hid hx
    clear hx
    go_wp2_with fail
    go_meet
    exact ⟨congrArg (Value.int .i64) HX.out, At.new _ _, (Keeps.refl _ _).alloc _⟩
  case rest =>
    obtain ⟨rfl, hB, hK⟩ := hcut
    have h1 := h.keep hK (by simp) (by simp) (by simp) (by simp)
    have hp1 := hK.at hp (by simp)
    have hm1 := hm.keep hK (by simp)
    have b0 := hB.cell 0 rfl
    have b1 := hB.cell 1 rfl
    have b2 := hB.cell 2 rfl
    have b3 := hB.cell 3 rfl
    have ZB : Hid (p < w.heap.size ∧ (a.d < w.heap.size ∧ a.s < w.heap.size ∧ a.k < w.heap.size ∧ a.m < w.heap.size) ∧ x.m < w.heap.size ∧ x.n < w.heap.size ∧ x.k < w.heap.size ∧ x.t < w.heap.size ∧ x.i < w.heap.size) := ⟨hp.lt, h.low, hm.low⟩
    clear c0 l1 h hp hm
    have HF := hid (flush_out _ p a S i h1 (by omega))
    clear b1
    go_wp2_with fail
    refine HF.out.mono ?_
    rintro e w2 ⟨rfl, rfl⟩
    go_wp2_with fail
    go_ret
    exact ⟨rfl, ⟨S, h1, hm1⟩, hp1, hK.mono (by simp)⟩

set_option maxRecDepth 100000 in
set_option maxHeartbeats 4000000 in
theorem do_flush_out11 (w : World) (p : Nat) (a : DA) (x : MA) (S : DS) (l u : Int) (h : Dev w p a S) (hp : At w p (powO l u)) (hm : MDev w x a.n S.ms) (hsep : Sep p a x) (d q v bits : Int) (hq : 0 ≤ q ∧ q ≤ 255) (hd : 0 ≤ d ∧ d ≤ 255) (i : Int) (hz : 0 < a.n) (h10 : ¬ 10 < q) (hi : ¬ 0 ≤ i) (hd7 : d % 7 = 4) (hidx : idx a.n q = i) :
    Calls Try.prog 14 #[ptr x.m, ptr a.d, stepV d q v bits] w (DoPost p a x l u w) := by
  have hn := h.few
  have hnb : a.n ≤ 17592186044416 := by have := a.n8; omega
  have c0 := hm.mo.cell 0 rfl
  have l1 := hm.mo.lt
  have HIDX := hid hidx
  have hil := idx_low a.n q hq
  rw [hidx] at hil
  clear hidx
  have HSEP := hid hsep
  clear hsep
  have hc : ¬ (0 < a.n ∧ 10 < q) := fun h => h10 h.2
  have hn0 : decide (0 < (a.n : Int)) = true := by rw [decide_eq_true_iff]; omega
  have e10 : decide (10 < q) = false := by rw [decide_eq_false_iff_not]; omega
  have g0 : decide (0 ≤ i) = false := by rw [decide_eq_false_iff_not]; omega
  go_enter Try.func14, Try.ntmps14
  go_upto_if 33 with fail
  go_cut [8] (fun s8 wx => s8 = .int .i64 i ∧ At wx w.heap.size (stepO d q v bits) ∧ Keeps [] w wx)
  case first =>
    have hx := HIDX.out
    unfold idx at hx
    rw [if_neg hc] at hx
    have HX := hid hx
    clear hx
    go_wp2_with fail
    go_meet
    exact ⟨congrArg (Value.int .i64) HX.out, At.new _ _, (Keeps.refl _ _).alloc _⟩
  case rest =>
    obtain ⟨rfl, hB, hK⟩ := hcut
    have h1 := h.keep hK (by simp) (by simp) (by simp) (by simp)
    have hp1 := hK.at hp (by simp)
    have hm1 := hm.keep hK (by simp)
    have b0 := hB.cell 0 rfl
    have b1 := hB.cell 1 rfl
    have b2 := hB.cell 2 rfl
    have b3 := hB.cell 3 rfl
    have ZB : Hid (p < w.heap.size ∧ (a.d < w.heap.size ∧ a.s < w.heap.size ∧ a.k < w.heap.size ∧ a.m < w.heap.size) ∧ x.m < w.heap.size ∧ x.n < w.heap.size ∧ x.k < w.heap.size ∧ x.t < w.heap.size ∧ x.i < w.heap.size) := ⟨hp.lt, h.low, hm.low⟩
    clear c0 l1 h hp hm
    have HF := hid (flush_out _ p a S i h1 (by omega))
    clear b1
    go_wp2_with fail
    refine HF.out.mono ?_
    rintro e w2 ⟨rfl, rfl⟩
    go_wp2_with fail
    go_ret
    exact ⟨rfl, ⟨S, h1, hm1⟩, hp1, hK.mono (by simp)⟩

theorem do_flush_out (w : World) (p : Nat) (a : DA) (x : MA) (S : DS) (l u : Int) (h : Dev w p a S) (hp : At w p (powO l u)) (hm : MDev w x a.n S.ms) (hsep : Sep p a x) (d q v bits : Int) (hq : 0 ≤ q ∧ q ≤ 255) (hd : 0 ≤ d ∧ d ≤ 255) (hi : ¬ (0 ≤ idx a.n q ∧ idx a.n q < a.n)) (hd7 : d % 7 = 4) :
    Calls Try.prog 14 #[ptr x.m, ptr a.d, stepV d q v bits] w (DoPost p a x l u w) := by
  by_cases hz : 0 < a.n
  · have h10 : ¬ 10 < q := by
      intro h10
      apply hi
      unfold idx
      rw [if_pos ⟨hz, h10⟩]
      exact ⟨Int.emod_nonneg q (by omega), Int.emod_lt_of_pos q (by omega)⟩
    by_cases h0 : 0 ≤ idx a.n q
    · exact do_flush_out10 w p a x S l u h hp hm hsep d q v bits hq hd _ hz h10 h0 (fun hl => hi ⟨h0, hl⟩) hd7 rfl
    · exact do_flush_out11 w p a x S l u h hp hm hsep d q v bits hq hd _ hz h10 h0 hd7 rfl
  · by_cases h0 : 0 ≤ idx a.n q
    · exact do_flush_out00 w p a x S l u h hp hm hsep d q v bits hq hd _ hz h0 (fun hl => hi ⟨h0, hl⟩) hd7 rfl
    · exact do_flush_out01 w p a x S l u h hp hm hsep d q v bits hq hd _ hz h0 hd7 rfl

set_option maxRecDepth 100000 in
set_option maxHeartbeats 4000000 in
theorem do_store_goes (w : World) (p : Nat) (a : DA) (x : MA) (S : DS) (l u : Int) (h : Dev w p a S) (hp : At w p (powO l u)) (hm : MDev w x a.n S.ms) (hsep : Sep p a x) (d q v bits : Int) (hq : 0 ≤ q ∧ q ≤ 255) (hd : 0 ≤ d ∧ d ≤ 255) (k : Nat) (hk : k < a.n) (hd7 : d % 7 < 4) (hu0 : 0 ≤ u) (hu1 : u < 9223372036854775807) (hl : l = u) (hidx : idx a.n q = (k : Int)) :
    Calls Try.prog 14 #[ptr x.m, ptr a.d, stepV d q v bits] w (DoGone p a x S l u w) := by
  have hn := h.few
  have hnb : a.n ≤ 17592186044416 := by have := a.n8; omega
  have c0 := hm.mo.cell 0 rfl
  have l1 := hm.mo.lt
  have HIDX := hid hidx
  have hil := idx_low a.n q hq
  rw [hidx] at hil
  clear hidx
  have HSEP := hid hsep
  clear hsep
  have hn0 : decide (0 < (a.n : Int)) = true := by rw [decide_eq_true_iff]; omega
  have hkn : decide ((k : Int) < (a.n : Int)) = true := by rw [decide_eq_true_iff]; omega
  have s4 : (d % 7 == 4) = false := by rw [beq_eq_false_iff_ne]; omega
  have s5 : (d % 7 == 5) = false := by rw [beq_eq_false_iff_ne]; omega
  have s6 : (d % 7 == 6) = false := by rw [beq_eq_false_iff_ne]; omega
  subst hl
  go_enter Try.func14, Try.ntmps14
  go_upto_if 33 with fail
  go_cut [8] (fun s8 wx => s8 = .int .i64 (k : Int) ∧ At wx w.heap.size (stepO d q v bits) ∧ Keeps [] w wx)
  case first =>
    have hx := HIDX.out
    unfold idx at hx
    by_cases h10 : 10 < q
    · have e10 : decide (10 < q) = true := by simpa using h10
      rw [if_pos ⟨by omega, h10⟩] at hx
      have HX := hid hx
      clear hx
      go_wp2_with fail
      go_meet
      exact ⟨congrArg (Value.int .i64) HX.out, At.new _ _, (Keeps.refl _ _).alloc _⟩
    · have e10 : decide (10 < q) = false := by simpa using h10
      rw [if_neg (fun h => h10 h.2)] at hx
      have HX := hid hx
      clear hx
      go_wp2_with fail
      go_meet
      exact ⟨congrArg (Value.int .i64) HX.out, At.new _ _, (Keeps.refl _ _).alloc _⟩
  case rest =>
    obtain ⟨rfl, hB, hK⟩ := hcut
    have h1 := h.keep hK (by simp) (by simp) (by simp) (by simp)
    have hp1 := hK.at hp (by simp)
    have hm1 := hm.keep hK (by simp)
    have b0 := hB.cell 0 rfl
    have b1 := hB.cell 1 rfl
    have b2 := hB.cell 2 rfl
    have b3 := hB.cell 3 rfl
    have ZB : Hid (p < w.heap.size ∧ (a.d < w.heap.size ∧ a.s < w.heap.size ∧ a.k < w.heap.size ∧ a.m < w.heap.size) ∧ x.m < w.heap.size ∧ x.n < w.heap.size ∧ x.k < w.heap.size ∧ x.t < w.heap.size ∧ x.i < w.heap.size) := ⟨hp.lt, h.low, hm.low⟩
    clear c0 l1 h hp hm
    have HF := hid (store_goes _ p a S l k v h1 hp1 hk hu0 hu1)
    go_wp2_with fail
    refine HF.out.mono ?_
    rintro e w2 ⟨rfl, h2, hp2, hk2⟩
    exact ⟨rfl, rfl, h2, hm1.keep hk2 (by simp), hp2, hK.trans hk2⟩

set_option maxRecDepth 100000 in
set_option maxHeartbeats 4000000 in
theorem do_store_out00 (w : World) (p : Nat) (a : DA) (x : MA) (S : DS) (l u : Int) (h : Dev w p a S) (hp : At w p (powO l u)) (hm : MDev w x a.n S.ms) (hsep : Sep p a x) (d q v bits : Int) (hq : 0 ≤ q ∧ q ≤ 255) (hd : 0 ≤ d ∧ d ≤ 255) (i : Int) (hz : ¬ 0 < a.n) (h0 : 0 ≤ i) (hi : ¬ i < a.n) (hd7 : d % 7 < 4) (hidx : idx a.n q = i) :
    Calls Try.prog 14 #[ptr x.m, ptr a.d, stepV d q v bits] w (DoPost p a x l u w) := by
  have hn := h.few
  have hnb : a.n ≤ 17592186044416 := by have := a.n8; omega
  have c0 := hm.mo.cell 0 rfl
  have l1 := hm.mo.lt
  have HIDX := hid hidx
  have hil := idx_low a.n q hq
  rw [hidx] at hil
  clear hidx
  have HSEP := hid hsep
  clear hsep
  have s4 : (d % 7 == 4) = false := by rw [beq_eq_false_iff_ne]; omega
  have s5 : (d % 7 == 5) = false := by rw [beq_eq_false_iff_ne]; omega
  have s6 : (d % 7 == 6) = false := by rw [beq_eq_false_iff_ne]; omega
  have hc : ¬ (0 < a.n ∧ 10 < q) := fun h => hz h.1
  have hn0 : decide (0 < (a.n : Int)) = false := by rw [decide_eq_false_iff_not]; omega
  have g0 : decide (0 ≤ i) = true := by rw [decide_eq_true_iff]; omega
  have g1 : decide (i < (a.n : Int)) = false := by rw [decide_eq_false_iff_not]; omega
  go_enter Try.func14, Try.ntmps14
  go_upto_if 33 with fail
  go_cut [8] (fun s8 wx => s8 = .int .i64 i ∧ At wx w.heap.size (stepO d q v bits) ∧ Keeps [] w wx)
  case first =>
    have hx := HIDX.out
    unfold idx at hx
    rw [if_neg hc] at hx
    have HX := hid hx
    clear hx
    go_wp2_with fail
    go_meet
    exact ⟨congrArg (Value.int .i64) HX.out, At.new _ _, (Keeps.refl _ _).alloc _⟩
  case rest =>
    obtain ⟨rfl, hB, hK⟩ := hcut
    have h1 := h.keep hK (by simp) (by simp) (by simp) (by simp)
    have hp1 := hK.at hp (by simp)
    have hm1 := hm.keep hK (by simp)
    have b0 := hB.cell 0 rfl
    have b1 := hB.cell 1 rfl
    have b2 := hB.cell 2 rfl
    have b3 := hB.cell 3 rfl
    have ZB : Hid (p < w.heap.size ∧ (a.d < w.heap.size ∧ a.s < w.heap.size ∧ a.k < w.heap.size ∧ a.m < w.heap.size) ∧ x.m < w.heap.size ∧ x.n < w.heap.size ∧ x.k < w.heap.size ∧ x.t < w.heap.size ∧ x.i < w.heap.size) := ⟨hp.lt, h.low, hm.low⟩
    clear c0 l1 h hp hm
    have HF := hid (store_out _ p a S i v h1 (by omega))
    clear b1
    go_wp2_with fail
    refine HF.out.mono ?_
    rintro e w2 ⟨rfl, rfl⟩
    go_wp2_with fail
    go_ret
    exact ⟨rfl, ⟨S, h1, hm1⟩, hp1, hK.mono (by simp)⟩

set_option maxRecDepth 100000 in
set_option maxHeartbeats 4000000 in
theorem do_store_out01 (w : World) (p : Nat) (a : DA) (x : MA) (S : DS) (l u : Int) (h : Dev w p a S) (hp : At w p (powO l u)) (hm : MDev w x a.n S.ms) (hsep : Sep p a x) (d q v bits : Int) (hq : 0 ≤ q ∧ q ≤ 255) (hd : 0 ≤ d ∧ d ≤ 255) (i : Int) (hz : ¬ 0 < a.n) (hi : ¬ 0 ≤ i) (hd7 : d % 7 < 4) (hidx : idx a.n q = i) :
    Calls Try.prog 14 #[ptr x.m, ptr a.d, stepV d q v bits] w (DoPost p a x l u w) := by
  have hn := h.few
  have hnb : a.n ≤ 17592186044416 := by have := a.n8; omega
  have c0 := hm.mo.cell 0 rfl
  have l1 := hm.mo.lt
  have HIDX := hid hidx
  have hil := idx_low a.n q hq
  rw [hidx] at hil
  clear hidx
  have HSEP := hid hsep
  clear hsep
  have s4 : (d % 7 == 4) = false := by rw [beq_eq_false_iff_ne]; omega
  have s5 : (d % 7 == 5) = false := by rw [beq_eq_false_iff_ne]; omega
  have s6 : (d % 7 == 6) = false := by rw [beq_eq_false_iff_ne]; omega
  have hc : ¬ (0 < a.n ∧ 10 < q) := fun h => hz h.1
  have hn0 : decide (0 < (a.n : Int)) = false := by rw [decide_eq_false_iff_not]; omega
  have g0 : decide (0 ≤ i) = false := by rw [decide_eq_false_iff_not]; omega
  go_enter Try.func14, Try.ntmps14
  go_upto_if 33 with fail
  go_cut [8] (fun s8 wx => s8 = .int .i64 i ∧ At wx w.heap.size (stepO d q v bits) ∧ Keeps [] w wx)
  case first =>
    have hx := HIDX.out
    unfold idx at hx
    rw [if_neg hc] at hx
    have HX := hid hx
    clear hx
    go_wp2_with fail
    go_meet
    exact ⟨congrArg (Value.int .i64) HX.out, At.new _ _, (Keeps.refl _ _).alloc _⟩
  case rest =>
    obtain ⟨rfl, hB, hK⟩ := hcut
    have h1 := h.keep hK (by simp) (by simp) (by simp) (by simp)
    have hp1 := hK.at hp (by simp)
    have hm1 := hm.keep hK (by simp)
    have b0 := hB.cell 0 rfl
    have b1 := hB.cell 1 rfl
    have b2 := hB.cell 2 rfl
    have b3 := hB.cell 3 rfl
    have ZB : Hid (p < w.heap.size ∧ (a.d < w.heap.size ∧ a.s < w.heap.size ∧ a.k < w.heap.size ∧ a.m < w.heap.size) ∧ x.m < w.heap.size ∧ x.n < w.heap.size ∧ x.k < w.heap.size ∧ x.t < w.heap.size ∧ x.i < w.heap.size) := ⟨hp.lt, h.low, hm.low⟩
    clear c0 l1 h hp hm
    have HF := hid (store_out _ p a S i v h1 (by omega))
    clear b1
    go_wp2_with fail
    refine HF.out.mono ?_
    rintro e w2 ⟨rfl, rfl⟩
    go_wp2_with fail
    go_ret
    exact ⟨rfl, ⟨S, h1, hm1⟩, hp1, hK.mono (by simp)⟩

set_option maxRecDepth 100000 in
set_option maxHeartbeats 4000000 in
theorem do_store_out10 (w : World) (p : Nat) (a : DA) (x : MA) (S : DS) (l u : Int) (h : Dev w p a S) (hp : At w p (powO l u)) (hm : MDev w x a.n S.ms) (hsep : Sep p a x) (d q v bits : Int) (hq : 0 ≤ q ∧ q ≤ 255) (hd : 0 ≤ d ∧ d ≤ 255) (i : Int) (hz : 0 < a.n) (h10 : ¬ 10 < q) (h0 : 0 ≤ i) (hi : ¬ i < a.n) (hd7 : d % 7 < 4) (hidx : idx a.n q = i) :
    Calls Try.prog 14 #[ptr x.m, ptr a.d, stepV d q v bits] w (DoPost p a x l u w) := by
  have hn := h.few
  have hnb : a.n ≤ 17592186044416 := by have := a.n8; omega
  have c0 := hm.mo.cell 0 rfl
  have l1 := hm.mo.lt
  have HIDX := hid hidx
  have hil := idx_low a.n q hq
  rw [hidx] at hil
  clear hidx
  have HSEP := hid hsep
  clear hsep
  have s4 : (d % 7 == 4) = false := by rw [beq_eq_false_iff_ne]; omega
  have s5 : (d % 7 == 5) = false := by rw [beq_eq_false_iff_ne]; omega
  have s6 : (d % 7 == 6) = false := by rw [beq_eq_false_iff_ne]; omega
  have hc : ¬ (0 < a.n ∧ 10 < q) := fun h => h10 h.2
  have hn0 : decide (0 < (a.n : Int)) = true := by rw [decide_eq_true_iff]; omega
  have e10 : decide (10 < q) = false := by rw [decide_eq_false_iff_not]; omega
  have g0 : decide (0 ≤ i) = true := by rw [decide_eq_true_iff]; omega
  have g1 : decide (i < (a.n : Int)) = false := by rw [decide_eq_false_iff_not]; omega
  go_enter Try.func14, Try.ntmps14
  go_upto_if 33 with fail
  go_cut [8] (fun s8 wx => s8 = .int .i64 i ∧ At wx w.heap.size (stepO d q v bits) ∧ Keeps [] w wx)
  case first =>
    have hx := HIDX.out
    unfold idx at hx
    rw [if_neg hc] at hx
    have HX := hid hx
    clear hx
    go_wp2_with fail
    go_meet
    exact ⟨congrArg (Value.int .i64) HX.out, At.new _ _, (Keeps.refl _ _).alloc _⟩
  case rest =>
    obtain ⟨rfl, hB, hK⟩ := hcut
    have h1 := h.keep hK (by simp) (by simp) (by simp) (by simp)
    have hp1 := hK.at hp (by simp)
    have hm1 := hm.keep hK (by simp)
    have b0 := hB.cell 0 rfl
    have b1 := hB.cell 1 rfl
    have b2 := hB.cell 2 rfl
    have b3 := hB.cell 3 rfl
    have ZB : Hid (p < w.heap.size ∧ (a.d < w.heap.size ∧ a.s < w.heap.size ∧ a.k < w.heap.size ∧ a.m < w.heap.size) ∧ x.m < w.heap.size ∧ x.n < w.heap.size ∧ x.k < w.heap.size ∧ x.t < w.heap.size ∧ x.i < w.heap.size) := ⟨hp.lt, h.low, hm.low⟩
    clear c0 l1 h hp hm
    have HF := hid (store_out _ p a S i v h1 (by omega))
    clear b1
    go_wp2_with fail
    refine HF.out.mono ?_
    rintro e w2 ⟨rfl, rfl⟩
    go_wp2_with fail
    go_ret
    exact ⟨rfl, ⟨S, h1, hm1⟩, hp1, hK.mono (by simp)⟩

set_option maxRecDepth 100000 in
set_option maxHeartbeats 4000000 in
theorem do_store_out11 (w : World) (p : Nat) (a : DA) (x : MA) (S : DS) (l u : Int) (h : Dev w p a S) (hp : At w p (powO l u)) (hm : MDev w x a.n S.ms) (hsep : Sep p a x) (d q v bits : Int) (hq : 0 ≤ q ∧ q ≤ 255) (hd : 0 ≤ d ∧ d ≤ 255) (i : Int) (hz : 0 < a.n) (h10 : ¬ 10 < q) (hi : ¬ 0 ≤ i) (hd7 : d % 7 < 4) (hidx : idx a.n q = i) :
    Calls Try.prog 14 #[ptr x.m, ptr a.d, stepV d q v bits] w (DoPost p a x l u w) := by
  have hn := h.few
  have hnb : a.n ≤ 17592186044416 := by have := a.n8; omega
  have c0 := hm.mo.cell 0 rfl
  have l1 := hm.mo.lt
  have HIDX := hid hidx
  have hil := idx_low a.n q hq
  rw [hidx] at hil
  clear hidx
  have HSEP := hid hsep
  clear hsep
  have s4 : (d % 7 == 4) = false := by rw [beq_eq_false_iff_ne]; omega
  have s5 : (d % 7 == 5) = false := by rw [beq_eq_false_iff_ne]; omega
  have s6 : (d % 7 == 6) = false := by rw [beq_eq_false_iff_ne]; omega
  have hc : ¬ (0 < a.n ∧ 10 < q) := fun h => h10 h.2
  have hn0 : decide (0 < (a.n : Int)) = true := by rw [decide_eq_true_iff]; omega
  have e10 : decide (10 < q) = false := by rw [decide_eq_false_iff_not]; omega
  have g0 : decide (0 ≤ i) = false := by rw [decide_eq_false_iff_not]; omega
  go_enter Try.func14, Try.ntmps14
  go_upto_if 33 with fail
  go_cut [8] (fun s8 wx => s8 = .int .i64 i ∧ At wx w.heap.size (stepO d q v bits) ∧ Keeps [] w wx)
  case first =>
    have hx := HIDX.out
    unfold idx at hx
    rw [if_neg hc] at hx
    have HX := hid hx
    clear hx
    go_wp2_with fail
    go_meet
    exact ⟨congrArg (Value.int .i64) HX.out, At.new _ _, (Keeps.refl _ _).alloc _⟩
  case rest =>
    obtain ⟨rfl, hB, hK⟩ := hcut
    have h1 := h.keep hK (by simp) (by simp) (by simp) (by simp)
    have hp1 := hK.at hp (by simp)
    have hm1 := hm.keep hK (by simp)
    have b0 := hB.cell 0 rfl
    have b1 := hB.cell 1 rfl
    have b2 := hB.cell 2 rfl
    have b3 := hB.cell 3 rfl
    have ZB : Hid (p < w.heap.size ∧ (a.d < w.heap.size ∧ a.s < w.heap.size ∧ a.k < w.heap.size ∧ a.m < w.heap.size) ∧ x.m < w.heap.size ∧ x.n < w.heap.size ∧ x.k < w.heap.size ∧ x.t < w.heap.size ∧ x.i < w.heap.size) := ⟨hp.lt, h.low, hm.low⟩
    clear c0 l1 h hp hm
    have HF := hid (store_out _ p a S i v h1 (by omega))
    clear b1
    go_wp2_with fail
    refine HF.out.mono ?_
    rintro e w2 ⟨rfl, rfl⟩
    go_wp2_with fail
    go_ret
    exact ⟨rfl, ⟨S, h1, hm1⟩, hp1, hK.mono (by simp)⟩

theorem do_store_out (w : World) (p : Nat) (a : DA) (x : MA) (S : DS) (l u : Int) (h : Dev w p a S) (hp : At w p (powO l u)) (hm : MDev w x a.n S.ms) (hsep : Sep p a x) (d q v bits : Int) (hq : 0 ≤ q ∧ q ≤ 255) (hd : 0 ≤ d ∧ d ≤ 255) (hi : ¬ (0 ≤ idx a.n q ∧ idx a.n q < a.n)) (hd7 : d % 7 < 4) :
    Calls Try.prog 14 #[ptr x.m, ptr a.d, stepV d q v bits] w (DoPost p a x l u w) := by
  by_cases hz : 0 < a.n
  · have h10 : ¬ 10 < q := by
      intro h10
      apply hi
      unfold idx
      rw [if_pos ⟨hz, h10⟩]
      exact ⟨Int.emod_nonneg q (by omega), Int.emod_lt_of_pos q (by omega)⟩
    by_cases h0 : 0 ≤ idx a.n q
    · exact do_store_out10 w p a x S l u h hp hm hsep d q v bits hq hd _ hz h10 h0 (fun hl => hi ⟨h0, hl⟩) hd7 rfl
    · exact do_store_out11 w p a x S l u h hp hm hsep d q v bits hq hd _ hz h10 h0 hd7 rfl
  · by_cases h0 : 0 ≤ idx a.n q
    · exact do_store_out00 w p a x S l u h hp hm hsep d q v bits hq hd _ hz h0 (fun hl => hi ⟨h0, hl⟩) hd7 rfl
    · exact do_store_out01 w p a x S l u h hp hm hsep d q v bits hq hd _ hz h0 hd7 rfl

end Go.Proofs.Ytbpoifcldjlblaa
