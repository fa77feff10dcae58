/- The walk of the law HeadUnpacks. -/
import Derived.Test.YtbfenihlkenbmaaHead
import Derived.Deep.RegionHeld3
import Derived.Deep.DeepCutAuto
namespace Go.Proofs.Ytbfenihlkenbmaa
open Go.RowKit Go.OpenShut

theorem andR (N : Nat) (h : N < 18446744073709551616) : bits .and .u64 ((N : Int) / 4294967296) 16777215 = (hdR N : Nat) := by
  have : ((N : Int) / 4294967296) = ((N / 4294967296 : Nat) : Int) := by simp
  rw [this, show (16777215 : Int) = ((16777215 : Nat) : Int) from rfl, u64_and_nat _ _ (by omega) (by decide)]
  rw [show (16777215 : Nat) = 2 ^ 24 - 1 from rfl, Nat.and_two_pow_sub_one_eq_mod]
  rfl

theorem andN (N : Nat) (h : N < 18446744073709551616) : bits .and .u64 (N : Int) 4294967295 = (hdN N : Nat) := by
  rw [show (4294967295 : Int) = ((4294967295 : Nat) : Int) from rfl, u64_and_nat _ _ (by omega) (by decide)]
  rw [show (4294967295 : Nat) = 2 ^ 32 - 1 from rfl, Nat.and_two_pow_sub_one_eq_mod]
  rfl

theorem isHd_yes {N : Nat} (h : isHd N = true) : (N : Int) / 72057594037927936 = 177 ∧ hdN N ≤ 64 ∧ hdR N ≤ hdN N := by
  simp [isHd] at h
  exact ⟨by omega, h.2⟩

theorem isHd_not {N : Nat} (h : isHd N = false) : ((N : Int) / 72057594037927936 == 177) = false ∨ ((N : Int) / 72057594037927936 = 177 ∧ 64 < (hdN N : Int)) ∨ ((N : Int) / 72057594037927936 = 177 ∧ (hdN N : Int) ≤ 64 ∧ hdN N < hdR N) := by
  rw [Bool.eq_false_iff] at h
  simp [isHd] at h
  by_cases h1 : N / 72057594037927936 = 177
  · have h2 := h h1
    omega
  · left
    rw [beq_eq_false_iff_ne]
    omega

set_option maxRecDepth 100000 in
set_option maxHeartbeats 4000000 in
theorem headUnpacks_walk (x : Int) (small : Bool) (t : Int) (W : World) (hx : (Lit.int .u64 x).wf = true) (ht : (Lit.int .u8 t).wf = true) :
    Calls Try.prog 5 #[.int .u64 x, .bool small, .int .u8 t] W fun e w' => e = .returned (.bool true) ∧ Below W.heap.size W w' := by
  have hx' := bounds_u64 hx
  have ht' := bounds_u8 ht
  have K0 := Keeps.refl [] W
  go_enter Try.func5, Try.ntmps5
  go_wp2_with fail
  refine (awake4_any _).mono ?_
  rintro e w1 ⟨rfl, hb1⟩
  have K1 := K0.trans (Go.Proofs.Ytbfenihlkenbmaa.Below.keeps hb1 [])
  clear hb1 K0
  cases small
  · go_wp2_with fail
    obtain ⟨N, hN, hN1⟩ : ∃ N : Nat, (N : Int) = x ∧ N < 18446744073709551616 := ⟨x.toNat, by omega, by omega⟩
    subst hN
    clear hx hx' ht ht'
    have A1 : Hid (bits .and .u64 ((N : Int) / 4294967296) 16777215 = (hdR N : Nat)) := andR N hN1
    have A2 : Hid (bits .and .u64 (N : Int) 4294967295 = (hdN N : Nat)) := andN N hN1
    have a1 := A1.out
    have a2 := A2.out
    refine (hunpack_at _ N hN1).mono ?_
    rintro e w2 ⟨rfl, hK⟩
    have K2 := K1.trans hK
    clear K1 hK hN1
    cases hi : isHd N
    · have hV : Hid (unV N = .tuple #[hdV 0 0, .bool false]) := by show _ = _; simp [unV, hi]
      rw [hV.out]
      rcases isHd_not hi with t1 | ⟨t1, n1⟩ | ⟨t1, n1, r1⟩
      · clear hi hV
        go_wp2_with fail
        go_ret
        exact ⟨rfl, (K2.alloc _).below (Nat.le_refl _) (by simp)⟩
      · clear hi hV
        go_wp2_with fail
        go_ret
        exact ⟨rfl, (K2.alloc _).below (Nat.le_refl _) (by simp)⟩
      · have r2 : decide (hdR N ≤ hdN N) = false := by simp; omega
        have r3 : (!decide (hdR N ≤ hdN N)) = true := by simp; omega
        clear hi hV
        go_wp2_with fail
        go_ret
        exact ⟨rfl, (K2.alloc _).below (Nat.le_refl _) (by simp)⟩
    · have hV : Hid (unV N = .tuple #[hdV (hdN N) (hdR N), .bool true]) := by show _ = _; simp [unV, hi]
      rw [hV.out]
      obtain ⟨t1, n1, r1⟩ := isHd_yes hi
      have n2 : (hdN N : Int) ≤ 64 := by omega
      have n3 : (hdR N : Int) ≤ 64 := by omega
      have r2 : decide (hdR N ≤ hdN N) = true := by simp; omega
      have r3 : (!decide (hdR N ≤ hdN N)) = false := by simp; omega
      clear hi hV
      go_wp2_with fail
      go_ret
      exact ⟨rfl, (K2.alloc _).below (Nat.le_refl _) (by simp)⟩
  · go_wp2_with fail
    have hz := bounds_u64 (wf_bits .xor .u64 (bits .or .u64 (bits .or .u64 12754194144713244672 (x % 9 * 4294967296)) (x / 256 % 70)) (IntKind.u64.wrap (IntKind.u64.wrap (bits .and .u8 t 1) * 2 ^ (t % 64).toNat)))
    generalize bits .xor .u64 (bits .or .u64 (bits .or .u64 12754194144713244672 (x % 9 * 4294967296)) (x / 256 % 70)) (IntKind.u64.wrap (IntKind.u64.wrap (bits .and .u8 t 1) * 2 ^ (t % 64).toNat)) = y at hz ⊢
    obtain ⟨N, hN, hN1⟩ : ∃ N : Nat, (N : Int) = y ∧ N < 18446744073709551616 := ⟨y.toNat, by omega, by omega⟩
    subst hN
    clear hx hx' ht ht' hz
    have A1 : Hid (bits .and .u64 ((N : Int) / 4294967296) 16777215 = (hdR N : Nat)) := andR N hN1
    have A2 : Hid (bits .and .u64 (N : Int) 4294967295 = (hdN N : Nat)) := andN N hN1
    have a1 := A1.out
    have a2 := A2.out
    refine (hunpack_at _ N hN1).mono ?_
    rintro e w2 ⟨rfl, hK⟩
    have K2 := K1.trans hK
    clear K1 hK hN1
    cases hi : isHd N
    · have hV : Hid (unV N = .tuple #[hdV 0 0, .bool false]) := by show _ = _; simp [unV, hi]
      rw [hV.out]
      rcases isHd_not hi with t1 | ⟨t1, n1⟩ | ⟨t1, n1, r1⟩
      · clear hi hV
        go_wp2_with fail
        go_ret
        exact ⟨rfl, (K2.alloc _).below (Nat.le_refl _) (by simp)⟩
      · clear hi hV
        go_wp2_with fail
        go_ret
        exact ⟨rfl, (K2.alloc _).below (Nat.le_refl _) (by simp)⟩
      · have r2 : decide (hdR N ≤ hdN N) = false := by simp; omega
        have r3 : (!decide (hdR N ≤ hdN N)) = true := by simp; omega
        clear hi hV
        go_wp2_with fail
        go_ret
        exact ⟨rfl, (K2.alloc _).below (Nat.le_refl _) (by simp)⟩
    · have hV : Hid (unV N = .tuple #[hdV (hdN N) (hdR N), .bool true]) := by show _ = _; simp [unV, hi]
      rw [hV.out]
      obtain ⟨t1, n1, r1⟩ := isHd_yes hi
      have n2 : (hdN N : Int) ≤ 64 := by omega
      have n3 : (hdR N : Int) ≤ 64 := by omega
      have r2 : decide (hdR N ≤ hdN N) = true := by simp; omega
      have r3 : (!decide (hdR N ≤ hdN N)) = false := by simp; omega
      clear hi hV
      go_wp2_with fail
      go_ret
      exact ⟨rfl, (K2.alloc _).below (Nat.le_refl _) (by simp)⟩

end Go.Proofs.Ytbfenihlkenbmaa
