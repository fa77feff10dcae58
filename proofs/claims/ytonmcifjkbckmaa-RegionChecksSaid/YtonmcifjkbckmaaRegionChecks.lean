/- The walk of the law RegionChecks. -/
import Derived.Test.YtonmcifjkbckmaaReg
namespace Go.Proofs.Ytonmcifjkbckmaa
open Go.RowKit Go.OpenShut

theorem chkE_zero {l r s : Int} (h : 1 ≤ r ∧ r ≤ 16 ∧ r + 2 ≤ l ∧ l ≤ 200 ∧ 8 ≤ s ∧ s ≤ 4096) : chkE l r s = 0 := by
  have : cfgB l r s = true := by simp [cfgB]; omega
  simp [chkE, this]

theorem chkE_one {l r s : Int} (h : r < 1 ∨ 16 < r ∨ l < r + 2 ∨ 200 < l ∨ s < 8 ∨ 4096 < s) : chkE l r s = 1 := by
  have : cfgB l r s = false := by
    rw [Bool.eq_false_iff]
    simp [cfgB]
    omega
  simp [chkE, this]

set_option maxHeartbeats 1000000 in
theorem regionChecks_walk (l r s : Int) (near : Bool) (W : World) (_wl : (Lit.int .i64 l).wf = true) (_wr : (Lit.int .i64 r).wf = true) (_ws : (Lit.int .i64 s).wf = true) :
    Calls Try.prog 3 #[.int .i64 l, .int .i64 r, .int .i64 s, .bool near] W fun e w' => e = .returned (.bool true) ∧ Below W.heap.size W w' := by
  go_enter Try.func3, Try.ntmps3
  go_wp2_with fail
  refine (awake3_any _).mono ?_
  rintro e w1 ⟨rfl, hb1⟩
  have K1 : Keeps [] W w1 := Go.Proofs.Ytonmcifjkbckmaa.Below.keeps hb1 []
  clear hb1
  cases near
  all_goals
    go_wp2_with fail
    all_goals
      refine (check_any _ _ _ _).mono ?_
      rintro e w2 ⟨rfl, hK2⟩
      first
        | (rw [chkE_zero]
           rotate_left
           · omega)
        | (rw [chkE_one]
           rotate_left
           · omega)
      go_wp2_with fail
      go_ret
      exact ⟨rfl, ((K1.alloc _).trans hK2).below (Nat.le_refl _) (by simp)⟩

end Go.Proofs.Ytonmcifjkbckmaa
