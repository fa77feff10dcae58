/- The walk of the law HeadChecks. -/
import Derived.Test.YtbfenihlkenbmaaHead
import Derived.Deep.RegionHeld3
import Derived.Deep.DeepCutAuto
namespace Go.Proofs.Ytbfenihlkenbmaa
open Go.RowKit Go.OpenShut

set_option maxHeartbeats 4000000 in
theorem headChecks_walk (n r : Int) (near : Bool) (W : World) (_hn : (Lit.int .i64 n).wf = true) (_hr : (Lit.int .i64 r).wf = true) :
    Calls Try.prog 4 #[.int .i64 n, .int .i64 r, .bool near] W fun e w' => e = .returned (.bool true) ∧ Below W.heap.size W w' := by
  have K0 := Keeps.refl [] W
  go_enter Try.func4, Try.ntmps4
  go_wp2_with fail
  refine (awake4_any _).mono ?_
  rintro e w1 ⟨rfl, hb1⟩
  have K1 := K0.trans (Go.Proofs.Ytbfenihlkenbmaa.Below.keeps hb1 [])
  clear hb1 K0
  cases near
  · have b1 := At.new w1 (hdO (n) (r))
    have K2 := K1.alloc (hdO (n) (r))
    rcases (show r < 0 ∨ n < r ∨ (0 ≤ r ∧ r ≤ n) by omega) with hh | hh | hh
    all_goals
      go_wp2_with fail
      all_goals
        refine (hcheck_any _ _ _).mono ?_
        rintro e w2 ⟨rfl, hK2⟩
        have b2 := hK2.at b1 (by simp)
        have K3 := K2.trans hK2
        have c0 := b2.cell 0 rfl
        have c1 := b2.cell 1 rfl
        clear hK2
        first
          | (rw [hdE_zero (by omega)]
             go_wp2_with fail
             go_ret
             exact ⟨rfl, K3.below (Nat.le_refl _) (by simp)⟩)
          | (rw [hdE_five (by omega)]
             go_wp2_with fail
             refine (hcheck_any _ _ _).mono ?_
             rintro e w3 ⟨rfl, hK3⟩
             rw [hdE_five (by omega)]
             go_wp2_with fail
             go_ret
             refine ⟨?_, (K3.trans hK3).below (Nat.le_refl _) (by simp)⟩
             first
               | rfl
               | (simp
                  omega))
  · have b1 := At.new w1 (hdO (n.tmod 70) (r.tmod 70))
    have K2 := K1.alloc (hdO (n.tmod 70) (r.tmod 70))
    rcases (show r.tmod 70 < 0 ∨ n.tmod 70 < r.tmod 70 ∨ (0 ≤ r.tmod 70 ∧ r.tmod 70 ≤ n.tmod 70) by omega) with hh | hh | hh
    all_goals
      go_wp2_with fail
      all_goals
        refine (hcheck_any _ _ _).mono ?_
        rintro e w2 ⟨rfl, hK2⟩
        have b2 := hK2.at b1 (by simp)
        have K3 := K2.trans hK2
        have c0 := b2.cell 0 rfl
        have c1 := b2.cell 1 rfl
        clear hK2
        first
          | (rw [hdE_zero (by omega)]
             go_wp2_with fail
             go_ret
             exact ⟨rfl, K3.below (Nat.le_refl _) (by simp)⟩)
          | (rw [hdE_five (by omega)]
             go_wp2_with fail
             refine (hcheck_any _ _ _).mono ?_
             rintro e w3 ⟨rfl, hK3⟩
             rw [hdE_five (by omega)]
             go_wp2_with fail
             go_ret
             refine ⟨?_, (K3.trans hK3).below (Nat.le_refl _) (by simp)⟩
             first
               | rfl
               | (simp
                  omega))

end Go.Proofs.Ytbfenihlkenbmaa
