/- Steps in a row, Run of them, and layer 1's fixed fact. -/
import Derived.Test.YtcdlikblebdfkaaGreatPow
import Derived.Deep.LoopGhost
import Derived.Deep.DeepMust
namespace Go.Proofs.YtcdlikblebdfkaaGreat
open Go.RowKit

/-- Of k steps so many are done. -/
def more (l u : Int) (k : Nat) : Nat := if l < 0 then k else min k (l - u).toNat

/-- How k steps end. -/
def RunAt (m : Nat) (l u : Int) (k : Nat) (w : World) (e : Ending) (w' : World) : Prop :=
  (e = if more l u k = k then .returned (.tuple #[]) else .panicked [{ v := goneV, recovered := false }]) ∧ At w' m (powO l (u + more l u k)) ∧ Keeps [m] w w'

abbrev ptr (b : Nat) : Value := .pointer (some ⟨b, 0, none⟩)

/-- One step of the round: the power stays. -/
theorem tick_stays (b : Nat) (l u : Int) (w : World) (h : At w b (powO l u)) (hu0 : 0 ≤ u) (hu1 : u < 9223372036854775807) (hs : l < 0 ∨ u < l) :
    Calls Tryz.prog 25 #[ptr b] w fun e w' => e = .returned (.tuple #[]) ∧ At w' b (powO l (u + 1)) ∧ Keeps [b] w w' := by
  refine (tick_at b l u w h hu0 hu1).mono ?_
  intro e w' ht
  unfold TickAt at ht
  rw [if_pos (by simp [staysB]; omega)] at ht
  exact ht

/-- And it goes. -/
theorem tick_goes (b : Nat) (l u : Int) (w : World) (h : At w b (powO l u)) (hu0 : 0 ≤ u) (hu1 : u < 9223372036854775807) (_h0 : 0 ≤ l) (hs : u = l) :
    Calls Tryz.prog 25 #[ptr b] w fun e w' => e = .panicked [{ v := goneV, recovered := false }] ∧ At w' b (powO l u) ∧ Keeps [] w w' := by
  refine (tick_at b l u w h hu0 hu1).mono ?_
  intro e w' ht
  unfold TickAt at ht
  rw [if_neg (by simp [staysB]; omega)] at ht
  exact ht


/-- Run, of what ends as k steps end. -/
theorem run_at (F : Nat) (cap : Array Value) (w : World) (m : Nat) (l u : Int) (k : Nat) (hinv : ∀ w, (callFunc F cap).run Tryz.prog w = .ok (.enter F cap) w)
    (h : Calls Tryz.prog F cap w (RunAt m l u k w)) :
    Calls Tryz.prog 121 #[.func (.func F) #[] cap] w fun e w' => e = .returned (.bool (decide (more l u k = k))) ∧ At w' m (powO l (u + more l u k)) ∧ Keeps [m] w w' := by
  by_cases hk : more l u k = k
  · refine (run_any F cap w (fun w' => At w' m (powO l (u + more l u k)) ∧ Keeps [m] w w') (fun _ => False) hinv (h.mono ?_)).mono ?_
    · rintro e w' ⟨he, ha, hkp⟩
      rw [if_pos hk] at he
      exact .inl ⟨he, ha, hkp⟩
    · rintro e w' (⟨he, ha, hkp⟩ | ⟨_, _, hf, _⟩)
      · exact ⟨by rw [he]; simp [hk], ha, hkp⟩
      · exact hf.elim
  · refine (run_any F cap w (fun _ => False) (fun w' => At w' m (powO l (u + more l u k)) ∧ Keeps [m] w w') hinv (h.mono ?_)).mono ?_
    · rintro e w' ⟨he, ha, hkp⟩
      rw [if_neg hk] at he
      exact .inr ⟨he, ha, hkp⟩
    · rintro e w' (⟨_, hf⟩ | ⟨he, w1, ⟨ha, hkp⟩, rfl⟩)
      · exact hf.elim
      · exact ⟨by rw [he]; simp [hk], ha.alloc _, hkp.alloc _⟩

/-- Run, of PowerRuns's first function. -/
theorem run_at2 (F : Nat) (cap : Array Value) (w : World) (R : World → Prop) (ok : Prop) [Decidable ok] (hR : ∀ w o, R w → R (w.alloc o)) (hinv : ∀ w, (callFunc F cap).run Tryz.prog w = .ok (.enter F cap) w)
    (h : Calls Tryz.prog F cap w fun e w' => (e = if ok then .returned (.tuple #[]) else .panicked [{ v := goneV, recovered := false }]) ∧ R w') :
    Calls Tryz.prog 121 #[.func (.func F) #[] cap] w fun e w' => e = .returned (.bool (decide ok)) ∧ R w' := by
  by_cases hk : ok
  · refine (run_any F cap w R (fun _ => False) hinv (h.mono ?_)).mono ?_
    · rintro e w' ⟨he, ha⟩
      rw [if_pos hk] at he
      exact .inl ⟨he, ha⟩
    · rintro e w' (⟨he, ha⟩ | ⟨_, _, hf, _⟩)
      · exact ⟨by rw [he]; simp [hk], ha⟩
      · exact hf.elim
  · refine (run_any F cap w (fun _ => False) R hinv (h.mono ?_)).mono ?_
    · rintro e w' ⟨he, ha⟩
      rw [if_neg hk] at he
      exact .inr ⟨he, ha⟩
    · rintro e w' (⟨_, hf⟩ | ⟨he, w1, ha, rfl⟩)
      · exact hf.elim
      · exact ⟨by rw [he]; simp [hk], hR _ _ ha⟩

theorem awake1_any (pb m : Nat) (w : World) (hpb : At w pb (.cells #[ptr m] 73)) (hm : At w m (powO 1 0)) (hs : pb ≠ m) :
    Calls Tryz.prog 122 #[ptr pb] w (RunAt m 1 0 2 w) := by
  have c1 := hpb.cell 0 rfl
  have T1 := hid (tick_stays m 1 0 w hm (by omega) (by omega) (by omega))
  go_enter Tryz.func122, Tryz.ntmps122
  go_wp2_with fail
  refine T1.out.mono ?_
  rintro e w1 ⟨rfl, hA1, hK1⟩
  have c2 := (hK1.at hpb (by simpa using hs)).cell 0 rfl
  have T2 := hid (tick_goes m 1 1 w1 hA1 (by omega) (by omega) (by omega) rfl)
  go_wp2_with fail
  refine T2.out.mono ?_
  rintro e w2 ⟨rfl, hA2, hK2⟩
  exact ⟨rfl, rfl, hA2, hK1.trans (hK2.mono (by simp))⟩

theorem awake2_any (w : World) : Calls Tryz.prog 124 #[] w fun e w' => e = .returned (.tuple #[]) ∧ w = w' := by
  go_enter Tryz.func124, Tryz.ntmps124
  go_wp2
  go_end0
  exact ⟨rfl, rfl⟩

/-- A fixed fact: the chapter's example. -/
theorem awake_any (w : World) : Calls Tryz.prog 107 #[] w fun e w' => e = .returned (.bool true) ∧ Below w.heap.size w w' := by
  go_enter Tryz.func107, Tryz.ntmps107
  go_wp2_with fail
  refine (new_at _ _).mono ?_
  rintro e w1 ⟨rfl, hA1, hs1, hK1⟩
  go_wp2_with fail
  have hp1 := At.new w1 (.cells #[ptr w.heap.size] 73)
  rw [hs1] at hp1
  refine (run_at 122 _ _ w.heap.size 1 0 2 (fun _ => by simp [go_sem]) (awake1_any _ _ _ hp1 (hA1.alloc _) (by omega))).mono ?_
  rintro e w2 ⟨rfl, hA2, hK2⟩
  have hp2 := hK2.at hp1 (by simp)
  have c2 := hp2.cell 0 rfl
  have hdd : decide (more 1 0 2 = 2) = false := rfl
  have hmm : more 1 0 2 = 1 := rfl
  go_wp2_with fail
  refine (used_at _ _ _ _ hA2).mono ?_
  rintro e w3 ⟨rfl, rfl⟩
  go_wp2_with fail
  refine (run_any 124 _ _ (fun w' => w2 = w') (fun _ => False) (fun _ => by simp [go_sem]) ((awake2_any _).mono fun e w' h => .inl h)).mono ?_
  rintro e w3 (⟨rfl, rfl⟩ | ⟨_, _, h, _⟩)
  · go_wp2
    go_ret
    exact ⟨rfl, (((hK1.alloc _).mono (S' := [w.heap.size]) (by simp)).trans hK2).below (Nat.le_refl _) (by simp)⟩
  · exact h.elim

end Go.Proofs.YtcdlikblebdfkaaGreat
