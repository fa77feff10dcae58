/- The walk of the law PowerMore. -/
import Derived.Test.YtjgkolaeehjbhaaRun
import Derived.OpenShut
namespace Go.Proofs.Ytjgkolaeehjbhaa
open Go.RowKit

theorem more1_any (sb m : Nat) (k : Nat) (l u : Int) (w : World) (hk : k ≤ 255) (hsb : At w sb (.cells #[.int .u8 k] 5)) (hm : At w m (powO l u)) (hu0 : 0 ≤ u) (hu1 : u + k < 9223372036854775807) (hlu : l < 0 ∨ u ≤ l) :
    Calls Try.prog 17 #[ptr m, ptr sb] w fun e w' => e = .returned (.bool (decide (more l u k = k))) ∧ At w' m (powO l (u + more l u k)) ∧ Keeps [m] w w' := by
  have hp := At.new w (.cells #[ptr m] 23)
  have R := hid (run_at 18 #[ptr sb, ptr w.heap.size] _ m l u k (fun _ => by simp [go_sem]) (more11_any sb w.heap.size m k l u _ hk (hsb.alloc _) hp (hm.alloc _) hu0 hu1 hlu (by have := hm.lt; omega)))
  go_enter Try.func17, Try.ntmps17
  go_wp2_with fail
  refine R.out.mono ?_
  rintro e w1 ⟨rfl, hA1, hK1⟩
  go_wp2
  go_ret
  exact ⟨rfl, hA1, ((Keeps.refl [m] w).alloc _).trans hK1⟩

set_option maxHeartbeats 1000000 in
theorem powerMore_go (l m s n1 n2 : Nat) (o1 o2 : Bool) (hl : l ≤ 255) (hm : m ≤ 255) (hs : s ≤ 255) (W : World) (N1 : Hid (more l 0 s = n1)) (N2 : Hid (more (l + m) 0 s = n2))
    (O1 : Hid (decide (n1 = s) = o1)) (O2 : Hid (decide (n2 = s) = o2)) (hle : n1 ≤ n2) (ho : o1 = true → o2 = true ∧ n1 = n2) :
    Calls Try.prog 6 #[.int .u8 l, .int .u8 m, .int .u8 s] W fun e w' => e = .returned (.bool true) ∧ Below W.heap.size W w' := by
  have HO := hid ho
  clear ho
  have q1 : decide (n1 ≤ n2) = true := by simpa using hle
  go_enter Try.func6, Try.ntmps6
  go_wp2_with fail
  refine (awake_any _).mono ?_
  rintro e w1 ⟨rfl, hb1⟩
  have k1 := Below.keeps hb1 []
  have hS1 := k1.at (At.new W (.cells #[.int .u8 s] 5)) (by simp)
  have z1 : W.heap.size + 1 ≤ w1.heap.size := by have := k1.size; simp at this; omega
  have K1 : Keeps [] W w1 := ((Keeps.refl [] W).alloc _).trans k1
  clear hb1 k1
  go_wp2_with fail
  refine (new_at _ _).mono ?_
  rintro e w2 ⟨rfl, hA2, hz2, hK2⟩
  go_wp2_with fail
  refine (new_at _ _).mono ?_
  rintro e w3 ⟨rfl, hB3, hz3, hK3⟩
  have hA3 := hK3.at hA2 (by simp)
  have hS3 := hK3.at (hK2.at hS1 (by simp)) (by simp)
  have K3 := (K1.trans hK2).trans hK3
  simp only [hz2] at hB3
  clear hz3
  go_wp2_with fail
  refine (more1_any _ _ s _ _ _ hs hS3 hA3 (by omega) (by omega) (by omega)).mono ?_
  rintro e w4 ⟨rfl, hA4, hK4⟩
  rw [N1.out] at hA4
  simp only [N1.out, O1.out]
  have hB4 := hK4.at hB3 (by simp)
  have hS4 := hK4.at hS3 (by simp; omega)
  go_wp2_with fail
  refine (more1_any _ _ s _ _ _ hs hS4 hB4 (by omega) (by omega) (by omega)).mono ?_
  rintro e w5 ⟨rfl, hB5, hK5⟩
  rw [N2.out] at hB5
  simp only [N2.out, O2.out]
  have hA5 := hK5.at hA4 (by simp)
  have K5 := ((K3.mono (S' := [w1.heap.size, w1.heap.size + 1]) (by simp)).trans (hK4.mono (by simp +contextual))).trans (hK5.mono (by simp +contextual))
  have U1 := hid (used_at _ _ _ _ hA5)
  have U2 := hid (used_at _ _ _ _ hB5)
  go_wp2_with fail
  refine U1.out.mono ?_
  rintro e w6 ⟨rfl, rfl⟩
  go_wp2_with fail
  refine U2.out.mono ?_
  rintro e w6 ⟨rfl, rfl⟩
  cases o1
  · go_wp2
    go_ret
    exact ⟨rfl, K5.below (Nat.le_refl _) (by simp; omega)⟩
  · obtain ⟨h1, h2⟩ := HO.out rfl
    subst h1
    have U3 := hid (used_at _ _ _ _ hA5)
    have U4 := hid (used_at _ _ _ _ hB5)
    have q2 : n1 = n2 := h2
    have Q2 := hid q2
    clear q2 h2
    go_wp2_with fail
    refine U3.out.mono ?_
    rintro e w6 ⟨rfl, rfl⟩
    go_wp2_with fail
    refine U4.out.mono ?_
    rintro e w6 ⟨rfl, rfl⟩
    have q3 := Q2.out
    subst q3
    go_wp2
    go_ret
    exact ⟨rfl, K5.below (Nat.le_refl _) (by simp; omega)⟩

theorem powerMore_walk (l m s : Int) (wl : (Lit.int .u8 l).wf = true) (wm : (Lit.int .u8 m).wf = true) (ws : (Lit.int .u8 s).wf = true) (W : World) :
    Calls Try.prog 6 #[.int .u8 l, .int .u8 m, .int .u8 s] W fun e w' => e = .returned (.bool true) ∧ Below W.heap.size W w' := by
  have bl := bounds_u8 wl
  have bm := bounds_u8 wm
  have bs := bounds_u8 ws
  clear wl wm ws
  obtain ⟨l, rfl⟩ := Int.eq_ofNat_of_zero_le bl.1
  obtain ⟨m, rfl⟩ := Int.eq_ofNat_of_zero_le bm.1
  obtain ⟨s, rfl⟩ := Int.eq_ofNat_of_zero_le bs.1
  have h1 : more l 0 s = min s l := by unfold more; rw [if_neg (by omega)]; omega
  have h2 : more (l + m) 0 s = min s (l + m) := by unfold more; rw [if_neg (by omega)]; omega
  refine powerMore_go l m s _ _ _ _ (by omega) (by omega) (by omega) W h1 h2 rfl rfl (by omega) ?_
  simp
  omega

end Go.Proofs.Ytjgkolaeehjbhaa
