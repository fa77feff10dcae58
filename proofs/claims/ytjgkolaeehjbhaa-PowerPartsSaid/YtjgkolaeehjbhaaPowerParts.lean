/- The walk of the law PowerParts. -/
import Derived.Test.YtjgkolaeehjbhaaRun
import Derived.OpenShut
namespace Go.Proofs.Ytjgkolaeehjbhaa
open Go.RowKit

theorem parts1_any (m : Nat) (k : Nat) (l u : Int) (w : World) (hk : k ≤ 65535) (hm : At w m (powO l u)) (hu0 : 0 ≤ u) (hu1 : u + k < 9223372036854775807) (hlu : l < 0 ∨ u ≤ l) :
    Calls Try.prog 19 #[ptr m, .int .i64 k] w fun e w' => e = .returned (.bool (decide (more l u k = k))) ∧ At w' m (powO l (u + more l u k)) ∧ Keeps [m] w w' := by
  have hp := (At.new w (.cells #[ptr m] 23)).alloc (.cells #[.int .i64 k] 3)
  have hn := At.new (w.alloc (.cells #[ptr m] 23)) (.cells #[.int .i64 k] 3)
  simp only [World.size_alloc] at hn
  have R := hid (run_at 20 #[ptr (w.heap.size + 1), ptr w.heap.size] _ m l u k (fun _ => by simp [go_sem]) (parts11_any (w.heap.size + 1) w.heap.size m k l u _ hk hn hp ((hm.alloc _).alloc _) hu0 hu1 hlu (by have := hm.lt; omega)))
  go_enter Try.func19, Try.ntmps19
  go_wp2_with fail
  refine R.out.mono ?_
  rintro e w1 ⟨rfl, hA1, hK1⟩
  go_wp2
  go_ret
  exact ⟨rfl, hA1, (((Keeps.refl [m] w).alloc _).alloc _).trans hK1⟩

set_option maxHeartbeats 1000000 in
theorem powerParts_go (l a b m1 m2 : Nat) (o o1 o2 : Bool) (hl : l ≤ 255) (ha : a ≤ 255) (hb : b ≤ 255) (W : World) (N1 : Hid (more l 0 (a + b) = m1 + m2)) (M1 : Hid (more l 0 a = m1)) (M2 : Hid (more l m1 b = m2))
    (O : Hid (decide (m1 + m2 = a + b) = o)) (O1 : Hid (decide (m1 = a) = o1)) (O2 : Hid (decide (m2 = b) = o2)) (ho : o = (o1 && o2)) (hm1 : m1 ≤ l) :
    Calls Try.prog 7 #[.int .u8 l, .int .u8 a, .int .u8 b] W fun e w' => e = .returned (.bool true) ∧ Below W.heap.size W w' := by
  have HO := hid ho
  clear ho
  go_enter Try.func7, Try.ntmps7
  go_wp2_with fail
  refine (awake_any _).mono ?_
  rintro e w1 ⟨rfl, hb1⟩
  have K1 := Below.keeps hb1 []
  have z1 := K1.size
  clear hb1
  go_wp2_with fail
  refine (new_at _ _).mono ?_
  rintro e w2 ⟨rfl, hA2, hz2, hK2⟩
  go_wp2_with fail
  refine (new_at _ _).mono ?_
  rintro e w3 ⟨rfl, hB3, hz3, hK3⟩
  have hA3 := hK3.at hA2 (by simp)
  have K3 := (K1.trans hK2).trans hK3
  simp only [hz2] at hB3
  clear hz3
  go_wp2_with fail
  rw [show ((a : Int) + (b : Int)) = ((a + b : Nat) : Int) from by omega]
  refine (parts1_any _ (a + b) _ _ _ (by omega) hA3 (by omega) (by omega) (by omega)).mono ?_
  rintro e w4 ⟨rfl, hA4, hK4⟩
  rw [N1.out] at hA4
  simp only [N1.out, O.out]
  have hB4 := hK4.at hB3 (by simp)
  go_wp2_with fail
  refine (parts1_any _ a _ _ _ (by omega) hB4 (by omega) (by omega) (by omega)).mono ?_
  rintro e w5 ⟨rfl, hB5, hK5⟩
  rw [M1.out] at hB5
  simp only [M1.out, O1.out]
  have hA5 := hK5.at hA4 (by simp)
  rw [show (0 : Int) + (m1 : Int) = m1 from by omega] at hB5
  go_wp2_with fail
  refine (parts1_any _ b _ _ _ (by omega) hB5 (by omega) (by omega) (by omega)).mono ?_
  rintro e w6 ⟨rfl, hB6, hK6⟩
  rw [M2.out] at hB6
  simp only [M2.out, O2.out]
  have hA6 := hK6.at hA5 (by simp)
  rw [show (0 : Int) + ((m1 + m2 : Nat) : Int) = m1 + m2 from by omega] at hA6
  have K6 := (((K3.mono (S' := [w1.heap.size, w1.heap.size + 1]) (by simp)).trans (hK4.mono (by simp +contextual))).trans (hK5.mono (by simp +contextual))).trans (hK6.mono (by simp +contextual))
  have U1 := hid (used_at _ _ _ _ hA6)
  have U2 := hid (used_at _ _ _ _ hB6)
  have HOO := HO.out
  subst HOO
  go_wp2_with fail
  refine U1.out.mono ?_
  rintro e w7 ⟨rfl, rfl⟩
  go_wp2_with fail
  refine U2.out.mono ?_
  rintro e w7 ⟨rfl, rfl⟩
  cases o1 <;> cases o2
  all_goals
    go_wp2
    go_ret
    exact ⟨rfl, K6.below (Nat.le_refl _) (by simp; omega)⟩

theorem powerParts_walk (l a b : Int) (wl : (Lit.int .u8 l).wf = true) (wa : (Lit.int .u8 a).wf = true) (wb : (Lit.int .u8 b).wf = true) (W : World) :
    Calls Try.prog 7 #[.int .u8 l, .int .u8 a, .int .u8 b] W fun e w' => e = .returned (.bool true) ∧ Below W.heap.size W w' := by
  have bl := bounds_u8 wl
  have ba := bounds_u8 wa
  have bb := bounds_u8 wb
  clear wl wa wb
  obtain ⟨l, rfl⟩ := Int.eq_ofNat_of_zero_le bl.1
  obtain ⟨a, rfl⟩ := Int.eq_ofNat_of_zero_le ba.1
  obtain ⟨b, rfl⟩ := Int.eq_ofNat_of_zero_le bb.1
  have h1 : more l 0 a = min a l := by unfold more; rw [if_neg (by omega)]; omega
  have h2 : more l (min a l : Nat) b = min b (l - min a l) := by unfold more; rw [if_neg (by omega)]; omega
  have h3 : more l 0 (a + b) = min a l + min b (l - min a l) := by unfold more; rw [if_neg (by omega)]; omega
  refine powerParts_go l a b _ _ _ _ _ (by omega) (by omega) (by omega) W h3 h1 h2 rfl rfl rfl ?_ (by omega)
  rw [Bool.eq_iff_iff]
  simp
  omega

end Go.Proofs.Ytjgkolaeehjbhaa
