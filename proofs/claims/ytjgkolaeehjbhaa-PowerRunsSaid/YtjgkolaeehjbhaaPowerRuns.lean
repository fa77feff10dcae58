/- The walk of the law PowerRuns, a case a theorem. -/
import Derived.Test.YtjgkolaeehjbhaaRun
import Derived.OpenShut
namespace Go.Proofs.Ytjgkolaeehjbhaa
open Go.RowKit

set_option maxHeartbeats 1000000 in
theorem powerRuns_free (l : Int) (s a : Nat) (hs : s ≤ 255) (ha : a ≤ 255) (hl : l < 0) (W : World) :
    Calls Try.prog 3 #[.int .i64 l, .int .u8 s, .int .u8 a] W fun e w' => e = .returned (.bool true) ∧ Below W.heap.size W w' := by
  have N1 := hid (show more l 0 s = s by unfold more; rw [if_pos (by omega)])
  have N2 := hid (show more l (0 + (s : Nat)) a = a by unfold more; rw [if_pos (by omega)])
  go_enter Try.func3, Try.ntmps3
  go_wp2_with fail
  refine (awake_any _).mono ?_
  rintro e w1 ⟨rfl, hb1⟩
  have k1 := Below.keeps hb1 []
  have hS1 := k1.at ((At.new W (.cells #[.int .u8 s] 5)).alloc _) (by simp)
  have hG1 := k1.at (At.new (W.alloc (.cells #[.int .u8 s] 5)) (.cells #[.int .u8 a] 5)) (by simp)
  have z1 : W.heap.size + 2 ≤ w1.heap.size := by have := k1.size; simp at this; omega
  have K1 : Keeps [] W w1 := (((Keeps.refl [] W).alloc _).alloc _).trans k1
  simp only [World.size_alloc] at hG1
  clear hb1 k1
  go_wp2_with fail
  refine (new_at _ _).mono ?_
  rintro e w2 ⟨rfl, hA2, hz2, hK2⟩
  have hS2 := hK2.at hS1 (by simp)
  have hG2 := hK2.at hG1 (by simp)
  go_wp2_with fail
  have hp2 := At.new w2 (.cells #[ptr w1.heap.size] 23)
  have hd2 := At.new (w2.alloc (.cells #[ptr w1.heap.size] 23)) (.cells #[.int .i64 0] 3)
  have K2 := ((K1.trans hK2).alloc (.cells #[ptr w1.heap.size] 23)).alloc (.cells #[.int .i64 0] 3)
  simp only [World.size_alloc, hz2] at hp2 hd2
  refine (run_at2 11 _ _ _ (more l 0 s = s) ?_ (fun _ => by simp [go_sem]) (runs1_any _ _ _ _ s l 0 _ hs ((hS2.alloc _).alloc _) (hp2.alloc _) hd2 ((hA2.alloc _).alloc _) (by omega) (by omega) (by omega) (by omega) (by omega) (by omega))).mono ?_
  · rintro w o ⟨h1, h2, h3⟩
    exact ⟨h1.alloc _, h2.alloc _, h3.alloc _⟩
  rintro e w3 ⟨rfl, hA3, hD3, hK3⟩
  rw [N1.out] at hA3 hD3
  simp only [N1.out]
  have hS3 := hK3.at ((hS2.alloc _).alloc _) (by simp; omega)
  have hG3 := hK3.at ((hG2.alloc _).alloc _) (by simp; omega)
  have hp3 := hK3.at (hp2.alloc _) (by simp)
  have c1 := hS3.cell 0 rfl
  have c2 := hp3.cell 0 rfl
  have c3 := hD3.cell 0 rfl
  have K3 := (K2.mono (S' := [w1.heap.size, w1.heap.size + 1 + 1]) (by simp)).trans hK3
  go_wp2_with fail
  refine (used_at _ _ _ _ hA3).mono ?_
  rintro e w4 ⟨rfl, rfl⟩
  go_wp2_with fail
  refine (run_at 14 _ _ w1.heap.size l _ a (fun _ => by simp [go_sem]) (runs2_any _ _ _ a l _ _ ha hG3 hp3 hA3 (by omega) (by omega) (by omega) (by omega))).mono ?_
  rintro e w5 ⟨rfl, hA5, hK5⟩
  rw [N2.out] at hA5
  simp only [N2.out]
  have c4 := (hK5.at hG3 (by simp; omega)).cell 0 rfl
  have c5 := (hK5.at hp3 (by simp)).cell 0 rfl
  have K5 := K3.trans (hK5.mono (by simp +contextual))
  go_wp2_with fail
  refine (used_at _ _ _ _ hA5).mono ?_
  rintro e w6 ⟨rfl, rfl⟩
  go_wp2
  go_ret
  exact ⟨rfl, K5.below (Nat.le_refl _) (by simp; omega)⟩

set_option maxHeartbeats 1000000 in
theorem powerRuns_room (l : Int) (s a : Nat) (hs : s ≤ 255) (ha : a ≤ 255) (hl : s + a ≤ l) (hl2 : l ≤ 9223372036854775807) (W : World) :
    Calls Try.prog 3 #[.int .i64 l, .int .u8 s, .int .u8 a] W fun e w' => e = .returned (.bool true) ∧ Below W.heap.size W w' := by
  have N1 := hid (show more l 0 s = s by unfold more; rw [if_neg (by omega)]; omega)
  have N2 := hid (show more l (0 + (s : Nat)) a = a by unfold more; rw [if_neg (by omega)]; omega)
  go_enter Try.func3, Try.ntmps3
  go_wp2_with fail
  refine (awake_any _).mono ?_
  rintro e w1 ⟨rfl, hb1⟩
  have k1 := Below.keeps hb1 []
  have hS1 := k1.at ((At.new W (.cells #[.int .u8 s] 5)).alloc _) (by simp)
  have hG1 := k1.at (At.new (W.alloc (.cells #[.int .u8 s] 5)) (.cells #[.int .u8 a] 5)) (by simp)
  have z1 : W.heap.size + 2 ≤ w1.heap.size := by have := k1.size; simp at this; omega
  have K1 : Keeps [] W w1 := (((Keeps.refl [] W).alloc _).alloc _).trans k1
  simp only [World.size_alloc] at hG1
  clear hb1 k1
  go_wp2_with fail
  refine (new_at _ _).mono ?_
  rintro e w2 ⟨rfl, hA2, hz2, hK2⟩
  have hS2 := hK2.at hS1 (by simp)
  have hG2 := hK2.at hG1 (by simp)
  go_wp2_with fail
  have hp2 := At.new w2 (.cells #[ptr w1.heap.size] 23)
  have hd2 := At.new (w2.alloc (.cells #[ptr w1.heap.size] 23)) (.cells #[.int .i64 0] 3)
  have K2 := ((K1.trans hK2).alloc (.cells #[ptr w1.heap.size] 23)).alloc (.cells #[.int .i64 0] 3)
  simp only [World.size_alloc, hz2] at hp2 hd2
  refine (run_at2 11 _ _ _ (more l 0 s = s) ?_ (fun _ => by simp [go_sem]) (runs1_any _ _ _ _ s l 0 _ hs ((hS2.alloc _).alloc _) (hp2.alloc _) hd2 ((hA2.alloc _).alloc _) (by omega) (by omega) (by omega) (by omega) (by omega) (by omega))).mono ?_
  · rintro w o ⟨h1, h2, h3⟩
    exact ⟨h1.alloc _, h2.alloc _, h3.alloc _⟩
  rintro e w3 ⟨rfl, hA3, hD3, hK3⟩
  rw [N1.out] at hA3 hD3
  simp only [N1.out]
  have hS3 := hK3.at ((hS2.alloc _).alloc _) (by simp; omega)
  have hG3 := hK3.at ((hG2.alloc _).alloc _) (by simp; omega)
  have hp3 := hK3.at (hp2.alloc _) (by simp)
  have c1 := hS3.cell 0 rfl
  have c2 := hp3.cell 0 rfl
  have c3 := hD3.cell 0 rfl
  have K3 := (K2.mono (S' := [w1.heap.size, w1.heap.size + 1 + 1]) (by simp)).trans hK3
  go_wp2_with fail
  refine (used_at _ _ _ _ hA3).mono ?_
  rintro e w4 ⟨rfl, rfl⟩
  go_wp2_with fail
  refine (run_at 14 _ _ w1.heap.size l _ a (fun _ => by simp [go_sem]) (runs2_any _ _ _ a l _ _ ha hG3 hp3 hA3 (by omega) (by omega) (by omega) (by omega))).mono ?_
  rintro e w5 ⟨rfl, hA5, hK5⟩
  rw [N2.out] at hA5
  simp only [N2.out]
  have c4 := (hK5.at hG3 (by simp; omega)).cell 0 rfl
  have c5 := (hK5.at hp3 (by simp)).cell 0 rfl
  have K5 := K3.trans (hK5.mono (by simp +contextual))
  go_wp2_with fail
  refine (used_at _ _ _ _ hA5).mono ?_
  rintro e w6 ⟨rfl, rfl⟩
  go_wp2
  go_ret
  exact ⟨rfl, K5.below (Nat.le_refl _) (by simp; omega)⟩

set_option maxHeartbeats 1000000 in
theorem powerRuns_part (d : Nat) (s a : Nat) (hs : s ≤ 255) (ha : a ≤ 255) (hd : d < a) (W : World) :
    Calls Try.prog 3 #[.int .i64 (s + d : Int), .int .u8 s, .int .u8 a] W fun e w' => e = .returned (.bool true) ∧ Below W.heap.size W w' := by
  have N1 := hid (show more (s + d : Int) 0 s = s by unfold more; rw [if_neg (by omega)]; omega)
  have N2 := hid (show more (s + d : Int) (0 + (s : Nat)) a = d by unfold more; rw [if_neg (by omega)]; omega)
  have e1 : decide (d = a) = false := by simp; omega
  have e2 : ((s : Int) + d - s == (a : Int)) = false := by simp; omega
  have e3 : ((s : Int) + d == s + (s + d - s)) = true := by simp; omega
  go_enter Try.func3, Try.ntmps3
  go_wp2_with fail
  refine (awake_any _).mono ?_
  rintro e w1 ⟨rfl, hb1⟩
  have k1 := Below.keeps hb1 []
  have hS1 := k1.at ((At.new W (.cells #[.int .u8 s] 5)).alloc _) (by simp)
  have hG1 := k1.at (At.new (W.alloc (.cells #[.int .u8 s] 5)) (.cells #[.int .u8 a] 5)) (by simp)
  have z1 : W.heap.size + 2 ≤ w1.heap.size := by have := k1.size; simp at this; omega
  have K1 : Keeps [] W w1 := (((Keeps.refl [] W).alloc _).alloc _).trans k1
  simp only [World.size_alloc] at hG1
  clear hb1 k1
  go_wp2_with fail
  refine (new_at _ _).mono ?_
  rintro e w2 ⟨rfl, hA2, hz2, hK2⟩
  have hS2 := hK2.at hS1 (by simp)
  have hG2 := hK2.at hG1 (by simp)
  go_wp2_with fail
  have hp2 := At.new w2 (.cells #[ptr w1.heap.size] 23)
  have hd2 := At.new (w2.alloc (.cells #[ptr w1.heap.size] 23)) (.cells #[.int .i64 0] 3)
  have K2 := ((K1.trans hK2).alloc (.cells #[ptr w1.heap.size] 23)).alloc (.cells #[.int .i64 0] 3)
  simp only [World.size_alloc, hz2] at hp2 hd2
  refine (run_at2 11 _ _ _ (more (s + d : Int) 0 s = s) ?_ (fun _ => by simp [go_sem]) (runs1_any _ _ _ _ s (s + d : Int) 0 _ hs ((hS2.alloc _).alloc _) (hp2.alloc _) hd2 ((hA2.alloc _).alloc _) (by omega) (by omega) (by omega) (by omega) (by omega) (by omega))).mono ?_
  · rintro w o ⟨h1, h2, h3⟩
    exact ⟨h1.alloc _, h2.alloc _, h3.alloc _⟩
  rintro e w3 ⟨rfl, hA3, hD3, hK3⟩
  rw [N1.out] at hA3 hD3
  simp only [N1.out]
  have hS3 := hK3.at ((hS2.alloc _).alloc _) (by simp; omega)
  have hG3 := hK3.at ((hG2.alloc _).alloc _) (by simp; omega)
  have hp3 := hK3.at (hp2.alloc _) (by simp)
  have c1 := hS3.cell 0 rfl
  have c2 := hp3.cell 0 rfl
  have c3 := hD3.cell 0 rfl
  have K3 := (K2.mono (S' := [w1.heap.size, w1.heap.size + 1 + 1]) (by simp)).trans hK3
  go_wp2_with fail
  refine (used_at _ _ _ _ hA3).mono ?_
  rintro e w4 ⟨rfl, rfl⟩
  go_wp2_with fail
  refine (run_at 14 _ _ w1.heap.size (s + d : Int) _ a (fun _ => by simp [go_sem]) (runs2_any _ _ _ a (s + d : Int) _ _ ha hG3 hp3 hA3 (by omega) (by omega) (by omega) (by omega))).mono ?_
  rintro e w5 ⟨rfl, hA5, hK5⟩
  rw [N2.out] at hA5
  simp only [N2.out]
  have c4 := (hK5.at hG3 (by simp; omega)).cell 0 rfl
  have c5 := (hK5.at hp3 (by simp)).cell 0 rfl
  have K5 := K3.trans (hK5.mono (by simp +contextual))
  go_wp2_with fail
  refine (used_at _ _ _ _ hA5).mono ?_
  rintro e w6 ⟨rfl, rfl⟩
  go_wp2
  go_ret
  exact ⟨rfl, K5.below (Nat.le_refl _) (by simp; omega)⟩

set_option maxHeartbeats 1000000 in
theorem powerRuns_none (n : Nat) (s a : Nat) (hs : s ≤ 255) (ha : a ≤ 255) (hd : n < s) (ha0 : 0 < a) (W : World) :
    Calls Try.prog 3 #[.int .i64 (n : Int), .int .u8 s, .int .u8 a] W fun e w' => e = .returned (.bool true) ∧ Below W.heap.size W w' := by
  have N1 := hid (show more (n : Int) 0 s = n by unfold more; rw [if_neg (by omega)]; omega)
  have N2 := hid (show more (n : Int) (0 + (n : Nat)) a = 0 by unfold more; rw [if_neg (by omega)]; omega)
  have e1 : decide (n = s) = false := by simp; omega
  have e2 : ((n : Int) == (s : Int)) = false := by simp; omega
  have e3 : decide (0 = a) = false := by simp; omega
  have e4 : ((0 : Int) == (a : Int)) = false := by simp; omega
  go_enter Try.func3, Try.ntmps3
  go_wp2_with fail
  refine (awake_any _).mono ?_
  rintro e w1 ⟨rfl, hb1⟩
  have k1 := Below.keeps hb1 []
  have hS1 := k1.at ((At.new W (.cells #[.int .u8 s] 5)).alloc _) (by simp)
  have hG1 := k1.at (At.new (W.alloc (.cells #[.int .u8 s] 5)) (.cells #[.int .u8 a] 5)) (by simp)
  have z1 : W.heap.size + 2 ≤ w1.heap.size := by have := k1.size; simp at this; omega
  have K1 : Keeps [] W w1 := (((Keeps.refl [] W).alloc _).alloc _).trans k1
  simp only [World.size_alloc] at hG1
  clear hb1 k1
  go_wp2_with fail
  refine (new_at _ _).mono ?_
  rintro e w2 ⟨rfl, hA2, hz2, hK2⟩
  have hS2 := hK2.at hS1 (by simp)
  have hG2 := hK2.at hG1 (by simp)
  go_wp2_with fail
  have hp2 := At.new w2 (.cells #[ptr w1.heap.size] 23)
  have hd2 := At.new (w2.alloc (.cells #[ptr w1.heap.size] 23)) (.cells #[.int .i64 0] 3)
  have K2 := ((K1.trans hK2).alloc (.cells #[ptr w1.heap.size] 23)).alloc (.cells #[.int .i64 0] 3)
  simp only [World.size_alloc, hz2] at hp2 hd2
  refine (run_at2 11 _ _ _ (more (n : Int) 0 s = s) ?_ (fun _ => by simp [go_sem]) (runs1_any _ _ _ _ s (n : Int) 0 _ hs ((hS2.alloc _).alloc _) (hp2.alloc _) hd2 ((hA2.alloc _).alloc _) (by omega) (by omega) (by omega) (by omega) (by omega) (by omega))).mono ?_
  · rintro w o ⟨h1, h2, h3⟩
    exact ⟨h1.alloc _, h2.alloc _, h3.alloc _⟩
  rintro e w3 ⟨rfl, hA3, hD3, hK3⟩
  rw [N1.out] at hA3 hD3
  simp only [N1.out]
  have hS3 := hK3.at ((hS2.alloc _).alloc _) (by simp; omega)
  have hG3 := hK3.at ((hG2.alloc _).alloc _) (by simp; omega)
  have hp3 := hK3.at (hp2.alloc _) (by simp)
  have c1 := hS3.cell 0 rfl
  have c2 := hp3.cell 0 rfl
  have c3 := hD3.cell 0 rfl
  have K3 := (K2.mono (S' := [w1.heap.size, w1.heap.size + 1 + 1]) (by simp)).trans hK3
  go_wp2_with fail
  refine (used_at _ _ _ _ hA3).mono ?_
  rintro e w4 ⟨rfl, rfl⟩
  go_wp2_with fail
  refine (run_at 14 _ _ w1.heap.size (n : Int) _ a (fun _ => by simp [go_sem]) (runs2_any _ _ _ a (n : Int) _ _ ha hG3 hp3 hA3 (by omega) (by omega) (by omega) (by omega))).mono ?_
  rintro e w5 ⟨rfl, hA5, hK5⟩
  rw [N2.out] at hA5
  simp only [N2.out]
  have c4 := (hK5.at hG3 (by simp; omega)).cell 0 rfl
  have c5 := (hK5.at hp3 (by simp)).cell 0 rfl
  have K5 := K3.trans (hK5.mono (by simp +contextual))
  go_wp2_with fail
  refine (used_at _ _ _ _ hA5).mono ?_
  rintro e w6 ⟨rfl, rfl⟩
  go_wp2
  go_ret
  exact ⟨rfl, K5.below (Nat.le_refl _) (by simp; omega)⟩

set_option maxHeartbeats 1000000 in
theorem powerRuns_nil (n : Nat) (s : Nat) (hs : s ≤ 255) (hd : n < s)  (W : World) :
    Calls Try.prog 3 #[.int .i64 (n : Int), .int .u8 s, .int .u8 0] W fun e w' => e = .returned (.bool true) ∧ Below W.heap.size W w' := by
  have N1 := hid (show more (n : Int) 0 s = n by unfold more; rw [if_neg (by omega)]; omega)
  have N2 := hid (show more (n : Int) (0 + (n : Nat)) 0 = 0 by unfold more; rw [if_neg (by omega)]; omega)
  have e1 : decide (n = s) = false := by simp; omega
  have e2 : ((n : Int) == (s : Int)) = false := by simp; omega
  go_enter Try.func3, Try.ntmps3
  go_wp2_with fail
  refine (awake_any _).mono ?_
  rintro e w1 ⟨rfl, hb1⟩
  have k1 := Below.keeps hb1 []
  have hS1 := k1.at ((At.new W (.cells #[.int .u8 s] 5)).alloc _) (by simp)
  have hG1 := k1.at (At.new (W.alloc (.cells #[.int .u8 s] 5)) (.cells #[.int .u8 0] 5)) (by simp)
  have z1 : W.heap.size + 2 ≤ w1.heap.size := by have := k1.size; simp at this; omega
  have K1 : Keeps [] W w1 := (((Keeps.refl [] W).alloc _).alloc _).trans k1
  simp only [World.size_alloc] at hG1
  clear hb1 k1
  go_wp2_with fail
  refine (new_at _ _).mono ?_
  rintro e w2 ⟨rfl, hA2, hz2, hK2⟩
  have hS2 := hK2.at hS1 (by simp)
  have hG2 := hK2.at hG1 (by simp)
  go_wp2_with fail
  have hp2 := At.new w2 (.cells #[ptr w1.heap.size] 23)
  have hd2 := At.new (w2.alloc (.cells #[ptr w1.heap.size] 23)) (.cells #[.int .i64 0] 3)
  have K2 := ((K1.trans hK2).alloc (.cells #[ptr w1.heap.size] 23)).alloc (.cells #[.int .i64 0] 3)
  simp only [World.size_alloc, hz2] at hp2 hd2
  refine (run_at2 11 _ _ _ (more (n : Int) 0 s = s) ?_ (fun _ => by simp [go_sem]) (runs1_any _ _ _ _ s (n : Int) 0 _ hs ((hS2.alloc _).alloc _) (hp2.alloc _) hd2 ((hA2.alloc _).alloc _) (by omega) (by omega) (by omega) (by omega) (by omega) (by omega))).mono ?_
  · rintro w o ⟨h1, h2, h3⟩
    exact ⟨h1.alloc _, h2.alloc _, h3.alloc _⟩
  rintro e w3 ⟨rfl, hA3, hD3, hK3⟩
  rw [N1.out] at hA3 hD3
  simp only [N1.out]
  have hS3 := hK3.at ((hS2.alloc _).alloc _) (by simp; omega)
  have hG3 := hK3.at ((hG2.alloc _).alloc _) (by simp; omega)
  have hp3 := hK3.at (hp2.alloc _) (by simp)
  have c1 := hS3.cell 0 rfl
  have c2 := hp3.cell 0 rfl
  have c3 := hD3.cell 0 rfl
  have K3 := (K2.mono (S' := [w1.heap.size, w1.heap.size + 1 + 1]) (by simp)).trans hK3
  go_wp2_with fail
  refine (used_at _ _ _ _ hA3).mono ?_
  rintro e w4 ⟨rfl, rfl⟩
  go_wp2_with fail
  refine (run_at 14 _ _ w1.heap.size (n : Int) _ 0 (fun _ => by simp [go_sem]) (runs2_any _ _ _ 0 (n : Int) _ _ (by omega) hG3 hp3 hA3 (by omega) (by omega) (by omega) (by omega))).mono ?_
  rintro e w5 ⟨rfl, hA5, hK5⟩
  rw [N2.out] at hA5
  simp only [N2.out]
  have c4 := (hK5.at hG3 (by simp; omega)).cell 0 rfl
  have c5 := (hK5.at hp3 (by simp)).cell 0 rfl
  have K5 := K3.trans (hK5.mono (by simp +contextual))
  go_wp2_with fail
  refine (used_at _ _ _ _ hA5).mono ?_
  rintro e w6 ⟨rfl, rfl⟩
  go_wp2
  go_ret
  exact ⟨rfl, K5.below (Nat.le_refl _) (by simp; omega)⟩

theorem powerRuns_walk (l : Int) (s a : Int) (wl : (Lit.int .i64 l).wf = true) (ws : (Lit.int .u8 s).wf = true) (wa : (Lit.int .u8 a).wf = true) (W : World) :
    Calls Try.prog 3 #[.int .i64 l, .int .u8 s, .int .u8 a] W fun e w' => e = .returned (.bool true) ∧ Below W.heap.size W w' := by
  have bl := bounds_i64 wl
  have bs := bounds_u8 ws
  have ba := bounds_u8 wa
  clear wl ws wa
  obtain ⟨s, rfl⟩ := Int.eq_ofNat_of_zero_le bs.1
  obtain ⟨a, rfl⟩ := Int.eq_ofNat_of_zero_le ba.1
  by_cases h1 : l < 0
  · exact powerRuns_free l s a (by omega) (by omega) h1 W
  · obtain ⟨l, rfl⟩ := Int.eq_ofNat_of_zero_le (show 0 ≤ l by omega)
    by_cases h2 : l < s
    · by_cases h3 : a = 0
      · subst h3
        exact powerRuns_nil l s (by omega) h2 W
      · exact powerRuns_none l s a (by omega) (by omega) h2 (by omega) W
    · by_cases h3 : l < s + a
      · obtain ⟨d, rfl⟩ : ∃ d, l = s + d := ⟨l - s, by omega⟩
        rw [show ((s + d : Nat) : Int) = (s : Int) + (d : Int) from by omega]
        exact powerRuns_part d s a (by omega) (by omega) (by omega) W
      · exact powerRuns_room l s a (by omega) (by omega) (by omega) (by omega) W

end Go.Proofs.Ytjgkolaeehjbhaa
