/- The walk of the law PowerNests, a case a theorem. -/
import Derived.Test.YtjgkolaeehjbhaaRun
import Derived.OpenShut
namespace Go.Proofs.Ytjgkolaeehjbhaa
open Go.RowKit

/-- How PowerNests's function ends. -/
def Nests1 (m ib hb : Nat) (l : Int) (a b : Nat) (w : World) (e : Ending) (w' : World) : Prop :=
  (e = if more l (more l 0 a) b = b then .returned (.tuple #[]) else .panicked [{ v := goneV, recovered := false }]) ∧
    (At w' m (powO l ((more l 0 a : Nat) + (more l (more l 0 a) b : Nat))) ∧ At w' ib (.cells #[.bool (decide (more l 0 a = a))] 4) ∧ At w' hb (.cells #[.bool true] 4) ∧ Keeps [m, ib, hb] w w')

def Nests1P (m ib hb : Nat) (l : Int) (a b n1 n2 : Nat) (w : World) (e : Ending) (w' : World) : Prop :=
  (e = if n2 = b then .returned (.tuple #[]) else .panicked [{ v := goneV, recovered := false }]) ∧
    (At w' m (powO l (n1 + n2)) ∧ At w' ib (.cells #[.bool (decide (n1 = a))] 4) ∧ At w' hb (.cells #[.bool true] 4) ∧ Keeps [m, ib, hb] w w')

theorem more_room (l : Int) (a : Nat) (hl : 0 ≤ l) : l < 0 ∨ ((more l 0 a : Nat) : Int) ≤ l := by unfold more; split <;> omega
theorem more_le (l u : Int) (k : Nat) : more l u k ≤ k := by unfold more; split <;> omega

set_option maxHeartbeats 1000000 in
theorem nests1_any (ab pb ib hb bb m : Nat) (a b : Nat) (x y : Bool) (l : Int) (w : World) (ha : a ≤ 255) (hbb : b ≤ 255) (hl : 0 ≤ l)
    (hab : At w ab (.cells #[.int .u8 a] 5)) (hpb : At w pb (.cells #[ptr m] 23)) (hib : At w ib (.cells #[.bool x] 4)) (hhb : At w hb (.cells #[.bool y] 4))
    (hbt : At w bb (.cells #[.int .u8 b] 5)) (hm : At w m (powO l 0)) (d1 : pb ≠ m) (d2 : ib ≠ m) (d3 : hb ≠ m) (d4 : pb ≠ ib) (d5 : pb ≠ hb) (d6 : ib ≠ hb) (d7 : bb ≠ m) (d8 : bb ≠ ib) (d9 : bb ≠ hb) :
    Calls Try.prog 15 #[ptr ab, ptr pb, ptr ib, ptr hb, ptr bb] w (Nests1 m ib hb l a b w) := by
  have R1 := hid (run_at 16 #[ptr ab, ptr pb] w m l 0 a (fun _ => by simp [go_sem]) (nests11_any _ _ _ a l _ _ ha hab hpb hm (by omega) (by omega) (by omega) d1))
  unfold Nests1
  have M1 := more_room l a hl
  have M2 := more_le l 0 a
  generalize more l 0 a = n1 at R1 M1 M2 ⊢
  obtain ⟨n2, hn2⟩ : ∃ n2, more l n1 b = n2 := ⟨_, rfl⟩
  have N2 := hid hn2
  rw [hn2]
  clear hn2
  have HP : Hid (∀ (e : Ending) (w' : World), Nests1P m ib hb l a b n1 n2 w e w' → ((e = if n2 = b then Ending.returned (.tuple #[]) else Ending.panicked [{ v := goneV, recovered := false }]) ∧ At w' m (powO l (↑n1 + ↑n2)) ∧ At w' ib (.cells #[.bool (decide (n1 = a))] 4) ∧ At w' hb (.cells #[.bool true] 4) ∧ Keeps [m, ib, hb] w w')) := fun e w' h => h
  refine Calls.mono ?_ HP.out
  go_enter Try.func15, Try.ntmps15
  go_wp2_with fail
  refine R1.out.mono ?_
  rintro e w1 ⟨rfl, hA1, hK1⟩
  have hi1 := hK1.at hib (by simpa using d2)
  have hh1 := hK1.at hhb (by simpa using d3)
  have hb1 := hK1.at hbt (by simpa using d7)
  have hp1 := hK1.at hpb (by simpa using d1)
  have c1 := hi1.cell 0 rfl
  have c2 := hi1.free 0
  have c3 := hh1.cell 0 rfl
  have c4 := hh1.free 0
  have c5 := hb1.cell 0 rfl
  go_wp2_with fail
  have hA2 := (hA1.set_ne (a := ⟨ib, 0, none⟩) (fun h => d2 h.symm) (.bool (decide (n1 = a)))).set_ne (a := ⟨hb, 0, none⟩) (fun h => d3 h.symm) (.bool true)
  have hi2 := (hi1.set 0 (.bool (decide (n1 = a)))).set_ne (a := ⟨hb, 0, none⟩) d6 (.bool true)
  have hh2 := (hh1.set_ne (a := ⟨ib, 0, none⟩) (fun h => d6 h.symm) (.bool (decide (n1 = a)))).set 0 (.bool true)
  have hp2 := (hp1.set_ne (a := ⟨ib, 0, none⟩) d4 (.bool (decide (n1 = a)))).set_ne (a := ⟨hb, 0, none⟩) d5 (.bool true)
  have K2 := ((hK1.mono (S' := [m, ib, hb]) (by simp +contextual)).set (p := ⟨ib, 0, none⟩) (.inl (by simp)) (.bool (decide (n1 = a)))).set (p := ⟨hb, 0, none⟩) (.inl (by simp)) (.bool true)
  generalize (w1.setCell ⟨ib, 0, none⟩ (.bool (decide (n1 = a)))).setCell ⟨hb, 0, none⟩ (.bool true) = w2 at *
  go_loopg [8] b (fun r i wr => ∃ x : Nat, x + r = b ∧ i = .int .u8 x ∧ At wr m (powO l (n1 + x)) ∧ At wr ib (.cells #[.bool (decide (n1 = a))] 4) ∧ At wr hb (.cells #[.bool true] 4) ∧ At wr pb (.cells #[ptr m] 23) ∧ Keeps [m, ib, hb] w wr ∧ (n1 + x ≤ l))
  case atStart => exact ⟨0, by omega, rfl, by simpa using hA2, hi2, hh2, hp2, K2, by omega⟩
  case round =>
    clear hA2 hi2 hh2 hp2 K2 hA1 hi1 hh1 hp1 c1 c2 c3 c4 c5 hb1
    obtain ⟨x, hx, rfl, hA, hi, hh, hp, hK, hle⟩ := hrel
    have c2 := hp.cell 0 rfl
    by_cases hlt : x < b
    · by_cases hst : n1 + x < l
      · have T := hid (tick_stays m l (n1 + x) wr hA (by omega) (by omega) (.inr hst))
        have HST := hid hst
        clear hst
        go_wp2_with fail
        refine T.out.mono ?_
        rintro e w3 ⟨rfl, hA3, hK3⟩
        go_wp2
        go_roundg (b - (x + 1))
        case measure => omega
        case rel =>
          refine ⟨x + 1, by omega, by go_num, ?_, hK3.at hi (by simpa using d2), hK3.at hh (by simpa using d3), hK3.at hp (by simpa using d1), hK.trans (hK3.mono (by simp +contextual)), by have := HST.out; omega⟩
          rw [show (n1 : Int) + ((x + 1 : Nat) : Int) = n1 + x + 1 from by omega]; exact hA3
      · have T := hid (tick_goes m l (n1 + x) wr hA (by omega) (by omega) (by omega) (by omega))
        have HMO : Hid (n2 = x) := hid (by rw [← N2.out]; unfold more; rw [if_neg (by omega)]; omega)
        have HLT := hid hlt
        clear hst
        go_wp2_with fail
        refine T.out.mono ?_
        rintro e w3 ⟨rfl, hA3, hK3⟩
        refine ⟨rfl, ?_, ?_, hK3.at hi (by simp), hK3.at hh (by simp), hK.trans (hK3.mono (by simp))⟩
        · rw [HMO.out, if_neg (by have := HLT.out; omega)]
        · rw [HMO.out]; exact hA3
    · have HMO : Hid (n2 = b) := hid (by rw [← N2.out]; unfold more; split <;> omega)
      have hxk : x = b := by omega
      subst hxk
      go_wp2
      go_end0
      exact ⟨by rw [HMO.out, if_pos rfl], by rw [HMO.out]; exact hA, hi, hh, hK⟩

set_option maxHeartbeats 2000000 in
theorem powerNests_room (l : Int) (a b : Nat) (ha : a ≤ 255) (hb : b ≤ 255) (hl0 : 0 ≤ l) (hl : l ≤ 255) (hr : a + b ≤ l) (W : World) :
    Calls Try.prog 4 #[.int .u8 l, .int .u8 a, .int .u8 b] W fun e w' => e = .returned (.bool true) ∧ Below W.heap.size W w' := by
  have N1 := hid (show more l 0 a = a by unfold more; rw [if_neg (by omega)]; omega)
  have N2 := hid (show more l (a : Nat) b = b by unfold more; rw [if_neg (by omega)]; omega)
  go_enter Try.func4, Try.ntmps4
  go_wp2_with fail
  refine (awake_any _).mono ?_
  rintro e w1 ⟨rfl, hb1⟩
  have k1 := Below.keeps hb1 []
  have hS1 := k1.at ((At.new W (.cells #[.int .u8 a] 5)).alloc _) (by simp)
  have hG1 := k1.at (At.new (W.alloc (.cells #[.int .u8 a] 5)) (.cells #[.int .u8 b] 5)) (by simp)
  have z1 : W.heap.size + 2 ≤ w1.heap.size := by have := k1.size; simp at this; omega
  have K1 : Keeps [] W w1 := (((Keeps.refl [] W).alloc _).alloc _).trans k1
  simp only [World.size_alloc] at hG1
  clear hb1 k1
  go_wp2_with fail
  refine (new_at _ _).mono ?_
  rintro e w2 ⟨rfl, hA2, hz2, hK2⟩
  have hS2 := hK2.at hS1 (by simp)
  have hG2 := hK2.at hG1 (by simp)
  go_wp2_with fail
  have hp2 := ((At.new w2 (.cells #[ptr w1.heap.size] 23)).alloc (.cells #[.bool true] 4)).alloc (.cells #[.bool false] 4)
  have hi2 := (At.new (w2.alloc (.cells #[ptr w1.heap.size] 23)) (.cells #[.bool true] 4)).alloc (.cells #[.bool false] 4)
  have hh2 := At.new ((w2.alloc (.cells #[ptr w1.heap.size] 23)).alloc (.cells #[.bool true] 4)) (.cells #[.bool false] 4)
  have K2 := (((K1.trans hK2).alloc (.cells #[ptr w1.heap.size] 23)).alloc (.cells #[.bool true] 4)).alloc (.cells #[.bool false] 4)
  have hA2' := ((hA2.alloc (.cells #[ptr w1.heap.size] 23)).alloc (.cells #[.bool true] 4)).alloc (.cells #[.bool false] 4)
  have hS2' := ((hS2.alloc (.cells #[ptr w1.heap.size] 23)).alloc (.cells #[.bool true] 4)).alloc (.cells #[.bool false] 4)
  have hG2' := ((hG2.alloc (.cells #[ptr w1.heap.size] 23)).alloc (.cells #[.bool true] 4)).alloc (.cells #[.bool false] 4)
  simp only [World.size_alloc, hz2] at hp2 hi2 hh2
  generalize hw : ((w2.alloc (.cells #[ptr w1.heap.size] 23)).alloc (.cells #[.bool true] 4)).alloc (.cells #[.bool false] 4) = wb at *
  clear hw
  refine (run_at2 15 _ _ _ (more l (more l 0 a) b = b) ?_ (fun _ => by simp [go_sem]) (nests1_any _ _ _ _ _ w1.heap.size a b _ _ l wb ha hb (by omega) hS2' hp2 hi2 hh2 hG2' hA2' (by omega) (by omega) (by omega) (by omega) (by omega) (by omega) (by omega) (by omega) (by omega))).mono ?_
  · rintro w o ⟨h1, h2, h3, h4⟩
    exact ⟨h1.alloc _, h2.alloc _, h3.alloc _, h4.alloc _⟩
  rintro e w3 ⟨rfl, hA3, hi3, hh3, hK3⟩
  rw [N1.out, N2.out] at hA3
  rw [N1.out] at hi3
  simp only [N1.out, N2.out]
  have c1 := (hK3.at hS2' (by simp; omega)).cell 0 rfl
  have c2 := (hK3.at hG2' (by simp; omega)).cell 0 rfl
  have c3 := (hK3.at hp2 (by simp)).cell 0 rfl
  have c4 := hi3.cell 0 rfl
  have c5 := hh3.cell 0 rfl
  have K3 := (K2.mono (S' := [w1.heap.size, w1.heap.size + 1 + 1, w1.heap.size + 1 + 1 + 1]) (by simp)).trans hK3
  have U : Hid (∀ w', w'.heap = w3.heap → Calls Try.prog 13 #[ptr w1.heap.size] w' fun e w'' => e = .returned (.int .i64 (a + b)) ∧ w'' = w') := fun w' hw' =>
    (used_at w1.heap.size _ _ w' (show w'.heap[w1.heap.size]? = _ from by rw [hw']; exact hA3)).mono fun _ _ h => ⟨h.1, h.2.symm⟩
  simp only [decide_true] at c4
  go_wp2
  have q1 : IntKind.i64.wrap (a : Int) = a := IntWalk.i64_in _ (by omega)
  have q2 : IntKind.i64.wrap (b : Int) = b := IntWalk.i64_in _ (by omega)
  have q3 : IntKind.i64.wrap l = l := IntWalk.i64_in _ (by omega)
  have q4 : IntKind.i64.wrap ((a : Int) + b) = (a : Int) + b := IntWalk.i64_in _ (by omega)
  have q5 : decide ((a : Int) + b ≤ l) = true := by simp; omega
  go_quiet ((go_at_call 13; exact Calls.quiet_of_same (U.out _ rfl)))
  go_wp2
  go_ret
  exact ⟨rfl, (K3.drewN nq).below (Nat.le_refl _) (by simp; omega)⟩

set_option maxHeartbeats 2000000 in
theorem powerNests_part (d : Nat) (a b : Nat) (ha : a ≤ 255) (hb : b ≤ 255) (hl0 : 0 ≤ (a + d : Int)) (hl : (a + d : Int) ≤ 255) (hd : d < b) (W : World) :
    Calls Try.prog 4 #[.int .u8 (a + d : Int), .int .u8 a, .int .u8 b] W fun e w' => e = .returned (.bool true) ∧ Below W.heap.size W w' := by
  have N1 := hid (show more (a + d : Int) 0 a = a by unfold more; rw [if_neg (by omega)]; omega)
  have N2 := hid (show more (a + d : Int) (a : Nat) b = d by unfold more; rw [if_neg (by omega)]; omega)
  have e1 : decide (d = b) = false := by simp; omega
  go_enter Try.func4, Try.ntmps4
  go_wp2_with fail
  refine (awake_any _).mono ?_
  rintro e w1 ⟨rfl, hb1⟩
  have k1 := Below.keeps hb1 []
  have hS1 := k1.at ((At.new W (.cells #[.int .u8 a] 5)).alloc _) (by simp)
  have hG1 := k1.at (At.new (W.alloc (.cells #[.int .u8 a] 5)) (.cells #[.int .u8 b] 5)) (by simp)
  have z1 : W.heap.size + 2 ≤ w1.heap.size := by have := k1.size; simp at this; omega
  have K1 : Keeps [] W w1 := (((Keeps.refl [] W).alloc _).alloc _).trans k1
  simp only [World.size_alloc] at hG1
  clear hb1 k1
  go_wp2_with fail
  refine (new_at _ _).mono ?_
  rintro e w2 ⟨rfl, hA2, hz2, hK2⟩
  have hS2 := hK2.at hS1 (by simp)
  have hG2 := hK2.at hG1 (by simp)
  go_wp2_with fail
  have hp2 := ((At.new w2 (.cells #[ptr w1.heap.size] 23)).alloc (.cells #[.bool true] 4)).alloc (.cells #[.bool false] 4)
  have hi2 := (At.new (w2.alloc (.cells #[ptr w1.heap.size] 23)) (.cells #[.bool true] 4)).alloc (.cells #[.bool false] 4)
  have hh2 := At.new ((w2.alloc (.cells #[ptr w1.heap.size] 23)).alloc (.cells #[.bool true] 4)) (.cells #[.bool false] 4)
  have K2 := (((K1.trans hK2).alloc (.cells #[ptr w1.heap.size] 23)).alloc (.cells #[.bool true] 4)).alloc (.cells #[.bool false] 4)
  have hA2' := ((hA2.alloc (.cells #[ptr w1.heap.size] 23)).alloc (.cells #[.bool true] 4)).alloc (.cells #[.bool false] 4)
  have hS2' := ((hS2.alloc (.cells #[ptr w1.heap.size] 23)).alloc (.cells #[.bool true] 4)).alloc (.cells #[.bool false] 4)
  have hG2' := ((hG2.alloc (.cells #[ptr w1.heap.size] 23)).alloc (.cells #[.bool true] 4)).alloc (.cells #[.bool false] 4)
  simp only [World.size_alloc, hz2] at hp2 hi2 hh2
  generalize hw : ((w2.alloc (.cells #[ptr w1.heap.size] 23)).alloc (.cells #[.bool true] 4)).alloc (.cells #[.bool false] 4) = wb at *
  clear hw
  refine (run_at2 15 _ _ _ (more (a + d : Int) (more (a + d : Int) 0 a) b = b) ?_ (fun _ => by simp [go_sem]) (nests1_any _ _ _ _ _ w1.heap.size a b _ _ (a + d : Int) wb ha hb (by omega) hS2' hp2 hi2 hh2 hG2' hA2' (by omega) (by omega) (by omega) (by omega) (by omega) (by omega) (by omega) (by omega) (by omega))).mono ?_
  · rintro w o ⟨h1, h2, h3, h4⟩
    exact ⟨h1.alloc _, h2.alloc _, h3.alloc _, h4.alloc _⟩
  rintro e w3 ⟨rfl, hA3, hi3, hh3, hK3⟩
  rw [N1.out, N2.out] at hA3
  rw [N1.out] at hi3
  simp only [N1.out, N2.out]
  have c1 := (hK3.at hS2' (by simp; omega)).cell 0 rfl
  have c2 := (hK3.at hG2' (by simp; omega)).cell 0 rfl
  have c3 := (hK3.at hp2 (by simp)).cell 0 rfl
  have c4 := hi3.cell 0 rfl
  have c5 := hh3.cell 0 rfl
  have K3 := (K2.mono (S' := [w1.heap.size, w1.heap.size + 1 + 1, w1.heap.size + 1 + 1 + 1]) (by simp)).trans hK3
  have U : Hid (∀ w', w'.heap = w3.heap → Calls Try.prog 13 #[ptr w1.heap.size] w' fun e w'' => e = .returned (.int .i64 (a + d)) ∧ w'' = w') := fun w' hw' =>
    (used_at w1.heap.size _ _ w' (show w'.heap[w1.heap.size]? = _ from by rw [hw']; exact hA3)).mono fun _ _ h => ⟨h.1, h.2.symm⟩
  simp only [decide_true] at c4
  go_wp2
  have q1 : IntKind.i64.wrap (a : Int) = a := IntWalk.i64_in _ (by omega)
  have q2 : IntKind.i64.wrap (b : Int) = b := IntWalk.i64_in _ (by omega)
  have q3 : IntKind.i64.wrap (a + d : Int) = (a + d : Int) := IntWalk.i64_in _ (by omega)
  have q4 : IntKind.i64.wrap ((a : Int) + b) = (a : Int) + b := IntWalk.i64_in _ (by omega)
  have q5 : decide (b ≤ d) = false := by simp; omega
  go_quiet ((go_at_call 13; exact Calls.quiet_of_same (U.out _ rfl)))
  go_wp2
  go_ret
  exact ⟨rfl, (K3.drewN nq).below (Nat.le_refl _) (by simp; omega)⟩

set_option maxHeartbeats 2000000 in
theorem powerNests_none (n : Nat) (a b : Nat) (ha : a ≤ 255) (hb : b ≤ 255) (hl0 : 0 ≤ (n : Int)) (hl : (n : Int) ≤ 255) (hd : n < a) (hb0 : 0 < b) (W : World) :
    Calls Try.prog 4 #[.int .u8 (n : Int), .int .u8 a, .int .u8 b] W fun e w' => e = .returned (.bool true) ∧ Below W.heap.size W w' := by
  have N1 := hid (show more (n : Int) 0 a = n by unfold more; rw [if_neg (by omega)]; omega)
  have N2 := hid (show more (n : Int) (n : Nat) b = 0 by unfold more; rw [if_neg (by omega)]; omega)
  have e1 : decide (n = a) = false := by simp; omega
  have e2 : ((n : Int) == (a : Int)) = false := by simp; omega
  have e3 : decide (0 = b) = false := by simp; omega
  go_enter Try.func4, Try.ntmps4
  go_wp2_with fail
  refine (awake_any _).mono ?_
  rintro e w1 ⟨rfl, hb1⟩
  have k1 := Below.keeps hb1 []
  have hS1 := k1.at ((At.new W (.cells #[.int .u8 a] 5)).alloc _) (by simp)
  have hG1 := k1.at (At.new (W.alloc (.cells #[.int .u8 a] 5)) (.cells #[.int .u8 b] 5)) (by simp)
  have z1 : W.heap.size + 2 ≤ w1.heap.size := by have := k1.size; simp at this; omega
  have K1 : Keeps [] W w1 := (((Keeps.refl [] W).alloc _).alloc _).trans k1
  simp only [World.size_alloc] at hG1
  clear hb1 k1
  go_wp2_with fail
  refine (new_at _ _).mono ?_
  rintro e w2 ⟨rfl, hA2, hz2, hK2⟩
  have hS2 := hK2.at hS1 (by simp)
  have hG2 := hK2.at hG1 (by simp)
  go_wp2_with fail
  have hp2 := ((At.new w2 (.cells #[ptr w1.heap.size] 23)).alloc (.cells #[.bool true] 4)).alloc (.cells #[.bool false] 4)
  have hi2 := (At.new (w2.alloc (.cells #[ptr w1.heap.size] 23)) (.cells #[.bool true] 4)).alloc (.cells #[.bool false] 4)
  have hh2 := At.new ((w2.alloc (.cells #[ptr w1.heap.size] 23)).alloc (.cells #[.bool true] 4)) (.cells #[.bool false] 4)
  have K2 := (((K1.trans hK2).alloc (.cells #[ptr w1.heap.size] 23)).alloc (.cells #[.bool true] 4)).alloc (.cells #[.bool false] 4)
  have hA2' := ((hA2.alloc (.cells #[ptr w1.heap.size] 23)).alloc (.cells #[.bool true] 4)).alloc (.cells #[.bool false] 4)
  have hS2' := ((hS2.alloc (.cells #[ptr w1.heap.size] 23)).alloc (.cells #[.bool true] 4)).alloc (.cells #[.bool false] 4)
  have hG2' := ((hG2.alloc (.cells #[ptr w1.heap.size] 23)).alloc (.cells #[.bool true] 4)).alloc (.cells #[.bool false] 4)
  simp only [World.size_alloc, hz2] at hp2 hi2 hh2
  generalize hw : ((w2.alloc (.cells #[ptr w1.heap.size] 23)).alloc (.cells #[.bool true] 4)).alloc (.cells #[.bool false] 4) = wb at *
  clear hw
  refine (run_at2 15 _ _ _ (more (n : Int) (more (n : Int) 0 a) b = b) ?_ (fun _ => by simp [go_sem]) (nests1_any _ _ _ _ _ w1.heap.size a b _ _ (n : Int) wb ha hb (by omega) hS2' hp2 hi2 hh2 hG2' hA2' (by omega) (by omega) (by omega) (by omega) (by omega) (by omega) (by omega) (by omega) (by omega))).mono ?_
  · rintro w o ⟨h1, h2, h3, h4⟩
    exact ⟨h1.alloc _, h2.alloc _, h3.alloc _, h4.alloc _⟩
  rintro e w3 ⟨rfl, hA3, hi3, hh3, hK3⟩
  rw [N1.out, N2.out] at hA3
  rw [N1.out] at hi3
  simp only [N1.out, N2.out]
  have c1 := (hK3.at hS2' (by simp; omega)).cell 0 rfl
  have c2 := (hK3.at hG2' (by simp; omega)).cell 0 rfl
  have c3 := (hK3.at hp2 (by simp)).cell 0 rfl
  have c4 := hi3.cell 0 rfl
  have c5 := hh3.cell 0 rfl
  have K3 := (K2.mono (S' := [w1.heap.size, w1.heap.size + 1 + 1, w1.heap.size + 1 + 1 + 1]) (by simp)).trans hK3
  have U : Hid (∀ w', w'.heap = w3.heap → Calls Try.prog 13 #[ptr w1.heap.size] w' fun e w'' => e = .returned (.int .i64 (n + 0)) ∧ w'' = w') := fun w' hw' =>
    (used_at w1.heap.size _ _ w' (show w'.heap[w1.heap.size]? = _ from by rw [hw']; exact hA3)).mono fun _ _ h => ⟨h.1, h.2.symm⟩
  go_wp2
  have q1 : IntKind.i64.wrap (a : Int) = a := IntWalk.i64_in _ (by omega)
  have q2 : IntKind.i64.wrap (b : Int) = b := IntWalk.i64_in _ (by omega)
  have q3 : IntKind.i64.wrap (n : Int) = (n : Int) := IntWalk.i64_in _ (by omega)
  have q4 : IntKind.i64.wrap ((n : Int) + b) = (n : Int) + b := IntWalk.i64_in _ (by omega)
  have q5 : decide ((n : Int) + b ≤ n) = false := by simp; omega
  go_quiet ((go_at_call 13; exact Calls.quiet_of_same (U.out _ rfl)))
  go_wp2
  go_ret
  exact ⟨rfl, (K3.drewN nq).below (Nat.le_refl _) (by simp; omega)⟩

set_option maxHeartbeats 2000000 in
theorem powerNests_nil (n : Nat) (a : Nat) (ha : a ≤ 255) (hl0 : 0 ≤ (n : Int)) (hl : (n : Int) ≤ 255) (hd : n < a) (W : World) :
    Calls Try.prog 4 #[.int .u8 (n : Int), .int .u8 a, .int .u8 0] W fun e w' => e = .returned (.bool true) ∧ Below W.heap.size W w' := by
  have N1 := hid (show more (n : Int) 0 a = n by unfold more; rw [if_neg (by omega)]; omega)
  have N2 := hid (show more (n : Int) (n : Nat) 0 = 0 by unfold more; rw [if_neg (by omega)]; omega)
  have e1 : decide (n = a) = false := by simp; omega
  have e2 : ((n : Int) == (a : Int)) = false := by simp; omega
  go_enter Try.func4, Try.ntmps4
  go_wp2_with fail
  refine (awake_any _).mono ?_
  rintro e w1 ⟨rfl, hb1⟩
  have k1 := Below.keeps hb1 []
  have hS1 := k1.at ((At.new W (.cells #[.int .u8 a] 5)).alloc _) (by simp)
  have hG1 := k1.at (At.new (W.alloc (.cells #[.int .u8 a] 5)) (.cells #[.int .u8 0] 5)) (by simp)
  have z1 : W.heap.size + 2 ≤ w1.heap.size := by have := k1.size; simp at this; omega
  have K1 : Keeps [] W w1 := (((Keeps.refl [] W).alloc _).alloc _).trans k1
  simp only [World.size_alloc] at hG1
  clear hb1 k1
  go_wp2_with fail
  refine (new_at _ _).mono ?_
  rintro e w2 ⟨rfl, hA2, hz2, hK2⟩
  have hS2 := hK2.at hS1 (by simp)
  have hG2 := hK2.at hG1 (by simp)
  go_wp2_with fail
  have hp2 := ((At.new w2 (.cells #[ptr w1.heap.size] 23)).alloc (.cells #[.bool true] 4)).alloc (.cells #[.bool false] 4)
  have hi2 := (At.new (w2.alloc (.cells #[ptr w1.heap.size] 23)) (.cells #[.bool true] 4)).alloc (.cells #[.bool false] 4)
  have hh2 := At.new ((w2.alloc (.cells #[ptr w1.heap.size] 23)).alloc (.cells #[.bool true] 4)) (.cells #[.bool false] 4)
  have K2 := (((K1.trans hK2).alloc (.cells #[ptr w1.heap.size] 23)).alloc (.cells #[.bool true] 4)).alloc (.cells #[.bool false] 4)
  have hA2' := ((hA2.alloc (.cells #[ptr w1.heap.size] 23)).alloc (.cells #[.bool true] 4)).alloc (.cells #[.bool false] 4)
  have hS2' := ((hS2.alloc (.cells #[ptr w1.heap.size] 23)).alloc (.cells #[.bool true] 4)).alloc (.cells #[.bool false] 4)
  have hG2' := ((hG2.alloc (.cells #[ptr w1.heap.size] 23)).alloc (.cells #[.bool true] 4)).alloc (.cells #[.bool false] 4)
  simp only [World.size_alloc, hz2] at hp2 hi2 hh2
  generalize hw : ((w2.alloc (.cells #[ptr w1.heap.size] 23)).alloc (.cells #[.bool true] 4)).alloc (.cells #[.bool false] 4) = wb at *
  clear hw
  refine (run_at2 15 _ _ _ (more (n : Int) (more (n : Int) 0 a) 0 = 0) ?_ (fun _ => by simp [go_sem]) (nests1_any _ _ _ _ _ w1.heap.size a 0 _ _ (n : Int) wb ha (by omega) (by omega) hS2' hp2 hi2 hh2 hG2' hA2' (by omega) (by omega) (by omega) (by omega) (by omega) (by omega) (by omega) (by omega) (by omega))).mono ?_
  · rintro w o ⟨h1, h2, h3, h4⟩
    exact ⟨h1.alloc _, h2.alloc _, h3.alloc _, h4.alloc _⟩
  rintro e w3 ⟨rfl, hA3, hi3, hh3, hK3⟩
  rw [N1.out, N2.out] at hA3
  rw [N1.out] at hi3
  simp only [N1.out, N2.out]
  have c1 := (hK3.at hS2' (by simp; omega)).cell 0 rfl
  have c2 := (hK3.at hG2' (by simp; omega)).cell 0 rfl
  have c3 := (hK3.at hp2 (by simp)).cell 0 rfl
  have c4 := hi3.cell 0 rfl
  have c5 := hh3.cell 0 rfl
  have K3 := (K2.mono (S' := [w1.heap.size, w1.heap.size + 1 + 1, w1.heap.size + 1 + 1 + 1]) (by simp)).trans hK3
  have U : Hid (∀ w', w'.heap = w3.heap → Calls Try.prog 13 #[ptr w1.heap.size] w' fun e w'' => e = .returned (.int .i64 (n + 0)) ∧ w'' = w') := fun w' hw' =>
    (used_at w1.heap.size _ _ w' (show w'.heap[w1.heap.size]? = _ from by rw [hw']; exact hA3)).mono fun _ _ h => ⟨h.1, h.2.symm⟩
  go_wp2
  have q1 : IntKind.i64.wrap (a : Int) = a := IntWalk.i64_in _ (by omega)
  have q2 : IntKind.i64.wrap (0 : Int) = 0 := IntWalk.i64_in _ (by omega)
  have q3 : IntKind.i64.wrap (n : Int) = (n : Int) := IntWalk.i64_in _ (by omega)
  have q4 : IntKind.i64.wrap ((n : Int) + 0) = (n : Int) + 0 := IntWalk.i64_in _ (by omega)
  go_quiet ((go_at_call 13; exact Calls.quiet_of_same (U.out _ rfl)))
  go_wp2
  go_ret
  exact ⟨rfl, (K3.drewN nq).below (Nat.le_refl _) (by simp; omega)⟩

theorem powerNests_walk (l a b : Int) (wl : (Lit.int .u8 l).wf = true) (wa : (Lit.int .u8 a).wf = true) (wb : (Lit.int .u8 b).wf = true) (W : World) :
    Calls Try.prog 4 #[.int .u8 l, .int .u8 a, .int .u8 b] W fun e w' => e = .returned (.bool true) ∧ Below W.heap.size W w' := by
  have bl := bounds_u8 wl
  have ba := bounds_u8 wa
  have bb := bounds_u8 wb
  clear wl wa wb
  obtain ⟨l, rfl⟩ := Int.eq_ofNat_of_zero_le bl.1
  obtain ⟨a, rfl⟩ := Int.eq_ofNat_of_zero_le ba.1
  obtain ⟨b, rfl⟩ := Int.eq_ofNat_of_zero_le bb.1
  by_cases h2 : l < a
  · by_cases h3 : b = 0
    · subst h3
      exact powerNests_nil l a (by omega) (by omega) (by omega) h2 W
    · exact powerNests_none l a b (by omega) (by omega) (by omega) (by omega) h2 (by omega) W
  · by_cases h3 : l < a + b
    · obtain ⟨d, rfl⟩ : ∃ d, l = a + d := ⟨l - a, by omega⟩
      rw [show ((a + d : Nat) : Int) = (a : Int) + (d : Int) from by omega]
      exact powerNests_part d a b (by omega) (by omega) (by omega) (by omega) (by omega) W
    · exact powerNests_room l a b (by omega) (by omega) (by omega) (by omega) (by omega) W

end Go.Proofs.Ytjgkolaeehjbhaa
