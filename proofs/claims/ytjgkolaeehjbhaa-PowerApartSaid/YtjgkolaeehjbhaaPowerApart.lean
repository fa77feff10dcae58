/- The walk of the law PowerApart. -/
import Derived.Test.YtjgkolaeehjbhaaRun
import Derived.OpenShut
namespace Go.Proofs.Ytjgkolaeehjbhaa
open Go.RowKit

/-- What the walk is told of a slice of bools that came in. -/
def IsBools (W : World) (a : Option Addr) (len : Nat) (z : Nat → Bool) : Prop :=
  len = 0 ∨ ∃ b off, a = some ⟨b, off, none⟩ ∧ b < W.heap.size ∧ ∀ i, i < len → W.cell? ⟨b, off + i, none⟩ = some (.bool (z i))

theorem isBools_nil (W : World) (a : Option Addr) : IsBools W a 0 (fun _ => false) := .inl rfl

theorem isBools_some {W : World} {a : Addr} {len cap : Nat} {z : Nat → Bool} (hl : len ≤ cap) (_hm : cap ≤ maxLen) (h : ∀ i, i < cap → W.cell? (a.add i) = some (.bool (z i))) : IsBools W (some a) len z := by
  by_cases h0 : len = 0
  · exact .inl h0
  · obtain ⟨b, off, spot⟩ := a
    have hspot : spot = none := by simpa [Addr.add] using World.cell?_spot (h 0 (by omega))
    subst hspot
    have hc : ∀ i, i < len → W.cell? ⟨b, off + i, none⟩ = some (.bool (z i)) := fun j hj => by rw [← Go.WideShapes.add_plain]; exact h j (by omega)
    refine .inr ⟨b, off, rfl, ?_, hc⟩
    have := hc 0 (by omega)
    unfold World.cell? at this
    rcases Nat.lt_or_ge b W.heap.size with h1 | h1
    · exact h1
    · simp [Array.getElem?_eq_none h1] at this

/-- Run, of one step as a method value. -/
theorem run_tick (b : Nat) (l u : Int) (w : World) (h : At w b (powO l u)) (hu0 : 0 ≤ u) (hu1 : u < 9223372036854775807) (hs : u < l) :
    Calls Try.prog 10 #[.func (.func 12) #[ptr b] #[]] w fun e w' => e = .returned (.bool true) ∧ At w' b (powO l (u + 1)) ∧ Keeps [b] w w' := by
  refine (run_with 12 #[ptr b] #[] w (fun w' => At w' b (powO l (u + 1)) ∧ Keeps [b] w w') (fun _ => False) (fun _ => by simp [go_sem]) ((tick_stays b l u w h hu0 hu1 (.inr hs)).mono fun e w' h => .inl h)).mono ?_
  rintro e w' (h | ⟨_, _, hf, _⟩)
  · exact h
  · exact hf.elim

theorem run_tick_gone (b : Nat) (l u : Int) (w : World) (h : At w b (powO l u)) (hu0 : 0 ≤ u) (hu1 : u < 9223372036854775807) (hs : u = l) :
    Calls Try.prog 10 #[.func (.func 12) #[ptr b] #[]] w fun e w' => e = .returned (.bool false) ∧ At w' b (powO l u) ∧ Keeps [b] w w' := by
  refine (run_with 12 #[ptr b] #[] w (fun _ => False) (fun w' => At w' b (powO l u) ∧ Keeps [b] w w') (fun _ => by simp [go_sem]) ((tick_goes b l u w h hu0 hu1 (by omega) hs).mono fun e w' h => .inr ⟨h.1, h.2.1, h.2.2.mono (by simp)⟩)).mono ?_
  rintro e w' (⟨_, hf⟩ | ⟨he, w1, ⟨h1, h2⟩, rfl⟩)
  · exact hf.elim
  · exact ⟨he, h1.alloc _, h2.alloc _⟩

set_option maxHeartbeats 1000000 in
theorem apart_great (a b : Int) (x : Option Addr) (len cap : Nat) (hlen : 100 < len) (W : World) :
    Calls Try.prog 5 #[.int .u8 a, .int .u8 b, .slice x len cap] W fun e w' => e = .returned (.bool true) ∧ Below W.heap.size W w' := by
  go_enter Try.func5, Try.ntmps5
  go_wp2_with fail
  refine (awake_any _).mono ?_
  rintro e w1 ⟨rfl, hb1⟩
  go_wp2_with fail
  go_ret
  exact ⟨rfl, hb1⟩

set_option maxHeartbeats 2000000 in
theorem apart_small (a b : Nat) (ha : a ≤ 255) (hb : b ≤ 255) (x : Option Addr) (len cap : Nat) (z : Nat → Bool) (hlen : len ≤ 100) (W : World) (hx : IsBools W x len z) :
    Calls Try.prog 5 #[.int .u8 a, .int .u8 b, .slice x len cap] W fun e w' => e = .returned (.bool true) ∧ Below W.heap.size W w' := by
  have HX := hid hx
  clear hx
  go_enter Try.func5, Try.ntmps5
  go_wp2_with fail
  refine (awake_any _).mono ?_
  rintro e w1 ⟨rfl, hb1⟩
  have K1 := Below.keeps hb1 []
  clear hb1
  go_wp2_with fail
  refine (new_at _ _).mono ?_
  rintro e w2 ⟨rfl, hA2, hz2, hK2⟩
  go_wp2_with fail
  refine (new_at _ _).mono ?_
  rintro e w3 ⟨rfl, hB3, hz3, hK3⟩
  have hA3 := hK3.at hA2 (by simp)
  have K3 := (K1.trans hK2).trans hK3
  have z1 := K1.size
  simp only [hz2] at hB3
  clear hz3
  go_wp2_with fail
  go_loopg [9, 10, 32] len (fun r n m i wr => ∃ k N M : Nat, k + r = len ∧ i = .int .i64 k ∧ n = .int .i64 N ∧ m = .int .i64 M ∧ N ≤ a ∧ M ≤ b ∧
    At wr w1.heap.size (powO a N) ∧ At wr (w1.heap.size + 1) (powO b M) ∧ Keeps [w1.heap.size, w1.heap.size + 1] w3 wr)
  case atStart => exact ⟨0, 0, 0, by omega, rfl, rfl, rfl, by omega, by omega, hA3, hB3, Keeps.refl _ _⟩
  case round =>
    obtain ⟨k, N, M, hk, rfl, rfl, rfl, hN, hM, hA, hB, hK⟩ := hrel
    by_cases hlt : k < len
    · obtain ⟨bx, off, hxe, hbx, hc⟩ : ∃ bx off, x = some ⟨bx, off, none⟩ ∧ bx < W.heap.size ∧ ∀ i, i < len → W.cell? ⟨bx, off + i, none⟩ = some (.bool (z i)) := by
        rcases HX.out with h0 | h0
        · omega
        · exact h0
      subst hxe
      have hcell : wr.cell? ⟨bx, off + k, none⟩ = some (.bool (z k)) := by
        have e1 : w3.heap[bx]? = W.heap[bx]? := K3.block bx hbx (by simp)
        have e2 : wr.heap[bx]? = w3.heap[bx]? := hK.block bx (by have := K3.size; omega) (by simp; omega)
        rw [World.cell?_of_block (w := W) (e2.trans e1)]
        exact hc k hlt
      clear hc HX
      by_cases hz : z k = true
      · by_cases hn : N < a
        · have T := hid (run_tick _ _ _ _ hA (by omega) (by omega) (by omega))
          go_wp2_with fail
          refine T.out.mono ?_
          rintro e w4 ⟨rfl, hA4, hK4⟩
          go_wp2_with fail
          go_roundg (len - (k + 1))
          case measure => omega
          case rel => exact ⟨k + 1, N + 1, M, by omega, by go_num, by go_num, rfl, by omega, hM, hA4, hK4.at hB (by simp), hK.trans (hK4.mono (by simp +contextual))⟩
        · have T := hid (run_tick_gone _ _ _ _ hA (by omega) (by omega) (by omega))
          have hn2 : N = a := by omega
          subst hn2
          go_wp2_with fail
          refine T.out.mono ?_
          rintro e w4 ⟨rfl, hA4, hK4⟩
          go_wp2_with fail
          go_roundg (len - (k + 1))
          case measure => omega
          case rel => exact ⟨k + 1, N, M, by omega, by go_num, by go_num, rfl, by omega, hM, hA4, hK4.at hB (by simp), hK.trans (hK4.mono (by simp +contextual))⟩
      · by_cases hn : M < b
        · have T := hid (run_tick _ _ _ _ hB (by omega) (by omega) (by omega))
          go_wp2_with fail
          refine T.out.mono ?_
          rintro e w4 ⟨rfl, hB4, hK4⟩
          go_wp2_with fail
          go_roundg (len - (k + 1))
          case measure => omega
          case rel => exact ⟨k + 1, N, M + 1, by omega, by go_num, rfl, by go_num, hN, by omega, hK4.at hA (by simp), hB4, hK.trans (hK4.mono (by simp +contextual))⟩
        · have T := hid (run_tick_gone _ _ _ _ hB (by omega) (by omega) (by omega))
          have hn2 : M = b := by omega
          subst hn2
          go_wp2_with fail
          refine T.out.mono ?_
          rintro e w4 ⟨rfl, hB4, hK4⟩
          go_wp2_with fail
          go_roundg (len - (k + 1))
          case measure => omega
          case rel => exact ⟨k + 1, N, M, by omega, by go_num, rfl, by go_num, hN, by omega, hK4.at hA (by simp), hB4, hK.trans (hK4.mono (by simp +contextual))⟩
    · have hkl : k = len := by omega
      subst hkl
      have U1 := hid (used_at _ _ _ _ hA)
      have U2 := hid (used_at _ _ _ _ hB)
      go_wp2_with fail
      refine U1.out.mono ?_
      rintro e w4 ⟨rfl, rfl⟩
      go_wp2_with fail
      refine U2.out.mono ?_
      rintro e w4 ⟨rfl, rfl⟩
      go_wp2
      go_ret
      exact ⟨rfl, ((K3.mono (S' := [w1.heap.size, w1.heap.size + 1]) (by simp)).trans hK).below (Nat.le_refl _) (by simp; omega)⟩

theorem powerApart_walk (a b : Int) (x : Option Addr) (len cap : Nat) (z : Nat → Bool) (wa : (Lit.int .u8 a).wf = true) (wb : (Lit.int .u8 b).wf = true) (W : World) (hx : IsBools W x len z) :
    Calls Try.prog 5 #[.int .u8 a, .int .u8 b, .slice x len cap] W fun e w' => e = .returned (.bool true) ∧ Below W.heap.size W w' := by
  have ba := bounds_u8 wa
  have bb := bounds_u8 wb
  clear wa wb
  by_cases h : 100 < len
  · exact apart_great a b x len cap h W
  · obtain ⟨a, rfl⟩ := Int.eq_ofNat_of_zero_le ba.1
    obtain ⟨b, rfl⟩ := Int.eq_ofNat_of_zero_le bb.1
    exact apart_small a b (by omega) (by omega) x len cap z (by omega) W hx

end Go.Proofs.Ytjgkolaeehjbhaa
