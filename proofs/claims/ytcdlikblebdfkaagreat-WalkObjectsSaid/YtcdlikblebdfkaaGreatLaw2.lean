/- What the laws of layer 2 have in common: New, Choice, the functions that a crash is handed, the fixed fact. -/
import Derived.Test.YtcdlikblebdfkaaGreatDevN
namespace Go.Proofs.YtcdlikblebdfkaaGreat
open Go.RowKit

def LNew (w : World) (L n : Nat) (f : Nat → Int) (e : Ending) (w' : World) : Prop :=
  ∃ p a, e = .returned (ptr a.d) ∧ a.L = L ∧ Dev w' p a { now := fun i => if i < n then f i else 0, kept := fun i => if i < n then f i else 0, tok := fun _ => 0, is := fun _ => false } ∧ At w' p (powO (-1) 0) ∧
    (w.heap.size ≤ a.d ∧ w.heap.size ≤ a.s ∧ w.heap.size ≤ a.k ∧ w.heap.size ≤ a.m ∧ w.heap.size ≤ p) ∧ Keeps [] w w'

set_option maxRecDepth 100000 in
set_option maxHeartbeats 400000 in
theorem lnew_at (w : World) (x : Option Addr) (n c L : Nat) (f : Nat → Int) (hr : Reads w x n f) (hL : L = (n + 7) / 8) (hn : n ≤ 17592186044416) :
    Calls Tryz.prog 40 #[.slice x n c] w (LNew w L n f) := by
  have HL := hid hL
  clear hL
  go_enter Tryz.func40, Tryz.ntmps40
  go_wp2_with fail
  refine (new_at _ _).mono ?_
  rintro e w1 ⟨rfl, hA1, hs1, hK1⟩
  go_wp2_with fail
  refine (dnew_at w1 w.heap.size x n c L f (hr.keep hK1 (by simp)) HL.out hn hA1.lt).mono ?_
  rintro e w2 ⟨a, rfl, haL, hD, b1, b2, b3, b4, hK2⟩
  have HAL := hid haL
  have HS := hid hs1
  clear haL hs1
  go_wp2
  go_ret
  have hs := HS.out
  exact ⟨w.heap.size, a, rfl, HAL.out, hD, hK2.at hA1 (by simp), ⟨by omega, by omega, by omega, by omega, Nat.le_refl _⟩, hK1.trans hK2⟩

/-- How word i is left, by bits. -/
def chV (bits : Int) (i : Nat) : Int := Go.bits BinOp.and IntKind.u64 (bits / 2 ^ (2 * (i % 32))) 3 % 256

theorem chV_low (bits : Int) (i : Nat) : 0 ≤ chV bits i ∧ chV bits i ≤ 255 := by unfold chV; omega

/-- A word of the caller's. -/
abbrev wordO (v : Int) : Obj := .cells #[.int .u64 v] 26

set_option maxRecDepth 100000 in
set_option maxHeartbeats 400000 in
theorem lawake1_at (w : World) (i : Nat) : Calls Tryz.prog 109 #[.int .i64 i] w fun e w' => e = .returned (.int .u8 0) ∧ w = w' := by
  go_enter Tryz.func109, Tryz.ntmps109
  go_wp2
  go_ret
  exact ⟨rfl, rfl⟩

theorem lawake1_chooser (n : Nat) : Chooser 109 #[] n (fun _ => 0) [] [] (fun _ _ => True) where
  inv := fun w i => by simp [go_sem]
  call := fun i w _ _ => by simpa using (lawake1_at w i).mono fun e w' ⟨he, hw⟩ => ⟨he, by rw [← hw]; exact Keeps.refl _ _⟩
  keep := fun _ _ _ _ _ _ _ => trivial
  low := fun _ => by omega

/-- A crash whose function touches nothing. -/
theorem crash_plain (w : World) (p : Nat) (a : DA) (S : DS) (h : Dev w p a S) (F : Nat) (cap : Array Value) (c : Nat → Int) (R : List Nat) (J : Nat → World → Prop) (hF : Chooser F cap a.n c [] R J) (hJ : J 0 w)
    (hR : a.s ∉ R ∧ a.k ∉ R ∧ a.m ∉ R) (hRl : ∀ k ∈ R, k < w.heap.size) :
    Calls Tryz.prog 108 #[ptr a.d, .func (.func F) #[] cap] w fun e w' =>
      e = .returned (.tuple #[]) ∧ Dev w' p a { now := fun i => leftV S i (c i % 3), kept := fun i => leftV S i (c i % 3), tok := S.tok, is := fun _ => false } ∧ J a.n w' ∧ Keeps [a.s, a.k, a.m] w w' :=
  crash_at w p a S h F cap c [] R J hF hJ (by simp) hR hRl (by simp)

theorem reads_one {w : World} {b : Nat} {v : Int} {T : TypeId} {fz : Nat × Nat} (h : At w b (.cells #[.int .u64 v] T fz)) : Reads w (some ⟨b, 0, none⟩) 1 (fun _ => v) :=
  .inr ⟨b, 0, rfl, h.lt, fun i hi => by obtain rfl : i = 0 := by omega
                                        exact h.cell 0 rfl⟩

/-- The fixed fact. -/
theorem lawake_any (w : World) : Calls Tryz.prog 103 #[] w fun e w' => e = .returned (.bool true) ∧ Below w.heap.size w w' := by
  go_enter Tryz.func103, Tryz.ntmps103
  go_wp2_with fail
  refine (awake_any _).mono ?_
  rintro e w1 ⟨rfl, hb1⟩
  go_wp2_with fail
  have hs1 : At (w1.alloc (.cells #[.int .u64 1] 26)) w1.heap.size (wordO 1) := At.new _ _
  refine (lnew_at _ _ 1 1 1 (fun _ => 1) (reads_one hs1) rfl (by omega)).mono ?_
  rintro e w2 ⟨p, a, rfl, haL, hD2, hp2, ⟨b1, b2, b3, b4, b5⟩, hK2⟩
  have haN : a.n = 8 := by have := a.n8; omega
  have HAN := hid haN
  clear haL haN
  have hK02 : Keeps [] w w2 := ((Go.Proofs.YtcdlikblebdfkaaGreat.Below.keeps hb1 []).alloc _).trans hK2
  go_wp2_with fail
  refine (store_in w2 p a _ (-1) 0 0 5 hD2 hp2 (by rw [HAN.out]; omega) (by omega) (by omega) (.inl (by omega))).mono ?_
  rintro e w3 ⟨rfl, hD3, hp3, hK3⟩
  have hK03 : Keeps [] w w3 := hK02.new hK3 (by have := hb1.size; simp at b2 b5; simp; omega)
  go_wp2_with fail
  refine (load_eq w3 p a _ 0 5 hD3 (by rw [HAN.out]; omega) (by simp [put])).mono ?_
  rintro e w4 ⟨rfl, rfl⟩
  go_wp2_with fail
  refine (crash_plain w3 p a _ hD3 _ #[] (fun _ => 0) [] (fun _ _ => True) (lawake1_chooser a.n) trivial (by simp) (by simp)).mono ?_
  rintro e w5 ⟨rfl, hD5, _, hK5⟩
  have hK05 : Keeps [] w w5 := hK03.new hK5 (by have := hb1.size; simp at b2 b3 b4; simp; omega)
  go_wp2_with fail
  refine (load_eq w5 p a _ 0 1 hD5 (by rw [HAN.out]; omega) (by simp [leftV])).mono ?_
  rintro e w6 ⟨rfl, rfl⟩
  go_wp2_with fail
  refine (len_at w5 p a _ hD5).mono ?_
  rintro e w6 ⟨rfl, rfl⟩
  have hn := HAN.out
  have e8 : (a.n : Int) = 8 := by omega
  clear hn
  go_wp2
  go_ret
  exact ⟨rfl, hK05.below (Nat.le_refl _) (by simp)⟩

end Go.Proofs.YtcdlikblebdfkaaGreat
