/- Layer 9's fixed fact; heads by small numbers. -/
import Derived.Test.YtcdlikblebdfkaaGreatSpcD
import Derived.Test.YtcdlikblebdfkaaGreatAwk8
import Derived.Test.YtcdlikblebdfkaaGreatArgs
namespace Go.Proofs.YtcdlikblebdfkaaGreat
open Go.RowKit Go.OpenShut

set_option maxRecDepth 100000 in
set_option maxHeartbeats 4000000 in
theorem awake9_any (w : World) : Calls Tryz.prog 35 #[] w fun e w' => e = .returned (.bool true) ∧ Below w.heap.size w w' := by
  go_enter Tryz.func35, Tryz.ntmps35
  go_wp2_with fail
  refine (awake8_any _).mono ?_
  rintro e w1 ⟨rfl, hb1⟩
  have K1 : Keeps [] w w1 := Go.Proofs.YtcdlikblebdfkaaGreat.Below.keeps hb1 []
  clear hb1
  go_wp2_with fail
  have hC2 : At (w1.alloc (.cells #[.int .i64 3, .int .i64 1, .int .i64 8] 30)) w1.heap.size (cfgO exC) := At.new w1 (cfgO exC)
  have K2 := K1.alloc (.cells #[.int .i64 3, .int .i64 1, .int .i64 8] 30)
  have hz2 : w.heap.size ≤ w1.heap.size := K1.size
  refine (formatted2_at _ exC exC_ok none 0 0 (fun _ => 0) (.inl rfl) (by omega)).mono ?_
  rintro e w3 ⟨p, a, u, S, ⟨rfl, hn, hP3, hu, hW, hkp, his, ⟨b1, b2, b3, b4, b5⟩, hk3⟩, hold⟩
  simp only [World.size_alloc] at b1 b2 b3 b4 b5
  have hC3 := hk3.at hC2 (by simp)
  have K3 := K2.trans hk3
  have HN := hid hn
  obtain ⟨_, HL⟩ := hW
  have hz32 : S.now exC.act = ((0 : Nat) : Int) := LaidF.blk HL 0 (by decide)
  have hz33 : S.now (exC.act + 1) = ((0 : Nat) : Int) := LaidF.blk HL 1 (by decide)
  have HB : Hid (∀ b ∈ [p, a.s, a.k, a.m], w.heap.size ≤ b ∧ w1.heap.size ≠ b) := fun b hb => by
    simp only [List.mem_cons, List.not_mem_nil, or_false] at hb
    omega
  have HA1 := hid (alloc9_free w3 p a u S exC hP3 exC_ok HN.out (by omega) 0 0 (by omega) (by omega) hz32 hz33 2 0 (by omega) (by omega))
  clear hn hkp his hC2 hk3 K2 K1 hold HL b1 b2 b3 b4 b5 hP3
  have HU := hid hu
  have HZ := hid (And.intro hz32 hz33)
  clear hu hz32 hz33
  have c0 : w3.cell? ⟨w1.heap.size, 0, none⟩ = some (.int .i64 3) := hC3.cell 0 rfl
  have c1 : w3.cell? ⟨w1.heap.size, 1, none⟩ = some (.int .i64 1) := hC3.cell 1 rfl
  have c2 : w3.cell? ⟨w1.heap.size, 2, none⟩ = some (.int .i64 8) := hC3.cell 2 rfl
  go_wp2_with fail
  refine HA1.out.mono ?_
  rintro e w4 (⟨h0, _⟩ | ⟨_, rfl, u4, S4, hP4, hu4, _, ⟨f1, f2, f3, f4⟩, hk4⟩)
  · exact absurd h0 (by decide)
  have hC4 := hk4.at hC3 (fun h => (HB.out _ h).2 rfl)
  have K4 := K3.new hk4 (fun b hb => .inr (HB.out b hb).1)
  have g1 : S4.now exC.act = ((0 : Nat) : Int) := by rw [f4 _ (by omega) (by decide)]; exact HZ.out.1
  have HA2 := hid (alloc9_free w4 p a u4 S4 exC hP4 exC_ok HN.out (by have := HU.out; omega) 0 3 (by omega) (by decide) g1 (by rw [f1]) 5 0 (by omega) (by omega))
  clear HA1 hk4 hC3 K3 f1 f2 f3 f4 g1 hP4 c0 c1 c2
  have c0 : w4.cell? ⟨w1.heap.size, 0, none⟩ = some (.int .i64 3) := hC4.cell 0 rfl
  have c1 : w4.cell? ⟨w1.heap.size, 1, none⟩ = some (.int .i64 1) := hC4.cell 1 rfl
  have c2 : w4.cell? ⟨w1.heap.size, 2, none⟩ = some (.int .i64 8) := hC4.cell 2 rfl
  go_wp2_with fail
  refine HA2.out.mono ?_
  rintro e w5 (⟨_, rfl, hk5⟩ | ⟨h0, _⟩)
  case inr => exact absurd h0 (by decide)
  have hC5 := hk5.at hC4 (by simp)
  have K5 := K4.trans hk5
  clear HA2 hk5 hC4 K4 c0 c1 c2
  have c0 : w5.cell? ⟨w1.heap.size, 0, none⟩ = some (.int .i64 3) := hC5.cell 0 rfl
  have c1 : w5.cell? ⟨w1.heap.size, 1, none⟩ = some (.int .i64 1) := hC5.cell 1 rfl
  have c2 : w5.cell? ⟨w1.heap.size, 2, none⟩ = some (.int .i64 8) := hC5.cell 2 rfl
  go_wp2_with fail
  refine (from_at _ exC exC_ok.small 0 (by omega)).mono ?_
  rintro e w6 ⟨rfl, hk6⟩
  go_wp2_with fail
  go_ret
  exact ⟨rfl, (K5.trans hk6).below (Nat.le_refl _) (by simp)⟩

/-- A head by small numbers, as a value and in a box. -/
abbrev h9V (r n : Int) : Value := .agg #[.int .u8 r, .int .u8 n]
abbrev h9O (r n : Int) : Obj := .cells #[.int .u8 r, .int .u8 n] 65

set_option maxRecDepth 100000 in
set_option maxHeartbeats 400000 in
theorem make9_at (w : World) (r n : Nat) (hr : r ≤ 255) (hn : n ≤ 255) :
    Calls Tryz.prog 23 #[h9V r n] w fun e w' => e = .returned (hdV ((n % 9 : Nat) : Int) ((r % (n % 9 + 1) : Nat) : Int)) ∧ Keeps [] w w' := by
  have hri : (r : Int) ≤ 255 := by omega
  have hni : (n : Int) ≤ 255 := by omega
  obtain ⟨m, hm⟩ : ∃ m, m = n % 9 := ⟨_, rfl⟩
  have E1 := hid (show (n : Int) % 9 = (m : Int) by omega)
  have hmb : (m : Int) ≤ 8 := by omega
  have E2 : Hid ((r : Int) % ((m : Int) + 1) = ((r % (m + 1) : Nat) : Int)) := by show _ = _; simp
  have hne : ¬ ((m : Int) + 1 = 0) := by omega
  rw [← hm]
  clear hm
  go_enter Tryz.func23, Tryz.ntmps23
  go_wp2
  refine bodyPost_ret (v := hdV ((n : Int) % 9) ((r : Int) % ((n : Int) % 9 + 1))) (by simp [results, Tryz.results23, go_sem]) rfl ?_
  exact ⟨by rw [E1.out, E2.out], ((Keeps.refl _ _).alloc _).alloc _⟩

end Go.Proofs.YtcdlikblebdfkaaGreat
