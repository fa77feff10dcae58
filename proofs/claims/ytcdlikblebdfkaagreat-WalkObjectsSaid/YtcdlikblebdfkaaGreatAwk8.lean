/- Layer 8's fixed fact. -/
import Derived.Test.YtcdlikblebdfkaaGreatRts
import Derived.Test.YtcdlikblebdfkaaGreatAwk7
namespace Go.Proofs.YtcdlikblebdfkaaGreat
open Go.RowKit Go.OpenShut

theorem and1_u8 (n : Nat) (h : n ≤ 255) : bits .and .u8 (n : Int) 1 = (n % 2 : Nat) := by
  rw [show (1 : Int) = ((1 : Nat) : Int) from rfl, u8_and_nat _ _ (by omega) (by decide)]
  rw [show (1 : Nat) = 2 ^ 1 - 1 from rfl, Nat.and_two_pow_sub_one_eq_mod]

theorem LaidF.blk {c : Cfg} {f : Nat → Int} (h : LaidF c f) (i : Nat) (hi : i < 2 + c.roots) : f (c.act + i) = 0 :=
  h.2.2.2.2.2 _ (Nat.le_add_right _ _) (by unfold Cfg.root; omega)

set_option maxRecDepth 100000 in
set_option maxHeartbeats 4000000 in
theorem awake8_any (w : World) : Calls Tryz.prog 47 #[] w fun e w' => e = .returned (.bool true) ∧ Below w.heap.size w w' := by
  go_enter Tryz.func47, Tryz.ntmps47
  go_wp2_with fail
  refine (awake7_any _).mono ?_
  rintro e w1 ⟨rfl, hb1⟩
  have K1 : Keeps [] w w1 := Go.Proofs.YtcdlikblebdfkaaGreat.Below.keeps hb1 []
  clear hb1
  go_wp2_with fail
  have hC2 : At (w1.alloc (.cells #[.int .i64 3, .int .i64 1, .int .i64 8] 30)) w1.heap.size (cfgO exC) := At.new w1 (cfgO exC)
  have K2 := K1.alloc (.cells #[.int .i64 3, .int .i64 1, .int .i64 8] 30)
  have hz2 : w.heap.size ≤ w1.heap.size := K1.size
  refine (formatted2_at _ exC exC_ok none 0 0 (fun _ => 0) (.inl rfl) (by omega)).mono ?_
  rintro e w3 ⟨p, a, u, S, ⟨rfl, hn, hP3, hu, hW, hkp, his, ⟨b1, b2, b3, b4, b5⟩, hk3⟩, hold⟩
  have hC3 := hk3.at hC2 (by simp)
  have K3 := K2.trans hk3
  have HN := hid hn
  obtain ⟨_, HL⟩ := hW
  have hz32 : S.now exC.act = 0 := LaidF.blk HL 0 (by decide)
  have hz33 : S.now (exC.act + 1) = 0 := LaidF.blk HL 1 (by decide)
  have HZ := hid (And.intro hz32 hz33)
  clear hn hkp his hC2 hk3 K2 K1 hold HL hz32 hz33 b1 b2 b3 b4 b5
  obtain ⟨cb, hcb⟩ : ∃ cb, cb = w1.heap.size := ⟨_, rfl⟩
  rw [← hcb] at hC3 hz2 ⊢
  clear hcb
  have c0 : w3.cell? ⟨cb, 0, none⟩ = some (.int .i64 3) := hC3.cell 0 rfl
  have c1 : w3.cell? ⟨cb, 1, none⟩ = some (.int .i64 1) := hC3.cell 1 rfl
  have c2 : w3.cell? ⟨cb, 2, none⟩ = some (.int .i64 8) := hC3.cell 2 rfl
  go_wp2_with fail
  refine (rread_at w3 p a S exC hP3.dev exC_ok HN.out (by rw [HZ.out.1]; decide) (by rw [HZ.out.2]; decide)).mono ?_
  rintro e w4 (⟨h0, rfl, _⟩ | ⟨k, u8, x, cp, hk1, hk2, hk3, hk4, rfl, hO, hk5⟩)
  · rw [HZ.out.1, HZ.out.2] at h0
    exact absurd h0 (by decide)
  · rw [HZ.out.1] at hk3
    rw [HZ.out.2] at hk4
    obtain rfl : k = 0 := by omega
    obtain rfl : u8 = 0 := by omega
    clear hk1 hk2 hk3 hk4 c0 c1 c2
    have K4 := K3.trans hk5
    have hC4 := (hk5.at hC3 (by simp)).alloc (bkO 0 0 (.slice x 1 cp))
    have hB4 := At.new w4 (bkO 0 0 (.slice x 1 cp))
    have c0 : (w4.alloc (bkO 0 0 (.slice x 1 cp))).cell? ⟨cb, 0, none⟩ = some (.int .i64 3) := hC4.cell 0 rfl
    have c1 : (w4.alloc (bkO 0 0 (.slice x 1 cp))).cell? ⟨cb, 1, none⟩ = some (.int .i64 1) := hC4.cell 1 rfl
    have c2 : (w4.alloc (bkO 0 0 (.slice x 1 cp))).cell? ⟨cb, 2, none⟩ = some (.int .i64 8) := hC4.cell 2 rfl
    have d0 := hB4.cell 0 rfl
    have d1 := hB4.cell 1 rfl
    have d2 := hB4.cell 2 rfl
    go_wp2_with fail
    refine (place8_at _ exC exC_ok.small 0 (by omega) 0 _ 3 (by omega)).mono ?_
    rintro e w5 ⟨rfl, hk6⟩
    go_wp2_with fail
    go_ret
    exact ⟨rfl, ((K4.alloc _).trans hk6).below (Nat.le_refl _) (by simp)⟩

end Go.Proofs.YtcdlikblebdfkaaGreat
