/- Layer 7's fixed fact. | Layer 8's fixed fact. | Layer 9's fixed fact; heads by small numbers. -/
import Derived.Test.YtbalmmnggfgpkaaGreatLaw7
import Derived.Test.YtbalmmnggfgpkaaGreatSecM
import Derived.Test.YtbalmmnggfgpkaaGreatObj
import Derived.Test.YtbalmmnggfgpkaaGreatArgs
namespace Go.Proofs.YtbalmmnggfgpkaaGreat
open Go.RowKit Go.OpenShut

set_option maxRecDepth 100000 in
set_option maxHeartbeats 4000000 in
theorem awake7_any (w : World) : Calls Tryz.prog 100 #[] w fun e w' => e = .returned (.bool true) ∧ Below w.heap.size w w' := by
  go_enter Tryz.func100, Tryz.ntmps100
  go_wp2_with fail
  refine (awake6_any _).mono ?_
  rintro e w1 ⟨rfl, hb1⟩
  have K1 : Keeps [] w w1 := Go.Proofs.YtbalmmnggfgpkaaGreat.Below.keeps hb1 []
  clear hb1
  go_wp2_with fail
  have hC2 : At (w1.alloc (.cells #[.int .i64 3, .int .i64 1, .int .i64 8] 30)) w1.heap.size (cfgO exC) := At.new w1 (cfgO exC)
  have K2 := K1.alloc (.cells #[.int .i64 3, .int .i64 1, .int .i64 8] 30)
  have hz2 : w.heap.size ≤ w1.heap.size := K1.size
  refine (formatted2_at _ exC exC_ok none 0 0 (fun _ => 0) (.inl rfl) (by omega)).mono ?_
  rintro e w3 ⟨p, a, u, S, ⟨rfl, hn, hP3, hu, hW, hkp, his, ⟨b1, b2, b3, b4, b5⟩, hk3⟩, hold⟩
  simp only [World.size_alloc] at b1 b2 b3 b4 b5
  have hC3 := hk3.at hC2 (by simp)
  have K3 := K2.trans hk3
  have hLI := LI.fresh (fun _ => 0) (fun _ => 0) exC_ok hn hW hkp his
  have hn56 : a.n = 56 := by rw [← hn, exC_words]
  have hz40 : Hid (S.now 40 = 0) := hold 40 (by decide) (by omega)
  have HF : Hid (∀ j, j < a.n → Fix S j (S.now j)) := fun j hj => ⟨rfl, hkp j hj, fun e => by rw [his] at e; cases e⟩
  have HN := hid hn
  have HLI := hid hLI
  have HN56 := hid hn56
  clear hn hn56 hLI hW hkp his hC2 hk3 K2 K1 hold
  have c0 : w3.cell? ⟨w1.heap.size, 0, none⟩ = some (.int .i64 3) := hC3.cell 0 rfl
  have c1 : w3.cell? ⟨w1.heap.size, 1, none⟩ = some (.int .i64 1) := hC3.cell 1 rfl
  have c2 : w3.cell? ⟨w1.heap.size, 2, none⟩ = some (.int .i64 8) := hC3.cell 2 rfl
  go_wp2_with fail
  refine (snew_at hP3 exC_ok HN.out HLI.out.1 (by omega)).mono ?_
  rintro e w4 ⟨s, U, rfl, hS4, hU, hk4, n1, n2, n3, n4⟩
  have K4 := K3.trans hk4
  have hSh := hid (SShut.mk HLI.out.1 (fun j _ hj => HF.out j hj) hU)
  have HU := hid hU
  have hz3 := K3.size
  have HB : Hid (∀ b ∈ s.bl p a, w.heap.size ≤ b) := by
    unfold Sc.bl
    intro b hb
    simp only [List.mem_cons, List.not_mem_nil, or_false] at hb
    omega
  clear c0 c1 c2 hC3 hk4 hP3 n1 n2 n3 n4 hU K3 HF HLI b1 b2 b3 b4 b5
  have d0 := hS4.sec.cell 0 rfl
  go_wp2_with fail
  refine (begin_ran hS4 HU.out (by have := HN56.out; omega) (by have := HN56.out; omega) (by omega)).mono ?_
  rintro e w5 ⟨ss, hss, hr5⟩
  obtain ⟨rfl, hS5, hk5⟩ := hr5.free hS4.lw.pw.lo
  have hl5 := HU.out.few (by have := HN56.out; omega) hss
  have hO5 := hid (hSh.out.begin 0 0 ss)
  have K5 := K4.new hk5 (fun b hb => .inr (HB.out b hb))
  obtain ⟨S1, hS1⟩ : ∃ S1, S1 = execs S (kpC ss) := ⟨_, rfl⟩
  obtain ⟨u1, hu1⟩ : ∃ u1, u1 = u + ((kpC ss).length : Int) := ⟨_, rfl⟩
  have hub1 : u1 ≤ 110000 := by rw [hu1, kpC_len]; omega
  rw [← hS1] at hS5 hO5
  rw [← hu1] at hS5
  clear hS1 hu1 hr5 hk5 hss hl5 K4 hS4 d0 hSh HU
  go_wp2_with fail
  refine (sstore_new hS5 exC_ok HN.out hO5.out.lr (by omega) 40 5 (by have := HN56.out; exact ⟨by decide, by omega⟩) (by decide) rfl (by decide) (by omega)).mono ?_
  intro e w6 hr6
  obtain ⟨rfl, hS6, hk6⟩ := hr6.free hS5.lw.pw.lo
  have hlen := appL_len (st := false) (m := 0) exC_ok (eN 1 0) 40 (S1.now 40)
  have hO6 := hid ((hO5.out.new (st := false) (i := 40) (by have := HN56.out; exact ⟨by decide, by omega⟩) (by decide) (by decide) (fun _ hk => absurd hk (Nat.not_lt_zero _))).store 5 (by have := HN56.out; exact ⟨by decide, by omega⟩) (.inr ⟨0, by omega, put_on _ _ _⟩))
  rw [← execs_append] at hO6
  have K6 := K5.new hk6 (fun b hb => .inr (HB.out b hb))
  obtain ⟨S2, hS2⟩ : ∃ S2, S2 = execs S1 (appL exC false false 0 (eN 1 0) 40 (S1.now 40) ++ [.st 40 5]) := ⟨_, rfl⟩
  have h5 : Hid (S2.now 40 = 5) := by show _ = _; rw [hS2, execs_append, st_now, if_pos rfl]
  obtain ⟨u2, hu2⟩ : ∃ u2, u2 = u1 + ((appL exC false false 0 (eN 1 0) 40 (S1.now 40) ++ [Cmd.st 40 5]).length : Int) := ⟨_, rfl⟩
  have hub2 : u2 ≤ 120000 := by rw [hu2, List.length_append]; simp; omega
  rw [← hS2] at hS6 hO6
  rw [← hu2] at hS6
  clear hS2 hu2 hr6 hk6 hlen K5 hS5 hO5
  go_wp2_with fail
  refine (load_in w6 p a S2 40 hS6.lw.pw.dev (by have := HN56.out; omega)).mono ?_
  rintro e w7 ⟨rfl, rfl⟩
  rw [h5.out]
  go_wp2_with fail
  refine (abort_ran hS6 hO6.out.uin exC_ok HN.out hO6.out.lr (by omega)).mono ?_
  rintro e w7 ⟨tt, htt, hr7⟩
  obtain ⟨rfl, hS7, hk7⟩ := hr7.free hS6.lw.pw.lo
  have h0 := (hO6.out.abort (st := true) htt).2 40 (by decide) (by have := HN56.out; omega)
  have K7 := K6.new hk7 (fun b hb => .inr (HB.out b hb))
  obtain ⟨S3, hS3⟩ : ∃ S3, S3 = execs S2 (undS exC true (put (fun _ => 0) 0 40) (put (fun _ => 0) 0 (S1.now 40)) (0 + 1) (eN 1 0) ++ kpC tt) := ⟨_, rfl⟩
  obtain ⟨u3, hu3⟩ : ∃ u3, u3 = u2 + ((undS exC true (put (fun _ => 0) 0 40) (put (fun _ => 0) 0 (S1.now 40)) (0 + 1) (eN 1 0) ++ kpC tt).length : Int) := ⟨_, rfl⟩
  rw [← hS3] at hS7 h0
  rw [← hu3] at hS7
  have h0' : Hid (S3.now 40 = 0) := h0.trans (by rw [if_neg (by decide)]; exact hz40.out)
  clear hS3 hu3 hr7 hk7 htt h0 K6 hS6 hO6
  go_wp2_with fail
  refine (load_in w7 p a S3 40 hS7.lw.pw.dev (by have := HN56.out; omega)).mono ?_
  rintro e w8 ⟨rfl, rfl⟩
  rw [h0'.out]
  go_wp2_with fail
  refine (sopen_at hS7).mono ?_
  rintro e w8 ⟨rfl, rfl⟩
  go_wp2_with fail
  go_ret
  exact ⟨rfl, K7.below (Nat.le_refl _) (by simp)⟩

end Go.Proofs.YtbalmmnggfgpkaaGreat

namespace Go.Proofs.YtbalmmnggfgpkaaGreat
open Go.RowKit Go.OpenShut

theorem LaidF.blk {c : Cfg} {f : Nat → Int} (h : LaidF c f) (i : Nat) (hi : i < 2 + c.roots) : f (c.act + i) = 0 :=
  h.2.2.2.2.2 _ (Nat.le_add_right _ _) (by unfold Cfg.root; omega)

set_option maxRecDepth 100000 in
set_option maxHeartbeats 4000000 in
theorem awake8_any (w : World) : Calls Tryz.prog 98 #[] w fun e w' => e = .returned (.bool true) ∧ Below w.heap.size w w' := by
  go_enter Tryz.func98, Tryz.ntmps98
  go_wp2_with fail
  refine (awake7_any _).mono ?_
  rintro e w1 ⟨rfl, hb1⟩
  have K1 : Keeps [] w w1 := Go.Proofs.YtbalmmnggfgpkaaGreat.Below.keeps hb1 []
  clear hb1
  go_wp2_with fail
  have hC2 : At (w1.alloc (.cells #[.int .i64 3, .int .i64 1, .int .i64 8] 30)) w1.heap.size (cfgO exC) := At.new w1 (cfgO exC)
  have K2 := K1.alloc (.cells #[.int .i64 3, .int .i64 1, .int .i64 8] 30)
  have hz2 : w.heap.size ≤ w1.heap.size := K1.size
  refine (formatted2_at _ exC exC_ok none 0 0 (fun _ => 0) (.inl rfl) (by omega)).mono ?_
  rintro e w3 ⟨p, a, u, S, ⟨rfl, hn, hP3, hu, hW, hkp, his, ⟨b1, b2, b3, b4, b5⟩, hk3⟩, hold⟩
  have hC3 := hk3.at hC2 (by simp)
  have K3 := K2.trans hk3
  have HN := hid hn
  obtain ⟨_, HL⟩ := hW
  have hz32 : S.now exC.act = 0 := LaidF.blk HL 0 (by decide)
  have hz33 : S.now (exC.act + 1) = 0 := LaidF.blk HL 1 (by decide)
  have HZ := hid (And.intro hz32 hz33)
  clear hn hkp his hC2 hk3 K2 K1 hold HL hz32 hz33 b1 b2 b3 b4 b5
  obtain ⟨cb, hcb⟩ : ∃ cb, cb = w1.heap.size := ⟨_, rfl⟩
  rw [← hcb] at hC3 hz2 ⊢
  clear hcb
  have c0 : w3.cell? ⟨cb, 0, none⟩ = some (.int .i64 3) := hC3.cell 0 rfl
  have c1 : w3.cell? ⟨cb, 1, none⟩ = some (.int .i64 1) := hC3.cell 1 rfl
  have c2 : w3.cell? ⟨cb, 2, none⟩ = some (.int .i64 8) := hC3.cell 2 rfl
  go_wp2_with fail
  refine (rread_at w3 p a S exC hP3.dev exC_ok HN.out (by rw [HZ.out.1]; decide) (by rw [HZ.out.2]; decide)).mono ?_
  rintro e w4 (⟨h0, rfl, _⟩ | ⟨k, u8, x, cp, hk1, hk2, hk3, hk4, rfl, hO, hk5⟩)
  · rw [HZ.out.1, HZ.out.2] at h0
    exact absurd h0 (by decide)
  · rw [HZ.out.1] at hk3
    rw [HZ.out.2] at hk4
    obtain rfl : k = 0 := by omega
    obtain rfl : u8 = 0 := by omega
    clear hk1 hk2 hk3 hk4 c0 c1 c2
    have K4 := K3.trans hk5
    have hC4 := (hk5.at hC3 (by simp)).alloc (bkO 0 0 (.slice x 1 cp))
    have hB4 := At.new w4 (bkO 0 0 (.slice x 1 cp))
    have c0 : (w4.alloc (bkO 0 0 (.slice x 1 cp))).cell? ⟨cb, 0, none⟩ = some (.int .i64 3) := hC4.cell 0 rfl
    have c1 : (w4.alloc (bkO 0 0 (.slice x 1 cp))).cell? ⟨cb, 1, none⟩ = some (.int .i64 1) := hC4.cell 1 rfl
    have c2 : (w4.alloc (bkO 0 0 (.slice x 1 cp))).cell? ⟨cb, 2, none⟩ = some (.int .i64 8) := hC4.cell 2 rfl
    have d0 := hB4.cell 0 rfl
    have d1 := hB4.cell 1 rfl
    have d2 := hB4.cell 2 rfl
    go_wp2_with fail
    refine (place8_at _ exC exC_ok.small 0 (by omega) 0 _ 3 (by omega)).mono ?_
    rintro e w5 ⟨rfl, hk6⟩
    go_wp2_with fail
    go_ret
    exact ⟨rfl, ((K4.alloc _).trans hk6).below (Nat.le_refl _) (by simp)⟩

end Go.Proofs.YtbalmmnggfgpkaaGreat

namespace Go.Proofs.YtbalmmnggfgpkaaGreat
open Go.RowKit Go.OpenShut

set_option maxRecDepth 100000 in
set_option maxHeartbeats 4000000 in
theorem awake9_any (w : World) : Calls Tryz.prog 92 #[] w fun e w' => e = .returned (.bool true) ∧ Below w.heap.size w w' := by
  go_enter Tryz.func92, Tryz.ntmps92
  go_wp2_with fail
  refine (awake8_any _).mono ?_
  rintro e w1 ⟨rfl, hb1⟩
  have K1 : Keeps [] w w1 := Go.Proofs.YtbalmmnggfgpkaaGreat.Below.keeps hb1 []
  clear hb1
  go_wp2_with fail
  have hC2 : At (w1.alloc (.cells #[.int .i64 3, .int .i64 1, .int .i64 8] 30)) w1.heap.size (cfgO exC) := At.new w1 (cfgO exC)
  have K2 := K1.alloc (.cells #[.int .i64 3, .int .i64 1, .int .i64 8] 30)
  have hz2 : w.heap.size ≤ w1.heap.size := K1.size
  refine (formatted2_at _ exC exC_ok none 0 0 (fun _ => 0) (.inl rfl) (by omega)).mono ?_
  rintro e w3 ⟨p, a, u, S, ⟨rfl, hn, hP3, hu, hW, hkp, his, ⟨b1, b2, b3, b4, b5⟩, hk3⟩, hold⟩
  simp only [World.size_alloc] at b1 b2 b3 b4 b5
  have hC3 := hk3.at hC2 (by simp)
  have K3 := K2.trans hk3
  have HN := hid hn
  obtain ⟨_, HL⟩ := hW
  have hz32 : S.now exC.act = ((0 : Nat) : Int) := LaidF.blk HL 0 (by decide)
  have hz33 : S.now (exC.act + 1) = ((0 : Nat) : Int) := LaidF.blk HL 1 (by decide)
  have HB : Hid (∀ b ∈ [p, a.s, a.k, a.m], w.heap.size ≤ b ∧ w1.heap.size ≠ b) := fun b hb => by
    simp only [List.mem_cons, List.not_mem_nil, or_false] at hb
    omega
  have HA1 := hid (alloc9_free w3 p a u S exC hP3 exC_ok HN.out (by omega) 0 0 (by omega) (by omega) hz32 hz33 2 0 (by omega) (by omega))
  clear hn hkp his hC2 hk3 K2 K1 hold HL b1 b2 b3 b4 b5 hP3
  have HU := hid hu
  have HZ := hid (And.intro hz32 hz33)
  clear hu hz32 hz33
  have c0 : w3.cell? ⟨w1.heap.size, 0, none⟩ = some (.int .i64 3) := hC3.cell 0 rfl
  have c1 : w3.cell? ⟨w1.heap.size, 1, none⟩ = some (.int .i64 1) := hC3.cell 1 rfl
  have c2 : w3.cell? ⟨w1.heap.size, 2, none⟩ = some (.int .i64 8) := hC3.cell 2 rfl
  go_wp2_with fail
  refine HA1.out.mono ?_
  rintro e w4 (⟨h0, _⟩ | ⟨_, rfl, u4, S4, hP4, hu4, _, ⟨f1, f2, f3, f4⟩, hk4⟩)
  · exact absurd h0 (by decide)
  have hC4 := hk4.at hC3 (fun h => (HB.out _ h).2 rfl)
  have K4 := K3.new hk4 (fun b hb => .inr (HB.out b hb).1)
  have g1 : S4.now exC.act = ((0 : Nat) : Int) := by rw [f4 _ (by omega) (by decide)]; exact HZ.out.1
  have HA2 := hid (alloc9_free w4 p a u4 S4 exC hP4 exC_ok HN.out (by have := HU.out; omega) 0 3 (by omega) (by decide) g1 (by rw [f1]) 5 0 (by omega) (by omega))
  clear HA1 hk4 hC3 K3 f1 f2 f3 f4 g1 hP4 c0 c1 c2
  have c0 : w4.cell? ⟨w1.heap.size, 0, none⟩ = some (.int .i64 3) := hC4.cell 0 rfl
  have c1 : w4.cell? ⟨w1.heap.size, 1, none⟩ = some (.int .i64 1) := hC4.cell 1 rfl
  have c2 : w4.cell? ⟨w1.heap.size, 2, none⟩ = some (.int .i64 8) := hC4.cell 2 rfl
  go_wp2_with fail
  refine HA2.out.mono ?_
  rintro e w5 (⟨_, rfl, hk5⟩ | ⟨h0, _⟩)
  case inr => exact absurd h0 (by decide)
  have hC5 := hk5.at hC4 (by simp)
  have K5 := K4.trans hk5
  clear HA2 hk5 hC4 K4 c0 c1 c2
  have c0 : w5.cell? ⟨w1.heap.size, 0, none⟩ = some (.int .i64 3) := hC5.cell 0 rfl
  have c1 : w5.cell? ⟨w1.heap.size, 1, none⟩ = some (.int .i64 1) := hC5.cell 1 rfl
  have c2 : w5.cell? ⟨w1.heap.size, 2, none⟩ = some (.int .i64 8) := hC5.cell 2 rfl
  go_wp2_with fail
  refine (from_at _ exC exC_ok.small 0 (by omega)).mono ?_
  rintro e w6 ⟨rfl, hk6⟩
  go_wp2_with fail
  go_ret
  exact ⟨rfl, (K5.trans hk6).below (Nat.le_refl _) (by simp)⟩

/-- A head by small numbers, as a value and in a box. -/
abbrev h9V (r n : Int) : Value := .agg #[.int .u8 r, .int .u8 n]
abbrev h9O (r n : Int) : Obj := .cells #[.int .u8 r, .int .u8 n] 69

set_option maxRecDepth 100000 in
set_option maxHeartbeats 400000 in
theorem make9_at (w : World) (r n : Nat) (hr : r ≤ 255) (hn : n ≤ 255) :
    Calls Tryz.prog 60 #[h9V r n] w fun e w' => e = .returned (hdV ((n % 9 : Nat) : Int) ((r % (n % 9 + 1) : Nat) : Int)) ∧ Keeps [] w w' := by
  have hri : (r : Int) ≤ 255 := by omega
  have hni : (n : Int) ≤ 255 := by omega
  obtain ⟨m, hm⟩ : ∃ m, m = n % 9 := ⟨_, rfl⟩
  have E1 := hid (show (n : Int) % 9 = (m : Int) by omega)
  have hmb : (m : Int) ≤ 8 := by omega
  have E2 : Hid ((r : Int) % ((m : Int) + 1) = ((r % (m + 1) : Nat) : Int)) := by show _ = _; simp
  have hne : ¬ ((m : Int) + 1 = 0) := by omega
  rw [← hm]
  clear hm
  go_enter Tryz.func60, Tryz.ntmps60
  go_wp2
  refine bodyPost_ret (v := hdV ((n : Int) % 9) ((r : Int) % ((n : Int) % 9 + 1))) (by simp [results, Tryz.results60, go_sem]) rfl ?_
  exact ⟨by rw [E1.out, E2.out], ((Keeps.refl _ _).alloc _).alloc _⟩

end Go.Proofs.YtbalmmnggfgpkaaGreat

