/- The walk of the law SuperRefuses. -/
import Derived.Test.YtmbbhjddjmljoaaLaw5
namespace Go.Proofs.Ytmbbhjddjmljoaa
open Go.RowKit Go.OpenShut

theorem fitsB_off {c : Cfg} {n : Nat} (h : c.words ≠ n) : fitsB (c.log : Int) (c.roots : Int) (c.space : Int) n = false := by
  unfold fitsB
  rw [Bool.and_eq_false_iff]
  right
  simpa using h

theorem fitsB_bad {l r s : Int} {n : Nat} (h : cfgB l r s = false) : fitsB l r s n = false := by
  unfold fitsB
  rw [h]
  rfl

set_option maxRecDepth 100000 in
set_option maxHeartbeats 4000000 in
theorem refuses_walk0 (l r s m : Nat) (a b d : Int) (W : World) (hl : l ≤ 65535) (hr : r ≤ 65535) (hs : s ≤ 65535) (hm : m ≤ 255) :
    Calls Try.prog 5 #[c3V l r s, .int .u8 m, .int .i64 a, .int .i64 b, .int .i64 d] W fun e w' => e = .returned (.bool true) ∧ Below W.heap.size W w' := by
  have hmi : (m : Int) ≤ 255 := by omega
  obtain ⟨N, hN⟩ : ∃ N, N = (mk3 l r s).words + 8 * (m % 5) := ⟨_, rfl⟩
  have hwg := words_ge (mk3_ok l r s)
  have hmk := run_make_at (P := Try.prog) 25 26 (.int .u64 0) 8 Try.underlying25 (by kernel_rfl) rfl N (by omega) (by omega)
  have HMK := hid hmk
  clear hmk
  go_enter Try.func5, Try.ntmps5
  go_wp2_with fail
  have hB0 := At.new W (c3O l r s)
  have K0 := (Keeps.refl [] W).alloc (c3O l r s)
  refine (awake5_any _).mono ?_
  rintro e w1 ⟨rfl, hb1⟩
  have k1 := Go.Proofs.Ytmbbhjddjmljoaa.Below.keeps hb1 []
  have K1 := K0.trans k1
  have hB1 := k1.at hB0 (by simp)
  clear hb1 k1 hB0 K0
  have c0 : w1.cell? ⟨W.heap.size, 0, none⟩ = some (.int .u16 l) := hB1.cell 0 rfl
  have c1 : w1.cell? ⟨W.heap.size, 1, none⟩ = some (.int .u16 r) := hB1.cell 1 rfl
  have c2 : w1.cell? ⟨W.heap.size, 2, none⟩ = some (.int .u16 s) := hB1.cell 2 rfl
  go_wp2_with fail
  refine (make3_at w1 l r s hl hr hs).mono ?_
  rintro e w2 ⟨rfl, hk2⟩
  have K2 := K1.trans hk2
  have hok := mk3_ok l r s
  obtain ⟨c, hc⟩ : ∃ c, c = mk3 l r s := ⟨_, rfl⟩
  rw [← hc] at hok hwg hN ⊢
  have HNw := hid hN
  have HO := hid hok
  have hwi : (c.words : Int) ≤ 15000 := by omega
  have hsm := hok.small
  clear hc c0 c1 c2 hB1 hk2 K1
  go_wp2_with fail
  have hC3 := At.new w2 (cfgO c)
  have K3 := K2.alloc (cfgO c)
  have hz2 := K2.size
  obtain ⟨cb, hcb⟩ : ∃ cb, cb = w2.heap.size := ⟨_, rfl⟩
  rw [← hcb] at hC3 hz2 ⊢
  have HCB := hid hcb
  clear hcb K2 hN hok
  refine (cwords_at _ c hsm).mono ?_
  rintro e w3 ⟨rfl, hk3⟩
  have hC4 := hk3.at hC3 (by simp)
  have K4 := K3.trans hk3
  have hcl : cb < w3.heap.size := hC4.lt
  have e1 : (c.words : Int) + 8 * ((m : Int) % 5) = (N : Int) := by have := HNw.out; omega
  have hmk := HMK.out
  clear hC3 K3 hk3
  go_wp2_with fail
  have hA := At.new w3 (.cells (rowOf id N fun _ => .int .u64 0) 26)
  have hC5 := hC4.alloc (.cells (rowOf id N fun _ => .int .u64 0) 26)
  have K5 := K4.alloc (.cells (rowOf id N fun _ => .int .u64 0) 26)
  rw [rowOf_u64 N (fun _ => 0)] at hA hC5 K5 ⊢
  have hN8 : N % 8 = 0 := by have := HNw.out; omega
  have hNb : N ≤ 20000 := by have := HNw.out; omega
  clear hmk e1 hC4
  refine (lnew_at _ (some ⟨w3.heap.size, 0, none⟩) N N (N / 8) _ (Reads.of_at0 hA (Nat.le_refl _)) (by omega) (by omega)).mono ?_
  rintro e w6 ⟨p, dv, rfl, haL, hD6, hp6, ⟨b1, b2, b3, b4, b5⟩, hk6⟩
  simp only [World.size_alloc] at b1 b2 b3 b4 b5
  have hC6 := hk6.at hC5 (by simp)
  have K6 := K5.trans hk6
  have haN : Hid (N = dv.n) := by show _ = _; have := dv.n8; omega
  have hP6 : Pw w6 p dv (-1) 0 _ := ⟨hD6, hp6, by omega, .inl (by omega)⟩
  have c0 := hC6.cell 0 rfl
  have c1 := hC6.cell 1 rfl
  have c2 := hC6.cell 2 rfl
  have HHL := hid haL
  have hz4 := K4.size
  clear hD6 hp6 hk6 hC5 K5 hA haL
  by_cases h5 : m % 5 = 0
  · have t0 : decide (0 < (m : Int) % 5) = false := by rw [decide_eq_false_iff_not]; omega
    have t1 : ((m : Int) % 5 == 0) = true := by rw [beq_iff_eq]; omega
    have hfit : c.words = dv.n := by have := HNw.out; have := haN.out; omega
    have HF := hid (format_free w6 p dv 0 _ c hP6 HO.out hfit (by omega))
    clear h5 hfit
    go_wp2_with fail
    refine HF.out.mono ?_
    rintro e w7 ⟨rfl, _, hk7⟩
    have K7 : Keeps [] W w7 := K6.new hk7 (by simp; omega)
    clear c0 c1 c2 hk7 HF hC6 hP6
    have hG8 := At.new w7 (.cells #[.int .i64 a, .int .i64 b, .int .i64 d] 29)
    have K8 := K7.alloc (.cells #[.int .i64 a, .int .i64 b, .int .i64 d] 29)
    go_wp2_with fail
    refine (check_any _ a b d).mono ?_
    rintro e w9 ⟨rfl, hk9⟩
    have hG9 := hk9.at hG8 (by simp)
    have K9 := K8.trans hk9
    clear hG8 K8 hk9
    cases hbad : cfgB a b d
    · have hE : Hid (chkE a b d = 1) := by show _ = _; simp [chkE, hbad]
      have HB := hid hbad
      rw [hE.out]
      have hmk := make56
      clear hbad
      have hA9 := At.new w9 (.cells (u64s 56 fun _ => 0) 26)
      have hG10 := hG9.alloc (.cells (u64s 56 fun _ => 0) 26)
      have K10 := K9.alloc (.cells (u64s 56 fun _ => 0) 26)
      go_wp2_with fail
      clear hmk
      refine (lnew_at _ (some ⟨w9.heap.size, 0, none⟩) 56 56 7 _ (Reads.of_at0 hA9 (Nat.le_refl _)) rfl (by omega)).mono ?_
      rintro e w11 ⟨p2, dw, rfl, haL2, hD11, hp11, _, hk11⟩
      have hG11 := hk11.at hG10 (by simp)
      have K11 := K10.trans hk11
      have hn11 : dw.n ≤ 56 := by have := dw.n8; omega
      have c0 := hG11.cell 0 rfl
      have c1 := hG11.cell 1 rfl
      have c2 := hG11.cell 2 rfl
      clear hk11 hG10 hG9 hA9 K10 K9 haL2 hp11
      go_wp2_with fail
      refine (format_no w11 p2 dw _ a b d hD11 (fitsB_bad HB.out)).mono ?_
      rintro e w12 ⟨rfl, hk12⟩
      have hD12 := hD11.keep hk12 (by simp) (by simp) (by simp) (by simp)
      have K12 := K11.trans hk12
      clear hk12 K11 hG11 c0 c1 c2 hD11
      go_wp2_with fail
      refine (zero_true w12 p2 dw _ hD12 (fun i hi => by simp) (by omega)).mono ?_
      rintro e w13 ⟨rfl, hk13⟩
      go_wp2_with fail
      go_ret
      exact ⟨rfl, (K12.trans hk13).below (Nat.le_refl _) (by simp)⟩
    · have hE : Hid (chkE a b d = 0) := by show _ = _; simp [chkE, hbad]
      rw [hE.out]
      clear hbad
      go_wp2_with fail
      go_ret
      exact ⟨rfl, K9.below (Nat.le_refl _) (by simp)⟩
  · have t0 : decide (0 < (m : Int) % 5) = true := by rw [decide_eq_true_eq]; omega
    have t1 : ((m : Int) % 5 == 0) = false := by rw [beq_eq_false_iff_ne]; omega
    have hfit : c.words ≠ dv.n := by have := HNw.out; have := haN.out; omega
    have HF := hid (format_no w6 p dv _ _ _ _ hP6.dev (fitsB_off hfit))
    have hnb : dv.n ≤ 100000 := by have := haN.out; omega
    clear h5 hfit
    go_wp2_with fail
    refine HF.out.mono ?_
    rintro e w7 ⟨rfl, hk7⟩
    have hD7 := hP6.dev.keep hk7 (by simp) (by simp) (by simp) (by simp)
    have K7' : Keeps [] W w7 := K6.trans hk7
    clear c0 c1 c2 hk7 HF hC6 hP6
    go_wp2_with fail
    refine (zero_true w7 p dv _ hD7 (fun i hi => by simp) hnb).mono ?_
    rintro e w7 ⟨rfl, hk7⟩
    have K7 := K7'.trans hk7
    clear K7' hk7 hD7
    have hG8 := At.new w7 (.cells #[.int .i64 a, .int .i64 b, .int .i64 d] 29)
    have K8 := K7.alloc (.cells #[.int .i64 a, .int .i64 b, .int .i64 d] 29)
    go_wp2_with fail
    refine (check_any _ a b d).mono ?_
    rintro e w9 ⟨rfl, hk9⟩
    have hG9 := hk9.at hG8 (by simp)
    have K9 := K8.trans hk9
    clear hG8 K8 hk9
    cases hbad : cfgB a b d
    · have hE : Hid (chkE a b d = 1) := by show _ = _; simp [chkE, hbad]
      have HB := hid hbad
      rw [hE.out]
      have hmk := make56
      clear hbad
      have hA9 := At.new w9 (.cells (u64s 56 fun _ => 0) 26)
      have hG10 := hG9.alloc (.cells (u64s 56 fun _ => 0) 26)
      have K10 := K9.alloc (.cells (u64s 56 fun _ => 0) 26)
      go_wp2_with fail
      clear hmk
      refine (lnew_at _ (some ⟨w9.heap.size, 0, none⟩) 56 56 7 _ (Reads.of_at0 hA9 (Nat.le_refl _)) rfl (by omega)).mono ?_
      rintro e w11 ⟨p2, dw, rfl, haL2, hD11, hp11, _, hk11⟩
      have hG11 := hk11.at hG10 (by simp)
      have K11 := K10.trans hk11
      have hn11 : dw.n ≤ 56 := by have := dw.n8; omega
      have c0 := hG11.cell 0 rfl
      have c1 := hG11.cell 1 rfl
      have c2 := hG11.cell 2 rfl
      clear hk11 hG10 hG9 hA9 K10 K9 haL2 hp11
      go_wp2_with fail
      refine (format_no w11 p2 dw _ a b d hD11 (fitsB_bad HB.out)).mono ?_
      rintro e w12 ⟨rfl, hk12⟩
      have hD12 := hD11.keep hk12 (by simp) (by simp) (by simp) (by simp)
      have K12 := K11.trans hk12
      clear hk12 K11 hG11 c0 c1 c2 hD11
      go_wp2_with fail
      refine (zero_true w12 p2 dw _ hD12 (fun i hi => by simp) (by omega)).mono ?_
      rintro e w13 ⟨rfl, hk13⟩
      go_wp2_with fail
      go_ret
      exact ⟨rfl, (K12.trans hk13).below (Nat.le_refl _) (by simp)⟩
    · have hE : Hid (chkE a b d = 0) := by show _ = _; simp [chkE, hbad]
      rw [hE.out]
      clear hbad
      go_wp2_with fail
      go_ret
      exact ⟨rfl, K9.below (Nat.le_refl _) (by simp)⟩

theorem superRefuses_walk (l r s m a b d : Int) (W : World) (wl : (Lit.int .u16 l).wf = true) (wr : (Lit.int .u16 r).wf = true) (ws : (Lit.int .u16 s).wf = true) (wm : (Lit.int .u8 m).wf = true)
    (_ : (Lit.int .i64 a).wf = true) (_ : (Lit.int .i64 b).wf = true) (_ : (Lit.int .i64 d).wf = true) :
    Calls Try.prog 5 #[.agg #[.int .u16 l, .int .u16 r, .int .u16 s], .int .u8 m, .int .i64 a, .int .i64 b, .int .i64 d] W fun e w' => e = .returned (.bool true) ∧ Below W.heap.size W w' := by
  obtain ⟨l, rfl, hl⟩ := c3_open wl
  obtain ⟨r, rfl, hr⟩ := c3_open wr
  obtain ⟨s, rfl, hs⟩ := c3_open ws
  obtain ⟨hm0, hm⟩ := bounds_u8 wm
  obtain ⟨m, rfl⟩ : ∃ n : Nat, (n : Int) = m := ⟨m.toNat, by omega⟩
  exact refuses_walk0 l r s m a b d W hl hr hs (by omega)

end Go.Proofs.Ytmbbhjddjmljoaa
