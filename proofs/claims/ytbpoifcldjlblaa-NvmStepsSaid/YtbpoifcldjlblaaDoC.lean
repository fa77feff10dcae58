/- One step, on a device and by definition: a crash. -/
import Derived.Test.YtbpoifcldjlblaaDoF
namespace Go.Proofs.Ytbpoifcldjlblaa
open Go.RowKit

/-- What the crash's function goes by: all was right so far, the last one was the one ahead of i. -/
def Asked (rb lb sb : Nat) (d q v bits : Int) (i : Nat) (w : World) : Prop :=
  At w rb (.cells #[.bool true] 4) ∧ At w lb (.cells #[.int .i64 ((i : Int) - 1)] 3) ∧ At w sb (stepO d q v bits)

set_option maxHeartbeats 400000 in
theorem do1_at (w : World) (rb lb sb : Nat) (d q v bits : Int) (i : Nat) (hi : i ≤ 17592186044416) (h : Asked rb lb sb d q v bits i w) (h1 : rb ≠ lb) (h2 : rb ≠ sb) (h3 : lb ≠ sb) :
    Calls Try.prog 39 #[.int .i64 i, ptr rb, ptr lb, ptr sb] w fun e w' => e = .returned (.int .u8 (chV bits i)) ∧ Asked rb lb sb d q v bits (i + 1) w' ∧ Keeps [rb, lb] w w' := by
  obtain ⟨hr, hl, hs⟩ := h
  obtain ⟨L, hL⟩ : ∃ L : Int, L = (i : Int) - 1 := ⟨_, rfl⟩
  have hib : (i : Int) ≤ 17592186044416 := by omega
  rw [← hL] at hl
  have e1 : L + 1 = (i : Int) := by omega
  have hLb : -1 ≤ L ∧ L ≤ 17592186044416 := by omega
  have gi : ((i : Int) == (i : Int)) = true := by simp
  have r1 := hr.cell 0 rfl
  have r2 := hr.free 0
  have l1 := hl.cell 0 rfl
  have l2 := hl.free 0
  have s1 := hs.cell 3 rfl
  have HC := hid (fun W => choice_at W bits i hi)
  clear hL
  go_enter Try.func39, Try.ntmps39
  go_wp2_with fail
  refine (HC.out _).mono ?_
  rintro e w1 ⟨rfl, rfl⟩
  go_wp2
  go_ret
  refine ⟨rfl, ⟨?_, ?_, ?_⟩, ((Keeps.refl [rb, lb] w).set (.inl (by simp)) _).set (.inl (by simp)) _⟩
  · exact (hr.set 0 _).set_ne h1 _
  · have := (hl.set_ne h1.symm (a := ⟨rb, 0, none⟩) (.bool true)).set 0 (.int .i64 (i : Int))
    have e2 : (((i + 1 : Nat) : Int) - 1) = (i : Int) := by omega
    rw [e2]
    exact this
  · exact (hs.set_ne (by simpa using h2.symm) _).set_ne (by simpa using h3.symm) _

theorem do1_chooser (rb lb sb : Nat) (d q v bits : Int) (n : Nat) (hn : n ≤ 17592186044416) (h1 : rb ≠ lb) (h2 : rb ≠ sb) (h3 : lb ≠ sb) :
    Chooser 39 #[ptr rb, ptr lb, ptr sb] n (chV bits) [rb, lb] [rb, lb, sb] (Asked rb lb sb d q v bits) where
  inv := fun w i => by simp [go_sem]
  call := fun i w hi h => do1_at w rb lb sb d q v bits i (by omega) h h1 h2 h3
  keep := fun i w w' S h hk hs => ⟨hk.at h.1 (hs _ (by simp)), hk.at h.2.1 (hs _ (by simp)), hk.at h.2.2 (hs _ (by simp))⟩
  low := chV_low bits

theorem Row.full {w : World} {b n : Nat} {f : Nat → Int} (h : Row w b n n f) : At w b (.cells (u64s n f) 30 (0, 0)) := by
  obtain ⟨cur, h1, h2, _, h4⟩ := h
  rwa [u64s_ext h2 h4] at h1

set_option maxRecDepth 100000 in
set_option maxHeartbeats 4000000 in
theorem do_crash (w : World) (p : Nat) (a : DA) (x : MA) (S : DS) (l u : Int) (h : Dev w p a S) (hp : At w p (powO l u)) (hm : MDev w x a.n S.ms) (hsep : Sep p a x) (d q v bits : Int) (hq : 0 ≤ q ∧ q ≤ 255) (hd : 0 ≤ d ∧ d ≤ 255) (hd7 : d % 7 = 6) :
    Calls Try.prog 14 #[ptr x.m, ptr a.d, stepV d q v bits] w (DoPost p a x l u w) := by
  have hn := h.few
  have hnb : a.n ≤ 17592186044416 := by have := a.n8; omega
  have c0 := hm.mo.cell 0 rfl
  have l1 := hm.mo.lt
  have HSEP := hid hsep
  clear hsep
  have s4 : (d % 7 == 4) = false := by rw [beq_eq_false_iff_ne]; omega
  have s5 : (d % 7 == 5) = false := by rw [beq_eq_false_iff_ne]; omega
  go_enter Try.func14, Try.ntmps14
  go_upto_region 3 with fail
  go_cut [33] (fun s33 wx => (∃ b : Bool, s33 = .bool b ∧ (b = true → 0 < a.n)) ∧ At wx w.heap.size (stepO d q v bits) ∧ Keeps [] w wx)
  case first =>
    as_aux_lemma =>
      by_cases h0 : 0 < a.n
      · have hn0 : decide (0 < (a.n : Int)) = true := by rw [decide_eq_true_iff]; omega
        go_wp2_with fail
        go_meet
        exact ⟨⟨_, rfl, fun _ => h0⟩, At.new _ _, (Keeps.refl _ _).alloc _⟩
      · have hn0 : decide (0 < (a.n : Int)) = false := by rw [decide_eq_false_iff_not]; omega
        go_wp2_with fail
        go_meet
        exact ⟨⟨_, rfl, fun h => by cases h⟩, At.new _ _, (Keeps.refl _ _).alloc _⟩
  case rest =>
    obtain ⟨⟨bb, rfl, hb0⟩, hB, hK⟩ := hcut
    have b1 := hB.cell 1 rfl
    go_upto_if 33 with fail
    go_cut [8] (fun s8 wx => (∃ i : Int, s8 = .int .i64 i ∧ -3 ≤ i ∧ i ≤ 255) ∧ At wx w.heap.size (stepO d q v bits) ∧ Keeps [] w wx)
    case first =>
      as_aux_lemma =>
        by_cases hbb : bb = true
        · subst hbb
          have h0 := hb0 rfl
          go_wp2_with fail
          go_meet
          refine ⟨⟨_, rfl, ?_⟩, hB, hK⟩
          obtain ⟨m, rfl⟩ := Int.eq_ofNat_of_zero_le hq.1
          have e : (m : Int) % (a.n : Int) = ((m % a.n : Nat) : Int) := rfl
          have := Nat.mod_le m a.n
          omega
        · have hbf : bb = false := by
            cases bb
            · rfl
            · exact absurd rfl hbb
          subst hbf
          go_wp2_with fail
          go_meet
          exact ⟨⟨_, rfl, by omega, by omega⟩, hB, hK⟩
    case rest =>
      clear hb0 hB hK b1
      obtain ⟨⟨i, rfl, hi1, hi2⟩, hB, hK⟩ := hcut
      go_upto_region 5 with fail
      go_cut [9] (fun s9 wx => (∃ b : Bool, s9 = .bool b) ∧ At wx w.heap.size (stepO d q v bits) ∧ Keeps [] w wx)
      case first =>
        as_aux_lemma =>
          by_cases h0 : 0 ≤ i
          · have g0 : decide (0 ≤ i) = true := by rw [decide_eq_true_iff]; omega
            go_wp2_with fail
            go_meet
            exact ⟨⟨_, rfl⟩, hB, hK⟩
          · have g0 : decide (0 ≤ i) = false := by rw [decide_eq_false_iff_not]; omega
            go_wp2_with fail
            go_meet
            exact ⟨⟨_, rfl⟩, hB, hK⟩
      case rest =>
        clear hB hK
        obtain ⟨⟨bi, rfl⟩, hB, hK⟩ := hcut
        have h1 := h.keep hK (by simp) (by simp) (by simp) (by simp)
        have hp1 := hK.at hp (by simp)
        have hm1 := hm.keep hK (by simp)
        have b0 := hB.cell 0 rfl
        have b2 := hB.cell 2 rfl
        have b3 := hB.cell 3 rfl
        have ZB : Hid (p < w.heap.size ∧ (a.d < w.heap.size ∧ a.s < w.heap.size ∧ a.k < w.heap.size ∧ a.m < w.heap.size) ∧ x.m < w.heap.size ∧ x.n < w.heap.size ∧ x.k < w.heap.size ∧ x.t < w.heap.size ∧ x.i < w.heap.size) := ⟨hp.lt, h.low, hm.low⟩
        clear c0 l1 h hp hm
        have hk0 : Keeps [] wc ((wc.alloc (.cells #[.int .i64 (-1)] 3)).alloc (.cells #[.bool true] 4)) := ((Keeps.refl _ _).alloc _).alloc _
        have hJ : Asked (wc.heap.size + 1) wc.heap.size w.heap.size d q v bits 0 ((wc.alloc (.cells #[.int .i64 (-1)] 3)).alloc (.cells #[.bool true] 4)) :=
          ⟨At.newk (by simp), (At.new _ _).alloc _, hk0.at hB (by simp)⟩
        have zc := hB.lt
        have HZ : Hid (w.heap.size ≤ wc.heap.size) := hK.size
        have HLOW : Hid (∀ b ∈ x.blocks, b < w.heap.size) := by have h := ZB.out; intro b hb; simp at hb; omega
        have hps := h1.ps
        have hpk := h1.pk
        have hpm := h1.pm
        have HF := hid (crash_at _ p a S (h1.keep hk0 (by simp) (by simp) (by simp) (by simp)) _ _ _ _ _ _ (do1_chooser (wc.heap.size + 1) wc.heap.size w.heap.size d q v bits a.n hnb (by omega) (by omega) (by omega)) hJ
          (by have := ZB.out; simp; omega) (by have := ZB.out; simp; omega) (by simp; omega) (by simp; omega))
        have hm0 := hm1.keep hk0 (by simp)
        have hp0 := hk0.at hp1 (by simp)
        clear hJ
        go_wp2_with fail
        refine HF.out.mono ?_
        rintro e w2 ⟨rfl, h2, hJ2, hk2⟩
        have hm2 := hm0.keep hk2 (by intro b hb; have h := HSEP.out b hb; have hl := HLOW.out b hb; simp; omega)
        have hp2 := hk2.at hp0 (by have := ZB.out; simp; omega)
        have K2 : Keeps [a.s, a.k, a.m] w w2 := ((hK.mono (S' := [a.s, a.k, a.m]) (by simp)).new hk0 (by simp)).new hk2 (by simp; omega)
        clear h1 hp1 hm1 b0 b2 b3 hB hK hk0 hm0 hp0 HF hk2
        have m0 := hm2.mo.cell 0 rfl
        obtain ⟨N, hN⟩ : ∃ N, N = wc.heap.size := ⟨_, rfl⟩
        rw [← hN] at hJ2 HZ zc ⊢
        clear hN
        go_wp2_with fail
        go_loopg [158] a.n (fun r s wr => ∃ z : Nat, z + r = a.n ∧ s = .int .i64 z ∧
          MDev wr x a.n ⟨S.now, fun y => if 0 ≤ y ∧ y < z then leftV S y (chV bits y % 3) else S.kept y, S.tok, fun y => if 0 ≤ y ∧ y < z then false else S.is (y / 8)⟩ ∧ Keeps [x.k, x.i] w2 wr)
        case atStart =>
          refine ⟨0, by omega, rfl, ?_, Keeps.refl _ _⟩
          simpa using hm2
        case round =>
          obtain ⟨z, hz, rfl, hM, hKr⟩ := hrel
          by_cases hlt : z < a.n
          · have hzb : (z : Int) < (a.n : Int) := by omega
            have hB3 := (hKr.at hJ2.2.2 (by have := ZB.out; simp; omega)).cell 3 rfl
            have HC := hid (fun W => choice_at W bits z (by omega : z ≤ 17592186044416))
            have hcl := chV_low bits z
            have m0 := hM.mo.cell 0 rfl
            have m1 := hM.mo.cell 1 rfl
            have m2 := hM.mo.cell 2 rfl
            have m3 := hM.mo.cell 3 rfl
            have i1 := hM.is.cell z (rowOf_get hlt)
            change _ = some (Value.bool (if 0 ≤ z ∧ z < z then false else S.is (z / 8))) at i1
            rw [if_neg (by omega)] at i1
            have i2 := hM.is.free z
            have k1 := hM.kept.cell hlt
            have k2 := hM.kept.free z
            have t1 := hM.too.cell hlt
            have n1 := hM.now.cell hlt
            have ne1 := hM.ki
            have ne2 := hM.kt
            have ne3 := hM.ti
            have ne4 := hM.mkk
            have ne5 := hM.mi
            have ne6 := hM.nk
            have ne7 := hM.ni
            have E1 := hid (grow_put 0 z (Nat.zero_le _) (fun y => leftV S y (chV bits y % 3)) S.kept)
            have E2 := hid (grow_put 0 z (Nat.zero_le _) (fun _ => false) (fun y => S.is (y / 8)))
            have E3 := hid (grow_same 0 z (fun y => leftV S y (chV bits y % 3)) S.kept)
            obtain ⟨cz, hcz⟩ : ∃ cz, cz = chV bits z % 3 := ⟨_, rfl⟩
            have HCZ := hid hcz
            have hcz3 : cz = 0 ∨ cz = 1 ∨ cz = 2 := by omega
            have ecz := hcz.symm
            clear hcz
            rcases hcz3 with rfl | rfl | rfl
            · as_aux_lemma =>
                have hE : leftV S z (chV bits z % 3) = S.kept z := by rw [← HCZ.out]; simp [leftV]
                have HE := hid hE
                clear hE
                go_wp2_with fail
                refine (HC.out _).mono ?_
                rintro e w3 ⟨rfl, rfl⟩
                go_wp2_with fail
                clear m0 m1 m2 m3 i1 k1 k2 t1 n1
                go_roundg (a.n - (z + 1))
                case measure => omega
                case rel =>
                  refine ⟨z + 1, by omega, by go_num, ?_, hKr.set (.inl (by simp)) _⟩
                  rw [E3.out HE.out, E2.out]
                  exact hM.set_is z false
            · by_cases his : S.is (z / 8) = true
              · as_aux_lemma =>
                  have hE : leftV S z (chV bits z % 3) = S.tok z := by rw [← HCZ.out]; simp [leftV, his]
                  have HE := hid hE
                  rw [his] at i1
                  clear hE
                  go_wp2_with fail
                  refine (HC.out _).mono ?_
                  rintro e w3 ⟨rfl, rfl⟩
                  go_wp2_with fail
                  go_region
                  all_goals
                    go_wp2_with fail
                    clear m0 m1 m2 m3 i1 k1 k2 t1 n1
                    go_roundg (a.n - (z + 1))
                    case measure => omega
                    case rel =>
                      refine ⟨z + 1, by omega, by go_num, ?_, ?_⟩
                      · rw [E1.out, E2.out, HE.out]
                        first | exact ((hM.set_kept hlt _).set_is z false).drew | exact ((hM.set_kept hlt _).drew.set_is z false)
                      · first | exact ((hKr.set (.inl (by simp)) _).set (.inl (by simp)) _).drew
              · as_aux_lemma =>
                  have hif : S.is (z / 8) = false := by simpa using his
                  have hE : leftV S z (chV bits z % 3) = S.kept z := by rw [← HCZ.out]; simp [leftV, hif]
                  have HE := hid hE
                  rw [hif] at i1
                  clear hE hif his
                  go_wp2_with fail
                  refine (HC.out _).mono ?_
                  rintro e w3 ⟨rfl, rfl⟩
                  go_wp2_with fail
                  clear m0 m1 m2 m3 i1 k1 k2 t1 n1
                  go_roundg (a.n - (z + 1))
                  case measure => omega
                  case rel =>
                    refine ⟨z + 1, by omega, by go_num, ?_, hKr.set (.inl (by simp)) _⟩
                    rw [E3.out HE.out, E2.out]
                    exact hM.set_is z false
            · as_aux_lemma =>
                have hE : leftV S z (chV bits z % 3) = S.now z := by rw [← HCZ.out]; simp [leftV]
                have HE := hid hE
                clear hE
                go_wp2_with fail
                refine (HC.out _).mono ?_
                rintro e w3 ⟨rfl, rfl⟩
                go_wp2_with fail
                go_region
                all_goals
                  go_wp2_with fail
                  clear m0 m1 m2 m3 i1 k1 k2 t1 n1
                  go_roundg (a.n - (z + 1))
                  case measure => omega
                  case rel =>
                    refine ⟨z + 1, by omega, by go_num, ?_, ?_⟩
                    · rw [E1.out, E2.out, HE.out]
                      first | exact ((hM.set_kept hlt _).set_is z false).drew | exact ((hM.set_kept hlt _).drew.set_is z false)
                    · first | exact ((hKr.set (.inl (by simp)) _).set (.inl (by simp)) _).drew
          · as_aux_lemma =>
              have hzn : z = a.n := by omega
              subst hzn
              have gL : ((a.n : Int) - 1 == (a.n : Int) - 1) = true := by simp
              go_wp2_with fail
              refine wp_region_tail 8 (by kernel_rfl) (by kernel_rfl) ?_
              intro w4 hk4 hz4
              simp only [List.take_succ_cons, List.take_zero, List.drop_succ_cons, List.drop_zero]
              have hM4 := hM.keep hk4 (by simp)
              have m0 := hM4.mo.cell 0 rfl
              have m1 := hM4.mo.cell 1 rfl
              repeat still_step
              refine wpStill_nil ?_
              refine copy64r rfl _ _ rfl x.n 0 a.n a.n (some ⟨x.k, 0, none⟩) a.n x.c rfl rfl a.n _ _ _ hM4.now.full hM4.kept.reads a.n (by omega) (by omega) ?_
              intro w5 hA5 hk5
              have K25 : Keeps [x.k, x.i, x.n] w2 w5 := ((hKr.mono (S' := [x.k, x.i, x.n]) (by intro b _ hb; simp at hb ⊢; omega)).new hk4 (by simp)).new hk5 (by simp)
              have hJ5 : Asked N.succ N w.heap.size d q v bits a.n w5 := ⟨K25.at hJ2.1 (by have := ZB.out; simp; omega), K25.at hJ2.2.1 (by have := ZB.out; simp; omega), K25.at hJ2.2.2 (by have := ZB.out; simp; omega)⟩
              have j1 := hJ5.1.cell 0 rfl
              have j2 := hJ5.2.1.cell 0 rfl
              clear m0 m1
              go_wp2_with fail
              go_ret
              have s1 := HSEP.out x.k (by simp)
              have s2 := HSEP.out x.i (by simp)
              have s3 := HSEP.out x.n (by simp)
              refine ⟨rfl, ⟨_, h2.keep K25 (by simp; omega) (by simp; omega) (by simp; omega) (by simp; omega), ?_⟩, K25.at hp2 (by simp; omega), ?_⟩
              · have hM5 : MDev w5 x a.n ⟨over S.now (fun y => if 0 ≤ y ∧ y < a.n then leftV S y (chV bits y % 3) else S.kept y) 0 0 a.n, fun y => if 0 ≤ y ∧ y < a.n then leftV S y (chV bits y % 3) else S.kept y, S.tok, fun y => if 0 ≤ y ∧ y < a.n then false else S.is (y / 8)⟩ :=
                  { hM4 with mo := hk5.at hM4.mo (by simpa using hM4.mn), now := Row.of_at hA5, kept := hM4.kept.keep hk5 (by simpa using hM4.nk.symm), too := hM4.too.keep hk5 (by simpa using hM4.nt.symm), is := hk5.at hM4.is (by simpa using hM4.ni.symm) }
                refine hM5.congr (fun y hy => ?_) (fun y hy => if_pos ⟨Nat.zero_le _, hy⟩) (fun y _ => rfl) (fun y hy => if_pos ⟨Nat.zero_le _, hy⟩)
                simp [over, hy]
              · exact (K2.mono (by intro b _ hb; simp at hb ⊢; omega)).new K25 (by intro b hb; simp at hb ⊢; omega)

end Go.Proofs.Ytbpoifcldjlblaa
