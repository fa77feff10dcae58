/- The walk of the law HeadApart. -/
import Derived.Test.YtbfenihlkenbmaaHead
import Derived.Deep.RegionHeld3
import Derived.Deep.DeepCutAuto
namespace Go.Proofs.Ytbfenihlkenbmaa
open Go.RowKit Go.OpenShut

theorem turned (X : Nat) (k : Int) (hX : X < 18446744073709551616) (_hk : 0 ≤ k) : ∃ N : Nat, bits .xor .u64 (X : Int) (IntKind.u64.wrap (2 ^ (k % 64).toNat)) = (N : Int) ∧ N < 18446744073709551616 ∧ N ≠ X := by
  have hj : (k % 64).toNat < 64 := by omega
  generalize (k % 64).toNat = j at hj
  have hp : 2 ^ j < 18446744073709551616 := Nat.pow_lt_pow_right (by decide) hj (a := 2) (n := 64)
  have hp0 : 0 < 2 ^ j := Nat.pow_pos (by decide)
  refine ⟨X ^^^ 2 ^ j, ?_, Nat.xor_lt_two_pow (n := 64) hX hp, ?_⟩
  · rw [IntKind.wrap_u64, show ((2 : Int) ^ j) = ((2 ^ j : Nat) : Int) by simp, Int.emod_eq_of_lt (by omega) (by omega), u64_xor_nat _ _ hX hp]
  · intro h
    have := congrArg (X ^^^ ·) h
    simp [← Nat.xor_assoc] at this

theorem hdPk_lt (p q : Nat) (hp : p ≤ 64) (hq : q ≤ p) : hdPk p q < 18446744073709551616 := by unfold hdPk; omega

theorem hdPk_inj {p q r s : Nat} (hp : p ≤ 64) (hr : r ≤ 64) (h : hdPk p q = hdPk r s) : p = r ∧ q = s := by
  unfold hdPk at h
  omega

theorem hdPk_pos (p q : Nat) : ((hdPk p q : Int) != 0) = true := by
  unfold hdPk
  simp
  omega

theorem beqn {a b : Nat} (h : a ≠ b) : ((a : Int) == (b : Int)) = false ∧ (a == b) = false ∧ decide (a = b) = false ∧ decide ((a : Int) = (b : Int)) = false := by
  have hi : ¬ (a : Int) = (b : Int) := by omega
  refine ⟨by rw [beq_eq_false_iff_ne]; exact hi, by rw [beq_eq_false_iff_ne]; exact h, by simp [h], by simp [hi]⟩

/-- Behind the first if: two rows of two numbers. -/
def Rows2 (x y : Nat) (a0 a1 : Int) (W : World) (wx : World) : Prop :=
  ∃ c0 c1, 0 ≤ c0 ∧ c0 ≤ 255 ∧ 0 ≤ c1 ∧ c1 ≤ 255 ∧ At wx x (.cells #[.int .u8 a0, .int .u8 a1] 36) ∧ At wx y (.cells #[.int .u8 c0, .int .u8 c1] 36) ∧ Keeps [] W wx

/-- Behind the two heads' making. -/
def Heads2 (x y : Nat) (a0 a1 c0 c1 : Int) (W : World) (s9 s10 : Value) (wx : World) : Prop :=
  ∃ bx bz, s9 = ptr bx ∧ s10 = ptr bz ∧ bx ≠ bz ∧ W.heap.size ≤ bx ∧ W.heap.size ≤ bz ∧ (bx ≠ x ∧ bx ≠ y ∧ bz ≠ x ∧ bz ≠ y) ∧ At wx bx (hdO (a0 % 65) 0) ∧ At wx bz (hdO (c0 % 65) 0) ∧
    At wx x (.cells #[.int .u8 a0, .int .u8 a1] 36) ∧ At wx y (.cells #[.int .u8 c0, .int .u8 c1] 36) ∧ Keeps [] W wx

/-- Behind the names' storing. -/
def Heads3 (bx bz : Nat) (p q r s : Int) (W : World) (wx : World) : Prop :=
  At wx bx (hdO p q) ∧ At wx bz (hdO r s) ∧ Keeps [] W wx

set_option maxRecDepth 100000 in
set_option maxHeartbeats 4000000 in
theorem headApart_walk (a0 a1 b0 b1 k : Int) (same : Bool) (W : World) (ha0 : (Lit.int .u8 a0).wf = true) (ha1 : (Lit.int .u8 a1).wf = true) (hb0 : (Lit.int .u8 b0).wf = true) (hb1 : (Lit.int .u8 b1).wf = true) (hk : (Lit.int .u8 k).wf = true) :
    Calls Try.prog 6 #[.agg #[.int .u8 a0, .int .u8 a1], .agg #[.int .u8 b0, .int .u8 b1], .int .u8 k, .bool same] W fun e w' => e = .returned (.bool true) ∧ Below W.heap.size W w' := by
  have ha0' := bounds_u8 ha0
  have ha1' := bounds_u8 ha1
  have hb0' := bounds_u8 hb0
  have hb1' := bounds_u8 hb1
  have hk' := bounds_u8 hk
  have K0 := ((Keeps.refl [] W).alloc (.cells #[.int .u8 a0, .int .u8 a1] 36)).alloc (.cells #[.int .u8 b0, .int .u8 b1] 36)
  go_enter Try.func6, Try.ntmps6
  go_wp2_with fail
  have x0 := (At.new W (.cells #[.int .u8 a0, .int .u8 a1] 36)).alloc (.cells #[.int .u8 b0, .int .u8 b1] 36)
  have y0 := At.new (W.alloc (.cells #[.int .u8 a0, .int .u8 a1] 36)) (.cells #[.int .u8 b0, .int .u8 b1] 36)
  refine (awake4_any _).mono ?_
  rintro e w1 ⟨rfl, hB⟩
  have hK := Go.Proofs.Ytbfenihlkenbmaa.Below.keeps hB []
  have K1 := K0.trans hK
  have x1 := hK.at x0 (by simp)
  have y1 := hK.at y0 (by simp)
  rw [show (W.alloc (.cells #[.int .u8 a0, .int .u8 a1] 36)).heap.size = W.heap.size + 1 by simp] at y1
  clear hB hK K0 x0 y0
  have c0 := x1.cell 0 rfl
  have c1 := x1.cell 1 rfl
  have d0 := y1.cell 0 rfl
  have d1 := y1.cell 1 rfl
  have f0 := y1.free 0
  have f1 := y1.free 1
  go_upto_if 15 with fail
  go_cut [] from 15 to 16 (fun wx => Rows2 W.heap.size (W.heap.size + 1) a0 a1 W wx)
  case first =>
    cases same
    · go_wp2_with fail
      go_meet
      exact ⟨b0, b1, hb0'.1, hb0'.2, hb1'.1, hb1'.2, x1, y1, K1⟩
    · go_wp2_with fail
      go_meet
      refine ⟨a0, a1, ha0'.1, ha0'.2, ha1'.1, ha1'.2, (x1.set_ne (by simp) _).set_ne (by simp) _, ?_, (K1.set (.inr (by simp)) _).set (.inr (by simp)) _⟩
      exact (y1.set 0 (.int .u8 a0)).set 1 (.int .u8 a1)
  case rest =>
    obtain ⟨e0, e1, he0, he0', he1, he1', x2, y2, K2⟩ := hcut
    clear c0 c1 d0 d1 f0 f1 x1 y1 K1
    trace_state
    have c0 : wc.cell? ⟨W.heap.size, 0, none⟩ = some (.int .u8 a0) := x2.cell 0 rfl
    have d0 : wc.cell? ⟨W.heap.size + 1, 0, none⟩ = some (.int .u8 e0) := y2.cell 0 rfl
    have g0 : wc.drew.cell? ⟨W.heap.size, 0, none⟩ = some (.int .u8 a0) := x2.drew.cell 0 rfl
    have i0 : wc.drew.cell? ⟨W.heap.size + 1, 0, none⟩ = some (.int .u8 e0) := y2.drew.cell 0 rfl
    have hz := K2.size
    have x2l := x2.lt
    have y2l := y2.lt
    go_upto_region 5 with fail
    go_cut [9, 10] from 17 to 26 (fun s9 s10 wx => Heads2 W.heap.size (W.heap.size + 1) a0 a1 e0 e1 W s9 s10 wx)
    case first =>
      go_region
      all_goals
        go_wp2_with fail
        go_meet
        refine ⟨_, _, rfl, rfl, by simp, by first | omega | (simp; omega), by first | omega | (simp; omega), by first | omega | (simp; omega), ?_, ?_, ?_, ?_, ?_⟩
        · refine At.drew ?_
          repeat' (first | (refine At.newk ?_; simp; done) | refine At.alloc ?_ _)
        · refine At.drew ?_
          repeat' (first | (refine At.newk ?_; simp; done) | refine At.alloc ?_ _)
        · exact ((x2.alloc _).alloc _).drew
        · exact ((y2.alloc _).alloc _).drew
        · exact ((K2.alloc _).alloc _).drew
    case rest =>
      obtain ⟨bx, bz, rfl, rfl, hn, hx1, hz1, ⟨m1, m2, m3, m4⟩, x3, z3, r3, t3, K3⟩ := hcut
      clear c0 d0 g0 i0 x2 y2 K2 hz x2l y2l
      obtain ⟨p, hp, hp1⟩ : ∃ p : Nat, (a0 % 65 = (p : Int)) ∧ p ≤ 64 := ⟨(a0 % 65).toNat, by omega, by omega⟩
      obtain ⟨r, hr, hr1⟩ : ∃ r : Nat, (e0 % 65 = (r : Int)) ∧ r ≤ 64 := ⟨(e0 % 65).toNat, by omega, by omega⟩
      rw [hp] at x3
      rw [hr] at z3
      obtain ⟨q, hq, hq1⟩ : ∃ q : Nat, (a1 % ((p : Int) + 1) = (q : Int)) ∧ q ≤ p := by
        have h0 := Int.emod_nonneg a1 (show ((p : Int) + 1) ≠ 0 by omega)
        have h1 := Int.emod_lt_of_pos a1 (show 0 < ((p : Int) + 1) by omega)
        exact ⟨(a1 % ((p : Int) + 1)).toNat, by omega, by omega⟩
      obtain ⟨s, hs, hs1⟩ : ∃ s : Nat, (e1 % ((r : Int) + 1) = (s : Int)) ∧ s ≤ r := by
        have h0 := Int.emod_nonneg e1 (show ((r : Int) + 1) ≠ 0 by omega)
        have h1 := Int.emod_lt_of_pos e1 (show 0 < ((r : Int) + 1) by omega)
        exact ⟨(e1 % ((r : Int) + 1)).toNat, by omega, by omega⟩
      have ha1l := ha1'.1
      have ha1u := ha1'.2
      have hpi : (p : Int) ≤ 64 := by omega
      have hri : (r : Int) ≤ 64 := by omega
      clear hp hr ha0 ha0' ha1 ha1' hb0 hb0' hb1 hb1' he0 he0'
      have ep : IntKind.i64.wrap ((p : Int) + 1) = (p : Int) + 1 := IntWalk.i64_in _ (by omega)
      have er : IntKind.i64.wrap ((r : Int) + 1) = (r : Int) + 1 := IntWalk.i64_in _ (by omega)
      have hn' : bz ≠ bx := fun h => hn h.symm
      have bl := r3.lt
      have bxl := x3.lt
      have bzl := z3.lt
      have c0 : wc.cell? ⟨bx, 0, none⟩ = some (.int .i64 p) := x3.cell 0 rfl
      have c1 : wc.cell? ⟨bx, 1, none⟩ = some (.int .i64 0) := x3.cell 1 rfl
      have d0 : wc.cell? ⟨bz, 0, none⟩ = some (.int .i64 r) := z3.cell 0 rfl
      have d1 : wc.cell? ⟨bz, 1, none⟩ = some (.int .i64 0) := z3.cell 1 rfl
      have g1 : wc.cell? ⟨W.heap.size, 1, none⟩ = some (.int .u8 a1) := r3.cell 1 rfl
      have i1 : wc.cell? ⟨W.heap.size + 1, 1, none⟩ = some (.int .u8 e1) := t3.cell 1 rfl
      have f1 := x3.free 1
      have h1 := z3.free 1
      have m1' := fun h => m1 (Eq.symm h)
      have m2' := fun h => m2 (Eq.symm h)
      have m3' := fun h => m3 (Eq.symm h)
      have m4' := fun h => m4 (Eq.symm h)
      go_upto_region 6 with fail
      go_cut [] from 27 to 42 (fun wx => Heads3 bx bz p q r s W wx)
      case first =>
        go_region
        all_goals
          go_wp2_with fail
          go_meet
          refine ⟨?_, ?_, ((K3.set (.inr hx1) _).set (.inr hz1) _).drew⟩
          · exact ((x3.set 1 (.int .i64 q)).set_ne hn _).drew
          · exact ((z3.set_ne hn' _).set 1 (.int .i64 s)).drew
      case rest =>
        obtain ⟨x4, z4, K4⟩ := hcut
        clear c0 c1 d0 d1 g1 i1 f1 h1 x3 z3 r3 t3 K3 bl bxl bzl ep er m1 m2 m3 m4 m1' m2' m3' m4' hx1 hz1 hq hs ha1l ha1u he1 he1'
        have c0 : wc.cell? ⟨bx, 0, none⟩ = some (.int .i64 p) := x4.cell 0 rfl
        have c1 : wc.cell? ⟨bx, 1, none⟩ = some (.int .i64 q) := x4.cell 1 rfl
        go_wp2_with fail
        refine (hpack_at _ p q hp1 hq1).mono ?_
        rintro e w5 ⟨rfl, hK⟩
        have x5 := hK.at x4 (by simp)
        have z5 := hK.at z4 (by simp)
        have K5 := K4.trans hK
        clear hK x4 z4 K4 c0 c1
        have c0 : w5.cell? ⟨bx, 0, none⟩ = some (.int .i64 p) := x5.cell 0 rfl
        have c1 : w5.cell? ⟨bx, 1, none⟩ = some (.int .i64 q) := x5.cell 1 rfl
        go_wp2_with fail
        obtain ⟨N, hN, hN1, hN2⟩ := turned (hdPk p q) k (hdPk_lt p q hp1 hq1) hk'.1
        rw [hN]
        clear hN hk hk'
        refine (hunpack_at _ N hN1).mono ?_
        rintro e w6 ⟨rfl, hK⟩
        have x6 := hK.at x5 (by simp)
        have z6 := hK.at z5 (by simp)
        have K6 := K5.trans hK
        clear hK x5 z5 K5 c0 c1
        have e0 := hdPk_pos p q
        cases hi : isHd N
        · have hV : Hid (unV N = .tuple #[hdV 0 0, .bool false]) := by show _ = _; simp [unV, hi]
          rw [hV.out]
          clear hV hi hN2 hN1
          go_wp2_with fail
          have x7 := x6.alloc (hdO 0 0)
          have z7 := z6.alloc (hdO 0 0)
          have v7 := At.new w6 (hdO 0 0)
          have K7 := K6.alloc (hdO 0 0)
          generalize w6.alloc (hdO 0 0) = w7 at x7 z7 v7 K7 ⊢
          generalize w6.heap.size = bv at v7 ⊢
          clear x6 z6 K6
          have HS : Hid (∀ w', Keeps [] w7 w' → w'.cell? ⟨bx, 0, none⟩ = some (.int .i64 p) ∧ w'.cell? ⟨bx, 1, none⟩ = some (.int .i64 q) ∧ w'.cell? ⟨bz, 0, none⟩ = some (.int .i64 r) ∧ w'.cell? ⟨bz, 1, none⟩ = some (.int .i64 s) ∧ w'.cell? ⟨bv, 0, none⟩ = some (.int .i64 0) ∧ w'.cell? ⟨bv, 1, none⟩ = some (.int .i64 0)) := fun w' hk => ⟨(hk.at x7 (by simp)).cell 0 rfl, (hk.at x7 (by simp)).cell 1 rfl, (hk.at z7 (by simp)).cell 0 rfl, (hk.at z7 (by simp)).cell 1 rfl, (hk.at v7 (by simp)).cell 0 rfl, (hk.at v7 (by simp)).cell 1 rfl⟩
          have kk : Keeps [] w7 w7.drew := (Keeps.refl _ _).drew
          clear x7 z7 v7
          rcases (show (p = r ∧ q = s) ∨ p ≠ r ∨ (p = r ∧ q ≠ s) by omega) with hh | hh | hh
          · obtain ⟨rfl, rfl⟩ := hh
            refine wp_region_noPanic ?_
            refine wp_region_held_drew (S := (fun w' => w'.cell? ⟨bx, 0, none⟩ = some (.int .i64 p) ∧ w'.cell? ⟨bx, 1, none⟩ = some (.int .i64 q) ∧ w'.cell? ⟨bz, 0, none⟩ = some (.int .i64 p) ∧ w'.cell? ⟨bz, 1, none⟩ = some (.int .i64 q) ∧ w'.cell? ⟨bv, 0, none⟩ = some (.int .i64 0) ∧ w'.cell? ⟨bv, 1, none⟩ = some (.int .i64 0))) (by kernel_rfl) ?_ (fun hHeld0 => ?_)
            · (try dsimp only); exact HS.out _ kk
            refine' wpAnyH_take (i := 0) (oi := _) (v := _) ?hi1 (by kernel_rfl) (by kernel_rfl) (by kernel_rfl) (fun _ _ _ h => h) (Or.inl ⟨?hw1, ?hy1⟩) hHeld0 ?rest1
            case hi1 => (simp only [List.getElem?_toArray, List.getElem?_cons_zero]; rfl)
            case hw1 => rfl
            case hy1 => (intro w hSw; (try dsimp only at hSw); go_simp; try (with_reducible rfl))
            (try simp only [Act.put, List.setIfInBounds_toArray, List.set_cons_zero, List.set_cons_succ])
            refine' wpAnyH_take (i := 2) (oi := _) (v := _) ?hi2 (by kernel_rfl) (by kernel_rfl) (by kernel_rfl) (fun _ _ _ h => h) (Or.inl ⟨?hw2, ?hy2⟩) hHeld0 ?rest2
            case hi2 => (simp only [List.getElem?_toArray, List.getElem?_cons_succ, List.getElem?_cons_zero]; rfl)
            case hw2 => rfl
            case hy2 => (intro w hSw; (try dsimp only at hSw); go_simp; try (with_reducible rfl))
            (try simp only [Act.put, List.setIfInBounds_toArray, List.set_cons_zero, List.set_cons_succ])
            refine' wpAnyH_take (i := 5) (oi := _) (v := _) ?hi3 (by kernel_rfl) (by kernel_rfl) (by kernel_rfl) (fun _ _ _ h => h) (Or.inl ⟨?hw3, ?hy3⟩) hHeld0 ?rest3
            case hi3 => (simp only [List.getElem?_toArray, List.getElem?_cons_succ, List.getElem?_cons_zero]; rfl)
            case hw3 => rfl
            case hy3 => (intro w hSw; (try dsimp only at hSw); go_simp; try (with_reducible rfl))
            (try simp only [Act.put, List.setIfInBounds_toArray, List.set_cons_zero, List.set_cons_succ])
            refine' wpAnyH_take (i := 6) (oi := _) (v := _) ?hi4 (by kernel_rfl) (by kernel_rfl) (by kernel_rfl) (fun _ _ _ h => h) (Or.inl ⟨?hw4, ?hy4⟩) hHeld0 ?rest4
            case hi4 => (simp only [List.getElem?_toArray, List.getElem?_cons_succ, List.getElem?_cons_zero]; rfl)
            case hw4 => rfl
            case hy4 => (intro w hSw; (try dsimp only at hSw); go_simp; try (with_reducible rfl))
            (try simp only [Act.put, List.setIfInBounds_toArray, List.set_cons_zero, List.set_cons_succ])
            refine' wpAnyH_take (i := 7) (oi := _) (v := _) ?hi5 (by kernel_rfl) (by kernel_rfl) (by kernel_rfl) (fun _ _ _ h => h) (Or.inl ⟨?hw5, ?hy5⟩) hHeld0 ?rest5
            case hi5 => (simp only [List.getElem?_toArray, List.getElem?_cons_succ, List.getElem?_cons_zero]; rfl)
            case hw5 => rfl
            case hy5 => (intro w hSw; (try dsimp only at hSw); go_simp; try (with_reducible rfl))
            (try simp only [Act.put, List.setIfInBounds_toArray, List.set_cons_zero, List.set_cons_succ])
            refine wpAnyH_ready (rs := [1]) (by kernel_rfl) (by simp) ?_
            refine' AllReadyH.cons (o := _) ?ho7 (fun K hK => ?step7) ?more7
            case ho7 => (simp only [List.getElem?_toArray, List.getElem?_cons_succ, List.getElem?_cons_zero]; rfl)
            case step7 =>
              go_simp
              (go_at_call 10; refine (hpack_at _ _ _ (by assumption) (by assumption)).mono ?_; rintro e w9 ⟨rfl, hk⟩; have kk := kk.trans hk; clear hk)
              (try go_wp2_with fail)
              refine hK.out _ _ ?_ (fun hHeld1 => ?_)
              · (try dsimp only); exact HS.out _ kk
              clear hK K hHeld0
              (try simp only [Act.put, List.setIfInBounds_toArray, List.set_cons_zero, List.set_cons_succ])
              refine wpAnyH_ready (rs := [3]) (by kernel_rfl) (by simp) ?_
              refine' AllReadyH.cons (o := _) ?ho9 (fun K hK => ?step9) ?more9
              case ho9 => (simp only [List.getElem?_toArray, List.getElem?_cons_succ, List.getElem?_cons_zero]; rfl)
              case step9 =>
                go_simp
                (go_at_call 10; refine (hpack_at _ _ _ (by assumption) (by assumption)).mono ?_; rintro e w9 ⟨rfl, hk⟩; have kk := kk.trans hk; clear hk)
                (try go_wp2_with fail)
                refine hK.out _ _ ?_ (fun hHeld2 => ?_)
                · (try dsimp only); exact HS.out _ kk
                clear hK K hHeld1
                (try simp only [Act.put, List.setIfInBounds_toArray, List.set_cons_zero, List.set_cons_succ])
                refine' wpAnyH_take (i := 4) (oi := _) (v := _) ?hi10 (by kernel_rfl) (by kernel_rfl) (by kernel_rfl) (fun _ _ _ h => h) (Or.inl ⟨?hw10, ?hy10⟩) hHeld2 ?rest10
                case hi10 => (simp only [List.getElem?_toArray, List.getElem?_cons_succ, List.getElem?_cons_zero]; rfl)
                case hw10 => rfl
                case hy10 => (intro w hSw; (try dsimp only at hSw); go_simp; try (with_reducible rfl))
                (try simp only [Act.put, List.setIfInBounds_toArray, List.set_cons_zero, List.set_cons_succ])
                refine' wpAnyH_take (i := 8) (oi := _) (v := _) ?hi11 (by kernel_rfl) (by kernel_rfl) (by kernel_rfl) (fun _ _ _ h => h) (Or.inl ⟨?hw11, ?hy11⟩) hHeld2 ?rest11
                case hi11 => (simp only [List.getElem?_toArray, List.getElem?_cons_succ, List.getElem?_cons_zero]; rfl)
                case hw11 => rfl
                case hy11 => (intro w hSw; (try dsimp only at hSw); go_simp; try (with_reducible rfl))
                (try simp only [Act.put, List.setIfInBounds_toArray, List.set_cons_zero, List.set_cons_succ])
                refine' wpAnyH_take (i := 9) (oi := _) (v := _) ?hi12 (by kernel_rfl) (by kernel_rfl) (by kernel_rfl) (fun _ _ _ h => h) (Or.inl ⟨?hw12, ?hy12⟩) hHeld2 ?rest12
                case hi12 => (simp only [List.getElem?_toArray, List.getElem?_cons_succ, List.getElem?_cons_zero]; rfl)
                case hw12 => rfl
                case hy12 => (intro w hSw; (try dsimp only at hSw); go_simp; try (with_reducible rfl))
                (try simp only [Act.put, List.setIfInBounds_toArray, List.set_cons_zero, List.set_cons_succ])
                refine' wpAnyH_take (i := 10) (oi := _) (v := _) ?hi13 (by kernel_rfl) (by kernel_rfl) (by kernel_rfl) (fun _ _ _ h => h) (Or.inl ⟨?hw13, ?hy13⟩) hHeld2 ?rest13
                case hi13 => (simp only [List.getElem?_toArray, List.getElem?_cons_succ, List.getElem?_cons_zero]; rfl)
                case hw13 => rfl
                case hy13 => (intro w hSw; (try dsimp only at hSw); go_simp; try (with_reducible rfl))
                (try simp only [Act.put, List.setIfInBounds_toArray, List.set_cons_zero, List.set_cons_succ])
                refine' wpAnyH_take (i := 11) (oi := _) (v := _) ?hi14 (by kernel_rfl) (by kernel_rfl) (by kernel_rfl) (fun _ _ _ h => h) (Or.inl ⟨?hw14, ?hy14⟩) hHeld2 ?rest14
                case hi14 => (simp only [List.getElem?_toArray, List.getElem?_cons_succ, List.getElem?_cons_zero]; rfl)
                case hw14 => rfl
                case hy14 => (intro w hSw; (try dsimp only at hSw); go_simp; try (with_reducible rfl))
                (try simp only [Act.put, List.setIfInBounds_toArray, List.set_cons_zero, List.set_cons_succ])
                refine' wpAnyH_take (i := 12) (oi := _) (v := _) ?hi15 (by kernel_rfl) (by kernel_rfl) (by kernel_rfl) (fun _ _ _ h => h) (Or.inl ⟨?hw15, ?hy15⟩) hHeld2 ?rest15
                case hi15 => (simp only [List.getElem?_toArray, List.getElem?_cons_succ, List.getElem?_cons_zero]; rfl)
                case hw15 => rfl
                case hy15 => (intro w hSw; (try dsimp only at hSw); go_simp; try (with_reducible rfl))
                (try simp only [Act.put, List.setIfInBounds_toArray, List.set_cons_zero, List.set_cons_succ])
                refine' wpAnyH_take (i := 13) (oi := _) (v := _) ?hi16 (by kernel_rfl) (by kernel_rfl) (by kernel_rfl) (fun _ _ _ h => h) (Or.inr ⟨?hw16, rfl⟩) hHeld2 ?rest16
                case hi16 => (simp only [List.getElem?_toArray, List.getElem?_cons_succ, List.getElem?_cons_zero]; rfl)
                case hw16 => rfl
                (try simp only [Act.put, List.setIfInBounds_toArray, List.set_cons_zero, List.set_cons_succ])
                refine' wpAnyH_take (i := 14) (oi := _) (v := _) ?hi17 (by kernel_rfl) (by kernel_rfl) (by kernel_rfl) (fun _ _ _ h => h) (Or.inr ⟨?hw17, rfl⟩) hHeld2 ?rest17
                case hi17 => (simp only [List.getElem?_toArray, List.getElem?_cons_succ, List.getElem?_cons_zero]; rfl)
                case hw17 => rfl
                (try simp only [Act.put, List.setIfInBounds_toArray, List.set_cons_zero, List.set_cons_succ])
                refine' wpAnyH_take (i := 15) (oi := _) (v := _) ?hi18 (by kernel_rfl) (by kernel_rfl) (by kernel_rfl) (fun _ _ _ h => h) (Or.inr ⟨?hw18, rfl⟩) hHeld2 ?rest18
                case hi18 => (simp only [List.getElem?_toArray, List.getElem?_cons_succ, List.getElem?_cons_zero]; rfl)
                case hw18 => rfl
                (try simp only [Act.put, List.setIfInBounds_toArray, List.set_cons_zero, List.set_cons_succ])
                refine' wpAnyH_take (i := 16) (oi := _) (v := _) ?hi19 (by kernel_rfl) (by kernel_rfl) (by kernel_rfl) (fun _ _ _ h => h) (Or.inl ⟨?hw19, ?hy19⟩) hHeld2 ?rest19
                case hi19 => (simp only [List.getElem?_toArray, List.getElem?_cons_succ, List.getElem?_cons_zero]; rfl)
                case hw19 => rfl
                case hy19 => (intro w hSw; (try dsimp only at hSw); go_simp; try (with_reducible rfl))
                (try simp only [Act.put, List.setIfInBounds_toArray, List.set_cons_zero, List.set_cons_succ])
                refine' wpAnyH_take (i := 17) (oi := _) (v := _) ?hi20 (by kernel_rfl) (by kernel_rfl) (by kernel_rfl) (fun _ _ _ h => h) (Or.inl ⟨?hw20, ?hy20⟩) hHeld2 ?rest20
                case hi20 => (simp only [List.getElem?_toArray, List.getElem?_cons_succ, List.getElem?_cons_zero]; rfl)
                case hw20 => rfl
                case hy20 => (intro w hSw; (try dsimp only at hSw); go_simp; try (with_reducible rfl))
                (try simp only [Act.put, List.setIfInBounds_toArray, List.set_cons_zero, List.set_cons_succ])
                refine' wpAnyH_take (i := 18) (oi := _) (v := _) ?hi21 (by kernel_rfl) (by kernel_rfl) (by kernel_rfl) (fun _ _ _ h => h) (Or.inl ⟨?hw21, ?hy21⟩) hHeld2 ?rest21
                case hi21 => (simp only [List.getElem?_toArray, List.getElem?_cons_succ, List.getElem?_cons_zero]; rfl)
                case hw21 => rfl
                case hy21 => (intro w hSw; (try dsimp only at hSw); go_simp; try (with_reducible rfl))
                (try simp only [Act.put, List.setIfInBounds_toArray, List.set_cons_zero, List.set_cons_succ])
                refine' wpAnyH_take (i := 19) (oi := _) (v := _) ?hi22 (by kernel_rfl) (by kernel_rfl) (by kernel_rfl) (fun _ _ _ h => h) (Or.inl ⟨?hw22, ?hy22⟩) hHeld2 ?rest22
                case hi22 => (simp only [List.getElem?_toArray, List.getElem?_cons_succ, List.getElem?_cons_zero]; rfl)
                case hw22 => rfl
                case hy22 => (intro w hSw; (try dsimp only at hSw); go_simp; try (with_reducible rfl))
                (try simp only [Act.put, List.setIfInBounds_toArray, List.set_cons_zero, List.set_cons_succ])
                refine wpAnyH_ready (rs := [20]) (by kernel_rfl) (by simp) ?_
                refine' AllReadyH.cons (o := _) ?ho24 (fun K hK => ?step24) ?more24
                case ho24 => (simp only [List.getElem?_toArray, List.getElem?_cons_succ, List.getElem?_cons_zero]; rfl)
                case step24 =>
                  go_simp
                  (go_at_call 10; refine (hpack_at _ _ _ (by assumption) (by assumption)).mono ?_; rintro e w9 ⟨rfl, hk⟩; have kk := kk.trans hk; clear hk)
                  (try go_wp2_with fail)
                  refine hK.out _ _ ?_ (fun hHeld3 => ?_)
                  · (try dsimp only); exact HS.out _ kk
                  clear hK K hHeld2
                  (try simp only [Act.put, List.setIfInBounds_toArray, List.set_cons_zero, List.set_cons_succ])
                  refine' wpAnyH_take (i := 21) (oi := _) (v := _) ?hi25 (by kernel_rfl) (by kernel_rfl) (by kernel_rfl) (fun _ _ _ h => h) (Or.inl ⟨?hw25, ?hy25⟩) hHeld3 ?rest25
                  case hi25 => (simp only [List.getElem?_toArray, List.getElem?_cons_succ, List.getElem?_cons_zero]; rfl)
                  case hw25 => rfl
                  case hy25 => (intro w hSw; (try dsimp only at hSw); go_simp; try (with_reducible rfl))
                  (try simp only [Act.put, List.setIfInBounds_toArray, List.set_cons_zero, List.set_cons_succ])
                  refine' wpAnyH_take (i := 22) (oi := _) (v := _) ?hi26 (by kernel_rfl) (by kernel_rfl) (by kernel_rfl) (fun _ _ _ h => h) (Or.inl ⟨?hw26, ?hy26⟩) hHeld3 ?rest26
                  case hi26 => (simp only [List.getElem?_toArray, List.getElem?_cons_succ, List.getElem?_cons_zero]; rfl)
                  case hw26 => rfl
                  case hy26 => (intro w hSw; (try dsimp only at hSw); go_simp; try (with_reducible rfl))
                  (try simp only [Act.put, List.setIfInBounds_toArray, List.set_cons_zero, List.set_cons_succ])
                  refine wpAnyH_ready (rs := [23]) (by kernel_rfl) (by simp) ?_
                  refine' AllReadyH.cons (o := _) ?ho28 (fun K hK => ?step28) ?more28
                  case ho28 => (simp only [List.getElem?_toArray, List.getElem?_cons_succ, List.getElem?_cons_zero]; rfl)
                  case step28 =>
                    go_simp
                    refine hK.out _ _ ?_ (fun hHeld4 => ?_)
                    · (try dsimp only); exact HS.out _ kk
                    clear hK K hHeld3
                    (try simp only [Act.put, List.setIfInBounds_toArray, List.set_cons_zero, List.set_cons_succ])
                    refine wpAnyH_done (by kernel_rfl) ?_ _
                    refine NoPanic.normal ?_
                    go_wp2
                    go_ret
                    exact ⟨rfl, (K7.trans kk).below (Nat.le_refl _) (by simp)⟩
                  exact AllReadyH.nil
                exact AllReadyH.nil
              exact AllReadyH.nil
            exact AllReadyH.nil
          · obtain ⟨b1, b2, b3, b4⟩ := beqn hh
            obtain ⟨d1, d2, d3, d4⟩ := beqn (a := hdPk p q) (b := hdPk r s) (fun h => hh (hdPk_inj hp1 hr1 h).1)
            refine wp_region_noPanic ?_
            refine wp_region_held_drew (S := (fun w' => w'.cell? ⟨bx, 0, none⟩ = some (.int .i64 p) ∧ w'.cell? ⟨bx, 1, none⟩ = some (.int .i64 q) ∧ w'.cell? ⟨bz, 0, none⟩ = some (.int .i64 r) ∧ w'.cell? ⟨bz, 1, none⟩ = some (.int .i64 s) ∧ w'.cell? ⟨bv, 0, none⟩ = some (.int .i64 0) ∧ w'.cell? ⟨bv, 1, none⟩ = some (.int .i64 0))) (by kernel_rfl) ?_ (fun hHeld0 => ?_)
            · (try dsimp only); exact HS.out _ kk
            refine' wpAnyH_take (i := 0) (oi := _) (v := _) ?hi29 (by kernel_rfl) (by kernel_rfl) (by kernel_rfl) (fun _ _ _ h => h) (Or.inl ⟨?hw29, ?hy29⟩) hHeld0 ?rest29
            case hi29 => (simp only [List.getElem?_toArray, List.getElem?_cons_zero]; rfl)
            case hw29 => rfl
            case hy29 => (intro w hSw; (try dsimp only at hSw); go_simp; try (with_reducible rfl))
            (try simp only [Act.put, List.setIfInBounds_toArray, List.set_cons_zero, List.set_cons_succ])
            refine' wpAnyH_take (i := 2) (oi := _) (v := _) ?hi30 (by kernel_rfl) (by kernel_rfl) (by kernel_rfl) (fun _ _ _ h => h) (Or.inl ⟨?hw30, ?hy30⟩) hHeld0 ?rest30
            case hi30 => (simp only [List.getElem?_toArray, List.getElem?_cons_succ, List.getElem?_cons_zero]; rfl)
            case hw30 => rfl
            case hy30 => (intro w hSw; (try dsimp only at hSw); go_simp; try (with_reducible rfl))
            (try simp only [Act.put, List.setIfInBounds_toArray, List.set_cons_zero, List.set_cons_succ])
            refine' wpAnyH_take (i := 5) (oi := _) (v := _) ?hi31 (by kernel_rfl) (by kernel_rfl) (by kernel_rfl) (fun _ _ _ h => h) (Or.inl ⟨?hw31, ?hy31⟩) hHeld0 ?rest31
            case hi31 => (simp only [List.getElem?_toArray, List.getElem?_cons_succ, List.getElem?_cons_zero]; rfl)
            case hw31 => rfl
            case hy31 => (intro w hSw; (try dsimp only at hSw); go_simp; try (with_reducible rfl))
            (try simp only [Act.put, List.setIfInBounds_toArray, List.set_cons_zero, List.set_cons_succ])
            refine' wpAnyH_take (i := 6) (oi := _) (v := _) ?hi32 (by kernel_rfl) (by kernel_rfl) (by kernel_rfl) (fun _ _ _ h => h) (Or.inl ⟨?hw32, ?hy32⟩) hHeld0 ?rest32
            case hi32 => (simp only [List.getElem?_toArray, List.getElem?_cons_succ, List.getElem?_cons_zero]; rfl)
            case hw32 => rfl
            case hy32 => (intro w hSw; (try dsimp only at hSw); go_simp; try (with_reducible rfl))
            (try simp only [Act.put, List.setIfInBounds_toArray, List.set_cons_zero, List.set_cons_succ])
            refine' wpAnyH_take (i := 7) (oi := _) (v := _) ?hi33 (by kernel_rfl) (by kernel_rfl) (by kernel_rfl) (fun _ _ _ h => h) (Or.inl ⟨?hw33, ?hy33⟩) hHeld0 ?rest33
            case hi33 => (simp only [List.getElem?_toArray, List.getElem?_cons_succ, List.getElem?_cons_zero]; rfl)
            case hw33 => rfl
            case hy33 => (intro w hSw; (try dsimp only at hSw); go_simp; try (with_reducible rfl))
            (try simp only [Act.put, List.setIfInBounds_toArray, List.set_cons_zero, List.set_cons_succ])
            refine wpAnyH_ready (rs := [1]) (by kernel_rfl) (by simp) ?_
            refine' AllReadyH.cons (o := _) ?ho35 (fun K hK => ?step35) ?more35
            case ho35 => (simp only [List.getElem?_toArray, List.getElem?_cons_succ, List.getElem?_cons_zero]; rfl)
            case step35 =>
              go_simp
              (go_at_call 10; refine (hpack_at _ _ _ (by assumption) (by assumption)).mono ?_; rintro e w9 ⟨rfl, hk⟩; have kk := kk.trans hk; clear hk)
              (try go_wp2_with fail)
              refine hK.out _ _ ?_ (fun hHeld1 => ?_)
              · (try dsimp only); exact HS.out _ kk
              clear hK K hHeld0
              (try simp only [Act.put, List.setIfInBounds_toArray, List.set_cons_zero, List.set_cons_succ])
              refine wpAnyH_ready (rs := [3]) (by kernel_rfl) (by simp) ?_
              refine' AllReadyH.cons (o := _) ?ho37 (fun K hK => ?step37) ?more37
              case ho37 => (simp only [List.getElem?_toArray, List.getElem?_cons_succ, List.getElem?_cons_zero]; rfl)
              case step37 =>
                go_simp
                (go_at_call 10; refine (hpack_at _ _ _ (by assumption) (by assumption)).mono ?_; rintro e w9 ⟨rfl, hk⟩; have kk := kk.trans hk; clear hk)
                (try go_wp2_with fail)
                refine hK.out _ _ ?_ (fun hHeld2 => ?_)
                · (try dsimp only); exact HS.out _ kk
                clear hK K hHeld1
                (try simp only [Act.put, List.setIfInBounds_toArray, List.set_cons_zero, List.set_cons_succ])
                refine' wpAnyH_take (i := 4) (oi := _) (v := _) ?hi38 (by kernel_rfl) (by kernel_rfl) (by kernel_rfl) (fun _ _ _ h => h) (Or.inl ⟨?hw38, ?hy38⟩) hHeld2 ?rest38
                case hi38 => (simp only [List.getElem?_toArray, List.getElem?_cons_succ, List.getElem?_cons_zero]; rfl)
                case hw38 => rfl
                case hy38 => (intro w hSw; (try dsimp only at hSw); go_simp; try (with_reducible rfl))
                (try simp only [Act.put, List.setIfInBounds_toArray, List.set_cons_zero, List.set_cons_succ])
                refine' wpAnyH_take (i := 8) (oi := _) (v := _) ?hi39 (by kernel_rfl) (by kernel_rfl) (by kernel_rfl) (fun _ _ _ h => h) (Or.inl ⟨?hw39, ?hy39⟩) hHeld2 ?rest39
                case hi39 => (simp only [List.getElem?_toArray, List.getElem?_cons_succ, List.getElem?_cons_zero]; rfl)
                case hw39 => rfl
                case hy39 => (intro w hSw; (try dsimp only at hSw); go_simp; try (with_reducible rfl))
                (try simp only [Act.put, List.setIfInBounds_toArray, List.set_cons_zero, List.set_cons_succ])
                refine' wpAnyH_take (i := 9) (oi := _) (v := _) ?hi40 (by kernel_rfl) (by kernel_rfl) (by kernel_rfl) (fun _ _ _ h => h) (Or.inl ⟨?hw40, ?hy40⟩) hHeld2 ?rest40
                case hi40 => (simp only [List.getElem?_toArray, List.getElem?_cons_succ, List.getElem?_cons_zero]; rfl)
                case hw40 => rfl
                case hy40 => (intro w hSw; (try dsimp only at hSw); go_simp; try (with_reducible rfl))
                (try simp only [Act.put, List.setIfInBounds_toArray, List.set_cons_zero, List.set_cons_succ])
                refine' wpAnyH_take (i := 10) (oi := _) (v := _) ?hi41 (by kernel_rfl) (by kernel_rfl) (by kernel_rfl) (fun _ _ _ h => h) (Or.inl ⟨?hw41, ?hy41⟩) hHeld2 ?rest41
                case hi41 => (simp only [List.getElem?_toArray, List.getElem?_cons_succ, List.getElem?_cons_zero]; rfl)
                case hw41 => rfl
                case hy41 => (intro w hSw; (try dsimp only at hSw); go_simp; try (with_reducible rfl))
                (try simp only [Act.put, List.setIfInBounds_toArray, List.set_cons_zero, List.set_cons_succ])
                refine' wpAnyH_take (i := 11) (oi := _) (v := _) ?hi42 (by kernel_rfl) (by kernel_rfl) (by kernel_rfl) (fun _ _ _ h => h) (Or.inl ⟨?hw42, ?hy42⟩) hHeld2 ?rest42
                case hi42 => (simp only [List.getElem?_toArray, List.getElem?_cons_succ, List.getElem?_cons_zero]; rfl)
                case hw42 => rfl
                case hy42 => (intro w hSw; (try dsimp only at hSw); go_simp; try (with_reducible rfl))
                (try simp only [Act.put, List.setIfInBounds_toArray, List.set_cons_zero, List.set_cons_succ])
                refine' wpAnyH_take (i := 12) (oi := _) (v := _) ?hi43 (by kernel_rfl) (by kernel_rfl) (by kernel_rfl) (fun _ _ _ h => h) (Or.inl ⟨?hw43, ?hy43⟩) hHeld2 ?rest43
                case hi43 => (simp only [List.getElem?_toArray, List.getElem?_cons_succ, List.getElem?_cons_zero]; rfl)
                case hw43 => rfl
                case hy43 => (intro w hSw; (try dsimp only at hSw); go_simp; try (with_reducible rfl))
                (try simp only [Act.put, List.setIfInBounds_toArray, List.set_cons_zero, List.set_cons_succ])
                refine' wpAnyH_take (i := 13) (oi := _) (v := _) ?hi44 (by kernel_rfl) (by kernel_rfl) (by kernel_rfl) (fun _ _ _ h => h) (Or.inr ⟨?hw44, rfl⟩) hHeld2 ?rest44
                case hi44 => (simp only [List.getElem?_toArray, List.getElem?_cons_succ, List.getElem?_cons_zero]; rfl)
                case hw44 => rfl
                (try simp only [Act.put, List.setIfInBounds_toArray, List.set_cons_zero, List.set_cons_succ])
                refine' wpAnyH_take (i := 14) (oi := _) (v := _) ?hi45 (by kernel_rfl) (by kernel_rfl) (by kernel_rfl) (fun _ _ _ h => h) (Or.inr ⟨?hw45, rfl⟩) hHeld2 ?rest45
                case hi45 => (simp only [List.getElem?_toArray, List.getElem?_cons_succ, List.getElem?_cons_zero]; rfl)
                case hw45 => rfl
                (try simp only [Act.put, List.setIfInBounds_toArray, List.set_cons_zero, List.set_cons_succ])
                refine' wpAnyH_take (i := 15) (oi := _) (v := _) ?hi46 (by kernel_rfl) (by kernel_rfl) (by kernel_rfl) (fun _ _ _ h => h) (Or.inr ⟨?hw46, rfl⟩) hHeld2 ?rest46
                case hi46 => (simp only [List.getElem?_toArray, List.getElem?_cons_succ, List.getElem?_cons_zero]; rfl)
                case hw46 => rfl
                (try simp only [Act.put, List.setIfInBounds_toArray, List.set_cons_zero, List.set_cons_succ])
                refine' wpAnyH_take (i := 16) (oi := _) (v := _) ?hi47 (by kernel_rfl) (by kernel_rfl) (by kernel_rfl) (fun _ _ _ h => h) (Or.inl ⟨?hw47, ?hy47⟩) hHeld2 ?rest47
                case hi47 => (simp only [List.getElem?_toArray, List.getElem?_cons_succ, List.getElem?_cons_zero]; rfl)
                case hw47 => rfl
                case hy47 => (intro w hSw; (try dsimp only at hSw); go_simp; try (with_reducible rfl))
                (try simp only [Act.put, List.setIfInBounds_toArray, List.set_cons_zero, List.set_cons_succ])
                refine' wpAnyH_take (i := 17) (oi := _) (v := _) ?hi48 (by kernel_rfl) (by kernel_rfl) (by kernel_rfl) (fun _ _ _ h => h) (Or.inl ⟨?hw48, ?hy48⟩) hHeld2 ?rest48
                case hi48 => (simp only [List.getElem?_toArray, List.getElem?_cons_succ, List.getElem?_cons_zero]; rfl)
                case hw48 => rfl
                case hy48 => (intro w hSw; (try dsimp only at hSw); go_simp; try (with_reducible rfl))
                (try simp only [Act.put, List.setIfInBounds_toArray, List.set_cons_zero, List.set_cons_succ])
                refine' wpAnyH_take (i := 18) (oi := _) (v := _) ?hi49 (by kernel_rfl) (by kernel_rfl) (by kernel_rfl) (fun _ _ _ h => h) (Or.inl ⟨?hw49, ?hy49⟩) hHeld2 ?rest49
                case hi49 => (simp only [List.getElem?_toArray, List.getElem?_cons_succ, List.getElem?_cons_zero]; rfl)
                case hw49 => rfl
                case hy49 => (intro w hSw; (try dsimp only at hSw); go_simp; try (with_reducible rfl))
                (try simp only [Act.put, List.setIfInBounds_toArray, List.set_cons_zero, List.set_cons_succ])
                refine' wpAnyH_take (i := 19) (oi := _) (v := _) ?hi50 (by kernel_rfl) (by kernel_rfl) (by kernel_rfl) (fun _ _ _ h => h) (Or.inl ⟨?hw50, ?hy50⟩) hHeld2 ?rest50
                case hi50 => (simp only [List.getElem?_toArray, List.getElem?_cons_succ, List.getElem?_cons_zero]; rfl)
                case hw50 => rfl
                case hy50 => (intro w hSw; (try dsimp only at hSw); go_simp; try (with_reducible rfl))
                (try simp only [Act.put, List.setIfInBounds_toArray, List.set_cons_zero, List.set_cons_succ])
                refine wpAnyH_ready (rs := [20]) (by kernel_rfl) (by simp) ?_
                refine' AllReadyH.cons (o := _) ?ho52 (fun K hK => ?step52) ?more52
                case ho52 => (simp only [List.getElem?_toArray, List.getElem?_cons_succ, List.getElem?_cons_zero]; rfl)
                case step52 =>
                  go_simp
                  (go_at_call 10; refine (hpack_at _ _ _ (by assumption) (by assumption)).mono ?_; rintro e w9 ⟨rfl, hk⟩; have kk := kk.trans hk; clear hk)
                  (try go_wp2_with fail)
                  refine hK.out _ _ ?_ (fun hHeld3 => ?_)
                  · (try dsimp only); exact HS.out _ kk
                  clear hK K hHeld2
                  (try simp only [Act.put, List.setIfInBounds_toArray, List.set_cons_zero, List.set_cons_succ])
                  refine' wpAnyH_take (i := 21) (oi := _) (v := _) ?hi53 (by kernel_rfl) (by kernel_rfl) (by kernel_rfl) (fun _ _ _ h => h) (Or.inl ⟨?hw53, ?hy53⟩) hHeld3 ?rest53
                  case hi53 => (simp only [List.getElem?_toArray, List.getElem?_cons_succ, List.getElem?_cons_zero]; rfl)
                  case hw53 => rfl
                  case hy53 => (intro w hSw; (try dsimp only at hSw); go_simp; try (with_reducible rfl))
                  (try simp only [Act.put, List.setIfInBounds_toArray, List.set_cons_zero, List.set_cons_succ])
                  refine' wpAnyH_take (i := 22) (oi := _) (v := _) ?hi54 (by kernel_rfl) (by kernel_rfl) (by kernel_rfl) (fun _ _ _ h => h) (Or.inl ⟨?hw54, ?hy54⟩) hHeld3 ?rest54
                  case hi54 => (simp only [List.getElem?_toArray, List.getElem?_cons_succ, List.getElem?_cons_zero]; rfl)
                  case hw54 => rfl
                  case hy54 => (intro w hSw; (try dsimp only at hSw); go_simp; try (with_reducible rfl))
                  (try simp only [Act.put, List.setIfInBounds_toArray, List.set_cons_zero, List.set_cons_succ])
                  refine wpAnyH_ready (rs := [23]) (by kernel_rfl) (by simp) ?_
                  refine' AllReadyH.cons (o := _) ?ho56 (fun K hK => ?step56) ?more56
                  case ho56 => (simp only [List.getElem?_toArray, List.getElem?_cons_succ, List.getElem?_cons_zero]; rfl)
                  case step56 =>
                    go_simp
                    refine hK.out _ _ ?_ (fun hHeld4 => ?_)
                    · (try dsimp only); exact HS.out _ kk
                    clear hK K hHeld3
                    (try simp only [Act.put, List.setIfInBounds_toArray, List.set_cons_zero, List.set_cons_succ])
                    refine wpAnyH_done (by kernel_rfl) ?_ _
                    refine NoPanic.normal ?_
                    go_wp2
                    go_ret
                    exact ⟨rfl, (K7.trans kk).below (Nat.le_refl _) (by simp)⟩
                  exact AllReadyH.nil
                exact AllReadyH.nil
              exact AllReadyH.nil
            exact AllReadyH.nil
          · obtain ⟨rfl, hh⟩ := hh
            obtain ⟨b1, b2, b3, b4⟩ := beqn hh
            obtain ⟨d1, d2, d3, d4⟩ := beqn (a := hdPk p q) (b := hdPk p s) (fun h => hh (hdPk_inj hp1 hr1 h).2)
            refine wp_region_noPanic ?_
            refine wp_region_held_drew (S := (fun w' => w'.cell? ⟨bx, 0, none⟩ = some (.int .i64 p) ∧ w'.cell? ⟨bx, 1, none⟩ = some (.int .i64 q) ∧ w'.cell? ⟨bz, 0, none⟩ = some (.int .i64 p) ∧ w'.cell? ⟨bz, 1, none⟩ = some (.int .i64 s) ∧ w'.cell? ⟨bv, 0, none⟩ = some (.int .i64 0) ∧ w'.cell? ⟨bv, 1, none⟩ = some (.int .i64 0))) (by kernel_rfl) ?_ (fun hHeld0 => ?_)
            · (try dsimp only); exact HS.out _ kk
            refine' wpAnyH_take (i := 0) (oi := _) (v := _) ?hi57 (by kernel_rfl) (by kernel_rfl) (by kernel_rfl) (fun _ _ _ h => h) (Or.inl ⟨?hw57, ?hy57⟩) hHeld0 ?rest57
            case hi57 => (simp only [List.getElem?_toArray, List.getElem?_cons_zero]; rfl)
            case hw57 => rfl
            case hy57 => (intro w hSw; (try dsimp only at hSw); go_simp; try (with_reducible rfl))
            (try simp only [Act.put, List.setIfInBounds_toArray, List.set_cons_zero, List.set_cons_succ])
            refine' wpAnyH_take (i := 2) (oi := _) (v := _) ?hi58 (by kernel_rfl) (by kernel_rfl) (by kernel_rfl) (fun _ _ _ h => h) (Or.inl ⟨?hw58, ?hy58⟩) hHeld0 ?rest58
            case hi58 => (simp only [List.getElem?_toArray, List.getElem?_cons_succ, List.getElem?_cons_zero]; rfl)
            case hw58 => rfl
            case hy58 => (intro w hSw; (try dsimp only at hSw); go_simp; try (with_reducible rfl))
            (try simp only [Act.put, List.setIfInBounds_toArray, List.set_cons_zero, List.set_cons_succ])
            refine' wpAnyH_take (i := 5) (oi := _) (v := _) ?hi59 (by kernel_rfl) (by kernel_rfl) (by kernel_rfl) (fun _ _ _ h => h) (Or.inl ⟨?hw59, ?hy59⟩) hHeld0 ?rest59
            case hi59 => (simp only [List.getElem?_toArray, List.getElem?_cons_succ, List.getElem?_cons_zero]; rfl)
            case hw59 => rfl
            case hy59 => (intro w hSw; (try dsimp only at hSw); go_simp; try (with_reducible rfl))
            (try simp only [Act.put, List.setIfInBounds_toArray, List.set_cons_zero, List.set_cons_succ])
            refine' wpAnyH_take (i := 6) (oi := _) (v := _) ?hi60 (by kernel_rfl) (by kernel_rfl) (by kernel_rfl) (fun _ _ _ h => h) (Or.inl ⟨?hw60, ?hy60⟩) hHeld0 ?rest60
            case hi60 => (simp only [List.getElem?_toArray, List.getElem?_cons_succ, List.getElem?_cons_zero]; rfl)
            case hw60 => rfl
            case hy60 => (intro w hSw; (try dsimp only at hSw); go_simp; try (with_reducible rfl))
            (try simp only [Act.put, List.setIfInBounds_toArray, List.set_cons_zero, List.set_cons_succ])
            refine' wpAnyH_take (i := 7) (oi := _) (v := _) ?hi61 (by kernel_rfl) (by kernel_rfl) (by kernel_rfl) (fun _ _ _ h => h) (Or.inl ⟨?hw61, ?hy61⟩) hHeld0 ?rest61
            case hi61 => (simp only [List.getElem?_toArray, List.getElem?_cons_succ, List.getElem?_cons_zero]; rfl)
            case hw61 => rfl
            case hy61 => (intro w hSw; (try dsimp only at hSw); go_simp; try (with_reducible rfl))
            (try simp only [Act.put, List.setIfInBounds_toArray, List.set_cons_zero, List.set_cons_succ])
            refine wpAnyH_ready (rs := [1]) (by kernel_rfl) (by simp) ?_
            refine' AllReadyH.cons (o := _) ?ho63 (fun K hK => ?step63) ?more63
            case ho63 => (simp only [List.getElem?_toArray, List.getElem?_cons_succ, List.getElem?_cons_zero]; rfl)
            case step63 =>
              go_simp
              (go_at_call 10; refine (hpack_at _ _ _ (by assumption) (by assumption)).mono ?_; rintro e w9 ⟨rfl, hk⟩; have kk := kk.trans hk; clear hk)
              (try go_wp2_with fail)
              refine hK.out _ _ ?_ (fun hHeld1 => ?_)
              · (try dsimp only); exact HS.out _ kk
              clear hK K hHeld0
              (try simp only [Act.put, List.setIfInBounds_toArray, List.set_cons_zero, List.set_cons_succ])
              refine wpAnyH_ready (rs := [3]) (by kernel_rfl) (by simp) ?_
              refine' AllReadyH.cons (o := _) ?ho65 (fun K hK => ?step65) ?more65
              case ho65 => (simp only [List.getElem?_toArray, List.getElem?_cons_succ, List.getElem?_cons_zero]; rfl)
              case step65 =>
                go_simp
                (go_at_call 10; refine (hpack_at _ _ _ (by assumption) (by assumption)).mono ?_; rintro e w9 ⟨rfl, hk⟩; have kk := kk.trans hk; clear hk)
                (try go_wp2_with fail)
                refine hK.out _ _ ?_ (fun hHeld2 => ?_)
                · (try dsimp only); exact HS.out _ kk
                clear hK K hHeld1
                (try simp only [Act.put, List.setIfInBounds_toArray, List.set_cons_zero, List.set_cons_succ])
                refine' wpAnyH_take (i := 4) (oi := _) (v := _) ?hi66 (by kernel_rfl) (by kernel_rfl) (by kernel_rfl) (fun _ _ _ h => h) (Or.inl ⟨?hw66, ?hy66⟩) hHeld2 ?rest66
                case hi66 => (simp only [List.getElem?_toArray, List.getElem?_cons_succ, List.getElem?_cons_zero]; rfl)
                case hw66 => rfl
                case hy66 => (intro w hSw; (try dsimp only at hSw); go_simp; try (with_reducible rfl))
                (try simp only [Act.put, List.setIfInBounds_toArray, List.set_cons_zero, List.set_cons_succ])
                refine' wpAnyH_take (i := 8) (oi := _) (v := _) ?hi67 (by kernel_rfl) (by kernel_rfl) (by kernel_rfl) (fun _ _ _ h => h) (Or.inl ⟨?hw67, ?hy67⟩) hHeld2 ?rest67
                case hi67 => (simp only [List.getElem?_toArray, List.getElem?_cons_succ, List.getElem?_cons_zero]; rfl)
                case hw67 => rfl
                case hy67 => (intro w hSw; (try dsimp only at hSw); go_simp; try (with_reducible rfl))
                (try simp only [Act.put, List.setIfInBounds_toArray, List.set_cons_zero, List.set_cons_succ])
                refine' wpAnyH_take (i := 9) (oi := _) (v := _) ?hi68 (by kernel_rfl) (by kernel_rfl) (by kernel_rfl) (fun _ _ _ h => h) (Or.inl ⟨?hw68, ?hy68⟩) hHeld2 ?rest68
                case hi68 => (simp only [List.getElem?_toArray, List.getElem?_cons_succ, List.getElem?_cons_zero]; rfl)
                case hw68 => rfl
                case hy68 => (intro w hSw; (try dsimp only at hSw); go_simp; try (with_reducible rfl))
                (try simp only [Act.put, List.setIfInBounds_toArray, List.set_cons_zero, List.set_cons_succ])
                refine' wpAnyH_take (i := 10) (oi := _) (v := _) ?hi69 (by kernel_rfl) (by kernel_rfl) (by kernel_rfl) (fun _ _ _ h => h) (Or.inl ⟨?hw69, ?hy69⟩) hHeld2 ?rest69
                case hi69 => (simp only [List.getElem?_toArray, List.getElem?_cons_succ, List.getElem?_cons_zero]; rfl)
                case hw69 => rfl
                case hy69 => (intro w hSw; (try dsimp only at hSw); go_simp; try (with_reducible rfl))
                (try simp only [Act.put, List.setIfInBounds_toArray, List.set_cons_zero, List.set_cons_succ])
                refine' wpAnyH_take (i := 11) (oi := _) (v := _) ?hi70 (by kernel_rfl) (by kernel_rfl) (by kernel_rfl) (fun _ _ _ h => h) (Or.inl ⟨?hw70, ?hy70⟩) hHeld2 ?rest70
                case hi70 => (simp only [List.getElem?_toArray, List.getElem?_cons_succ, List.getElem?_cons_zero]; rfl)
                case hw70 => rfl
                case hy70 => (intro w hSw; (try dsimp only at hSw); go_simp; try (with_reducible rfl))
                (try simp only [Act.put, List.setIfInBounds_toArray, List.set_cons_zero, List.set_cons_succ])
                refine' wpAnyH_take (i := 12) (oi := _) (v := _) ?hi71 (by kernel_rfl) (by kernel_rfl) (by kernel_rfl) (fun _ _ _ h => h) (Or.inl ⟨?hw71, ?hy71⟩) hHeld2 ?rest71
                case hi71 => (simp only [List.getElem?_toArray, List.getElem?_cons_succ, List.getElem?_cons_zero]; rfl)
                case hw71 => rfl
                case hy71 => (intro w hSw; (try dsimp only at hSw); go_simp; try (with_reducible rfl))
                (try simp only [Act.put, List.setIfInBounds_toArray, List.set_cons_zero, List.set_cons_succ])
                refine' wpAnyH_take (i := 13) (oi := _) (v := _) ?hi72 (by kernel_rfl) (by kernel_rfl) (by kernel_rfl) (fun _ _ _ h => h) (Or.inr ⟨?hw72, rfl⟩) hHeld2 ?rest72
                case hi72 => (simp only [List.getElem?_toArray, List.getElem?_cons_succ, List.getElem?_cons_zero]; rfl)
                case hw72 => rfl
                (try simp only [Act.put, List.setIfInBounds_toArray, List.set_cons_zero, List.set_cons_succ])
                refine' wpAnyH_take (i := 14) (oi := _) (v := _) ?hi73 (by kernel_rfl) (by kernel_rfl) (by kernel_rfl) (fun _ _ _ h => h) (Or.inr ⟨?hw73, rfl⟩) hHeld2 ?rest73
                case hi73 => (simp only [List.getElem?_toArray, List.getElem?_cons_succ, List.getElem?_cons_zero]; rfl)
                case hw73 => rfl
                (try simp only [Act.put, List.setIfInBounds_toArray, List.set_cons_zero, List.set_cons_succ])
                refine' wpAnyH_take (i := 15) (oi := _) (v := _) ?hi74 (by kernel_rfl) (by kernel_rfl) (by kernel_rfl) (fun _ _ _ h => h) (Or.inr ⟨?hw74, rfl⟩) hHeld2 ?rest74
                case hi74 => (simp only [List.getElem?_toArray, List.getElem?_cons_succ, List.getElem?_cons_zero]; rfl)
                case hw74 => rfl
                (try simp only [Act.put, List.setIfInBounds_toArray, List.set_cons_zero, List.set_cons_succ])
                refine' wpAnyH_take (i := 16) (oi := _) (v := _) ?hi75 (by kernel_rfl) (by kernel_rfl) (by kernel_rfl) (fun _ _ _ h => h) (Or.inl ⟨?hw75, ?hy75⟩) hHeld2 ?rest75
                case hi75 => (simp only [List.getElem?_toArray, List.getElem?_cons_succ, List.getElem?_cons_zero]; rfl)
                case hw75 => rfl
                case hy75 => (intro w hSw; (try dsimp only at hSw); go_simp; try (with_reducible rfl))
                (try simp only [Act.put, List.setIfInBounds_toArray, List.set_cons_zero, List.set_cons_succ])
                refine' wpAnyH_take (i := 17) (oi := _) (v := _) ?hi76 (by kernel_rfl) (by kernel_rfl) (by kernel_rfl) (fun _ _ _ h => h) (Or.inl ⟨?hw76, ?hy76⟩) hHeld2 ?rest76
                case hi76 => (simp only [List.getElem?_toArray, List.getElem?_cons_succ, List.getElem?_cons_zero]; rfl)
                case hw76 => rfl
                case hy76 => (intro w hSw; (try dsimp only at hSw); go_simp; try (with_reducible rfl))
                (try simp only [Act.put, List.setIfInBounds_toArray, List.set_cons_zero, List.set_cons_succ])
                refine' wpAnyH_take (i := 18) (oi := _) (v := _) ?hi77 (by kernel_rfl) (by kernel_rfl) (by kernel_rfl) (fun _ _ _ h => h) (Or.inl ⟨?hw77, ?hy77⟩) hHeld2 ?rest77
                case hi77 => (simp only [List.getElem?_toArray, List.getElem?_cons_succ, List.getElem?_cons_zero]; rfl)
                case hw77 => rfl
                case hy77 => (intro w hSw; (try dsimp only at hSw); go_simp; try (with_reducible rfl))
                (try simp only [Act.put, List.setIfInBounds_toArray, List.set_cons_zero, List.set_cons_succ])
                refine' wpAnyH_take (i := 19) (oi := _) (v := _) ?hi78 (by kernel_rfl) (by kernel_rfl) (by kernel_rfl) (fun _ _ _ h => h) (Or.inl ⟨?hw78, ?hy78⟩) hHeld2 ?rest78
                case hi78 => (simp only [List.getElem?_toArray, List.getElem?_cons_succ, List.getElem?_cons_zero]; rfl)
                case hw78 => rfl
                case hy78 => (intro w hSw; (try dsimp only at hSw); go_simp; try (with_reducible rfl))
                (try simp only [Act.put, List.setIfInBounds_toArray, List.set_cons_zero, List.set_cons_succ])
                refine wpAnyH_ready (rs := [20]) (by kernel_rfl) (by simp) ?_
                refine' AllReadyH.cons (o := _) ?ho80 (fun K hK => ?step80) ?more80
                case ho80 => (simp only [List.getElem?_toArray, List.getElem?_cons_succ, List.getElem?_cons_zero]; rfl)
                case step80 =>
                  go_simp
                  (go_at_call 10; refine (hpack_at _ _ _ (by assumption) (by assumption)).mono ?_; rintro e w9 ⟨rfl, hk⟩; have kk := kk.trans hk; clear hk)
                  (try go_wp2_with fail)
                  refine hK.out _ _ ?_ (fun hHeld3 => ?_)
                  · (try dsimp only); exact HS.out _ kk
                  clear hK K hHeld2
                  (try simp only [Act.put, List.setIfInBounds_toArray, List.set_cons_zero, List.set_cons_succ])
                  refine' wpAnyH_take (i := 21) (oi := _) (v := _) ?hi81 (by kernel_rfl) (by kernel_rfl) (by kernel_rfl) (fun _ _ _ h => h) (Or.inl ⟨?hw81, ?hy81⟩) hHeld3 ?rest81
                  case hi81 => (simp only [List.getElem?_toArray, List.getElem?_cons_succ, List.getElem?_cons_zero]; rfl)
                  case hw81 => rfl
                  case hy81 => (intro w hSw; (try dsimp only at hSw); go_simp; try (with_reducible rfl))
                  (try simp only [Act.put, List.setIfInBounds_toArray, List.set_cons_zero, List.set_cons_succ])
                  refine' wpAnyH_take (i := 22) (oi := _) (v := _) ?hi82 (by kernel_rfl) (by kernel_rfl) (by kernel_rfl) (fun _ _ _ h => h) (Or.inl ⟨?hw82, ?hy82⟩) hHeld3 ?rest82
                  case hi82 => (simp only [List.getElem?_toArray, List.getElem?_cons_succ, List.getElem?_cons_zero]; rfl)
                  case hw82 => rfl
                  case hy82 => (intro w hSw; (try dsimp only at hSw); go_simp; try (with_reducible rfl))
                  (try simp only [Act.put, List.setIfInBounds_toArray, List.set_cons_zero, List.set_cons_succ])
                  refine wpAnyH_ready (rs := [23]) (by kernel_rfl) (by simp) ?_
                  refine' AllReadyH.cons (o := _) ?ho84 (fun K hK => ?step84) ?more84
                  case ho84 => (simp only [List.getElem?_toArray, List.getElem?_cons_succ, List.getElem?_cons_zero]; rfl)
                  case step84 =>
                    go_simp
                    refine hK.out _ _ ?_ (fun hHeld4 => ?_)
                    · (try dsimp only); exact HS.out _ kk
                    clear hK K hHeld3
                    (try simp only [Act.put, List.setIfInBounds_toArray, List.set_cons_zero, List.set_cons_succ])
                    refine wpAnyH_done (by kernel_rfl) ?_ _
                    refine NoPanic.normal ?_
                    go_wp2
                    go_ret
                    exact ⟨rfl, (K7.trans kk).below (Nat.le_refl _) (by simp)⟩
                  exact AllReadyH.nil
                exact AllReadyH.nil
              exact AllReadyH.nil
            exact AllReadyH.nil
        · have hV : Hid (unV N = .tuple #[hdV (hdN N) (hdR N), .bool true]) := by show _ = _; simp [unV, hi]
          rw [hV.out]
          have hne : hdN N ≠ p ∨ (hdN N = p ∧ hdR N ≠ q) := by
            have h1 := (isHd_pk hi).1
            by_cases h2 : hdN N = p
            · exact .inr ⟨h2, fun h3 => hN2 (by rw [h1, h2, h3])⟩
            · exact .inl h2
          clear hV hi hN2 hN1
          generalize hdN N = u at hne ⊢
          generalize hdR N = v at hne ⊢
          go_wp2_with fail
          have x7 := x6.alloc (hdO u v)
          have z7 := z6.alloc (hdO u v)
          have v7 := At.new w6 (hdO u v)
          have K7 := K6.alloc (hdO u v)
          generalize w6.alloc (hdO u v) = w7 at x7 z7 v7 K7 ⊢
          generalize w6.heap.size = bv at v7 ⊢
          clear x6 z6 K6
          have HS : Hid (∀ w', Keeps [] w7 w' → w'.cell? ⟨bx, 0, none⟩ = some (.int .i64 p) ∧ w'.cell? ⟨bx, 1, none⟩ = some (.int .i64 q) ∧ w'.cell? ⟨bz, 0, none⟩ = some (.int .i64 r) ∧ w'.cell? ⟨bz, 1, none⟩ = some (.int .i64 s) ∧ w'.cell? ⟨bv, 0, none⟩ = some (.int .i64 u) ∧ w'.cell? ⟨bv, 1, none⟩ = some (.int .i64 v)) := fun w' hk => ⟨(hk.at x7 (by simp)).cell 0 rfl, (hk.at x7 (by simp)).cell 1 rfl, (hk.at z7 (by simp)).cell 0 rfl, (hk.at z7 (by simp)).cell 1 rfl, (hk.at v7 (by simp)).cell 0 rfl, (hk.at v7 (by simp)).cell 1 rfl⟩
          have kk : Keeps [] w7 w7.drew := (Keeps.refl _ _).drew
          clear x7 z7 v7
          rcases (show (p = r ∧ q = s) ∨ p ≠ r ∨ (p = r ∧ q ≠ s) by omega) with hh | hh | hh
          · obtain ⟨rfl, rfl⟩ := hh
            rcases hne with hz | ⟨rfl, hz⟩
            · obtain ⟨m1, m2, m3, m4⟩ := beqn hz
              go_region_held3 (fun w' => w'.cell? ⟨bx, 0, none⟩ = some (.int .i64 p) ∧ w'.cell? ⟨bx, 1, none⟩ = some (.int .i64 q) ∧ w'.cell? ⟨bz, 0, none⟩ = some (.int .i64 p) ∧ w'.cell? ⟨bz, 1, none⟩ = some (.int .i64 q) ∧ w'.cell? ⟨bv, 0, none⟩ = some (.int .i64 u) ∧ w'.cell? ⟨bv, 1, none⟩ = some (.int .i64 v))
                (exact HS.out _ kk)
                (first | (go_at_call 10; refine (hpack_at _ _ _ (by assumption) (by assumption)).mono ?_; rintro e w9 ⟨rfl, hk⟩; have kk := kk.trans hk; clear hk))
              go_wp2
              go_ret
              exact ⟨rfl, (K7.trans kk).below (Nat.le_refl _) (by simp)⟩
            · obtain ⟨m1, m2, m3, m4⟩ := beqn hz
              go_region_held3 (fun w' => w'.cell? ⟨bx, 0, none⟩ = some (.int .i64 u) ∧ w'.cell? ⟨bx, 1, none⟩ = some (.int .i64 q) ∧ w'.cell? ⟨bz, 0, none⟩ = some (.int .i64 u) ∧ w'.cell? ⟨bz, 1, none⟩ = some (.int .i64 q) ∧ w'.cell? ⟨bv, 0, none⟩ = some (.int .i64 u) ∧ w'.cell? ⟨bv, 1, none⟩ = some (.int .i64 v))
                (exact HS.out _ kk)
                (first | (go_at_call 10; refine (hpack_at _ _ _ (by assumption) (by assumption)).mono ?_; rintro e w9 ⟨rfl, hk⟩; have kk := kk.trans hk; clear hk))
              go_wp2
              go_ret
              exact ⟨rfl, (K7.trans kk).below (Nat.le_refl _) (by simp)⟩
          · obtain ⟨b1, b2, b3, b4⟩ := beqn hh
            obtain ⟨d1, d2, d3, d4⟩ := beqn (a := hdPk p q) (b := hdPk r s) (fun h => hh (hdPk_inj hp1 hr1 h).1)
            rcases hne with hz | ⟨rfl, hz⟩
            · obtain ⟨m1, m2, m3, m4⟩ := beqn hz
              go_region_held3 (fun w' => w'.cell? ⟨bx, 0, none⟩ = some (.int .i64 p) ∧ w'.cell? ⟨bx, 1, none⟩ = some (.int .i64 q) ∧ w'.cell? ⟨bz, 0, none⟩ = some (.int .i64 r) ∧ w'.cell? ⟨bz, 1, none⟩ = some (.int .i64 s) ∧ w'.cell? ⟨bv, 0, none⟩ = some (.int .i64 u) ∧ w'.cell? ⟨bv, 1, none⟩ = some (.int .i64 v))
                (exact HS.out _ kk)
                (first | (go_at_call 10; refine (hpack_at _ _ _ (by assumption) (by assumption)).mono ?_; rintro e w9 ⟨rfl, hk⟩; have kk := kk.trans hk; clear hk))
              go_wp2
              go_ret
              exact ⟨rfl, (K7.trans kk).below (Nat.le_refl _) (by simp)⟩
            · obtain ⟨m1, m2, m3, m4⟩ := beqn hz
              go_region_held3 (fun w' => w'.cell? ⟨bx, 0, none⟩ = some (.int .i64 u) ∧ w'.cell? ⟨bx, 1, none⟩ = some (.int .i64 q) ∧ w'.cell? ⟨bz, 0, none⟩ = some (.int .i64 r) ∧ w'.cell? ⟨bz, 1, none⟩ = some (.int .i64 s) ∧ w'.cell? ⟨bv, 0, none⟩ = some (.int .i64 u) ∧ w'.cell? ⟨bv, 1, none⟩ = some (.int .i64 v))
                (exact HS.out _ kk)
                (first | (go_at_call 10; refine (hpack_at _ _ _ (by assumption) (by assumption)).mono ?_; rintro e w9 ⟨rfl, hk⟩; have kk := kk.trans hk; clear hk))
              go_wp2
              go_ret
              exact ⟨rfl, (K7.trans kk).below (Nat.le_refl _) (by simp)⟩
          · obtain ⟨rfl, hh⟩ := hh
            obtain ⟨b1, b2, b3, b4⟩ := beqn hh
            obtain ⟨d1, d2, d3, d4⟩ := beqn (a := hdPk p q) (b := hdPk p s) (fun h => hh (hdPk_inj hp1 hr1 h).2)
            rcases hne with hz | ⟨rfl, hz⟩
            · obtain ⟨m1, m2, m3, m4⟩ := beqn hz
              go_region_held3 (fun w' => w'.cell? ⟨bx, 0, none⟩ = some (.int .i64 p) ∧ w'.cell? ⟨bx, 1, none⟩ = some (.int .i64 q) ∧ w'.cell? ⟨bz, 0, none⟩ = some (.int .i64 p) ∧ w'.cell? ⟨bz, 1, none⟩ = some (.int .i64 s) ∧ w'.cell? ⟨bv, 0, none⟩ = some (.int .i64 u) ∧ w'.cell? ⟨bv, 1, none⟩ = some (.int .i64 v))
                (exact HS.out _ kk)
                (first | (go_at_call 10; refine (hpack_at _ _ _ (by assumption) (by assumption)).mono ?_; rintro e w9 ⟨rfl, hk⟩; have kk := kk.trans hk; clear hk))
              go_wp2
              go_ret
              exact ⟨rfl, (K7.trans kk).below (Nat.le_refl _) (by simp)⟩
            · obtain ⟨m1, m2, m3, m4⟩ := beqn hz
              go_region_held3 (fun w' => w'.cell? ⟨bx, 0, none⟩ = some (.int .i64 u) ∧ w'.cell? ⟨bx, 1, none⟩ = some (.int .i64 q) ∧ w'.cell? ⟨bz, 0, none⟩ = some (.int .i64 u) ∧ w'.cell? ⟨bz, 1, none⟩ = some (.int .i64 s) ∧ w'.cell? ⟨bv, 0, none⟩ = some (.int .i64 u) ∧ w'.cell? ⟨bv, 1, none⟩ = some (.int .i64 v))
                (exact HS.out _ kk)
                (first | (go_at_call 10; refine (hpack_at _ _ _ (by assumption) (by assumption)).mono ?_; rintro e w9 ⟨rfl, hk⟩; have kk := kk.trans hk; clear hk))
              go_wp2
              go_ret
              exact ⟨rfl, (K7.trans kk).below (Nat.le_refl _) (by simp)⟩

end Go.Proofs.Ytbfenihlkenbmaa
