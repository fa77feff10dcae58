/- One step, on a device and by definition: a fence. -/
import Derived.Test.YtbpoifcldjlblaaDo
namespace Go.Proofs.Ytbpoifcldjlblaa
open Go.RowKit

theorem grow_same {α : Type} (lo z : Nat) (f g : Nat → α) (h : f z = g z) : (fun y => if lo ≤ y ∧ y < z + 1 then f y else g y) = fun y => if lo ≤ y ∧ y < z then f y else g y := by
  funext y
  by_cases hy : y = z
  · subst hy
    by_cases h1 : lo ≤ y
    · rw [if_pos ⟨h1, by omega⟩, if_neg (by omega), h]
    · rw [if_neg (fun h => h1 h.1), if_neg (fun h => h1 h.1)]
  · have e : (lo ≤ y ∧ y < z + 1) ↔ (lo ≤ y ∧ y < z) := by omega
    simp only [e]

theorem MDev.congr {w : World} {x : MA} {N : Nat} {S T : MS} (h : MDev w x N S) (h1 : ∀ y, y < N → S.now y = T.now y) (h2 : ∀ y, y < N → S.kept y = T.kept y) (h3 : ∀ y, y < N → S.tok y = T.tok y) (h4 : ∀ y, y < N → S.is y = T.is y) : MDev w x N T :=
  { h with now := h.now.congr h1, kept := h.kept.congr h2, too := h.too.congr h3, is := by have := h.is; rwa [rowOf_congr h4] at this }

set_option maxRecDepth 100000 in
set_option maxHeartbeats 4000000 in
theorem do_fence (w : World) (p : Nat) (a : DA) (x : MA) (S : DS) (l u : Int) (h : Dev w p a S) (hp : At w p (powO l u)) (hm : MDev w x a.n S.ms) (hsep : Sep p a x) (d q v bits : Int) (hq : 0 ≤ q ∧ q ≤ 255) (hd : 0 ≤ d ∧ d ≤ 255) (hd7 : d % 7 = 5) (hu0 : 0 ≤ u) (hu1 : u < 9223372036854775807) (hst : Stays l u) :
    Calls Try.prog 14 #[ptr x.m, ptr a.d, stepV d q v bits] w (DoPost p a x l (u + 1) w) := by
  have hn := h.few
  have hnb : a.n ≤ 17592186044416 := by have := a.n8; omega
  have c0 := hm.mo.cell 0 rfl
  have l1 := hm.mo.lt
  have HSEP := hid hsep
  clear hsep
  have s4 : (d % 7 == 4) = false := by rw [beq_eq_false_iff_ne]; omega
  have HST := hid hst
  clear hst
  go_enter Try.func14, Try.ntmps14
  go_upto_region 3 with fail
  go_cut [33] (fun s33 wx => (∃ b : Bool, s33 = .bool b ∧ (b = true → 0 < a.n)) ∧ At wx w.heap.size (stepO d q v bits) ∧ Keeps [] w wx)
  case first =>
    by_cases h0 : 0 < a.n
    · have hn0 : decide (0 < (a.n : Int)) = true := by rw [decide_eq_true_iff]; omega
      go_wp2_with fail
      go_meet
      exact ⟨⟨_, rfl, fun _ => h0⟩, At.new _ _, (Keeps.refl _ _).alloc _⟩
    · have hn0 : decide (0 < (a.n : Int)) = false := by rw [decide_eq_false_iff_not]; omega
      go_wp2_with fail
      go_meet
      exact ⟨⟨_, rfl, fun h => by cases h⟩, At.new _ _, (Keeps.refl _ _).alloc _⟩
  case rest =>
    obtain ⟨⟨bb, rfl, hb0⟩, hB, hK⟩ := hcut
    have b1 := hB.cell 1 rfl
    go_upto_if 33 with fail
    go_cut [8] (fun s8 wx => (∃ i : Int, s8 = .int .i64 i ∧ -3 ≤ i ∧ i ≤ 255) ∧ At wx w.heap.size (stepO d q v bits) ∧ Keeps [] w wx)
    case first =>
      by_cases hbb : bb = true
      · subst hbb
        have h0 := hb0 rfl
        go_wp2_with fail
        go_meet
        refine ⟨⟨_, rfl, ?_⟩, hB, hK⟩
        obtain ⟨m, rfl⟩ := Int.eq_ofNat_of_zero_le hq.1
        have e : (m : Int) % (a.n : Int) = ((m % a.n : Nat) : Int) := rfl
        have := Nat.mod_le m a.n
        omega
      · have hbf : bb = false := by
          cases bb
          · rfl
          · exact absurd rfl hbb
        subst hbf
        go_wp2_with fail
        go_meet
        exact ⟨⟨_, rfl, by omega, by omega⟩, hB, hK⟩
    case rest =>
      clear hb0 hB hK b1
      obtain ⟨⟨i, rfl, hi1, hi2⟩, hB, hK⟩ := hcut
      go_upto_region 5 with fail
      go_cut [9] (fun s9 wx => (∃ b : Bool, s9 = .bool b) ∧ At wx w.heap.size (stepO d q v bits) ∧ Keeps [] w wx)
      case first =>
        by_cases h0 : 0 ≤ i
        · have g0 : decide (0 ≤ i) = true := by rw [decide_eq_true_iff]; omega
          go_wp2_with fail
          go_meet
          exact ⟨⟨_, rfl⟩, hB, hK⟩
        · have g0 : decide (0 ≤ i) = false := by rw [decide_eq_false_iff_not]; omega
          go_wp2_with fail
          go_meet
          exact ⟨⟨_, rfl⟩, hB, hK⟩
      case rest =>
        clear hB hK
        obtain ⟨⟨bi, rfl⟩, hB, hK⟩ := hcut
        have h1 := h.keep hK (by simp) (by simp) (by simp) (by simp)
        have hp1 := hK.at hp (by simp)
        have hm1 := hm.keep hK (by simp)
        have b0 := hB.cell 0 rfl
        have b2 := hB.cell 2 rfl
        have b3 := hB.cell 3 rfl
        have ZB : Hid (p < w.heap.size ∧ (a.d < w.heap.size ∧ a.s < w.heap.size ∧ a.k < w.heap.size ∧ a.m < w.heap.size) ∧ x.m < w.heap.size ∧ x.n < w.heap.size ∧ x.k < w.heap.size ∧ x.t < w.heap.size ∧ x.i < w.heap.size) := ⟨hp.lt, h.low, hm.low⟩
        clear c0 l1 h hp hm
        have HF := hid (fence_at _ p a S l u h1 hp1 hu0 hu1 HST.out)
        go_wp2_with fail
        refine HF.out.mono ?_
        rintro e w2 ⟨rfl, h2, hp2, hk2⟩
        have hm2 := hm1.keep hk2 (by intro b hb; have := HSEP.out b hb; simp; omega)
        clear h1 hp1 hm1 b0 b2 b3 hB
        have K2 : Keeps [p, a.k, a.m] w w2 := (hK.mono (by simp)).trans hk2
        have m3 := hm2.mo.cell 3 rfl
        go_wp2_with fail
        go_loopg [118] a.n (fun r s wr => ∃ z : Nat, z + r = a.n ∧ s = .int .i64 z ∧ MDev wr x a.n ⟨S.now, fun y => if 0 ≤ y ∧ y < z then (if S.is (y / 8) = true then S.tok y else S.kept y) else S.kept y, S.tok, fun y => if 0 ≤ y ∧ y < z then false else S.is (y / 8)⟩ ∧ Keeps [x.k, x.i] w2 wr)
        case atStart =>
          refine ⟨0, by omega, rfl, ?_, Keeps.refl _ _⟩
          simpa using hm2
        case round =>
          obtain ⟨z, hz, rfl, hM, hKr⟩ := hrel
          by_cases hlt : z < a.n
          · have hzb : (z : Int) < (a.n : Int) := by omega
            have m3 := hM.mo.cell 3 rfl
            have i1 := hM.is.cell z (rowOf_get hlt)
            change _ = some (Value.bool (if 0 ≤ z ∧ z < z then false else S.is (z / 8))) at i1
            rw [if_neg (by omega)] at i1
            by_cases his : S.is (z / 8) = true
            · rw [his] at i1
              have m1 := hM.mo.cell 1 rfl
              have m2 := hM.mo.cell 2 rfl
              have k1 := hM.kept.cell hlt
              have k2 := hM.kept.free z
              have t1 := hM.too.cell hlt
              have i2 := hM.is.free z
              have ne1 := hM.ki
              have ne2 := hM.kt
              have ne3 := hM.ti
              have ne4 := hM.mkk
              have ne5 := hM.mi
              have e1 := grow_put 0 z (Nat.zero_le _) (fun y => if S.is (y / 8) = true then S.tok y else S.kept y) S.kept
              simp only [his, if_true] at e1
              have E1 := hid e1
              have E2 := hid (grow_put 0 z (Nat.zero_le _) (fun _ => false) (fun y => S.is (y / 8)))
              have HIS := hid his
              clear e1 his
              go_wp2_with fail
              go_region
              all_goals
                clear m1 m2 m3 k1 k2 t1 i1 i2
                go_wp2_with fail
                go_roundg (a.n - (z + 1))
                case measure => omega
                case rel =>
                  refine ⟨z + 1, by omega, by go_num, ?_, ?_⟩
                  · rw [E1.out, E2.out]
                    first | exact ((hM.set_kept hlt _).set_is z false).drew | exact ((hM.set_is z false).set_kept hlt _).drew
                  · exact ((hKr.set (.inl (by simp)) _).set (.inl (by simp)) _).drew
            · have hif : S.is (z / 8) = false := by simpa using his
              rw [hif] at i1
              have E1 := hid (grow_same 0 z (fun y => if S.is (y / 8) = true then S.tok y else S.kept y) S.kept (if_neg his))
              have E2 := hid (grow_same 0 z (fun _ => false) (fun y => S.is (y / 8)) hif.symm)
              clear hif his
              go_wp2_with fail
              clear m3 i1
              go_roundg (a.n - (z + 1))
              case measure => omega
              case rel =>
                refine ⟨z + 1, by omega, by go_num, ?_, hKr⟩
                rw [E1.out, E2.out]
                exact hM
          · have hzn : z = a.n := by omega
            subst hzn
            go_wp2_with fail
            go_ret
            have s1 := HSEP.out x.k (by simp)
            have s2 := HSEP.out x.i (by simp)
            refine ⟨rfl, ⟨_, h2.keep hKr (by simp; omega) (by simp; omega) (by simp; omega) (by simp; omega), ?_⟩, hKr.at hp2 (by simp; omega), ?_⟩
            · exact hM.congr (fun y _ => rfl) (fun y hy => if_pos ⟨Nat.zero_le _, hy⟩) (fun y _ => rfl) (fun y hy => if_pos ⟨Nat.zero_le _, hy⟩)
            · exact (K2.mono (by intro b _ hb; simp at hb ⊢; omega)).new hKr (by intro b hb; simp at hb ⊢; omega)

set_option maxRecDepth 100000 in
set_option maxHeartbeats 4000000 in
theorem do_fence_goes (w : World) (p : Nat) (a : DA) (x : MA) (S : DS) (l u : Int) (h : Dev w p a S) (hp : At w p (powO l u)) (hm : MDev w x a.n S.ms) (hsep : Sep p a x) (d q v bits : Int) (hq : 0 ≤ q ∧ q ≤ 255) (hd : 0 ≤ d ∧ d ≤ 255) (hd7 : d % 7 = 5) (hu0 : 0 ≤ u) (hu1 : u < 9223372036854775807) (hl : l = u) :
    Calls Try.prog 14 #[ptr x.m, ptr a.d, stepV d q v bits] w (DoGone p a x S l u w) := by
  have hn := h.few
  have hnb : a.n ≤ 17592186044416 := by have := a.n8; omega
  have c0 := hm.mo.cell 0 rfl
  have l1 := hm.mo.lt
  have HSEP := hid hsep
  clear hsep
  have s4 : (d % 7 == 4) = false := by rw [beq_eq_false_iff_ne]; omega
  subst hl
  go_enter Try.func14, Try.ntmps14
  go_upto_region 3 with fail
  go_cut [33] (fun s33 wx => (∃ b : Bool, s33 = .bool b ∧ (b = true → 0 < a.n)) ∧ At wx w.heap.size (stepO d q v bits) ∧ Keeps [] w wx)
  case first =>
    by_cases h0 : 0 < a.n
    · have hn0 : decide (0 < (a.n : Int)) = true := by rw [decide_eq_true_iff]; omega
      go_wp2_with fail
      go_meet
      exact ⟨⟨_, rfl, fun _ => h0⟩, At.new _ _, (Keeps.refl _ _).alloc _⟩
    · have hn0 : decide (0 < (a.n : Int)) = false := by rw [decide_eq_false_iff_not]; omega
      go_wp2_with fail
      go_meet
      exact ⟨⟨_, rfl, fun h => by cases h⟩, At.new _ _, (Keeps.refl _ _).alloc _⟩
  case rest =>
    obtain ⟨⟨bb, rfl, hb0⟩, hB, hK⟩ := hcut
    have b1 := hB.cell 1 rfl
    go_upto_if 33 with fail
    go_cut [8] (fun s8 wx => (∃ i : Int, s8 = .int .i64 i ∧ -3 ≤ i ∧ i ≤ 255) ∧ At wx w.heap.size (stepO d q v bits) ∧ Keeps [] w wx)
    case first =>
      by_cases hbb : bb = true
      · subst hbb
        have h0 := hb0 rfl
        go_wp2_with fail
        go_meet
        refine ⟨⟨_, rfl, ?_⟩, hB, hK⟩
        obtain ⟨m, rfl⟩ := Int.eq_ofNat_of_zero_le hq.1
        have e : (m : Int) % (a.n : Int) = ((m % a.n : Nat) : Int) := rfl
        have := Nat.mod_le m a.n
        omega
      · have hbf : bb = false := by
          cases bb
          · rfl
          · exact absurd rfl hbb
        subst hbf
        go_wp2_with fail
        go_meet
        exact ⟨⟨_, rfl, by omega, by omega⟩, hB, hK⟩
    case rest =>
      clear hb0 hB hK b1
      obtain ⟨⟨i, rfl, hi1, hi2⟩, hB, hK⟩ := hcut
      go_upto_region 5 with fail
      go_cut [9] (fun s9 wx => (∃ b : Bool, s9 = .bool b) ∧ At wx w.heap.size (stepO d q v bits) ∧ Keeps [] w wx)
      case first =>
        by_cases h0 : 0 ≤ i
        · have g0 : decide (0 ≤ i) = true := by rw [decide_eq_true_iff]; omega
          go_wp2_with fail
          go_meet
          exact ⟨⟨_, rfl⟩, hB, hK⟩
        · have g0 : decide (0 ≤ i) = false := by rw [decide_eq_false_iff_not]; omega
          go_wp2_with fail
          go_meet
          exact ⟨⟨_, rfl⟩, hB, hK⟩
      case rest =>
        clear hB hK
        obtain ⟨⟨bi, rfl⟩, hB, hK⟩ := hcut
        have h1 := h.keep hK (by simp) (by simp) (by simp) (by simp)
        have hp1 := hK.at hp (by simp)
        have hm1 := hm.keep hK (by simp)
        have b0 := hB.cell 0 rfl
        have b2 := hB.cell 2 rfl
        have b3 := hB.cell 3 rfl
        have ZB : Hid (p < w.heap.size ∧ (a.d < w.heap.size ∧ a.s < w.heap.size ∧ a.k < w.heap.size ∧ a.m < w.heap.size) ∧ x.m < w.heap.size ∧ x.n < w.heap.size ∧ x.k < w.heap.size ∧ x.t < w.heap.size ∧ x.i < w.heap.size) := ⟨hp.lt, h.low, hm.low⟩
        clear c0 l1 h hp hm
        have HF := hid (fence_goes _ p a S l h1 hp1 hu0 hu1)
        go_wp2_with fail
        refine HF.out.mono ?_
        rintro e w2 ⟨rfl, h2, hp2, hk2⟩
        exact ⟨rfl, rfl, h2, hm1.keep hk2 (by simp), hp2, hK.trans hk2⟩

end Go.Proofs.Ytbpoifcldjlblaa
