/- The walk of the law HeadSizes. -/
import Derived.Test.YtbfenihlkenbmaaHead
import Derived.Deep.RegionHeld3
import Derived.Deep.DeepCutAuto
namespace Go.Proofs.Ytbfenihlkenbmaa
open Go.RowKit Go.OpenShut

/-- Behind the two heads' making. -/
def Two (p q b : Nat) (W : World) (s6 s7 : Value) (wx : World) : Prop :=
  ∃ x y, s6 = ptr x ∧ s7 = ptr y ∧ At wx b (hdO p q) ∧ At wx x (hdO ((p : Int) + 1) q) ∧ At wx y (hdO p ((q : Int) + 1)) ∧ Keeps [] W wx

set_option maxRecDepth 100000 in
set_option maxHeartbeats 4000000 in
theorem headSizes_walk (n r : Int) (W : World) (hn : (Lit.int .u8 n).wf = true) (hr : (Lit.int .u8 r).wf = true) :
    Calls Try.prog 7 #[.int .u8 n, .int .u8 r] W fun e w' => e = .returned (.bool true) ∧ Below W.heap.size W w' := by
  have hn' := bounds_u8 hn
  have hr' := bounds_u8 hr
  have K0 := Keeps.refl [] W
  go_enter Try.func7, Try.ntmps7
  go_wp2_with fail
  refine (awake4_any _).mono ?_
  rintro e w1 ⟨rfl, hb1⟩
  have K1 := K0.trans (Go.Proofs.Ytbfenihlkenbmaa.Below.keeps hb1 [])
  clear hb1 K0
  go_wp2_with fail
  obtain ⟨p, hp, hp1⟩ : ∃ p : Nat, (n % 64 = (p : Int)) ∧ p ≤ 63 := ⟨(n % 64).toNat, by omega, by omega⟩
  obtain ⟨q, hq, hq1⟩ : ∃ q : Nat, (r % ((p : Int) + 1) = (q : Int)) ∧ q ≤ p := by
    have h0 := Int.emod_nonneg r (show ((p : Int) + 1) ≠ 0 by omega)
    have h1 := Int.emod_lt_of_pos r (show 0 < ((p : Int) + 1) by omega)
    exact ⟨(r % ((p : Int) + 1)).toNat, by omega, by omega⟩
  rw [hp, hq]
  clear hp hq hn hr hn' hr'
  have b1 := At.new w1 (hdO p q)
  have K1 := K1.alloc (hdO p q)
  generalize w1.alloc (hdO p q) = w2 at b1 K1 ⊢
  generalize w1.heap.size = b at b1 ⊢
  have hpi : (p : Int) ≤ 63 := by omega
  have hqi : (q : Int) ≤ 63 := by omega
  have ep : IntKind.i64.wrap ((p : Int) + 1) = (p : Int) + 1 := IntWalk.i64_in _ (by omega)
  have eq : IntKind.i64.wrap ((q : Int) + 1) = (q : Int) + 1 := IntWalk.i64_in _ (by omega)
  have hb := b1.lt
  have c0 : w2.cell? ⟨b, 0, none⟩ = some (.int .i64 p) := b1.cell 0 rfl
  have c1 : w2.cell? ⟨b, 1, none⟩ = some (.int .i64 q) := b1.cell 1 rfl
  have d0 : w2.drew.cell? ⟨b, 0, none⟩ = some (.int .i64 p) := b1.drew.cell 0 rfl
  have d1 : w2.drew.cell? ⟨b, 1, none⟩ = some (.int .i64 q) := b1.drew.cell 1 rfl
  go_cut [6, 7] from 21 (fun s6 s7 wx => Two p q b W s6 s7 wx)
  case first =>
    go_region
    all_goals
      go_wp2_with fail
      go_meet
      refine ⟨_, _, rfl, rfl, ?_, ?_, ?_, ?_⟩
      · exact ((b1.alloc _).alloc _).drew
      · refine At.drew ?_
        repeat' (first | (refine At.newk ?_; simp; done) | refine At.alloc ?_ _)
      · refine At.drew ?_
        repeat' (first | (refine At.newk ?_; simp; done) | refine At.alloc ?_ _)
      · exact ((K1.alloc _).alloc _).drew
  case rest =>
    obtain ⟨x, y, rfl, rfl, b2, x2, y2, K2⟩ := hcut
    clear c0 c1 d0 d1 hb b1 K1
    have HS : Hid (∀ w', Keeps [] wc w' → w'.cell? ⟨b, 0, none⟩ = some (.int .i64 p) ∧ w'.cell? ⟨b, 1, none⟩ = some (.int .i64 q) ∧ w'.cell? ⟨x, 0, none⟩ = some (.int .i64 ((p : Int) + 1)) ∧ w'.cell? ⟨x, 1, none⟩ = some (.int .i64 q) ∧ w'.cell? ⟨y, 0, none⟩ = some (.int .i64 p) ∧ w'.cell? ⟨y, 1, none⟩ = some (.int .i64 ((q : Int) + 1))) := fun w' hk => ⟨(hk.at b2 (by simp)).cell 0 rfl, (hk.at b2 (by simp)).cell 1 rfl, (hk.at x2 (by simp)).cell 0 rfl, (hk.at x2 (by simp)).cell 1 rfl, (hk.at y2 (by simp)).cell 0 rfl, (hk.at y2 (by simp)).cell 1 rfl⟩
    have kk : Keeps [] wc wc.drew := (Keeps.refl _ _).drew
    have E1 : Hid (hdE ((p : Int) + 1) (q : Int) = 0) := hdE_zero (by omega)
    have ew : IntKind.i64.wrap ((p : Int) + 1 + 1) = (p : Int) + 1 + 1 := IntWalk.i64_in _ (by omega)
    clear b2 x2 y2
    go_wp2_with fail
    rcases (show q < p ∨ p ≤ q by omega) with hh | hh
    · have E2 : Hid (hdE (p : Int) ((q : Int) + 1) = 0) := hdE_zero (by omega)
      clear hp1 hq1
      go_region_held3 (fun w' => w'.cell? ⟨b, 0, none⟩ = some (.int .i64 p) ∧ w'.cell? ⟨b, 1, none⟩ = some (.int .i64 q) ∧ w'.cell? ⟨x, 0, none⟩ = some (.int .i64 ((p : Int) + 1)) ∧ w'.cell? ⟨x, 1, none⟩ = some (.int .i64 q) ∧ w'.cell? ⟨y, 0, none⟩ = some (.int .i64 p) ∧ w'.cell? ⟨y, 1, none⟩ = some (.int .i64 ((q : Int) + 1)))
        (exact HS.out _ kk)
        (first
          | (go_at_call 11; refine (hcheck_any _ _ _).mono ?_; rintro e w' ⟨rfl, hk⟩; have kk := kk.trans hk; clear hk; first | rw [E1.out] | rw [E2.out])
          | (go_at_call 12; refine (hsize_at _ _ _ (by omega)).mono ?_; rintro e w' ⟨rfl, hk⟩; have kk := kk.trans hk; clear hk))
      go_wp2
      go_ret
      refine ⟨?_, (K2.trans kk).below (Nat.le_refl _) (by simp)⟩
      first
        | (simp
           done)
        | (simp
           omega)
    · have E2 : Hid (hdE (p : Int) ((q : Int) + 1) = 5) := hdE_five (by omega)
      clear hp1 hq1
      go_region_held3 (fun w' => w'.cell? ⟨b, 0, none⟩ = some (.int .i64 p) ∧ w'.cell? ⟨b, 1, none⟩ = some (.int .i64 q) ∧ w'.cell? ⟨x, 0, none⟩ = some (.int .i64 ((p : Int) + 1)) ∧ w'.cell? ⟨x, 1, none⟩ = some (.int .i64 q) ∧ w'.cell? ⟨y, 0, none⟩ = some (.int .i64 p) ∧ w'.cell? ⟨y, 1, none⟩ = some (.int .i64 ((q : Int) + 1)))
        (exact HS.out _ kk)
        (first
          | (go_at_call 11; refine (hcheck_any _ _ _).mono ?_; rintro e w' ⟨rfl, hk⟩; have kk := kk.trans hk; clear hk; first | rw [E1.out] | rw [E2.out])
          | (go_at_call 12; refine (hsize_at _ _ _ (by omega)).mono ?_; rintro e w' ⟨rfl, hk⟩; have kk := kk.trans hk; clear hk))
      go_wp2
      go_ret
      refine ⟨?_, (K2.trans kk).below (Nat.le_refl _) (by simp)⟩
      first
        | (simp
           done)
        | (simp
           omega)

end Go.Proofs.Ytbfenihlkenbmaa
