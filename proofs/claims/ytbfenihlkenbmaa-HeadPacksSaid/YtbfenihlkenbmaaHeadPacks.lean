/- The walk of the law HeadPacks. -/
import Derived.Test.YtbfenihlkenbmaaHead
import Derived.Deep.RegionHeld3
import Derived.Deep.DeepCutAuto
namespace Go.Proofs.Ytbfenihlkenbmaa
open Go.RowKit Go.OpenShut

set_option maxHeartbeats 4000000 in
theorem headPacks_walk (n r : Int) (W : World) (hn : (Lit.int .u8 n).wf = true) (hr : (Lit.int .u8 r).wf = true) :
    Calls Try.prog 3 #[.int .u8 n, .int .u8 r] W fun e w' => e = .returned (.bool true) ∧ Below W.heap.size W w' := by
  have hn' := bounds_u8 hn
  have hr' := bounds_u8 hr
  have K0 := Keeps.refl [] W
  go_enter Try.func3, Try.ntmps3
  go_wp2_with fail
  refine (awake4_any _).mono ?_
  rintro e w1 ⟨rfl, hb1⟩
  have K1 := K0.trans (Go.Proofs.Ytbfenihlkenbmaa.Below.keeps hb1 [])
  clear hb1 K0
  go_wp2_with fail
  obtain ⟨p, hp, hp1⟩ : ∃ p : Nat, (n % 65 = (p : Int)) ∧ p ≤ 64 := ⟨(n % 65).toNat, by omega, by omega⟩
  obtain ⟨q, hq, hq1⟩ : ∃ q : Nat, (r % ((p : Int) + 1) = (q : Int)) ∧ q ≤ p := by
    have h0 := Int.emod_nonneg r (show ((p : Int) + 1) ≠ 0 by omega)
    have h1 := Int.emod_lt_of_pos r (show 0 < ((p : Int) + 1) by omega)
    exact ⟨(r % ((p : Int) + 1)).toNat, by omega, by omega⟩
  rw [hp, hq]
  have C1 := hid (fun w => hpack_at w p q hp1 hq1)
  have C2 := hid (fun w => hunpack_pk w p q hp1 hq1)
  have C3 := hid (fun w => hsize_at w p q (by omega))
  have hE : Hid (hdE (p : Int) (q : Int) = 0) := by
    have : hdB (p : Int) (q : Int) = true := by simp [hdB]; omega
    show _ = _
    simp [hdE, this]
  have hpi : (p : Int) ≤ 64 := by omega
  have hqi : (q : Int) ≤ 64 := by omega
  have hP : Hid (hdPk p q = 12754194144713244672 + q * 4294967296 + p) := by show _ = _; rfl
  clear hp hq hn hr hn' hr' hp1 hq1
  have b1 := At.new w1 (hdO p q)
  have K1 := K1.alloc (hdO p q)
  generalize w1.alloc (hdO p q) = w2 at b1 K1 ⊢
  generalize w1.heap.size = b at b1 ⊢
  refine (C1.out _).mono ?_
  rintro e w3 ⟨rfl, hK⟩
  have b2 := hK.at b1 (by simp)
  have K2 := K1.trans hK
  clear hK b1 K1
  have c0 := b2.cell 0 rfl
  have c1 := b2.cell 1 rfl
  go_wp2_with fail
  refine (C2.out _).mono ?_
  rintro e w4 ⟨rfl, hK⟩
  have b3 := hK.at b2 (by simp)
  have K3 := K2.trans hK
  clear hK b2 K2 c0 c1
  have c0 := (b3.alloc (hdO p q)).cell 0 rfl
  have c1 := (b3.alloc (hdO p q)).cell 1 rfl
  go_wp2_with fail
  have b3 := b3.alloc (hdO p q)
  have d3 := At.new w4 (hdO p q)
  have K3 := K3.alloc (hdO p q)
  generalize w4.alloc (hdO p q) = w5 at b3 d3 K3 ⊢
  generalize w4.heap.size = d at d3 ⊢
  clear c0 c1
  have CK := hid (show ∀ w, Calls Try.prog 11 #[hdV p q] w fun e w' => e = .returned (.int .i64 0) ∧ Keeps [] w w' from fun w => (hcheck_any w p q).mono fun e w' h => by rw [hE.out] at h; exact h)
  have CP := hid (show ∀ w, Calls Try.prog 10 #[hdV p q] w fun e w' => e = .returned (.int .u64 ((2969567232 + (q : Int)) * 4294967296 + (p : Int))) ∧ Keeps [] w w' from fun w => (C1.out w).mono fun e w' h => by
    have h2 : ((hdPk p q : Nat) : Int) = (2969567232 + (q : Int)) * 4294967296 + (p : Int) := by rw [hP.out]; omega
    rw [h2] at h; exact h)
  clear hE hP C1 C2
  have HS : Hid (∀ w', Keeps [] w5 w' → w'.cell? ⟨b, 0, none⟩ = some (.int .i64 p) ∧ w'.cell? ⟨b, 1, none⟩ = some (.int .i64 q) ∧ w'.cell? ⟨d, 0, none⟩ = some (.int .i64 p) ∧ w'.cell? ⟨d, 1, none⟩ = some (.int .i64 q)) := fun w' hk => ⟨(hk.at b3 (by simp)).cell 0 rfl, (hk.at b3 (by simp)).cell 1 rfl, (hk.at d3 (by simp)).cell 0 rfl, (hk.at d3 (by simp)).cell 1 rfl⟩
  have kk : Keeps [] w5 w5.drew := (Keeps.refl _ _).drew
  have ew : IntKind.i64.wrap ((p : Int) + 1) = (p : Int) + 1 := IntWalk.i64_in _ (by omega)
  clear b3 d3
  go_region_held3 (fun w' => w'.cell? ⟨b, 0, none⟩ = some (.int .i64 p) ∧ w'.cell? ⟨b, 1, none⟩ = some (.int .i64 q) ∧ w'.cell? ⟨d, 0, none⟩ = some (.int .i64 p) ∧ w'.cell? ⟨d, 1, none⟩ = some (.int .i64 q))
    (exact HS.out _ kk)
    (first
      | (go_at_call 11; refine (CK.out _).mono ?_; rintro e w' ⟨rfl, hk⟩; have kk := kk.trans hk; clear hk)
      | (go_at_call 12; refine (C3.out _).mono ?_; rintro e w' ⟨rfl, hk⟩; have kk := kk.trans hk; clear hk)
      | (go_at_call 10; refine (CP.out _).mono ?_; rintro e w' ⟨rfl, hk⟩; have kk := kk.trans hk; clear hk))
  go_wp2
  go_ret
  exact ⟨rfl, (K3.trans kk).below (Nat.le_refl _) (by simp)⟩

end Go.Proofs.Ytbfenihlkenbmaa
