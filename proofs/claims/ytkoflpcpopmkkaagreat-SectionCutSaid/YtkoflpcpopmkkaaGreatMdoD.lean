/- A section and its definition; a store of both. -/
import Derived.Test.YtkoflpcpopmkkaaGreatMdoB
namespace Go.Proofs.YtkoflpcpopmkkaaGreat
open Go.RowKit Go.OpenShut

section
variable {p : Nat} {a : DA} {l u : Int} {q : Sc} {c : Cfg} {mb nb ncap : Nat} {wB : World} {fr : Nat} {S : DS} {r : Nat} {K : Nat → Int} {w w' : World}

/-- The place of a store. -/
def plS (c : Cfg) (at_ : Nat) : Int := (c.act : Int) - 4 + (at_ % (c.words - c.act + 8) : Nat)

set_option maxRecDepth 100000 in
set_option maxHeartbeats 8000000 in
/-- A store, none being open. -/
theorem do3_shut (hp : MSep p a q c mb nb wB) (h : MShut p a l u q c mb nb ncap wB S r w) (kd : Nat) (hkd : kd ≤ 255) (h0 : 3 ≤ kd % 8) (at_ : Nat) (hat : at_ ≤ 65535) (v : Int) :
    Calls Tryz.prog 17 #[ptr mb, ptr q.b, doV kd at_ v, .int .u8 fr] w fun e w' => e = .returned (.bool true) ∧ MShut p a l u q c mb nb ncap wB S r w' := by
  have hkk : (kd : Int) ≤ 255 := by omega
  have s0 : ((kd : Int) % 8 == 0) = false := by rw [beq_eq_false_iff_ne]; omega
  have s1 : ((kd : Int) % 8 == 1) = false := by rw [beq_eq_false_iff_ne]; omega
  have s2 : ((kd : Int) % 8 == 2) = false := by rw [beq_eq_false_iff_ne]; omega
  clear h0
  have HP := hid hp
  obtain ⟨w0, hw0⟩ : ∃ w0, w0 = w.alloc (doO kd at_ v) := ⟨_, rfl⟩
  have h6 : MShut p a l u q c mb nb ncap wB S r w0 := by rw [hw0]; exact h.keep0 ((Keeps.refl _ _).alloc _)
  have hB := At.new w (doO kd at_ v)
  rw [← hw0] at hB
  have b0 := hB.cell 0 rfl
  have hci := c_in hp.ok hp.wn
  have hw := words_ge hp.ok
  have hai : (c.act : Int) ≤ 823 := by have := act_le hp.ok.small; omega
  have hwi : (c.words : Int) ≤ 15000 := by omega
  have hwa : (c.act : Int) ≤ (c.words : Int) := by have := hp.wn; omega
  have hwn := hp.wn
  obtain ⟨dd, hdd⟩ : ∃ dd : Nat, dd = c.words - c.act + 8 := ⟨_, rfl⟩
  have hddb : (dd : Int) ≤ 16000 := by omega
  have hdd0 : 0 < dd := by omega
  have hd1 : ¬ dd = 0 := by omega
  have hd2 : ¬ (dd : Int) = 0 := by omega
  obtain ⟨jj, hjj⟩ : ∃ jj, jj = at_ % dd := ⟨_, rfl⟩
  have hjd : jj < dd := by rw [hjj]; exact Nat.mod_lt _ hdd0
  have hji : (jj : Int) ≤ 16000 := by omega
  have hati : (at_ : Int) ≤ 65535 := by omega
  have E1 : IntKind.i64.wrap ((c.act : Int) - 4) = (c.act : Int) - 4 := IntWalk.i64_in _ (by omega)
  have E2 : IntKind.i64.wrap ((c.words : Int) - (c.act : Int)) = (dd : Int) - 8 := by rw [IntWalk.i64_in _ (by omega)]; omega
  have E3 : IntKind.i64.wrap ((dd : Int) - 8 + 8) = (dd : Int) := by rw [IntWalk.i64_in _ (by omega)]; omega
  have E3' : IntKind.i64.wrap (dd : Int) = (dd : Int) := IntWalk.i64_in _ (by omega)
  have E4 := hid (show IntKind.i64.wrap (at_ : Int) = (at_ : Int) from IntWalk.i64_in _ (by omega))
  have E5 := hid (show (at_ : Int).tmod (dd : Int) = (jj : Int) by rw [hjj, Int.tmod_eq_emod_of_nonneg (by omega)]; simp)
  have E6 := hid (show IntKind.i64.wrap ((c.act : Int) - 4 + (jj : Int)) = (c.act : Int) - 4 + (jj : Int) from IntWalk.i64_in _ (by omega))
  have H6 := hid h6
  clear hp h hdd hjj hci hw hwn
  obtain ⟨x1, l1, c1, x2, l2, c2, f, t, h1, h2, h3, h4⟩ := h6
  go_enter Tryz.func17, Tryz.ntmps17
  go_upto_region 1 with fail
  rw [← hw0]
  clear hw0
  go_upto_region 27 with fail
  have HX : Hid (∀ w', Keeps [] w0 w' → (w'.cell? ⟨mb, 0, none⟩ = some (.int .i64 c.log) ∧ w'.cell? ⟨mb, 1, none⟩ = some (.int .i64 c.roots) ∧ w'.cell? ⟨mb, 2, none⟩ = some (.int .i64 c.space) ∧ w'.cell? ⟨w.heap.size, 1, none⟩ = some (.int .u16 at_))) := fun w' hk => by
    have h := hk.at h2 (by simp)
    exact ⟨h.cell 0 rfl, h.cell 1 rfl, h.cell 2 rfl, (hk.at hB (by simp)).cell 1 rfl⟩
  have kk : Keeps [] w0 w0.drew := (Keeps.refl _ _).drew
  go_cut [14] from 137 to 159 (fun s14 wx => s14 = .int .i64 ((c.act : Int) - 4 + (jj : Int)) ∧ Keeps [] w0 wx)
  case first =>
    go_region_held3 (fun w' => w'.cell? ⟨mb, 0, none⟩ = some (.int .i64 c.log) ∧ w'.cell? ⟨mb, 1, none⟩ = some (.int .i64 c.roots) ∧ w'.cell? ⟨mb, 2, none⟩ = some (.int .i64 c.space) ∧ w'.cell? ⟨w.heap.size, 1, none⟩ = some (.int .u16 at_))
      (exact HX.out _ kk)
      (first
        | (go_at_call 27; refine (active_at _ c HP.out.ok.small).mono ?_; rintro e w' ⟨rfl, hk1⟩; have kk := kk.trans hk1; clear hk1)
        | (go_at_call 28; refine (cwords_at _ c HP.out.ok.small).mono ?_; rintro e w' ⟨rfl, hk1⟩; have kk := kk.trans hk1; clear hk1))
    all_goals
      go_wp2_with fail
      go_meet
      exact ⟨by rw [E4.out, E5.out, E6.out], kk⟩
  case rest =>
  obtain ⟨rfl, hkc⟩ := hcut
  have h1c := h1.keep0 hkc
  have h2c := hkc.at h2 (by simp)
  have d6 := h2c.cell 6 rfl
  have b2 := (hkc.at hB (by simp)).cell 2 rfl
  clear HX kk
  go_wp2_with fail
  refine (sstore_g_no h1c _ _).mono ?_
  rintro e w1 ⟨rfl, rfl⟩
  go_wp2_with fail
  go_ret
  exact ⟨rfl, H6.out.keep0 hkc⟩

end

end Go.Proofs.YtkoflpcpopmkkaaGreat
