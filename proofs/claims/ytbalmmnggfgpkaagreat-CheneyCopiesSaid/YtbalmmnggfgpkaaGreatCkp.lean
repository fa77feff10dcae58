/- keep: all copies are flushed, and fenced. -/
import Derived.Test.YtbalmmnggfgpkaaGreatClb
import Derived.BigQuiet
import Derived.Deep.RegionHeld3
namespace Go.Proofs.YtbalmmnggfgpkaaGreat
open Go.RowKit Go.OpenShut

/-- The lines of the copies, the first t of them flushed. -/
def FlP (F : Nat) (S S2 : DS) (t : Nat) : Prop := S2.now = S.now ∧ ∀ j, F ≤ j → j < F + 8 * t → S2.is (j / 8) = true ∧ S2.tok j = S.now j

theorem FlP.next {F : Nat} {S S2 : DS} {t : Nat} (h : FlP F S S2 t) (hF : F % 8 = 0) : FlP F S (execs S2 [.fl (F + 8 * t)]) (t + 1) := by
  refine ⟨h.1, fun j h1 h2 => ?_⟩
  show put S2.is ((F + 8 * t) / 8) true (j / 8) = true ∧ (if j / 8 = (F + 8 * t) / 8 then S2.now j else S2.tok j) = S.now j
  by_cases hj : j / 8 = (F + 8 * t) / 8
  · rw [if_pos hj, hj, h.1]
    exact ⟨by simp [put], rfl⟩
  · rw [if_neg hj]
    obtain ⟨h3, h4⟩ := h.2 j h1 (by omega)
    exact ⟨by simp [put, hj, h3], h4⟩
theorem FlP.fence {F : Nat} {S S2 : DS} {t : Nat} (h : FlP F S S2 t) : (execs S2 [.fe]).now = S.now ∧ ∀ j, F ≤ j → j < F + 8 * t → Fix (execs S2 [.fe]) j (S.now j) := by
  refine ⟨h.1, fun j h1 h2 => ⟨by show S2.now j = S.now j; rw [h.1], ?_, fun he => by cases he⟩⟩
  obtain ⟨h3, h4⟩ := h.2 j h1 h2
  show (if S2.is (j / 8) = true then S2.tok j else S2.kept j) = S.now j
  rw [if_pos h3, h4]

/-- What keep comes to. -/
def KpP (P : CP) (out : List Nat) (u : Int) (S' : DS) (w : World) (e : Ending) (w' : World) : Prop :=
  e = .returned (.tuple #[]) ∧ ∃ u' S'', Pw w' P.p P.a (-1) u' S'' ∧ S''.now = S'.now ∧ (∀ j, P.c.frm (1 - P.k) ≤ j → j < P.c.frm (1 - P.k) + szF P.S out → Fix S'' j (S'.now j)) ∧ u' ≤ u + 600 ∧ Keeps [P.p, P.a.s, P.a.k, P.a.m] w w'

set_option maxRecDepth 100000 in
set_option maxHeartbeats 4000000 in
theorem ckeep_at (P : CP) (hP : P.Ok) (w : World) (x mb B : Nat) (yr : Option Addr) (cr : Nat) (yl : Option Addr) (cl : Nat) (yq : Option Addr) (cq : Nat) (out : List Nat) (i n : Nat) (dn : Bool) (hC : ClB P w x mb B yr cr yl cl yq cq out i n dn) (hA : Apart P (clT x mb yr yl yq)) (hpre : P.Pre out)
    (u : Int) (S' : DS) (hPw : Pw w P.p P.a (-1) u S') (hu : u ≤ 200000000000) :
    Calls Tryz.prog 49 #[ptr x] w (KpP P out u S' w) := by
  obtain ⟨hc, hcn, hk, hus, hrdy, -, -, -, -⟩ := hP
  have hfr := frm_le hc.small (show 1 - P.k ≤ 2 by omega)
  have hsp := hc.small.2.2
  have hfs : P.c.frm (1 - P.k) + up8 P.c.space ≤ P.a.n := by
    rw [← hcn]
    unfold Cfg.words Cfg.frm
    have h1 : (1 - P.k) * up8 P.c.space + up8 P.c.space = (1 - P.k + 1) * up8 P.c.space := by rw [Nat.succ_mul]
    have h2 : (1 - P.k + 1) * up8 P.c.space ≤ 2 * up8 P.c.space := Nat.mul_le_mul_right _ (by omega)
    omega
  have hF8 : P.c.frm (1 - P.k) % 8 = 0 := by
    unfold Cfg.frm
    have h1 := (up8_le (P.c.root P.c.roots)).2.2
    have h2 := (up8_le P.c.space).2.2
    obtain h3 | h3 : 1 - P.k = 0 ∨ 1 - P.k = 1 := by omega
    · rw [h3]; omega
    · rw [h3]; omega
  have hsz2 : szF P.S P.LS ≤ P.c.space := hrdy.sz
  have hupp := up8_le P.c.space
  have hpz := hpre.sz
  obtain ⟨U, hU⟩ : ∃ U, U = szF P.S out := ⟨_, rfl⟩
  obtain ⟨F, hF⟩ : ∃ F, F = P.c.frm (1 - P.k) := ⟨_, rfl⟩
  have hbox := hC.box
  rw [← hU] at hbox
  have hUi : (U : Int) ≤ 4096 := by omega
  have hFi : (F : Int) ≤ 15000 := by omega
  have HPL : Hid (∀ (q : Nat) (w' : World), q ≤ 10000 → Calls Tryz.prog 44 #[bkV ((1 - P.k : Nat) : Int) (U : Nat) (.slice none 0 0), cfgV P.c, .int .i64 (q : Nat)] w' fun e w'' => e = .returned (.int .i64 ((F + q : Nat) : Int)) ∧ Keeps [] w' w'') := fun q w' hq => by
    have := place8_at w' P.c hc.small (1 - P.k) (by omega) (U : Nat) (.slice none 0 0) (q : Nat) (by omega)
    rw [show ((P.c.frm (1 - P.k) : Nat) : Int) + (q : Int) = ((F + q : Nat) : Int) by omega] at this
    exact this
  have hxd : x ∉ [P.p, P.a.s, P.a.k, P.a.m] := fun h => hA x (by simp [clT]) (by simp at h ⊢; omega)
  have HB := hid hbox
  have HXD := hid hxd
  have HPW := hid hPw
  have HUF := hid (And.intro hU hF)
  have HFS : Hid (F + up8 P.c.space ≤ P.a.n ∧ U ≤ P.c.space ∧ F % 8 = 0 ∧ P.c.space ≤ up8 P.c.space ∧ up8 P.c.space % 8 = 0) := by
    refine ⟨by omega, by omega, by omega, hupp.1, hupp.2.2⟩
  have HUB := hid hu
  have HPS : Hid (P.c.space ≤ 4096) := hsp
  have HF2 : Hid (∀ w', Keeps [P.p, P.a.s, P.a.k, P.a.m] w w' → (w'.cell? ⟨x, 0, none⟩ = some (ptr P.a.d) ∧ w'.cell? ⟨x, 1, none⟩ = some (.int .i64 P.c.log) ∧ w'.cell? ⟨x, 2, none⟩ = some (.int .i64 P.c.roots) ∧ w'.cell? ⟨x, 3, none⟩ = some (.int .i64 P.c.space) ∧ w'.cell? ⟨x, 7, none⟩ = some (.int .i64 ((1 - P.k : Nat) : Int)) ∧ w'.cell? ⟨x, 8, none⟩ = some (.int .i64 (U : Nat)) ∧ w'.cell? ⟨x, 9, none⟩ = some (.slice none 0 0))) := fun w' hk => by
    have e1 := hk.at hbox hxd
    exact ⟨e1.cell 0 rfl, e1.cell 1 rfl, e1.cell 2 rfl, e1.cell 3 rfl, e1.cell 7 rfl, e1.cell 8 rfl, e1.cell 9 rfl⟩
  clear hc hcn hk hus hrdy hfr hsp hfs hF8 hsz2 hupp hpz hU hF hbox hC hA hpre hPw hu hxd
  go_enter Tryz.func49, Tryz.ntmps49
  go_wp2_with fail
  go_loopg [2] ((U + 7) / 8) (fun rr s2 wr => ∃ (t q : Nat) (u' : Int) (S2 : DS), t + rr = (U + 7) / 8 ∧ q = 8 * t ∧ s2 = .int .i64 (q : Nat) ∧ Pw wr P.p P.a (-1) u' S2 ∧ u' ≤ u + (t : Int) ∧ FlP F S' S2 t ∧ Keeps [P.p, P.a.s, P.a.k, P.a.m] w wr)
  case atStart => exact ⟨0, 0, u, S', by omega, rfl, rfl, HPW.out, by omega, ⟨rfl, fun j h1 h2 => by omega⟩, Keeps.refl _ _⟩
  case round =>
    obtain ⟨t, q, u', S2, ht, hq, rfl, hP2, hu2, hFl, hK⟩ := hrel
    have hCx := HF2.out wr hK
    obtain ⟨x0, x1, x2, x3, x7, x8, x9⟩ := hCx
    have hfs := HFS.out
    by_cases hlt : q < U
    · have hqi : (q : Int) < (U : Int) := by omega
      have hqa : F + q < P.a.n := by omega
      have hq1 : (q : Int) ≤ 5000 := by omega
      have hub2 : u' < 4611686018427387904 := by have := HUB.out; omega
      have HFL : Hid (∀ w', Keeps [] wr w' → Calls Tryz.prog 70 #[ptr P.a.d, .int .i64 ((F + q : Nat) : Int)] w' fun e w'' => e = .returned (.int .i64 0) ∧ Hid (Pw w'' P.p P.a (-1) (u' + 1) (execs S2 [.fl (F + q)]) ∧ Keeps [P.p, P.a.s, P.a.k, P.a.m] w' w'')) := fun w' hk => by
        refine (flush_ran w' P.p P.a (-1) u' S2 (F + q) (hP2.keep0 hk) hqa hub2).mono ?_
        intro e w'' hr
        obtain ⟨h1, h2, h3⟩ := hr.free hP2.lo
        exact ⟨h1, by simpa using h2, h3⟩
      have HPq := hid (fun w' => HPL.out q w' (by omega))
      have HX : Hid (∀ w', Keeps [P.p, P.a.s, P.a.k, P.a.m] wr w' → (w'.cell? ⟨x, 0, none⟩ = some (ptr P.a.d) ∧ w'.cell? ⟨x, 1, none⟩ = some (.int .i64 P.c.log) ∧ w'.cell? ⟨x, 2, none⟩ = some (.int .i64 P.c.roots) ∧ w'.cell? ⟨x, 3, none⟩ = some (.int .i64 P.c.space) ∧ w'.cell? ⟨x, 7, none⟩ = some (.int .i64 ((1 - P.k : Nat) : Int)) ∧ w'.cell? ⟨x, 8, none⟩ = some (.int .i64 (U : Nat)) ∧ w'.cell? ⟨x, 9, none⟩ = some (.slice none 0 0))) := fun w' hk => HF2.out w' (hK.trans hk)
      have HE := hid (And.intro ht (And.intro hq (And.intro hu2 (And.intro hFl hK))))
      clear ht hq hP2 hu2 hFl hK hfs hqa hub2 hlt
      go_upto_region 3 with fail
      have kk : Keeps [] wr wr.drew := (Keeps.refl _ _).drew
      have kd : Keeps [P.p, P.a.s, P.a.k, P.a.m] wr wr.drew := (Keeps.refl _ _).drew
      go_region_held3 (fun w' => w'.cell? ⟨x, 0, none⟩ = some (ptr P.a.d) ∧ w'.cell? ⟨x, 1, none⟩ = some (.int .i64 P.c.log) ∧ w'.cell? ⟨x, 2, none⟩ = some (.int .i64 P.c.roots) ∧ w'.cell? ⟨x, 3, none⟩ = some (.int .i64 P.c.space) ∧ w'.cell? ⟨x, 7, none⟩ = some (.int .i64 ((1 - P.k : Nat) : Int)) ∧ w'.cell? ⟨x, 8, none⟩ = some (.int .i64 (U : Nat)) ∧ w'.cell? ⟨x, 9, none⟩ = some (.slice none 0 0))
        (exact HX.out _ kd)
        (first
          | (go_at_call 44; refine (HPq.out _).mono ?_; rintro e w' ⟨rfl, hk9⟩; have kk := kk.trans hk9; have kd := kk.mono (S' := [P.p, P.a.s, P.a.k, P.a.m]) (by simp); clear hk9)
          | (go_at_call 70; refine (HFL.out _ kk).mono ?_; rintro e w'' ⟨rfl, hx9⟩; have kd := kd.trans hx9.out.2))
      have HEN : Hid (Pw w'' P.p P.a (-1) (u' + 1) (execs S2 [.fl (F + q)]) ∧ FlP F S' (execs S2 [.fl (F + q)]) (t + 1) ∧ Keeps [P.p, P.a.s, P.a.k, P.a.m] w w'') := by
        have h1 := HE.out.2.2.2.1.next HFS.out.2.2.1
        rw [← HE.out.2.1] at h1
        exact ⟨hx9.out.1, h1, HE.out.2.2.2.2.trans kd⟩
      clear kd kk hx9 HFL HPq HX x0 x1 x2 x3 x7 x8 x9
      go_wp2_with fail
      go_roundg ((U + 7) / 8 - (t + 1))
      case measure => (have := HE.out; omega)
      case rel => exact ⟨t + 1, q + 8, u' + 1, _, by have := HE.out; omega, by have := HE.out; omega, by go_num, HEN.out.1, by have := HE.out; omega, HEN.out.2.1, HEN.out.2.2⟩
    · have hqi : (U : Int) ≤ (q : Int) := by omega
      have hub2 : u' < 4611686018427387904 := by have := HUB.out; omega
      have HFN : Hid (Calls Tryz.prog 71 #[ptr P.a.d] wr fun e w'' => e = .returned (.tuple #[]) ∧ Hid (Pw w'' P.p P.a (-1) (u' + 1) (execs S2 [.fe]) ∧ Keeps [P.p, P.a.s, P.a.k, P.a.m] wr w'')) := by
        refine (fence_ran wr P.p P.a (-1) u' S2 hP2 hub2).mono ?_
        intro e w'' hr
        obtain ⟨h1, h2, h3⟩ := hr.free hP2.lo
        exact ⟨h1, by simpa using h2, h3⟩
      have HE := hid (And.intro ht (And.intro hq (And.intro hu2 (And.intro hFl (And.intro hK hlt)))))
      clear ht hq hP2 hu2 hFl hK hfs hub2 hlt
      go_wp2_with fail
      refine HFN.out.mono ?_
      rintro e w2 ⟨rfl, hx9⟩
      have HEN : Hid (KpP P out u S' w (.returned (.tuple #[])) w2) := by
        obtain ⟨h1, h2, h3, h4, h5, h6⟩ := HE.out
        obtain ⟨g1, g2⟩ := h4.fence
        refine ⟨rfl, u' + 1, _, hx9.out.1, g1, fun j j1 j2 => g2 j ?_ ?_, ?_, h5.trans hx9.out.2⟩
        · have := HUF.out; omega
        · have := HUF.out; omega
        · have := HFS.out; have := HPS.out; omega
      clear hx9 HFN x0 x1 x2 x3 x7 x8 x9
      go_wp2_with fail
      go_end0
      exact HEN.out

end Go.Proofs.YtbalmmnggfgpkaaGreat

