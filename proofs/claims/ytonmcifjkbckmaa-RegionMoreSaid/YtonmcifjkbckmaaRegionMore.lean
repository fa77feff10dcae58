/- The walk of the law RegionMore. -/
import Derived.Test.YtonmcifjkbckmaaReg
import Derived.Deep.RegionHeld3
import Derived.Deep.DeepCutAuto
namespace Go.Proofs.Ytonmcifjkbckmaa
open Go.RowKit Go.OpenShut

theorem cell_alloc {w : World} {a : Addr} {v : Value} (h : w.cell? a = some v) (o : Obj) : (w.alloc o).cell? a = some v := by
  have hl : a.block < w.heap.size := by
    unfold World.cell? at h
    rcases Nat.lt_or_ge a.block w.heap.size with h1 | h1
    · exact h1
    · simp [Array.getElem?_eq_none h1] at h
  rw [← h]
  unfold World.cell?
  rw [Below.heap_alloc w o a.block hl]

theorem more_le {c d : Cfg} (_hc : c.Ok) (hd : d.Ok) (q1 : c.log ≤ d.log) (q2 : c.roots ≤ d.roots) (q3 : c.space ≤ d.space) :
    decide ((c.words : Int) ≤ (d.words : Int)) = true ∧ decide ((c.act : Int) ≤ (d.act : Int)) = true ∧ decide ((c.frm 0 : Int) ≤ (d.frm 0 : Int)) = true ∧ decide ((c.frm 1 : Int) ≤ (d.frm 1 : Int)) = true ∧
    decide ((d.space : Int) ≤ (d.frm 1 : Int) - (d.frm 0 : Int)) = true ∧ decide ((16 : Int) + 4 * (d.log : Int) ≤ (d.act : Int)) = true ∧ decide ((d.act : Int) + 2 + (d.roots : Int) ≤ (d.frm 0 : Int)) = true ∧ ((d.frm 1 : Int) ≤ 6000 ∧ (d.frm 0 : Int) ≤ 6000) ∧ (c.words ≤ d.words ∧ c.act ≤ d.act ∧ c.frm 0 ≤ d.frm 0 ∧ c.frm 1 ≤ d.frm 1 ∧ (16 : Int) + 4 * (d.log : Int) ≤ (d.act : Int) ∧ (d.act : Int) + 2 + (d.roots : Int) ≤ (d.frm 0 : Int)) := by
  have a1 : c.act ≤ d.act := up8_mono (by omega)
  have a2 : c.root c.roots ≤ d.root d.roots := by unfold Cfg.root; omega
  have a3 := up8_mono a2
  have a4 := up8_mono q3
  have a5 := (up8_le d.space).1
  have a5' := (up8_le d.space).2.1
  have a6 := (up8_le (16 + 4 * d.log)).1
  have a7 := up8_le (d.root d.roots)
  have a8 := act_le hd.small
  have a9 : d.root d.roots = d.act + 2 + d.roots := rfl
  obtain ⟨_, d2, _, _, _, d6⟩ := hd
  have e0 : ∀ x : Cfg, x.frm 0 = up8 (x.root x.roots) := fun x => by simp [Cfg.frm]
  have e1 : ∀ x : Cfg, x.frm 1 = up8 (x.root x.roots) + up8 x.space := fun x => by simp [Cfg.frm]
  have e2 : ∀ x : Cfg, x.words = up8 (x.root x.roots) + 2 * up8 x.space := fun x => rfl
  have e3 : d.act = up8 (16 + 4 * d.log) := rfl
  simp only [decide_eq_true_eq]
  rw [e0, e0, e1, e1, e2, e2]
  omega

/-- Behind the switch. -/
def Bigger (c : Cfg) (b7 b8 : Nat) (W wx : World) : Prop :=
  ∃ d : Cfg, d.Ok ∧ c.log ≤ d.log ∧ c.roots ≤ d.roots ∧ c.space ≤ d.space ∧ At wx b7 (cfgO c) ∧ At wx b8 (cfgO d) ∧ Keeps [] W wx

/-- Behind the two Makes. -/
def Twice (c : Cfg) (W : World) (s7 s8 : Value) (wx : World) : Prop :=
  ∃ b7 b8, s7 = ptr b7 ∧ s8 = ptr b8 ∧ b7 ≠ b8 ∧ W.heap.size ≤ b7 ∧ W.heap.size ≤ b8 ∧ At wx b7 (cfgO c) ∧ At wx b8 (cfgO c) ∧ Keeps [] W wx

set_option maxRecDepth 100000 in
set_option maxHeartbeats 40000000 in
theorem regionMore_walk0 (l r s : Nat) (k m : Nat) (hl : l ≤ 65535) (hr : r ≤ 65535) (hs : s ≤ 65535) (hk : k ≤ 255) (hm : m ≤ 255) (W : World) :
    Calls Try.prog 5 #[c3V l r s, .int .u8 k, .int .u8 m] W fun e w' => e = .returned (.bool true) ∧ Below W.heap.size W w' := by
  have hki : (k : Int) ≤ 255 := by omega
  go_enter Try.func5, Try.ntmps5
  go_wp2_with fail
  have hb := At.new W (.cells #[.int .u16 l, .int .u16 r, .int .u16 s] 30)
  have K0 := (Keeps.refl [] W).alloc (.cells #[.int .u16 l, .int .u16 r, .int .u16 s] 30)
  refine (awake3_any _).mono ?_
  rintro e w1 ⟨rfl, hb1⟩
  have K1 := K0.trans (Go.Proofs.Ytonmcifjkbckmaa.Below.keeps hb1 [])
  have hb1 := (Go.Proofs.Ytonmcifjkbckmaa.Below.keeps hb1 []).at hb (by simp)
  have c0 := hb1.cell 0 rfl
  have c1 := hb1.cell 1 rfl
  have c2 := hb1.cell 2 rfl
  have hz : W.heap.size < w1.heap.size := hb1.lt
  have d0 : w1.drew.cell? ⟨W.heap.size, 0, none⟩ = some (.int .u16 l) := hb1.drew.cell 0 rfl
  have d1 : w1.drew.cell? ⟨W.heap.size, 1, none⟩ = some (.int .u16 r) := hb1.drew.cell 1 rfl
  have d2 : w1.drew.cell? ⟨W.heap.size, 2, none⟩ = some (.int .u16 s) := hb1.drew.cell 2 rfl
  clear c0 c1 c2
  have c0 : w1.cell? ⟨W.heap.size, 0, none⟩ = some (.int .u16 l) := hb1.cell 0 rfl
  have c1 : w1.cell? ⟨W.heap.size, 1, none⟩ = some (.int .u16 r) := hb1.cell 1 rfl
  have c2 : w1.cell? ⟨W.heap.size, 2, none⟩ = some (.int .u16 s) := hb1.cell 2 rfl
  go_upto_region 3 with fail
  go_cut [7, 8] from 11 (fun s7 s8 wx => Twice (mk3 l r s) w1 s7 s8 wx)
  case first =>
    have HS : Hid (∀ w', Keeps [] w1 w' → (w'.cell? ⟨W.heap.size, 0, none⟩ = some (.int .u16 l) ∧ w'.cell? ⟨W.heap.size, 1, none⟩ = some (.int .u16 r) ∧ w'.cell? ⟨W.heap.size, 2, none⟩ = some (.int .u16 s) ∧ Keeps [] w1 w')) := fun w' hk => ⟨(hk.at hb1 (by simp)).cell 0 rfl, (hk.at hb1 (by simp)).cell 1 rfl, (hk.at hb1 (by simp)).cell 2 rfl, hk⟩
    clear c0 c1 c2 d0 d1 d2
    go_region_held3 (fun w' => w'.cell? ⟨W.heap.size, 0, none⟩ = some (.int .u16 l) ∧ w'.cell? ⟨W.heap.size, 1, none⟩ = some (.int .u16 r) ∧ w'.cell? ⟨W.heap.size, 2, none⟩ = some (.int .u16 s) ∧ Keeps [] w1 w')
      ((refine HS.out _ ?_; repeat' (first | exact Keeps.refl _ _ | refine Keeps.drew ?_ | refine Keeps.alloc ?_ _ | (refine Keeps.set ?_ (by right; simp; omega) _))))
      (first | (go_at_call 8; refine (make3_eq _ l r s hl hr hs).mono ?_; rintro e w' ⟨rfl, rfl⟩))
    all_goals
      go_wp2_with fail
      go_meet
      refine ⟨_, _, rfl, rfl, ?_, ?_, ?_, ?_, ?_, ?_⟩
      · first | omega | (simp; omega)
      · first | omega | (simp; omega)
      · first | omega | (simp; omega)
      · refine At.drew ?_
        repeat' (first | (refine At.newk ?_; simp; done) | refine At.alloc ?_ _)
      · refine At.drew ?_
        repeat' (first | (refine At.newk ?_; simp; done) | refine At.alloc ?_ _)
      · repeat' (first | exact Keeps.refl _ _ | refine Keeps.drew ?_ | refine Keeps.alloc ?_ _)
  case rest =>
    obtain ⟨b7, b8, rfl, rfl, n78, z7, z8, h7, h8, k1⟩ := hcut
    have ho := mk3_ok l r s
    have hlim : (mk3 l r s).log ≤ 19 ∧ (mk3 l r s).roots ≤ 6 ∧ (mk3 l r s).space ≤ 97 := by unfold mk3; simp only; omega
    obtain ⟨c, hc⟩ : ∃ c, c = mk3 l r s := ⟨_, rfl⟩
    rw [← hc] at h7 h8 ho hlim
    clear hc
    have f0 : wc.cell? ⟨b8, 0, none⟩ = some (.int .i64 c.log) := h8.cell 0 rfl
    have f1 : wc.cell? ⟨b8, 1, none⟩ = some (.int .i64 c.roots) := h8.cell 1 rfl
    have f2 : wc.cell? ⟨b8, 2, none⟩ = some (.int .i64 c.space) := h8.cell 2 rfl
    have g0 := h8.free 0
    have g1 := h8.free 1
    have g2 := h8.free 2
    have hso := ho
    obtain ⟨o1, o2, o3, o4, o5, o6⟩ := ho
    have i1 : (c.log : Int) ≤ 200 := by omega
    have i2 : (c.roots : Int) ≤ 16 := by omega
    have i3 : (c.space : Int) ≤ 4096 := by omega
    have hmm : (m : Int) ≤ 255 := by omega
    clear d0 d1 d2 c0 c1 c2
    rcases (by omega : (k : Int) % 3 = 0 ∨ (k : Int) % 3 = 1 ∨ (k : Int) % 3 = 2) with hk3 | hk3 | hk3
    · have t0 : ((k : Int) % 3 == 0) = true := by rw [beq_iff_eq]; exact hk3
      go_wp2_with fail
      obtain ⟨d, hd, q1, q2, q3, hS8⟩ : ∃ d : Cfg, d.Ok ∧ c.log ≤ d.log ∧ c.roots ≤ d.roots ∧ c.space ≤ d.space ∧ At (wc.setCell ⟨b8, 0, none⟩ (.int .i64 (c.log + (m : Int) % 20))) b8 (cfgO d) := by
        refine ⟨⟨c.log + m % 20, c.roots, c.space⟩, by unfold Cfg.Ok; simp only; omega, by simp, by simp, by simp, ?_⟩
        have := (h8.set 0 (.int .i64 (c.log + (m : Int) % 20)))
        simpa [cfgO] using this
      have hS7 := (h7.set_ne (a := ⟨b8, 0, none⟩) n78 (.int .i64 (c.log + (m : Int) % 20)))
      have kS := (k1.set (p := ⟨b8, 0, none⟩) (.inr z8) (.int .i64 (c.log + (m : Int) % 20)))
      obtain ⟨wS, hwS⟩ : ∃ wS, wS = (wc.setCell ⟨b8, 0, none⟩ (.int .i64 (c.log + (m : Int) % 20))) := ⟨_, rfl⟩
      rw [← hwS] at hS8 hS7 kS ⊢
      clear hwS
      clear f0 f1 f2 g0 g1 g2 t0 hk3 h7 h8 k1 hb hb1 K0 hz
      have M := hid (more_le hso hd q1 q2 q3)
      have HS : Hid (∀ w', Keeps [] wS w' → w'.cell? ⟨b7, 0, none⟩ = some (.int .i64 c.log) ∧ w'.cell? ⟨b7, 1, none⟩ = some (.int .i64 c.roots) ∧ w'.cell? ⟨b7, 2, none⟩ = some (.int .i64 c.space) ∧ w'.cell? ⟨b8, 0, none⟩ = some (.int .i64 d.log) ∧ w'.cell? ⟨b8, 1, none⟩ = some (.int .i64 d.roots) ∧ w'.cell? ⟨b8, 2, none⟩ = some (.int .i64 d.space)) := fun w' hk => ⟨(hk.at hS7 (by simp)).cell 0 rfl, (hk.at hS7 (by simp)).cell 1 rfl, (hk.at hS7 (by simp)).cell 2 rfl, (hk.at hS8 (by simp)).cell 0 rfl, (hk.at hS8 (by simp)).cell 1 rfl, (hk.at hS8 (by simp)).cell 2 rfl⟩
      have kk : Keeps [] wS wS.drew := (Keeps.refl _ _).drew
      obtain ⟨m1, m2, m3, m4, m5, m6, m7, m8, n1, n2, n3, n4, n5, n6⟩ := M.out
      have ew : IntKind.i64.wrap ((d.frm 1 : Int) - (d.frm 0 : Int)) = (d.frm 1 : Int) - (d.frm 0 : Int) := IntWalk.i64_in _ (by omega)
      have sc := hso.small
      have sd := hd.small
      have dl : (d.log : Int) ≤ 200 := by have := sd.2.1; omega
      have dr : (d.roots : Int) ≤ 16 := by have := sd.1; omega
      clear M hS7 hS8 o1 o2 o3 o4 o5 o6 i1 i2 i3 hmm hki hlim hso q1 q2 q3
      go_region_held3 (fun w' => w'.cell? ⟨b7, 0, none⟩ = some (.int .i64 c.log) ∧ w'.cell? ⟨b7, 1, none⟩ = some (.int .i64 c.roots) ∧ w'.cell? ⟨b7, 2, none⟩ = some (.int .i64 c.space) ∧ w'.cell? ⟨b8, 0, none⟩ = some (.int .i64 d.log) ∧ w'.cell? ⟨b8, 1, none⟩ = some (.int .i64 d.roots) ∧ w'.cell? ⟨b8, 2, none⟩ = some (.int .i64 d.space))
        (exact HS.out _ kk)
        (first
          | (go_at_call 7; refine (check_ok _ _ (by assumption)).mono ?_; rintro e w' ⟨rfl, hk⟩; have kk := kk.trans hk; clear hk)
          | (go_at_call 13; refine (cwords_at _ _ (by assumption)).mono ?_; rintro e w' ⟨rfl, hk⟩; have kk := kk.trans hk; clear hk)
          | (go_at_call 10; refine (active_at _ _ (by assumption)).mono ?_; rintro e w' ⟨rfl, hk⟩; have kk := kk.trans hk; clear hk)
          | (go_at_call 9; refine (recordI_at _ _ _ _ _ (by omega)).mono ?_; rintro e w' ⟨rfl, hk⟩; have kk := kk.trans hk; clear hk)
          | (go_at_call 11; refine (rootI_at _ _ (by assumption) _ (by omega)).mono ?_; rintro e w' ⟨rfl, hk⟩; have kk := kk.trans hk; clear hk)
          | (go_at_call 12; refine (fromI_at _ _ (by assumption) _ (by omega)).mono ?_; rintro e w' ⟨rfl, hk⟩; have kk := kk.trans hk; clear hk))
      go_wp2
      go_ret
      exact ⟨rfl, ((K1.trans kS).trans kk).below (Nat.le_refl _) (by simp)⟩
    · have t0 : ((k : Int) % 3 == 0) = false := by rw [beq_eq_false_iff_ne]; omega
      have t1 : ((k : Int) % 3 == 1) = true := by rw [beq_iff_eq]; exact hk3
      go_wp2_with fail
      obtain ⟨d, hd, q1, q2, q3, hS8⟩ : ∃ d : Cfg, d.Ok ∧ c.log ≤ d.log ∧ c.roots ≤ d.roots ∧ c.space ≤ d.space ∧ At ((wc.setCell ⟨b8, 1, none⟩ (.int .i64 (c.roots + (m : Int) % 3))).setCell ⟨b8, 0, none⟩ (.int .i64 (c.log + (m : Int) % 3))) b8 (cfgO d) := by
        refine ⟨⟨c.log + m % 3, c.roots + m % 3, c.space⟩, by unfold Cfg.Ok; simp only; omega, by simp, by simp, by simp, ?_⟩
        have := ((h8.set 1 (.int .i64 (c.roots + (m : Int) % 3))).set 0 (.int .i64 (c.log + (m : Int) % 3)))
        simpa [cfgO] using this
      have hS7 := ((h7.set_ne (a := ⟨b8, 1, none⟩) n78 (.int .i64 (c.roots + (m : Int) % 3))).set_ne (a := ⟨b8, 0, none⟩) n78 (.int .i64 (c.log + (m : Int) % 3)))
      have kS := ((k1.set (p := ⟨b8, 1, none⟩) (.inr z8) (.int .i64 (c.roots + (m : Int) % 3))).set (p := ⟨b8, 0, none⟩) (.inr z8) (.int .i64 (c.log + (m : Int) % 3)))
      obtain ⟨wS, hwS⟩ : ∃ wS, wS = ((wc.setCell ⟨b8, 1, none⟩ (.int .i64 (c.roots + (m : Int) % 3))).setCell ⟨b8, 0, none⟩ (.int .i64 (c.log + (m : Int) % 3))) := ⟨_, rfl⟩
      rw [← hwS] at hS8 hS7 kS ⊢
      clear hwS
      clear f0 f1 f2 g0 g1 g2 t0 hk3 h7 h8 k1 hb hb1 K0 hz
      have M := hid (more_le hso hd q1 q2 q3)
      have HS : Hid (∀ w', Keeps [] wS w' → w'.cell? ⟨b7, 0, none⟩ = some (.int .i64 c.log) ∧ w'.cell? ⟨b7, 1, none⟩ = some (.int .i64 c.roots) ∧ w'.cell? ⟨b7, 2, none⟩ = some (.int .i64 c.space) ∧ w'.cell? ⟨b8, 0, none⟩ = some (.int .i64 d.log) ∧ w'.cell? ⟨b8, 1, none⟩ = some (.int .i64 d.roots) ∧ w'.cell? ⟨b8, 2, none⟩ = some (.int .i64 d.space)) := fun w' hk => ⟨(hk.at hS7 (by simp)).cell 0 rfl, (hk.at hS7 (by simp)).cell 1 rfl, (hk.at hS7 (by simp)).cell 2 rfl, (hk.at hS8 (by simp)).cell 0 rfl, (hk.at hS8 (by simp)).cell 1 rfl, (hk.at hS8 (by simp)).cell 2 rfl⟩
      have kk : Keeps [] wS wS.drew := (Keeps.refl _ _).drew
      obtain ⟨m1, m2, m3, m4, m5, m6, m7, m8, n1, n2, n3, n4, n5, n6⟩ := M.out
      have ew : IntKind.i64.wrap ((d.frm 1 : Int) - (d.frm 0 : Int)) = (d.frm 1 : Int) - (d.frm 0 : Int) := IntWalk.i64_in _ (by omega)
      have sc := hso.small
      have sd := hd.small
      have dl : (d.log : Int) ≤ 200 := by have := sd.2.1; omega
      have dr : (d.roots : Int) ≤ 16 := by have := sd.1; omega
      clear M hS7 hS8 o1 o2 o3 o4 o5 o6 i1 i2 i3 hmm hki hlim hso q1 q2 q3
      go_region_held3 (fun w' => w'.cell? ⟨b7, 0, none⟩ = some (.int .i64 c.log) ∧ w'.cell? ⟨b7, 1, none⟩ = some (.int .i64 c.roots) ∧ w'.cell? ⟨b7, 2, none⟩ = some (.int .i64 c.space) ∧ w'.cell? ⟨b8, 0, none⟩ = some (.int .i64 d.log) ∧ w'.cell? ⟨b8, 1, none⟩ = some (.int .i64 d.roots) ∧ w'.cell? ⟨b8, 2, none⟩ = some (.int .i64 d.space))
        (exact HS.out _ kk)
        (first
          | (go_at_call 7; refine (check_ok _ _ (by assumption)).mono ?_; rintro e w' ⟨rfl, hk⟩; have kk := kk.trans hk; clear hk)
          | (go_at_call 13; refine (cwords_at _ _ (by assumption)).mono ?_; rintro e w' ⟨rfl, hk⟩; have kk := kk.trans hk; clear hk)
          | (go_at_call 10; refine (active_at _ _ (by assumption)).mono ?_; rintro e w' ⟨rfl, hk⟩; have kk := kk.trans hk; clear hk)
          | (go_at_call 9; refine (recordI_at _ _ _ _ _ (by omega)).mono ?_; rintro e w' ⟨rfl, hk⟩; have kk := kk.trans hk; clear hk)
          | (go_at_call 11; refine (rootI_at _ _ (by assumption) _ (by omega)).mono ?_; rintro e w' ⟨rfl, hk⟩; have kk := kk.trans hk; clear hk)
          | (go_at_call 12; refine (fromI_at _ _ (by assumption) _ (by omega)).mono ?_; rintro e w' ⟨rfl, hk⟩; have kk := kk.trans hk; clear hk))
      go_wp2
      go_ret
      exact ⟨rfl, ((K1.trans kS).trans kk).below (Nat.le_refl _) (by simp)⟩
    · have t0 : ((k : Int) % 3 == 0) = false := by rw [beq_eq_false_iff_ne]; omega
      have t1 : ((k : Int) % 3 == 1) = false := by rw [beq_eq_false_iff_ne]; omega
      go_wp2_with fail
      obtain ⟨d, hd, q1, q2, q3, hS8⟩ : ∃ d : Cfg, d.Ok ∧ c.log ≤ d.log ∧ c.roots ≤ d.roots ∧ c.space ≤ d.space ∧ At (wc.setCell ⟨b8, 2, none⟩ (.int .i64 (c.space + (m : Int)))) b8 (cfgO d) := by
        refine ⟨⟨c.log, c.roots, c.space + m⟩, by unfold Cfg.Ok; simp only; omega, by simp, by simp, by simp, ?_⟩
        have := (h8.set 2 (.int .i64 (c.space + (m : Int))))
        simpa [cfgO] using this
      have hS7 := (h7.set_ne (a := ⟨b8, 2, none⟩) n78 (.int .i64 (c.space + (m : Int))))
      have kS := (k1.set (p := ⟨b8, 2, none⟩) (.inr z8) (.int .i64 (c.space + (m : Int))))
      obtain ⟨wS, hwS⟩ : ∃ wS, wS = (wc.setCell ⟨b8, 2, none⟩ (.int .i64 (c.space + (m : Int)))) := ⟨_, rfl⟩
      rw [← hwS] at hS8 hS7 kS ⊢
      clear hwS
      clear f0 f1 f2 g0 g1 g2 t0 hk3 h7 h8 k1 hb hb1 K0 hz
      have M := hid (more_le hso hd q1 q2 q3)
      have HS : Hid (∀ w', Keeps [] wS w' → w'.cell? ⟨b7, 0, none⟩ = some (.int .i64 c.log) ∧ w'.cell? ⟨b7, 1, none⟩ = some (.int .i64 c.roots) ∧ w'.cell? ⟨b7, 2, none⟩ = some (.int .i64 c.space) ∧ w'.cell? ⟨b8, 0, none⟩ = some (.int .i64 d.log) ∧ w'.cell? ⟨b8, 1, none⟩ = some (.int .i64 d.roots) ∧ w'.cell? ⟨b8, 2, none⟩ = some (.int .i64 d.space)) := fun w' hk => ⟨(hk.at hS7 (by simp)).cell 0 rfl, (hk.at hS7 (by simp)).cell 1 rfl, (hk.at hS7 (by simp)).cell 2 rfl, (hk.at hS8 (by simp)).cell 0 rfl, (hk.at hS8 (by simp)).cell 1 rfl, (hk.at hS8 (by simp)).cell 2 rfl⟩
      have kk : Keeps [] wS wS.drew := (Keeps.refl _ _).drew
      obtain ⟨m1, m2, m3, m4, m5, m6, m7, m8, n1, n2, n3, n4, n5, n6⟩ := M.out
      have ew : IntKind.i64.wrap ((d.frm 1 : Int) - (d.frm 0 : Int)) = (d.frm 1 : Int) - (d.frm 0 : Int) := IntWalk.i64_in _ (by omega)
      have sc := hso.small
      have sd := hd.small
      have dl : (d.log : Int) ≤ 200 := by have := sd.2.1; omega
      have dr : (d.roots : Int) ≤ 16 := by have := sd.1; omega
      clear M hS7 hS8 o1 o2 o3 o4 o5 o6 i1 i2 i3 hmm hki hlim hso q1 q2 q3
      go_region_held3 (fun w' => w'.cell? ⟨b7, 0, none⟩ = some (.int .i64 c.log) ∧ w'.cell? ⟨b7, 1, none⟩ = some (.int .i64 c.roots) ∧ w'.cell? ⟨b7, 2, none⟩ = some (.int .i64 c.space) ∧ w'.cell? ⟨b8, 0, none⟩ = some (.int .i64 d.log) ∧ w'.cell? ⟨b8, 1, none⟩ = some (.int .i64 d.roots) ∧ w'.cell? ⟨b8, 2, none⟩ = some (.int .i64 d.space))
        (exact HS.out _ kk)
        (first
          | (go_at_call 7; refine (check_ok _ _ (by assumption)).mono ?_; rintro e w' ⟨rfl, hk⟩; have kk := kk.trans hk; clear hk)
          | (go_at_call 13; refine (cwords_at _ _ (by assumption)).mono ?_; rintro e w' ⟨rfl, hk⟩; have kk := kk.trans hk; clear hk)
          | (go_at_call 10; refine (active_at _ _ (by assumption)).mono ?_; rintro e w' ⟨rfl, hk⟩; have kk := kk.trans hk; clear hk)
          | (go_at_call 9; refine (recordI_at _ _ _ _ _ (by omega)).mono ?_; rintro e w' ⟨rfl, hk⟩; have kk := kk.trans hk; clear hk)
          | (go_at_call 11; refine (rootI_at _ _ (by assumption) _ (by omega)).mono ?_; rintro e w' ⟨rfl, hk⟩; have kk := kk.trans hk; clear hk)
          | (go_at_call 12; refine (fromI_at _ _ (by assumption) _ (by omega)).mono ?_; rintro e w' ⟨rfl, hk⟩; have kk := kk.trans hk; clear hk))
      go_wp2
      go_ret
      exact ⟨rfl, ((K1.trans kS).trans kk).below (Nat.le_refl _) (by simp)⟩


theorem regionMore_walk (l r s : Int) (k m : Int) (W : World) (wl : (Lit.int .u16 l).wf = true) (wr : (Lit.int .u16 r).wf = true) (ws : (Lit.int .u16 s).wf = true) (wk : (Lit.int .u8 k).wf = true) (wm : (Lit.int .u8 m).wf = true) :
    Calls Try.prog 5 #[.agg #[.int .u16 l, .int .u16 r, .int .u16 s], .int .u8 k, .int .u8 m] W fun e w' => e = .returned (.bool true) ∧ Below W.heap.size W w' := by
  obtain ⟨l, rfl, hl⟩ := c3_open wl
  obtain ⟨r, rfl, hr⟩ := c3_open wr
  obtain ⟨s, rfl, hs⟩ := c3_open ws
  obtain ⟨hk0, hk⟩ := bounds_u8 wk
  obtain ⟨hm0, hm⟩ := bounds_u8 wm
  obtain ⟨k, rfl⟩ : ∃ n : Nat, (n : Int) = k := ⟨k.toNat, by omega⟩
  obtain ⟨m, rfl⟩ : ∃ n : Nat, (n : Int) = m := ⟨m.toNat, by omega⟩
  exact regionMore_walk0 l r s k m hl hr hs (by omega) (by omega) W

end Go.Proofs.Ytonmcifjkbckmaa
