/- The walk of the law RegionApart. -/
import Derived.Test.YtonmcifjkbckmaaReg
import Derived.Deep.RegionHeld3
import Derived.Deep.DeepCutAuto
namespace Go.Proofs.Ytonmcifjkbckmaa
open Go.RowKit Go.OpenShut

theorem bounds_le {c : Cfg} (hc : c.Ok) : (c.frm 0 : Int) ≤ 6000 ∧ (c.frm 1 : Int) ≤ 6000 ∧ (c.space : Int) ≤ 4096 ∧ (c.act : Int) ≤ 6000 := by
  have a5 := (up8_le c.space).2.1
  have a7 := up8_le (c.root c.roots)
  have a8 := act_le hc.small
  have a9 : c.root c.roots = c.act + 2 + c.roots := rfl
  obtain ⟨_, d2, _, _, _, d6⟩ := hc
  have e0 : c.frm 0 = up8 (c.root c.roots) := by simp [Cfg.frm]
  have e1 : c.frm 1 = up8 (c.root c.roots) + up8 c.space := by simp [Cfg.frm]
  omega

/-- The rows that the law makes. -/
def rowsV (c : Cfg) : Nat → Int
  | 0 => 0 | 1 => 4 | 2 => 8 | 3 => 9 | 4 => 16 | 5 => 16 + 4 * (c.log : Int) | 6 => c.act | 7 => (c.act : Int) + 2 + c.roots
  | 8 => c.frm 0 | 9 => (c.frm 0 : Int) + c.space | 10 => c.frm 1 | 11 => (c.frm 1 : Int) + c.space | _ => 0

abbrev rowO (v : Nat → Int) : Obj := .cells #[.int .i64 (v 0), .int .i64 (v 1), .int .i64 (v 2), .int .i64 (v 3), .int .i64 (v 4), .int .i64 (v 5), .int .i64 (v 6), .int .i64 (v 7), .int .i64 (v 8), .int .i64 (v 9), .int .i64 (v 10), .int .i64 (v 11)] 32

/-- They begin lines, have words, come behind one another. -/
structure Rows6 (v : Nat → Int) : Prop where
  line : ∀ x, x < 6 → v (2 * x) % 8 = 0
  some : ∀ x, x < 6 → v (2 * x) < v (2 * x + 1)
  next : ∀ x, x < 5 → v (2 * x + 1) ≤ v (2 * x + 2)
  low : ∀ x, x < 12 → 0 ≤ v x ∧ v x ≤ 20000

theorem rows_of {c : Cfg} (hc : c.Ok) : Rows6 (rowsV c) ∧ rowsV c 11 ≤ c.words := by
  have a4 := up8_le (16 + 4 * c.log)
  have a5 := up8_le c.space
  have a7 := up8_le (c.root c.roots)
  have a8 := act_le hc.small
  have a9 : c.root c.roots = c.act + 2 + c.roots := rfl
  have a10 : c.act = up8 (16 + 4 * c.log) := rfl
  obtain ⟨d1, d2, d3, d4, d5, d6⟩ := hc
  have e0 : c.frm 0 = up8 (c.root c.roots) := by simp [Cfg.frm]
  have e1 : c.frm 1 = up8 (c.root c.roots) + up8 c.space := by simp [Cfg.frm]
  have e2 : c.words = up8 (c.root c.roots) + 2 * up8 c.space := rfl
  refine ⟨⟨fun x hx => ?_, fun x hx => ?_, fun x hx => ?_, fun x hx => ?_⟩, ?_⟩
  · rcases (by omega : x = 0 ∨ x = 1 ∨ x = 2 ∨ x = 3 ∨ x = 4 ∨ x = 5) with rfl | rfl | rfl | rfl | rfl | rfl <;> simp only [rowsV] <;> omega
  · rcases (by omega : x = 0 ∨ x = 1 ∨ x = 2 ∨ x = 3 ∨ x = 4 ∨ x = 5) with rfl | rfl | rfl | rfl | rfl | rfl <;> simp only [rowsV] <;> omega
  · rcases (by omega : x = 0 ∨ x = 1 ∨ x = 2 ∨ x = 3 ∨ x = 4) with rfl | rfl | rfl | rfl | rfl <;> simp only [rowsV] <;> omega
  · rcases (by omega : x = 0 ∨ x = 1 ∨ x = 2 ∨ x = 3 ∨ x = 4 ∨ x = 5 ∨ x = 6 ∨ x = 7 ∨ x = 8 ∨ x = 9 ∨ x = 10 ∨ x = 11) with rfl | rfl | rfl | rfl | rfl | rfl | rfl | rfl | rfl | rfl | rfl | rfl <;> simp only [rowsV] <;> omega
  · simp only [rowsV]; omega

theorem words_line (c : Cfg) : (c.words : Int) % 8 = 0 := by
  have a5 := up8_le c.space
  have a7 := up8_le (c.root c.roots)
  have e2 : c.words = up8 (c.root c.roots) + 2 * up8 c.space := rfl
  omega

theorem wrap_plus {x y : Int} (h0 : 0 ≤ x ∧ x ≤ 6000) (h1 : 0 ≤ y ∧ y ≤ 6000) : IntKind.i64.wrap (x + y) = x + y := IntWalk.i64_in _ (by omega)

set_option maxRecDepth 100000 in
set_option maxHeartbeats 4000000 in
theorem regionApart_walk0 (l r s : Nat) (hl : l ≤ 65535) (hr : r ≤ 65535) (hs : s ≤ 65535) (W : World) :
    Calls Try.prog 4 #[c3V l r s] W fun e w' => e = .returned (.bool true) ∧ Below W.heap.size W w' := by
  go_enter Try.func4, Try.ntmps4
  go_wp2_with fail
  have hb := At.new W (.cells #[.int .u16 l, .int .u16 r, .int .u16 s] 30)
  have K0 := (Keeps.refl [] W).alloc (.cells #[.int .u16 l, .int .u16 r, .int .u16 s] 30)
  refine (awake3_any _).mono ?_
  rintro e w1 ⟨rfl, hb1⟩
  have K1 := K0.trans (Go.Proofs.Ytonmcifjkbckmaa.Below.keeps hb1 [])
  have hB1 := (Go.Proofs.Ytonmcifjkbckmaa.Below.keeps hb1 []).at hb (by simp)
  have c0 : w1.cell? ⟨W.heap.size, 0, none⟩ = some (.int .u16 l) := hB1.cell 0 rfl
  have c1 : w1.cell? ⟨W.heap.size, 1, none⟩ = some (.int .u16 r) := hB1.cell 1 rfl
  have c2 : w1.cell? ⟨W.heap.size, 2, none⟩ = some (.int .u16 s) := hB1.cell 2 rfl
  clear hb1 hb K0
  go_wp2_with fail
  refine (make3_at _ l r s hl hr hs).mono ?_
  rintro e w2 ⟨rfl, hK2⟩
  have K2 := K1.trans hK2
  clear c0 c1 c2 hB1 hK2 K1
  have ho := mk3_ok l r s
  obtain ⟨c, hc⟩ : ∃ c, c = mk3 l r s := ⟨_, rfl⟩
  rw [← hc] at ho ⊢
  clear hc
  go_wp2_with fail
  have hb := At.new w2 (.cells #[.int .i64 c.log, .int .i64 c.roots, .int .i64 c.space] 25)
  have K3 := K2.alloc (.cells #[.int .i64 c.log, .int .i64 c.roots, .int .i64 c.space] 25)
  obtain ⟨w3, hw3⟩ : ∃ w3, w3 = w2.alloc (.cells #[.int .i64 c.log, .int .i64 c.roots, .int .i64 c.space] 25) := ⟨_, rfl⟩
  rw [← hw3] at hb K3 ⊢
  clear hw3
  have HS : Hid (∀ w', Keeps [] w3 w' → w'.cell? ⟨w2.heap.size, 0, none⟩ = some (.int .i64 c.log) ∧ w'.cell? ⟨w2.heap.size, 1, none⟩ = some (.int .i64 c.roots) ∧ w'.cell? ⟨w2.heap.size, 2, none⟩ = some (.int .i64 c.space)) := fun w' hk => ⟨(hk.at hb (by simp)).cell 0 rfl, (hk.at hb (by simp)).cell 1 rfl, (hk.at hb (by simp)).cell 2 rfl⟩
  have kk : Keeps [] w3 w3.drew := (Keeps.refl _ _).drew
  obtain ⟨m0, m1, m2, m3⟩ : (c.frm 0 : Int) ≤ 6000 ∧ (c.frm 1 : Int) ≤ 6000 ∧ (c.space : Int) ≤ 4096 ∧ (c.act : Int) ≤ 6000 := bounds_le ho
  have hsm := ho.small
  have hl1 : (c.log : Int) ≤ 200 := by have := hsm.2.1; omega
  have hl2 : (c.roots : Int) ≤ 16 := by have := hsm.1; omega
  have hO := ho
  have ew0 : IntKind.i64.wrap ((c.frm 0 : Int) + (c.space : Int)) = (c.frm 0 : Int) + (c.space : Int) := wrap_plus (by omega) (by omega)
  have ew1 : IntKind.i64.wrap ((c.frm 1 : Int) + (c.space : Int)) = (c.frm 1 : Int) + (c.space : Int) := wrap_plus (by omega) (by omega)
  clear hb K2 ho
  go_region_held3 (fun w' => w'.cell? ⟨w2.heap.size, 0, none⟩ = some (.int .i64 c.log) ∧ w'.cell? ⟨w2.heap.size, 1, none⟩ = some (.int .i64 c.roots) ∧ w'.cell? ⟨w2.heap.size, 2, none⟩ = some (.int .i64 c.space))
    (first | exact HS.out _ kk | exact HS.out _ (kk.alloc _))
    (first
      | (go_at_call 9; refine (recordI_at _ _ _ _ _ (by omega)).mono ?_; rintro e w' ⟨rfl, hk⟩; have kk := kk.trans hk; clear hk)
      | (go_at_call 10; refine (active_at _ _ (by assumption)).mono ?_; rintro e w' ⟨rfl, hk⟩; have kk := kk.trans hk; clear hk)
      | (go_at_call 11; refine (rootI_at _ _ (by assumption) _ (by omega)).mono ?_; rintro e w' ⟨rfl, hk⟩; have kk := kk.trans hk; clear hk)
      | (go_at_call 12; refine (fromI_at _ _ (by assumption) _ (by omega)).mono ?_; rintro e w' ⟨rfl, hk⟩; have kk := kk.trans hk; clear hk))
  have hRV := rows_of hO
  have KR := kk.alloc (.cells #[.int .i64 0, .int .i64 4, .int .i64 8, .int .i64 9, .int .i64 16, .int .i64 (16 + 4 * (c.log : Int)), .int .i64 (c.act : Int), .int .i64 ((c.act : Int) + 2 + (c.roots : Int)), .int .i64 (c.frm 0 : Int), .int .i64 ((c.frm 0 : Int) + (c.space : Int)), .int .i64 (c.frm 1 : Int), .int .i64 ((c.frm 1 : Int) + (c.space : Int))] 32)
  obtain ⟨wS, hwS⟩ : ∃ wS, wS = w'.alloc (.cells #[.int .i64 0, .int .i64 4, .int .i64 8, .int .i64 9, .int .i64 16, .int .i64 (16 + 4 * (c.log : Int)), .int .i64 (c.act : Int), .int .i64 ((c.act : Int) + 2 + (c.roots : Int)), .int .i64 (c.frm 0 : Int), .int .i64 ((c.frm 0 : Int) + (c.space : Int)), .int .i64 (c.frm 1 : Int), .int .i64 ((c.frm 1 : Int) + (c.space : Int))] 32) := ⟨_, rfl⟩
  obtain ⟨v, hv⟩ : ∃ v, v = rowsV c := ⟨_, rfl⟩
  have hR : At wS w'.heap.size (rowO v) := by rw [hwS, hv]; exact At.new _ _
  rw [← hv] at hRV
  rw [← hwS] at KR
  obtain ⟨rb, hrb⟩ : ∃ rb, rb = w'.heap.size := ⟨_, rfl⟩
  rw [← hrb] at hR
  have zR : w3.heap.size ≤ rb := by rw [hrb]; exact kk.size
  have RV := hid hRV.1
  have RV11 := hid hRV.2
  clear hRV hv
  rw [← hwS, ← hrb]
  clear hwS hrb
  go_wp2_with fail
  go_loopg [46] 6 (fun r s wr => ∃ x : Nat, x + r = 6 ∧ s = .int .i64 x ∧ At wr rb (rowO v) ∧ Keeps [] w3 wr)
  case atStart => exact ⟨0, by omega, rfl, hR, KR⟩
  case round =>
    obtain ⟨x, hx, rfl, hc, hKr⟩ := hrel
    by_cases hlt : x < 6
    · obtain ⟨y, hy⟩ : ∃ y : Int, (x : Int) = y := ⟨_, rfl⟩
      rw [hy]
      rcases (by omega : x = 0 ∨ x = 1 ∨ x = 2 ∨ x = 3 ∨ x = 4 ∨ x = 5) with rfl | rfl | rfl | rfl | rfl | rfl
      · obtain rfl : y = 0 := by omega
        clear hy
        have d0 : wr.cell? ⟨rb, 0, none⟩ = some (.int .i64 (v 0)) := hc.cell 0 rfl
        have d1 : wr.cell? ⟨rb, 1, none⟩ = some (.int .i64 (v 1)) := hc.cell 1 rfl
        have e1 : v 0 % 8 = 0 := RV.out.line 0 (by omega)
        have e2 : decide (v 1 ≤ v 0) = false := by have := RV.out.some 0 (by omega); rw [decide_eq_false_iff_not]; simp at this; omega
        have e0 : 0 ≤ v 0 := (RV.out.low 0 (by omega)).1
        have e4 : (v 0).tmod 8 = 0 := by rw [Int.tmod_eq_emod_of_nonneg e0]; exact e1
        go_wp2_with fail
        have hB := At.new wr (.cells #[.int .i64 (v 0), .int .i64 (v 1)] 32)
        have hK2 := hKr.alloc (.cells #[.int .i64 (v 0), .int .i64 (v 1)] 32)
        have hc2 := hc.alloc (.cells #[.int .i64 (v 0), .int .i64 (v 1)] 32)
        have n2 := hc.lt
        obtain ⟨wq, hwq⟩ : ∃ wq, wq = wr.alloc (.cells #[.int .i64 (v 0), .int .i64 (v 1)] 32) := ⟨_, rfl⟩
        rw [← hwq] at hB hK2 hc2 ⊢
        clear hwq d0 d1 hc hKr
        have y0 : wq.cell? ⟨wr.heap.size, 0, none⟩ = some (.int .i64 (v 0)) := hB.cell 0 rfl
        have y1 : wq.cell? ⟨wr.heap.size, 1, none⟩ = some (.int .i64 (v 1)) := hB.cell 1 rfl
        go_region
        go_wp2_with fail
        go_roundg 5
        case measure => omega
        case rel => exact ⟨1, by omega, by go_num, hc2.drew, hK2.drew⟩
      · obtain rfl : y = 1 := by omega
        clear hy
        have d2 : wr.cell? ⟨rb, 2, none⟩ = some (.int .i64 (v 2)) := hc.cell 2 rfl
        have d3 : wr.cell? ⟨rb, 3, none⟩ = some (.int .i64 (v 3)) := hc.cell 3 rfl
        have e1 : v 2 % 8 = 0 := RV.out.line 1 (by omega)
        have e2 : decide (v 3 ≤ v 2) = false := by have := RV.out.some 1 (by omega); rw [decide_eq_false_iff_not]; simp at this; omega
        have e0 : 0 ≤ v 2 := (RV.out.low 2 (by omega)).1
        have e4 : (v 2).tmod 8 = 0 := by rw [Int.tmod_eq_emod_of_nonneg e0]; exact e1
        have e3 : decide (v 2 < v 1) = false := by have := RV.out.next 0 (by omega); rw [decide_eq_false_iff_not]; simp at this; omega
        go_wp2_with fail
        have hB := At.new wr (.cells #[.int .i64 (v 2), .int .i64 (v 3)] 32)
        have hK2 := hKr.alloc (.cells #[.int .i64 (v 2), .int .i64 (v 3)] 32)
        have hc2 := hc.alloc (.cells #[.int .i64 (v 2), .int .i64 (v 3)] 32)
        have n2 := hc.lt
        obtain ⟨wq, hwq⟩ : ∃ wq, wq = wr.alloc (.cells #[.int .i64 (v 2), .int .i64 (v 3)] 32) := ⟨_, rfl⟩
        rw [← hwq] at hB hK2 hc2 ⊢
        clear hwq d2 d3 hc hKr
        have y0 : wq.cell? ⟨wr.heap.size, 0, none⟩ = some (.int .i64 (v 2)) := hB.cell 0 rfl
        have y1 : wq.cell? ⟨wr.heap.size, 1, none⟩ = some (.int .i64 (v 3)) := hB.cell 1 rfl
        have y2 : wq.cell? ⟨rb, 1, none⟩ = some (.int .i64 (v 1)) := hc2.cell 1 rfl
        go_region
        go_wp2_with fail
        go_roundg 4
        case measure => omega
        case rel => exact ⟨2, by omega, by go_num, hc2.drew, hK2.drew⟩
      · obtain rfl : y = 2 := by omega
        clear hy
        have d4 : wr.cell? ⟨rb, 4, none⟩ = some (.int .i64 (v 4)) := hc.cell 4 rfl
        have d5 : wr.cell? ⟨rb, 5, none⟩ = some (.int .i64 (v 5)) := hc.cell 5 rfl
        have e1 : v 4 % 8 = 0 := RV.out.line 2 (by omega)
        have e2 : decide (v 5 ≤ v 4) = false := by have := RV.out.some 2 (by omega); rw [decide_eq_false_iff_not]; simp at this; omega
        have e0 : 0 ≤ v 4 := (RV.out.low 4 (by omega)).1
        have e4 : (v 4).tmod 8 = 0 := by rw [Int.tmod_eq_emod_of_nonneg e0]; exact e1
        have e3 : decide (v 4 < v 3) = false := by have := RV.out.next 1 (by omega); rw [decide_eq_false_iff_not]; simp at this; omega
        go_wp2_with fail
        have hB := At.new wr (.cells #[.int .i64 (v 4), .int .i64 (v 5)] 32)
        have hK2 := hKr.alloc (.cells #[.int .i64 (v 4), .int .i64 (v 5)] 32)
        have hc2 := hc.alloc (.cells #[.int .i64 (v 4), .int .i64 (v 5)] 32)
        have n2 := hc.lt
        obtain ⟨wq, hwq⟩ : ∃ wq, wq = wr.alloc (.cells #[.int .i64 (v 4), .int .i64 (v 5)] 32) := ⟨_, rfl⟩
        rw [← hwq] at hB hK2 hc2 ⊢
        clear hwq d4 d5 hc hKr
        have y0 : wq.cell? ⟨wr.heap.size, 0, none⟩ = some (.int .i64 (v 4)) := hB.cell 0 rfl
        have y1 : wq.cell? ⟨wr.heap.size, 1, none⟩ = some (.int .i64 (v 5)) := hB.cell 1 rfl
        have y2 : wq.cell? ⟨rb, 3, none⟩ = some (.int .i64 (v 3)) := hc2.cell 3 rfl
        go_region
        go_wp2_with fail
        go_roundg 3
        case measure => omega
        case rel => exact ⟨3, by omega, by go_num, hc2.drew, hK2.drew⟩
      · obtain rfl : y = 3 := by omega
        clear hy
        have d6 : wr.cell? ⟨rb, 6, none⟩ = some (.int .i64 (v 6)) := hc.cell 6 rfl
        have d7 : wr.cell? ⟨rb, 7, none⟩ = some (.int .i64 (v 7)) := hc.cell 7 rfl
        have e1 : v 6 % 8 = 0 := RV.out.line 3 (by omega)
        have e2 : decide (v 7 ≤ v 6) = false := by have := RV.out.some 3 (by omega); rw [decide_eq_false_iff_not]; simp at this; omega
        have e0 : 0 ≤ v 6 := (RV.out.low 6 (by omega)).1
        have e4 : (v 6).tmod 8 = 0 := by rw [Int.tmod_eq_emod_of_nonneg e0]; exact e1
        have e3 : decide (v 6 < v 5) = false := by have := RV.out.next 2 (by omega); rw [decide_eq_false_iff_not]; simp at this; omega
        go_wp2_with fail
        have hB := At.new wr (.cells #[.int .i64 (v 6), .int .i64 (v 7)] 32)
        have hK2 := hKr.alloc (.cells #[.int .i64 (v 6), .int .i64 (v 7)] 32)
        have hc2 := hc.alloc (.cells #[.int .i64 (v 6), .int .i64 (v 7)] 32)
        have n2 := hc.lt
        obtain ⟨wq, hwq⟩ : ∃ wq, wq = wr.alloc (.cells #[.int .i64 (v 6), .int .i64 (v 7)] 32) := ⟨_, rfl⟩
        rw [← hwq] at hB hK2 hc2 ⊢
        clear hwq d6 d7 hc hKr
        have y0 : wq.cell? ⟨wr.heap.size, 0, none⟩ = some (.int .i64 (v 6)) := hB.cell 0 rfl
        have y1 : wq.cell? ⟨wr.heap.size, 1, none⟩ = some (.int .i64 (v 7)) := hB.cell 1 rfl
        have y2 : wq.cell? ⟨rb, 5, none⟩ = some (.int .i64 (v 5)) := hc2.cell 5 rfl
        go_region
        go_wp2_with fail
        go_roundg 2
        case measure => omega
        case rel => exact ⟨4, by omega, by go_num, hc2.drew, hK2.drew⟩
      · obtain rfl : y = 4 := by omega
        clear hy
        have d8 : wr.cell? ⟨rb, 8, none⟩ = some (.int .i64 (v 8)) := hc.cell 8 rfl
        have d9 : wr.cell? ⟨rb, 9, none⟩ = some (.int .i64 (v 9)) := hc.cell 9 rfl
        have e1 : v 8 % 8 = 0 := RV.out.line 4 (by omega)
        have e2 : decide (v 9 ≤ v 8) = false := by have := RV.out.some 4 (by omega); rw [decide_eq_false_iff_not]; simp at this; omega
        have e0 : 0 ≤ v 8 := (RV.out.low 8 (by omega)).1
        have e4 : (v 8).tmod 8 = 0 := by rw [Int.tmod_eq_emod_of_nonneg e0]; exact e1
        have e3 : decide (v 8 < v 7) = false := by have := RV.out.next 3 (by omega); rw [decide_eq_false_iff_not]; simp at this; omega
        go_wp2_with fail
        have hB := At.new wr (.cells #[.int .i64 (v 8), .int .i64 (v 9)] 32)
        have hK2 := hKr.alloc (.cells #[.int .i64 (v 8), .int .i64 (v 9)] 32)
        have hc2 := hc.alloc (.cells #[.int .i64 (v 8), .int .i64 (v 9)] 32)
        have n2 := hc.lt
        obtain ⟨wq, hwq⟩ : ∃ wq, wq = wr.alloc (.cells #[.int .i64 (v 8), .int .i64 (v 9)] 32) := ⟨_, rfl⟩
        rw [← hwq] at hB hK2 hc2 ⊢
        clear hwq d8 d9 hc hKr
        have y0 : wq.cell? ⟨wr.heap.size, 0, none⟩ = some (.int .i64 (v 8)) := hB.cell 0 rfl
        have y1 : wq.cell? ⟨wr.heap.size, 1, none⟩ = some (.int .i64 (v 9)) := hB.cell 1 rfl
        have y2 : wq.cell? ⟨rb, 7, none⟩ = some (.int .i64 (v 7)) := hc2.cell 7 rfl
        go_region
        go_wp2_with fail
        go_roundg 1
        case measure => omega
        case rel => exact ⟨5, by omega, by go_num, hc2.drew, hK2.drew⟩
      · obtain rfl : y = 5 := by omega
        clear hy
        have d10 : wr.cell? ⟨rb, 10, none⟩ = some (.int .i64 (v 10)) := hc.cell 10 rfl
        have d11 : wr.cell? ⟨rb, 11, none⟩ = some (.int .i64 (v 11)) := hc.cell 11 rfl
        have e1 : v 10 % 8 = 0 := RV.out.line 5 (by omega)
        have e2 : decide (v 11 ≤ v 10) = false := by have := RV.out.some 5 (by omega); rw [decide_eq_false_iff_not]; simp at this; omega
        have e0 : 0 ≤ v 10 := (RV.out.low 10 (by omega)).1
        have e4 : (v 10).tmod 8 = 0 := by rw [Int.tmod_eq_emod_of_nonneg e0]; exact e1
        have e3 : decide (v 10 < v 9) = false := by have := RV.out.next 4 (by omega); rw [decide_eq_false_iff_not]; simp at this; omega
        go_wp2_with fail
        have hB := At.new wr (.cells #[.int .i64 (v 10), .int .i64 (v 11)] 32)
        have hK2 := hKr.alloc (.cells #[.int .i64 (v 10), .int .i64 (v 11)] 32)
        have hc2 := hc.alloc (.cells #[.int .i64 (v 10), .int .i64 (v 11)] 32)
        have n2 := hc.lt
        obtain ⟨wq, hwq⟩ : ∃ wq, wq = wr.alloc (.cells #[.int .i64 (v 10), .int .i64 (v 11)] 32) := ⟨_, rfl⟩
        rw [← hwq] at hB hK2 hc2 ⊢
        clear hwq d10 d11 hc hKr
        have y0 : wq.cell? ⟨wr.heap.size, 0, none⟩ = some (.int .i64 (v 10)) := hB.cell 0 rfl
        have y1 : wq.cell? ⟨wr.heap.size, 1, none⟩ = some (.int .i64 (v 11)) := hB.cell 1 rfl
        have y2 : wq.cell? ⟨rb, 9, none⟩ = some (.int .i64 (v 9)) := hc2.cell 9 rfl
        go_region
        go_wp2_with fail
        go_roundg 0
        case measure => omega
        case rel => exact ⟨6, by omega, by go_num, hc2.drew, hK2.drew⟩
    · obtain rfl : x = 6 := by omega
      go_wp2_with fail
      have HU : Hid (∀ w', Keeps [] wr w' → w'.cell? ⟨w2.heap.size, 0, none⟩ = some (.int .i64 c.log) ∧ w'.cell? ⟨w2.heap.size, 1, none⟩ = some (.int .i64 c.roots) ∧ w'.cell? ⟨w2.heap.size, 2, none⟩ = some (.int .i64 c.space) ∧ w'.cell? ⟨rb, 11, none⟩ = some (.int .i64 (v 11))) := fun w' hk => ⟨(HS.out _ (hKr.trans hk)).1, (HS.out _ (hKr.trans hk)).2.1, (HS.out _ (hKr.trans hk)).2.2, (hk.at hc (by simp)).cell 11 rfl⟩
      have kk : Keeps [] wr wr.drew := (Keeps.refl _ _).drew
      have q1 : decide (v 11 ≤ (c.words : Int)) = true := by simpa using RV11.out
      have q1' : v 11 ≤ (c.words : Int) := RV11.out
      have q2 : (c.words : Int) % 8 = 0 := words_line c
      have q2' : (c.words : Int).tmod 8 = 0 := by rw [Int.tmod_eq_emod_of_nonneg (by omega)]; exact q2
      have q2n : c.words % 8 = 0 := by omega
      have q3 : decide ((c.act : Int) < (c.act : Int) + 1) = true := by rw [decide_eq_true_eq]; omega
      have q4 : decide ((c.act : Int) + 1 < (c.act : Int) + 2) = true := by rw [decide_eq_true_eq]; omega
      have q5 : (c.act : Int) < (c.act : Int) + 1 := by omega
      have q6 : (c.act : Int) + 1 < (c.act : Int) + 2 := by omega
      have q7 : c.act < c.act + 1 := by omega
      have q8 : c.act + 1 < c.act + 2 := by omega
      go_region_held3 (fun w' => w'.cell? ⟨w2.heap.size, 0, none⟩ = some (.int .i64 c.log) ∧ w'.cell? ⟨w2.heap.size, 1, none⟩ = some (.int .i64 c.roots) ∧ w'.cell? ⟨w2.heap.size, 2, none⟩ = some (.int .i64 c.space) ∧ w'.cell? ⟨rb, 11, none⟩ = some (.int .i64 (v 11)))
        (exact HU.out _ kk)
        (first
          | (go_at_call 13; refine (cwords_at _ _ (by assumption)).mono ?_; rintro e w' ⟨rfl, hk⟩; have kk := kk.trans hk; clear hk)
          | (go_at_call 10; refine (active_at _ _ (by assumption)).mono ?_; rintro e w' ⟨rfl, hk⟩; have kk := kk.trans hk; clear hk)
          | (go_at_call 14; refine (usedw_at _ _ (by assumption)).mono ?_; rintro e w' ⟨rfl, hk⟩; have kk := kk.trans hk; clear hk)
          | (go_at_call 11; refine (rootI_at _ _ (by assumption) _ (by omega)).mono ?_; rintro e w' ⟨rfl, hk⟩; have kk := kk.trans hk; clear hk))
      go_wp2
      go_ret
      exact ⟨rfl, ((K3.trans hKr).trans kk).below (Nat.le_refl _) (by simp)⟩


theorem regionApart_walk (l r s : Int) (W : World) (wl : (Lit.int .u16 l).wf = true) (wr : (Lit.int .u16 r).wf = true) (ws : (Lit.int .u16 s).wf = true) :
    Calls Try.prog 4 #[.agg #[.int .u16 l, .int .u16 r, .int .u16 s]] W fun e w' => e = .returned (.bool true) ∧ Below W.heap.size W w' := by
  obtain ⟨l, rfl, hl⟩ := c3_open wl
  obtain ⟨r, rfl, hr⟩ := c3_open wr
  obtain ⟨s, rfl, hs⟩ := c3_open ws
  exact regionApart_walk0 l r s hl hr hs W

end Go.Proofs.Ytonmcifjkbckmaa
