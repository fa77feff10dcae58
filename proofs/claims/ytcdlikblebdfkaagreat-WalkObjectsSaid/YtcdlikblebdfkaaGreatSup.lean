/- What a device is: Format's steps, Read's answers. -/
import Derived.Test.YtcdlikblebdfkaaGreatStep
import Derived.Test.YtcdlikblebdfkaaGreatReg
import Derived.Deep.RegionHeld3
import Derived.Deep.DeepCutAuto
namespace Go.Proofs.YtcdlikblebdfkaaGreat
open Go.RowKit Go.OpenShut

/-- The first word of each. -/
def magicI : Int := 6076848300954571569

def markL (v : Int) : List Cmd := [Cmd.st 0 v, .fl 0, .fe]

def numC (c : Cfg) (i : Nat) : Int := if i = 0 then c.log else if i = 1 then c.roots else c.space

def layA (c : Cfg) : Nat → Cmd := fun i => .st (1 + i) (numC c i)
def layR : Nat → Cmd := fun i => .st (16 + 4 * i) 0
def layT (c : Cfg) : Nat → Cmd := fun i => .st (c.root i) 0
def layL (c : Cfg) : List Cmd := ((((rowL (layA c) 3 ++ [Cmd.st 8 1]) ++ rowL layR c.log) ++ [Cmd.st c.act 0]) ++ [Cmd.st (c.act + 1) 0]) ++ rowL (layT c) c.roots
def keepF : Nat → Cmd := fun k => .fl (8 * k)
def keepL (L : Nat) : List Cmd := rowL keepF L ++ [Cmd.fe]
def fmtL (c : Cfg) (L : Nat) : List Cmd := markL 0 ++ (layL c ++ (keepL L ++ markL magicI))

theorem layL_len (c : Cfg) : (layL c).length = 6 + c.log + c.roots := by
  simp [layL, rowL_len]; omega
theorem keepL_len (L : Nat) : (keepL L).length = L + 1 := by simp [keepL, rowL_len]
theorem fmtL_len (c : Cfg) (L : Nat) : (fmtL c L).length = 13 + c.log + c.roots + L := by
  simp only [fmtL, List.length_append, layL_len, keepL_len]
  simp [markL]; omega

set_option maxHeartbeats 400000 in
/-- mark: the first word, kept. -/
theorem mark_ran (w : World) (p : Nat) (a : DA) (l u : Int) (S : DS) (v : Int) (h : Pw w p a l u S) (hn : 0 < a.n) (hb : u < 4611686018427387000) :
    Calls Tryz.prog 54 #[ptr a.d, .int .u64 v] w (Ran p a l u S (markL v) (.tuple #[]) w) := by
  have h0 := h.lo
  go_enter Tryz.func54, Tryz.ntmps54
  go_wp2_with fail
  refine (store_ran w p a l u S 0 v h hn (by omega)).mono ?_
  rintro e w1 (⟨rfl, h1, k1⟩ | ⟨rfl, ⟨S', c1, h1⟩, k1⟩)
  · go_wp2_with fail
    refine (flush_ran w1 p a l _ _ 0 h1 hn (by simp; omega)).mono ?_
    rintro e w2 (⟨rfl, h2, k2⟩ | ⟨rfl, ⟨S', c2, h2⟩, k2⟩)
    · go_wp2_with fail
      refine (fence_ran w2 p a l _ _ h2 (by simp; omega)).mono ?_
      rintro e w3 (⟨rfl, h3, k3⟩ | ⟨rfl, ⟨S', c3, h3⟩, k3⟩)
      · go_wp2_with fail
        go_end0
        exact ran_end h3 (by simp [markL]; omega) rfl ((k1.trans k2).trans k3)
      · exact ⟨rfl, ran_cut h3 (Cut.right (A := [Cmd.st 0 v, .fl 0]) (B := [Cmd.fe]) c3 (by simp; omega) rfl) ((k1.trans k2).trans k3)⟩
    · exact ⟨rfl, ran_cut h2 ((Cut.right (A := [Cmd.st 0 v]) (B := [Cmd.fl 0]) c2 (by simp) rfl).left [Cmd.fe]) (k1.trans k2)⟩
  · exact ⟨rfl, ran_cut h1 (c1.left [Cmd.fl 0, .fe]) k1⟩

set_option maxHeartbeats 400000 in
/-- keep: all lines, kept. -/
theorem keep_ran (w : World) (p : Nat) (a : DA) (l u : Int) (S : DS) (h : Pw w p a l u S) (hb : u < 4611686018427380000 ∧ a.L ≤ 2000) :
    Calls Tryz.prog 56 #[ptr a.d] w (Ran p a l u S (keepL a.L) (.tuple #[]) w) := by
  have h0 := h.lo
  have hn8 := a.n8
  have HN8 := hid hn8
  clear hn8
  go_enter Tryz.func56, Tryz.ntmps56
  go_wp2_with fail
  go_loopg [2] a.L (fun r s wr => ∃ i q : Nat, i + r = a.L ∧ q = 8 * i ∧ s = .int .i64 (q : Int) ∧ Pw wr p a l (u + (i : Int)) (execs S (rowL keepF i)) ∧ Keeps [p, a.s, a.k, a.m] w wr)
  case atStart => exact ⟨0, 0, by omega, rfl, rfl, by simpa [rowL_zero, execs_nil] using h, Keeps.refl _ _⟩
  case round =>
    obtain ⟨i, q, hi, hq, rfl, hP, hK⟩ := hrel
    have HL := hid (len_at wr p a _ hP.dev)
    have hq1 : (q : Int) ≤ 16000 := by omega
    by_cases hlt : i < a.L
    · have hqn : q < a.n := by rw [HN8.out]; omega
      have t0 : decide (q < a.n) = true := by rw [decide_eq_true_eq]; exact hqn
      have t1 : decide ((q : Int) < (a.n : Int)) = true := by rw [decide_eq_true_eq]; omega
      have HF := hid (flush_ran wr p a l _ _ q hP hqn (by omega))
      have HQ := hid hq
      clear hq
      go_wp2_with fail
      refine HL.out.mono ?_
      rintro e w1 ⟨rfl, rfl⟩
      go_wp2_with fail
      refine HF.out.mono ?_
      rintro e w2 (⟨rfl, h2, k2⟩ | ⟨rfl, ⟨S', c2, h2⟩, k2⟩)
      · go_wp2_with fail
        go_roundg (a.L - (i + 1))
        case measure => omega
        case rel =>
          refine ⟨i + 1, q + 8, by omega, by have := HQ.out; omega, by go_num, ?_, hK.trans k2⟩
          have h3 := h2
          rw [← execs_append, HQ.out] at h3
          have e : rowL keepF (i + 1) = rowL keepF i ++ [Cmd.fl (8 * i)] := rowL_succ _ _
          rw [e]
          simpa [Int.add_assoc] using h3
      · refine ⟨rfl, ran_cut h2 ?_ (hK.trans k2)⟩
        rw [HQ.out] at c2
        exact (Cut.row (f := keepF) c2 hlt).left [Cmd.fe]
    · have hiL : i = a.L := by omega
      subst hiL
      have hqn : q = a.n := by rw [HN8.out]; omega
      have t0 : decide (q < a.n) = false := by rw [decide_eq_false_iff_not]; omega
      have t1 : decide ((q : Int) < (a.n : Int)) = false := by rw [decide_eq_false_iff_not]; omega
      have HF := hid (fence_ran wr p a l _ _ hP (by omega))
      clear hqn hq hi
      go_wp2_with fail
      refine HL.out.mono ?_
      rintro e w1 ⟨rfl, rfl⟩
      go_wp2_with fail
      refine HF.out.mono ?_
      rintro e w2 (⟨rfl, h2, k2⟩ | ⟨rfl, ⟨S', c2, h2⟩, k2⟩)
      · go_wp2_with fail
        go_end0
        refine ran_end h2 ?_ ?_ (hK.trans k2)
        · rw [keepL_len]; simp; omega
        · rw [keepL, execs_append]
      · exact ⟨rfl, ran_cut h2 (Cut.right (A := rowL keepF a.L) (B := [Cmd.fe]) c2 (by rw [rowL_len]) rfl) (hK.trans k2)⟩


abbrev num3V (l r s : Int) : Value := .agg #[.int .u64 l, .int .u64 r, .int .u64 s]
abbrev num3O (l r s : Int) : Obj := .cells #[.int .u64 l, .int .u64 r, .int .u64 s] 111

set_option maxHeartbeats 400000 in
theorem numbersOf_at (w : World) (c : Cfg) (h : c.Small) :
    Calls Tryz.prog 62 #[cfgV c] w fun e w' => e = .returned (num3V c.log c.roots c.space) ∧ Keeps [] w w' := by
  obtain ⟨h1, h2, h3⟩ := h
  go_enter Tryz.func62, Tryz.ntmps62
  go_wp2
  refine bodyPost_ret (v := num3V c.log c.roots c.space) ?_ rfl ?_
  · simp [results, Tryz.results62, go_sem]
  · exact ⟨rfl, by repeat' (first | exact Keeps.refl _ _ | refine Keeps.set ?_ (.inr (by simp)) _ | refine Keeps.alloc ?_ _)⟩

set_option maxHeartbeats 400000 in
/-- Does a config fit? None that may not be. -/
theorem fits_never (w : World) (p : Nat) (a : DA) (S : DS) (l r s : Int) (_h : Dev w p a S) (hc : cfgB l r s = false) :
    Calls Tryz.prog 53 #[ptr a.d, cfgI l r s] w fun e w' => e = .returned (.bool false) ∧ Keeps [] w w' := by
  have H := hid (check_any (w.alloc (.cells #[.int .i64 l, .int .i64 r, .int .i64 s] 30)) l r s)
  have E : Hid (chkE l r s = 1) := by show _ = _; simp [chkE, hc]
  clear hc
  go_enter Tryz.func53, Tryz.ntmps53
  go_wp2_with fail
  refine H.out.mono ?_
  rintro e w1 ⟨rfl, hK⟩
  rw [E.out]
  go_wp2_with fail
  go_ret
  exact ⟨rfl, ((Keeps.refl _ _).alloc _).trans hK⟩

set_option maxHeartbeats 400000 in
theorem fits_at (w : World) (p : Nat) (a : DA) (S : DS) (c : Cfg) (h : Dev w p a S) (hc : c.Ok) :
    Calls Tryz.prog 53 #[ptr a.d, cfgV c] w fun e w' => e = .returned (.bool ((c.words : Int) == (a.n : Int))) ∧ Keeps [] w w' := by
  have H := hid (check_ok (w.alloc (cfgO c)) c hc)
  go_enter Tryz.func53, Tryz.ntmps53
  go_wp2_with fail
  refine H.out.mono ?_
  rintro e w1 ⟨rfl, hK⟩
  have hb1 := hK.at (At.new w (cfgO c)) (by simp)
  have K1 := ((Keeps.refl [] w).alloc (cfgO c)).trans hK
  have hD1 := h.keep K1 (by simp) (by simp) (by simp) (by simp)
  have c0 := hb1.cell 0 rfl
  have c1 := hb1.cell 1 rfl
  have c2 := hb1.cell 2 rfl
  clear hK
  go_wp2_with fail
  refine (cwords_at w1 c hc.small).mono ?_
  rintro e w2 ⟨rfl, hK2⟩
  have hD2 := hD1.keep hK2 (by simp) (by simp) (by simp) (by simp)
  go_wp2_with fail
  refine (len_at w2 p a S hD2).mono ?_
  rintro e w3 ⟨rfl, rfl⟩
  go_wp2_with fail
  go_ret
  exact ⟨rfl, K1.trans hK2⟩

/-- A config whose words are the device's. -/
theorem fits_yes (w : World) (p : Nat) (a : DA) (S : DS) (c : Cfg) (h : Dev w p a S) (hc : c.Ok) (hn : c.words = a.n) :
    Calls Tryz.prog 53 #[ptr a.d, cfgV c] w fun e w' => e = .returned (.bool true) ∧ Keeps [] w w' := by
  refine (fits_at w p a S c h hc).mono ?_
  rintro e w' ⟨rfl, hk⟩
  exact ⟨by rw [hn]; simp, hk⟩

/-- What numbers fit a device of n words. -/
def fitsB (l r s : Int) (n : Nat) : Bool := cfgB l r s && decide ((Cfg.mk l.toNat r.toNat s.toNat).words = n)

theorem cfgB_ok {l r s : Int} (h : cfgB l r s = true) : (Cfg.mk l.toNat r.toNat s.toNat).Ok ∧ cfgV (Cfg.mk l.toNat r.toNat s.toNat) = cfgI l r s := by
  simp [cfgB] at h
  refine ⟨by unfold Cfg.Ok; simp only; omega, ?_⟩
  have e1 : ((l.toNat : Nat) : Int) = l := by omega
  have e2 : ((r.toNat : Nat) : Int) = r := by omega
  have e3 : ((s.toNat : Nat) : Int) = s := by omega
  simp only [cfgV, e1, e2, e3]

theorem fits_any (w : World) (p : Nat) (a : DA) (S : DS) (l r s : Int) (h : Dev w p a S) :
    Calls Tryz.prog 53 #[ptr a.d, cfgI l r s] w fun e w' => e = .returned (.bool (fitsB l r s a.n)) ∧ Keeps [] w w' := by
  unfold fitsB
  by_cases hc : cfgB l r s = true
  · obtain ⟨h1, h2⟩ := cfgB_ok hc
    rw [← h2, hc]
    refine (fits_at w p a S _ h h1).mono ?_
    rintro e w' ⟨rfl, hk⟩
    refine ⟨?_, hk⟩
    congr 2
    rw [Bool.eq_iff_iff]
    simp
    omega
  · rw [Bool.not_eq_true] at hc
    rw [hc]
    exact fits_never w p a S l r s h hc

set_option maxRecDepth 100000 in
set_option maxHeartbeats 4000000 in
/-- lay: a new heap's words stand. -/
theorem lay_ran (w : World) (p : Nat) (a : DA) (l u : Int) (S : DS) (c : Cfg) (h : Pw w p a l u S) (hc : c.Ok) (hn : c.words = a.n) (hb : u < 4611686018427380000) :
    Calls Tryz.prog 55 #[ptr a.d, cfgV c] w (Ran p a l u S (layL c) (.tuple #[]) w) := by
  have hs := hc.small
  have g0 := act_le hs
  have g1 : 16 + 4 * c.log ≤ c.act := (up8_le (16 + 4 * c.log)).1
  have g2 : c.act + 2 + c.roots ≤ c.frm 0 := by
    have := (up8_le (c.root c.roots)).1
    have e0 : c.frm 0 = up8 (c.root c.roots) := by simp [Cfg.frm]
    have e1 : c.root c.roots = c.act + 2 + c.roots := rfl
    omega
  have g3 : c.frm 0 + 16 ≤ a.n := by
    have := (up8_le c.space).1
    have e0 : c.frm 0 = up8 (c.root c.roots) := by simp [Cfg.frm]
    have e2 : c.words = up8 (c.root c.roots) + 2 * up8 c.space := rfl
    have := hc.2.2.2.2.1
    omega
  have o := hc
  obtain ⟨o1, o2, o3, o4, o5, o6⟩ := o
  have HN := hid hn
  clear hn
  have hlt := h.dev.fresh (Nat.le_refl w.heap.size)
  have hp0 := h.pow.lt
  have hq : w.heap.size ∉ [p, a.s, a.k, a.m] := by simp; omega
  clear hlt hp0
  go_enter Tryz.func55, Tryz.ntmps55
  go_wp2_with fail
  have hB0 := At.new w (cfgO c)
  have K0 := (Keeps.refl [p, a.s, a.k, a.m] w).alloc (cfgO c)
  refine (numbersOf_at _ c hs).mono ?_
  rintro e w1 ⟨rfl, hk⟩
  have hB1 := hk.at hB0 (by simp)
  have K1 := K0.trans (hk.mono (by simp))
  have h1 := (h.keep0 ((Keeps.refl [] w).alloc (cfgO c))).keep0 hk
  clear K0 hB0 hk
  go_wp2_with fail
  go_loopg [10] 3 (fun r s wr => ∃ i : Nat, ∃ z : Int, i + r = 3 ∧ z = i ∧ s = .int .i64 z ∧ Pw wr p a l (u + (i : Int)) (execs S (rowL (layA c) i)) ∧ Keeps [p, a.s, a.k, a.m] w1 wr)
  case atStart => exact ⟨0, 0, by omega, rfl, rfl, by simpa [rowL_zero, execs_nil] using h1, Keeps.refl _ _⟩
  case round =>
    obtain ⟨i, z, hi, hz, rfl, hP, hK⟩ := hrel
    rcases (by omega : i = 0 ∨ i = 1 ∨ i = 2 ∨ i = 3) with rfl | rfl | rfl | rfl
    · obtain rfl : z = 0 := by omega
      have HI := hid hi
      clear hz hi
      have i0 : ∀ w : World, (Instr.index 111 (num3V c.log c.roots c.space) (.int .i64 0)).run Tryz.prog w = .ok (.int .u64 c.log) w := fun _ => by kernel_rfl
      go_wp2_with fail
      refine (store_ran wr p a l _ _ 1 (numC c 0) hP (by omega) (by omega)).mono ?_
      rintro e w2 (⟨rfl, h2, k2⟩ | ⟨rfl, ⟨S', c2, h2⟩, k2⟩)
      · go_wp2_with fail
        go_roundg 2
        case measure => have := HI.out; omega
        case rel =>
          refine ⟨1, 1, by omega, rfl, rfl, ?_, hK.trans k2⟩
          exact Pw.row (f := layA c) (i := 0) h2
      · exact ⟨rfl, ran_cut h2 (((((Cut.row (f := layA c) (i := 0) (n := 3) c2 (by omega)).left _).left _).left _).left _ |>.left _) (K1.trans (hK.trans k2))⟩
    · obtain rfl : z = 1 := by omega
      have HI := hid hi
      clear hz hi
      have i0 : ∀ w : World, (Instr.index 111 (num3V c.log c.roots c.space) (.int .i64 1)).run Tryz.prog w = .ok (.int .u64 c.roots) w := fun _ => by kernel_rfl
      go_wp2_with fail
      refine (store_ran wr p a l _ _ 2 (numC c 1) hP (by omega) (by omega)).mono ?_
      rintro e w2 (⟨rfl, h2, k2⟩ | ⟨rfl, ⟨S', c2, h2⟩, k2⟩)
      · go_wp2_with fail
        go_roundg 1
        case measure => have := HI.out; omega
        case rel =>
          refine ⟨2, 2, by omega, rfl, rfl, ?_, hK.trans k2⟩
          exact Pw.row (f := layA c) (i := 1) h2
      · exact ⟨rfl, ran_cut h2 (((((Cut.row (f := layA c) (i := 1) (n := 3) c2 (by omega)).left _).left _).left _).left _ |>.left _) (K1.trans (hK.trans k2))⟩
    · obtain rfl : z = 2 := by omega
      have HI := hid hi
      clear hz hi
      have i0 : ∀ w : World, (Instr.index 111 (num3V c.log c.roots c.space) (.int .i64 2)).run Tryz.prog w = .ok (.int .u64 c.space) w := fun _ => by kernel_rfl
      go_wp2_with fail
      refine (store_ran wr p a l _ _ 3 (numC c 2) hP (by omega) (by omega)).mono ?_
      rintro e w2 (⟨rfl, h2, k2⟩ | ⟨rfl, ⟨S', c2, h2⟩, k2⟩)
      · go_wp2_with fail
        go_roundg 0
        case measure => have := HI.out; omega
        case rel =>
          refine ⟨3, 3, by omega, rfl, rfl, ?_, hK.trans k2⟩
          exact Pw.row (f := layA c) (i := 2) h2
      · exact ⟨rfl, ran_cut h2 (((((Cut.row (f := layA c) (i := 2) (n := 3) c2 (by omega)).left _).left _).left _).left _ |>.left _) (K1.trans (hK.trans k2))⟩
    · obtain rfl : z = 3 := by omega
      have HI := hid hi
      clear hz hi
      have hB2 := hK.at hB1 hq
      have K2 := K1.trans hK
      go_wp2_with fail
      refine (store_ran wr p a l _ _ 8 1 hP (by omega) (by omega)).mono ?_
      rintro e w2 (⟨rfl, h2, k2⟩ | ⟨rfl, ⟨S', c2, h2⟩, k2⟩)
      rotate_left
      · exact ⟨rfl, ran_cut h2 ((((Cut.right (A := rowL (layA c) 3) c2 (by rw [rowL_len]) rfl).left _).left _).left _ |>.left _) (K2.trans k2)⟩
      have h3 : Pw w2 p a l (u + ((rowL (layA c) 3 ++ [Cmd.st 8 1]).length : Int)) (execs S (rowL (layA c) 3 ++ [Cmd.st 8 1])) := Pw.app (A := rowL (layA c) 3) (B := [Cmd.st 8 1]) (by rw [rowL_len]; exact h2)
      have K3 := K2.trans k2
      have hB3 := k2.at hB2 hq
      have l3 : (rowL (layA c) 3 ++ [Cmd.st 8 1]).length = 4 := by simp [rowL_len]
      obtain ⟨P, hP3⟩ : ∃ P, P = rowL (layA c) 3 ++ [Cmd.st 8 1] := ⟨_, rfl⟩
      rw [← hP3] at h3 l3
      have HP3 := hid hP3
      have L3 := hid l3
      clear hP3 l3 h2 k2 K2 hB2 hP hK
      have c0 := hB3.cell 0 rfl
      have c1 := hB3.cell 1 rfl
      have c2 := hB3.cell 2 rfl
      go_wp2_with fail
      clear c0 c1 c2
      go_loopg [24] c.log (fun r s wr => ∃ i : Nat, i + r = c.log ∧ s = .int .i64 i ∧ Pw wr p a l (u + (P.length : Int) + (i : Int)) (execs (execs S P) (rowL layR i)) ∧ Keeps [p, a.s, a.k, a.m] w2 wr)
      case atStart => exact ⟨0, by omega, rfl, by simpa [rowL_zero, execs_nil] using h3, Keeps.refl _ _⟩
      case round =>
        obtain ⟨i, hi, rfl, hP, hK⟩ := hrel
        have hBi := hK.at hB3 hq
        have c0 := hBi.cell 0 rfl
        have c1 := hBi.cell 1 rfl
        have c2 := hBi.cell 2 rfl
        by_cases hlt : i < c.log
        · go_wp2_with fail
          refine (record_at _ _ _ _ i (by omega)).mono ?_
          rintro e w3 ⟨rfl, hk3⟩
          have hP3 := hP.keep0 hk3
          clear c0 c1 c2
          go_wp2_with fail
          refine (store_ran w3 p a l _ _ (16 + 4 * i) 0 hP3 (by omega) (by have := L3.out; omega)).mono ?_
          rintro e w4 (⟨rfl, h4, k4⟩ | ⟨rfl, ⟨S', c4, h4⟩, k4⟩)
          · go_wp2_with fail
            go_roundg (c.log - (i + 1))
            case measure => omega
            case rel => exact ⟨i + 1, by omega, by go_num, Pw.row (f := layR) h4, (hK.trans (hk3.mono (by simp))).trans k4⟩
          · refine ⟨rfl, ran_cut h4 ?_ ((K3.trans hK).trans ((hk3.mono (by simp)).trans k4))⟩
            have c5 := Cut.right (A := P) (Cut.row (f := layR) c4 hlt) rfl rfl
            rw [HP3.out] at c5
            exact ((c5.left _).left _).left _
        · have hil : i = c.log := by omega
          subst hil
          have hQ : Pw wr p a l (u + ((P ++ rowL layR c.log).length : Int)) (execs S (P ++ rowL layR c.log)) := Pw.app (A := P) (B := rowL layR c.log) (by rw [rowL_len]; exact hP)
          have KQ := K3.trans hK
          have lQ : (P ++ rowL layR c.log).length = 4 + c.log := by rw [List.length_append, L3.out, rowL_len]
          obtain ⟨Q, hQe⟩ : ∃ Q, Q = P ++ rowL layR c.log := ⟨_, rfl⟩
          rw [← hQe] at hQ lQ
          rw [HP3.out] at hQe
          have HQe := hid hQe
          have LQ := hid lQ
          clear hQe lQ hP hlt hi
          go_wp2_with fail
          refine (active_at _ c hs).mono ?_
          rintro e w3 ⟨rfl, hk3⟩
          have hQ3 := hQ.keep0 hk3
          have hB4 := hk3.at hBi (by simp)
          have KQ3 := KQ.trans (hk3.mono (by simp))
          clear c0 c1 c2
          go_wp2_with fail
          refine (store_ran w3 p a l _ _ c.act 0 hQ3 (by omega) (by have := LQ.out; omega)).mono ?_
          rintro e w4 (⟨rfl, h4, k4⟩ | ⟨rfl, ⟨S', c4, h4⟩, k4⟩)
          rotate_left
          · refine ⟨rfl, ran_cut h4 ?_ (KQ3.trans k4)⟩
            have c5 := Cut.right (A := Q) c4 rfl rfl
            rw [HQe.out] at c5
            exact (c5.left _).left _
          have hR : Pw w4 p a l (u + ((Q ++ [Cmd.st c.act 0]).length : Int)) (execs S (Q ++ [Cmd.st c.act 0])) := Pw.app h4
          have KR := KQ3.trans k4
          have hB5 := k4.at hB4 hq
          have lR : (Q ++ [Cmd.st c.act 0]).length = 5 + c.log := by rw [List.length_append, LQ.out]; simp; omega
          obtain ⟨R, hRe⟩ : ∃ R, R = Q ++ [Cmd.st c.act 0] := ⟨_, rfl⟩
          rw [← hRe] at hR lR
          rw [HQe.out] at hRe
          have HRe := hid hRe
          have LR := hid lR
          clear hRe lR h4 k4 hQ3 hQ hk3 KQ hK
          have c0 := hB5.cell 0 rfl
          have c1 := hB5.cell 1 rfl
          have c2 := hB5.cell 2 rfl
          go_wp2_with fail
          refine (usedw_at _ c hs).mono ?_
          rintro e w5 ⟨rfl, hk5⟩
          have hR5 := hR.keep0 hk5
          have hB6 := hk5.at hB5 (by simp)
          have KR5 := KR.trans (hk5.mono (by simp))
          clear c0 c1 c2
          go_wp2_with fail
          refine (store_ran w5 p a l _ _ (c.act + 1) 0 hR5 (by omega) (by have := LR.out; omega)).mono ?_
          rintro e w6 (⟨rfl, h6, k6⟩ | ⟨rfl, ⟨S', c6, h6⟩, k6⟩)
          rotate_left
          · refine ⟨rfl, ran_cut h6 ?_ (KR5.trans k6)⟩
            have c7 := Cut.right (A := R) c6 rfl rfl
            rw [HRe.out] at c7
            exact c7.left _
          have hT : Pw w6 p a l (u + ((R ++ [Cmd.st (c.act + 1) 0]).length : Int)) (execs S (R ++ [Cmd.st (c.act + 1) 0])) := Pw.app h6
          have KT := KR5.trans k6
          have hB7 := k6.at hB6 hq
          have lT : (R ++ [Cmd.st (c.act + 1) 0]).length = 6 + c.log := by rw [List.length_append, LR.out]; simp; omega
          obtain ⟨T, hTe⟩ : ∃ T, T = R ++ [Cmd.st (c.act + 1) 0] := ⟨_, rfl⟩
          rw [← hTe] at hT lT
          rw [HRe.out] at hTe
          have HTe := hid hTe
          have LT := hid lT
          clear hTe lT h6 k6 hR5 hR hk5 KR
          have c0 := hB7.cell 0 rfl
          have c1 := hB7.cell 1 rfl
          have c2 := hB7.cell 2 rfl
          go_wp2_with fail
          clear c0 c1 c2
          go_loopg [43] c.roots (fun r s wr => ∃ i : Nat, i + r = c.roots ∧ s = .int .i64 i ∧ Pw wr p a l (u + (T.length : Int) + (i : Int)) (execs (execs S T) (rowL (layT c) i)) ∧ Keeps [p, a.s, a.k, a.m] w6 wr)
          case atStart => exact ⟨0, by omega, rfl, by simpa [rowL_zero, execs_nil] using hT, Keeps.refl _ _⟩
          case round =>
            obtain ⟨i, hi, rfl, hP, hK⟩ := hrel
            have hBi := hK.at hB7 hq
            have c0 := hBi.cell 0 rfl
            have c1 := hBi.cell 1 rfl
            have c2 := hBi.cell 2 rfl
            by_cases hlt : i < c.roots
            · go_wp2_with fail
              refine (root_at _ c hs i (by omega)).mono ?_
              rintro e w7 ⟨rfl, hk7⟩
              have hP7 := hP.keep0 hk7
              clear c0 c1 c2
              have hri : c.root i < a.n := by unfold Cfg.root; omega
              go_wp2_with fail
              refine (store_ran w7 p a l _ _ (c.root i) 0 hP7 hri (by have := LT.out; omega)).mono ?_
              rintro e w8 (⟨rfl, h8, k8⟩ | ⟨rfl, ⟨S', c8, h8⟩, k8⟩)
              · go_wp2_with fail
                go_roundg (c.roots - (i + 1))
                case measure => omega
                case rel => exact ⟨i + 1, by omega, by go_num, Pw.row (f := layT c) h8, (hK.trans (hk7.mono (by simp))).trans k8⟩
              · refine ⟨rfl, ran_cut h8 ?_ ((KT.trans hK).trans ((hk7.mono (by simp)).trans k8))⟩
                have c9 := Cut.right (A := T) (Cut.row (f := layT c) c8 hlt) rfl rfl
                rw [HTe.out] at c9
                exact c9
            · have hil : i = c.roots := by omega
              subst hil
              have hZ : Pw wr p a l (u + ((T ++ rowL (layT c) c.roots).length : Int)) (execs S (T ++ rowL (layT c) c.roots)) := Pw.app (A := T) (B := rowL (layT c) c.roots) (by rw [rowL_len]; exact hP)
              rw [HTe.out] at hZ
              have HZ := hid hZ
              clear hZ hP hlt hi
              go_wp2_with fail
              go_end0
              exact ran_end HZ.out rfl rfl (KT.trans hK)


theorem words_ge {c : Cfg} (hc : c.Ok) : 40 ≤ c.words ∧ c.words ≤ 15000 ∧ c.words % 8 = 0 := by
  have a4 := up8_le (16 + 4 * c.log)
  have a5 := up8_le c.space
  have a7 := up8_le (c.root c.roots)
  have a9 : c.root c.roots = c.act + 2 + c.roots := rfl
  have a10 : c.act = up8 (16 + 4 * c.log) := rfl
  have e2 : c.words = up8 (c.root c.roots) + 2 * up8 c.space := rfl
  obtain ⟨o1, o2, o3, o4, o5, o6⟩ := hc
  omega

set_option maxHeartbeats 1000000 in
/-- Format, of a config that fits. -/
theorem format_ran (w : World) (p : Nat) (a : DA) (l u : Int) (S : DS) (c : Cfg) (h : Pw w p a l u S) (hc : c.Ok) (hn : c.words = a.n) (hb : u < 4611686018427300000) :
    Calls Tryz.prog 41 #[ptr a.d, cfgV c] w (Ran p a l u S (fmtL c a.L) (.int .i64 0) w) := by
  have hw := words_ge hc
  have hpos : 0 < a.n := by omega
  have hL : a.L ≤ 2000 := by have := a.n8; omega
  have hlt := h.dev.fresh (Nat.le_refl w.heap.size)
  have hp0 := h.pow.lt
  have hq : w.heap.size ∉ [p, a.s, a.k, a.m] := by simp; omega
  have C1 := hid (fits_yes (w.alloc (cfgO c)) p a S c (h.dev.keep ((Keeps.refl [] w).alloc (cfgO c)) (by simp) (by simp) (by simp) (by simp)) hc hn)
  have HN := hid hn
  have HC := hid hc
  have lm : ∀ v, (markL v).length = 3 := fun _ => rfl
  have ll := layL_len c
  have lk := keepL_len a.L
  have o2 := hc.2.1
  have o4 := hc.2.2.2.1
  have LL := hid (And.intro (lm 0) (And.intro ll lk))
  clear hlt hp0 hn lm ll lk hw
  go_enter Tryz.func41, Tryz.ntmps41
  go_wp2_with fail
  refine C1.out.mono ?_
  rintro e w1 ⟨rfl, hk1⟩
  have hB1 := hk1.at (At.new w (cfgO c)) (by simp)
  have K1 := ((Keeps.refl [p, a.s, a.k, a.m] w).alloc (cfgO c)).trans (hk1.mono (by simp))
  have h1 := (h.keep0 ((Keeps.refl [] w).alloc (cfgO c))).keep0 hk1
  clear hk1 C1
  go_wp2_with fail
  refine (mark_ran w1 p a l u S 0 h1 hpos (by omega)).mono ?_
  rintro e w2 (⟨rfl, h2, k2⟩ | ⟨rfl, ⟨S', c2, h2⟩, k2⟩)
  rotate_left
  · exact ⟨rfl, ran_cut h2 (c2.left _) (K1.trans k2)⟩
  have hB2 := k2.at hB1 hq
  have K2 := K1.trans k2
  have c0 := hB2.cell 0 rfl
  have c1 := hB2.cell 1 rfl
  have c2 := hB2.cell 2 rfl
  clear k2 K1 h1
  go_wp2_with fail
  refine (lay_ran w2 p a l _ _ c h2 HC.out HN.out (by have := LL.out.1; omega)).mono ?_
  rintro e w3 (⟨rfl, h3, k3⟩ | ⟨rfl, ⟨S', c3, h3⟩, k3⟩)
  rotate_left
  · exact ⟨rfl, ran_cut h3 (Cut.right (A := markL 0) (c3.left _) rfl rfl) (K2.trans k3)⟩
  clear c0 c1 c2
  go_wp2_with fail
  refine (keep_ran w3 p a l _ _ h3 ⟨by have := LL.out; omega, hL⟩).mono ?_
  rintro e w4 (⟨rfl, h4, k4⟩ | ⟨rfl, ⟨S', c4, h4⟩, k4⟩)
  rotate_left
  · exact ⟨rfl, ran_cut h4 (Cut.right (A := markL 0) (Cut.right (A := layL c) (c4.left _) rfl rfl) rfl rfl) ((K2.trans k3).trans k4)⟩
  go_wp2_with fail
  refine (mark_ran w4 p a l _ _ magicI h4 hpos (by have := LL.out; omega)).mono ?_
  rintro e w5 (⟨rfl, h5, k5⟩ | ⟨rfl, ⟨S', c5, h5⟩, k5⟩)
  rotate_left
  · exact ⟨rfl, ran_cut h5 (Cut.right (A := markL 0) (Cut.right (A := layL c) (Cut.right (A := keepL a.L) c5 rfl rfl) rfl rfl) rfl rfl) (((K2.trans k3).trans k4).trans k5)⟩
  go_wp2_with fail
  go_ret
  refine ran_end h5 ?_ ?_ (((K2.trans k3).trans k4).trans k5)
  · unfold fmtL
    simp only [List.length_append]
    omega
  · unfold fmtL
    simp only [execs_append]

set_option maxHeartbeats 400000 in
/-- Format, of numbers that don't fit. -/
theorem format_no (w : World) (p : Nat) (a : DA) (S : DS) (l r s : Int) (h : Dev w p a S) (hf : fitsB l r s a.n = false) :
    Calls Tryz.prog 41 #[ptr a.d, cfgI l r s] w fun e w' => e = .returned (.int .i64 1) ∧ Keeps [] w w' := by
  have C1 := hid (fits_any (w.alloc (.cells #[.int .i64 l, .int .i64 r, .int .i64 s] 30)) p a S l r s (h.keep ((Keeps.refl [] w).alloc _) (by simp) (by simp) (by simp) (by simp)))
  have E := hid hf
  clear hf
  go_enter Tryz.func41, Tryz.ntmps41
  go_wp2_with fail
  refine C1.out.mono ?_
  rintro e w1 ⟨rfl, hk1⟩
  rw [E.out]
  go_wp2_with fail
  go_ret
  exact ⟨rfl, ((Keeps.refl _ _).alloc _).trans hk1⟩

/-! Read. -/

abbrev rdV (l r s e : Int) : Value := .tuple #[cfgI l r s, .int .i64 e]

set_option maxHeartbeats 400000 in
/-- No magic. -/
theorem read_magic (w : World) (p : Nat) (a : DA) (S : DS) (h : Dev w p a S) (hn : 0 < a.n) (hm : S.now 0 ≠ magicI) :
    Calls Tryz.prog 81 #[ptr a.d] w fun e w' => e = .returned (rdV 0 0 0 7) ∧ Keeps [] w w' := by
  have C1 := hid (load_in (w.alloc (.cells #[.int .i64 0, .int .i64 0, .int .i64 0] 30)) p a S 0 (h.keep ((Keeps.refl [] w).alloc _) (by simp) (by simp) (by simp) (by simp)) hn)
  have t0 : (S.now 0 == 6076848300954571569) = false := by rw [beq_eq_false_iff_ne]; exact hm
  have t1 : (S.now 0 != 6076848300954571569) = true := by rw [bne, t0]; rfl
  clear hm
  go_enter Tryz.func81, Tryz.ntmps81
  go_wp2_with fail
  refine C1.out.mono ?_
  rintro e w1 ⟨rfl, rfl⟩
  go_wp2_with fail
  refine bodyPost_ret (v := rdV 0 0 0 7) ?_ rfl ?_
  · simp [results, Tryz.results81, go_sem]
  · exact ⟨rfl, by repeat' (first | exact Keeps.refl _ _ | refine Keeps.set ?_ (.inr (by simp)) _ | refine Keeps.alloc ?_ _)⟩

/-- A word as a whole number. -/
def asInt (x : Int) : Int := wrap64 x

set_option maxHeartbeats 400000 in
theorem config_at (w : World) (x y z : Int) :
    Calls Tryz.prog 96 #[num3V x y z] w fun e w' => e = .returned (cfgI (asInt x) (asInt y) (asInt z)) ∧ Keeps [] w w' := by
  go_enter Tryz.func96, Tryz.ntmps96
  go_wp2
  refine bodyPost_ret (v := cfgI (asInt x) (asInt y) (asInt z)) ?_ rfl ?_
  · simp [results, Tryz.results96, go_sem, asInt]
  · exact ⟨rfl, by repeat' (first | exact Keeps.refl _ _ | refine Keeps.set ?_ (.inr (by simp)) _ | refine Keeps.alloc ?_ _)⟩


/-- The first i of three words, read. -/
def gotO (S : DS) (i : Nat) : Obj := num3O (if 0 < i then S.now 1 else 0) (if 1 < i then S.now 2 else 0) (if 2 < i then S.now 3 else 0)

/-- What Read answers behind the magic. -/
def rdAns (S : DS) (n : Nat) : Value :=
  if fitsB (asInt (S.now 1)) (asInt (S.now 2)) (asInt (S.now 3)) n then rdV (asInt (S.now 1)) (asInt (S.now 2)) (asInt (S.now 3)) 0 else rdV 0 0 0 1

set_option maxRecDepth 100000 in
set_option maxHeartbeats 1000000 in
theorem read_on (w : World) (p : Nat) (a : DA) (S : DS) (h : Dev w p a S) (hn : 8 ≤ a.n) (hm : S.now 0 = magicI) :
    Calls Tryz.prog 81 #[ptr a.d] w fun e w' => e = .returned (rdAns S a.n) ∧ Keeps [] w w' := by
  have C1 := hid (load_eq (w.alloc (.cells #[.int .i64 0, .int .i64 0, .int .i64 0] 30)) p a S 0 6076848300954571569 (h.keep ((Keeps.refl [] w).alloc _) (by simp) (by simp) (by simp) (by simp)) (by omega) hm)
  clear hm
  go_enter Tryz.func81, Tryz.ntmps81
  go_wp2_with fail
  refine C1.out.mono ?_
  rintro e w1 ⟨rfl, rfl⟩
  clear C1
  have hB0 := (At.new w (.cells #[.int .i64 0, .int .i64 0, .int .i64 0] 30))
  have K0 := (Keeps.refl [] w).alloc (.cells #[.int .i64 0, .int .i64 0, .int .i64 0] 30)
  have z0 : (w.alloc (.cells #[.int .i64 0, .int .i64 0, .int .i64 0] 30)).heap.size = w.heap.size + 1 := by simp
  have h0 := h.keep K0 (by simp) (by simp) (by simp) (by simp)
  have k0 : w.heap.size ≤ w.heap.size := Nat.le_refl _
  obtain ⟨b, hb⟩ : ∃ b, b = w.heap.size := ⟨_, rfl⟩
  obtain ⟨w0, hw0⟩ : ∃ w0, w0 = w.alloc (.cells #[.int .i64 0, .int .i64 0, .int .i64 0] 30) := ⟨_, rfl⟩
  rw [← hw0] at hB0 K0 z0 h0 ⊢
  rw [← hb] at hB0 z0 ⊢
  have HB := hid (show w.heap.size ≤ b by omega)
  have HZ := hid z0
  clear hw0 hb z0 k0
  go_wp2_with fail
  have hN0 := At.new w0 (gotO S 0)
  have hN0' : At (w0.alloc (.cells #[.int .u64 0, .int .u64 0, .int .u64 0] 111)) w0.heap.size (gotO S 0) := hN0
  have hB1 := hB0.alloc (.cells #[.int .u64 0, .int .u64 0, .int .u64 0] 111)
  have K1 := K0.alloc (.cells #[.int .u64 0, .int .u64 0, .int .u64 0] 111)
  have h1 := h0.keep ((Keeps.refl [] w0).alloc (.cells #[.int .u64 0, .int .u64 0, .int .u64 0] 111)) (by simp) (by simp) (by simp) (by simp)
  obtain ⟨f1, f2, f3, f4⟩ := h0.fresh (Nat.le_refl _)
  have HF := hid (And.intro f1 (And.intro f2 (And.intro f3 f4)))
  have hbn : b ≠ w0.heap.size := by have := HZ.out; omega
  have HBN := hid hbn
  clear f1 f2 f3 f4 hN0 hB0 h0 hbn h
  go_loopg [11] 3 (fun r s wr => ∃ i : Nat, ∃ z : Int, i + r = 3 ∧ z = i ∧ s = .int .i64 z ∧ At wr w0.heap.size (gotO S i) ∧ Keeps [w0.heap.size] (w0.alloc (.cells #[.int .u64 0, .int .u64 0, .int .u64 0] 111)) wr)
  case atStart => exact ⟨0, 0, by omega, rfl, rfl, hN0', Keeps.refl _ _⟩
  case round =>
    obtain ⟨i, z, hi, hz, rfl, hN, hK⟩ := hrel
    have hD := h1.keep hK (by simpa using HF.out.1) (by simpa using HF.out.2.1) (by simpa using HF.out.2.2.1) (by simpa using HF.out.2.2.2)
    have hBr := hK.at hB1 (by simpa using HBN.out)
    rcases (by omega : i = 0 ∨ i = 1 ∨ i = 2 ∨ i = 3) with rfl | rfl | rfl | rfl
    · obtain rfl : z = 0 := by omega
      have HI := hid hi
      clear hz hi
      have C2 := hid (load_in wr p a S 1 hD (by omega))
      go_wp2_with fail
      refine C2.out.mono ?_
      rintro e w2 ⟨rfl, rfl⟩
      have f0 := hN.free 0
      have g0 := hN.cell 0 rfl
      go_wp2_with fail
      go_roundg 2
      case measure => have := HI.out; omega
      case rel =>
        refine ⟨1, 1, by omega, rfl, rfl, ?_, hK.set (.inl (by simp)) _⟩
        exact hN.set 0 (.int .u64 (S.now 1))
    · obtain rfl : z = 1 := by omega
      have HI := hid hi
      clear hz hi
      have C2 := hid (load_in wr p a S 2 hD (by omega))
      go_wp2_with fail
      refine C2.out.mono ?_
      rintro e w2 ⟨rfl, rfl⟩
      have f0 := hN.free 1
      have g0 := hN.cell 1 rfl
      go_wp2_with fail
      go_roundg 1
      case measure => have := HI.out; omega
      case rel =>
        refine ⟨2, 2, by omega, rfl, rfl, ?_, hK.set (.inl (by simp)) _⟩
        exact hN.set 1 (.int .u64 (S.now 2))
    · obtain rfl : z = 2 := by omega
      have HI := hid hi
      clear hz hi
      have C2 := hid (load_in wr p a S 3 hD (by omega))
      go_wp2_with fail
      refine C2.out.mono ?_
      rintro e w2 ⟨rfl, rfl⟩
      have f0 := hN.free 2
      have g0 := hN.cell 2 rfl
      go_wp2_with fail
      go_roundg 0
      case measure => have := HI.out; omega
      case rel =>
        refine ⟨3, 3, by omega, rfl, rfl, ?_, hK.set (.inl (by simp)) _⟩
        exact hN.set 2 (.int .u64 (S.now 3))
    · obtain rfl : z = 3 := by omega
      clear hz hi
      have c0 := hN.cell 0 rfl
      have c1 := hN.cell 1 rfl
      have c2 := hN.cell 2 rfl
      go_wp2_with fail
      refine (config_at wr (S.now 1) (S.now 2) (S.now 3)).mono ?_
      rintro e w2 ⟨rfl, hk2⟩
      have hD2 := hD.keep hk2 (by simp) (by simp) (by simp) (by simp)
      have hB2 := hk2.at hBr (by simp)
      have K2 : Keeps [] w w2 := (K1.new hK (by have := HZ.out; have := HB.out; simp; omega)).trans hk2
      have hC2 := At.new w2 (.cells #[.int .i64 (asInt (S.now 1)), .int .i64 (asInt (S.now 2)), .int .i64 (asInt (S.now 3))] 30)
      have K3 := K2.alloc (.cells #[.int .i64 (asInt (S.now 1)), .int .i64 (asInt (S.now 2)), .int .i64 (asInt (S.now 3))] 30)
      have hD3 := hD2.keep ((Keeps.refl [] w2).alloc (.cells #[.int .i64 (asInt (S.now 1)), .int .i64 (asInt (S.now 2)), .int .i64 (asInt (S.now 3))] 30)) (by simp) (by simp) (by simp) (by simp)
      have hB3 := hB2.alloc (.cells #[.int .i64 (asInt (S.now 1)), .int .i64 (asInt (S.now 2)), .int .i64 (asInt (S.now 3))] 30)
      clear c0 c1 c2 hk2 hD hBr hN hK
      have C3 := hid (fits_any _ p a S (asInt (S.now 1)) (asInt (S.now 2)) (asInt (S.now 3)) hD3)
      have hbw : b < w2.heap.size := hB2.lt
      cases hf : fitsB (asInt (S.now 1)) (asInt (S.now 2)) (asInt (S.now 3)) a.n
      · have E : Hid (rdAns S a.n = rdV 0 0 0 1) := by show _ = _; simp [rdAns, hf]
        have F := hid hf
        clear hf
        go_wp2_with fail
        refine C3.out.mono ?_
        rintro e w3 ⟨rfl, hk3⟩
        rw [F.out]
        have hB4 := hk3.at hB3 (by simp)
        have K4 := K3.trans hk3
        have f0 := hB4.free 0
        have f1 := hB4.free 1
        have f2 := hB4.free 2
        have c0 := hB4.cell 0 rfl
        have c1 := hB4.cell 1 rfl
        have c2 := hB4.cell 2 rfl
        go_wp2_with fail
        have hB5 := ((hB4.set 0 (.int .i64 0)).set 1 (.int .i64 0)).set 2 (.int .i64 0)
        have d0 := hB5.cell 0 rfl
        have d1 := hB5.cell 1 rfl
        have d2 := hB5.cell 2 rfl
        refine bodyPost_ret (v := rdV 0 0 0 1) ?_ rfl ?_
        · simp [results, Tryz.results81, go_sem, d0, d1, d2]
        · rw [E.out]
          exact ⟨rfl, ((K4.set (.inr HB.out) _).set (.inr HB.out) _).set (.inr HB.out) _⟩
      · have E : Hid (rdAns S a.n = rdV (asInt (S.now 1)) (asInt (S.now 2)) (asInt (S.now 3)) 0) := by show _ = _; simp [rdAns, hf]
        have F := hid hf
        clear hf
        go_wp2_with fail
        refine C3.out.mono ?_
        rintro e w3 ⟨rfl, hk3⟩
        rw [F.out]
        have hB4 := hk3.at hB3 (by simp)
        have hC4 := hk3.at hC2 (by simp)
        have K4 := K3.trans hk3
        have f0 := hB4.free 0
        have f1 := hB4.free 1
        have f2 := hB4.free 2
        have c0 := hB4.cell 0 rfl
        have c1 := hB4.cell 1 rfl
        have c2 := hB4.cell 2 rfl
        have c3 := hC4.cell 0 rfl
        have c4 := hC4.cell 1 rfl
        have c5 := hC4.cell 2 rfl
        go_wp2_with fail
        have hB5 := ((hB4.set 0 (.int .i64 (asInt (S.now 1)))).set 1 (.int .i64 (asInt (S.now 2)))).set 2 (.int .i64 (asInt (S.now 3)))
        have d0 := hB5.cell 0 rfl
        have d1 := hB5.cell 1 rfl
        have d2 := hB5.cell 2 rfl
        refine bodyPost_ret (v := rdV (asInt (S.now 1)) (asInt (S.now 2)) (asInt (S.now 3)) 0) ?_ rfl ?_
        · simp [results, Tryz.results81, go_sem, d0, d1, d2]
        · rw [E.out]
          exact ⟨rfl, ((K4.set (.inr HB.out) _).set (.inr HB.out) _).set (.inr HB.out) _⟩

end Go.Proofs.YtcdlikblebdfkaaGreat
