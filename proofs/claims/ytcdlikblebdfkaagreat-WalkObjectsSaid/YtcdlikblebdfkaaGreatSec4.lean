/- The section's calls as steps: Begin, Store, Commit, Abort. -/
import Derived.Test.YtcdlikblebdfkaaGreatSec3
namespace Go.Proofs.YtcdlikblebdfkaaGreat
open Go.RowKit Go.OpenShut

section
variable {w w' : World} {p : Nat} {a : DA} {l u u' : Int} {S S' : DS} {s : Sc} {c : Cfg} {m e0 r : Nat} {st : Bool} {op : Bool} {f t f' t' : Int} {R U : Int → Option Value} {pl : Nat → Nat} {wd : Nat → Int} {cs : List Cmd} {v : Value} {e : Ending}

set_option maxHeartbeats 1000000 in
theorem begin_no (h : SW w p a l u S s c m st true f t R U) :
    Calls Tryz.prog 65 #[ptr s.b, spV f' t'] w fun e w' => e = .returned (.int .i64 2) ∧ Keeps [] w w' := by
  have h1 := h.keep0 ((Keeps.refl [] w).alloc (spO f' t'))
  have c5 := h1.sec.cell 5 rfl
  go_enter Tryz.func65, Tryz.ntmps65
  go_wp2_with fail
  go_ret
  exact ⟨rfl, (Keeps.refl _ _).alloc _⟩

set_option maxHeartbeats 1000000 in
theorem abort_no (h : SW w p a l u S s c m st false f t R U) :
    Calls Tryz.prog 67 #[ptr s.b] w fun e w' => e = .returned (.int .i64 2) ∧ w = w' := by
  have c5 := h.sec.cell 5 rfl
  go_enter Tryz.func67, Tryz.ntmps67
  go_wp2_with fail
  go_ret
  exact ⟨rfl, rfl⟩

set_option maxHeartbeats 1000000 in
theorem sstore_no (h : SW w p a l u S s c m st false f t R U) (i v : Int) :
    Calls Tryz.prog 66 #[ptr s.b, .int .i64 i, .int .u64 v] w fun e w' => e = .returned (.int .i64 2) ∧ w = w' := by
  have c5 := h.sec.cell 5 rfl
  go_enter Tryz.func66, Tryz.ntmps66
  go_wp2_with fail
  go_ret
  exact ⟨rfl, rfl⟩

set_option maxRecDepth 100000 in
set_option maxHeartbeats 2000000 in
theorem sstore_out (h : SW w p a l u S s c m st true f t R U) (hs : c.Small) (i v : Int) (hi : i < (c.act : Int) ∨ (a.n : Int) ≤ i) :
    Calls Tryz.prog 66 #[ptr s.b, .int .i64 i, .int .u64 v] w fun e w' => e = .returned (.int .i64 1) ∧ Keeps [] w w' := by
  have c1 := h.sec.cell 1 rfl
  have c2 := h.sec.cell 2 rfl
  have c3 := h.sec.cell 3 rfl
  have c4 := h.sec.cell 4 rfl
  have c5 := h.sec.cell 5 rfl
  by_cases h1 : i < (c.act : Int)
  · have t1 : decide (i < (c.act : Int)) = true := by rw [decide_eq_true_eq]; exact h1
    clear hi h1
    go_enter Tryz.func66, Tryz.ntmps66
    go_wp2_with fail
    refine (active_at w c hs).mono ?_
    rintro e w1 ⟨rfl, hk1⟩
    go_wp2_with fail
    go_ret
    exact ⟨rfl, hk1⟩
  · have t1 : decide (i < (c.act : Int)) = false := by rw [decide_eq_false_iff_not]; exact h1
    have t2 : decide ((a.n : Int) ≤ i) = true := by rw [decide_eq_true_eq]; omega
    clear hi h1
    go_enter Tryz.func66, Tryz.ntmps66
    go_wp2_with fail
    refine (active_at w c hs).mono ?_
    rintro e w1 ⟨rfl, hk1⟩
    have l1 := h.keep0 hk1
    clear c1 c2 c3 c4 c5
    have c1 := l1.sec.cell 1 rfl
    go_wp2_with fail
    refine (len_at w1 p a S l1.lw.pw.dev).mono ?_
    rintro e w2 ⟨rfl, rfl⟩
    go_wp2_with fail
    go_ret
    exact ⟨rfl, hk1⟩

set_option maxRecDepth 100000 in
set_option maxHeartbeats 2000000 in
theorem sstore_full (h : SW w p a l u S s c m st true f t R U) (hs : c.Small) (i : Nat) (v : Int) (hi : c.act ≤ i ∧ i < a.n) (hf : freshB f t i = false) (hr : R (i : Int) = none) (hm : m = c.log) :
    Calls Tryz.prog 66 #[ptr s.b, .int .i64 i, .int .u64 v] w fun e w' => e = .returned (.int .i64 3) ∧ Keeps [] w w' := by
  have c1 := h.sec.cell 1 rfl
  have c2 := h.sec.cell 2 rfl
  have c3 := h.sec.cell 3 rfl
  have c4 := h.sec.cell 4 rfl
  have c5 := h.sec.cell 5 rfl
  have t1 : decide ((i : Int) < (c.act : Int)) = false := by rw [decide_eq_false_iff_not]; omega
  have t2 : decide ((a.n : Int) ≤ (i : Int)) = false := by rw [decide_eq_false_iff_not]; omega
  have t3 : decide (i < c.act) = false := by rw [decide_eq_false_iff_not]; omega
  have t4 : decide (a.n ≤ i) = false := by rw [decide_eq_false_iff_not]; omega
  have HR := hid (fun (w' : World) (hk : Keeps [] w w') => record_full (h.keep0 hk) i hi.2 hf hr hm)
  clear hi hf hr hm
  go_enter Tryz.func66, Tryz.ntmps66
  go_wp2_with fail
  refine (active_at w c hs).mono ?_
  rintro e w1 ⟨rfl, hk1⟩
  have l1 := h.keep0 hk1
  clear c1 c2 c3 c4 c5
  have c1 := l1.sec.cell 1 rfl
  go_wp2_with fail
  refine (len_at w1 p a S l1.lw.pw.dev).mono ?_
  rintro e w2 ⟨rfl, rfl⟩
  go_wp2_with fail
  refine (HR.out _ hk1).mono ?_
  rintro e w2 ⟨rfl, hk2⟩
  go_wp2_with fail
  go_ret
  exact ⟨rfl, hk1.trans hk2⟩

set_option maxRecDepth 100000 in
set_option maxHeartbeats 2000000 in
/-- A word that is fresh, or has a record. -/
theorem sstore_old (h : SW w p a l u S s c m st true f t R U) (hs : c.Small) (x : Nat) (hx : x < 4294967296) (h8 : S.now 8 = x) (hn8 : 8 < a.n) (hn : a.n ≤ 15000) (i : Nat) (v : Int) (hi : c.act ≤ i ∧ i < a.n) (hr : freshB f t i = true ∨ freshB f t i = false ∧ R (i : Int) = some (.int .u64 x)) (hb : u < 4611686018427340000) :
    Calls Tryz.prog 66 #[ptr s.b, .int .i64 i, .int .u64 v] w (RanS p a l u S s c m st true f t R (mkU U i) [.st i v] (.int .i64 0) w) := by
  have c1 := h.sec.cell 1 rfl
  have c2 := h.sec.cell 2 rfl
  have c3 := h.sec.cell 3 rfl
  have c4 := h.sec.cell 4 rfl
  have c5 := h.sec.cell 5 rfl
  have t1 : decide ((i : Int) < (c.act : Int)) = false := by rw [decide_eq_false_iff_not]; omega
  have t2 : decide ((a.n : Int) ≤ (i : Int)) = false := by rw [decide_eq_false_iff_not]; omega
  have t3 : decide (i < c.act) = false := by rw [decide_eq_false_iff_not]; omega
  have t4 : decide (a.n ≤ i) = false := by rw [decide_eq_false_iff_not]; omega
  have HI := hid hi
  have HR : Hid (∀ w', Keeps [] w w' → Calls Tryz.prog 78 #[ptr s.b, .int .i64 i] w' fun e w'' => e = .returned (.int .i64 0) ∧ Keeps [] w' w'') := fun w' hk => by
    rcases hr with hf | ⟨hf, hr⟩
    · exact record_fresh (h.keep0 hk) i hf
    · exact record_has (h.keep0 hk) x hx h8 hn8 i hf hr
  clear hi hr h8
  go_enter Tryz.func66, Tryz.ntmps66
  go_wp2_with fail
  refine (active_at w c hs).mono ?_
  rintro e w1 ⟨rfl, hk1⟩
  have l1 := h.keep0 hk1
  clear c1 c2 c3 c4 c5
  have c1 := l1.sec.cell 1 rfl
  go_wp2_with fail
  refine (len_at w1 p a S l1.lw.pw.dev).mono ?_
  rintro e w2 ⟨rfl, rfl⟩
  go_wp2_with fail
  refine (HR.out _ hk1).mono ?_
  rintro e w2 ⟨rfl, hk2⟩
  have l2 := l1.keep0 hk2
  clear c1 HR
  go_wp2_with fail
  refine (mark_at l2 i (by have := HI.out; omega)).mono ?_
  rintro e w3 ⟨rfl, l3, hk3⟩
  have K3 : Keeps (s.bl p a) w w3 := (hk1.trans hk2).nos.trans hk3.ups
  have c1 := l3.sec.cell 1 rfl
  go_wp2_with fail
  refine (store_ran w3 p a l u S i v l3.lw.pw HI.out.2 (by omega)).mono ?_
  rintro e w4 (⟨rfl, h4, k4⟩ | ⟨rfl, ⟨S', d4, h4⟩, k4⟩)
  rotate_left
  · exact ⟨rfl, ranS_cut h4 d4 (K3.trans k4.dvs)⟩
  go_wp2_with fail
  go_ret
  exact ranS_end (l3.next h4 k4) rfl rfl (K3.trans k4.dvs)

set_option maxRecDepth 100000 in
set_option maxHeartbeats 2000000 in
/-- A word that gets a record. -/
theorem sstore_new (h : SW w p a l u S s c m st true f t R U) (hc : c.Ok) (hn : c.words = a.n) (hL : LR c a.n e0 r m pl wd S) (hrb : r < 4294967296) (i : Nat) (v : Int) (hi : c.act ≤ i ∧ i < a.n) (hf : freshB f t i = false) (hr : R (i : Int) = none) (hm : m < c.log) (hb : u < 4611686018427330000) :
    Calls Tryz.prog 66 #[ptr s.b, .int .i64 i, .int .u64 v] w (RanS p a l u S s c (m + 1) true true f t (fun z => if z = (i : Int) then some (.int .u64 (eN e0 r : Nat)) else R z) (mkU U i) (appL c st false m (eN e0 r) i (S.now i) ++ [.st i v]) (.int .i64 0) w) := by
  have c1 := h.sec.cell 1 rfl
  have c2 := h.sec.cell 2 rfl
  have c3 := h.sec.cell 3 rfl
  have c4 := h.sec.cell 4 rfl
  have c5 := h.sec.cell 5 rfl
  have hci := c_in hc hn
  have hlen := appL_len (st := st) (m := m) hc (eN e0 r) i (S.now i)
  have t1 : decide ((i : Int) < (c.act : Int)) = false := by rw [decide_eq_false_iff_not]; omega
  have t2 : decide ((a.n : Int) ≤ (i : Int)) = false := by rw [decide_eq_false_iff_not]; omega
  have t3 : decide (i < c.act) = false := by rw [decide_eq_false_iff_not]; omega
  have t4 : decide (a.n ≤ i) = false := by rw [decide_eq_false_iff_not]; omega
  have HI := hid (show i < a.n ∧ i ≤ 100000 by omega)
  have HR := hid (fun (w' : World) (hk : Keeps [] w w') => record_new (h.keep0 hk) hc hn hL hrb i hi hf hr hm (by omega))
  have HL := hid hlen
  have hub := hid hb
  have hs := hc.small
  clear hi hf hr hm hL hci hlen hn hc
  go_enter Tryz.func66, Tryz.ntmps66
  go_wp2_with fail
  refine (active_at w c hs).mono ?_
  rintro e w1 ⟨rfl, hk1⟩
  have l1 := h.keep0 hk1
  clear c1 c2 c3 c4 c5
  have c1 := l1.sec.cell 1 rfl
  go_wp2_with fail
  refine (len_at w1 p a S l1.lw.pw.dev).mono ?_
  rintro e w2 ⟨rfl, rfl⟩
  go_wp2_with fail
  refine (HR.out _ hk1).mono ?_
  rintro e w2 (⟨rfl, l2, k2⟩ | ⟨rfl, ⟨S', d2, h2⟩, k2⟩)
  rotate_left
  · exact ⟨rfl, ranS_cut h2 (d2.left _) (hk1.nos.trans k2)⟩
  have K2 : Keeps (s.bl p a) w w2 := hk1.nos.trans k2
  clear c1 HR k2
  go_wp2_with fail
  refine (mark_at l2 i HI.out.2).mono ?_
  rintro e w3 ⟨rfl, l3, hk3⟩
  have K3 : Keeps (s.bl p a) w w3 := K2.trans hk3.ups
  have c1 := l3.sec.cell 1 rfl
  go_wp2_with fail
  refine (store_ran w3 p a l _ _ i v l3.lw.pw HI.out.1 (by have := HL.out; have := hub.out; omega)).mono ?_
  rintro e w4 (⟨rfl, h4, k4⟩ | ⟨rfl, ⟨S', d4, h4⟩, k4⟩)
  rotate_left
  · exact ⟨rfl, ranS_cut h4 (Cut.right d4 rfl rfl) (K3.trans k4.dvs)⟩
  go_wp2_with fail
  go_ret
  exact ranS_end (l3.next h4 k4) (by simp; omega) (by rw [execs_append]) (K3.trans k4.dvs)

end

end Go.Proofs.YtcdlikblebdfkaaGreat
