/- Is a heap whole: what Check answers by the words; Check's own functions: their contracts. -/
import Derived.Test.YtlpmdjmamnkokaaGreatNmi
import Derived.Test.YtlpmdjmamnkokaaGreatLkd
namespace Go.Proofs.YtlpmdjmamnkokaaGreat
open Go.RowKit Go.OpenShut

/-- Is a word nothing, or where one of these objects is? -/
def okW (c : Cfg) (k : Nat) (l : List (Nat × Nat)) (v : Int) : Bool := (v == 0) || (List.range l.length).any fun i => v == ((c.frm k + posL l i : Nat) : Int)
/-- Are all roots? -/
def okR (S : DS) (c : Cfg) (k : Nat) (l : List (Nat × Nat)) : Bool := (List.range c.roots).all fun j => okW c k l (S.now (c.root j))
/-- Are all names? -/
def okN (S : DS) (c : Cfg) (k : Nat) (l : List (Nat × Nat)) : Bool := (List.range l.length).all fun i => (List.range (rL l i)).all fun j => okW c k l (S.now (c.frm k + posL l i + 1 + j))
/-- What Check answers. -/
def ckC (S : DS) (c : Cfg) (k : Nat) (l : List (Nat × Nat)) (er : Bool) : Int := if er then 8 else if okR S c k l && okN S c k l then 0 else 9

theorem okW_iff {c : Cfg} {k : Nat} {l : List (Nat × Nat)} {v : Int} : okW c k l v = true ↔ v = 0 ∨ ∃ i, i < l.length ∧ v = ((c.frm k + posL l i : Nat) : Int) := by
  simp [okW]
theorem okR_iff {S : DS} {c : Cfg} {k : Nat} {l : List (Nat × Nat)} : okR S c k l = true ↔ ∀ j, j < c.roots → okW c k l (S.now (c.root j)) = true := by
  simp [okR]
theorem okN_iff {S : DS} {c : Cfg} {k : Nat} {l : List (Nat × Nat)} : okN S c k l = true ↔ ∀ i, i < l.length → ∀ j, j < rL l i → okW c k l (S.now (c.frm k + posL l i + 1 + j)) = true := by
  simp [okN]

/-- The roots, and a space's words, are words. -/
def WdU (S : DS) (c : Cfg) (k : Nat) : Prop :=
  (∀ i, i < c.roots → ∃ v : Nat, S.now (c.root i) = (v : Int) ∧ v < 18446744073709551616) ∧ ∀ j, c.frm k ≤ j → j < c.frm k + c.space → ∃ v : Nat, S.now j = (v : Int) ∧ v < 18446744073709551616

/-- What the map of starts says of a word. -/
theorem stD_word {w : World} {mb : Nat} {c : Cfg} {k : Nat} {l : List (Nat × Nat)} (h : IMap w mb (stD c k l l.length)) (hb : ∀ i, i < l.length → c.frm k + posL l i ≤ 100000) (v : Nat) (hv : v < 18446744073709551616) (z : Int) (hz : z = IntKind.i64.wrap (v : Int)) :
    ∃ (n r q : Int) (b : Bool), (Instr.lookup 67 (.map (some mb)) (.int .i64 z) true).run Tryz.prog w = .ok (.tuple #[obV n r q, .bool b]) w ∧ okW c k l v = (decide (v = 0) || b) := by
  have hz2 : (v < 9223372036854775808 ∧ z = (v : Int)) ∨ (9223372036854775808 ≤ v ∧ z < 0) := by
    rw [hz]
    rw [IntKind.wrap_i64]
    omega
  by_cases hm : ∃ i, i < l.length ∧ v = c.frm k + posL l i
  · obtain ⟨i, hi, he⟩ := hm
    have := hb i hi
    refine ⟨_, _, _, true, stD_lookup h hi z (by omega) true, ?_⟩
    rw [Bool.or_true]
    exact okW_iff.2 (.inr ⟨i, hi, by omega⟩)
  · refine ⟨_, _, _, false, stD_missed h z (fun i hi he => hm ⟨i, hi, by have := hb i hi; omega⟩) true, ?_⟩
    rw [Bool.or_false]
    by_cases h0 : v = 0
    · subst h0
      rw [decide_eq_true rfl]
      exact okW_iff.2 (.inl rfl)
    · rw [decide_eq_false h0, Bool.eq_false_iff]
      intro hw
      rcases okW_iff.1 hw with hw | ⟨i, hi, he⟩
      · omega
      · exact hm ⟨i, hi, by omega⟩

set_option maxRecDepth 100000 in
set_option maxHeartbeats 4000000 in
theorem astray_at (w : World) (sb mb : Nat) (c : Cfg) (k : Nat) (l : List (Nat × Nat)) (hs : At w sb (.cells #[.map (some mb)] 67)) (hI : IMap w mb (stD c k l l.length)) (hb : ∀ i, i < l.length → c.frm k + posL l i ≤ 100000) (v : Nat) (hv : v < 18446744073709551616) :
    Calls Tryz.prog 33 #[.int .u64 v, ptr sb] w fun e w' => e = .returned (.bool (!okW c k l v)) ∧ Keeps [] w w' := by
  obtain ⟨z, hz⟩ : ∃ z, IntKind.i64.wrap (v : Int) = z := ⟨_, rfl⟩
  obtain ⟨n, r, q, b, hl, ho⟩ := stD_word hI hb v hv z hz.symm
  have HO := hid ho
  have s0 := hs.cell 0 rfl
  have hvi : (v : Int) < 18446744073709551616 := by omega
  clear ho hs hI hb
  go_enter Tryz.func33, Tryz.ntmps33
  by_cases h0 : v = 0
  · have t1 : ((v : Int) != 0) = false := by subst h0; rfl
    have HV : Hid (okW c k l v = true) := by show _ = _; rw [HO.out, decide_eq_true h0]; rfl
    clear h0
    go_wp2_with fail
    go_ret
    exact ⟨by rw [HV.out]; rfl, (Keeps.refl _ _).alloc _⟩
  · have t1 : ((v : Int) != 0) = true := by rw [bne_iff_ne]; omega
    have HV : Hid (okW c k l v = b) := by show _ = _; rw [HO.out, decide_eq_false h0]; rfl
    clear h0
    go_wp2_with fail
    go_ret
    exact ⟨by rw [HV.out]; rfl, (Keeps.refl _ _).alloc _⟩

set_option maxRecDepth 100000 in
set_option maxHeartbeats 4000000 in
/-- The first word of a row that is neither nothing nor where an object is. -/
theorem indexF_at (w : World) (sb mb : Nat) (c : Cfg) (k : Nat) (l : List (Nat × Nat)) (hs : At w sb (.cells #[.map (some mb)] 67)) (hI : IMap w mb (stD c k l l.length)) (hb : ∀ i, i < l.length → c.frm k + posL l i ≤ 100000)
    (x : Option Addr) (n cp B : Nat) (f : Nat → Int) (h : OwnU w B x cp n f) (hn : n ≤ 1000) (hf : ∀ i, i < n → ∃ v : Nat, f i = (v : Int) ∧ v < 18446744073709551616) :
    Calls Tryz.prog 55 #[.slice x n cp, .func (.func 33) #[] #[ptr sb]] w fun e w' => ((∃ j : Nat, j < n ∧ okW c k l (f j) = false ∧ e = .returned (.int .i64 j)) ∨ ((∀ j, j < n → okW c k l (f j) = true) ∧ e = .returned (.int .i64 (-1)))) ∧ Keeps [] w w' := by
  have hni : (n : Int) ≤ 1000 := by omega
  have HF := hid h.form
  have HV := hid hf
  have HA := hid (fun (w' : World) (hk : Keeps [] w w') (v : Nat) (hv : v < 18446744073709551616) => astray_at w' sb mb c k l (hk.at hs (by simp)) (hI.keep hk (by simp)) hb v hv)
  clear h hf hs hI hb
  go_enter Tryz.func55, Tryz.ntmps55
  go_wp2_with fail
  go_loopg [8] n (fun r sl wr => ∃ j : Nat, j + r = n ∧ sl = .int .i64 j ∧ Keeps [] w wr ∧ ∀ i, i < j → okW c k l (f i) = true)
  case atStart => exact ⟨0, by omega, rfl, Keeps.refl _ _, fun j hj => by omega⟩
  case round =>
    obtain ⟨j, hj, rfl, hK, hno⟩ := hrel
    have HNO := hid hno
    have HK := hid hK
    clear hno hK
    by_cases hlt : j < n
    · obtain ⟨g, cur, rfl, hg, hA, hcur⟩ : ∃ g cur, x = some ⟨g, 0, none⟩ ∧ B ≤ g ∧ At w g (.cells cur 27) ∧ ∀ i, i < n → cur[i]? = some (.int .u64 (f i)) := by
        rcases HF.out with ⟨_, h⟩ | h
        · omega
        · exact h
      obtain ⟨v, hv, hvb⟩ := HV.out j hlt
      have d0 : wr.cell? ⟨g, j, none⟩ = some (.int .u64 (v : Nat)) := by rw [← hv]; exact (HK.out.at hA (by simp)).cell j (hcur j hlt)
      have hji : (j : Int) ≤ 1000 := by omega
      have HVJ := hid (And.intro hv hlt)
      have HVB := hid hvb
      clear hv hcur hA hvb
      go_wp2_with fail
      refine (HA.out wr HK.out v HVB.out).mono ?_
      rintro e w1 ⟨rfl, hk1⟩
      have HK1 := hid (HK.out.trans hk1)
      clear hk1 d0
      obtain ⟨b, hb⟩ : ∃ b, b = okW c k l v := ⟨_, rfl⟩
      rw [← hb]
      have HB := hid hb
      clear hb
      cases b
      · go_wp2_with fail
        go_ret
        exact ⟨.inl ⟨j, HVJ.out.2, by rw [HVJ.out.1]; exact HB.out.symm, rfl⟩, HK1.out⟩
      · go_wp2_with fail
        go_roundg (n - (j + 1))
        case measure => omega
        case rel => exact ⟨j + 1, by omega, by go_num, HK1.out, fun i hi => by
          by_cases hij : i = j
          · subst hij; rw [HVJ.out.1]; exact HB.out.symm
          · exact HNO.out i (by omega)⟩
    · have hkn : j = n := by omega
      subst hkn
      go_wp2_with fail
      go_ret
      exact ⟨.inr ⟨HNO.out, rfl⟩, HK.out⟩

set_option maxRecDepth 100000 in
set_option maxHeartbeats 4000000 in
theorem containsF_at (w : World) (sb mb : Nat) (c : Cfg) (k : Nat) (l : List (Nat × Nat)) (hs : At w sb (.cells #[.map (some mb)] 67)) (hI : IMap w mb (stD c k l l.length)) (hb : ∀ i, i < l.length → c.frm k + posL l i ≤ 100000)
    (x : Option Addr) (n cp B : Nat) (f : Nat → Int) (h : OwnU w B x cp n f) (hn : n ≤ 1000) (hf : ∀ i, i < n → ∃ v : Nat, f i = (v : Int) ∧ v < 18446744073709551616) :
    Calls Tryz.prog 34 #[.slice x n cp, .func (.func 33) #[] #[ptr sb]] w fun e w' => e = .returned (.bool (!((List.range n).all fun j => okW c k l (f j)))) ∧ Keeps [] w w' := by
  have HI := hid (indexF_at w sb mb c k l hs hI hb x n cp B f h hn hf)
  clear hs hI hb h hf
  go_enter Tryz.func34, Tryz.ntmps34
  go_wp2_with fail
  refine HI.out.mono ?_
  rintro e w1 ⟨⟨j, hj, hb, rfl⟩ | ⟨hall, rfl⟩, hk⟩
  · have hE : Hid (((List.range n).all fun j => okW c k l (f j)) = false) := by
      show _ = _
      rw [List.all_eq_false]
      exact ⟨j, List.mem_range.2 hj, by rw [hb]; simp⟩
    have hj0 : (0 : Int) ≤ (j : Int) := by omega
    clear hb
    go_wp2_with fail
    go_ret
    exact ⟨by rw [hE.out]; simp, hk⟩
  · have hE : Hid (((List.range n).all fun j => okW c k l (f j)) = true) := by
      show _ = _
      rw [List.all_eq_true]
      exact fun j hj => hall j (List.mem_range.1 hj)
    clear hall
    go_wp2_with fail
    go_ret
    exact ⟨by rw [hE.out]; simp, hk⟩

set_option maxRecDepth 100000 in
set_option maxHeartbeats 4000000 in
theorem read12_at (w : World) (p : Nat) (a : DA) (S : DS) (c : Cfg) (h : Dev w p a S) (hc : c.Ok) (hn : c.words = a.n) (h1 : 0 ≤ S.now c.act) (h2 : 0 ≤ S.now (c.act + 1)) :
    Calls Tryz.prog 31 #[ptr a.d, cfgV c] w (RdBlk S c w) := by
  have hrn : c.roots ≤ a.n := by
    have := (places hc).2.1
    omega
  have hri : (c.roots : Int) ≤ (a.n : Int) := by omega
  have hr2 : (c.roots : Int) ≤ 16 := by have := hc.2.1; omega
  have t1 : ¬ a.n < c.roots := by omega
  have t2 : decide ((a.n : Int) < (c.roots : Int)) = false := decide_eq_false (by omega)
  have t3 : decide ((c.roots : Int) ≤ (a.n : Int)) = true := decide_eq_true (by omega)
  have HO := hid (And.intro hc (And.intro hn (And.intro h1 h2)))
  clear hc hn h1 h2
  go_enter Tryz.func31, Tryz.ntmps31
  go_upto_region 1 with fail
  have hC0 := (At.new w (cfgO c)).alloc (bkO 0 0 (.slice none 0 0))
  have hB0 := At.new (w.alloc (cfgO c)) (bkO 0 0 (.slice none 0 0))
  have K0 := ((Keeps.refl [] w).alloc (cfgO c)).alloc (bkO 0 0 (.slice none 0 0))
  rw [show (w.alloc (cfgO c)).heap.size = w.heap.size + 1 by simp] at hB0
  obtain ⟨w0, hw0⟩ : ∃ w0, w0 = (w.alloc (cfgO c)).alloc (bkO 0 0 (.slice none 0 0)) := ⟨_, rfl⟩
  have D0 := h.keep K0 (by simp) (by simp) (by simp) (by simp)
  have hz0 : w0.heap.size = w.heap.size + 2 := by rw [hw0]; simp
  rw [← hw0] at hB0 hC0 K0 D0 ⊢
  have h0 := h.fresh (Nat.le_refl _)
  clear hw0 h
  have HL := hid (fun (w' : World) (hk : Keeps [] w0 w') => len_at w' p a S (D0.keep hk (by simp) (by simp) (by simp) (by simp)))
  have c1 := hC0.cell 1 rfl
  have f1 := hC0.free 1
  have hX : Hid (∀ wx, Keeps [] w0 wx → At (wx.setCell ⟨w.heap.size, 1, none⟩ (.int .i64 (c.roots : Nat))) w.heap.size (cfgO c) ∧ Keeps [w.heap.size] w0 (wx.setCell ⟨w.heap.size, 1, none⟩ (.int .i64 (c.roots : Nat)))) := fun wx hk =>
    ⟨by simpa using (hk.at hC0 (by simp)).set 1 (.int .i64 (c.roots : Nat)), (hk.mono (by simp)).set (.inl (by simp)) _⟩
  go_cut [] from 6 to 11 (fun wx => At wx w.heap.size (cfgO c) ∧ Keeps [w.heap.size] w0 wx)
  case first =>
    have kk : Keeps [] w0 w0.drew := (Keeps.refl _ _).drew
    go_region_with (first
      | (go_at_call 54; refine (HL.out _ (by first | exact kk)).mono ?_; rintro e w' ⟨rfl, rfl⟩))
    all_goals
      rw [show min (c.roots : Int) (a.n : Int) = (c.roots : Nat) from Int.min_eq_left hri]
      go_wp2_with fail
      go_meet
      exact ⟨(hX.out w0 (Keeps.refl _ _)).1.drew, (hX.out w0 (Keeps.refl _ _)).2.drew⟩
  case rest =>
    obtain ⟨hC1, kx⟩ := hcut
    have hne := h0
    obtain ⟨n1, n2, n3, n4⟩ := hne
    have D1 := D0.keep kx (by simpa using n1) (by simpa using n2) (by simpa using n3) (by simpa using n4)
    have hB1 := kx.at hB0 (by simp)
    have K1 : Keeps [] w wc := K0.new kx (fun b hb => .inr (by have := List.mem_singleton.1 hb; omega))
    have c0 := hC1.cell 0 rfl
    have c1 := hC1.cell 1 rfl
    have c2 := hC1.cell 2 rfl
    have hbl : w.heap.size + 1 < wc.heap.size := hB1.lt
    have HB1 := hid hB1
    have HK1 := hid K1
    have HD1 := hid D1
    have HBL := hid hbl
    clear hC1 kx n1 n2 n3 n4 D1 D0 hB0 hB1 K1 K0 HL hX hbl hC0 f1 hz0 h0
    go_wp2_with fail
    refine (rread_at wc p a S c HD1.out HO.out.1 HO.out.2.1 HO.out.2.2.1 HO.out.2.2.2).mono ?_
    rintro e w2 (⟨hor, rfl, hk2⟩ | ⟨k, u, x, cp, hk1, hu1, e1, e2, rfl, hU, hk2⟩)
    · have hB2 := hk2.at HB1.out (by simp)
      have HOR := hid hor
      have HK2 := hid (HK1.out.trans hk2)
      have f0 := hB2.free 0
      have f1 := hB2.free 1
      have f2 := hB2.free 2
      have b0 := hB2.cell 0 rfl
      have b1 := hB2.cell 1 rfl
      have b2 := hB2.cell 2 rfl
      have HB2 := hid hB2
      clear hor hk2 c0 c1 c2 hB2
      go_wp2_with fail
      have hF := ((HB2.out.set 0 (.int .i64 0)).set 1 (.int .i64 0)).set 2 (.slice none 0 0)
      have x0 := hF.cell 0 rfl
      have x1 := hF.cell 1 rfl
      have x2 := hF.cell 2 rfl
      refine bodyPost_ret (v := .tuple #[bkV 0 0 (.slice none 0 0), .int .i64 10]) (by simp [results, Tryz.results31, go_sem, x0, x1, x2]) rfl ?_
      exact .inl ⟨HOR.out, rfl, ((HK2.out.set (.inr (by simp)) _).set (.inr (by simp)) _).set (.inr (by simp)) _⟩
    · have hB2 := hk2.at HB1.out (by simp)
      have HOR := hid (And.intro hk1 (And.intro hu1 (And.intro e1 e2)))
      have HK2 := hid (HK1.out.trans hk2)
      have HU := hid hU
      have f0 := hB2.free 0
      have f1 := hB2.free 1
      have f2 := hB2.free 2
      have b0 := hB2.cell 0 rfl
      have b1 := hB2.cell 1 rfl
      have b2 := hB2.cell 2 rfl
      have HB2 := hid hB2
      clear hk1 hu1 e1 e2 hk2 c0 c1 c2 hB2 hU
      go_wp2_with fail
      have hF := ((HB2.out.set 0 (.int .i64 k)).set 1 (.int .i64 u)).set 2 (.slice x c.roots cp)
      have x0 := hF.cell 0 rfl
      have x1 := hF.cell 1 rfl
      have x2 := hF.cell 2 rfl
      refine bodyPost_ret (v := .tuple #[bkV k u (.slice x c.roots cp), .int .i64 0]) (by simp [results, Tryz.results31, go_sem, x0, x1, x2]) rfl ?_
      have kf : Keeps [w.heap.size + 1] w2 (((w2.setCell ⟨w.heap.size + 1, 0, none⟩ (.int .i64 k)).setCell ⟨w.heap.size + 1, 1, none⟩ (.int .i64 u)).setCell ⟨w.heap.size + 1, 2, none⟩ (.slice x c.roots cp)) :=
        (((Keeps.refl _ w2).set (.inl (by simp)) _).set (.inl (by simp)) _).set (.inl (by simp)) _
      refine .inr ⟨k, u, x, cp, HOR.out.1, HOR.out.2.1, HOR.out.2.2.1, HOR.out.2.2.2, rfl, (HU.out.keep kf (fun b hb h => ?_)).low (Nat.le_of_lt (Nat.lt_of_le_of_lt (Nat.le_add_right _ 1) HBL.out)), HK2.out.new kf (fun b hb => .inr (by have := List.mem_singleton.1 hb; omega))⟩
      have h1 := (HU.out.ge b hb).1
      have h2 := List.mem_singleton.1 h
      have h3 := HBL.out
      omega

end Go.Proofs.YtlpmdjmamnkokaaGreat
