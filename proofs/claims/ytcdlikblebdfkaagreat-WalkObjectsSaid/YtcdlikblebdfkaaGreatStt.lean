/- Starts: the map of where objects begin. -/
import Derived.Test.YtcdlikblebdfkaaGreatWlk
namespace Go.Proofs.YtcdlikblebdfkaaGreat
open Go.RowKit Go.OpenShut

/-! The map of where objects begin. -/

/-- What it reads as, of the first i of them. -/
def stD (c : Cfg) (k : Nat) (l : List (Nat × Nat)) (i : Nat) (z : Int) : Option Value :=
  ((List.range i).find? fun j => decide (z = ((c.frm k + posL l j : Nat) : Int))).map fun j => obV (nL l j : Nat) (rL l j : Nat) z

theorem stD_zero (c : Cfg) (k : Nat) (l : List (Nat × Nat)) : stD c k l 0 = fun _ => none := rfl
theorem stD_succ (c : Cfg) (k : Nat) (l : List (Nat × Nat)) (i : Nat) (hi : i < l.length) (z : Int) :
    stD c k l (i + 1) z = if z = ((c.frm k + posL l i : Nat) : Int) then some (obV (nL l i : Nat) (rL l i : Nat) ((c.frm k + posL l i : Nat) : Int)) else stD c k l i z := by
  unfold stD
  rw [List.range_succ, List.find?_append]
  by_cases h : z = ((c.frm k + posL l i : Nat) : Int)
  · rw [if_pos h]
    have hn : (List.range i).find? (fun j => decide (z = ((c.frm k + posL l j : Nat) : Int))) = none := by
      rw [List.find?_eq_none]
      intro j hj
      have hj := List.mem_range.1 hj
      have := posL_lt (l := l) hj (by omega)
      simp only [decide_eq_true_eq]
      omega
    rw [hn, List.find?_cons_of_pos (by simpa using h)]
    simp [h]
  · rw [if_neg h, List.find?_cons_of_neg (by simpa using h)]
    simp
theorem stD_at {c : Cfg} {k : Nat} {l : List (Nat × Nat)} {i m : Nat} (hi : i < m) (hm : m ≤ l.length) : stD c k l m ((c.frm k + posL l i : Nat) : Int) = some (obV (nL l i : Nat) (rL l i : Nat) ((c.frm k + posL l i : Nat) : Int)) := by
  induction m with
  | zero => omega
  | succ m ih =>
    rw [stD_succ _ _ _ _ (by omega)]
    by_cases he : i = m
    · subst he; rw [if_pos rfl]
    · have := posL_lt (l := l) (i := i) (j := m) (by omega) (by omega)
      rw [if_neg (by omega)]
      exact ih (by omega) (by omega)
theorem stD_some {c : Cfg} {k : Nat} {l : List (Nat × Nat)} {m : Nat} (hm : m ≤ l.length) {z : Int} {v : Value} (h : stD c k l m z = some v) : ∃ i, i < m ∧ z = ((c.frm k + posL l i : Nat) : Int) ∧ v = obV (nL l i : Nat) (rL l i : Nat) z := by
  induction m with
  | zero => exact absurd h (by rw [stD_zero]; simp)
  | succ m ih =>
    rw [stD_succ _ _ _ _ (by omega)] at h
    by_cases he : z = ((c.frm k + posL l m : Nat) : Int)
    · rw [if_pos he] at h
      injection h with h
      exact ⟨m, by omega, he, by rw [← h, he]⟩
    · rw [if_neg he] at h
      obtain ⟨i, h1, h2, h3⟩ := ih (by omega) h
      exact ⟨i, by omega, h2, h3⟩

/-- What Starts answers. -/
def StP (c : Cfg) (k : Nat) (l : List (Nat × Nat)) (er : Bool) (w : World) (e : Ending) (w' : World) : Prop :=
  ∃ mb, e = .returned (.tuple #[.map (some mb), .int .i64 (if er then 8 else 0)]) ∧ IMap w' mb (stD c k l l.length) ∧ w.heap.size ≤ mb ∧ Keeps [] w w'

set_option maxRecDepth 100000 in
set_option maxHeartbeats 4000000 in
theorem starts_at (w : World) (p : Nat) (a : DA) (S : DS) (c : Cfg) (k u : Nat) (l : List (Nat × Nat)) (er : Bool) (hD : Dev w p a S) (hc : c.Ok) (hcn : c.words = a.n) (hk : k ≤ 1) (hch : Chn S c k u l er) (rs : Value) :
    Calls Tryz.prog 13 #[ptr a.d, cfgV c, bkV k u rs] w (StP c k l er w) := by
  have hmix : Tryz.prog.follows .mixedOrders = true := by kernel_rfl
  refine callsAt_marks Tryz.func13 rfl (.of_wp ?_)
  simp only [Tryz.ntmps13, List.size_toArray, List.length_cons, List.length_nil, Nat.reduceAdd, Nat.reduceSub, Array.replicate_succ, Array.replicate_zero, List.push_toArray, List.append_toArray, List.nil_append, List.cons_append]
  have hmk := @run_makeMap Tryz.prog
  go_upto_region 1 with fail
  have hD1 := ((((hD.keep ((Keeps.refl [] w).alloc (cfgO c)) (by simp) (by simp) (by simp) (by simp)).keep ((Keeps.refl [] _).alloc (bkO k u rs)) (by simp) (by simp) (by simp) (by simp)).keep ((Keeps.refl [] _).alloc (.cells #[.map none] 50)) (by simp) (by simp) (by simp) (by simp)).keep ((Keeps.refl [] _).alloc (.cells #[.int .i64 0] 38)) (by simp) (by simp) (by simp) (by simp))
  have K1 := ((((Keeps.refl [] w).alloc (cfgO c)).alloc (bkO k u rs)).alloc (.cells #[.map none] 50)).alloc (.cells #[.int .i64 0] 38)
  have hC1 := (((At.new w (cfgO c)).alloc (bkO k u rs)).alloc (.cells #[.map none] 50)).alloc (.cells #[.int .i64 0] 38)
  have hB1 := ((At.new (w.alloc (cfgO c)) (bkO k u rs)).alloc (.cells #[.map none] 50)).alloc (.cells #[.int .i64 0] 38)
  have hM1 := (At.new ((w.alloc (cfgO c)).alloc (bkO k u rs)) (.cells #[.map none] 50)).alloc (.cells #[.int .i64 0] 38)
  have hE1 := At.new (((w.alloc (cfgO c)).alloc (bkO k u rs)).alloc (.cells #[.map none] 50)) (.cells #[.int .i64 0] 38)
  simp only [World.size_alloc] at hB1 hM1 hE1
  obtain ⟨w1, hw1⟩ : ∃ w1, w1 = (((w.alloc (cfgO c)).alloc (bkO k u rs)).alloc (.cells #[.map none] 50)).alloc (.cells #[.int .i64 0] 38) := ⟨_, rfl⟩
  have hz1 : w1.heap.size = w.heap.size + 4 := by rw [hw1]; simp
  rw [← hw1] at hD1 K1 hC1 hB1 hM1 hE1
  first | rw [← hw1] | skip
  obtain ⟨q0, hq0⟩ : ∃ q, q = w.heap.size := ⟨_, rfl⟩
  obtain ⟨q1, hq1⟩ : ∃ q, q = w.heap.size + 1 := ⟨_, rfl⟩
  obtain ⟨q2, hq2⟩ : ∃ q, q = w.heap.size + 1 + 1 := ⟨_, rfl⟩
  obtain ⟨q3, hq3⟩ : ∃ q, q = w.heap.size + 1 + 1 + 1 := ⟨_, rfl⟩
  rw [← hq3, ← hq2, ← hq1, ← hq0]
  rw [← hq0] at hC1
  rw [← hq1] at hB1
  rw [← hq2] at hM1
  rw [← hq3] at hE1
  have HQ : Hid (q0 = w.heap.size ∧ q1 = q0 + 1 ∧ q2 = q0 + 2 ∧ q3 = q0 + 3 ∧ w1.heap.size = q0 + 4) := ⟨by omega, by omega, by omega, by omega, by omega⟩
  have HDL0 : Hid (a.d < q0 ∧ a.s < q0 ∧ a.k < q0 ∧ a.m < q0) := by
    have h1 := hD.dev.lt
    have h2 := hD.now.lt
    have h3 := hD.kept.lt
    have h4 := hD.map.lt
    exact ⟨by omega, by omega, by omega, by omega⟩
  clear hw1 hD hz1 hq0 hq1 hq2 hq3
  have HCH := hid hch
  have HC := hid (And.intro hc (And.intro hcn hk))
  clear hc hcn hk hch
  go_upto_region 2 with fail
  have hI2 := (IMap.made w1).keep ((Keeps.refl [] _).alloc (.cells #[.map (some w1.heap.size)] 50)) (by simp)
  have hS2 := At.new (w1.alloc (.map #[] 0)) (.cells #[.map (some w1.heap.size)] 50)
  simp only [World.size_alloc] at hS2
  have k12 := ((Keeps.refl [] w1).alloc (.map #[] 0)).alloc (.cells #[.map (some w1.heap.size)] 50)
  obtain ⟨mb, hmb⟩ : ∃ mb, mb = w1.heap.size := ⟨_, rfl⟩
  obtain ⟨sb, hsb⟩ : ∃ sb, sb = w1.heap.size + 1 := ⟨_, rfl⟩
  obtain ⟨w2, hw2⟩ : ∃ w2, w2 = (w1.alloc (.map #[] 0)).alloc (.cells #[.map (some w1.heap.size)] 50) := ⟨_, rfl⟩
  have hz2 : w2.heap.size = mb + 2 := by rw [hw2, hmb]; simp
  rw [← hw2, ← hmb] at hI2
  rw [← hsb] at hS2 ⊢
  rw [← hw2, ← hmb] at hS2
  rw [← hw2] at k12
  first | rw [← hw2] | skip
  rw [← hmb]
  have hD2 := hD1.keep k12 (by simp) (by simp) (by simp) (by simp)
  have hC2 := k12.at hC1 (by simp)
  have hB2 := k12.at hB1 (by simp)
  have hM2 := k12.at hM1 (by simp)
  have hE2 := k12.at hE1 (by simp)
  have K2 := K1.trans k12
  have HN2 : Hid (mb = q0 + 4 ∧ sb = q0 + 5 ∧ w2.heap.size = q0 + 6) := by
    have := HQ.out
    exact ⟨by omega, by omega, by omega⟩
  clear hw2 hmb hsb hz2 k12 hD1 hC1 hB1 hM1 hE1 K1
  have c0 := hC2.cell 0 rfl
  have c1 := hC2.cell 1 rfl
  have c2 := hC2.cell 2 rfl
  have b0 := hB2.cell 0 rfl
  have b1 := hB2.cell 1 rfl
  have b2 := hB2.cell 2 rfl
  go_wp2_with fail
  refine (objects_at w2 a.d c k u rs).mono ?_
  rintro e w3 ⟨rfl, hx0, hx1, hx2, k23, hz3⟩
  have hD3 := hD2.keep k23 (by simp) (by simp) (by simp) (by simp)
  have hM3 := k23.at hM2 (by simp)
  have hE3 := k23.at hE2 (by simp)
  have hS3 := k23.at hS2 (by simp)
  have hI3 := hI2.keep k23 (by simp)
  have K3 := K2.trans k23
  have HO3 : Hid (ObjF (w2.heap.size + 2) (w2.heap.size + 1) w2.heap.size a c k u l er w3) := ⟨hx2, hx1, hx0, p, S, hD3, HCH.out⟩
  have HN3 : Hid (w3.heap.size = q0 + 9) := by
    have := HN2.out
    show _ = _
    omega
  clear c0 c1 c2 b0 b1 b2 hx0 hx1 hx2 hC2 hB2 hM2 hE2 hS2 hI2 K2 hD2 k23 hz3
  go_wp2_with fail
  have HDL : Hid (a.d < q0 ∧ a.s < q0 ∧ a.k < q0 ∧ a.m < q0) := HDL0
  have HM3 := hid hM3
  have HE3 := hid hE3
  have HS3 := hid hS3
  have HI3 := hid hI3
  have HK3 := hid K3
  have HX3 := hid (And.intro HN2.out HN3.out)
  clear hM3 hE3 hS3 hI3 K3 hD3 HDL0
  refine wp_rangeE (gf := 31) (lb := #[ptr (w2.heap.size + 2), ptr (w2.heap.size + 1), ptr w2.heap.size]) rfl (enters_of Tryz.func31 (by kernel_rfl) rfl) (fun fn => ?_)
  refine' (iter_core (objs_iter _ _ _ a c k u l er HC.out.1 HC.out.2.1 HC.out.2.2) fn w3 _ _ _ _
    (fun i W => i ≤ l.length ∧ IMap W mb (stD c k l i) ∧ Keeps [mb] w3 W)
    (fun W => er = true ∧ At W q2 (.cells #[.map (some mb)] 50) ∧ At W q3 (.cells #[.int .i64 8] 38) ∧ IMap W mb (stD c k l l.length) ∧ Keeps [mb, q2, q3] w3 W)
    .ret .ret (.inl ⟨rfl, rfl⟩) (fun _ => rfl) ?fct ?keep ?keepx ?round ?start).mono ?after
  case fct =>
    rintro i W ⟨_, _, hk⟩
    obtain ⟨h1, h2, h3, p', S', h4, h5⟩ := HO3.out
    have hx := HX3.out
    have hd := HDL.out
    exact ⟨hk.at h1 (by simp; omega), hk.at h2 (by simp; omega), hk.at h3 (by simp; omega), p', S', h4.keep hk (by simp; omega) (by simp; omega) (by simp; omega) (by simp; omega), h5⟩
  case keep =>
    rintro i W W' ⟨h1, h2, hk⟩ hk'
    have hx := HX3.out
    exact ⟨h1, h2.keep hk' (by simp; omega), hk.new hk' (by simp)⟩
  case keepx =>
    rintro W W' ⟨h1, h2, h3, h4, hk⟩ hk'
    have hx := HX3.out
    have hq := HQ.out
    exact ⟨h1, hk'.at h2 (by simp; omega), hk'.at h3 (by simp; omega), h4.keep hk' (by simp; omega), hk.new hk' (by simp)⟩
  case start => exact ⟨Nat.zero_le _, by rw [stD_zero]; exact HI3.out, Keeps.refl _ _⟩
  case round =>
    rintro l' i W0 W him ⟨_, _, hk0⟩ k0 ⟨hil, hI, hK⟩ hsz
    by_cases hlt : i < l.length
    · rw [show objA c k l i = #[obV (nL l i : Nat) (rL l i : Nat) ((c.frm k + posL l i : Nat) : Int), .int .i64 0] by unfold objA; rw [if_pos hlt]]
      obtain ⟨nn, hnn⟩ : ∃ nn, nn = nL l i := ⟨_, rfl⟩
      obtain ⟨rr, hrr⟩ : ∃ rr, rr = rL l i := ⟨_, rfl⟩
      obtain ⟨zi, hzi⟩ : ∃ zi, zi = c.frm k + posL l i := ⟨_, rfl⟩
      rw [← hnn, ← hrr, ← hzi]
      have HNN := hid (And.intro hnn (And.intro hrr hzi))
      have HLT := hid hlt
      have HI0 := hid hI
      have HKW := hid hK
      clear hnn hrr hzi hlt hI hK
      have hsem := @Oper.semAt_some
      gi_wp2_with fail
      refine ⟨(Keeps.refl [] W).alloc _, fun W₂ k2 hz2 => ?_⟩
      have hx := HX3.out
      have hm0 : mb < W0.heap.size := by have := hk0.size; omega
      have hWz : W0.heap.size ≤ W.heap.size := k0.size
      have hA2 := k2.at (At.new W (obO (nn : Nat) (rr : Nat) zi)) (by simp; omega)
      have kW2 : Keeps [w3.heap.size + 1] W W₂ := ((Keeps.refl _ W).alloc _).trans k2
      have hS2 := kW2.at (HKW.out.at HS3.out (by simp; omega)) (by simp; omega)
      have hI2 := HI0.out.keep kW2 (by simp; omega)
      obtain ⟨W', hrun, hI', hk'⟩ := hI2.update (P := Tryz.prog) Tryz.underlying50 Tryz.underlying3 (zi : Int) (obV (nn : Nat) (rr : Nat) zi)
      have HI' := hid hI'
      have HK' := hid (show Keeps [mb] w3 W' from (HKW.out.new kW2 (by simp)).trans hk')
      have HT' := hid hk'
      have HM0 := hid hm0
      have o0 := hA2.cell 0 rfl
      have o1 := hA2.cell 1 rfl
      have o2 := hA2.cell 2 rfl
      have s0 := hS2.cell 0 rfl
      clear hI' hk' hI2 hA2 hS2 kW2 k2 hz2 hm0 hWz hx
      gi_wp2_with fail
      refine ⟨⟨HLT.out, HI'.out.congr fun z => ?_, HK'.out⟩, [mb], HT'.out, ?_, ?_, fun b hb => .inl ?_⟩
      · rw [stD_succ _ _ _ _ HLT.out, HNN.out.1, HNN.out.2.1, HNN.out.2.2]
      · have := HX3.out; simp; omega
      · have := HX3.out; simp; omega
      · obtain rfl := List.mem_singleton.1 hb
        exact HM0.out
    · have hie : i = l.length := by omega
      subst hie
      have her : er = true := by
        cases er with
        | true => rfl
        | false => unfold objM at him; simp at him
      rw [show objA c k l l.length = #[obV 0 0 ((c.frm k + posL l l.length : Nat) : Int), .int .i64 8] by unfold objA; rw [if_neg (by omega), (nL_out (Nat.le_refl _)).1, (nL_out (Nat.le_refl _)).2]; rfl]
      obtain ⟨zi, hzi⟩ : ∃ zi, zi = c.frm k + posL l l.length := ⟨_, rfl⟩
      rw [← hzi]
      have HI0 := hid hI
      have HKW := hid hK
      clear hzi hlt hil him hI hK
      have hsem := @Oper.semAt_some
      gi_wp2_with fail
      refine ⟨(Keeps.refl [] W).alloc _, fun W₂ k2 hz2 => ?_⟩
      have hx := HX3.out
      have hq := HQ.out
      have hm0 : mb < W0.heap.size ∧ q2 < W0.heap.size ∧ q3 < W0.heap.size := by have := hk0.size; omega
      have hWz : W0.heap.size ≤ W.heap.size := k0.size
      have kW2 : Keeps [w3.heap.size + 1] W W₂ := ((Keeps.refl _ W).alloc _).trans k2
      have hS2 := kW2.at (HKW.out.at HS3.out (by simp; omega)) (by simp; omega)
      have hM2 := kW2.at (HKW.out.at HM3.out (by simp; omega)) (by simp; omega)
      have hE2 := kW2.at (HKW.out.at HE3.out (by simp; omega)) (by simp; omega)
      have hI2 := HI0.out.keep kW2 (by simp; omega)
      have HK2 := hid (show Keeps [mb] w3 W₂ from HKW.out.new kW2 (by simp))
      have s0 := hS2.cell 0 rfl
      have m0 := hM2.cell 0 rfl
      have mf := hM2.free 0
      have e0 := hE2.cell 0 rfl
      have ef := hE2.free 0
      have hne : q2 ≠ q3 := by omega
      have HM2 := hid hM2
      have HE2 := hid hE2
      have HI2 := hid hI2
      have HM0 := hid hm0
      clear kW2 k2 hz2 hm0 hWz hx hq hS2 hM2 hE2 hI2
      gi_wp2_with fail
      refine ⟨⟨?_, ?_, ?_, ?_⟩, [q2, q3], ((Keeps.refl _ W₂).set (p := ⟨q2, 0, none⟩) (.inl (by simp)) _).set (p := ⟨q3, 0, none⟩) (.inl (by simp)) _, ?_, ?_, fun b hb => .inl ?_⟩
      · exact (HM2.out.set 0 (.map (some mb))).set_ne (a := ⟨q3, 0, none⟩) hne _
      · exact (HE2.out.set_ne (a := ⟨q2, 0, none⟩) hne.symm _).set 0 (.int .i64 8)
      · exact HI2.out.keep (((Keeps.refl [q2, q3] W₂).set (p := ⟨q2, 0, none⟩) (.inl (by simp)) _).set (p := ⟨q3, 0, none⟩) (.inl (by simp)) _) (by have := HX3.out; have := HQ.out; simp; omega)
      · exact ((HK2.out.mono (by intro x _ h; rw [List.mem_singleton.1 h]; simp)).set (p := ⟨q2, 0, none⟩) (.inl (by simp)) _).set (p := ⟨q3, 0, none⟩) (.inl (by simp)) _
      · have := HX3.out; have := HQ.out; simp; omega
      · have := HX3.out; have := HQ.out; simp; omega
      · have := HM0.out
        simp at hb
        rcases hb with rfl | rfl <;> omega
  case after =>
    intro e w4 hr
    cases e with
    | panicked _ => exact hr
    | outgrown => exact hr
    | returned v =>
      rcases hr with ⟨w5, hend, ⟨hil, hI, hK⟩, hDf⟩ | ⟨w5, hend, ⟨her, hM, hE, hI, hK⟩, hDf⟩
      · have her : er = false := by
          cases er with
          | false => rfl
          | true => unfold objM at hil; simp only [if_true] at hil; omega
        refine .inl ⟨w5, hend, ?_⟩
        have hx := HX3.out
        have hq := HQ.out
        have hm5 := hK.at HM3.out (by simp; omega)
        have he5 := hK.at HE3.out (by simp; omega)
        have hs5 := hK.at HS3.out (by simp; omega)
        have K5 : Keeps [] w w5 := HK3.out.new hK (fun b hb => .inr (by have := List.mem_singleton.1 hb; omega))
        have s0 := hs5.cell 0 rfl
        have m0 := hm5.cell 0 rfl
        have mf := hm5.free 0
        have e0 := he5.cell 0 rfl
        have ef := he5.free 0
        have hne : q2 ≠ q3 := by omega
        have hmm := (hm5.set 0 (.map (some mb))).set_ne (a := ⟨q3, 0, none⟩) hne (.int .i64 0)
        have hee := (he5.set_ne (a := ⟨q2, 0, none⟩) hne.symm (.map (some mb))).set 0 (.int .i64 0)
        have hdd := (hDf.set_ne (a := ⟨q2, 0, none⟩) (by show w3.heap.size ≠ q2; omega) (.map (some mb))).set_ne (a := ⟨q3, 0, none⟩) (by show w3.heap.size ≠ q3; omega) (.int .i64 0)
        have kk : Keeps [q2, q3] w5 ((w5.setCell ⟨q2, 0, none⟩ (.map (some mb))).setCell ⟨q3, 0, none⟩ (.int .i64 0)) := ((Keeps.refl _ w5).set (p := ⟨q2, 0, none⟩) (.inl (by simp)) _).set (p := ⟨q3, 0, none⟩) (.inl (by simp)) _
        have hii := hI.keep kk (by simp; omega)
        have K6 := K5.new kk (fun b hb => .inr (by simp at hb; rcases hb with rfl | rfl <;> omega))
        obtain ⟨w6, hw6⟩ : ∃ w6, w6 = (w5.setCell ⟨q2, 0, none⟩ (.map (some mb))).setCell ⟨q3, 0, none⟩ (.int .i64 0) := ⟨_, rfl⟩
        rw [← hw6] at hmm hee hdd hii K6
        have HW6 := hid hw6
        have HMM := hid hmm
        have HEE := hid hee
        have HDD := hid hdd
        have HII := hid hii
        have HK6 := hid K6
        clear hw6 hmm hee hdd hii K6 kk hx hq hm5 he5 hs5 K5 hI hK hDf hend hil
        simp only [Exit.inBlock, Exit.then]
        go_wp2_with fail
        rw [← HW6.out]
        refine ⟨by simp, .inl ⟨_, _, rfl, run_takeDeferred HDD.out, ?_⟩⟩
        have hx := HX3.out
        have hq := HQ.out
        have kd : Keeps [w3.heap.size] w6 (w6.putObj w3.heap.size (.deferred none)) := (Keeps.refl _ _).put (.inl (by simp)) _
        have f1 : (w6.putObj w3.heap.size (.deferred none)).cell? ⟨q2, 0, none⟩ = some (.map (some mb)) := (kd.at HMM.out (by simp; omega)).cell 0 rfl
        have f2 : (w6.putObj w3.heap.size (.deferred none)).cell? ⟨q3, 0, none⟩ = some (.int .i64 0) := (kd.at HEE.out (by simp; omega)).cell 0 rfl
        refine ⟨.tuple #[.map (some mb), .int .i64 0], ?_, mb, ?_, ?_, by omega, HK6.out.new kd (fun b hb => .inr (by have := List.mem_singleton.1 hb; omega))⟩
        · simp [results, Tryz.results13, go_sem, f1, f2]
        · rw [her]; rfl
        · have := HII.out.keep kd (by simp; omega)
          rw [her] at this
          exact this
      · refine .inr ⟨.ret, w5, hend, ?_⟩
        have hx := HX3.out
        have hq := HQ.out
        have K5 : Keeps [] w w5 := HK3.out.new hK (fun b hb => .inr (by simp at hb; rcases hb with rfl | rfl | rfl <;> omega))
        go_wp2_with fail
        refine ⟨by simp, .inl ⟨_, _, rfl, run_takeDeferred hDf, ?_⟩⟩
        have kd : Keeps [w3.heap.size] w5 (w5.putObj w3.heap.size (.deferred none)) := (Keeps.refl _ _).put (.inl (by simp)) _
        have f1 : (w5.putObj w3.heap.size (.deferred none)).cell? ⟨q2, 0, none⟩ = some (.map (some mb)) := (kd.at hM (by simp; omega)).cell 0 rfl
        have f2 : (w5.putObj w3.heap.size (.deferred none)).cell? ⟨q3, 0, none⟩ = some (.int .i64 8) := (kd.at hE (by simp; omega)).cell 0 rfl
        refine ⟨.tuple #[.map (some mb), .int .i64 8], ?_, mb, ?_, hI.keep kd (by simp; omega), by omega, K5.new kd (fun b hb => .inr (by have := List.mem_singleton.1 hb; omega))⟩
        · simp [results, Tryz.results13, go_sem, f1, f2]
        · rw [her]; rfl

end Go.Proofs.YtcdlikblebdfkaaGreat
