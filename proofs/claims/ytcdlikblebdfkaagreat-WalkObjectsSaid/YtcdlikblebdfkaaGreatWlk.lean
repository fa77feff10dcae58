/- Objects, gone over: what stands in a space's used words, one behind the other; the iterator's contract; the map of where they begin. -/
import Derived.Test.YtcdlikblebdfkaaGreatFil
import Derived.Test.YtcdlikblebdfkaaGreatRng
namespace Go.Proofs.YtcdlikblebdfkaaGreat
open Go.RowKit Go.OpenShut

/-! No program: a row of heads. -/

/-- What stands in the words of a space that are used: objects l one behind the other, all of them, or as far as a word that is no head, or one whose words aren't all used. -/
structure Chn (S : DS) (c : Cfg) (k u : Nat) (l : List (Nat × Nat)) (er : Bool) : Prop where
  fits : u ≤ c.space
  head : ∀ i x, l[i]? = some x → x.1 ≤ 64 ∧ x.2 ≤ x.1 ∧ S.now (c.frm k + posL l i) = ((hdPk x.1 x.2 : Nat) : Int)
  done : er = false → lenL l = u
  bad : er = true → lenL l < u ∧ ∃ x : Nat, S.now (c.frm k + lenL l) = (x : Int) ∧ x < 18446744073709551616 ∧ ¬ (isHd x = true ∧ lenL l + (hdN x + 1) ≤ u)

theorem Chn.le {S : DS} {c : Cfg} {k u : Nat} {l : List (Nat × Nat)} {er : Bool} (h : Chn S c k u l er) : lenL l ≤ u := by
  cases er with
  | false => exact Nat.le_of_eq (h.done rfl)
  | true => exact Nat.le_of_lt (h.bad rfl).1

/-- Number i of them, and where it begins. -/
def nL (l : List (Nat × Nat)) (i : Nat) : Nat := (l.getD i (0, 0)).1
def rL (l : List (Nat × Nat)) (i : Nat) : Nat := (l.getD i (0, 0)).2

theorem nL_in {l : List (Nat × Nat)} {i : Nat} (h : i < l.length) : l[i]? = some (nL l i, rL l i) := by
  unfold nL rL
  rw [List.getD_eq_getElem?_getD, List.getElem?_eq_getElem h]
  rfl
theorem nL_out {l : List (Nat × Nat)} {i : Nat} (h : l.length ≤ i) : nL l i = 0 ∧ rL l i = 0 := by
  unfold nL rL
  rw [List.getD_eq_getElem?_getD, List.getElem?_eq_none h]
  exact ⟨rfl, rfl⟩
theorem posN_succ {l : List (Nat × Nat)} {i : Nat} (h : i < l.length) : posL l (i + 1) = posL l i + 1 + nL l i := by
  have h1 := pos_succ h
  have h2 := nL_in h
  rw [List.getElem?_eq_getElem h] at h2
  injection h2 with h2
  rw [h1, h2]
theorem posN_end {l : List (Nat × Nat)} {i : Nat} (h : i < l.length) : posL l i + 1 + nL l i ≤ lenL l := by
  have h1 := posN_succ h
  have h2 := pos_mono (os := l) (i := i + 1) (j := l.length) (by omega) (Nat.le_refl _)
  rw [posL_all] at h2
  omega
theorem posL_lt {l : List (Nat × Nat)} {i j : Nat} (h : i < j) (hj : j ≤ l.length) : posL l i < posL l j := by
  have h1 := posN_succ (l := l) (i := i) (by omega)
  have h2 := pos_mono (os := l) (i := i + 1) (j := j) (by omega) hj
  omega
theorem posL_inj {l : List (Nat × Nat)} {i j : Nat} (hi : i ≤ l.length) (hj : j ≤ l.length) (h : posL l i = posL l j) : i = j := by
  rcases Nat.lt_trichotomy i j with h1 | h1 | h1
  · have := posL_lt h1 hj; omega
  · exact h1
  · have := posL_lt h1 hi; omega

/-! Of, at these places. -/

theorem of_chain {w : World} {p : Nat} {a : DA} {S : DS} (hD : Dev w p a S) {c : Cfg} (hc : c.Ok) (hcn : c.words = a.n) {k : Nat} (hk : k ≤ 1) {u : Nat} {l : List (Nat × Nat)} {er : Bool} (h : Chn S c k u l er) (rs : Value) {i : Nat} (hi : i < l.length) (z : Int) (hz : z = ((c.frm k + posL l i : Nat) : Int)) :
    Calls Tryz.prog 11 #[ptr a.d, cfgV c, bkV k u rs, .int .i64 z] w fun e w' => e = .returned (.tuple #[obV (nL l i : Nat) (rL l i : Nat) z, .int .i64 0]) ∧ Keeps [] w w' := by
  obtain ⟨h1, h2, h3⟩ := h.head i _ (nL_in hi)
  exact of_head w p a S hD c hc hcn k hk u h.fits rs (posL l i) _ _ h3 h1 h2 (by have := posN_end hi; have := h.le; omega) z hz

theorem of_chain_bad {w : World} {p : Nat} {a : DA} {S : DS} (hD : Dev w p a S) {c : Cfg} (hc : c.Ok) (hcn : c.words = a.n) {k : Nat} (hk : k ≤ 1) {u : Nat} {l : List (Nat × Nat)} (h : Chn S c k u l true) (rs : Value) (z : Int) (hz : z = ((c.frm k + lenL l : Nat) : Int)) :
    Calls Tryz.prog 11 #[ptr a.d, cfgV c, bkV k u rs, .int .i64 z] w fun e w' => e = .returned (.tuple #[obV 0 0 0, .int .i64 8]) ∧ Keeps [] w w' := by
  obtain ⟨h1, x, h2, h3, h4⟩ := h.bad rfl
  have hf := frm_le hc.small (show k ≤ 2 by omega)
  have hs := hc.small.2.2
  have hu := h.fits
  refine (of_at w p a S hD c hc hcn k hk u hu rs z (by omega) (fun j hj _ _ => ?_)).mono ?_
  · obtain rfl : c.frm k + lenL l = j := by omega
    exact ⟨x, h2, h3⟩
  · rintro e w' (⟨h5, _⟩ | ⟨j, y, h0, _, _, hx, hxb, hd⟩)
    · exact absurd ⟨by omega, by omega⟩ h5
    · obtain rfl : c.frm k + lenL l = j := by omega
      rw [h2] at hx
      obtain rfl : x = y := by omega
      rcases hd with ⟨_, rfl, hk'⟩ | ⟨h5, h6, _, _⟩
      · exact ⟨rfl, hk'⟩
      · exact absurd ⟨h5, by omega⟩ h4

/-- What the function over objects finds in its boxes. -/
def ObjF (Bb Bc Bd : Nat) (a : DA) (c : Cfg) (k u : Nat) (l : List (Nat × Nat)) (er : Bool) (W : World) : Prop :=
  At W Bb (bkO k u (.slice none 0 0)) ∧ At W Bc (cfgO c) ∧ At W Bd (.cells #[ptr a.d] 28) ∧ ∃ p S, Dev W p a S ∧ Chn S c k u l er

theorem ObjF.keep {Bb Bc Bd : Nat} {a : DA} {c : Cfg} {k u : Nat} {l : List (Nat × Nat)} {er : Bool} {W W' : World} (h : ObjF Bb Bc Bd a c k u l er W) (hk : Keeps [] W W') : ObjF Bb Bc Bd a c k u l er W' := by
  obtain ⟨h1, h2, h3, p, S, h4, h5⟩ := h
  exact ⟨hk.at h1 (by simp), hk.at h2 (by simp), hk.at h3 (by simp), p, S, h4.keep hk (by simp) (by simp) (by simp) (by simp), h5⟩

/-- How many rounds, and of what. -/
def objM (l : List (Nat × Nat)) (er : Bool) : Nat := l.length + (if er then 1 else 0)
def objA (c : Cfg) (k : Nat) (l : List (Nat × Nat)) (i : Nat) : Array Value := #[obV (nL l i : Nat) (rL l i : Nat) ((c.frm k + posL l i : Nat) : Int), .int .i64 (if i < l.length then 0 else 8)]

theorem ObjF.place {Bb Bc Bd : Nat} {a : DA} {c : Cfg} {k u : Nat} {l : List (Nat × Nat)} {er : Bool} {W : World} (h : ObjF Bb Bc Bd a c k u l er W) (hc : c.Ok) (hk : k ≤ 1) (i : Int) (z : Nat) (hi : 0 ≤ i ∧ i ≤ u) (hz : (z : Int) = c.frm k + i) :
    Calls Tryz.prog 15 #[bkV k u (.slice none 0 0), cfgV c, .int .i64 i] W fun e w' => e = .returned (.int .i64 (z : Nat)) ∧ Keeps [] W w' := by
  obtain ⟨_, _, _, p, S, _, h5⟩ := h
  have := h5.fits
  have hs := hc.small.2.2
  refine (place8_at W c hc.small k hk u (.slice none 0 0) i (by omega)).mono ?_
  rintro e w' ⟨rfl, hk'⟩
  exact ⟨by rw [hz], hk'⟩

theorem ObjF.of {Bb Bc Bd : Nat} {a : DA} {c : Cfg} {k u : Nat} {l : List (Nat × Nat)} {er : Bool} {W : World} (h : ObjF Bb Bc Bd a c k u l er W) (hc : c.Ok) (hcn : c.words = a.n) (hk : k ≤ 1) (i z : Nat) (hz : z = c.frm k + posL l i) (hi : i < l.length) :
    Calls Tryz.prog 11 #[ptr a.d, cfgV c, bkV k u (.slice none 0 0), .int .i64 (z : Nat)] W fun e w' => e = .returned (.tuple #[obV (nL l i : Nat) (rL l i : Nat) (z : Nat), .int .i64 0]) ∧ Keeps [] W w' := by
  obtain ⟨_, _, _, p, S, h4, h5⟩ := h
  exact of_chain h4 hc hcn hk h5 _ hi _ (by rw [hz])

theorem ObjF.of_bad {Bb Bc Bd : Nat} {a : DA} {c : Cfg} {k u : Nat} {l : List (Nat × Nat)} {W : World} (h : ObjF Bb Bc Bd a c k u l true W) (hc : c.Ok) (hcn : c.words = a.n) (hk : k ≤ 1) (z : Nat) (hz : z = c.frm k + lenL l) :
    Calls Tryz.prog 11 #[ptr a.d, cfgV c, bkV k u (.slice none 0 0), .int .i64 (z : Nat)] W fun e w' => e = .returned (.tuple #[obV 0 0 0, .int .i64 8]) ∧ Keeps [] W w' := by
  obtain ⟨_, _, _, p, S, h4, h5⟩ := h
  exact of_chain_bad h4 hc hcn hk h5 _ _ (by rw [hz])

set_option maxRecDepth 100000 in
set_option maxHeartbeats 4000000 in
theorem objects_at (w : World) (d : Nat) (c : Cfg) (k u : Int) (rs : Value) :
    Calls Tryz.prog 12 #[ptr d, cfgV c, bkV k u rs] w fun e w' => e = .returned (.func (.func 31) #[] #[ptr (w.heap.size + 2), ptr (w.heap.size + 1), ptr w.heap.size]) ∧
      At w' w.heap.size (.cells #[ptr d] 28) ∧ At w' (w.heap.size + 1) (cfgO c) ∧ At w' (w.heap.size + 2) (bkO k u (.slice none 0 0)) ∧ Keeps [] w w' ∧ w'.heap.size = w.heap.size + 3 := by
  go_enter Tryz.func12, Tryz.ntmps12
  go_upto_region 1 with fail
  have hD := ((At.new w (.cells #[ptr d] 28)).alloc (cfgO c)).alloc (bkO k u rs)
  have hC := (At.new (w.alloc (.cells #[ptr d] 28)) (cfgO c)).alloc (bkO k u rs)
  have hB := At.new ((w.alloc (.cells #[ptr d] 28)).alloc (cfgO c)) (bkO k u rs)
  have K := (((Keeps.refl [] w).alloc (.cells #[ptr d] 28)).alloc (cfgO c)).alloc (bkO k u rs)
  rw [show (w.alloc (.cells #[ptr d] 28)).heap.size = w.heap.size + 1 by simp] at hC
  rw [show ((w.alloc (.cells #[ptr d] 28)).alloc (cfgO c)).heap.size = w.heap.size + 2 by simp] at hB
  obtain ⟨w0, hw0⟩ : ∃ w0, w0 = ((w.alloc (.cells #[ptr d] 28)).alloc (cfgO c)).alloc (bkO k u rs) := ⟨_, rfl⟩
  have hz : w0.heap.size = w.heap.size + 3 := by rw [hw0]; simp
  rw [← hw0] at hD hC hB K
  first | rw [← hw0] | skip
  clear hw0
  have f2 := hB.free 2
  have b2 := hB.cell 2 rfl
  go_wp2_with fail
  go_ret
  exact ⟨rfl, hD.set_ne (a := ⟨w.heap.size + 2, 2, none⟩) (by simp) _, hC.set_ne (a := ⟨w.heap.size + 2, 2, none⟩) (by simp) _, hB.set 2 _, K.set (.inr (by show w.heap.size ≤ w.heap.size + 2; omega)) _, by simpa [World.setCell] using hz⟩

set_option maxRecDepth 100000 in
set_option maxHeartbeats 4000000 in
theorem objs_iter (Bb Bc Bd : Nat) (a : DA) (c : Cfg) (k u : Nat) (l : List (Nat × Nat)) (er : Bool) (hc : c.Ok) (hcn : c.words = a.n) (hk : k ≤ 1) :
    Iter Tryz.prog 31 #[ptr Bb, ptr Bc, ptr Bd] (objM l er) (objA c k l) (ObjF Bb Bc Bd a c k u l er) := by
  intro y J Jx W hJF hJK hY h0
  have hmix : Tryz.prog.follows .mixedOrders = true := by kernel_rfl
  have hF0 := hJF 0 W h0
  have hfr := frm_le hc.small (show k ≤ 2 by omega)
  have hsp := hc.small.2.2
  obtain ⟨_, _, _, _, _, _, hch⟩ := hF0
  have hle := hch.le
  have hfit := hch.fits
  have HC := hid (And.intro hc (And.intro hcn hk))
  have HJF := hid hJF
  have HJK := hid hJK
  have HY := hid hY
  have HF0 := hid (hJF 0 W h0)
  have HB := hid (And.intro hfr (And.intro hsp (And.intro hle hfit)))
  have HCH : Hid ((er = false → lenL l = u) ∧ (er = true → lenL l < u)) := ⟨hch.done, fun h => (hch.bad h).1⟩
  obtain ⟨z0, hz0⟩ : ∃ z0, z0 = c.frm k := ⟨_, rfl⟩
  obtain ⟨ze, hze⟩ : ∃ ze, ze = c.frm k + u := ⟨_, rfl⟩
  have HZ0 := hid hz0
  have HZE := hid hze
  have c0 := HF0.out.1.cell 0 rfl
  have c1 := HF0.out.1.cell 1 rfl
  have c2 := HF0.out.1.cell 2 rfl
  have g0 := HF0.out.2.1.cell 0 rfl
  have g1 := HF0.out.2.1.cell 1 rfl
  have g2 := HF0.out.2.1.cell 2 rfl
  have HJ0 := hid h0
  clear hc hcn hk hJF hJK hY hfr hsp hch hle hfit hz0 hze h0
  refine callsIn_of_wp Tryz.func31 rfl trivial ?_ rfl
  simp only [Tryz.ntmps31, List.size_toArray, List.length_cons, List.length_nil, Nat.reduceAdd, Nat.reduceSub, Array.replicate_succ, Array.replicate_zero, List.push_toArray, List.append_toArray, List.nil_append, List.cons_append]
  gi_wp2_with fail
  refine ⟨trivial, ?_⟩
  refine (callsIn_wide.2 (HF0.out.place HC.out.1 HC.out.2.2 0 z0 (by omega) (by have := HZ0.out; omega))).mono ?_
  rintro e W1 ⟨rfl, hk1⟩
  have HJ1 := hid (HJK.out 0 _ _ HJ0.out hk1)
  clear c0 c1 c2 g0 g1 g2 hk1
  gi_wp2_with fail
  gi_loopg [5] l.length (fun rr s wr => ∃ i zi : Nat, i + rr = l.length ∧ zi = c.frm k + posL l i ∧ s = .int .i64 zi ∧ J i wr)
  case atStart => exact ⟨0, z0, by omega, by rw [HZ0.out, show posL l 0 = 0 from rfl, Nat.add_zero], rfl, HJ1.out⟩
  case round =>
    obtain ⟨i, zi, hi, hzi, rfl, hJ⟩ := hrel
    have hF := HJF.out i _ hJ
    have c0 := hF.1.cell 0 rfl
    have c1 := hF.1.cell 1 rfl
    have c2 := hF.1.cell 2 rfl
    have g0 := hF.2.1.cell 0 rfl
    have g1 := hF.2.1.cell 1 rfl
    have g2 := hF.2.1.cell 2 rfl
    have hpm := pos_mono (os := l) (i := i) (j := l.length) (by omega) (Nat.le_refl _)
    rw [posL_all] at hpm
    have hzb : (zi : Int) ≤ 20000 := by have := HB.out; omega
    have HJi := hid hJ
    have HF := hid hF
    have HII := hid (And.intro hi (And.intro hzi hpm))
    clear hJ hi hzi hpm hF
    gi_wp2_with fail
    refine ⟨trivial, ?_⟩
    refine (callsIn_wide.2 (HF.out.place HC.out.1 HC.out.2.2 u ze (by omega) (by have := HZE.out; omega))).mono ?_
    rintro e W2 ⟨rfl, hk2⟩
    have HJ2 := hid (HJK.out i _ _ HJi.out hk2)
    clear c0 c1 c2 g0 g1 g2 hk2
    by_cases hlt : zi < ze
    · have t1 : decide ((zi : Int) < (ze : Int)) = true := decide_eq_true (by omega)
      have t2 : (zi : Int) < (ze : Int) := by omega
      have hF := HJF.out i _ HJ2.out
      have c0 := hF.1.cell 0 rfl
      have c1 := hF.1.cell 1 rfl
      have c2 := hF.1.cell 2 rfl
      have g0 := hF.2.1.cell 0 rfl
      have g1 := hF.2.1.cell 1 rfl
      have g2 := hF.2.1.cell 2 rfl
      have d0 := hF.2.2.1.cell 0 rfl
      have HF2 := hid hF
      by_cases hil : i < l.length
      · have HOF := hid (fun z hz => HF2.out.of HC.out.1 HC.out.2.1 HC.out.2.2 i z hz hil)
        have HIL := hid hil
        clear hF hlt hil
        gi_wp2_with fail
        refine ⟨trivial, ?_⟩
        refine (callsIn_wide.2 (HOF.out zi HII.out.2.1)).mono ?_
        rintro e W3 ⟨rfl, hk3⟩
        have hJ3 := HJK.out i _ _ HJ2.out hk3
        clear c0 c1 c2 g0 g1 g2 d0 hk3
        obtain ⟨nn, hnn⟩ : ∃ nn, nn = nL l i := ⟨_, rfl⟩
        obtain ⟨rr, hrr⟩ : ∃ rr, rr = rL l i := ⟨_, rfl⟩
        obtain ⟨fn, tmps, assign, body, hy, hR⟩ := HY.out i W3 _ (by unfold objM; have := HIL.out; omega) hJ3 ((Keeps.refl [] W3).alloc (obO (nn : Nat) (rr : Nat) zi))
        rw [show objA c k l i = #[obV (nn : Nat) (rr : Nat) zi, .int .i64 0] by unfold objA; rw [if_pos HIL.out, ← HII.out.2.1, hnn, hrr]] at hy
        rw [← hnn, ← hrr]
        have hn64 : nn ≤ 64 := by
          obtain ⟨_, _, _, _, _, _, hch⟩ := HF2.out
          rw [hnn]
          exact (hch.head i _ (nL_in HIL.out)).1
        have hA3 := At.new W3 (obO (nn : Nat) (rr : Nat) zi)
        have HA3 := hid hA3
        have HZN : Hid (zi + (nn + 1) = c.frm k + posL l (i + 1)) := by
          show _ = _
          rw [posN_succ HIL.out, HII.out.2.1, hnn]
          omega
        clear hnn hrr hA3 hJ3
        gi_wp2_with fail
        refine hR.mono ?_
        rintro e W4 ⟨⟨rfl, hJ4⟩ | ⟨rfl, hx4⟩, T, hkT, hT⟩
        · have hA4 := hkT.at HA3.out (fun h => by have := hT _ h; omega)
          have HJ4 := hid hJ4
          have o0 := hA4.cell 0 rfl
          have o1 := hA4.cell 1 rfl
          have hni : (nn : Int) ≤ 64 := by omega
          clear hJ4 hkT hT hA4 hy hR
          gi_wp2_with fail
          refine ⟨trivial, ?_⟩
          refine (callsIn_wide.2 (hsize_at W4 nn rr (by omega))).mono ?_
          rintro e W5 ⟨rfl, hk5⟩
          have HJ5 := hid (HJK.out _ _ _ HJ4.out hk5)
          clear o0 o1 hk5
          gi_wp2_with fail
          gi_roundg (l.length - (i + 1))
          case measure => (have := HII.out; have := HIL.out; omega)
          case rel => exact ⟨i + 1, zi + (nn + 1), by have := HII.out; have := HIL.out; omega, HZN.out, by go_num, HJ5.out⟩
        · have HX4 := hid hx4
          clear hx4 hkT hT hy hR
          gi_wp2
          exact bodyPost_ret (v := .tuple #[]) (by simp [results, Tryz.results31, go_sem]) rfl ⟨rfl, .inr HX4.out⟩
      · have hie : i = l.length := by have := HII.out.1; omega
        subst hie
        have her : er = true := by
          cases er with
          | true => rfl
          | false =>
            have h1 := HCH.out.1 rfl
            have h2 := HII.out.2.1
            rw [posL_all] at h2
            have := HZE.out
            omega
        subst her
        have HOF := hid (fun z hz => HF2.out.of_bad HC.out.1 HC.out.2.1 HC.out.2.2 z hz)
        clear hF hlt hil
        gi_wp2_with fail
        refine ⟨trivial, ?_⟩
        refine (callsIn_wide.2 (HOF.out zi (by have := HII.out.2.1; rwa [posL_all] at this))).mono ?_
        rintro e W3 ⟨rfl, hk3⟩
        have hJ3 := HJK.out _ _ _ HJ2.out hk3
        clear c0 c1 c2 g0 g1 g2 d0 hk3
        obtain ⟨fn, tmps, assign, body, hy, hR⟩ := HY.out l.length W3 _ (by unfold objM; simp) hJ3 ((Keeps.refl [] W3).alloc (obO 0 0 0))
        rw [show objA c k l l.length = #[obV 0 0 zi, .int .i64 8] by unfold objA; rw [if_neg (by omega), (nL_out (Nat.le_refl _)).1, (nL_out (Nat.le_refl _)).2, ← HII.out.2.1]; rfl] at hy
        clear hJ3
        gi_wp2_with fail
        refine hR.mono ?_
        rintro e W4 ⟨⟨rfl, hJ4⟩ | ⟨rfl, hx4⟩, T, hkT, hT⟩
        · have HJ4 := hid hJ4
          clear hJ4 hkT hT hy hR
          gi_wp2
          exact bodyPost_ret (v := .tuple #[]) (by simp [results, Tryz.results31, go_sem]) rfl ⟨rfl, .inl HJ4.out⟩
        · have HX4 := hid hx4
          clear hx4 hkT hT hy hR
          gi_wp2
          exact bodyPost_ret (v := .tuple #[]) (by simp [results, Tryz.results31, go_sem]) rfl ⟨rfl, .inr HX4.out⟩
    · have hiu : i = l.length ∧ er = false := by
        have h1 := HII.out
        have h2 := HZE.out
        have h3 := HB.out
        by_cases hil : i < l.length
        · have := posN_end hil
          omega
        · have hie : i = l.length := by omega
          refine ⟨hie, ?_⟩
          cases er with
          | false => rfl
          | true =>
            have h4 := HCH.out.2 rfl
            rw [hie, posL_all] at h1
            omega
      obtain ⟨rfl, rfl⟩ := hiu
      have t1 : decide ((zi : Int) < (ze : Int)) = false := decide_eq_false (by omega)
      have t2 : (ze : Int) ≤ (zi : Int) := by omega
      clear hlt
      gi_wp2
      go_end0
      exact ⟨rfl, .inl HJ2.out⟩

end Go.Proofs.YtcdlikblebdfkaaGreat
