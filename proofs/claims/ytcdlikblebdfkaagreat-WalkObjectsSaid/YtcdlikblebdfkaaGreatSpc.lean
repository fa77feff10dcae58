/- Room for objects: what is fresh; words that are stored in a row by any function; a new object. -/
import Derived.Test.YtcdlikblebdfkaaGreatSto
import Derived.Test.YtcdlikblebdfkaaGreatHead
namespace Go.Proofs.YtcdlikblebdfkaaGreat
open Go.RowKit Go.OpenShut

/-- Where what is fresh begins and ends. -/
abbrev spanV (f t : Int) : Value := .agg #[.int .i64 f, .int .i64 t]

theorem frm_space {c : Cfg} (k : Nat) (hk : k ≤ 1) : c.frm k + c.space ≤ c.words := by
  have h2 := (up8_le c.space).1
  have h3 : c.words = up8 (c.root c.roots) + 2 * up8 c.space := rfl
  have h4 : c.frm k = up8 (c.root c.roots) + k * up8 c.space := rfl
  have h5 : k * up8 c.space ≤ 1 * up8 c.space := Nat.mul_le_mul_right _ hk
  omega

theorem frm_ge {c : Cfg} (k : Nat) : c.act + 2 + c.roots ≤ c.frm k := by
  have h2 := (up8_le (c.root c.roots)).1
  have h4 : c.frm k = up8 (c.root c.roots) + k * up8 c.space := rfl
  have h5 : c.root c.roots = c.act + 2 + c.roots := rfl
  omega

section
variable {F : Nat} {first cap : Array Value} {a : DA} {σ : Type} {now : σ → DS} {own : σ → List Nat} {N : Nat} {J : Nat → σ → World → Prop} {T : σ → Nat → Int → Int → σ → Prop} {G : σ → Nat → Int → World → Prop}

/-- Words that are stored, in a row, up to an error. -/
def SqT (T : σ → Nat → Int → Int → σ → Prop) : List (Nat × Int) → σ → Int → σ → Prop
  | [], s, code, s' => code = 0 ∧ s' = s
  | (i, v) :: l, s, code, s' => ∃ c1 s1, T s i v c1 s1 ∧ ((c1 ≠ 0 ∧ code = c1 ∧ s' = s1) ∨ (c1 = 0 ∧ SqT T l s1 code s'))

/-- Words that are stored, in a row, the power going within. -/
def SqG (T : σ → Nat → Int → Int → σ → Prop) (G : σ → Nat → Int → World → Prop) : List (Nat × Int) → σ → World → Prop
  | [], _, _ => False
  | (i, v) :: l, s, w => G s i v w ∨ ∃ s1, T s i v 0 s1 ∧ SqG T G l s1 w

theorem SqT.app : ∀ {A B : List (Nat × Int)} {s s1 s2 : σ} {code : Int}, SqT T A s 0 s1 → SqT T B s1 code s2 → SqT T (A ++ B) s code s2
  | [], _, _, _, _, _, h, k => by obtain ⟨_, rfl⟩ := h; exact k
  | (i, v) :: A, B, s, s1, s2, code, h, k => by
    obtain ⟨c1, t1, h1, ⟨h2, h3, _⟩ | ⟨h2, h3⟩⟩ := h
    · exact absurd h3.symm h2
    · exact ⟨c1, t1, h1, .inr ⟨h2, h3.app k⟩⟩

theorem SqG.app : ∀ {A B : List (Nat × Int)} {s s1 : σ} {w : World}, SqT T A s 0 s1 → SqG T G B s1 w → SqG T G (A ++ B) s w
  | [], _, _, _, _, h, k => by obtain ⟨_, rfl⟩ := h; exact k
  | (i, v) :: A, B, s, s1, w, h, k => by
    obtain ⟨c1, t1, h1, ⟨h2, h3, _⟩ | ⟨h2, h3⟩⟩ := h
    · exact absurd h3.symm h2
    · subst h2
      exact .inr ⟨t1, h1, SqG.app h3 k⟩

theorem SqG.left : ∀ {A : List (Nat × Int)} {s : σ} {w : World} (B : List (Nat × Int)), SqG T G A s w → SqG T G (A ++ B) s w
  | [], _, _, _, h => h.elim
  | (i, v) :: A, s, w, B, h => by
    rcases h with h | ⟨s1, h1, h2⟩
    · exact .inl h
    · exact .inr ⟨s1, h1, h2.left B⟩

theorem SqT.left : ∀ {A : List (Nat × Int)} {s s1 : σ} {code : Int} (B : List (Nat × Int)), code ≠ 0 → SqT T A s code s1 → SqT T (A ++ B) s code s1
  | [], _, _, _, _, h0, h => absurd h.1 h0
  | (i, v) :: A, s, s1, code, B, h0, h => by
    obtain ⟨c1, t1, h1, h2 | ⟨h2, h3⟩⟩ := h
    · exact ⟨c1, t1, h1, .inl h2⟩
    · exact ⟨c1, t1, h1, .inr ⟨h2, h3.left B h0⟩⟩

/-- How a row of stores ends. -/
def SqP (own : σ → List Nat) (J : Nat → σ → World → Prop) (T : σ → Nat → Int → Int → σ → Prop) (G : σ → Nat → Int → World → Prop) (n : Nat) (l : List (Nat × Int)) (s : σ) (w : World) (e : Ending) (w' : World) : Prop :=
  (∃ code s', e = .returned (.int .i64 code) ∧ SqT T l s code s' ∧ J (n + l.length) s' w' ∧ Keeps (own s) w w' ∧ ∀ b ∈ own s', b ∈ own s ∨ w.heap.size ≤ b) ∨
  (e = .panicked [{ v := goneV, recovered := false }] ∧ SqG T G l s w')

theorem scall_at (hF : Storer F first cap a now own N J T G) (n : Nat) (s : σ) (w : World) (hn : n < N) (hJ : J n s w) (i : Nat) (hi : i < a.n) (v : Int) :
    Calls Tryz.prog F (first ++ (#[.int .i64 i, .int .u64 v] ++ cap)) w (SqP own J T G n [(i, v)] s w) := by
  refine (hF.call n s w i v hn hJ hi).mono ?_
  rintro e w' (⟨code, s', rfl, h1, h2, h3, h4⟩ | ⟨rfl, h1⟩)
  · refine .inl ⟨code, s', rfl, ⟨code, s', h1, ?_⟩, h2, h3, h4⟩
    by_cases hc : code = 0
    · exact .inr ⟨hc, hc, rfl⟩
    · exact .inl ⟨hc, rfl, rfl⟩
  · exact .inr ⟨rfl, .inl h1⟩

/-- So many stores done. -/
def SqR (own : σ → List Nat) (J : Nat → σ → World → Prop) (T : σ → Nat → Int → Int → σ → Prop) (n : Nat) (l : List (Nat × Int)) (s : σ) (w : World) (w' : World) : Prop :=
  ∃ s', SqT T l s 0 s' ∧ J (n + l.length) s' w' ∧ Keeps (own s) w w' ∧ ∀ b ∈ own s', b ∈ own s ∨ w.heap.size ≤ b

theorem sq_seq {l l2 : List (Nat × Int)} {s s1 s2 : σ} {w0 wx w2 w3 : World} {code : Int} (h1 : SqT T l s 0 s1) (hk : Keeps (own s) w0 wx) (ho : ∀ b ∈ own s1, b ∈ own s ∨ w0.heap.size ≤ b) (hkk : Keeps [] wx w2)
    (h2 : SqT T l2 s1 code s2) (hk2 : Keeps (own s1) w2 w3) (ho2 : ∀ b ∈ own s2, b ∈ own s1 ∨ w2.heap.size ≤ b) :
    SqT T (l ++ l2) s code s2 ∧ Keeps (own s) w0 w3 ∧ ∀ b ∈ own s2, b ∈ own s ∨ w0.heap.size ≤ b := by
  have hk3 := hk.trans (hkk.mono (by simp))
  refine ⟨h1.app h2, hk3.new hk2 ho, fun b hb => ?_⟩
  rcases ho2 b hb with h | h
  · exact ho b h
  · exact .inr (Nat.le_trans hk3.size h)

/-- The end of a row of stores. -/
theorem sq_end (hF : Storer F first cap a now own N J T G) {n : Nat} {l R : List (Nat × Int)} {s s2 : σ} {w w0 w3 : World} {code : Int} (hw : Keeps [] w w0) (h1 : SqT T l s code s2) (hJ : J (n + l.length) s2 w3) (hk : Keeps (own s) w0 w3) (ho : ∀ b ∈ own s2, b ∈ own s ∨ w0.heap.size ≤ b) (hc : R = [] ∨ code ≠ 0) :
    SqT T (l ++ R) s code s2 ∧ J (n + (l ++ R).length) s2 w3 ∧ Keeps (own s) w w3 ∧ ∀ b ∈ own s2, b ∈ own s ∨ w.heap.size ≤ b := by
  refine ⟨?_, by rw [List.length_append, ← Nat.add_assoc]; exact hF.mores hJ _, (hw.mono (by simp)).trans hk, fun b hb => ?_⟩
  · rcases hc with rfl | hc
    · rwa [List.append_nil]
    · exact h1.left R hc
  · rcases ho b hb with h | h
    · exact .inl h
    · exact .inr (Nat.le_trans hw.size h)

/-- An object's words, as they are stored: its head, noughts behind it. -/
def layW (p : Nat) (v : Int) (m : Nat) : List (Nat × Int) := (p, v) :: (List.range m).map fun i => (p + 1 + i, 0)

theorem layW_len (p : Nat) (v : Int) (m : Nat) : (layW p v m).length = m + 1 := by simp [layW]
theorem layW_zero (p : Nat) (v : Int) : layW p v 0 = [(p, v)] := rfl
theorem layW_succ (p : Nat) (v : Int) (m : Nat) : layW p v (m + 1) = layW p v m ++ [(p + 1 + m, 0)] := by simp [layW, List.range_succ]
theorem layW_split (p : Nat) (v : Int) {m n : Nat} (h : m ≤ n) : ∃ R, layW p v n = layW p v m ++ R := by
  refine ⟨(layW p v n).drop (m + 1), ?_⟩
  have e : layW p v m = (layW p v n).take (m + 1) := by
    simp only [layW, List.take_succ_cons]
    rw [← List.map_take, List.take_range, Nat.min_eq_left h]
  rw [e, List.take_append_drop]

set_option maxRecDepth 100000 in
set_option maxHeartbeats 4000000 in
theorem lay9_at (hF : Storer F first cap a now own N J T G) (n : Nat) (s : σ) (w : World) (hJ : J n s w) (p nw r : Nat) (hnw : nw ≤ 64) (hr : r ≤ nw) (hp : p + 1 + nw ≤ a.n) (hpb : p ≤ 20000) (hN : n + nw + 1 ≤ N) (hlt : ∀ n s w, J n s w → ∀ b ∈ own s, b < w.heap.size) :
    Calls Tryz.prog 43 #[.int .i64 p, hdV nw r, .func (.func F) first cap] w (SqP own J T G n (layW p (hdPk nw r) nw) s w) := by
  have hpi : (p : Int) ≤ 20000 := by omega
  have hnwi : (nw : Int) ≤ 64 := by omega
  have HP := hid (fun w => hpack_at w nw r hnw hr)
  obtain ⟨pk, hpk⟩ : ∃ pk : Int, pk = ((hdPk nw r : Nat) : Int) := ⟨_, rfl⟩
  rw [← hpk] at HP ⊢
  have HJ := hid hJ
  have HO := hid (hlt n s w hJ)
  have HNN := hid hN
  have hin := hid hp
  clear hJ hlt hpk hN hp hnw hr
  go_enter Tryz.func43, Tryz.ntmps43
  go_upto_region 1 with fail
  have hB0 := At.new w (hdO nw r)
  have K0 := (Keeps.refl [] w).alloc (hdO nw r)
  obtain ⟨w0, hw0⟩ : ∃ w0, w0 = w.alloc (hdO nw r) := ⟨_, rfl⟩
  rw [← hw0] at hB0 K0 ⊢
  clear hw0
  have HJ0 := hid (hF.keep _ _ _ _ HJ.out K0)
  have HNC : Hid (w.heap.size ∉ own s) := fun h => by have := HO.out _ h; omega
  have hinv := hF.inv
  have HCB : Hid (∀ w', Keeps (own s) w0 w' → (w'.cell? ⟨w.heap.size, 0, none⟩ = some (.int .i64 nw) ∧ w'.cell? ⟨w.heap.size, 1, none⟩ = some (.int .i64 r))) := fun w' hk => by
    have h1 := hk.at hB0 HNC.out
    exact ⟨h1.cell 0 rfl, h1.cell 1 rfl⟩
  have HPU : Hid (∀ (m : Nat) (s1 : σ) (wx w' : World) (i : Nat) (z v : Int), m < N → J m s1 wx → Keeps [] wx w' → i < a.n → z = (i : Int) → Calls Tryz.prog F (first ++ (#[.int .i64 z, .int .u64 v] ++ cap)) w' (SqP own J T G m [(i, v)] s1 w')) := fun m s1 wx w' i z v hm hj hk hi hz => by
    subst hz
    exact scall_at hF m s1 w' hm (hF.keep _ _ _ _ hj hk) i hi v
  clear hB0
  obtain ⟨z1, z2⟩ := HCB.out _ (Keeps.refl _ _)
  go_wp2_with fail
  refine (HP.out _).mono ?_
  rintro e w1 ⟨rfl, hk1⟩
  clear z1 z2
  go_wp2_with fail
  refine (HPU.out n s w0 w1 p _ _ (by have := HNN.out; omega) HJ0.out hk1 (by have := hin.out; omega) rfl).mono ?_
  rintro e w2 (⟨c1, s1, rfl, ht1, hj1, hk2, ho1⟩ | ⟨rfl, hg1⟩)
  rotate_left
  · go_wp2_with fail
    refine ⟨rfl, .inr ⟨rfl, ?_⟩⟩
    exact (hg1.left (T := T) (G := G) (A := [(p, pk)]) _)
  have HT1 := hid ht1
  have HJ1 := hid hj1
  have HR1 : Hid (Keeps (own s) w0 w2) := (hk1.mono (by simp)).trans hk2
  have HO1 : Hid (∀ b ∈ own s1, b ∈ own s ∨ w0.heap.size ≤ b) := fun b hb => (ho1 b hb).imp id fun h => Nat.le_trans hk1.size h
  clear ht1 hj1 hk1 hk2 ho1
  by_cases hc1 : c1 = 0
  case neg =>
    have t1 : (c1 == 0) = false := by rw [beq_eq_false_iff_ne]; exact hc1
    have t2 : (c1 != 0) = true := by simp [bne, t1]
    have HC1 := hid hc1
    clear hc1
    go_wp2_with fail
    go_ret
    obtain ⟨R, hR⟩ := layW_split p pk (Nat.zero_le nw)
    rw [hR]
    exact .inl ⟨_, _, rfl, sq_end hF K0 HT1.out HJ1.out HR1.out HO1.out (.inr HC1.out)⟩
  subst hc1
  obtain ⟨z1, z2⟩ := HCB.out _ HR1.out
  go_wp2_with fail
  clear z1 z2
  go_loopg [20] nw (fun r sl wr => ∃ m : Nat, m + r = nw ∧ sl = .int .i64 m ∧ SqR own J T n (layW p pk m) s w0 wr)
  case atStart => exact ⟨0, by omega, rfl, s1, HT1.out, HJ1.out, HR1.out, HO1.out⟩
  case round =>
    obtain ⟨m, hm, rfl, s3, ht3, hj3, hr3, ho3⟩ := hrel
    have HT3 := hid ht3
    have HJ3 := hid hj3
    have HR3 := hid hr3
    have HO3 := hid ho3
    clear ht3 hj3 hr3 ho3
    by_cases hlt : m < nw
    · have hmi : (m : Int) < (nw : Int) := by omega
      have hmb : (m : Int) ≤ 64 := by omega
      have HM := hid hm
      have HLT := hid hlt
      clear hm hlt
      go_wp2_with fail
      refine (HPU.out (n + (layW p pk m).length) s3 wr wr (p + 1 + m) _ _ (by have := HNN.out; have := HLT.out; rw [layW_len]; omega) HJ3.out (Keeps.refl _ _) (by have := hin.out; have := HLT.out; omega) (by omega)).mono ?_
      rintro e w5 (⟨c5, s5, rfl, ht5, hj5, hk5, ho5⟩ | ⟨rfl, hg5⟩)
      · obtain ⟨x1, x2, x3⟩ := sq_seq HT3.out HR3.out HO3.out (Keeps.refl _ _) ht5 hk5 ho5
        rw [← layW_succ] at x1
        have HT5 := hid x1
        have HR5 := hid x2
        have HO5 := hid x3
        have HJ5 : Hid (J (n + (layW p pk (m + 1)).length) s5 w5) := by
          show J _ _ _
          rw [layW_succ, List.length_append, ← Nat.add_assoc]; exact hj5
        clear x1 x2 x3 ht5 hj5 hk5 ho5
        by_cases hc5 : c5 = 0
        · subst hc5
          go_wp2_with fail
          go_roundg (nw - (m + 1))
          case measure => (have := HM.out; omega)
          case rel => exact ⟨m + 1, by have := HM.out; have := HLT.out; omega, by go_num, s5, HT5.out, HJ5.out, HR5.out, HO5.out⟩
        · have t1 : (c5 == 0) = false := by rw [beq_eq_false_iff_ne]; exact hc5
          have t2 : (c5 != 0) = true := by simp [bne, t1]
          have HC5 := hid hc5
          clear hc5
          go_wp2_with fail
          go_ret
          obtain ⟨R, hR⟩ := layW_split p pk (show m + 1 ≤ nw from HLT.out)
          rw [hR]
          exact .inl ⟨_, _, rfl, sq_end hF K0 HT5.out HJ5.out HR5.out HO5.out (.inr HC5.out)⟩
      · go_wp2_with fail
        obtain ⟨R, hR⟩ := layW_split p pk (show m + 1 ≤ nw from HLT.out)
        refine ⟨rfl, .inr ⟨rfl, ?_⟩⟩
        rw [hR, layW_succ, List.append_assoc]
        exact SqG.app HT3.out (SqG.left _ hg5)
    · have hme : m = nw := by omega
      subst hme
      clear hlt hm
      go_wp2_with fail
      go_ret
      have := sq_end (R := []) hF K0 HT3.out HJ3.out HR3.out HO3.out (.inl rfl)
      rw [List.append_nil] at this
      exact .inl ⟨_, _, rfl, this⟩

/-- The words that Alloc stores. -/
def alcW (c : Cfg) (k u nw r : Nat) : List (Nat × Int) := (c.act + 1, ((u + (nw + 1) : Nat) : Int)) :: layW (c.frm k + u) (hdPk nw r) nw

theorem alcW_len (c : Cfg) (k u nw r : Nat) : (alcW c k u nw r).length = nw + 2 := by simp [alcW, layW_len]

/-- How a row of stores ends behind which it is told where the object is. -/
def AlcP (own : σ → List Nat) (J : Nat → σ → World → Prop) (T : σ → Nat → Int → Int → σ → Prop) (G : σ → Nat → Int → World → Prop) (n p : Nat) (l : List (Nat × Int)) (s : σ) (w : World) (e : Ending) (w' : World) : Prop :=
  (∃ code s', e = .returned (.tuple #[.int .i64 (if code = 0 then (p : Int) else 0), .int .i64 code]) ∧ SqT T l s code s' ∧ J (n + l.length) s' w' ∧ Keeps (own s) w w' ∧ ∀ b ∈ own s', b ∈ own s ∨ w.heap.size ≤ b) ∨
  (e = .panicked [{ v := goneV, recovered := false }] ∧ SqG T G l s w')

/-- How Alloc ends, of a head that may be. -/
def AlP (now : σ → DS) (own : σ → List Nat) (J : Nat → σ → World → Prop) (T : σ → Nat → Int → Int → σ → Prop) (G : σ → Nat → Int → World → Prop) (n : Nat) (c : Cfg) (nw r : Nat) (s : σ) (w : World) (e : Ending) (w' : World) : Prop :=
  ((1 < (now s).now c.act ∨ (c.space : Int) < (now s).now (c.act + 1)) ∧ e = .returned (.tuple #[.int .i64 0, .int .i64 10]) ∧ Keeps [] w w') ∨
  (∃ k u : Nat, k ≤ 1 ∧ u ≤ c.space ∧ (now s).now c.act = (k : Int) ∧ (now s).now (c.act + 1) = (u : Int) ∧
    ((c.space < u + (nw + 1) ∧ e = .returned (.tuple #[.int .i64 0, .int .i64 4]) ∧ Keeps [] w w') ∨
     (u + (nw + 1) ≤ c.space ∧ AlcP own J T G n (c.frm k + u) (alcW c k u nw r) s w e w')))

set_option maxRecDepth 100000 in
set_option maxHeartbeats 1000000 in
/-- A head that may not be. -/
theorem alloc9_bad (w : World) (d : Nat) (c : Cfg) (nw r : Int) (h : hdB nw r = false) (fv : Value) :
    Calls Tryz.prog 22 #[ptr d, cfgV c, hdV nw r, fv] w fun e w' => e = .returned (.tuple #[.int .i64 0, .int .i64 5]) ∧ Keeps [] w w' := by
  have HE : Hid (hdE nw r = 5) := by show _ = _; simp [hdE, h]
  clear h
  go_enter Tryz.func22, Tryz.ntmps22
  go_upto_region 1 with fail
  have K0 := ((Keeps.refl [] w).alloc (cfgO c)).alloc (hdO nw r)
  have hH := At.new (w.alloc (cfgO c)) (hdO nw r)
  rw [show (w.alloc (cfgO c)).heap.size = w.heap.size + 1 by simp] at hH
  obtain ⟨w0, hw0⟩ : ∃ w0, w0 = (w.alloc (cfgO c)).alloc (hdO nw r) := ⟨_, rfl⟩
  rw [← hw0] at hH K0 ⊢
  clear hw0
  have h0 := hH.cell 0 rfl
  have h1 := hH.cell 1 rfl
  go_wp2_with fail
  refine (hcheck_any _ nw r).mono ?_
  rintro e w1 ⟨rfl, hk1⟩
  rw [HE.out]
  clear h0 h1
  go_wp2_with fail
  go_ret2
  exact ⟨rfl, K0.trans hk1⟩

set_option maxRecDepth 100000 in
set_option maxHeartbeats 4000000 in
theorem alloc9_at (hF : Storer F first cap a now own N J T G) (n : Nat) (s : σ) (w : World) (hJ : J n s w) (c : Cfg) (hc : c.Ok) (hcn : c.words = a.n) (nw r : Nat) (hnw : nw ≤ 64) (hr : r ≤ nw) (hN : n + nw + 2 ≤ N)
    (h1 : 0 ≤ (now s).now c.act) (h2 : 0 ≤ (now s).now (c.act + 1)) (hlt : ∀ n s w, J n s w → ∀ b ∈ own s, b < w.heap.size) :
    Calls Tryz.prog 22 #[ptr a.d, cfgV c, hdV nw r, .func (.func F) first cap] w (AlP now own J T G n c nw r s w) := by
  have hs := hc.small
  have hai : (c.act : Int) ≤ 823 := by have := act_le hs; omega
  have hsp : (c.space : Int) ≤ 4096 := by have := hs.2.2; omega
  have hnwi : (nw : Int) ≤ 64 := by omega
  have HE : Hid (hdE nw r = 0) := hdE_zero (by omega)
  obtain ⟨p, hD⟩ := hF.dev n s w hJ
  have hK0 : Keeps [] w ((w.alloc (cfgO c)).alloc (hdO nw r)) := ((Keeps.refl [] w).alloc (cfgO c)).alloc (hdO nw r)
  have HO := hid hc
  have HN := hid hcn
  have HJ := hid hJ
  have HOW := hid (hlt n s w hJ)
  have HLT := hid hlt
  have HNN := hid hN
  have H12 := hid (And.intro h1 h2)
  have HW := hid (And.intro hnw hr)
  have hact : Hid (c.act + 2 ≤ a.n) := by
    have := @frm_ge c 1
    have := @frm_space c 1 (Nat.le_refl _)
    show _ ≤ _; omega
  clear hc hcn hJ hlt hN h1 h2 hnw hr
  go_enter Tryz.func22, Tryz.ntmps22
  go_upto_region 1 with fail
  have hC0 := (At.new w (cfgO c)).alloc (hdO nw r)
  have hH0 := At.new (w.alloc (cfgO c)) (hdO nw r)
  rw [show (w.alloc (cfgO c)).heap.size = w.heap.size + 1 by simp] at hH0
  have hz0 : w.heap.size + 2 = ((w.alloc (cfgO c)).alloc (hdO nw r)).heap.size := by simp
  obtain ⟨w0, hw0⟩ : ∃ w0, w0 = (w.alloc (cfgO c)).alloc (hdO nw r) := ⟨_, rfl⟩
  rw [← hw0] at hC0 hH0 hK0 hz0 ⊢
  clear hw0
  have HZ0 := hid hz0
  clear hz0
  have h0 := hH0.cell 0 rfl
  have h1 := hH0.cell 1 rfl
  go_wp2_with fail
  refine (hcheck_any _ nw r).mono ?_
  rintro e w1 ⟨rfl, hk1⟩
  rw [HE.out]
  have hC1 := hk1.at hC0 (by simp)
  have hH1 := hk1.at hH0 (by simp)
  have K1 := hK0.trans hk1
  have HZ1 := hid (Nat.le_trans (Nat.le_of_eq HZ0.out) hk1.size)
  clear h0 h1 hC0 hH0 hk1 hK0 HZ0
  have c0 := hC1.cell 0 rfl
  have c1 := hC1.cell 1 rfl
  have c2 := hC1.cell 2 rfl
  go_wp2_with fail
  refine (rread_at w1 p a (now s) c (hD.keep K1 (by simp) (by simp) (by simp) (by simp)) HO.out HN.out H12.out.1 H12.out.2).mono ?_
  rintro e w2 (⟨h9, rfl, hk2⟩ | ⟨k, u, x, cp, hk, hu, hA, hU, rfl, hOx, hk2⟩)
  · have H9 := hid h9
    clear h9 c0 c1 c2
    go_wp2_with fail
    go_ret2
    exact .inl ⟨H9.out, rfl, (K1.trans hk2).alloc _⟩
  have hC2 := hk2.at hC1 (by simp)
  have hH2 := hk2.at hH1 (by simp)
  have HZ2 := hid (Nat.le_trans HZ1.out hk2.size)
  have K2 := K1.trans hk2
  have HAU := hid (And.intro hA hU)
  have HKU := hid (And.intro hk hu)
  have hui : (u : Int) ≤ 4096 := by omega
  clear c0 c1 c2 hC1 hH1 hk2 hA hU K1 HZ1 hOx
  go_upto_region 7 with fail
  have hC3 := hC2.alloc (bkO k u (.slice x c.roots cp))
  have hH3 := hH2.alloc (bkO k u (.slice x c.roots cp))
  have hB3 := At.new w2 (bkO k u (.slice x c.roots cp))
  have K3 := K2.alloc (bkO k u (.slice x c.roots cp))
  have hz3 : (w2.alloc (bkO k u (.slice x c.roots cp))).heap.size = w2.heap.size + 1 := by simp
  obtain ⟨bb, hbb⟩ : ∃ bb, bb = w2.heap.size := ⟨_, rfl⟩
  obtain ⟨w3, hw3⟩ : ∃ w3, w3 = w2.alloc (bkO k u (.slice x c.roots cp)) := ⟨_, rfl⟩
  have HZB : Hid (w.heap.size + 2 ≤ bb) := by rw [hbb]; exact HZ2.out
  rw [← hw3] at hC3 hH3 hB3 K3 hz3 ⊢
  rw [← hbb] at hB3 hz3 ⊢
  clear hw3 hbb hC2 hH2 K2 HZ2 hz3
  -- what a world behind the head's looks has
  have HNC : Hid (w.heap.size ∉ own s ∧ w.heap.size + 1 ∉ own s ∧ bb ∉ own s) := ⟨fun h => by have := HOW.out _ h; omega, fun h => by have := HOW.out _ h; omega, fun h => by have := HOW.out _ h; have := HZB.out; omega⟩
  have HCB : Hid (∀ w', Keeps (own s) w3 w' → (w'.cell? ⟨w.heap.size, 0, none⟩ = some (.int .i64 c.log) ∧ w'.cell? ⟨w.heap.size, 1, none⟩ = some (.int .i64 c.roots) ∧ w'.cell? ⟨w.heap.size, 2, none⟩ = some (.int .i64 c.space) ∧ w'.cell? ⟨w.heap.size + 1, 0, none⟩ = some (.int .i64 nw) ∧ w'.cell? ⟨w.heap.size + 1, 1, none⟩ = some (.int .i64 r) ∧ w'.cell? ⟨bb, 0, none⟩ = some (.int .i64 k) ∧ w'.cell? ⟨bb, 1, none⟩ = some (.int .i64 u) ∧ w'.cell? ⟨bb, 2, none⟩ = some (.slice x c.roots cp))) := fun w' hk => by
    have e1 := hk.at hC3 HNC.out.1
    have e2 := hk.at hH3 HNC.out.2.1
    have e3 := hk.at hB3 HNC.out.2.2
    exact ⟨e1.cell 0 rfl, e1.cell 1 rfl, e1.cell 2 rfl, e2.cell 0 rfl, e2.cell 1 rfl, e3.cell 0 rfl, e3.cell 1 rfl, e3.cell 2 rfl⟩
  have HSZ := hid (fun (w : World) => hsize_at w nw r (by omega))
  have E1 := hid (show IntKind.i64.wrap ((c.space : Int) - (u : Int)) = (c.space : Int) - (u : Int) from IntWalk.i64_in _ (by omega))
  clear hC3 hH3 hB3
  have e1 := E1.out
  have kk : Keeps [] w3 w3.drew := (Keeps.refl _ _).drew
  go_region_held3 (fun w' => (w'.cell? ⟨w.heap.size, 0, none⟩ = some (.int .i64 c.log) ∧ w'.cell? ⟨w.heap.size, 1, none⟩ = some (.int .i64 c.roots) ∧ w'.cell? ⟨w.heap.size, 2, none⟩ = some (.int .i64 c.space) ∧ w'.cell? ⟨w.heap.size + 1, 0, none⟩ = some (.int .i64 nw) ∧ w'.cell? ⟨w.heap.size + 1, 1, none⟩ = some (.int .i64 r) ∧ w'.cell? ⟨bb, 0, none⟩ = some (.int .i64 k) ∧ w'.cell? ⟨bb, 1, none⟩ = some (.int .i64 u) ∧ w'.cell? ⟨bb, 2, none⟩ = some (.slice x c.roots cp)))
    (exact HCB.out _ (kk.mono (by simp)))
    (first
      | (go_at_call 16; refine (HSZ.out _).mono ?_; rintro e w' ⟨rfl, hk1⟩; have kk := kk.trans hk1; clear hk1))
  rename_i hHd
  clear hHd
  by_cases g : c.space < u + (nw + 1)
  · have t1 : decide ((c.space : Int) - (u : Int) < (nw : Int) + 1) = true := decide_eq_true (by omega)
    have t3 : (c.space : Int) - (u : Int) < (nw : Int) + 1 := by omega
    have HG := hid g
    clear g
    go_wp2_with fail
    go_ret2
    exact .inr ⟨k, u, HKU.out.1, HKU.out.2, HAU.out.1, HAU.out.2, .inl ⟨HG.out, rfl, K3.trans kk⟩⟩
  have t1 : decide ((c.space : Int) - (u : Int) < (nw : Int) + 1) = false := decide_eq_false (by omega)
  have t3 : (nw : Int) + 1 ≤ (c.space : Int) - (u : Int) := by omega
  have HG := hid (show u + (nw + 1) ≤ c.space by omega)
  clear g e1
  obtain ⟨z1, z2, z3, z4, z5, z6, z7, z8⟩ := HCB.out _ (kk.mono (by simp))
  obtain ⟨fp, hfp⟩ : ∃ fp, fp = c.frm k := ⟨_, rfl⟩
  have HPL := hid (fun w => place8_at w c hs k HKU.out.1 u (.slice x c.roots cp) u (by omega))
  have hfi : fp + c.space ≤ a.n := by rw [hfp, ← HN.out]; exact frm_space k HKU.out.1
  have hf15 : fp ≤ 15000 := by rw [hfp]; exact frm_le hs (by have := HKU.out.1; omega)
  rw [← hfp] at HPL
  have HFP := hid hfp
  have HFI := hid (And.intro hfi hf15)
  have hfb : (fp : Int) ≤ 15000 := by omega
  clear hfp hfi hf15
  go_wp2_with fail
  refine (HPL.out _).mono ?_
  rintro e w4 ⟨rfl, hk4⟩
  have k4 := kk.trans hk4
  clear kk hk4 z1 z2 z3 z4 z5 z6 z7 z8 t1
  go_upto_region 10 with fail
  obtain ⟨uv, huv⟩ : ∃ uv : Int, uv = ((u + (nw + 1) : Nat) : Int) := ⟨_, rfl⟩
  have EU := hid (show IntKind.u64.wrap ((u : Int) + ((nw : Int) + 1)) = uv by rw [huv, IntWalk.u64_in _ (by omega)]; simp)
  have HAL : Hid (alcW c k u nw r = [(c.act + 1, uv)] ++ layW (fp + u) (hdPk nw r) nw) := by show _ = _; rw [huv, HFP.out]; rfl
  clear huv
  have EV := hid (show IntKind.i64.wrap ((u : Int) + ((nw : Int) + 1)) = (u : Int) + ((nw : Int) + 1) from IntWalk.i64_in _ (by omega))
  have EW := hid (show wrap64 ((u : Int) + ((nw : Int) + 1)) = (u : Int) + ((nw : Int) + 1) from IntWalk.wrap64_in _ (by omega))
  have HJ4 := hid (hF.keep _ _ _ _ HJ.out (K3.trans k4))
  have hinv := hF.inv
  have HPU : Hid (∀ (m : Nat) (s1 : σ) (wx w' : World) (i : Nat) (z v : Int), m < N → J m s1 wx → Keeps [] wx w' → i < a.n → z = (i : Int) → Calls Tryz.prog F (first ++ (#[.int .i64 z, .int .u64 v] ++ cap)) w' (SqP own J T G m [(i, v)] s1 w')) := fun m s1 wx w' i z v hm hj hk hi hz => by
    subst hz
    exact scall_at hF m s1 w' hm (hF.keep _ _ _ _ hj hk) i hi v
  have HC4 : Hid (∀ w', Keeps (own s) w4 w' → (w'.cell? ⟨w.heap.size, 0, none⟩ = some (.int .i64 c.log) ∧ w'.cell? ⟨w.heap.size, 1, none⟩ = some (.int .i64 c.roots) ∧ w'.cell? ⟨w.heap.size, 2, none⟩ = some (.int .i64 c.space) ∧ w'.cell? ⟨w.heap.size + 1, 0, none⟩ = some (.int .i64 nw) ∧ w'.cell? ⟨w.heap.size + 1, 1, none⟩ = some (.int .i64 r) ∧ w'.cell? ⟨bb, 0, none⟩ = some (.int .i64 k) ∧ w'.cell? ⟨bb, 1, none⟩ = some (.int .i64 u) ∧ w'.cell? ⟨bb, 2, none⟩ = some (.slice x c.roots cp))) := fun w' hk => HCB.out _ ((k4.mono (by simp)).trans hk)
  have e2 := EV.out
  have kk : Keeps [] w4 w4.drew := (Keeps.refl _ _).drew
  go_region_held2 (fun w' => (w'.cell? ⟨w.heap.size, 0, none⟩ = some (.int .i64 c.log) ∧ w'.cell? ⟨w.heap.size, 1, none⟩ = some (.int .i64 c.roots) ∧ w'.cell? ⟨w.heap.size, 2, none⟩ = some (.int .i64 c.space) ∧ w'.cell? ⟨w.heap.size + 1, 0, none⟩ = some (.int .i64 nw) ∧ w'.cell? ⟨w.heap.size + 1, 1, none⟩ = some (.int .i64 r) ∧ w'.cell? ⟨bb, 0, none⟩ = some (.int .i64 k) ∧ w'.cell? ⟨bb, 1, none⟩ = some (.int .i64 u) ∧ w'.cell? ⟨bb, 2, none⟩ = some (.slice x c.roots cp)))
    (first | exact HC4.out _ ((kk.mono (by simp)).trans hk1) | exact HC4.out _ (kk.mono (by simp)))
    (first
      | (go_at_call 17; refine (usedw_at _ c hs).mono ?_; rintro e w' ⟨rfl, hk9⟩; have kk := kk.trans hk9; clear hk9)
      | (go_at_call 16; refine (HSZ.out _).mono ?_; rintro e w' ⟨rfl, hk9⟩; have kk := kk.trans hk9; clear hk9)
      | (rw [EU.out]; refine (HPU.out n s w4 _ (c.act + 1) _ _ (by have := HNN.out; omega) HJ4.out kk (by have := hact.out; omega) (by simp)).mono ?_; rintro e w5 (⟨c1, s1, rfl, ht1, hj1, hk1, ho1⟩ | ⟨rfl, hg1⟩); rotate_left; exact ⟨rfl, .inr ⟨k, u, HKU.out.1, HKU.out.2, HAU.out.1, HAU.out.2, .inr ⟨HG.out, .inr ⟨rfl, by rw [HAL.out]; exact hg1.left _⟩⟩⟩⟩))
  rename_i hHd
  clear hHd e2 t3
  have R1 : Keeps (own s) w4 w5 := (kk.mono (by simp)).trans hk1
  have HO1 : Hid (∀ b ∈ own s1, b ∈ own s ∨ w4.heap.size ≤ b) := fun b hb => (ho1 b hb).imp id fun h => Nat.le_trans kk.size h
  have HT1 := hid ht1
  have HJ1 := hid hj1
  have HR1 := hid R1
  have K4 := K3.trans k4
  clear ht1 hj1 hk1 ho1 R1 kk
  by_cases hc1 : c1 = 0
  case neg =>
    have t1 : (c1 == 0) = false := by rw [beq_eq_false_iff_ne]; exact hc1
    have t2 : (c1 != 0) = true := by simp [bne, t1]
    have HC1 := hid hc1
    clear hc1
    go_wp2_with fail
    go_ret2
    refine .inr ⟨k, u, HKU.out.1, HKU.out.2, HAU.out.1, HAU.out.2, .inr ⟨HG.out, .inl ⟨c1, s1, by rw [if_neg HC1.out]; rfl, ?_⟩⟩⟩
    rw [HAL.out]
    exact sq_end hF K4 HT1.out HJ1.out HR1.out HO1.out (.inr HC1.out)
  subst hc1
  obtain ⟨z1, z2, z3, z4, z5, z6, z7, z8⟩ := HC4.out _ HR1.out
  have HLY : Hid (∀ z : Int, z = ((fp + u : Nat) : Int) → Calls Tryz.prog 43 #[.int .i64 z, hdV nw r, .func (.func F) first cap] w5 (SqP own J T G (n + 1) (layW (fp + u) (hdPk nw r) nw) s1 w5)) := fun z hz => by
    subst hz
    have := HFI.out
    have := HG.out
    exact lay9_at hF (n + 1) s1 w5 HJ1.out (fp + u) nw r HW.out.1 HW.out.2 (by omega) (by omega) (by have := HNN.out; omega) HLT.out
  go_wp2_with fail
  refine (HLY.out _ (by simp)).mono ?_
  rintro e w6 (⟨c2, s2, rfl, ht2, hj2, hk2, ho2⟩ | ⟨rfl, hg2⟩)
  rotate_left
  · go_wp2_with fail
    refine ⟨rfl, .inr ⟨k, u, HKU.out.1, HKU.out.2, HAU.out.1, HAU.out.2, .inr ⟨HG.out, .inr ⟨rfl, ?_⟩⟩⟩⟩
    rw [HAL.out]
    exact SqG.app HT1.out hg2
  obtain ⟨x1, x2, x3⟩ := sq_seq HT1.out HR1.out HO1.out (Keeps.refl _ _) ht2 hk2 ho2
  have HT2 := hid x1
  have HR2 := hid x2
  have HO2 := hid x3
  have HJ2 : Hid (J (n + ([(c.act + 1, uv)] ++ layW (fp + u) (hdPk nw r) nw).length) s2 w6) := by
    show J _ _ _
    rw [List.length_append, ← Nat.add_assoc]; exact hj2
  clear x1 x2 x3 ht2 hj2 hk2 ho2 z1 z2 z3 z4 z5 z6 z7 z8 HLY
  have HEN : Hid (SqT T (alcW c k u nw r) s c2 s2 ∧ J (n + (alcW c k u nw r).length) s2 w6 ∧ Keeps (own s) w w6 ∧ ∀ b ∈ own s2, b ∈ own s ∨ w.heap.size ≤ b) := by
    rw [HAL.out]
    have := sq_end (R := []) hF K4 HT2.out HJ2.out HR2.out HO2.out (.inl rfl)
    rw [List.append_nil] at this
    exact this
  by_cases hc2 : c2 = 0
  · subst hc2
    go_wp2_with fail
    go_ret2
    exact .inr ⟨k, u, HKU.out.1, HKU.out.2, HAU.out.1, HAU.out.2, .inr ⟨HG.out, .inl ⟨0, s2, by rw [if_pos rfl, HFP.out]; simp, HEN.out⟩⟩⟩
  · have t1 : (c2 == 0) = false := by rw [beq_eq_false_iff_ne]; exact hc2
    have t2 : (c2 != 0) = true := by simp [bne, t1]
    have HC2 := hid hc2
    clear hc2
    go_wp2_with fail
    go_ret2
    exact .inr ⟨k, u, HKU.out.1, HKU.out.2, HAU.out.1, HAU.out.2, .inr ⟨HG.out, .inl ⟨c2, s2, by rw [if_neg HC2.out]; rfl, HEN.out⟩⟩⟩

end

end Go.Proofs.YtcdlikblebdfkaaGreat
