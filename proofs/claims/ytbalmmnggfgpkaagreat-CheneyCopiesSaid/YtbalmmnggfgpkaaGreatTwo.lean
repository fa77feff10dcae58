/- Two devices of the same words: what is reached of them, what copies of them hold. No program. -/
import Derived.Test.YtbalmmnggfgpkaaGreatCpk
namespace Go.Proofs.YtbalmmnggfgpkaaGreat
open Go.RowKit Go.OpenShut

section
variable {S T S1 S2 : DS} {c : Cfg} {k u : Nat} {ws : List Nat}

theorem seeW_same (hT : ∀ j, c.frm k ≤ j → j < c.frm k + u → T.now j = S.now j) (out : List Nat) (w : Nat) : seeW T c k u out w = seeW S c k u out w := by
  unfold seeW
  rw [ob_same hT]
theorem seeL_same (hT : ∀ j, c.frm k ≤ j → j < c.frm k + u → T.now j = S.now j) : ∀ (l out : List Nat), seeL T c k u out l = seeL S c k u out l
  | [], _ => rfl
  | w :: l, out => by rw [seeL_cons, seeL_cons, seeW_same hT, seeL_same hT l]
theorem nmW_same (hT : ∀ j, c.frm k ≤ j → j < c.frm k + u → T.now j = S.now j) {x : Nat} (hx : (obW S c k u x).isSome = true) : nmW T x = nmW S x := by
  obtain ⟨h1, h2, h3, h4, _⟩ := ob_yes hx
  have h5 := isHd_pk h3
  unfold nmW
  rw [hT x h1 h2]
  refine List.map_congr_left fun j hj => ?_
  have hj := List.mem_range.1 hj
  show (T.now (x + 1 + j)).toNat = (S.now (x + 1 + j)).toNat
  rw [hT _ (by omega) (by omega)]
theorem rcW_same (hT : ∀ j, c.frm k ≤ j → j < c.frm k + u → T.now j = S.now j) (i : Nat) : rcW T c k u ws i = rcW S c k u ws i := by
  induction i with
  | zero => exact seeL_same hT _ _
  | succ i ih =>
    cases hs : (rcW S c k u ws i)[i]? with
    | none =>
      have h1 := List.getElem?_eq_none_iff.1 hs
      rw [rcW_none h1, rcW_none (by rw [ih]; exact h1), ih]
    | some x =>
      rw [rcW_some hs, rcW_some (by rw [ih]; exact hs), ih, nmW_same hT (rcW_ob i x (List.mem_of_getElem? hs))]
      exact seeL_same hT _ _
theorem rcF_same (hT : ∀ j, c.frm k ≤ j → j < c.frm k + u → T.now j = S.now j) : rcF T c k u ws = rcF S c k u ws := rcW_same hT u
theorem szF_same (hT : ∀ j, c.frm k ≤ j → j < c.frm k + u → T.now j = S.now j) : ∀ l : List Nat, (∀ x ∈ l, (obW S c k u x).isSome = true) → szF T l = szF S l
  | [], _ => rfl
  | x :: l, h => by
    obtain ⟨h1, h2, _⟩ := ob_yes (h x (by simp))
    rw [szF_cons, szF_cons, szF_same hT l fun y hy => h y (by simp [hy]), hT x h1 h2]
theorem RdyC.same (h : RdyC S c k u ws) (hT : ∀ j, c.frm k ≤ j → j < c.frm k + u → T.now j = S.now j) : RdyC T c k u ws := by
  refine ⟨fun j h1 h2 => by rw [hT j h1 h2]; exact h.wd j h1 h2, ?_, ?_⟩
  · rw [rcF_same hT, szF_same hT _ fun x hx => rcF_ob hx]
    exact h.sz
  · rw [rcF_same hT]
    intro x hx w hw
    rw [nmW_same hT (rcF_ob hx)] at hw
    exact h.nm x hx w hw

variable {LS : List Nat}

theorem plC_same (hT : ∀ j, c.frm k ≤ j → j < c.frm k + u → T.now j = S.now j) (ho : ∀ x ∈ LS, (obW S c k u x).isSome = true) (t : Nat) : plC T c k LS t = plC S c k LS t := by
  unfold plC
  rw [szF_same hT _ fun x hx => ho x (List.mem_of_mem_take hx)]
theorem wtC_same (hT : ∀ j, c.frm k ≤ j → j < c.frm k + u → T.now j = S.now j) (ho : ∀ x ∈ LS, (obW S c k u x).isSome = true) (v : Nat) : wtC T c k LS v = wtC S c k LS v := by
  unfold wtC
  rw [plC_same hT ho]

/-- What copies of the same words hold. -/
theorem cpd_eq {n : Nat} (h1 : Cpd S S1 c k LS) (h2 : Cpd T S2 c k LS) (hn : c.frm k + u ≤ n) (hT : ∀ j, j < n → T.now j = S.now j) (ho : ∀ x ∈ LS, (obW S c k u x).isSome = true) : ∀ j, j < n → S2.now j = S1.now j := by
  have hT' : ∀ j, c.frm k ≤ j → j < c.frm k + u → T.now j = S.now j := fun j _ h => hT j (by omega)
  have hsz := szF_same hT' LS ho
  intro j hj
  by_cases hr : c.frm (1 - k) ≤ j ∧ j < c.frm (1 - k) + szF S LS
  · obtain ⟨t, x, off, g1, g2, g3⟩ := szF_ex S LS (j - c.frm (1 - k)) (by omega)
    have hj2 : j = plC S c k LS t + off := by unfold plC; omega
    obtain ⟨f1, f2, f3, f4, _⟩ := ob_yes (ho x (List.mem_of_getElem? g1))
    have f5 := isHd_pk f3
    have hpl := plC_same hT' ho t
    cases off with
    | zero =>
      have e2 := h2.head t x g1
      rw [hpl] at e2
      rw [hj2, Nat.add_zero, h1.head t x g1, e2, hT' x f1 f2]
    | succ i =>
      rw [show j = plC S c k LS t + 1 + i by omega]
      by_cases hi : i < hdR (S.now x).toNat
      · have e2 := h2.name t x g1 i (by rw [hT' x f1 f2]; exact hi)
        rw [hpl, hT' _ (by omega) (by omega), wtC_same hT' ho] at e2
        rw [h1.name t x g1 i hi, e2]
      · have e2 := h2.num t x g1 i (by rw [hT' x f1 f2]; omega) (by rw [hT' x f1 f2]; omega)
        rw [hpl, hT' _ (by omega) (by omega)] at e2
        rw [h1.num t x g1 i (by omega) (by omega), e2]
  · rw [h1.rest j hr, h2.rest j (by rw [hsz]; exact hr), hT j hj]

end
/-- Another collector over a device of the same words: it may be made, too. -/
theorem CP.Ok.same {P : CP} (h : P.Ok) {p : Nat} {a : DA} {T : DS} (hn : a.n = P.a.n) (hT : ∀ j, j < P.a.n → T.now j = P.S.now j) : CP.Ok ⟨p, a, T, P.c, P.k, P.us, P.ws, P.rs⟩ := by
  have h1 := frm_space (c := P.c) P.k h.k
  have h2 := h.n
  have h3 := h.us
  exact ⟨h.c, by rw [hn]; exact h.n, h.k, h.us, h.rdy.same fun j _ hj => hT j (by omega), h.ws, h.rs, h.few, h.root⟩
theorem CP.LS_same {P : CP} (h : P.Ok) {p : Nat} {a : DA} {T : DS} (hT : ∀ j, j < P.a.n → T.now j = P.S.now j) : CP.LS ⟨p, a, T, P.c, P.k, P.us, P.ws, P.rs⟩ = P.LS := by
  have h1 := frm_space (c := P.c) P.k h.k
  have h2 := h.n
  have h3 := h.us
  show rcF T P.c P.k P.us P.ws = rcF P.S P.c P.k P.us P.ws
  exact rcF_same fun j _ hj => hT j (by omega)
theorem CP.N_same {P : CP} (h : P.Ok) {p : Nat} {a : DA} {T : DS} (hT : ∀ j, j < P.a.n → T.now j = P.S.now j) : CP.N ⟨p, a, T, P.c, P.k, P.us, P.ws, P.rs⟩ = P.N := by
  unfold CP.N
  rw [CP.LS_same h hT]
/-- Linked's objects have few words. -/
theorem lenL_few : ∀ os : List (Nat × Nat), (∀ x ∈ os, x.1 ≤ 8 ∧ x.2 ≤ x.1) → lenL os ≤ 9 * os.length
  | [], _ => Nat.le_refl _
  | x :: l, h => by
    have h1 := lenL_few l fun y hy => h y (by simp [hy])
    have h2 := (h x (by simp)).1
    rw [lenL_cons, List.length_cons]
    omega

end Go.Proofs.YtbalmmnggfgpkaaGreat

