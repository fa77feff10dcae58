/- What is reached, gone over: what is asked of the function that From answers. -/
import Derived.Test.YtaicagammbjkiaaGreatTel
namespace Go.Proofs.YtaicagammbjkiaaGreat
open Go.RowKit Go.OpenShut

/-- What From answers: a function whose rounds are what is reached, in order, as long as the device stands. -/
def FrmP (S : DS) (c : Cfg) (k u : Nat) (ws : List Nat) (a : DA) (w : World) (e : Ending) (w' : World) : Prop :=
  ∃ gf lb Fct, e = .returned (.func (.func gf) #[] lb) ∧ (∀ args w, (callFunc gf args).run Tryz.prog w = .ok (.enter gf args) w) ∧
    IterO Tryz.prog gf lb (rcF S c k u ws).length (rcA S (rcF S c k u ws)) Fct ∧
    (∀ T W, Keeps T w' W → (∀ b ∈ T, (b < w.heap.size ∧ b ≠ a.d ∧ b ≠ a.s ∧ b ≠ a.k ∧ b ≠ a.m) ∨ w'.heap.size ≤ b) → Fct W) ∧ Keeps [] w w'

/-- What its function finds in its boxes. -/
structure FrF (a : DA) (c : Cfg) (k u : Nat) (bd bc bb bx : Nat) (S : DS) (x : Option Addr) (n cp : Nat) (f : Nat → Int) (W : World) : Prop where
  bs : FrB a c k u bd bc bb S W
  xb : At W bx (.cells #[.slice x n cp] 31)
  xr : Reads W x n f

/-- Of a row of words so far. -/
theorem seeL_step {S : DS} {c : Cfg} {k u : Nat} {out ws : List Nat} {i v : Nat} (hi : ws[i]? = some v) (ho : (obW S c k u v).isSome = true) (hn : v ∉ seeL S c k u out (ws.take i)) : (seeL S c k u out ws)[(seeL S c k u out (ws.take i)).length]? = some v := by
  have e : ws = ws.take i ++ [v] ++ ws.drop (i + 1) := by
    have e2 : ws.take (i + 1) = ws.take i ++ [v] := by rw [List.take_add_one, hi]; rfl
    rw [← e2, List.take_append_drop]
  obtain ⟨L, hL⟩ : ∃ L, L = seeL S c k u out (ws.take i) := ⟨_, rfl⟩
  have e3 : seeL S c k u out ws = seeL S c k u (L ++ [v]) (ws.drop (i + 1)) := by
    have h1 : seeL S c k u out ws = seeL S c k u out (ws.take i ++ [v] ++ ws.drop (i + 1)) := by rw [← e]
    rw [h1, seeL_app, seeL_one, ← hL, seeW_yes ho (by rw [hL]; exact hn)]
  obtain ⟨t, ht⟩ := seeL_pre (S := S) (c := c) (k := k) (u := u) (ws.drop (i + 1)) (L ++ [v])
  rw [e3, ht, ← hL, List.append_assoc, List.getElem?_append_right (Nat.le_refl _)]
  simp
theorem seeL_next {S : DS} {c : Cfg} {k u : Nat} {ws : List Nat} {i v : Nat} (hi : ws[i]? = some v) (ho : (obW S c k u v).isSome = true) (hn : v ∉ seeL S c k u [] (ws.take i)) : (rcF S c k u ws)[(seeL S c k u [] (ws.take i)).length]? = some v :=
  rcW_get (i := 0) (seeL_step hi ho hn)

/-- Of the names of one so far: the names that aren't nothing, alone. -/
theorem seeL_some {S : DS} {c : Cfg} {k u : Nat} (g : Nat → Nat) (p : Nat → Bool) : ∀ (l out : List Nat), (∀ i ∈ l, p i = false → (obW S c k u (g i)).isSome = false) → seeL S c k u out ((l.filter p).map g) = seeL S c k u out (l.map g)
  | [], _, _ => rfl
  | i :: l, out, h => by
    cases hp : p i with
    | true =>
      rw [List.filter_cons_of_pos hp, List.map_cons, List.map_cons, seeL_cons, seeL_cons]
      exact seeL_some g p l _ fun j hj => h j (by simp [hj])
    | false =>
      rw [List.filter_cons_of_neg (by simp [hp]), List.map_cons, seeL_cons, seeW_none (h i (by simp) hp)]
      exact seeL_some g p l _ fun j hj => h j (by simp [hj])

/-- A word as an int. -/
theorem asInt_any (v : Nat) (h : v < 18446744073709551616) : (-9223372036854775808 ≤ asInt (v : Int) ∧ asInt (v : Int) < 9223372036854775808) ∧ (asInt (v : Int) = (v : Int) ∨ asInt (v : Int) < 0 ∧ 9223372036854775808 ≤ v) := by
  unfold asInt wrap64
  omega

/-- The names that aren't nothing of the next one. -/
theorem rcW_names {S : DS} {c : Cfg} {k u : Nat} {ws : List Nat} {j X rr : Nat} {G : Nat → Int} (hX : (rcW S c k u ws j)[j]? = some X) (hr : rr = hdR (S.now X).toNat)
    (hx : ∀ t, t < rr → ∃ x : Nat, S.now (X + 1 + t) = (x : Int) ∧ x < 18446744073709551616) (hG : ∀ t, t < rr → G t = asInt (S.now (X + 1 + t))) :
    seeL S c k u (rcW S c k u ws j) ((nzL G rr).map fun t => (S.now (X + 1 + t)).toNat) = rcW S c k u ws (j + 1) := by
  rw [rcW_some hX]
  unfold nmW nzL
  rw [← hr]
  refine seeL_some _ _ _ _ fun t ht hp => ?_
  have ht := List.mem_range.1 ht
  have h1 : G t = 0 := by simpa using hp
  rw [hG t ht] at h1
  obtain ⟨v, hv, hvb⟩ := hx t ht
  have h4 := (asInt_any v hvb).2
  rw [hv] at h1 ⊢
  rw [h1] at h4
  clear hvb hG hx hp
  have h5 : v = 0 := by
    rcases h4 with h4 | ⟨h4, _⟩
    · omega
    · exact absurd h4 (by decide)
  subst h5
  rw [Int.toNat_natCast, Bool.eq_false_iff]
  intro h2
  have h3 := obW_in h2
  have h6 := frm_ge (c := c) k
  omega

end Go.Proofs.YtaicagammbjkiaaGreat
