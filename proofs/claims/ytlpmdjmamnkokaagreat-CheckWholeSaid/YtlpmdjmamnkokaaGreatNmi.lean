/- The function over an object's names, as one that is gone over: the names that aren't nothing, one by one. -/
import Derived.Test.YtlpmdjmamnkokaaGreatRin
import Derived.Test.YtlpmdjmamnkokaaGreatNam
namespace Go.Proofs.YtlpmdjmamnkokaaGreat
open Go.RowKit Go.OpenShut

/-- The fields below k whose names aren't nothing; how many. -/
def nzL (f : Nat → Int) (k : Nat) : List Nat := (List.range k).filter fun i => decide (f i ≠ 0)
def nzC (f : Nat → Int) (k : Nat) : Nat := (nzL f k).length

theorem nzL_yes {f : Nat → Int} {k : Nat} (h : f k ≠ 0) : nzL f (k + 1) = nzL f k ++ [k] := by
  unfold nzL
  rw [List.range_succ, List.filter_append]
  simp [h]
theorem nzL_no {f : Nat → Int} {k : Nat} (h : f k = 0) : nzL f (k + 1) = nzL f k := by
  unfold nzL
  rw [List.range_succ, List.filter_append]
  simp [h]
theorem nzC_yes {f : Nat → Int} {k : Nat} (h : f k ≠ 0) : nzC f (k + 1) = nzC f k + 1 := by
  unfold nzC
  rw [nzL_yes h]
  simp
theorem nzC_no {f : Nat → Int} {k : Nat} (h : f k = 0) : nzC f (k + 1) = nzC f k := by
  unfold nzC
  rw [nzL_no h]
theorem nzL_get {f : Nat → Int} {k : Nat} : ∀ {r : Nat}, k < r → f k ≠ 0 → (nzL f r)[nzC f k]? = some k
  | 0, h, _ => absurd h (by omega)
  | r + 1, h, hf => by
    by_cases hk : k = r
    · subst hk
      rw [nzL_yes hf, show nzC f k = (nzL f k).length from rfl, List.getElem?_append_right (Nat.le_refl _)]
      simp
    · have ih := nzL_get (r := r) (by omega) hf
      by_cases hr : f r = 0
      · rw [nzL_no hr]; exact ih
      · rw [nzL_yes hr, List.getElem?_append_left (List.getElem?_eq_some_iff.1 ih).1]
        exact ih
theorem nzL_mem {f : Nat → Int} {r j : Nat} (h : j < nzC f r) : ∃ i, i < r ∧ f i ≠ 0 ∧ nzC f i = j := by
  induction r with
  | zero => exact absurd h (by simp [nzC, nzL])
  | succ r ih =>
    by_cases hf : f r = 0
    · rw [nzC_no hf] at h
      obtain ⟨i, h1, h2, h3⟩ := ih h
      exact ⟨i, by omega, h2, h3⟩
    · rw [nzC_yes hf] at h
      by_cases hj : j = nzC f r
      · exact ⟨r, by omega, hf, hj.symm⟩
      · obtain ⟨i, h1, h2, h3⟩ := ih (by omega)
        exact ⟨i, by omega, h2, h3⟩
theorem nzC_lt {f : Nat → Int} {k r : Nat} (h : k < r) (hf : f k ≠ 0) : nzC f k < nzC f r :=
  (List.getElem?_eq_some_iff.1 (nzL_get h hf)).1

/-- What comes at round j. -/
def namA (f : Nat → Int) (r j : Nat) : Array Value := #[.int .i64 ((nzL f r).getD j 0 : Nat), .int .i64 (f ((nzL f r).getD j 0))]
theorem namA_at {f : Nat → Int} {r k : Nat} (h : k < r) (hf : f k ≠ 0) : namA f r (nzC f k) = #[.int .i64 (k : Nat), .int .i64 (f k)] := by
  unfold namA
  rw [List.getD_eq_getElem?_getD, nzL_get h hf]
  rfl

/-- What that function finds in its boxes. -/
def NamF (Bo Bd : Nat) (a : DA) (n r z : Nat) (f : Nat → Int) (W : World) : Prop :=
  (At W Bo (obO n r z) ∧ At W Bd (.cells #[ptr a.d] 29)) ∧ ∃ p S, Dev W p a S ∧ ∀ i, i < r → rfW S z i 0 = f i

theorem names_iter (Bo Bd : Nat) (a : DA) (n r z : Nat) (f : Nat → Int) (hfew : r ≤ n ∧ n ≤ 64 ∧ z + n < a.n) :
    Iter Tryz.prog 57 #[ptr Bo, ptr Bd] (nzC f r) (namA f r) (NamF Bo Bd a n r z f) := by
  intro l J Jx W hF hK hY h0
  have H : NamOk Bo Bd a n r z f (fun k W => J (nzC f k) W) := {
    box := fun k W h => (hF _ W h).1
    dev := fun k W h => (hF _ W h).2
    keep := fun k W W' h hk => hK _ _ _ h hk
    skip := fun k W h _ hf => by rw [nzC_no hf]; exact h
    few := hfew }
  refine (names_in l Bo Bd a n r z f _ Jx H ?_ W h0).mono ?_
  · intro k W hk hf hJ
    have h1 := hY (nzC f k) W W (nzC_lt hk hf) hJ (Keeps.refl _ _)
    rw [namA_at hk hf] at h1
    refine YieldAt.mono h1 ?_
    rintro e w' ⟨⟨rfl, h⟩ | ⟨rfl, h⟩, _⟩
    · exact .inl ⟨rfl, by show J (nzC f (k + 1)) w'; rw [nzC_yes hf]; exact h⟩
    · exact .inr ⟨rfl, h⟩
  · rintro e w' ⟨rfl, h⟩
    exact ⟨rfl, h⟩

end Go.Proofs.YtlpmdjmamnkokaaGreat
