/- What stands on the devices of stage 12's laws: words; which names are right. No program. -/
import Derived.Test.YtlpmdjmamnkokaaGreatChk
namespace Go.Proofs.YtlpmdjmamnkokaaGreat
open Go.RowKit Go.OpenShut

/-- A word of a row of objects is one object's. -/
theorem pos_ex : ∀ (os : List (Nat × Nat)) (i : Nat), i < lenL os → ∃ i' t, i' < os.length ∧ t ≤ nL os i' ∧ i = posL os i' + t
  | [], i, h => absurd h (by simp [lenL])
  | x :: l, i, h => by
    rw [lenL_cons] at h
    by_cases hi : i ≤ x.1
    · exact ⟨0, i, by simp, hi, by rw [posL_zero]; omega⟩
    · obtain ⟨i', t, h1, h2, h3⟩ := pos_ex l (i - (x.1 + 1)) (by omega)
      exact ⟨i' + 1, t, by simpa using h1, h2, by rw [posL_cons]; omega⟩

/-- The root block's words, and those behind it, are words. -/
structure WdA (S : DS) (c : Cfg) (n : Nat) : Prop where
  blk : ∀ j, c.act ≤ j → j < c.root c.roots → ∃ v : Nat, S.now j = (v : Int) ∧ v < 18446744073709551616
  sp : ∀ j, c.frm 0 ≤ j → j < n → ∃ v : Nat, S.now j = (v : Int) ∧ v < 18446744073709551616

theorem root_end (c : Cfg) : c.root c.roots = c.act + 2 + c.roots ∧ c.root c.roots ≤ c.frm 0 := by
  have := @frm_ge c 0
  unfold Cfg.root
  omega

theorem LnkS.wd {c : Cfg} {n : Nat} {os : List (Nat × Nat)} {g : Nat → Int} {S : DS} (h : LnkS c n os g S) (hs : c.space ≤ 4096) (hg : ∀ q, ∃ v : Nat, g q = (v : Int) ∧ v < 18446744073709551616) : WdA S c n := by
  have hre := root_end c
  refine ⟨fun j h1 h2 => ?_, fun j h1 h2 => ?_⟩
  · by_cases h3 : j = c.act
    · exact ⟨0, by rw [h3]; exact h.act, by omega⟩
    · by_cases h4 : j = c.act + 1
      · exact ⟨lenL os, by rw [h4]; exact h.used, by have := h.fits; omega⟩
      · obtain ⟨v, hv, hb⟩ := hg (refL os + (j - (c.act + 2)))
        refine ⟨v, ?_, hb⟩
        have := h.root (j - (c.act + 2)) (by omega)
        rw [hv] at this
        rw [← this]
        congr 1
        unfold Cfg.root
        omega
  · by_cases h3 : lenL os ≤ j - c.frm 0
    · have := h.rest (j - c.frm 0) h3 (by omega)
      rw [show c.frm 0 + (j - c.frm 0) = j by omega] at this
      exact ⟨0, by rw [this]; rfl, by omega⟩
    · obtain ⟨i, t, hi, ht, he⟩ := pos_ex os (j - c.frm 0) (by omega)
      have hf := few_at h.few i
      cases t with
      | zero =>
        have := h.head i hi
        rw [show c.frm 0 + posL os i = j by omega] at this
        exact ⟨_, this, by unfold hdPk; omega⟩
      | succ t =>
        by_cases hr : t < rL os i
        · have := h.name i t hi hr
          rw [show c.frm 0 + posL os i + 1 + t = j by omega] at this
          obtain ⟨v, hv, hb⟩ := hg (refB os i + t)
          exact ⟨v, by rw [this, hv], hb⟩
        · have := h.num i t hi (by omega) (by omega)
          rw [show c.frm 0 + posL os i + 1 + t = j by omega] at this
          exact ⟨0, by rw [this]; rfl, by omega⟩

theorem FilS.wd {c : Cfg} {n : Nat} {os : List (Nat × Nat)} {S : DS} (h : FilS c n os S) (hs : c.space ≤ 4096) : WdA S c n := by
  have hre := root_end c
  refine ⟨fun j h1 h2 => ?_, fun j h1 h2 => ?_⟩
  · by_cases h3 : j = c.act
    · exact ⟨0, by rw [h3]; exact h.act, by omega⟩
    · by_cases h4 : j = c.act + 1
      · exact ⟨lenL os, by rw [h4]; exact h.used, by have := h.fits; omega⟩
      · exact ⟨0, by rw [h.low j (by omega) (by omega)]; rfl, by omega⟩
  · obtain ⟨x, h3, h4⟩ := cellF_nat h.head (j - c.frm 0)
    have := h.word (j - c.frm 0) (by omega)
    rw [show c.frm 0 + (j - c.frm 0) = j by omega] at this
    exact ⟨x, by rw [this, h3], h4⟩

/-- A word is turned. -/
theorem WdA.put {S S' : DS} {c : Cfg} {n t : Nat} {v : Nat} (h : WdA S c n) (hv : v < 18446744073709551616) (he : ∀ j, S'.now j = if j = t then (v : Int) else S.now j) : WdA S' c n := by
  refine ⟨fun j h1 h2 => ?_, fun j h1 h2 => ?_⟩ <;> rw [he] <;> by_cases hj : j = t
  · rw [if_pos hj]; exact ⟨v, rfl, hv⟩
  · rw [if_neg hj]; exact h.blk j h1 h2
  · rw [if_pos hj]; exact ⟨v, rfl, hv⟩
  · rw [if_neg hj]; exact h.sp j h1 h2

theorem WdA.at {S : DS} {c : Cfg} {n k : Nat} (h : WdA S c n) (hn : c.words = n) (hk : k ≤ 1) : WdU S c k := by
  have h1 := frm_space (c := c) k (by omega)
  have hre := root_end c
  refine ⟨fun i hi => h.blk _ ?_ ?_, fun j h2 h3 => h.sp j ?_ (by omega)⟩
  · unfold Cfg.root; omega
  · unfold Cfg.root; omega
  · have : c.frm 0 ≤ c.frm k := by unfold Cfg.frm; omega
    omega

/-- What Check answers hangs on these words alone. -/
theorem ckC_same {S S' : DS} {c : Cfg} {k : Nat} {l : List (Nat × Nat)} {er : Bool} (hr : ∀ j, j < c.roots → S'.now (c.root j) = S.now (c.root j)) (hn : ∀ i, i < l.length → ∀ j, j < rL l i → S'.now (c.frm k + posL l i + 1 + j) = S.now (c.frm k + posL l i + 1 + j)) :
    ckC S' c k l er = ckC S c k l er := by
  have h1 : okR S' c k l = okR S c k l := by
    rw [Bool.eq_iff_iff, okR_iff, okR_iff]
    exact ⟨fun h j hj => by rw [← hr j hj]; exact h j hj, fun h j hj => by rw [hr j hj]; exact h j hj⟩
  have h2 : okN S' c k l = okN S c k l := by
    rw [Bool.eq_iff_iff, okN_iff, okN_iff]
    exact ⟨fun h i hi j hj => by rw [← hn i hi j hj]; exact h i hi j hj, fun h i hi j hj => by rw [hn i hi j hj]; exact h i hi j hj⟩
  unfold ckC
  rw [h1, h2]

theorem ckC_ok {S : DS} {c : Cfg} {k : Nat} {l : List (Nat × Nat)} (hr : ∀ j, j < c.roots → okW c k l (S.now (c.root j)) = true) (hn : ∀ i, i < l.length → ∀ j, j < rL l i → okW c k l (S.now (c.frm k + posL l i + 1 + j)) = true) : ckC S c k l false = 0 := by
  have h1 : okR S c k l = true := okR_iff.2 hr
  have h2 : okN S c k l = true := okN_iff.2 hn
  unfold ckC
  rw [h1, h2]
  rfl

theorem ckC_or (S : DS) (c : Cfg) (k : Nat) (l : List (Nat × Nat)) : ckC S c k l false = 0 ∨ ckC S c k l false = 9 := by
  unfold ckC
  rw [if_neg (by simp)]
  cases okR S c k l && okN S c k l
  · exact .inr rfl
  · exact .inl rfl

/-- What the names are set to: words. -/
theorem lnkG_wd (c : Cfg) (os : List (Nat × Nat)) (G : Nat → Nat) (m wr : Nat) (hos : c.frm 0 + lenL os ≤ 1000000) (q : Nat) : ∃ v : Nat, lnkG c os G m wr q = (v : Int) ∧ v < 18446744073709551616 := by
  refine ⟨_, rfl, ?_⟩
  unfold nxV
  split
  · rename_i h
    have h1 : G q % os.length < os.length := Nat.mod_lt _ h.2.1
    have h2 := posN_end h1
    dsimp only
    split <;> omega
  · omega

/-- None of them is wrong. -/
theorem lnkG_ok (c : Cfg) (os : List (Nat × Nat)) (G : Nat → Nat) (m : Nat) (q : Nat) : okW c 0 os (lnkG c os G m 0 q) = true := by
  rw [okW_iff]
  unfold lnkG nxV
  split
  · rename_i h
    exact .inr ⟨G q % os.length, Nat.mod_lt _ h.2.1, by simp⟩
  · exact .inl rfl

theorem Chn.same {S S' : DS} {c : Cfg} {k u : Nat} {l : List (Nat × Nat)} {er : Bool} (h : Chn S c k u l er) (he : ∀ j, j < u → S'.now (c.frm k + j) = S.now (c.frm k + j)) : Chn S' c k u l er := by
  refine ⟨h.fits, fun i x hx => ?_, h.done, fun hb => ?_⟩
  · obtain ⟨h1, h2, h3⟩ := h.head i x hx
    obtain ⟨hi, _⟩ := List.getElem?_eq_some_iff.1 hx
    have h4 := posN_end hi
    have h5 := h.le
    exact ⟨h1, h2, by rw [he _ (by omega)]; exact h3⟩
  · obtain ⟨h1, x, h2, h3, h4⟩ := h.bad hb
    exact ⟨h1, x, by rw [he _ h1]; exact h2, h3, h4⟩

/-- A row of objects, of which the first ones are told of. -/
theorem Chn.first {S S' : DS} {c : Cfg} {k u : Nat} {l : List (Nat × Nat)} (h : Chn S c k u l false) {i : Nat} (hi : i ≤ l.length) (he : ∀ j, j < u → S'.now (c.frm k + j) = S.now (c.frm k + j)) : Chn S' c k (posL l i) (l.take i) false := by
  have h5 := h.le
  have h6 := h.fits
  have h7 := pos_mono (os := l) hi (Nat.le_refl _)
  rw [posL_all] at h7
  refine ⟨by omega, fun j x hx => ?_, fun _ => rfl, fun hb => Bool.noConfusion hb⟩
  have hji : j < i := by
    obtain ⟨h1, _⟩ := List.getElem?_eq_some_iff.1 hx
    simp at h1
    omega
  have hx2 : l[j]? = some x := by rw [← hx, List.getElem?_take_of_lt hji]
  obtain ⟨h1, h2, h3⟩ := h.head j x hx2
  obtain ⟨hj, _⟩ := List.getElem?_eq_some_iff.1 hx2
  have h4 := posN_end hj
  have hp : posL (l.take i) j = posL l j := by
    unfold posL
    rw [List.take_take, Nat.min_eq_left (by omega)]
  exact ⟨h1, h2, by rw [hp, he _ (by omega)]; exact h3⟩

theorem u8_open {x : Int} (h : (Lit.int .u8 x).wf = true) : ∃ n : Nat, x = (n : Int) ∧ n ≤ 255 := by
  have := bounds_u8 h
  exact ⟨x.toNat, by omega, by omega⟩
theorem u64_open {x : Int} (h : (Lit.int .u64 x).wf = true) : ∃ n : Nat, x = (n : Int) ∧ n ≤ 18446744073709551615 := by
  have := bounds_u64 h
  exact ⟨x.toNat, by omega, by omega⟩

end Go.Proofs.YtlpmdjmamnkokaaGreat
