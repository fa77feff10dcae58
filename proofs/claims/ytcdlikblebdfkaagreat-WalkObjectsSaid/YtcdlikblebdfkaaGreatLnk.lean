/- Objects that name one another: where their names are, what they are set to. No program stands here. -/
import Derived.Test.YtcdlikblebdfkaaGreatWlk
namespace Go.Proofs.YtcdlikblebdfkaaGreat
open Go.RowKit Go.OpenShut

/-- How many names objects have. -/
def refL (os : List (Nat × Nat)) : Nat := (os.map fun x => x.2).sum
/-- How many those ahead of number i have. -/
def refB (os : List (Nat × Nat)) (i : Nat) : Nat := refL (os.take i)

theorem refL_nil : refL [] = 0 := rfl
theorem refL_cons (x : Nat × Nat) (l : List (Nat × Nat)) : refL (x :: l) = x.2 + refL l := by simp [refL]
theorem refL_app (A B : List (Nat × Nat)) : refL (A ++ B) = refL A + refL B := by simp [refL]
theorem refB_zero (os : List (Nat × Nat)) : refB os 0 = 0 := rfl
theorem refB_all (os : List (Nat × Nat)) : refB os os.length = refL os := by unfold refB; rw [List.take_length]
theorem refB_succ {os : List (Nat × Nat)} {i : Nat} (h : i < os.length) : refB os (i + 1) = refB os i + rL os i := by
  unfold refB
  have h2 := nL_in h
  rw [List.getElem?_eq_getElem h] at h2
  injection h2 with h2
  rw [← List.take_append_getElem h, refL_app, h2]
  simp [refL]
theorem refL_le {os : List (Nat × Nat)} {b : Nat} (h : ∀ x ∈ os, x.2 ≤ b) : refL os ≤ os.length * b := by
  induction os with
  | nil => simp [refL]
  | cons x l ih =>
    have h1 := h x (by simp)
    have h2 := ih (fun y hy => h y (by simp [hy]))
    rw [refL_cons, List.length_cons, Nat.add_mul]
    omega
theorem refB_le (os : List (Nat × Nat)) (i : Nat) : refB os i ≤ refL os := by
  unfold refB
  have := refL_app (os.take i) (os.drop i)
  rw [List.take_append_drop] at this
  omega

/-- The words of the names, in order, from a place on. -/
def nmP : List (Nat × Nat) → Nat → List Nat
  | [], _ => []
  | x :: l, p => ((List.range x.2).map fun j => p + 1 + j) ++ nmP l (p + x.1 + 1)

theorem nmP_len : ∀ (l : List (Nat × Nat)) (p : Nat), (nmP l p).length = refL l
  | [], _ => rfl
  | x :: l, p => by
    show (((List.range x.2).map fun j => p + 1 + j) ++ nmP l (p + x.1 + 1)).length = _
    rw [List.length_append, nmP_len l, refL_cons]
    simp

theorem posL_zero (l : List (Nat × Nat)) : posL l 0 = 0 := rfl
theorem posL_cons (x : Nat × Nat) (l : List (Nat × Nat)) (i : Nat) : posL (x :: l) (i + 1) = x.1 + 1 + posL l i := by
  unfold posL
  rw [List.take_succ_cons, lenL_cons]
theorem refB_cons (x : Nat × Nat) (l : List (Nat × Nat)) (i : Nat) : refB (x :: l) (i + 1) = x.2 + refB l i := by
  unfold refB
  rw [List.take_succ_cons, refL_cons]

/-- The name j of object i. -/
theorem nmP_get : ∀ (l : List (Nat × Nat)) (p i j : Nat), i < l.length → j < rL l i → (nmP l p)[refB l i + j]? = some (p + posL l i + 1 + j)
  | [], p, i, j, hi, _ => absurd hi (by simp)
  | x :: l, p, 0, j, _, hj => by
    have hj : j < x.2 := hj
    show (((List.range x.2).map fun j => p + 1 + j) ++ nmP l (p + x.1 + 1))[refB (x :: l) 0 + j]? = _
    rw [refB_zero, Nat.zero_add, List.getElem?_append_left (by simpa using hj), posL_zero]
    simp [hj]
  | x :: l, p, i + 1, j, hi, hj => by
    have hi : i < l.length := by simpa using hi
    have hj : j < rL l i := hj
    show (((List.range x.2).map fun j => p + 1 + j) ++ nmP l (p + x.1 + 1))[refB (x :: l) (i + 1) + j]? = _
    rw [refB_cons, List.getElem?_append_right (by simp; omega), posL_cons]
    have := nmP_get l (p + x.1 + 1) i j hi hj
    rw [show x.2 + refB l i + j - ((List.range x.2).map fun j => p + 1 + j).length = refB l i + j by simp; omega, this]
    congr 1
    omega

theorem nmP_mem : ∀ (l : List (Nat × Nat)) (p z : Nat), z ∈ nmP l p → ∃ i j, i < l.length ∧ j < rL l i ∧ z = p + posL l i + 1 + j
  | [], p, z, h => by simp [nmP] at h
  | x :: l, p, z, h => by
    have h : z ∈ ((List.range x.2).map fun j => p + 1 + j) ++ nmP l (p + x.1 + 1) := h
    rcases List.mem_append.1 h with h | h
    · obtain ⟨j, hj, rfl⟩ := List.mem_map.1 h
      exact ⟨0, j, by simp, List.mem_range.1 hj, by rw [posL_zero]⟩
    · obtain ⟨i, j, h1, h2, rfl⟩ := nmP_mem l _ z h
      exact ⟨i + 1, j, by simpa using h1, h2, by rw [posL_cons]; omega⟩

theorem nmP_rise : ∀ (l : List (Nat × Nat)) (p : Nat), (∀ x ∈ l, x.2 ≤ x.1) → (nmP l p).Pairwise (· < ·)
  | [], _, _ => .nil
  | x :: l, p, h => by
    have hx := h x (by simp)
    refine List.pairwise_append.2 ⟨?_, nmP_rise l _ (fun y hy => h y (by simp [hy])), ?_⟩
    · exact List.pairwise_map.2 (List.pairwise_lt_range.imp (by intro a b h; omega))
    · intro a ha b hb
      obtain ⟨j, hj, rfl⟩ := List.mem_map.1 ha
      obtain ⟨i, k, _, _, rfl⟩ := nmP_mem l _ b hb
      have := List.mem_range.1 hj
      omega

/-- All words that are set: the names, the roots. -/
def plL (c : Cfg) (os : List (Nat × Nat)) : List Nat := nmP os (c.frm 0) ++ (List.range c.roots).map c.root
def plF (c : Cfg) (os : List (Nat × Nat)) (q : Nat) : Nat := (plL c os).getD q 0

theorem plF_name {c : Cfg} {os : List (Nat × Nat)} {i j : Nat} (hi : i < os.length) (hj : j < rL os i) : plF c os (refB os i + j) = c.frm 0 + posL os i + 1 + j := by
  have h1 := nmP_get os (c.frm 0) i j hi hj
  obtain ⟨h2, _⟩ := List.getElem?_eq_some_iff.1 h1
  unfold plF plL
  rw [List.getD_eq_getElem?_getD, List.getElem?_append_left h2, h1]
  rfl
theorem plF_root {c : Cfg} {os : List (Nat × Nat)} {j : Nat} (hj : j < c.roots) : plF c os (refL os + j) = c.root j := by
  unfold plF plL
  rw [List.getD_eq_getElem?_getD, List.getElem?_append_right (by rw [nmP_len]; omega), nmP_len, Nat.add_sub_cancel_left]
  simp [hj]
theorem plL_len (c : Cfg) (os : List (Nat × Nat)) : (plL c os).length = refL os + c.roots := by
  unfold plL
  rw [List.length_append, nmP_len]
  simp
theorem plF_mem {c : Cfg} {os : List (Nat × Nat)} {q : Nat} (h : q < refL os + c.roots) : plF c os q ∈ plL c os := by
  unfold plF
  rw [List.getD_eq_getElem?_getD, List.getElem?_eq_getElem (by rw [plL_len]; exact h)]
  exact List.getElem_mem _
theorem root_lt {c : Cfg} {j : Nat} (hj : j < c.roots) : c.act + 2 ≤ c.root j ∧ c.root j < c.frm 0 := by
  have := @frm_ge c 0
  unfold Cfg.root
  omega
/-- What is set, is a name, or a root. -/
theorem plL_or {c : Cfg} {os : List (Nat × Nat)} {z : Nat} (h : z ∈ plL c os) : (∃ i j, i < os.length ∧ j < rL os i ∧ z = c.frm 0 + posL os i + 1 + j) ∨ ∃ j, j < c.roots ∧ z = c.root j := by
  rcases List.mem_append.1 h with h | h
  · exact .inl (nmP_mem _ _ _ h)
  · obtain ⟨j, hj, rfl⟩ := List.mem_map.1 h
    exact .inr ⟨j, List.mem_range.1 hj, rfl⟩
theorem plL_nodup {c : Cfg} {os : List (Nat × Nat)} (h : ∀ x ∈ os, x.2 ≤ x.1) : (plL c os).Nodup := by
  refine List.nodup_append.2 ⟨(nmP_rise os _ h).imp (fun h => Nat.ne_of_lt h), ?_, ?_⟩
  · refine List.pairwise_map.2 (List.pairwise_lt_range.imp ?_)
    intro a b h e
    unfold Cfg.root at e
    omega
  · intro a ha b hb
    obtain ⟨i, j, _, _, rfl⟩ := nmP_mem _ _ _ ha
    obtain ⟨k, hk, rfl⟩ := List.mem_map.1 hb
    have := (root_lt (List.mem_range.1 hk)).2
    omega
theorem plF_inj {c : Cfg} {os : List (Nat × Nat)} (h : ∀ x ∈ os, x.2 ≤ x.1) {q q' : Nat} (hq : q < refL os + c.roots) (hq' : q' < refL os + c.roots) (e : plF c os q = plF c os q') : q = q' := by
  have hn := plL_nodup (c := c) h
  have e1 : (plL c os)[q]? = some (plF c os q) := by
    unfold plF
    rw [List.getD_eq_getElem?_getD, List.getElem?_eq_getElem (by rw [plL_len]; exact hq)]
    rfl
  have e2 : (plL c os)[q']? = some (plF c os q') := by
    unfold plF
    rw [List.getD_eq_getElem?_getD, List.getElem?_eq_getElem (by rw [plL_len]; exact hq')]
    rfl
  rw [e] at e1
  exact nodup_idx hn e1 e2

/-- The first q of some words are set, the others are as they were. -/
def Upd (f f' : Nat → Int) (pl : Nat → Nat) (g : Nat → Int) (q : Nat) : Prop :=
  (∀ i, i < q → f' (pl i) = g i) ∧ ∀ z, (∀ i, i < q → z ≠ pl i) → f' z = f z

theorem Upd.zero (f : Nat → Int) (pl : Nat → Nat) (g : Nat → Int) : Upd f f pl g 0 := ⟨fun i h => absurd h (by omega), fun _ _ => rfl⟩
theorem Upd.next {f f1 f2 : Nat → Int} {pl : Nat → Nat} {g : Nat → Int} {q : Nat} (h : Upd f f1 pl g q) (hd : ∀ i, i < q → pl i ≠ pl q) (h2 : ∀ z, f2 z = if z = pl q then g q else f1 z) : Upd f f2 pl g (q + 1) := by
  refine ⟨fun i hi => ?_, fun z hz => ?_⟩
  · rw [h2]
    by_cases he : i = q
    · subst he; rw [if_pos rfl]
    · rw [if_neg (hd i (by omega))]
      exact h.1 i (by omega)
  · rw [h2, if_neg (hz q (by omega))]
    exact h.2 z fun i hi => hz i (by omega)

/-- A device with objects whose names are set, and roots. -/
structure LnkS (c : Cfg) (n : Nat) (os : List (Nat × Nat)) (g : Nat → Int) (S : DS) : Prop where
  act : S.now c.act = ((0 : Nat) : Int)
  used : S.now (c.act + 1) = ((lenL os : Nat) : Int)
  fits : lenL os ≤ c.space
  few : ∀ x ∈ os, x.1 ≤ 8 ∧ x.2 ≤ x.1
  root : ∀ j, j < c.roots → S.now (c.root j) = g (refL os + j)
  head : ∀ i, i < os.length → S.now (c.frm 0 + posL os i) = ((hdPk (nL os i) (rL os i) : Nat) : Int)
  name : ∀ i j, i < os.length → j < rL os i → S.now (c.frm 0 + posL os i + 1 + j) = g (refB os i + j)
  num : ∀ i j, i < os.length → rL os i ≤ j → j < nL os i → S.now (c.frm 0 + posL os i + 1 + j) = 0
  rest : ∀ i, lenL os ≤ i → c.frm 0 + i < n → S.now (c.frm 0 + i) = 0

/-- A place of the row is one object's. -/
theorem pos_same {os : List (Nat × Nat)} {i i' j j' : Nat} (hi : i < os.length) (hi' : i' < os.length) (hj : j ≤ nL os i) (hj' : j' ≤ nL os i') (e : posL os i + j = posL os i' + j') : i = i' ∧ j = j' := by
  have h1 : ∀ a b, a < b → b < os.length → posL os a + 1 + nL os a ≤ posL os b := fun a b h hb => by
    rw [← posN_succ (by omega)]
    exact pos_mono (by omega) (by omega)
  rcases Nat.lt_trichotomy i i' with h | h | h
  · have := h1 i i' h hi'; omega
  · subst h; exact ⟨rfl, by omega⟩
  · have := h1 i' i h hi; omega

theorem few_at {os : List (Nat × Nat)} (h : ∀ x ∈ os, x.1 ≤ 8 ∧ x.2 ≤ x.1) (i : Nat) : nL os i ≤ 8 ∧ rL os i ≤ nL os i := by
  by_cases hi : i < os.length
  · exact h _ (List.mem_of_getElem? (nL_in hi))
  · have := nL_out (l := os) (i := i) (by omega)
    omega

theorem FilS.headN {c : Cfg} {n : Nat} {os : List (Nat × Nat)} {S : DS} (h : FilS c n os S) (hn : c.frm 0 + c.space ≤ n) {i : Nat} (hi : i < os.length) : S.now (c.frm 0 + posL os i) = ((hdPk (nL os i) (rL os i) : Nat) : Int) := by
  have h1 := pos_head hi
  have h2 := nL_in hi
  rw [List.getElem?_eq_getElem hi] at h2
  injection h2 with h2
  rw [h2] at h1
  have h3 := posN_end hi
  have h4 := h.fits
  rw [h.word _ (by omega), h1]

theorem FilS.zeroN {c : Cfg} {n : Nat} {os : List (Nat × Nat)} {S : DS} (h : FilS c n os S) (hn : c.frm 0 + c.space ≤ n) {i j : Nat} (hi : i < os.length) (hj : j < nL os i) : S.now (c.frm 0 + posL os i + 1 + j) = 0 := by
  have h2 := nL_in hi
  rw [List.getElem?_eq_getElem hi] at h2
  injection h2 with h2
  have h1 := pos_zero (os := os) (i := i) (j := j) hi (by rw [h2]; exact hj)
  have h3 := posN_end hi
  have h4 := h.fits
  rw [Nat.add_assoc, Nat.add_assoc, h.word _ (by omega), ← Nat.add_assoc, h1]

/-- A head's place is none of these. -/
theorem head_off {c : Cfg} {os : List (Nat × Nat)} (h : ∀ x ∈ os, x.1 ≤ 8 ∧ x.2 ≤ x.1) {i : Nat} (hi : i < os.length) : c.frm 0 + posL os i ∉ plL c os := fun hm => by
  rcases plL_or hm with ⟨i', j', hi', hj', e⟩ | ⟨j, hj, e⟩
  · have h3 := (few_at h i').2
    have := (pos_same (i := i) (i' := i') (j := 0) (j' := 1 + j') hi hi' (by omega) (by omega) (by omega)).2
    omega
  · have := root_lt hj
    omega
/-- Some are set: heads stand. -/
theorem FilS.headU {c : Cfg} {n : Nat} {os : List (Nat × Nat)} {S : DS} {f : Nat → Int} {g : Nat → Int} {q : Nat} (h : FilS c n os S) (hn : c.frm 0 + c.space ≤ n) (hU : Upd S.now f (plF c os) g q) (hq : q ≤ refL os + c.roots) {i : Nat} (hi : i < os.length) : f (c.frm 0 + posL os i) = ((hdPk (nL os i) (rL os i) : Nat) : Int) := by
  rw [hU.2 _ fun j hj e => head_off h.head hi (e ▸ plF_mem (by omega)), h.headN hn hi]
theorem FilS.usedU {c : Cfg} {n : Nat} {os : List (Nat × Nat)} {S : DS} {f : Nat → Int} {g : Nat → Int} {q : Nat} (h : FilS c n os S) (hU : Upd S.now f (plF c os) g q) (hq : q ≤ refL os + c.roots) : f c.act = ((0 : Nat) : Int) ∧ f (c.act + 1) = ((lenL os : Nat) : Int) := by
  have hfr := @frm_ge c 0
  have hoff : ∀ z, z < c.act + 2 → f z = S.now z := fun z hz => hU.2 z fun j hj e => by
    have hm := plF_mem (c := c) (os := os) (q := j) (by omega)
    rw [← e] at hm
    rcases plL_or hm with ⟨i', j', _, _, e⟩ | ⟨j, hj, e⟩
    · omega
    · have := root_lt hj
      omega
  exact ⟨by rw [hoff _ (by omega)]; exact h.act, by rw [hoff _ (by omega)]; exact h.used⟩

/-- All are set. -/
theorem FilS.linked {c : Cfg} {n : Nat} {os : List (Nat × Nat)} {S S' : DS} {g : Nat → Int} (h : FilS c n os S) (hn : c.frm 0 + c.space ≤ n) (hU : Upd S.now S'.now (plF c os) g (refL os + c.roots)) : LnkS c n os g S' := by
  have hnot : ∀ z, z ∉ plL c os → S'.now z = S.now z := fun z hz => hU.2 z fun i hi e => hz (e ▸ plF_mem hi)
  have hfr := @frm_ge c 0
  have hoff : ∀ z, z ∉ (List.range c.roots).map c.root → (∀ i j, i < os.length → j < rL os i → z ≠ c.frm 0 + posL os i + 1 + j) → S'.now z = S.now z := fun z h1 h2 => hnot z fun hm => by
    rcases List.mem_append.1 hm with hm | hm
    · obtain ⟨i, j, hi, hj, e⟩ := nmP_mem _ _ _ hm
      exact h2 i j hi hj e
    · exact h1 hm
  have hroot : ∀ z, (z < c.act + 2 ∨ c.frm 0 ≤ z) → z ∉ (List.range c.roots).map c.root := fun z hz hm => by
    obtain ⟨j, hj, rfl⟩ := List.mem_map.1 hm
    have := root_lt (List.mem_range.1 hj)
    omega
  refine ⟨?_, ?_, h.fits, h.head, ?_, ?_, ?_, ?_, ?_⟩
  · rw [hoff _ (hroot _ (by omega)) (fun i j _ _ => by omega)]; exact h.act
  · rw [hoff _ (hroot _ (by omega)) (fun i j _ _ => by omega)]; exact h.used
  · intro j hj
    have := hU.1 (refL os + j) (by omega)
    rwa [plF_root hj] at this
  · intro i hi
    rw [hoff _ (hroot _ (by omega)) (fun i' j' hi' hj' e => ?_)]
    · exact h.headN hn hi
    · have h3 := (few_at h.head i').2
      have := (pos_same (i := i) (i' := i') (j := 0) (j' := 1 + j') hi hi' (by omega) (by omega) (by omega)).2
      omega
  · intro i j hi hj
    have h1 := plF_name (c := c) hi hj
    have h2 := refB_succ hi
    have h3 := refB_le os (i + 1)
    have := hU.1 (refB os i + j) (by omega)
    rwa [h1] at this
  · intro i j hi hj1 hj2
    rw [hoff _ (hroot _ (by omega)) (fun i' j' hi' hj' e => ?_)]
    · exact h.zeroN hn hi hj2
    · have h3 := (few_at h.head i').2
      obtain ⟨h4, h5⟩ := pos_same (i := i) (i' := i') (j := 1 + j) (j' := 1 + j') hi hi' (by omega) (by omega) (by omega)
      subst h4
      omega
  · intro i hi hin
    rw [hoff _ (hroot _ (by omega)) (fun i' j' hi' hj' e => ?_)]
    · rw [h.word i hin, cellF_out hi]
    · have h3 := (few_at h.head i').2
      have := posN_end hi'
      omega

/-- Such a device's objects, gone over. -/
theorem LnkS.chain {c : Cfg} {n : Nat} {os : List (Nat × Nat)} {g : Nat → Int} {S : DS} (h : LnkS c n os g S) : Chn S c 0 (lenL os) os false := by
  refine ⟨h.fits, fun i x hx => ?_, fun _ => rfl, fun h => nomatch h⟩
  obtain ⟨hi, _⟩ := List.getElem?_eq_some_iff.1 hx
  have h1 := nL_in hi
  rw [hx] at h1
  injection h1 with h1
  have h2 := few_at h.few i
  have h3 := h.head i hi
  rw [h1]
  exact ⟨by show nL os i ≤ 64; omega, h2.2, h3⟩
theorem FilS.chain {c : Cfg} {n : Nat} {os : List (Nat × Nat)} {S : DS} (h : FilS c n os S) (hn : c.frm 0 + c.space ≤ n) : Chn S c 0 (lenL os) os false := by
  refine ⟨h.fits, fun i x hx => ?_, fun _ => rfl, fun h => nomatch h⟩
  obtain ⟨hi, _⟩ := List.getElem?_eq_some_iff.1 hx
  have h1 := nL_in hi
  rw [hx] at h1
  injection h1 with h1
  have h2 := few_at h.head i
  have h3 := h.headN hn hi
  rw [h1]
  exact ⟨by show nL os i ≤ 64; omega, h2.2, h3⟩

/-- What the names are set to, call by call. -/
def nxV (G : Nat → Nat) (m : Nat) (P : Nat → Nat) (n wr k : Nat) : Nat :=
  if k < m ∧ 0 < n ∧ G k % 5 ≠ 0 then P (G k % n) + (if 0 < wr ∧ G k % wr = 1 then 1 else 0) else 0

end Go.Proofs.YtcdlikblebdfkaaGreat
