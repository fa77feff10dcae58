/- What Format's steps make of a device, done or cut: no program here. -/
import Derived.Test.YtcdlikblebdfkaaGreatSup
namespace Go.Proofs.YtcdlikblebdfkaaGreat
open Go.RowKit

/-- A new heap's words, but the first. -/
def LaidF (c : Cfg) (f : Nat → Int) : Prop :=
  f 1 = c.log ∧ f 2 = c.roots ∧ f 3 = c.space ∧ f 8 = 1 ∧ (∀ i, i < c.log → f (16 + 4 * i) = 0) ∧ ∀ i, c.act ≤ i → i < c.root c.roots → f i = 0

/-- A new heap's words. -/
def WholeF (c : Cfg) (f : Nat → Int) : Prop := f 0 = magicI ∧ LaidF c f

theorem places {c : Cfg} (_hc : c.Ok) : 16 + 4 * c.log ≤ c.act ∧ c.act + 2 + c.roots ≤ c.words ∧ 16 ≤ c.act ∧ c.root c.roots = c.act + 2 + c.roots := by
  have a4 := up8_le (16 + 4 * c.log)
  have a7 := up8_le (c.root c.roots)
  have a9 : c.root c.roots = c.act + 2 + c.roots := rfl
  have a10 : c.act = up8 (16 + 4 * c.log) := rfl
  have e2 : c.words = up8 (c.root c.roots) + 2 * up8 c.space := rfl
  omega

theorem LaidF.congr {c : Cfg} (hc : c.Ok) {f g : Nat → Int} (h : LaidF c f) (e : ∀ j, 0 < j → j < c.words → g j = f j) : LaidF c g := by
  obtain ⟨p1, p2, p3, p4⟩ := places hc
  obtain ⟨h1, h2, h3, h4, h5, h6⟩ := h
  refine ⟨?_, ?_, ?_, ?_, fun i hi => ?_, fun i hi1 hi2 => ?_⟩
  · rw [e _ (by omega) (by omega), h1]
  · rw [e _ (by omega) (by omega), h2]
  · rw [e _ (by omega) (by omega), h3]
  · rw [e _ (by omega) (by omega), h4]
  · rw [e _ (by omega) (by omega), h5 i hi]
  · rw [e _ (by omega) (by omega), h6 i hi1 hi2]

theorem WholeF.congr {c : Cfg} (hc : c.Ok) {f g : Nat → Int} (h : WholeF c f) (e : ∀ j, j < c.words → g j = f j) : WholeF c g :=
  ⟨by rw [e 0 (by have := (words_ge hc).1; omega)]; exact h.1, h.2.congr hc fun j _ hj => e j hj⟩

theorem one_off (S : DS) {i j : Nat} (v : Int) (h : i ≠ j) : (execs S [.st i v]).now j = S.now j := by
  show put S.now i v j = _
  unfold put
  rw [if_neg (fun e => h e.symm)]

theorem one_on (S : DS) (i : Nat) (v : Int) : (execs S [.st i v]).now i = v := by
  show put S.now i v i = _
  simp [put]

theorem layR_off (S : DS) (n j : Nat) (h : ∀ i, i < n → 16 + 4 * i ≠ j) : (execs S (rowL layR n)).now j = S.now j := rowL_now_off (fun i => 16 + 4 * i) (fun _ => 0) S n j h
theorem layT_off (c : Cfg) (S : DS) (n j : Nat) (h : ∀ i, i < n → c.root i ≠ j) : (execs S (rowL (layT c) n)).now j = S.now j := rowL_now_off c.root (fun _ => 0) S n j h
theorem layA_off (c : Cfg) (S : DS) (n j : Nat) (h : ∀ i, i < n → 1 + i ≠ j) : (execs S (rowL (layA c) n)).now j = S.now j := rowL_now_off (fun i => 1 + i) (numC c) S n j h

theorem lay_laid (S : DS) {c : Cfg} (hc : c.Ok) : LaidF c (execs S (layL c)).now ∧ (execs S (layL c)).now 0 = S.now 0 := by
  obtain ⟨p1, p2, p3, p4⟩ := places hc
  have r : ∀ i, c.root i = c.act + 2 + i := fun _ => rfl
  have hT : ∀ (S : DS) j, j < c.act + 2 → (execs S (rowL (layT c) c.roots)).now j = S.now j := fun S j hj => layT_off c S _ j (fun i _ => by rw [r]; omega)
  have hE : ∀ (S : DS) j, j < 16 → j ≠ 8 → (execs S (layL c)).now j = (execs S (rowL (layA c) 3)).now j := by
    intro S j hj hj8
    unfold layL
    rw [execs_append, execs_append, execs_append, execs_append, execs_append, hT _ j (by omega), one_off _ _ (by omega), one_off _ _ (by omega), layR_off _ _ _ (fun i _ => by omega), one_off _ _ (by omega)]
  have hA : ∀ i, i < 3 → (execs S (rowL (layA c) 3)).now (1 + i) = numC c i := fun i hi => rowL_now (fun i => 1 + i) (numC c) S 3 i hi (fun j _ _ => by omega)
  refine ⟨⟨?_, ?_, ?_, ?_, fun i hi => ?_, fun i hi1 hi2 => ?_⟩, ?_⟩
  · rw [hE S 1 (by omega) (by omega)]; exact hA 0 (by omega)
  · rw [hE S 2 (by omega) (by omega)]; exact hA 1 (by omega)
  · rw [hE S 3 (by omega) (by omega)]; exact hA 2 (by omega)
  · unfold layL
    rw [execs_append, execs_append, execs_append, execs_append, execs_append, hT _ 8 (by omega), one_off _ _ (by omega), one_off _ _ (by omega), layR_off _ _ _ (fun i _ => by omega), one_on]
  · unfold layL
    rw [execs_append, execs_append, execs_append, hT _ _ (by omega), one_off _ _ (by omega), one_off _ _ (by omega), execs_append]
    exact rowL_now (fun i => 16 + 4 * i) (fun _ => 0) _ c.log i hi (fun j _ _ => by omega)
  · unfold layL
    rw [p4] at hi2
    by_cases h1 : i < c.act + 2
    · rw [execs_append, hT _ _ h1]
      by_cases h2 : i = c.act + 1
      · subst h2
        rw [execs_append, one_on]
      · obtain rfl : i = c.act := by omega
        rw [execs_append, one_off _ _ (by omega), execs_append, one_on]
    · obtain ⟨k, rfl⟩ : ∃ k, i = c.root k := ⟨i - (c.act + 2), by rw [r]; omega⟩
      rw [execs_append]
      exact rowL_now c.root (fun _ => 0) _ c.roots k (by rw [r] at hi2; omega) (fun j h1 _ => by rw [r, r]; omega)
  · rw [hE S 0 (by omega) (by omega)]
    exact layA_off c S 3 0 (fun i _ => by omega)

theorem mem_rowL {f : Nat → Cmd} {n : Nat} {x : Cmd} (h : x ∈ rowL f n) : ∃ i, i < n ∧ x = f i := by
  simp only [rowL, List.mem_map, List.mem_range] at h
  obtain ⟨i, h1, h2⟩ := h
  exact ⟨i, h1, h2.symm⟩

theorem lay_mem {c : Cfg} (hc : c.Ok) {x : Cmd} (h : x ∈ layL c) : x.isSt ∧ x.Off 0 := by
  obtain ⟨p1, p2, p3, p4⟩ := places hc
  simp only [layL, List.mem_append, List.mem_singleton] at h
  rcases h with ((((h | rfl) | h) | rfl) | rfl) | h
  · obtain ⟨i, _, rfl⟩ := mem_rowL h
    exact ⟨trivial, show 1 + i ≠ 0 by omega⟩
  · exact ⟨trivial, show 8 ≠ 0 by omega⟩
  · obtain ⟨i, _, rfl⟩ := mem_rowL h
    exact ⟨trivial, show 16 + 4 * i ≠ 0 by omega⟩
  · exact ⟨trivial, show c.act ≠ 0 by omega⟩
  · exact ⟨trivial, show c.act + 1 ≠ 0 by omega⟩
  · obtain ⟨i, _, rfl⟩ := mem_rowL h
    exact ⟨trivial, show c.act + 2 + i ≠ 0 by omega⟩

theorem keep_off {L : Nat} {x : Cmd} (h : x ∈ keepL L) : x.Off 0 := by
  simp only [keepL, List.mem_append, List.mem_singleton] at h
  rcases h with h | rfl
  · obtain ⟨i, _, rfl⟩ := mem_rowL h
    trivial
  · trivial

/-- All lines kept. -/
theorem keep_kept (S : DS) (L : Nat) : (execs S (keepL L)).now = S.now ∧ (∀ j, j < 8 * L → (execs S (keepL L)).kept j = S.now j) ∧ (execs S (keepL L)).is = fun _ => false := by
  obtain ⟨h1, h2, h3⟩ := rowL_flush S L
  have e : rowL keepF L = rowL (fun k => .fl (8 * k)) L := rfl
  unfold keepL
  rw [execs_append, e]
  generalize execs S (rowL (fun k => .fl (8 * k)) L) = T at h1 h2 h3 ⊢
  refine ⟨h1, fun j hj => ?_, rfl⟩
  show (if T.is (j / 8) = true then T.tok j else T.kept j) = S.now j
  have := h3 j (by omega)
  rw [if_pos this.1, this.2]

/-- A word that neither stands, nor is kept, nor is to be kept as anything but 0. -/
def Dark (S : DS) : Prop := S.now 0 = 0 ∧ S.kept 0 = 0 ∧ (S.is 0 = true → S.tok 0 = 0)

theorem dark_execs : ∀ (cs : List Cmd) (S : DS), Dark S → (∀ x ∈ cs, x.Off 0) → Dark (execs S cs)
  | [], _, h, _ => h
  | x :: cs, S, h, ho => by
    rw [execs_cons]
    refine dark_execs cs _ ?_ (fun y hy => ho y (List.mem_cons_of_mem _ hy))
    have hx := ho x List.mem_cons_self
    obtain ⟨h1, h2, h3⟩ := h
    cases x with
    | st i v =>
      refine ⟨?_, h2, h3⟩
      show put S.now i v 0 = 0
      unfold put
      rw [if_neg (fun e => hx e.symm)]
      exact h1
    | fl i =>
      refine ⟨h1, h2, fun hi => ?_⟩
      show (if 0 / 8 = i / 8 then S.now 0 else S.tok 0) = 0
      by_cases hz : 0 / 8 = i / 8
      · rw [if_pos hz]; exact h1
      · rw [if_neg hz]
        apply h3
        have : put S.is (i / 8) true 0 = true := hi
        unfold put at this
        rwa [if_neg (by omega)] at this
    | fe =>
      refine ⟨h1, ?_, fun hi => by cases hi⟩
      show (if S.is (0 / 8) = true then S.tok 0 else S.kept 0) = 0
      by_cases hi : S.is 0 = true
      · rw [if_pos hi]; exact h3 hi
      · rw [if_neg hi]; exact h2

theorem Dark.left {S : DS} (h : Dark S) (x : Int) : leftV S 0 x = 0 := by
  obtain ⟨h1, h2, h3⟩ := h
  unfold leftV
  by_cases hi : S.is (0 / 8) = true
  · rw [if_pos hi, h1, h2, h3 hi]; simp
  · rw [if_neg hi, h1, h2]; simp

theorem cut_three {l u : Int} {S S' : DS} {x y z : Cmd} (h : Cut l u S [x, y, z] S') : S' = S ∨ S' = exec S x ∨ S' = exec (exec S x) y := by
  obtain ⟨pre, k, post, h0, rfl, _⟩ := h
  match pre, h0 with
  | [], _ => exact .inl rfl
  | [a], h0 =>
    simp at h0
    obtain ⟨rfl, _⟩ := h0
    exact .inr (.inl rfl)
  | [a, b], h0 =>
    simp at h0
    obtain ⟨rfl, rfl, _⟩ := h0
    exact .inr (.inr rfl)
  | a :: b :: c :: r, h0 =>
    simp at h0

/-- A word that is left is one that stands, or is kept, or is to be kept. -/
theorem left_cases (S : DS) (i : Nat) (x : Int) : leftV S i x = S.now i ∨ leftV S i x = S.kept i ∨ (S.is (i / 8) = true ∧ leftV S i x = S.tok i) := by
  unfold leftV
  by_cases h1 : x = 1
  · rw [if_pos h1]
    by_cases h2 : S.is (i / 8) = true
    · rw [if_pos h2]; exact .inr (.inr ⟨h2, rfl⟩)
    · rw [if_neg h2]; exact .inr (.inl rfl)
  · rw [if_neg h1]
    by_cases h2 : x = 2
    · rw [if_pos h2]; exact .inl rfl
    · rw [if_neg h2]; exact .inr (.inl rfl)

theorem put_off {α : Type} (f : Nat → α) {i j : Nat} (v : α) (h : j ≠ i) : put f i v j = f j := by unfold put; rw [if_neg h]
theorem put_on {α : Type} (f : Nat → α) (i : Nat) (v : α) : put f i v i = v := by unfold put; rw [if_pos rfl]

/-- What mark leaves when it is cut: the first word as it was, or v; all others as they were. -/
theorem mark_left {l u : Int} {S S' : DS} {v : Int} (h : Cut l u S (markL v) S') (n : Nat) (hi : ∀ k, S.is k = false) (hk : ∀ j, j < n → S.kept j = S.now j) (ch : Nat → Int) :
    (∀ j, 0 < j → j < n → leftV S' j (ch j) = S.now j) ∧ (0 < n → leftV S' 0 (ch 0) = S.now 0 ∨ leftV S' 0 (ch 0) = v) := by
  rcases cut_three h with rfl | rfl | rfl
  · refine ⟨fun j _ hj => ?_, fun h0 => .inl ?_⟩
    · rcases left_cases S' j (ch j) with e | e | ⟨e, _⟩
      · exact e
      · rw [e, hk j hj]
      · rw [hi] at e; cases e
    · rcases left_cases S' 0 (ch 0) with e | e | ⟨e, _⟩
      · exact e
      · rw [e, hk 0 h0]
      · rw [hi] at e; cases e
  · refine ⟨fun j h0 hj => ?_, fun h0 => ?_⟩
    · rcases left_cases (exec S (.st 0 v)) j (ch j) with e | e | ⟨e, _⟩
      · rw [e]; exact put_off _ _ (by omega)
      · rw [e]; exact hk j hj
      · have : S.is (j / 8) = true := e
        rw [hi] at this; cases this
    · rcases left_cases (exec S (.st 0 v)) 0 (ch 0) with e | e | ⟨e, _⟩
      · rw [e]; exact .inr (put_on S.now 0 v)
      · rw [e]; exact .inl (hk 0 h0)
      · have : S.is (0 / 8) = true := e
        rw [hi] at this; cases this
  · refine ⟨fun j h0 hj => ?_, fun h0 => ?_⟩
    · rcases left_cases (exec (exec S (.st 0 v)) (.fl 0)) j (ch j) with e | e | ⟨e, e2⟩
      · rw [e]; exact put_off _ _ (by omega)
      · rw [e]; exact hk j hj
      · have e3 : put S.is (0 / 8) true (j / 8) = true := e
        have h8 : j / 8 = 0 := by
          by_cases h8 : j / 8 = 0
          · exact h8
          · rw [put_off _ _ (by omega), hi] at e3; cases e3
        rw [e2]
        show (if j / 8 = 0 / 8 then put S.now 0 v j else S.tok j) = _
        rw [if_pos h8]
        exact put_off _ _ (by omega)
    · rcases left_cases (exec (exec S (.st 0 v)) (.fl 0)) 0 (ch 0) with e | e | ⟨e, e2⟩
      · rw [e]; exact .inr (put_on S.now 0 v)
      · rw [e]; exact .inl (hk 0 h0)
      · rw [e2]; exact .inr rfl

/-- mark, done. -/
theorem mark_done (S : DS) (v : Int) (hi : ∀ k, S.is k = false) :
    (execs S (markL v)).now = put S.now 0 v ∧ (execs S (markL v)).kept = (fun j => if j / 8 = 0 then put S.now 0 v j else S.kept j) ∧ (execs S (markL v)).is = fun _ => false := by
  refine ⟨rfl, ?_, rfl⟩
  funext j
  show (if put S.is (0 / 8) true (j / 8) = true then (if j / 8 = 0 / 8 then put S.now 0 v j else S.tok j) else S.kept j) = _
  by_cases h : j / 8 = 0
  · simp [put, h]
  · rw [if_neg (by simp [put, h, hi]), if_neg h]

theorem mark_is (S : DS) (v : Int) : (execs S (markL v)).is = fun _ => false := rfl

/-- mark of 0 darkens. -/
theorem mark_dark (S : DS) : Dark (execs S (markL 0)) := by
  refine ⟨rfl, ?_, fun h => by cases h⟩
  show (if put S.is (0 / 8) true (0 / 8) = true then (if 0 / 8 = 0 / 8 then put S.now 0 0 0 else S.tok 0) else S.kept 0) = 0
  simp [put]

/-- What stands when all but the magic is kept. -/
theorem fmt_mid (S : DS) {c : Cfg} {L : Nat} (hc : c.Ok) :
    LaidF c (execs (execs (execs S (markL 0)) (layL c)) (keepL L)).now ∧ (execs (execs (execs S (markL 0)) (layL c)) (keepL L)).now 0 = 0 ∧
    (∀ j, j < 8 * L → (execs (execs (execs S (markL 0)) (layL c)) (keepL L)).kept j = (execs (execs (execs S (markL 0)) (layL c)) (keepL L)).now j) ∧ (execs (execs (execs S (markL 0)) (layL c)) (keepL L)).is = fun _ => false := by
  have h1 := lay_laid (execs S (markL 0)) hc
  have h2 := keep_kept (execs (execs S (markL 0)) (layL c)) L
  refine ⟨by rw [h2.1]; exact h1.1, by rw [h2.1, h1.2]; rfl, fun j hj => by rw [h2.2.1 j hj, h2.1], h2.2.2⟩

/-- Behind the roots no step stores. -/
theorem fmtL_off {c : Cfg} (hc : c.Ok) {L j : Nat} (hj : c.root c.roots ≤ j) {y : Cmd} (h : y ∈ fmtL c L) : y.Off j := by
  obtain ⟨p1, p2, p3, p4⟩ := places hc
  have hm : ∀ {v : Int} {y : Cmd}, y ∈ markL v → y.Off j := fun {v y} h => by
    simp only [markL, List.mem_cons, List.not_mem_nil, or_false] at h
    rcases h with rfl | rfl | rfl
    · show 0 ≠ j; omega
    · trivial
    · trivial
  simp only [fmtL, List.mem_append] at h
  rcases h with h | h | h | h
  · exact hm h
  · simp only [layL, List.mem_append, List.mem_singleton] at h
    rcases h with ((((h | rfl) | h) | rfl) | rfl) | h
    · obtain ⟨i, hi, rfl⟩ := mem_rowL h
      show 1 + i ≠ j; omega
    · show 8 ≠ j; omega
    · obtain ⟨i, hi, rfl⟩ := mem_rowL h
      show 16 + 4 * i ≠ j; omega
    · show c.act ≠ j; omega
    · show c.act + 1 ≠ j; omega
    · obtain ⟨i, hi, rfl⟩ := mem_rowL h
      show c.act + 2 + i ≠ j; omega
  · simp only [keepL, List.mem_append, List.mem_singleton] at h
    rcases h with h | rfl
    · obtain ⟨i, hi, rfl⟩ := mem_rowL h
      trivial
    · trivial
  · exact hm h

/-- Format, done. -/
theorem fmt_done (S : DS) {c : Cfg} {L : Nat} (hc : c.Ok) :
    WholeF c (execs S (fmtL c L)).now ∧ (∀ j, j < 8 * L → (execs S (fmtL c L)).kept j = (execs S (fmtL c L)).now j) ∧ (∀ k, (execs S (fmtL c L)).is k = false) := by
  obtain ⟨h1, h2, h3, h4⟩ := fmt_mid S hc
  unfold fmtL
  rw [execs_append, execs_append, execs_append]
  generalize execs (execs (execs S (markL 0)) (layL c)) (keepL L) = T at h1 h2 h3 h4 ⊢
  obtain ⟨m1, m2, m3⟩ := mark_done T magicI (fun k => by rw [h4])
  refine ⟨⟨by rw [m1]; simp [put], h1.congr hc fun j h0 _ => by rw [m1]; simp [put, show j ≠ 0 by omega]⟩, fun j hj => ?_, fun k => by rw [m3]⟩
  rw [m1, m2]
  by_cases h8 : j / 8 = 0
  · simp only [h8, if_true]
  · simp only [h8, if_false]
    rw [h3 j hj]
    simp [put, show j ≠ 0 by omega]

/-- Format, cut: no magic; or all as it was; or all as it is to be. -/
theorem fmt_cut {l u : Int} {S S' : DS} {c : Cfg} {L : Nat} (h : Cut l u S (fmtL c L) S') (hc : c.Ok) (hL : c.words = 8 * L) (hi : ∀ k, S.is k = false) (hk : ∀ j, j < 8 * L → S.kept j = S.now j) (ch : Nat → Int) :
    leftV S' 0 (ch 0) ≠ magicI ∨ (∀ j, j < 8 * L → leftV S' j (ch j) = S.now j) ∨ WholeF c (fun j => leftV S' j (ch j)) := by
  have hpos : 0 < 8 * L := by have := (words_ge hc).1; omega
  have hm : (0 : Int) ≠ magicI := by decide
  have h0 := h
  rcases h.parts with h | h
  · obtain ⟨a1, a2⟩ := mark_left h (8 * L) hi hk ch
    rcases a2 hpos with e | e
    · refine .inr (.inl fun j hj => ?_)
      by_cases hj0 : j = 0
      · subst hj0; exact e
      · exact a1 j (by omega) hj
    · exact .inl (by rw [e]; exact hm)
  · have hD := mark_dark S
    rw [← List.append_assoc] at h
    rcases h.parts with h | h
    · obtain ⟨pre, k, post, e1, rfl, _⟩ := h
      have : Dark (execs (execs S (markL 0)) pre) := dark_execs _ _ hD fun x hx => by
        have hx2 : x ∈ layL c ++ keepL L := by rw [e1]; exact List.mem_append_left _ hx
        rcases List.mem_append.1 hx2 with h | h
        · exact (lay_mem hc h).2
        · exact keep_off h
      exact .inl (by rw [this.left]; exact hm)
    · obtain ⟨h1, h2, h3, h4⟩ := fmt_mid S hc
      rw [execs_append] at h
      obtain ⟨a1, a2⟩ := mark_left h (8 * L) (fun k => by rw [h4]) h3 ch
      rcases a2 hpos with e | e
      · exact .inl (by rw [e, h2]; exact hm)
      · refine .inr (.inr ⟨e, h1.congr hc fun j hj0 hj => a1 j hj0 (by omega)⟩)

end Go.Proofs.YtcdlikblebdfkaaGreat
