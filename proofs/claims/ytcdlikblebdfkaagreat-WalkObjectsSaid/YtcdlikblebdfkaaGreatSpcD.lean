/- A new object, by a device's own Store, its power without end. -/
import Derived.Test.YtcdlikblebdfkaaGreatSpc
import Derived.Test.YtcdlikblebdfkaaGreatStoD
namespace Go.Proofs.YtcdlikblebdfkaaGreat
open Go.RowKit Go.OpenShut

/-- Words that are stored, each in its own place: they stand, and all others as they were. -/
theorem sq_free : ∀ {l : List (Nat × Int)} {S S' : DS} {code : Int}, SqT FreeT l S code S' → l.Pairwise (fun x y => x.1 ≠ y.1) →
    code = 0 ∧ S'.kept = S.kept ∧ (∀ x ∈ l, S'.now x.1 = x.2) ∧ ∀ j, (∀ x ∈ l, x.1 ≠ j) → S'.now j = S.now j
  | [], S, S', code, h, _ => by obtain ⟨rfl, rfl⟩ := h; exact ⟨rfl, rfl, by simp, fun _ _ => rfl⟩
  | (i, v) :: l, S, S', code, h, hp => by
    obtain ⟨c1, S1, ⟨e2, rfl⟩, h2⟩ := h
    rw [List.pairwise_cons] at hp
    have h4 : (execs S [.st i v]).now i = v := by
      show (if i = i then v else S.now i) = v
      rw [if_pos rfl]
    have h5 : ∀ j, i ≠ j → (execs S [.st i v]).now j = S.now j := fun j hj => by
      show (if j = i then v else S.now j) = S.now j
      rw [if_neg (fun e => hj e.symm)]
    rcases h2 with ⟨h6, _⟩ | ⟨_, h6⟩
    · exact absurd e2 h6
    · obtain ⟨rfl, hk, h7, h8⟩ := sq_free h6 hp.2
      refine ⟨rfl, hk, fun x hx => ?_, fun j hj => ?_⟩
      · rcases List.mem_cons.1 hx with rfl | hx
        · exact (h8 i (fun y hy => (hp.1 y hy).symm)).trans h4
        · exact h7 x hx
      · rw [h8 j (fun y hy => hj y (List.mem_cons_of_mem _ hy)), h5 j (hj (i, v) List.mem_cons_self)]

theorem sqG_none {σ : Type} {T : σ → Nat → Int → Int → σ → Prop} : ∀ {l : List (Nat × Int)} {S : σ} {w : World}, ¬ SqG T (fun _ _ _ _ => False) l S w
  | [], _, _, h => h
  | (i, v) :: l, S, w, h => by
    rcases h with h | ⟨s1, _, h⟩
    · exact h
    · exact sqG_none h

/-- A device's words behind a new object, by what they were. -/
def AlcF (c : Cfg) (k u nw r : Nat) (f g : Nat → Int) : Prop :=
  g (c.act + 1) = ((u + (nw + 1) : Nat) : Int) ∧ g (c.frm k + u) = ((hdPk nw r : Nat) : Int) ∧ (∀ i, i < nw → g (c.frm k + u + 1 + i) = 0) ∧ ∀ j, j ≠ c.act + 1 → (j < c.frm k + u ∨ c.frm k + u + nw < j) → g j = f j

theorem layW_mem {p : Nat} {v : Int} {m : Nat} {x : Nat × Int} : x ∈ layW p v m ↔ x = (p, v) ∨ ∃ i, i < m ∧ x = (p + 1 + i, 0) := by
  unfold layW
  rw [List.mem_cons, List.mem_map]
  constructor
  · rintro (h | ⟨i, hi, h⟩)
    · exact .inl h
    · exact .inr ⟨i, List.mem_range.1 hi, h.symm⟩
  · rintro (h | ⟨i, hi, h⟩)
    · exact .inl h
    · exact .inr ⟨i, List.mem_range.2 hi, h.symm⟩

theorem layW_dist (p : Nat) (v : Int) (m : Nat) : (layW p v m).Pairwise (fun x y => x.1 ≠ y.1) := by
  unfold layW
  rw [List.pairwise_cons, List.pairwise_map]
  refine ⟨fun x hx => ?_, ?_⟩
  · obtain ⟨i, _, rfl⟩ := List.mem_map.1 hx
    show p ≠ p + 1 + i
    omega
  · refine List.Pairwise.imp ?_ List.nodup_range
    intro i j hij
    show p + 1 + i ≠ p + 1 + j
    omega

theorem alcW_dist (c : Cfg) (k u nw r : Nat) : (alcW c k u nw r).Pairwise (fun x y => x.1 ≠ y.1) := by
  unfold alcW
  rw [List.pairwise_cons]
  refine ⟨fun x hx => ?_, layW_dist _ _ _⟩
  have := @frm_ge c k
  show c.act + 1 ≠ x.1
  rcases layW_mem.1 hx with rfl | ⟨i, _, rfl⟩
  · show c.act + 1 ≠ c.frm k + u; omega
  · show c.act + 1 ≠ c.frm k + u + 1 + i; omega

theorem alc_free {c : Cfg} {k u nw r : Nat} {S S' : DS} {code : Int} (h : SqT FreeT (alcW c k u nw r) S code S') : code = 0 ∧ S'.kept = S.kept ∧ AlcF c k u nw r S.now S'.now := by
  obtain ⟨h1, h0, h2, h3⟩ := sq_free h (alcW_dist c k u nw r)
  refine ⟨h1, h0, h2 (c.act + 1, _) (by simp [alcW]), h2 (c.frm k + u, _) ?_, fun i hi => h2 (c.frm k + u + 1 + i, 0) ?_, fun j hj hk => h3 j ?_⟩
  · exact List.mem_cons_of_mem _ (layW_mem.2 (.inl rfl))
  · exact List.mem_cons_of_mem _ (layW_mem.2 (.inr ⟨i, hi, rfl⟩))
  · intro x hx
    rcases List.mem_cons.1 hx with rfl | hx
    · exact fun e => hj e.symm
    · rcases layW_mem.1 hx with rfl | ⟨i, hi, rfl⟩
      · show c.frm k + u ≠ j; omega
      · show c.frm k + u + 1 + i ≠ j; omega

/-- Alloc, of a device whose power has no end. -/
def AllocP (p : Nat) (a : DA) (u : Int) (S : DS) (c : Cfg) (k us nw r : Nat) (w : World) (e : Ending) (w' : World) : Prop :=
  (c.space < us + (nw + 1) ∧ e = .returned (.tuple #[.int .i64 0, .int .i64 4]) ∧ Keeps [] w w') ∨
  (us + (nw + 1) ≤ c.space ∧ e = .returned (.tuple #[.int .i64 ((c.frm k + us : Nat) : Int), .int .i64 0]) ∧ ∃ u' S', Pw w' p a (-1) u' S' ∧ u' ≤ u + ((nw + 2 : Nat) : Int) ∧ S'.kept = S.kept ∧ AlcF c k us nw r S.now S'.now ∧ Keeps [p, a.s, a.k, a.m] w w')

theorem alloc9_free (w : World) (p : Nat) (a : DA) (u : Int) (S : DS) (c : Cfg) (h : Pw w p a (-1) u S) (hc : c.Ok) (hcn : c.words = a.n) (hb : u ≤ 1000000000000) (k us : Nat) (hk : k ≤ 1) (hus : us ≤ c.space) (h1 : S.now c.act = (k : Int)) (h2 : S.now (c.act + 1) = (us : Int)) (nw r : Nat) (hnw : nw ≤ 64) (hr : r ≤ nw) :
    Calls Tryz.prog 22 #[ptr a.d, cfgV c, hdV nw r, .func (.func 9) #[ptr a.d] #[]] w (AllocP p a u S c k us nw r w) := by
  refine (alloc9_at (free_storer p a u hb) 0 S w ⟨u, h, by simp⟩ c hc hcn nw r hnw hr (by omega) (by rw [h1]; omega) (by rw [h2]; omega) ?_).mono ?_
  · rintro n s w ⟨u, hp, _⟩ b hb
    simp only [List.mem_cons, List.not_mem_nil, or_false] at hb
    rcases hb with rfl | rfl | rfl | rfl
    · exact hp.pow.lt
    · exact hp.dev.now.lt
    · exact hp.dev.kept.lt
    · exact hp.dev.map.lt
  · rintro e w' (⟨h9, _, _⟩ | ⟨k1, u1, _, _, e1, e2, ⟨g1, rfl, hk⟩ | ⟨g1, ⟨code, S', rfl, hq, ⟨u', hp, hu'⟩, hk, _⟩ | ⟨_, hg⟩⟩⟩)
    · rw [h1, h2] at h9; omega
    · rw [h1] at e1
      rw [h2] at e2
      obtain rfl : us = u1 := by omega
      exact .inl ⟨g1, rfl, hk⟩
    · rw [h1] at e1
      rw [h2] at e2
      obtain rfl : us = u1 := by omega
      obtain rfl : k = k1 := by omega
      obtain ⟨rfl, hkp, hA⟩ := alc_free hq
      exact .inr ⟨g1, by rw [if_pos rfl], u', S', hp, by rw [alcW_len] at hu'; simpa using hu', hkp, hA, hk⟩
    · exact absurd hg sqG_none

end Go.Proofs.YtcdlikblebdfkaaGreat
