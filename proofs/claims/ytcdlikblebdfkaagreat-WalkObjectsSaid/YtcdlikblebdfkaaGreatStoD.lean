/- Words are stored by a device's own Store, its power without end. -/
import Derived.Test.YtcdlikblebdfkaaGreatSto
namespace Go.Proofs.YtcdlikblebdfkaaGreat
open Go.RowKit Go.OpenShut

/-- A device whose power has no end, so many steps done at most. -/
def FreeJ (p : Nat) (a : DA) (b : Int) (n : Nat) (S : DS) (w : World) : Prop := ∃ u, Pw w p a (-1) u S ∧ u ≤ b + (n : Int)

/-- A store, done. -/
def FreeT (S : DS) (i : Nat) (v : Int) (code : Int) (S' : DS) : Prop := code = 0 ∧ S' = execs S [.st i v]

theorem free_storer (p : Nat) (a : DA) (b : Int) (hb : b ≤ 1000000000000) :
    Storer 9 #[ptr a.d] #[] a (fun S => S) (fun _ => [p, a.s, a.k, a.m]) 1000000 (FreeJ p a b) FreeT (fun _ _ _ _ => False) where
  inv := fun w i v => by simp [go_sem]
  dev := fun n S w ⟨u, h, _⟩ => ⟨p, h.dev⟩
  keep := fun n S w w' ⟨u, h, hu⟩ hk => ⟨u, h.keep0 hk, hu⟩
  more := fun n S w ⟨u, h, hu⟩ => ⟨u, h, by omega⟩
  call := fun n S w i v hn ⟨u, h, hu⟩ hi => by
    refine (store_ran w p a (-1) u S i v h hi (by omega)).mono ?_
    intro e w' hr
    obtain ⟨rfl, h2, hk⟩ := hr.free h.lo
    exact .inl ⟨0, _, rfl, ⟨rfl, rfl⟩, ⟨_, h2, by simp; omega⟩, hk, fun b hb => .inl hb⟩

/-- Words that are put, each in its own place: they stand, and all others as they were. -/
theorem wr_free : ∀ {l : List (Nat × Int)} {S S' : DS} {code : Int}, WrT (fun S => S) FreeT l S code S' → l.Pairwise (fun x y => x.1 ≠ y.1) →
    code = 0 ∧ (∀ x ∈ l, S'.now x.1 = x.2) ∧ ∀ j, (∀ x ∈ l, x.1 ≠ j) → S'.now j = S.now j
  | [], S, S', code, h, _ => by obtain ⟨rfl, rfl⟩ := h; exact ⟨rfl, by simp, fun _ _ => rfl⟩
  | (i, v) :: l, S, S', code, h, hp => by
    obtain ⟨c1, S1, h1, h2⟩ := h
    rw [List.pairwise_cons] at hp
    have h3 : c1 = 0 ∧ S1.now i = v ∧ ∀ j, i ≠ j → S1.now j = S.now j := by
      rcases h1 with ⟨e1, e2, rfl⟩ | ⟨_, e2, rfl⟩
      · exact ⟨e2, e1, fun _ _ => rfl⟩
      · refine ⟨e2, ?_, fun j hj => ?_⟩
        · show (if i = i then v else S.now i) = v
          rw [if_pos rfl]
        · show (if j = i then v else S.now j) = S.now j
          rw [if_neg (fun e => hj e.symm)]
    obtain ⟨rfl, h4, h5⟩ := h3
    rcases h2 with ⟨h6, _⟩ | ⟨_, h6⟩
    · exact absurd rfl h6
    · obtain ⟨rfl, h7, h8⟩ := wr_free h6 hp.2
      refine ⟨rfl, fun x hx => ?_, fun j hj => ?_⟩
      · rcases List.mem_cons.1 hx with rfl | hx
        · exact (h8 i (fun y hy => (hp.1 y hy).symm)).trans h4
        · exact h7 x hx
      · rw [h8 j (fun y hy => hj y (List.mem_cons_of_mem _ hy)), h5 j (hj (i, v) List.mem_cons_self)]

theorem wrG_none {now : DS → DS} {T : DS → Nat → Int → Int → DS → Prop} : ∀ {l : List (Nat × Int)} {S : DS} {w : World}, ¬ WrG now T (fun _ _ _ _ => False) l S w
  | [], _, _, h => h
  | (i, v) :: l, S, w, h => by
    rcases h with ⟨_, h⟩ | ⟨s1, _, h⟩
    · exact h
    · exact wrG_none h

theorem OwnU.rd {w : World} {B : Nat} {x : Option Addr} {cp n : Nat} {f : Nat → Int} (h : OwnU w B x cp n f) : Reads w x n f := by
  rcases h.form with ⟨_, h⟩ | ⟨g, cur, rfl, _, h2, h3⟩
  · exact .inl h
  · exact .inr ⟨g, 0, rfl, h2.lt, fun i hi => by rw [Nat.zero_add]; exact h2.cell i (h3 i hi)⟩

theorem blkW_dist (c : Cfg) (k u : Int) (n : Nat) (f : Nat → Int) : (blkW c k u n f).Pairwise (fun x y => x.1 ≠ y.1) := by
  unfold blkW
  rw [List.pairwise_cons, List.pairwise_cons, List.pairwise_map]
  refine ⟨fun x hx => ?_, fun x hx => ?_, ?_⟩
  · rcases List.mem_cons.1 hx with rfl | hx
    · simp
    · obtain ⟨i, _, rfl⟩ := List.mem_map.1 hx
      show c.act ≠ c.root i
      unfold Cfg.root; omega
  · obtain ⟨i, _, rfl⟩ := List.mem_map.1 hx
    show c.act + 1 ≠ c.root i
    unfold Cfg.root; omega
  · refine List.Pairwise.imp ?_ List.nodup_range
    intro i j hij
    show c.root i ≠ c.root j
    unfold Cfg.root; omega

/-- A block that was written stands. -/
theorem blkW_stands {c : Cfg} {k u : Int} {n : Nat} {f : Nat → Int} {S S' : DS} {code : Int} (h : WrT (fun S => S) FreeT (blkW c k u n f) S code S') :
    code = 0 ∧ S'.now c.act = k ∧ S'.now (c.act + 1) = u ∧ ∀ i, i < n → S'.now (c.root i) = f i := by
  obtain ⟨h1, h2, _⟩ := wr_free h (blkW_dist c k u n f)
  exact ⟨h1, h2 (c.act, k) (by simp [blkW]), h2 (c.act + 1, u) (by simp [blkW]), fun i hi => h2 (c.root i, f i) (by simp [blkW]; exact .inr (.inr ⟨i, hi, rfl, rfl⟩))⟩

end Go.Proofs.YtcdlikblebdfkaaGreat
