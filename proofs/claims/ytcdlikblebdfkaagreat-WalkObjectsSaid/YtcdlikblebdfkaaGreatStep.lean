/- Steps of a device, in a row: stores, flushes, fences, and how a row of them ends, the power staying or going. -/
import Derived.Test.YtcdlikblebdfkaaGreatDevN
namespace Go.Proofs.YtcdlikblebdfkaaGreat
open Go.RowKit

/-- A step of a device. -/
inductive Cmd where
  | st (i : Nat) (v : Int)
  | fl (i : Nat)
  | fe

/-- What a step makes of a device. -/
def exec (S : DS) : Cmd → DS
  | .st i v => { S with now := put S.now i v }
  | .fl i => { S with tok := fun j => if j / 8 = i / 8 then S.now j else S.tok j, is := put S.is (i / 8) true }
  | .fe => { S with kept := fun i => if S.is (i / 8) = true then S.tok i else S.kept i, is := fun _ => false }

def execs (S : DS) (cs : List Cmd) : DS := cs.foldl exec S

theorem execs_nil (S : DS) : execs S [] = S := rfl
theorem execs_cons (S : DS) (c : Cmd) (cs : List Cmd) : execs S (c :: cs) = execs (exec S c) cs := rfl
theorem execs_append (S : DS) (A B : List Cmd) : execs S (A ++ B) = execs (execs S A) B := by simp [execs]

/-- A device and its power, so many steps done. -/
structure Pw (w : World) (p : Nat) (a : DA) (l u : Int) (S : DS) : Prop where
  dev : Dev w p a S
  pow : At w p (powO l u)
  lo : 0 ≤ u
  st : l < 0 ∨ u ≤ l

theorem Pw.keep {w w' : World} {p : Nat} {a : DA} {l u : Int} {S : DS} {T : List Nat} (h : Pw w p a l u S) (hk : Keeps T w w') (hp : p ∉ T) (hd : a.d ∉ T) (hs : a.s ∉ T) (hkk : a.k ∉ T) (hm : a.m ∉ T) : Pw w' p a l u S :=
  ⟨h.dev.keep hk hd hs hkk hm, hk.at h.pow hp, h.lo, h.st⟩

theorem Pw.keep0 {w w' : World} {p : Nat} {a : DA} {l u : Int} {S : DS} (h : Pw w p a l u S) (hk : Keeps [] w w') : Pw w' p a l u S :=
  h.keep hk (by simp) (by simp) (by simp) (by simp) (by simp)

/-- The power goes within these steps: what is left. -/
def Cut (l u : Int) (S : DS) (cs : List Cmd) (S' : DS) : Prop := ∃ pre c post, cs = pre ++ c :: post ∧ S' = execs S pre ∧ l = u + (pre.length : Int)

theorem Cut.left {l u : Int} {S S' : DS} {A : List Cmd} (h : Cut l u S A S') (B : List Cmd) : Cut l u S (A ++ B) S' := by
  obtain ⟨pre, c, post, rfl, h1, h2⟩ := h
  exact ⟨pre, c, post ++ B, by simp, h1, h2⟩

theorem Cut.right {l u u' : Int} {S T S' : DS} {A B : List Cmd} (h : Cut l u' T B S') (hu : u' = u + (A.length : Int)) (hT : T = execs S A) : Cut l u S (A ++ B) S' := by
  obtain ⟨pre, c, post, rfl, h1, h2⟩ := h
  refine ⟨A ++ pre, c, post, by simp, by rw [execs_append, ← hT]; exact h1, ?_⟩
  rw [List.length_append]
  omega

theorem Cut.parts {l u : Int} {S S' : DS} {A B : List Cmd} (h : Cut l u S (A ++ B) S') : Cut l u S A S' ∨ Cut l (u + (A.length : Int)) (execs S A) B S' := by
  obtain ⟨pre, c, post, h0, h1, h2⟩ := h
  rcases List.append_eq_append_iff.1 h0 with ⟨x, hx, hy⟩ | ⟨x, hx, hy⟩
  · refine .inr ⟨x, c, post, hy, by rw [← execs_append, ← hx]; exact h1, ?_⟩
    rw [hx, List.length_append] at h2
    omega
  · cases x with
    | nil =>
      simp at hx hy
      subst hx
      exact .inr ⟨[], c, post, hy.symm, h1, by simpa using h2⟩
    | cons y ys =>
      simp at hy
      exact .inl ⟨pre, c, ys, by rw [hx, ← hy.1], h1, h2⟩

theorem Pw.app {w : World} {p : Nat} {a : DA} {l u : Int} {S : DS} {A B : List Cmd} (h : Pw w p a l (u + (A.length : Int) + (B.length : Int)) (execs (execs S A) B)) : Pw w p a l (u + ((A ++ B).length : Int)) (execs S (A ++ B)) := by
  rw [execs_append, List.length_append]
  have e : u + ((A.length + B.length : Nat) : Int) = u + (A.length : Int) + (B.length : Int) := by omega
  rw [e]
  exact h

/-- So many steps, each by its number. -/
def rowL (f : Nat → Cmd) (n : Nat) : List Cmd := (List.range n).map f

theorem rowL_len (f : Nat → Cmd) (n : Nat) : (rowL f n).length = n := by simp [rowL]
theorem rowL_zero (f : Nat → Cmd) : rowL f 0 = [] := rfl
theorem rowL_succ (f : Nat → Cmd) (n : Nat) : rowL f (n + 1) = rowL f n ++ [f n] := by simp [rowL, List.range_succ]

theorem rowL_split (f : Nat → Cmd) {i n : Nat} (h : i ≤ n) : ∃ R, rowL f n = rowL f i ++ R := by
  refine ⟨(rowL f n).drop i, ?_⟩
  have e : rowL f i = (rowL f n).take i := by
    unfold rowL
    rw [← List.map_take, List.take_range, Nat.min_eq_left h]
  rw [e, List.take_append_drop]

theorem Cut.row {l u : Int} {S S' : DS} {f : Nat → Cmd} {i n : Nat} (h : Cut l (u + (i : Int)) (execs S (rowL f i)) [f i] S') (hi : i < n) : Cut l u S (rowL f n) S' := by
  obtain ⟨R, hR⟩ := rowL_split f (show i + 1 ≤ n from hi)
  rw [hR, rowL_succ]
  exact (h.right (by rw [rowL_len]) rfl).left R

/-- A round of a row of steps. -/
theorem Pw.row {w : World} {p : Nat} {a : DA} {l u : Int} {S : DS} {f : Nat → Cmd} {i : Nat} (h : Pw w p a l (u + (i : Int) + (([f i] : List Cmd).length : Int)) (execs (execs S (rowL f i)) [f i])) : Pw w p a l (u + ((i + 1 : Nat) : Int)) (execs S (rowL f (i + 1))) := by
  rw [rowL_succ, execs_append]
  have e : u + ((i + 1 : Nat) : Int) = u + (i : Int) + (([f i] : List Cmd).length : Int) := by simp; omega
  rw [e]
  exact h

/-- How a row of steps ends. -/
def Ran (p : Nat) (a : DA) (l u : Int) (S : DS) (cs : List Cmd) (v : Value) (w : World) (e : Ending) (w' : World) : Prop :=
  (e = .returned v ∧ Pw w' p a l (u + (cs.length : Int)) (execs S cs) ∧ Keeps [p, a.s, a.k, a.m] w w') ∨
  (e = .panicked [{ v := goneV, recovered := false }] ∧ (∃ S', Cut l u S cs S' ∧ Pw w' p a l l S') ∧ Keeps [p, a.s, a.k, a.m] w w')

theorem ran_end {p : Nat} {a : DA} {l u u' : Int} {S S' : DS} {cs : List Cmd} {v : Value} {w w' : World} (h : Pw w' p a l u' S') (hu : u' = u + (cs.length : Int)) (hS : S' = execs S cs) (hk : Keeps [p, a.s, a.k, a.m] w w') :
    Ran p a l u S cs v w (.returned v) w' := by
  subst hu hS
  exact .inl ⟨rfl, h, hk⟩

theorem ran_cut {p : Nat} {a : DA} {l u : Int} {S S' : DS} {cs : List Cmd} {v : Value} {w w' : World} (h : Pw w' p a l l S') (hc : Cut l u S cs S') (hk : Keeps [p, a.s, a.k, a.m] w w') :
    Ran p a l u S cs v w (.panicked [{ v := goneV, recovered := false }]) w' :=
  .inr ⟨rfl, ⟨S', hc, h⟩, hk⟩

theorem Pw.stays {w : World} {p : Nat} {a : DA} {l u : Int} {S : DS} (h : Pw w p a l u S) : Stays l u ∨ (0 ≤ l ∧ u = l) := by
  have := h.st
  unfold Stays
  omega

theorem cut_one (l : Int) (S : DS) (c : Cmd) : Cut l l S [c] S := ⟨[], c, [], rfl, rfl, by simp⟩

theorem store_ran (w : World) (p : Nat) (a : DA) (l u : Int) (S : DS) (i : Nat) (v : Int) (h : Pw w p a l u S) (hi : i < a.n) (hb : u < 4611686018427387904) :
    Calls Tryz.prog 9 #[ptr a.d, .int .i64 i, .int .u64 v] w (Ran p a l u S [.st i v] (.int .i64 0) w) := by
  have h0 := h.lo
  rcases h.stays with hs | ⟨hl, rfl⟩
  · refine (store_in w p a S l u i v h.dev h.pow hi h.lo (by omega) hs).mono ?_
    rintro e w' ⟨rfl, h1, h2, h3⟩
    exact ran_end ⟨h1, h2, by omega, by unfold Stays at hs; omega⟩ (by simp) rfl (h3.mono (by intro k _ hk; simp at hk ⊢; omega))
  · refine (store_goes w p a S u i v h.dev h.pow hi h.lo (by omega)).mono ?_
    rintro e w' ⟨rfl, h1, h2, h3⟩
    exact ran_cut ⟨h1, h2, h0, .inr (Int.le_refl _)⟩ (cut_one _ _ _) (h3.mono (by simp))

theorem flush_ran (w : World) (p : Nat) (a : DA) (l u : Int) (S : DS) (i : Nat) (h : Pw w p a l u S) (hi : i < a.n) (hb : u < 4611686018427387904) :
    Calls Tryz.prog 60 #[ptr a.d, .int .i64 i] w (Ran p a l u S [.fl i] (.int .i64 0) w) := by
  have h0 := h.lo
  rcases h.stays with hs | ⟨hl, rfl⟩
  · refine (flush_in w p a S l u i h.dev h.pow hi h.lo (by omega) hs).mono ?_
    rintro e w' ⟨rfl, h1, h2, h3⟩
    exact ran_end ⟨h1, h2, by omega, by unfold Stays at hs; omega⟩ (by simp) rfl (h3.mono (by intro k _ hk; simp at hk ⊢; omega))
  · refine (flush_goes w p a S u i h.dev h.pow hi h.lo (by omega)).mono ?_
    rintro e w' ⟨rfl, h1, h2, h3⟩
    exact ran_cut ⟨h1, h2, h0, .inr (Int.le_refl _)⟩ (cut_one _ _ _) (h3.mono (by simp))

theorem fence_ran (w : World) (p : Nat) (a : DA) (l u : Int) (S : DS) (h : Pw w p a l u S) (hb : u < 4611686018427387904) :
    Calls Tryz.prog 61 #[ptr a.d] w (Ran p a l u S [.fe] (.tuple #[]) w) := by
  have h0 := h.lo
  rcases h.stays with hs | ⟨hl, rfl⟩
  · refine (fence_at w p a S l u h.dev h.pow h.lo (by omega) hs).mono ?_
    rintro e w' ⟨rfl, h1, h2, h3⟩
    exact ran_end ⟨h1, h2, by omega, by unfold Stays at hs; omega⟩ (by simp) rfl (h3.mono (by intro k _ hk; simp at hk ⊢; omega))
  · refine (fence_goes w p a S u h.dev h.pow h.lo (by omega)).mono ?_
    rintro e w' ⟨rfl, h1, h2, h3⟩
    exact ran_cut ⟨h1, h2, h0, .inr (Int.le_refl _)⟩ (cut_one _ _ _) (h3.mono (by simp))

/-- A power without end. -/
theorem Ran.free {p : Nat} {a : DA} {u : Int} {S : DS} {cs : List Cmd} {v : Value} {w w' : World} {e : Ending} (h : Ran p a (-1) u S cs v w e w') (hu : 0 ≤ u) :
    e = .returned v ∧ Pw w' p a (-1) (u + (cs.length : Int)) (execs S cs) ∧ Keeps [p, a.s, a.k, a.m] w w' := by
  rcases h with h | ⟨_, ⟨_, ⟨_, _, _, _, _, hl⟩, _⟩, _⟩
  · exact h
  · omega

/-! What rows of steps make of a device. -/

/-- A step that turns no word of index j. -/
def Cmd.Off (j : Nat) : Cmd → Prop
  | .st i _ => i ≠ j
  | _ => True

theorem execs_now_off {j : Nat} : ∀ (cs : List Cmd) (S : DS), (∀ c ∈ cs, c.Off j) → (execs S cs).now j = S.now j
  | [], _, _ => rfl
  | c :: cs, S, h => by
    rw [execs_cons, execs_now_off cs _ (fun x hx => h x (List.mem_cons_of_mem _ hx))]
    have := h c List.mem_cons_self
    cases c with
    | st i v => simp only [exec, put]; rw [if_neg (fun e => this e.symm)]
    | fl i => rfl
    | fe => rfl

/-- Stores alone keep nothing. -/
def Cmd.isSt : Cmd → Prop
  | .st _ _ => True
  | _ => False

theorem execs_st : ∀ (cs : List Cmd) (S : DS), (∀ c ∈ cs, c.isSt) → (execs S cs).kept = S.kept ∧ (execs S cs).tok = S.tok ∧ (execs S cs).is = S.is
  | [], _, _ => ⟨rfl, rfl, rfl⟩
  | c :: cs, S, h => by
    rw [execs_cons]
    have h1 := execs_st cs (exec S c) (fun x hx => h x (List.mem_cons_of_mem _ hx))
    have := h c List.mem_cons_self
    cases c with
    | st i v => exact h1
    | fl i => exact this.elim
    | fe => exact this.elim

/-- A row of stores: the word of index g j, where no later one is of it, is v j. -/
theorem rowL_now (g : Nat → Nat) (v : Nat → Int) (S : DS) : ∀ (n i : Nat), i < n → (∀ j, i < j → j < n → g j ≠ g i) → (execs S (rowL (fun j => .st (g j) (v j)) n)).now (g i) = v i
  | 0, i, h, _ => absurd h (Nat.not_lt_zero _)
  | n + 1, i, h, hd => by
    rw [rowL_succ, execs_append]
    show (exec _ (.st (g n) (v n))).now (g i) = v i
    simp only [exec, put]
    by_cases hin : i = n
    · subst hin
      rw [if_pos rfl]
    · rw [if_neg (fun e => hd n (by omega) (by omega) e.symm)]
      exact rowL_now g v S n i (by omega) (fun j h1 h2 => hd j h1 (by omega))

theorem rowL_now_off (g : Nat → Nat) (v : Nat → Int) (S : DS) (n j : Nat) (h : ∀ i, i < n → g i ≠ j) : (execs S (rowL (fun j => .st (g j) (v j)) n)).now j = S.now j := by
  refine execs_now_off _ _ fun c hc => ?_
  simp only [rowL, List.mem_map, List.mem_range] at hc
  obtain ⟨i, hi, rfl⟩ := hc
  exact h i hi

/-- All lines flushed. -/
theorem rowL_flush (S : DS) : ∀ n, (execs S (rowL (fun k => .fl (8 * k)) n)).now = S.now ∧ (execs S (rowL (fun k => .fl (8 * k)) n)).kept = S.kept ∧
    (∀ j, j / 8 < n → (execs S (rowL (fun k => .fl (8 * k)) n)).is (j / 8) = true ∧ (execs S (rowL (fun k => .fl (8 * k)) n)).tok j = S.now j)
  | 0 => ⟨rfl, rfl, fun _ h => absurd h (Nat.not_lt_zero _)⟩
  | n + 1 => by
    obtain ⟨h1, h2, h3⟩ := rowL_flush S n
    rw [rowL_succ, execs_append]
    generalize execs S (rowL (fun k => .fl (8 * k)) n) = T at h1 h2 h3 ⊢
    refine ⟨h1, h2, fun j hj => ?_⟩
    show (put T.is (8 * n / 8) true) (j / 8) = true ∧ (if j / 8 = 8 * n / 8 then T.now j else T.tok j) = S.now j
    rw [show 8 * n / 8 = n by omega]
    by_cases hjn : j / 8 = n
    · rw [if_pos hjn, h1]
      exact ⟨by simp [put, hjn], rfl⟩
    · rw [if_neg hjn]
      have := h3 j (by omega)
      exact ⟨by simp [put, hjn, this.1], this.2⟩

end Go.Proofs.YtcdlikblebdfkaaGreat
