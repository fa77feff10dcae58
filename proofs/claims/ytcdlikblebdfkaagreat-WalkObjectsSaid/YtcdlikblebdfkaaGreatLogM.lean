/- What a log's steps make of a device, done or cut: no program here. -/
import Derived.Test.YtcdlikblebdfkaaGreatLogR
namespace Go.Proofs.YtcdlikblebdfkaaGreat
open Go.RowKit

/-- Whatever is left of a word, q holds of it. -/
def All (S : DS) (j : Nat) (q : Int → Prop) : Prop := q (S.now j) ∧ q (S.kept j) ∧ (S.is (j / 8) = true → q (S.tok j))

theorem All.left {S : DS} {j : Nat} {q : Int → Prop} (h : All S j q) (x : Int) : q (leftV S j x) := by
  rcases left_cases S j x with e | e | ⟨e, e2⟩
  · rw [e]; exact h.1
  · rw [e]; exact h.2.1
  · rw [e2]; exact h.2.2 e

theorem All.mono {S : DS} {j : Nat} {q q' : Int → Prop} (h : All S j q) (hq : ∀ x, q x → q' x) : All S j q' := ⟨hq _ h.1, hq _ h.2.1, fun e => hq _ (h.2.2 e)⟩

abbrev Fix (S : DS) (j : Nat) (v : Int) : Prop := All S j fun x => x = v

/-- A step that stores no other word j than q holds of. -/
def Cmd.Sto (j : Nat) (q : Int → Prop) : Cmd → Prop
  | .st i v => i = j → q v
  | _ => True

theorem All.exec {S : DS} {j : Nat} {q : Int → Prop} {c : Cmd} (h : All S j q) (hc : c.Sto j q) : All (exec S c) j q := by
  obtain ⟨h1, h2, h3⟩ := h
  cases c with
  | st i v =>
    refine ⟨?_, h2, h3⟩
    show q (put S.now i v j)
    unfold put
    by_cases e : j = i
    · rw [if_pos e]; exact hc e.symm
    · rw [if_neg e]; exact h1
  | fl i =>
    refine ⟨h1, h2, fun he => ?_⟩
    show q (if j / 8 = i / 8 then S.now j else S.tok j)
    by_cases e : j / 8 = i / 8
    · rw [if_pos e]; exact h1
    · rw [if_neg e]
      apply h3
      have : put S.is (i / 8) true (j / 8) = true := he
      rwa [put_off _ _ e] at this
  | fe =>
    refine ⟨h1, ?_, fun he => by cases he⟩
    show q (if S.is (j / 8) = true then S.tok j else S.kept j)
    by_cases e : S.is (j / 8) = true
    · rw [if_pos e]; exact h3 e
    · rw [if_neg e]; exact h2

theorem All.execs {j : Nat} {q : Int → Prop} : ∀ (cs : List Cmd) {S : DS}, All S j q → (∀ c ∈ cs, c.Sto j q) → All (execs S cs) j q
  | [], _, h, _ => h
  | c :: cs, S, h, hc => by
    rw [execs_cons]
    exact All.execs cs (h.exec (hc c List.mem_cons_self)) (fun x hx => hc x (List.mem_cons_of_mem _ hx))

theorem All.cut {l u : Int} {S S' : DS} {cs : List Cmd} {j : Nat} {q : Int → Prop} (h : All S j q) (hc : ∀ c ∈ cs, c.Sto j q) (hcut : Cut l u S cs S') : All S' j q := by
  obtain ⟨pre, c, post, rfl, rfl, _⟩ := hcut
  exact h.execs pre fun x hx => hc x (List.mem_append_left _ hx)

/-- What is said of word j stays said. -/
def Pre (S S' : DS) (j : Nat) : Prop := ∀ q : Int → Prop, All S j q → All S' j q

theorem Pre.refl (S : DS) (j : Nat) : Pre S S j := fun _ h => h
theorem Pre.trans {S S' S'' : DS} {j : Nat} (h : Pre S S' j) (h' : Pre S' S'' j) : Pre S S'' j := fun q hq => h' q (h q hq)

theorem Off.sto {c : Cmd} {j : Nat} (h : c.Off j) (q : Int → Prop) : c.Sto j q := by
  cases c with
  | st i v => exact fun e => absurd e h
  | fl i => trivial
  | fe => trivial

theorem pre_execs {S : DS} {cs : List Cmd} {j : Nat} (h : ∀ c ∈ cs, c.Off j) : Pre S (execs S cs) j := fun _ hq => hq.execs cs fun c hc => Off.sto (h c hc) _
theorem pre_cut {l u : Int} {S S' : DS} {cs : List Cmd} {j : Nat} (h : ∀ c ∈ cs, c.Off j) (hcut : Cut l u S cs S') : Pre S S' j := fun _ hq => hq.cut (fun c hc => Off.sto (h c hc) _) hcut

/-- What a crash leaves, by choices. -/
def crashed (S : DS) (ch : Nat → Int) : DS := { now := fun i => leftV S i (ch i), kept := fun i => leftV S i (ch i), tok := S.tok, is := fun _ => false }

theorem crashed_all {S : DS} {ch : Nat → Int} {j : Nat} {q : Int → Prop} : All (crashed S ch) j q ↔ q (leftV S j (ch j)) := ⟨fun h => h.1, fun h => ⟨h, h, fun e => by cases e⟩⟩
theorem crashed_pre (S : DS) (ch : Nat → Int) (j : Nat) : Pre S (crashed S ch) j := fun _ h => crashed_all.2 (h.left _)

/-- A line that is flushed, and fenced. -/
theorem kp_fix (S : DS) (i j : Nat) (h : j / 8 = i / 8) : Fix (execs S (kpL i)) j (S.now j) := by
  refine ⟨rfl, ?_, fun e => by cases e⟩
  show (if put S.is (i / 8) true (j / 8) = true then (if j / 8 = i / 8 then S.now j else S.tok j) else S.kept j) = S.now j
  rw [h, put_on, if_pos rfl, if_pos rfl]

/-! Records. -/

/-- The epoch behind so many truncations. -/
def eN (e0 r : Nat) : Nat := (e0 + r) % 4294967296
theorem eN_lt (e0 r : Nat) : eN e0 r < 4294967296 := Nat.mod_lt _ (by omega)
theorem epN_eN (e0 r : Nat) : epN (eN e0 r) = eN e0 r := Nat.mod_eq_of_lt (eN_lt e0 r)
theorem eN_succ (e0 r : Nat) : epN (eN e0 r + 1) = eN e0 (r + 1) := by unfold epN eN; omega
theorem eN_ne (e0 : Nat) {r r' : Nat} (h : r' < r) (hr : r < 4294967296) : eN e0 r ≠ eN e0 r' := by unfold eN; omega
theorem stN_ne {e e' i : Nat} (h : e ≠ e') : stN e i ≠ stN e' i := by unfold stN; omega

/-- A stamp that isn't good: none, or an earlier epoch's. -/
def Old (e0 r i : Nat) (x : Int) : Prop := x = 0 ∨ ∃ r', r' < r ∧ x = (stN (eN e0 r') i : Nat)

theorem Old.ne {e0 r i : Nat} {x : Int} (h : Old e0 r i x) (hr : r < 4294967296) : x ≠ (stN (eN e0 r) i : Nat) := by
  rcases h with rfl | ⟨r', h1, rfl⟩
  · unfold stN; omega
  · have := stN_ne (i := i) (eN_ne e0 h1 hr)
    omega
theorem Old.more {e0 r i : Nat} {x : Int} (h : Old e0 r i x) : Old e0 (r + 1) i x := by
  rcases h with h | ⟨r', h1, h2⟩
  · exact .inl h
  · exact .inr ⟨r', by omega, h2⟩

/-- The log's words: m records of the epoch, and no more. -/
structure LR (c : Cfg) (n e0 r m : Nat) (pl : Nat → Nat) (wd : Nat → Int) (S : DS) : Prop where
  ep : Fix S 8 (eN e0 r : Nat)
  recs : ∀ i, i < m → Fix S (16 + 4 * i) (stN (eN e0 r) i : Nat) ∧ Fix S (16 + 4 * i + 1) (pl i : Nat) ∧ Fix S (16 + 4 * i + 2) (wd i) ∧ c.act ≤ pl i ∧ pl i < n
  old : ∀ i, m ≤ i → i < c.log → All S (16 + 4 * i) (Old e0 r i)
  le : m ≤ c.log

theorem LR.pre {c : Cfg} {n e0 r m : Nat} {pl : Nat → Nat} {wd : Nat → Int} {S S' : DS} (h : LR c n e0 r m pl wd S) (h8 : Pre S S' 8) (hr : ∀ i, i < m → Pre S S' (16 + 4 * i) ∧ Pre S S' (16 + 4 * i + 1) ∧ Pre S S' (16 + 4 * i + 2))
    (ho : ∀ i, m ≤ i → i < c.log → Pre S S' (16 + 4 * i)) : LR c n e0 r m pl wd S' :=
  ⟨h8 _ h.ep, fun i hi => ⟨(hr i hi).1 _ (h.recs i hi).1, (hr i hi).2.1 _ (h.recs i hi).2.1, (hr i hi).2.2 _ (h.recs i hi).2.2.1, (h.recs i hi).2.2.2⟩, fun i h1 h2 => ho i h1 h2 _ (h.old i h1 h2), h.le⟩

/-- A record more. -/
theorem LR.grow {c : Cfg} {n e0 r m : Nat} {pl : Nat → Nat} {wd : Nat → Int} {S S' : DS} (h : LR c n e0 r m pl wd S) (hm : m < c.log) (hp : ∀ j, j ≠ 16 + 4 * m → j ≠ 16 + 4 * m + 1 → j ≠ 16 + 4 * m + 2 → j < c.act → Pre S S' j)
    {i : Nat} {v : Int} (h1 : Fix S' (16 + 4 * m) (stN (eN e0 r) m : Nat)) (h2 : Fix S' (16 + 4 * m + 1) (i : Nat)) (h3 : Fix S' (16 + 4 * m + 2) v) (hi : c.act ≤ i ∧ i < n) : LR c n e0 r (m + 1) (put pl m i) (put wd m v) S' := by
  have hact : 16 + 4 * c.log ≤ c.act := (up8_le (16 + 4 * c.log)).1
  refine ⟨hp 8 (by omega) (by omega) (by omega) (by omega) _ h.ep, fun k hk => ?_, fun k hk1 hk2 => hp _ (by omega) (by omega) (by omega) (by omega) _ (h.old k (by omega) hk2), hm⟩
  by_cases hkm : k = m
  · subst hkm
    rw [put_on, put_on]
    exact ⟨h1, h2, h3, hi⟩
  · rw [put_off _ _ hkm, put_off _ _ hkm]
    obtain ⟨a1, a2, a3, a4⟩ := h.recs k (by omega)
    exact ⟨hp _ (by omega) (by omega) (by omega) (by omega) _ a1, hp _ (by omega) (by omega) (by omega) (by omega) _ a2, hp _ (by omega) (by omega) (by omega) (by omega) _ a3, a4⟩

/-- Another epoch. -/
theorem LR.next {c : Cfg} {n e0 r m : Nat} {pl : Nat → Nat} {wd : Nat → Int} {S S' : DS} (h : LR c n e0 r m pl wd S) (hp : ∀ j, 16 ≤ j → j < c.act → Pre S S' j) (h8 : Fix S' 8 (eN e0 (r + 1) : Nat)) (pl' : Nat → Nat) (wd' : Nat → Int) : LR c n e0 (r + 1) 0 pl' wd' S' := by
  have hact : 16 + 4 * c.log ≤ c.act := (up8_le (16 + 4 * c.log)).1
  refine ⟨h8, fun _ hi => absurd hi (Nat.not_lt_zero _), fun i _ hi => hp _ (by omega) (by omega) _ ?_, Nat.zero_le _⟩
  rcases Nat.lt_or_ge i m with h1 | h1
  · exact (h.recs i h1).1.mono fun x hx => .inr ⟨r, by omega, hx⟩
  · exact (h.old i h1 hi).mono fun x hx => hx.more

/-- What is good, by the words that stand. -/
theorem LR.good {c : Cfg} {n e0 r m : Nat} {pl : Nat → Nat} {wd : Nat → Int} {S : DS} (h : LR c n e0 r m pl wd S) (i : Nat) (hi : i < m) : goodB S.now (epN (eN e0 r)) i = true := by
  rw [epN_eN]
  unfold goodB
  rw [beq_iff_eq]
  exact (h.recs i hi).1.1
theorem LR.bad {c : Cfg} {n e0 r m : Nat} {pl : Nat → Nat} {wd : Nat → Int} {S : DS} (h : LR c n e0 r m pl wd S) (hr : r < 4294967296) (hm : m < c.log) : goodB S.now (epN (eN e0 r)) m = false := by
  rw [epN_eN]
  unfold goodB
  rw [beq_eq_false_iff_ne]
  exact (h.old m (Nat.le_refl _) hm).1.ne hr

/-- How many records Open finds. -/
theorem LR.count {c : Cfg} {n e0 r m k : Nat} {pl : Nat → Nat} {wd : Nat → Int} {S : DS} (h : LR c n e0 r m pl wd S) (hr : r < 4294967296) (hk : k ≤ c.log) (h1 : ∀ i, i < k → goodB S.now (epN (eN e0 r)) i = true) (h2 : k < c.log → goodB S.now (epN (eN e0 r)) k = false) : k = m := by
  rcases Nat.lt_trichotomy k m with hlt | rfl | hgt
  · have := h2 (by have := h.le; omega)
    rw [h.good k hlt] at this
    cases this
  · rfl
  · have := h1 m hgt
    rw [h.bad hr (by omega)] at this
    cases this

/-! Words behind the log. -/

/-- Word j is, or is undone to, D j. -/
def Und (m : Nat) (pl : Nat → Nat) (wd : Nat → Int) (D : Nat → Int) (S : DS) (j : Nat) : Prop :=
  (∃ i, i < m ∧ pl i = j ∧ wd i = D j ∧ ∀ i', i' < i → pl i' ≠ j) ∨ ((∀ i, i < m → pl i ≠ j) ∧ Fix S j (D j))

def UD (c : Cfg) (n m : Nat) (pl : Nat → Nat) (wd : Nat → Int) (D : Nat → Int) (S : DS) : Prop := ∀ j, c.act ≤ j → j < n → Und m pl wd D S j

theorem UD.pre {c : Cfg} {n m : Nat} {pl : Nat → Nat} {wd : Nat → Int} {D : Nat → Int} {S S' : DS} (h : UD c n m pl wd D S) (hp : ∀ j, c.act ≤ j → j < n → (∀ i, i < m → pl i ≠ j) → Pre S S' j) : UD c n m pl wd D S' := fun j h1 h2 => by
  rcases h j h1 h2 with h3 | ⟨h3, h4⟩
  · exact .inl h3
  · exact .inr ⟨h3, hp j h1 h2 h3 _ h4⟩

theorem UD.grow {c : Cfg} {n m : Nat} {pl : Nat → Nat} {wd : Nat → Int} {D : Nat → Int} {S S' : DS} (h : UD c n m pl wd D S) (hp : ∀ j, c.act ≤ j → j < n → Pre S S' j) (i : Nat) (hi : c.act ≤ i ∧ i < n) : UD c n (m + 1) (put pl m i) (put wd m (S.now i)) D S' := fun j h1 h2 => by
  rcases h j h1 h2 with ⟨k, hk, h3, h4, h5⟩ | ⟨h3, h4⟩
  · exact .inl ⟨k, by omega, by rw [put_off _ _ (by omega)]; exact h3, by rw [put_off _ _ (by omega)]; exact h4, fun i' hi' => by rw [put_off _ _ (by omega)]; exact h5 i' hi'⟩
  · by_cases hji : j = i
    · subst hji
      exact .inl ⟨m, by omega, put_on _ _ _, by rw [put_on]; exact h4.1, fun i' hi' => by rw [put_off _ _ (by omega)]; exact h3 i' hi'⟩
    · refine .inr ⟨fun k hk => ?_, hp j h1 h2 _ h4⟩
      by_cases hkm : k = m
      · subst hkm; rw [put_on]; exact fun e => hji e.symm
      · rw [put_off _ _ hkm]; exact h3 k (by omega)

/-! Which words steps store. -/

theorem setL_off {c : Cfg} {st : Bool} {y : Cmd} (h : y ∈ sL c st) (j : Nat) : y.Off j := by
  cases st
  · simp only [sL, Bool.false_eq_true, if_false, setL, List.mem_append, List.mem_singleton] at h
    rcases h with h | rfl
    · obtain ⟨i, _, rfl⟩ := mem_rowL h
      trivial
    · trivial
  · simp [sL] at h

theorem filL_off {m : Nat} {i v : Int} {y : Cmd} (h : y ∈ filL m i v) {j : Nat} (h1 : j ≠ 16 + 4 * m + 1) (h2 : j ≠ 16 + 4 * m + 2) : y.Off j := by
  simp only [filL, kpL, List.mem_cons, List.not_mem_nil, or_false] at h
  rcases h with rfl | rfl | rfl | rfl
  · exact fun e => h1 e.symm
  · exact fun e => h2 e.symm
  · trivial
  · trivial

theorem seaL_off {m e : Nat} {y : Cmd} (h : y ∈ seaL m e) {j : Nat} (h1 : j ≠ 16 + 4 * m) : y.Off j := by
  simp only [seaL, kpL, List.mem_cons, List.not_mem_nil, or_false] at h
  rcases h with rfl | rfl | rfl
  · exact fun e => h1 e.symm
  · trivial
  · trivial

theorem truT_off {v : Int} {y : Cmd} (h : y ∈ Cmd.st 8 v :: kpL 8) {j : Nat} (h1 : j ≠ 8) : y.Off j := by
  simp only [kpL, List.mem_cons, List.not_mem_nil, or_false] at h
  rcases h with rfl | rfl | rfl
  · exact fun e => h1 e.symm
  · trivial
  · trivial

theorem truL_off {c : Cfg} {st : Bool} {e : Nat} {y : Cmd} (h : y ∈ truL c st e) {j : Nat} (h1 : j ≠ 8) : y.Off j := by
  rcases List.mem_append.1 h with h | h
  · exact setL_off h j
  · exact truT_off h h1

theorem appL_off {c : Cfg} {st : Bool} {m e i : Nat} {v : Int} {y : Cmd} (h : y ∈ appL c st false m e i v) {j : Nat} (h0 : j ≠ 16 + 4 * m) (h1 : j ≠ 16 + 4 * m + 1) (h2 : j ≠ 16 + 4 * m + 2) : y.Off j := by
  simp only [appL, gL, Bool.false_eq_true, if_false, List.nil_append, List.mem_append] at h
  rcases h with h | h | h
  · exact setL_off h j
  · exact filL_off h h1 h2
  · exact seaL_off h h0

/-! Append. -/

theorem fil_fix (S : DS) (m : Nat) (i v : Int) : Fix (execs S (filL m i v)) (16 + 4 * m + 1) i ∧ Fix (execs S (filL m i v)) (16 + 4 * m + 2) v := by
  have e : filL m i v = [Cmd.st (16 + 4 * m + 1) i, .st (16 + 4 * m + 2) v] ++ kpL (16 + 4 * m) := rfl
  rw [e, execs_append]
  obtain ⟨T, hT⟩ : ∃ T, T = execs S [Cmd.st (16 + 4 * m + 1) i, .st (16 + 4 * m + 2) v] := ⟨_, rfl⟩
  have h1 : T.now (16 + 4 * m + 1) = i := by
    rw [hT]
    show put (put S.now (16 + 4 * m + 1) i) (16 + 4 * m + 2) v (16 + 4 * m + 1) = i
    rw [put_off _ _ (by omega), put_on]
  have h2 : T.now (16 + 4 * m + 2) = v := by
    rw [hT]
    show put (put S.now (16 + 4 * m + 1) i) (16 + 4 * m + 2) v (16 + 4 * m + 2) = v
    rw [put_on]
  rw [← hT]
  have k1 := kp_fix T (16 + 4 * m) (16 + 4 * m + 1) (by omega)
  have k2 := kp_fix T (16 + 4 * m) (16 + 4 * m + 2) (by omega)
  rw [h1] at k1
  rw [h2] at k2
  exact ⟨k1, k2⟩

theorem sea_fix (S : DS) (m e : Nat) : Fix (execs S (seaL m e)) (16 + 4 * m) (stN e m : Nat) := by
  have e1 : seaL m e = [Cmd.st (16 + 4 * m) (stN e m : Nat)] ++ kpL (16 + 4 * m) := rfl
  rw [e1, execs_append]
  have k := kp_fix (execs S [Cmd.st (16 + 4 * m) (stN e m : Nat)]) (16 + 4 * m) (16 + 4 * m) rfl
  have h1 : (execs S [Cmd.st (16 + 4 * m) (stN e m : Nat)]).now (16 + 4 * m) = (stN e m : Nat) := put_on _ _ _
  rw [h1] at k
  exact k

section
variable {c : Cfg} {n e0 r m : Nat} {pl : Nat → Nat} {wd : Nat → Int} {D : Nat → Int} {S S' : DS} {l u : Int} {st : Bool}

theorem app_pre {e i : Nat} {v : Int} {j : Nat} (h0 : j ≠ 16 + 4 * m) (h1 : j ≠ 16 + 4 * m + 1) (h2 : j ≠ 16 + 4 * m + 2) : Pre S (execs S (appL c st false m e i v)) j ∧ (execs S (appL c st false m e i v)).now j = S.now j :=
  ⟨pre_execs fun _ hy => appL_off hy h0 h1 h2, execs_now_off _ _ fun _ hy => appL_off hy h0 h1 h2⟩

theorem app_fields (e i : Nat) (v : Int) : Fix (execs S (appL c st false m e i v)) (16 + 4 * m) (stN e m : Nat) ∧ Fix (execs S (appL c st false m e i v)) (16 + 4 * m + 1) i ∧ Fix (execs S (appL c st false m e i v)) (16 + 4 * m + 2) v := by
  have e1 : appL c st false m e i v = (sL c st ++ filL m i v) ++ seaL m e := by simp [appL, gL]
  rw [e1, execs_append, execs_append]
  have f := fil_fix (execs S (sL c st)) m i v
  refine ⟨sea_fix _ _ _, ?_, ?_⟩
  · exact pre_execs (fun _ hy => seaL_off hy (by omega)) _ f.1
  · exact pre_execs (fun _ hy => seaL_off hy (by omega)) _ f.2

theorem app_done (h : LR c n e0 r m pl wd S) (hm : m < c.log) (i : Nat) (v : Int) (hi : c.act ≤ i ∧ i < n) :
    LR c n e0 r (m + 1) (put pl m i) (put wd m v) (execs S (appL c st false m (eN e0 r) i v)) := by
  obtain ⟨f1, f2, f3⟩ := app_fields (c := c) (m := m) (S := S) (st := st) (eN e0 r) i v
  exact h.grow hm (fun j h0 h1 h2 _ => (app_pre h0 h1 h2).1) f1 f2 f3 hi

/-- Records, and what they undo to. -/
def LI (c : Cfg) (n e0 r m : Nat) (pl : Nat → Nat) (wd : Nat → Int) (D : Nat → Int) (S : DS) : Prop := LR c n e0 r m pl wd S ∧ UD c n m pl wd D S

theorem LI.pre (h : LI c n e0 r m pl wd D S) (h0 : ∀ j, j < c.act → Pre S S' j) (hp : ∀ j, c.act ≤ j → j < n → (∀ i, i < m → pl i ≠ j) → Pre S S' j) : LI c n e0 r m pl wd D S' := by
  have hact : 16 + 4 * c.log ≤ c.act := (up8_le (16 + 4 * c.log)).1
  have hle := h.1.le
  exact ⟨h.1.pre (h0 8 (by omega)) (fun i hi => ⟨h0 _ (by omega), h0 _ (by omega), h0 _ (by omega)⟩) (fun i _ hi => h0 _ (by omega)), h.2.pre hp⟩

/-- A crash within Append: the record is one, or none. -/
theorem app_cut (h : LI c n e0 r m pl wd D S) (hm : m < c.log) (i : Nat) (hi : c.act ≤ i ∧ i < n) (hc : Cut l u S (appL c st false m (eN e0 r) i (S.now i)) S') (ch : Nat → Int) :
    LI c n e0 r m pl wd D (crashed S' ch) ∨ LI c n e0 r (m + 1) (put pl m i) (put wd m (S.now i)) D (crashed S' ch) := by
  have hact : 16 + 4 * c.log ≤ c.act := (up8_le (16 + 4 * c.log)).1
  have e1 : appL c st false m (eN e0 r) i (S.now i) = (sL c st ++ filL m i (S.now i)) ++ seaL m (eN e0 r) := by simp [appL, gL]
  rw [e1] at hc
  have off1 : ∀ j, j ≠ 16 + 4 * m + 1 → j ≠ 16 + 4 * m + 2 → ∀ y ∈ sL c st ++ filL m i (S.now i), y.Off j := fun j h1 h2 y hy => by
    rcases List.mem_append.1 hy with hy | hy
    · exact setL_off hy j
    · exact filL_off hy h1 h2
  rcases hc.parts with hc | hc
  · left
    have hp : ∀ j, j ≠ 16 + 4 * m + 1 → j ≠ 16 + 4 * m + 2 → Pre S (crashed S' ch) j := fun j h1 h2 => (pre_cut (off1 j h1 h2) hc).trans (crashed_pre _ _ _)
    exact ⟨h.1.pre (hp 8 (by omega) (by omega)) (fun k hk => ⟨hp _ (by omega) (by omega), hp _ (by omega) (by omega), hp _ (by omega) (by omega)⟩) (fun k _ hk => hp _ (by omega) (by omega)), h.2.pre fun j h1 _ _ => hp _ (by omega) (by omega)⟩
  · obtain ⟨T, hT⟩ : ∃ T, T = execs S (sL c st ++ filL m i (S.now i)) := ⟨_, rfl⟩
    rw [← hT] at hc
    have f : Fix T (16 + 4 * m + 1) i ∧ Fix T (16 + 4 * m + 2) (S.now i) := by rw [hT, execs_append]; exact fil_fix _ _ _ _
    have hp1 : ∀ j, j ≠ 16 + 4 * m + 1 → j ≠ 16 + 4 * m + 2 → Pre S T j := fun j h1 h2 => by rw [hT]; exact pre_execs (off1 j h1 h2)
    have hp2 : ∀ j, j ≠ 16 + 4 * m → Pre T (crashed S' ch) j := fun j h1 => (pre_cut (fun y hy => seaL_off hy h1) hc).trans (crashed_pre _ _ _)
    have hp : ∀ j, j ≠ 16 + 4 * m → j ≠ 16 + 4 * m + 1 → j ≠ 16 + 4 * m + 2 → Pre S (crashed S' ch) j := fun j h0 h1 h2 => (hp1 j h1 h2).trans (hp2 j h0)
    have ho : All T (16 + 4 * m) (Old e0 r m) := hp1 _ (by omega) (by omega) _ (h.1.old m (Nat.le_refl _) hm)
    have ha : All S' (16 + 4 * m) (fun x => x = (stN (eN e0 r) m : Nat) ∨ Old e0 r m x) := by
      refine (ho.mono fun x hx => .inr hx).cut (fun y hy => ?_) hc
      simp only [seaL, kpL, List.mem_cons, List.not_mem_nil, or_false] at hy
      rcases hy with rfl | rfl | rfl
      · exact fun _ => .inl rfl
      · trivial
      · trivial
    rcases ha.left (ch (16 + 4 * m)) with e | e
    · exact .inr ⟨h.1.grow hm (fun j h0 h1 h2 _ => hp j h0 h1 h2) (crashed_all.2 e) (hp2 _ (by omega) _ f.1) (hp2 _ (by omega) _ f.2) hi, h.2.grow (fun j h1 _ => hp j (by omega) (by omega) (by omega)) i hi⟩
    · left
      refine ⟨⟨hp 8 (by omega) (by omega) (by omega) _ h.1.ep, fun k hk => ?_, fun k h1 h2 => ?_, h.1.le⟩, h.2.pre fun j h1 _ _ => hp j (by omega) (by omega) (by omega)⟩
      · obtain ⟨a1, a2, a3, a4⟩ := h.1.recs k hk
        exact ⟨hp _ (by omega) (by omega) (by omega) _ a1, hp _ (by omega) (by omega) (by omega) _ a2, hp _ (by omega) (by omega) (by omega) _ a3, a4⟩
      · by_cases hkm : k = m
        · subst hkm; exact crashed_all.2 e
        · exact hp _ (by omega) (by omega) (by omega) _ (h.1.old k h1 h2)

/-! Undo, Truncate. -/

theorem undP_words (pl : Nat → Nat) (wd : Nat → Int) (m : Nat) (S : DS) : ∀ k, k ≤ m → ∀ j, (∃ i, m - k ≤ i ∧ i < m ∧ pl i = j) →
    ∃ i, m - k ≤ i ∧ i < m ∧ pl i = j ∧ (∀ i', m - k ≤ i' → i' < i → pl i' ≠ j) ∧ (execs S (undP pl wd m k)).now j = wd i ∧ (execs S (undP pl wd m k)).is (j / 8) = true ∧ (execs S (undP pl wd m k)).tok j = wd i
  | 0, _, j, ⟨i, h1, h2, _⟩ => by omega
  | k + 1, hk, j, ⟨i, h1, h2, h3⟩ => by
    have ih := undP_words pl wd m S k (by omega) j
    rw [undP_succ, execs_append]
    generalize execs S (undP pl wd m k) = T at ih ⊢
    obtain ⟨i0, hi0⟩ : ∃ i0, i0 = m - 1 - k := ⟨_, rfl⟩
    rw [← hi0]
    by_cases hj : j = pl i0
    · subst hj
      refine ⟨i0, by omega, by omega, rfl, fun i' h4 h5 => by omega, ?_, ?_, ?_⟩
      · exact put_on T.now _ _
      · exact put_on T.is _ _
      · show (if pl i0 / 8 = pl i0 / 8 then put T.now (pl i0) (wd i0) (pl i0) else T.tok (pl i0)) = wd i0
        rw [if_pos rfl, put_on]
    · have hne : i ≠ i0 := by rintro rfl; exact hj h3.symm
      obtain ⟨i1, a1, a2, a3, a4, a5, a6, a7⟩ := ih ⟨i, by omega, h2, h3⟩
      refine ⟨i1, by omega, a2, a3, fun i' h4 h5 => ?_, ?_, ?_, ?_⟩
      · by_cases hi' : i' = i0
        · subst hi'; exact fun e => hj e.symm
        · exact a4 i' (by omega) h5
      · exact (put_off T.now _ hj).trans a5
      · show put T.is (pl i0 / 8) true (j / 8) = true
        unfold put
        by_cases e : j / 8 = pl i0 / 8
        · rw [if_pos e]
        · rw [if_neg e]; exact a6
      · show (if j / 8 = pl i0 / 8 then put T.now (pl i0) (wd i0) j else T.tok j) = wd i1
        by_cases e : j / 8 = pl i0 / 8
        · rw [if_pos e, put_off _ _ hj]; exact a5
        · rw [if_neg e]; exact a7

/-- What stands, and is kept, behind Undo's loop and its fence. -/
theorem undP_fix (h : UD c n m pl wd D S) : ∀ j, c.act ≤ j → j < n → Fix (execs (execs S (undP pl wd m m)) [.fe]) j (D j) := by
  intro j h1 h2
  rcases h j h1 h2 with ⟨i, hi, h3, h4, h5⟩ | ⟨h3, h4⟩
  · obtain ⟨i1, a1, a2, a3, a4, a5, a6, a7⟩ := undP_words pl wd m S m (Nat.le_refl _) j ⟨i, by omega, hi, h3⟩
    have : i1 = i := by
      rcases Nat.lt_trichotomy i1 i with hl | he | hg
      · exact absurd a3 (h5 i1 hl)
      · exact he
      · exact absurd h3 (a4 i (by omega) hg)
    subst this
    rw [h4] at a5 a7
    refine ⟨a5, ?_, fun e => by cases e⟩
    show (if (execs S (undP pl wd m m)).is (j / 8) = true then (execs S (undP pl wd m m)).tok j else (execs S (undP pl wd m m)).kept j) = D j
    rw [if_pos a6, a7]
  · refine pre_execs (fun y hy => ?_) _ (pre_execs (fun y hy => ?_) _ h4)
    · simp at hy; subst hy; trivial
    · obtain ⟨i', hi', rfl | rfl⟩ := undP_mem (Nat.le_refl _) hy
      · exact h3 i' hi'
      · trivial

/-- Truncate, done. -/
theorem tru_done (h : LR c n e0 r m pl wd S) (pl' : Nat → Nat) (wd' : Nat → Int) : LR c n e0 (r + 1) 0 pl' wd' (execs S (truL c st (eN e0 r))) := by
  refine h.next (fun j h1 _ => pre_execs fun y hy => truL_off hy (by omega)) ?_ _ _
  have e1 : truL c st (eN e0 r) = (sL c st ++ [Cmd.st 8 (epN (eN e0 r + 1) : Nat)]) ++ kpL 8 := by simp [truL]
  rw [e1, execs_append, execs_append]
  have k := kp_fix (execs (execs S (sL c st)) [Cmd.st 8 (epN (eN e0 r + 1) : Nat)]) 8 8 rfl
  have h1 : (execs (execs S (sL c st)) [Cmd.st 8 (epN (eN e0 r + 1) : Nat)]).now 8 = (epN (eN e0 r + 1) : Nat) := one_on _ _ _
  rw [h1] at k
  rw [eN_succ] at k ⊢
  exact k

/-- A crash within Truncate: all, or none. -/
theorem tru_cut (h : LR c n e0 r m pl wd S) (hc : Cut l u S (truL c st (eN e0 r)) S') (ch : Nat → Int) (pl' : Nat → Nat) (wd' : Nat → Int) : LR c n e0 r m pl wd (crashed S' ch) ∨ LR c n e0 (r + 1) 0 pl' wd' (crashed S' ch) := by
  have hact : 16 + 4 * c.log ≤ c.act := (up8_le (16 + 4 * c.log)).1
  have hle := h.le
  have hp : ∀ j, j ≠ 8 → Pre S (crashed S' ch) j := fun j hj => (pre_cut (fun y hy => truL_off hy hj) hc).trans (crashed_pre _ _ _)
  have ha : All S' 8 (fun x => x = (eN e0 r : Nat) ∨ x = (eN e0 (r + 1) : Nat)) := by
    refine (h.ep.mono fun x hx => .inl hx).cut (fun y hy => ?_) hc
    rcases List.mem_append.1 hy with hy | hy
    · exact Off.sto (setL_off hy 8) _
    · simp only [kpL, List.mem_cons, List.not_mem_nil, or_false] at hy
      rcases hy with rfl | rfl | rfl
      · exact fun _ => .inr (by rw [eN_succ])
      · trivial
      · trivial
  rcases ha.left (ch 8) with e | e
  · left
    refine ⟨crashed_all.2 e, fun i hi => ?_, fun i h1 h2 => hp _ (by omega) _ (h.old i h1 h2), h.le⟩
    obtain ⟨a1, a2, a3, a4⟩ := h.recs i hi
    exact ⟨hp _ (by omega) _ a1, hp _ (by omega) _ a2, hp _ (by omega) _ a3, a4⟩
  · exact .inr (h.next (fun j h1 _ => hp j (by omega)) (crashed_all.2 e) _ _)

/-- Within Undo's loop and its fence nothing but words that have records is stored. -/
theorem undP_LI (h : LI c n e0 r m pl wd D S) (hp : ∀ j, (∀ i, i < m → pl i ≠ j) → Pre S S' j) : LI c n e0 r m pl wd D S' :=
  h.pre (fun j hj => hp j fun i hi e => by have := (h.1.recs i hi).2.2.2.1; omega) (fun j _ _ h3 => hp j h3)

theorem undA_off {y : Cmd} (hy : y ∈ sL c st ++ (undP pl wd m m ++ [Cmd.fe])) {j : Nat} (hj : ∀ i, i < m → pl i ≠ j) : y.Off j := by
  simp only [List.mem_append, List.mem_singleton] at hy
  rcases hy with hy | hy | rfl
  · exact setL_off hy j
  · obtain ⟨i', hi', rfl | rfl⟩ := undP_mem (Nat.le_refl _) hy
    · exact hj i' hi'
    · trivial
  · trivial

theorem undL_parts (e : Nat) : undL c st pl wd m e = (sL c st ++ (undP pl wd m m ++ [Cmd.fe])) ++ truL c true e := by simp [undL]

theorem undA_fix (h : LI c n e0 r m pl wd D S) : LI c n e0 r m pl wd D (execs S (sL c st ++ (undP pl wd m m ++ [Cmd.fe]))) ∧ ∀ j, c.act ≤ j → j < n → Fix (execs S (sL c st ++ (undP pl wd m m ++ [Cmd.fe]))) j (D j) := by
  refine ⟨undP_LI h fun j hj => pre_execs fun y hy => undA_off hy hj, ?_⟩
  rw [execs_append, execs_append]
  refine undP_fix ?_
  exact h.2.pre fun j _ _ _ => pre_execs fun y hy => setL_off hy j

/-- Undo, done: all is D, and kept; no records; another epoch. -/
theorem und_done (h : LI c n e0 r m pl wd D S) (pl' : Nat → Nat) (wd' : Nat → Int) :
    LR c n e0 (r + 1) 0 pl' wd' (execs S (undL c st pl wd m (eN e0 r))) ∧ ∀ j, c.act ≤ j → j < n → Fix (execs S (undL c st pl wd m (eN e0 r))) j (D j) := by
  have hact : 16 + 4 * c.log ≤ c.act := (up8_le (16 + 4 * c.log)).1
  rw [undL_parts, execs_append]
  obtain ⟨h1, h2⟩ := undA_fix (st := st) h
  exact ⟨tru_done h1.1 _ _, fun j a b => pre_execs (fun y hy => truL_off hy (by omega)) _ (h2 j a b)⟩

/-- A crash within Undo. -/
theorem und_crash (h : LI c n e0 r m pl wd D S) (hc : Cut l u S (undL c st pl wd m (eN e0 r)) S') (ch : Nat → Int) (pl' : Nat → Nat) (wd' : Nat → Int) :
    LI c n e0 r m pl wd D (crashed S' ch) ∨ (LR c n e0 (r + 1) 0 pl' wd' (crashed S' ch) ∧ ∀ j, c.act ≤ j → j < n → Fix (crashed S' ch) j (D j)) := by
  have hact : 16 + 4 * c.log ≤ c.act := (up8_le (16 + 4 * c.log)).1
  rw [undL_parts] at hc
  rcases hc.parts with hc | hc
  · exact .inl (undP_LI h fun j hj => (pre_cut (fun y hy => undA_off hy hj) hc).trans (crashed_pre _ _ _))
  · obtain ⟨h1, h2⟩ := undA_fix (st := st) h
    have hd : ∀ j, c.act ≤ j → Pre _ (crashed S' ch) j := fun j a => (pre_cut (fun y hy => truL_off hy (by omega)) hc).trans (crashed_pre _ _ _)
    rcases tru_cut h1.1 hc ch pl' wd' with h3 | h3
    · exact .inl ⟨h3, h1.2.pre fun j a _ _ => hd j a⟩
    · exact .inr ⟨h3, fun j a b => hd j a _ (h2 j a b)⟩

/-- No records: all is D. -/
theorem LI.none (h : LR c n e0 r 0 pl wd S) (hd : ∀ j, c.act ≤ j → j < n → Fix S j (D j)) : LI c n e0 r 0 pl wd D S := ⟨h, fun j a b => .inr ⟨fun _ hi => absurd hi (Nat.not_lt_zero _), hd j a b⟩⟩
theorem LI.clean (h : LI c n e0 r 0 pl wd D S) : ∀ j, c.act ≤ j → j < n → Fix S j (D j) := fun j a b => by
  rcases h.2 j a b with ⟨i, hi, _⟩ | ⟨_, h⟩
  · exact absurd hi (Nat.not_lt_zero _)
  · exact h

/-- A crash between two calls. -/
theorem LI.crash (h : LI c n e0 r m pl wd D S) (ch : Nat → Int) : LI c n e0 r m pl wd D (crashed S ch) := h.pre (fun _ _ => crashed_pre _ _ _) fun _ _ _ _ => crashed_pre _ _ _

/-- A word that has a record is stored. -/
theorem LI.store (h : LI c n e0 r m pl wd D S) {i k : Nat} {v : Int} (hk : k < m) (hi : pl k = i) : LI c n e0 r m pl wd D (execs S [.st i v]) :=
  undP_LI h fun j hj => pre_execs fun y hy => by
    simp at hy
    subst hy
    exact fun e => hj k hk (hi.trans e)

end

/-- A new heap's log: none. -/
theorem LI.fresh {c : Cfg} {n : Nat} {S : DS} (pl : Nat → Nat) (wd : Nat → Int) (hc : c.Ok) (hn : c.words = n) (hW : WholeF c S.now) (hk : ∀ j, j < n → S.kept j = S.now j) (hi : ∀ k, S.is k = false) : LI c n 1 0 0 pl wd S.now S := by
  obtain ⟨p1, p2, p3, p4⟩ := places hc
  have hf : ∀ j, j < n → Fix S j (S.now j) := fun j hj => ⟨rfl, hk j hj, fun e => by rw [hi] at e; cases e⟩
  refine LI.none ⟨?_, fun _ hi => absurd hi (Nat.not_lt_zero _), fun i _ h2 => ?_, Nat.zero_le _⟩ fun j _ hj => hf j hj
  · have := hf 8 (by omega)
    rw [hW.2.2.2.2.1] at this
    exact this
  · have := hf (16 + 4 * i) (by omega)
    rw [hW.2.2.2.2.2.1 i h2] at this
    exact this.mono fun x hx => .inl hx

end Go.Proofs.YtcdlikblebdfkaaGreat
