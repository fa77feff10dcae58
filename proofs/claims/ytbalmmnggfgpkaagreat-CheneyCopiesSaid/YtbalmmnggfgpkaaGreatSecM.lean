/- What a section's steps make of a device: no walk here. -/
import Derived.Test.YtbalmmnggfgpkaaGreatLaw7
namespace Go.Proofs.YtbalmmnggfgpkaaGreat
open Go.RowKit

theorem fix_kp {S : DS} {j : Nat} {v : Int} (h : Fix S j v) (ss : List Int) : Fix (execs S (kpC ss)) j v := pre_execs (fun _ hy => kpC_off hy j) _ h

theorem kpC_now (S : DS) (ss : List Int) (j : Nat) : (execs S (kpC ss)).now j = S.now j := execs_now_off _ _ fun _ hy => kpC_off hy j

/-- Flushes alone. -/
def Cmd.isFl : Cmd → Prop
  | .fl _ => True
  | _ => False

/-- A line that is flushed among others, and no store: what is to be kept is what stands. -/
theorem flushed {j : Nat} : ∀ (cs : List Cmd) (S : DS), (∀ y ∈ cs, y.isFl) → ((∃ i, Cmd.fl i ∈ cs ∧ i / 8 = j / 8) ∨ (S.is (j / 8) = true ∧ S.tok j = S.now j)) → (execs S cs).now = S.now ∧ (execs S cs).is (j / 8) = true ∧ (execs S cs).tok j = S.now j
  | [], S, _, h => by
    rcases h with ⟨i, hi, _⟩ | ⟨h1, h2⟩
    · cases hi
    · exact ⟨rfl, h1, h2⟩
  | y :: cs, S, hy, h => by
    have hy0 := hy y List.mem_cons_self
    cases y with
    | st i v => exact hy0.elim
    | fe => exact hy0.elim
    | fl i =>
      rw [execs_cons]
      have ih := flushed (j := j) cs (exec S (.fl i)) (fun y h => hy y (List.mem_cons_of_mem _ h)) (by
        by_cases hij : j / 8 = i / 8
        · right
          refine ⟨?_, ?_⟩
          · show put S.is (i / 8) true (j / 8) = true
            rw [hij, put_on]
          · show (if j / 8 = i / 8 then S.now j else S.tok j) = S.now j
            rw [if_pos hij]
        · rcases h with ⟨k, hk, hkj⟩ | ⟨h1, h2⟩
          · rcases List.mem_cons.1 hk with e | hk
            · cases e; exact absurd hkj.symm hij
            · exact .inl ⟨k, hk, hkj⟩
          · right
            refine ⟨?_, ?_⟩
            · show put S.is (i / 8) true (j / 8) = true
              rw [put_off _ _ hij]; exact h1
            · show (if j / 8 = i / 8 then S.now j else S.tok j) = S.now j
              rw [if_neg hij]; exact h2)
      exact ih

/-- A line that is marked is kept. -/
theorem kpC_fix {S : DS} {ss : List Int} {j : Nat} (h : ((j / 8 : Nat) : Int) ∈ ss) : Fix (execs S (kpC ss)) j (S.now j) := by
  have e : kpC ss = ([Cmd.fl 8] ++ rowL (flK ss) ss.length) ++ [.fe] := by simp [kpC]
  obtain ⟨h1, h2, h3⟩ := flushed (j := j) ([Cmd.fl 8] ++ rowL (flK ss) ss.length) S (fun y hy => by
    rcases List.mem_append.1 hy with hy | hy
    · rw [List.mem_singleton] at hy; subst hy; trivial
    · obtain ⟨i, _, rfl⟩ := mem_rowL hy; trivial) (by
    obtain ⟨i, hi⟩ := List.mem_iff_getElem?.1 h
    have hil : i < ss.length := by
      rcases Nat.lt_or_ge i ss.length with h1 | h1
      · exact h1
      · rw [List.getElem?_eq_none h1] at hi; cases hi
    refine .inl ⟨8 * (j / 8), List.mem_append_right _ ?_, by omega⟩
    unfold rowL
    rw [List.mem_map]
    refine ⟨i, List.mem_range.2 hil, ?_⟩
    show Cmd.fl (8 * (ss.getD i 0).toNat) = _
    rw [List.getD_eq_getElem?_getD, hi]
    rfl)
  rw [e, execs_append]
  obtain ⟨T, hT⟩ : ∃ T, T = execs S ([Cmd.fl 8] ++ rowL (flK ss) ss.length) := ⟨_, rfl⟩
  rw [← hT] at h1 h2 h3 ⊢
  refine ⟨by show T.now j = _; rw [h1], ?_, fun e => by cases e⟩
  show (if T.is (j / 8) = true then T.tok j else T.kept j) = S.now j
  rw [if_pos h2, h3]

/-- A section that isn't open. -/
structure SShut (c : Cfg) (n e0 r : Nat) (pl : Nat → Nat) (wd : Nat → Int) (U : Int → Option Value) (S : DS) : Prop where
  lr : LR c n e0 r 0 pl wd S
  cl : ∀ j, c.act ≤ j → j < n → Fix S j (S.now j)
  uin : UIn U n

/-- A section that is open: its records, what isn't kept. -/
structure SOpen (c : Cfg) (n e0 r m : Nat) (pl : Nat → Nat) (wd : Nat → Int) (D : Nat → Int) (f t : Int) (R U : Int → Option Value) (S : DS) : Prop where
  lr : LR c n e0 r m pl wd S
  un : ∀ j, c.act ≤ j → j < n → freshB f t j = false → Und m pl wd D S j
  ri : RecI R m pl (eN e0 r)
  inj : ∀ i k, i < m → k < m → pl i = pl k → i = k
  nf : ∀ i, i < m → freshB f t (pl i : Nat) = false
  cl : ∀ j, c.act ≤ j → j < n → U ((j / 8 : Nat) : Int) = none → Fix S j (S.now j)
  uin : UIn U n

section
variable {c : Cfg} {n e0 r m : Nat} {pl : Nat → Nat} {wd : Nat → Int} {D : Nat → Int} {f t : Int} {R U : Int → Option Value} {S S' : DS} {l u : Int} {st : Bool} {ss : List Int}

theorem SShut.begin (h : SShut c n e0 r pl wd U S) (f t : Int) (ss : List Int) : SOpen c n e0 r 0 pl wd S.now f t (fun _ => none) (fun _ => none) (execs S (kpC ss)) where
  lr := h.lr.kp ss
  un := fun j h1 h2 _ => .inr ⟨fun _ hi => absurd hi (Nat.not_lt_zero _), fix_kp (h.cl j h1 h2) ss⟩
  ri := RecI.none pl _
  inj := fun _ _ hi => absurd hi (Nat.not_lt_zero _)
  nf := fun _ hi => absurd hi (Nat.not_lt_zero _)
  cl := fun j h1 h2 _ => by rw [kpC_now]; exact fix_kp (h.cl j h1 h2) ss
  uin := UIn.none n

theorem st_now (S : DS) (i : Nat) (v : Int) (j : Nat) : (execs S [.st i v]).now j = if j = i then v else S.now j := rfl

theorem st_pre {S : DS} {i j : Nat} {v : Int} (h : j ≠ i) : Pre S (execs S [.st i v]) j := pre_execs fun y hy => by
  rw [List.mem_singleton] at hy
  subst hy
  exact fun e => h e.symm

theorem mkU_none {U : Int → Option Value} {i j : Nat} (h : mkU U i ((j / 8 : Nat) : Int) = none) : j / 8 ≠ i / 8 ∧ U ((j / 8 : Nat) : Int) = none := by
  unfold mkU at h
  split at h
  · cases h
  · rename_i h1
    exact ⟨fun e => h1 (by rw [e]), h⟩

theorem LR.sto (h : LR c n e0 r m pl wd S) {i : Nat} (v : Int) (hi : c.act ≤ i) : LR c n e0 r m pl wd (execs S [.st i v]) := by
  have hact : 16 + 4 * c.log ≤ c.act := (up8_le (16 + 4 * c.log)).1
  have hle := h.le
  exact h.pre (st_pre (by omega)) (fun k hk => ⟨st_pre (by omega), st_pre (by omega), st_pre (by omega)⟩) fun k _ hk => st_pre (by omega)

/-- A word is stored that is fresh, or has a record. -/
theorem SOpen.store (h : SOpen c n e0 r m pl wd D f t R U S) {i : Nat} (v : Int) (hi : c.act ≤ i ∧ i < n) (hr : freshB f t i = true ∨ ∃ k, k < m ∧ pl k = i) : SOpen c n e0 r m pl wd D f t R (mkU U i) (execs S [.st i v]) where
  lr := h.lr.sto v hi.1
  un := fun j h1 h2 h3 => by
    rcases h.un j h1 h2 h3 with h4 | ⟨h4, h5⟩
    · exact .inl h4
    · refine .inr ⟨h4, st_pre (fun e => ?_) _ h5⟩
      subst e
      rcases hr with hr | ⟨k, hk, hkj⟩
      · rw [h3] at hr; cases hr
      · exact h4 k hk hkj
  ri := h.ri
  inj := h.inj
  nf := h.nf
  cl := fun j h1 h2 h3 => by
    obtain ⟨h4, h5⟩ := mkU_none h3
    have hne : j ≠ i := fun e => h4 (by rw [e])
    rw [st_now, if_neg hne]
    exact st_pre hne _ (h.cl j h1 h2 h5)
  uin := h.uin.mark hi.2

/-- A word gets a record. -/
theorem SOpen.new (h : SOpen c n e0 r m pl wd D f t R U S) {i : Nat} (hi : c.act ≤ i ∧ i < n) (hm : m < c.log) (hf : freshB f t i = false) (hn : ∀ k, k < m → pl k ≠ i) :
    SOpen c n e0 r (m + 1) (put pl m i) (put wd m (S.now i)) D f t (fun z => if z = (i : Int) then some (.int .u64 (eN e0 r : Nat)) else R z) U (execs S (appL c st false m (eN e0 r) i (S.now i))) := by
  have hact : 16 + 4 * c.log ≤ c.act := (up8_le (16 + 4 * c.log)).1
  have hp : ∀ j, c.act ≤ j → Pre S (execs S (appL c st false m (eN e0 r) i (S.now i))) j ∧ (execs S (appL c st false m (eN e0 r) i (S.now i))).now j = S.now j := fun j hj => app_pre (by omega) (by omega) (by omega)
  refine ⟨app_done h.lr hm i (S.now i) hi, fun j h1 h2 h3 => ?_, h.ri.grow i, fun a b ha hb hab => ?_, fun a ha => ?_, fun j h1 h2 h3 => ?_, h.uin⟩
  · rcases h.un j h1 h2 h3 with ⟨k, hk, h4, h5, h6⟩ | ⟨h4, h5⟩
    · exact .inl ⟨k, by omega, by rw [put_off _ _ (by omega)]; exact h4, by rw [put_off _ _ (by omega)]; exact h5, fun i' hi' => by rw [put_off _ _ (by omega)]; exact h6 i' hi'⟩
    · by_cases hji : j = i
      · subst hji
        exact .inl ⟨m, by omega, put_on _ _ _, by rw [put_on]; exact h5.1, fun i' hi' => by rw [put_off _ _ (by omega)]; exact h4 i' hi'⟩
      · refine .inr ⟨fun k hk => ?_, (hp j h1).1 _ h5⟩
        by_cases hkm : k = m
        · subst hkm; rw [put_on]; exact fun e => hji e.symm
        · rw [put_off _ _ hkm]; exact h4 k (by omega)
  · by_cases ham : a = m
    · by_cases hbm : b = m
      · omega
      · subst ham
        rw [put_on, put_off _ _ hbm] at hab
        exact absurd hab.symm (hn b (by omega))
    · by_cases hbm : b = m
      · subst hbm
        rw [put_on, put_off _ _ ham] at hab
        exact absurd hab (hn a (by omega))
      · rw [put_off _ _ ham, put_off _ _ hbm] at hab
        exact h.inj a b (by omega) (by omega) hab
  · by_cases ham : a = m
    · subst ham; rw [put_on]; exact hf
    · rw [put_off _ _ ham]; exact h.nf a (by omega)
  · rw [(hp j h1).2]
    exact (hp j h1).1 _ (h.cl j h1 h2 h3)

/-- All is kept. -/
theorem SOpen.kept (h : SOpen c n e0 r m pl wd D f t R U S) (hK : KeysOf U ss) : ∀ j, c.act ≤ j → j < n → Fix (execs S (kpC ss)) j (S.now j) := fun j h1 h2 => by
  cases hu : U ((j / 8 : Nat) : Int) with
  | none => exact fix_kp (h.cl j h1 h2 hu) ss
  | some v => exact kpC_fix ((hK.2 _).2 (by rw [hu]; rfl))

/-- Undone, word by word. -/
theorem undP_fix1 {j : Nat} (h : Und m pl wd D S j) : Fix (execs (execs S (undP pl wd m m)) [.fe]) j (D j) := by
  rcases h with ⟨i, hi, h3, h4, h5⟩ | ⟨h3, h4⟩
  · obtain ⟨i1, a1, a2, a3, a4, a5, a6, a7⟩ := undP_words pl wd m S m (Nat.le_refl _) j ⟨i, by omega, hi, h3⟩
    have : i1 = i := by
      rcases Nat.lt_trichotomy i1 i with hl | he | hg
      · exact absurd a3 (h5 i1 hl)
      · exact he
      · exact absurd h3 (a4 i (by omega) hg)
    subst this
    rw [h4] at a5 a7
    refine ⟨a5, ?_, fun e => by cases e⟩
    show (if (execs S (undP pl wd m m)).is (j / 8) = true then (execs S (undP pl wd m m)).tok j else (execs S (undP pl wd m m)).kept j) = D j
    rw [if_pos a6, a7]
  · refine pre_execs (fun y hy => ?_) _ (pre_execs (fun y hy => ?_) _ h4)
    · simp at hy; subst hy; trivial
    · obtain ⟨i', hi', rfl | rfl⟩ := undP_mem (Nat.le_refl _) hy
      · exact h3 i' hi'
      · trivial

theorem Und.pre {j : Nat} (h : Und m pl wd D S j) (hp : (∀ i, i < m → pl i ≠ j) → Pre S S' j) : Und m pl wd D S' j := by
  rcases h with h | ⟨h1, h2⟩
  · exact .inl h
  · exact .inr ⟨h1, hp h1 _ h2⟩

theorem und_word {j : Nat} (h : Und m pl wd D S j) (hj : j ≠ 8) (e : Nat) : Fix (execs S (undL c st pl wd m e)) j (D j) := by
  rw [undL_parts, execs_append, execs_append, execs_append]
  refine pre_execs (fun y hy => truL_off hy hj) _ (undP_fix1 (h.pre fun _ => pre_execs fun y hy => setL_off hy j))

theorem und_off {j : Nat} (h : ∀ i, i < m → pl i ≠ j) (hj : j ≠ 8) (e : Nat) : ∀ y ∈ undL c st pl wd m e, y.Off j := fun y hy => by
  rw [undL_parts] at hy
  rcases List.mem_append.1 hy with hy | hy
  · exact undA_off hy h
  · exact truL_off hy hj

theorem und_lr (h : LR c n e0 r m pl wd S) : LR c n e0 (r + 1) 0 pl wd (execs S (undL c st pl wd m (eN e0 r))) := by
  have hact : 16 + 4 * c.log ≤ c.act := (up8_le (16 + 4 * c.log)).1
  have hle := h.le
  rw [undL_parts, execs_append]
  have hp : ∀ j, j < c.act → Pre S (execs S (sL c st ++ (undP pl wd m m ++ [Cmd.fe]))) j := fun j hj => pre_execs fun y hy => undA_off hy fun i hi e => by have := (h.recs i hi).2.2.2.1; omega
  exact tru_done (h.pre (hp 8 (by omega)) (fun i hi => ⟨hp _ (by omega), hp _ (by omega), hp _ (by omega)⟩) fun i _ hi => hp _ (by omega)) pl wd

/-- Taken back: what isn't fresh is as it was, what is fresh as it stands; all is kept. -/
theorem SOpen.abort (h : SOpen c n e0 r m pl wd D f t R U S) (hK : KeysOf U ss) : SShut c n e0 (rS m r) pl wd (fun _ => none) (execs S (undS c st pl wd m (eN e0 r) ++ kpC ss)) ∧
    ∀ j, c.act ≤ j → j < n → (execs S (undS c st pl wd m (eN e0 r) ++ kpC ss)).now j = if freshB f t j = true then S.now j else D j := by
  have hact : 16 + 4 * c.log ≤ c.act := (up8_le (16 + 4 * c.log)).1
  have hnf : ∀ j, freshB f t (j : Nat) = true → ∀ i, i < m → pl i ≠ j := fun j hj i hi e => by
    have := h.nf i hi
    rw [e, hj] at this
    cases this
  have hlr : LR c n e0 (rS m r) 0 pl wd (execs S (undS c st pl wd m (eN e0 r))) := by
    unfold undS rS
    by_cases h0 : m = 0
    · subst h0
      rw [if_pos rfl, if_pos rfl]
      exact h.lr
    · rw [if_neg h0, if_neg h0]
      exact und_lr h.lr
  have hun : ∀ j, c.act ≤ j → j < n → freshB f t j = false → Fix (execs S (undS c st pl wd m (eN e0 r))) j (D j) := fun j h1 h2 h3 => by
    have hu := h.un j h1 h2 h3
    unfold undS
    by_cases h0 : m = 0
    · subst h0
      rw [if_pos rfl]
      rcases hu with ⟨i, hi, _⟩ | ⟨_, h4⟩
      · exact absurd hi (Nat.not_lt_zero _)
      · exact h4
    · rw [if_neg h0]
      exact und_word hu (by omega) _
  have hoff : ∀ j, c.act ≤ j → freshB f t j = true → ∀ y ∈ undS c st pl wd m (eN e0 r), y.Off j := fun j h1 h3 y hy => by
    unfold undS at hy
    split at hy
    · cases hy
    · exact und_off (hnf j h3) (by omega) _ y hy
  have hnow : ∀ j, c.act ≤ j → j < n → (execs S (undS c st pl wd m (eN e0 r) ++ kpC ss)).now j = if freshB f t j = true then S.now j else D j := fun j h1 h2 => by
    rw [execs_append, kpC_now]
    cases h3 : freshB f t (j : Nat) with
    | true => rw [if_pos rfl]; exact execs_now_off _ _ (hoff j h1 h3)
    | false => rw [if_neg (by simp)]; exact (hun j h1 h2 h3).1
  refine ⟨⟨?_, fun j h1 h2 => ?_, UIn.none n⟩, hnow⟩
  · rw [execs_append]
    exact hlr.kp ss
  · rw [execs_append, kpC_now]
    cases h3 : freshB f t (j : Nat) with
    | false =>
      have := hun j h1 h2 h3
      rw [this.1]
      exact fix_kp this ss
    | true =>
      cases hu : U ((j / 8 : Nat) : Int) with
      | none =>
        rw [execs_now_off _ _ (hoff j h1 h3)]
        exact fix_kp (pre_execs (hoff j h1 h3) _ (h.cl j h1 h2 hu)) ss
      | some v => exact kpC_fix ((hK.2 _).2 (by rw [hu]; rfl))

end

end Go.Proofs.YtbalmmnggfgpkaaGreat

