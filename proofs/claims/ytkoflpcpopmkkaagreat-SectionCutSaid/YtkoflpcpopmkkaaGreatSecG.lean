/- The section's calls, the power staying or going: what stands, or what is left. -/
import Derived.Test.YtkoflpcpopmkkaaGreatSecM
import Derived.Test.YtkoflpcpopmkkaaGreatLaw7
namespace Go.Proofs.YtkoflpcpopmkkaaGreat
open Go.RowKit

/-- A section over its words, open. -/
def OpenG (p : Nat) (a : DA) (l u : Int) (S : DS) (q : Sc) (c : Cfg) (m r : Nat) (pl : Nat → Nat) (D : Nat → Int) (f t : Int) (w : World) : Prop :=
  ∃ st wd R U, SW w p a l u S q c m st true f t R U ∧ SOpen c a.n 1 r m pl wd D f t R U S

/-- A section over its words, none open. -/
def ShutG (p : Nat) (a : DA) (l u : Int) (S : DS) (q : Sc) (c : Cfg) (r : Nat) (w : World) : Prop :=
  ∃ st f t R U pl wd, SW w p a l u S q c 0 st false f t R U ∧ SShut c a.n 1 r pl wd U S

/-- Whatever is left, undone, is K1, or K2. -/
def LeftK (c : Cfg) (n r : Nat) (K1 K2 : Nat → Int) (S' : DS) : Prop := ∀ ch : Nat → Int, ∃ r' m pl wd K, r' ≤ r + 1 ∧ (K = K1 ∨ K = K2) ∧ LI c n 1 r' m pl wd K (crashed S' ch)

/-- The power has gone. -/
def Gone (p : Nat) (a : DA) (l : Int) (c : Cfg) (r : Nat) (f t : Int) (K1 K2 : Nat → Int) (bl : List Nat) (w : World) (e : Ending) (w' : World) : Prop :=
  e = .panicked [{ v := goneV, recovered := false }] ∧ (∃ S', Pw w' p a l l S' ∧ ((∀ j, j < a.n → freshB f t (j : Nat) = false) → LeftK c a.n r K1 K2 S')) ∧ Keeps bl w w'

section
variable {c : Cfg} {n r m : Nat} {pl : Nat → Nat} {wd : Nat → Int} {D : Nat → Int} {f t : Int} {R U : Int → Option Value} {S S' : DS} {l u : Int} {st : Bool} {ss : List Int}

theorem SOpen.li (h : SOpen c n 1 r m pl wd D f t R U S) (hf : ∀ j, j < n → freshB f t (j : Nat) = false) : LI c n 1 r m pl wd D S := ⟨h.lr, fun j h1 h2 => h.un j h1 h2 (hf j h2)⟩

theorem SShut.cut_begin (h : SShut c n 1 r pl wd U S) (hc : Cut l u S (kpC ss) S') (K : Nat → Int) : LeftK c n r S.now K S' := fun ch => by
  refine ⟨r, 0, pl, wd, S.now, by omega, .inl rfl, LI.crash (LI.none ?_ fun j h1 h2 => pre_cut (fun _ hy => kpC_off hy _) hc _ (h.cl j h1 h2)) ch⟩
  exact h.lr.pre (pre_cut (fun _ hy => kpC_off hy _) hc) (fun _ _ => ⟨pre_cut (fun _ hy => kpC_off hy _) hc, pre_cut (fun _ hy => kpC_off hy _) hc, pre_cut (fun _ hy => kpC_off hy _) hc⟩) fun _ _ _ => pre_cut (fun _ hy => kpC_off hy _) hc

theorem li_kp (h : LI c n 1 r m pl wd D S) (hc : Cut l u S (kpC ss) S') (ch : Nat → Int) : LI c n 1 r m pl wd D (crashed S' ch) :=
  LI.crash (h.pre (fun _ _ => pre_cut (fun _ hy => kpC_off hy _) hc) fun _ _ _ _ => pre_cut (fun _ hy => kpC_off hy _) hc) ch

theorem cut_st {i : Nat} {v : Int} (hc : Cut l u S [.st i v] S') : S' = S := by
  obtain ⟨pre, x, post, h0, h1, _⟩ := hc
  cases pre with
  | nil => exact h1
  | cons y ys => simp at h0

theorem SOpen.cut_old (h : SOpen c n 1 r m pl wd D f t R U S) (hf : ∀ j, j < n → freshB f t (j : Nat) = false) {i : Nat} {v : Int} (hc : Cut l u S [.st i v] S') (K : Nat → Int) : LeftK c n r D K S' := fun ch => by
  rw [cut_st hc]
  exact ⟨r, m, pl, wd, D, by omega, .inl rfl, LI.crash (h.li hf) ch⟩

theorem SOpen.cut_new (h : SOpen c n 1 r m pl wd D f t R U S) (hf : ∀ j, j < n → freshB f t (j : Nat) = false) {i : Nat} {v : Int} (hi : c.act ≤ i ∧ i < n) (hm : m < c.log) (hp : ∀ k, k < m → pl k ≠ i) (hc : Cut l u S (appL c st false m (eN 1 r) i (S.now i) ++ [.st i v]) S') (K : Nat → Int) : LeftK c n r D K S' := fun ch => by
  rcases hc.parts with hc | hc
  · rcases app_cut (h.li hf) hm i hi hc ch with h1 | h1
    · exact ⟨r, _, _, _, D, by omega, .inl rfl, h1⟩
    · exact ⟨r, _, _, _, D, by omega, .inl rfl, h1⟩
  · rw [cut_st hc]
    exact ⟨r, _, _, _, D, by omega, .inl rfl, LI.crash ((h.new (st := st) hi hm (hf i hi.2) hp).li hf) ch⟩

theorem SOpen.cut_commit (h : SOpen c n 1 r m pl wd D f t R U S) (hf : ∀ j, j < n → freshB f t (j : Nat) = false) (hK : KeysOf U ss) (hc : Cut l u S (kpC ss ++ truS c st m (eN 1 r)) S') : LeftK c n r D S.now S' := fun ch => by
  have hact : 16 + 4 * c.log ≤ c.act := (up8_le (16 + 4 * c.log)).1
  rcases hc.parts with hc | hc
  · exact ⟨r, m, pl, wd, D, by omega, .inl rfl, li_kp (h.li hf) hc ch⟩
  · have hkp := h.kept hK
    have hli : LI c n 1 r m pl wd D (execs S (kpC ss)) := (h.li hf).pre (fun _ _ => pre_execs fun _ hy => kpC_off hy _) fun _ _ _ _ => pre_execs fun _ hy => kpC_off hy _
    obtain ⟨T, hT⟩ : ∃ T, T = execs S (kpC ss) := ⟨_, rfl⟩
    rw [← hT] at hc hkp hli
    unfold truS at hc
    by_cases h0 : m = 0
    · rw [if_pos h0] at hc
      obtain ⟨pre, k, post, e, _, _⟩ := hc
      cases pre <;> simp at e
    · rw [if_neg h0] at hc
      have hoff : ∀ j, c.act ≤ j → Pre T (crashed S' ch) j := fun j hj => (pre_cut (fun y hy => truL_off hy (by omega)) hc).trans (crashed_pre _ _ _)
      rcases tru_cut hli.1 hc ch pl wd with h1 | h1
      · exact ⟨r, m, pl, wd, D, by omega, .inl rfl, h1, hli.2.pre fun j a _ _ => hoff j a⟩
      · exact ⟨r + 1, 0, pl, wd, S.now, by omega, .inr rfl, LI.none h1 fun j a b => hoff j a _ (hkp j a b)⟩

theorem SOpen.cut_abort (h : SOpen c n 1 r m pl wd D f t R U S) (hf : ∀ j, j < n → freshB f t (j : Nat) = false) (hc : Cut l u S (undS c st pl wd m (eN 1 r) ++ kpC ss) S') (K : Nat → Int) : LeftK c n r D K S' := fun ch => by
  rcases hc.parts with hc | hc
  · obtain ⟨r', m', h1, h2⟩ := undS_crash (h.li hf) hc ch
    exact ⟨r', m', pl, wd, D, h1, .inl rfl, h2⟩
  · have h1 := undS_done (st := st) (h.li hf)
    exact ⟨rS m r, 0, pl, wd, D, by unfold rS; split <;> omega, .inl rfl, li_kp h1 hc ch⟩

end

section
variable {w w' : World} {p : Nat} {a : DA} {l u : Int} {S : DS} {q : Sc} {c : Cfg} {m r : Nat} {f t f' t' : Int} {pl : Nat → Nat} {D : Nat → Int}

theorem OpenG.keep0 (h : OpenG p a l u S q c m r pl D f t w) (hk : Keeps [] w w') : OpenG p a l u S q c m r pl D f t w' := by
  obtain ⟨st, wd, R, U, h1, h2⟩ := h
  exact ⟨st, wd, R, U, h1.keep0 hk, h2⟩
theorem ShutG.keep0 (h : ShutG p a l u S q c r w) (hk : Keeps [] w w') : ShutG p a l u S q c r w' := by
  obtain ⟨st, f, t, R, U, pl, wd, h1, h2⟩ := h
  exact ⟨st, f, t, R, U, pl, wd, h1.keep0 hk, h2⟩
theorem OpenG.keep {T : List Nat} (h : OpenG p a l u S q c m r pl D f t w) (hk : Keeps T w w') (hT : ∀ b ∈ a.d :: q.bl p a, b ∉ T) : OpenG p a l u S q c m r pl D f t w' := by
  obtain ⟨st, wd, R, U, h1, h2⟩ := h
  exact ⟨st, wd, R, U, h1.keep hk (fun b hb => hT b (List.mem_cons_of_mem _ hb)) (hT _ (by simp)), h2⟩
theorem ShutG.keep {T : List Nat} (h : ShutG p a l u S q c r w) (hk : Keeps T w w') (hT : ∀ b ∈ a.d :: q.bl p a, b ∉ T) : ShutG p a l u S q c r w' := by
  obtain ⟨st, f, t, R, U, pl, wd, h1, h2⟩ := h
  exact ⟨st, f, t, R, U, pl, wd, h1.keep hk (fun b hb => hT b (List.mem_cons_of_mem _ hb)) (hT _ (by simp)), h2⟩
theorem OpenG.pw (h : OpenG p a l u S q c m r pl D f t w) : Pw w p a l u S := by
  obtain ⟨st, wd, R, U, h1, h2⟩ := h
  exact h1.lw.pw
theorem ShutG.pw (h : ShutG p a l u S q c r w) : Pw w p a l u S := by
  obtain ⟨st, f, t, R, U, pl, wd, h1, h2⟩ := h
  exact h1.lw.pw
theorem OpenG.le (h : OpenG p a l u S q c m r pl D f t w) : m ≤ c.log := by
  obtain ⟨st, wd, R, U, h1, h2⟩ := h
  exact h2.lr.le
theorem OpenG.lr (h : OpenG p a l u S q c m r pl D f t w) : ∃ wd, LR c a.n 1 r m pl wd S := by
  obtain ⟨st, wd, R, U, h1, h2⟩ := h
  exact ⟨wd, h2.lr⟩

theorem begin_g (h : ShutG p a l u S q c r w) (hc : c.Ok) (hn : c.words = a.n) (hb : u < 1000000) (f' t' : Int) (K : Nat → Int) :
    Calls Tryz.prog 26 #[ptr q.b, spV f' t'] w fun e w' => (e = .returned (.int .i64 0) ∧ ∃ u' S' pl, OpenG p a l u' S' q c 0 r pl S.now f' t' w' ∧ (∀ j, S'.now j = S.now j) ∧ u' ≤ u + 3000 ∧ Keeps (q.bl p a) w w') ∨ Gone p a l c r f' t' S.now K (q.bl p a) w e w' := by
  obtain ⟨st, f, t, R, U, pl, wd, h1, h2⟩ := h
  have hci := c_in hc hn
  refine (begin_ran h1 h2.uin hci.2.1 hci.2.2.2.2 (by omega)).mono ?_
  rintro e w' ⟨ss, hss, ⟨rfl, h3, hk⟩ | ⟨rfl, ⟨S', hcut, h3⟩, hk⟩⟩
  · have := h2.uin.few hci.2.2.2.2 hss
    exact .inl ⟨rfl, _, _, pl, ⟨_, wd, _, _, h3, h2.begin f' t' ss⟩, fun j => kpC_now _ _ _, by rw [kpC_len]; omega, hk⟩
  · exact .inr ⟨rfl, ⟨S', h3, fun _ => h2.cut_begin hcut K⟩, hk⟩

theorem begin_g_no (h : OpenG p a l u S q c m r pl D f t w) (f' t' : Int) :
    Calls Tryz.prog 26 #[ptr q.b, spV f' t'] w fun e w' => e = .returned (.int .i64 2) ∧ Keeps [] w w' := by
  obtain ⟨st, wd, R, U, h1, h2⟩ := h
  exact begin_no h1

theorem commit_g (h : OpenG p a l u S q c m r pl D f t w) (hc : c.Ok) (hn : c.words = a.n) (hb : u < 1000000) :
    Calls Tryz.prog 32 #[ptr q.b] w fun e w' => (e = .returned (.int .i64 0) ∧ ∃ u' S', ShutG p a l u' S' q c (rS m r) w' ∧ (∀ j, c.act ≤ j → j < a.n → S'.now j = S.now j) ∧ u' ≤ u + 3000 ∧ Keeps (q.bl p a) w w') ∨ Gone p a l c r f t D S.now (q.bl p a) w e w' := by
  obtain ⟨st, wd, R, U, h1, h2⟩ := h
  have hci := c_in hc hn
  refine (commit_ran h1 h2.uin hc hn h2.lr (by omega)).mono ?_
  rintro e w' ⟨ss, hss, ⟨rfl, h3, hk⟩ | ⟨rfl, ⟨S', hcut, h3⟩, hk⟩⟩
  · have := h2.uin.few hci.2.2.2.2 hss
    have h4 := h2.commit (st := st) hss
    have hl := sL_len hc.small st
    refine .inl ⟨rfl, _, _, ⟨_, _, _, _, _, _, _, h3, h4.1⟩, fun j h5 h6 => (h4.2 j h5 h6).1, ?_, hk⟩
    rw [List.length_append, kpC_len]
    have : (truS c st m (eN 1 r)).length ≤ 1000 := by
      unfold truS
      split
      · simp
      · simp [truL, kpL]; omega
    omega
  · exact .inr ⟨rfl, ⟨S', h3, fun hf => h2.cut_commit hf hss hcut⟩, hk⟩

theorem commit_g_no (h : ShutG p a l u S q c r w) : Calls Tryz.prog 32 #[ptr q.b] w fun e w' => e = .returned (.int .i64 2) ∧ w = w' := by
  obtain ⟨st, f, t, R, U, pl, wd, h1, h2⟩ := h
  exact commit_no h1

theorem abort_g (h : OpenG p a l u S q c m r pl D f t w) (hc : c.Ok) (hn : c.words = a.n) (hb : u < 1000000) (K : Nat → Int) :
    Calls Tryz.prog 49 #[ptr q.b] w fun e w' => (e = .returned (.int .i64 0) ∧ ∃ u' S', ShutG p a l u' S' q c (rS m r) w' ∧ (∀ j, c.act ≤ j → j < a.n → S'.now j = if freshB f t j = true then S.now j else D j) ∧ u' ≤ u + 3000 ∧ Keeps (q.bl p a) w w') ∨ Gone p a l c r f t D K (q.bl p a) w e w' := by
  obtain ⟨st, wd, R, U, h1, h2⟩ := h
  have hci := c_in hc hn
  refine (abort_ran h1 h2.uin hc hn h2.lr (by omega)).mono ?_
  rintro e w' ⟨ss, hss, ⟨rfl, h3, hk⟩ | ⟨rfl, ⟨S', hcut, h3⟩, hk⟩⟩
  · have := h2.uin.few hci.2.2.2.2 hss
    have h4 := h2.abort (st := st) hss
    have hl := undS_len (st := st) (pl := pl) (wd := wd) hc h2.lr.le (eN 1 r)
    refine .inl ⟨rfl, _, _, ⟨_, _, _, _, _, _, _, h3, h4.1⟩, h4.2, ?_, hk⟩
    rw [List.length_append, kpC_len]
    omega
  · exact .inr ⟨rfl, ⟨S', h3, fun hf => h2.cut_abort hf hcut K⟩, hk⟩

theorem abort_g_no (h : ShutG p a l u S q c r w) : Calls Tryz.prog 49 #[ptr q.b] w fun e w' => e = .returned (.int .i64 2) ∧ w = w' := by
  obtain ⟨st, f, t, R, U, pl, wd, h1, h2⟩ := h
  exact abort_no h1

theorem sstore_g_no (h : ShutG p a l u S q c r w) (i v : Int) : Calls Tryz.prog 29 #[ptr q.b, .int .i64 i, .int .u64 v] w fun e w' => e = .returned (.int .i64 2) ∧ w = w' := by
  obtain ⟨st, f, t, R, U, pl, wd, h1, h2⟩ := h
  exact sstore_no h1 i v

theorem sstore_g_out (h : OpenG p a l u S q c m r pl D f t w) (hs : c.Small) (i v : Int) (hi : i < (c.act : Int) ∨ (a.n : Int) ≤ i) : Calls Tryz.prog 29 #[ptr q.b, .int .i64 i, .int .u64 v] w fun e w' => e = .returned (.int .i64 1) ∧ Keeps [] w w' := by
  obtain ⟨st, wd, R, U, h1, h2⟩ := h
  exact sstore_out h1 hs i v hi

theorem sopen_g (h : OpenG p a l u S q c m r pl D f t w) : Calls Tryz.prog 50 #[ptr q.b] w fun e w' => e = .returned (.bool true) ∧ w = w' := by
  obtain ⟨st, wd, R, U, h1, h2⟩ := h
  exact sopen_at h1
theorem sopen_g_no (h : ShutG p a l u S q c r w) : Calls Tryz.prog 50 #[ptr q.b] w fun e w' => e = .returned (.bool false) ∧ w = w' := by
  obtain ⟨st, f, t, R, U, pl, wd, h1, h2⟩ := h
  exact sopen_at h1
theorem slen_g (h : OpenG p a l u S q c m r pl D f t w) : At w q.b (secO a.d q c true f t) ∧ Calls Tryz.prog 31 #[ptr q.lb] w fun e w' => e = .returned (.int .i64 m) ∧ w = w' := by
  obtain ⟨st, wd, R, U, h1, h2⟩ := h
  exact ⟨h1.sec, len6_at h1.lw⟩
theorem slen_g_no (h : ShutG p a l u S q c r w) : (∃ f t, At w q.b (secO a.d q c false f t)) ∧ Calls Tryz.prog 31 #[ptr q.lb] w fun e w' => e = .returned (.int .i64 (0 : Nat)) ∧ w = w' := by
  obtain ⟨st, f, t, R, U, pl, wd, h1, h2⟩ := h
  exact ⟨⟨_, _, h1.sec⟩, len6_at h1.lw⟩

/-- Has a word a record? -/
def HasR (m : Nat) (pl : Nat → Nat) (i : Nat) : Prop := ∃ k, k < m ∧ pl k = i

theorem sstore_g_full (h : OpenG p a l u S q c m r pl D f t w) (hs : c.Small) (i : Nat) (v : Int) (hi : c.act ≤ i ∧ i < a.n) (hf : freshB f t i = false) (hp : ¬ HasR m pl i) (hm : m = c.log) :
    Calls Tryz.prog 29 #[ptr q.b, .int .i64 i, .int .u64 v] w fun e w' => e = .returned (.int .i64 3) ∧ Keeps [] w w' := by
  obtain ⟨st, wd, R, U, h1, h2⟩ := h
  exact sstore_full h1 hs i v hi hf (h2.ri.2 _ fun k hk e => hp ⟨k, hk, by omega⟩) hm

theorem sstore_g_old (h : OpenG p a l u S q c m r pl D f t w) (hc : c.Ok) (hn : c.words = a.n) (hb : u < 1000000) (i : Nat) (v : Int) (hi : c.act ≤ i ∧ i < a.n) (hp : freshB f t i = true ∨ HasR m pl i) (K : Nat → Int) :
    Calls Tryz.prog 29 #[ptr q.b, .int .i64 i, .int .u64 v] w fun e w' => (e = .returned (.int .i64 0) ∧ ∃ u' S', OpenG p a l u' S' q c m r pl D f t w' ∧ (∀ j, c.act ≤ j → j < a.n → S'.now j = if j = i then v else S.now j) ∧ u' ≤ u + 3000 ∧ Keeps (q.bl p a) w w') ∨ Gone p a l c r f t D K (q.bl p a) w e w' := by
  obtain ⟨st, wd, R, U, h1, h2⟩ := h
  have hci := c_in hc hn
  refine (sstore_old h1 hc.small (eN 1 r) (eN_lt 1 r) h2.lr.ep.1 hci.2.1 hci.2.2.2.2 i v hi ?_ (by omega)).mono ?_
  · cases hf : freshB f t (i : Nat) with
    | true => exact .inl rfl
    | false =>
      rcases hp with hp | ⟨k, hk, rfl⟩
      · rw [hf] at hp; cases hp
      · exact .inr ⟨rfl, h2.ri.1 k hk⟩
  · rintro e w' (⟨rfl, h3, hk⟩ | ⟨rfl, ⟨S', hcut, h3⟩, hk⟩)
    · exact .inl ⟨rfl, _, _, ⟨_, _, _, _, h3, h2.store v hi hp⟩, fun j _ _ => st_now _ _ _ _, by have : (([Cmd.st i v] : List Cmd).length : Int) = 1 := rfl; omega, hk⟩
    · exact .inr ⟨rfl, ⟨S', h3, fun hf => h2.cut_old hf hcut K⟩, hk⟩

theorem sstore_g_new (h : OpenG p a l u S q c m r pl D f t w) (hc : c.Ok) (hn : c.words = a.n) (hb : u < 1000000) (hrb : r < 4294967296) (i : Nat) (v : Int) (hi : c.act ≤ i ∧ i < a.n) (hf : freshB f t i = false) (hp : ¬ HasR m pl i) (hm : m < c.log) (K : Nat → Int) :
    Calls Tryz.prog 29 #[ptr q.b, .int .i64 i, .int .u64 v] w fun e w' => (e = .returned (.int .i64 0) ∧ ∃ u' S', OpenG p a l u' S' q c (m + 1) r (put pl m i) D f t w' ∧ (∀ j, c.act ≤ j → j < a.n → S'.now j = if j = i then v else S.now j) ∧ u' ≤ u + 3000 ∧ Keeps (q.bl p a) w w') ∨ Gone p a l c r f t D K (q.bl p a) w e w' := by
  obtain ⟨st, wd, R, U, h1, h2⟩ := h
  have hci := c_in hc hn
  have hact : 16 + 4 * c.log ≤ c.act := (up8_le (16 + 4 * c.log)).1
  have hpp : ∀ k, k < m → pl k ≠ i := fun k hk e => hp ⟨k, hk, e⟩
  refine (sstore_new h1 hc hn h2.lr hrb i v hi hf (h2.ri.2 _ fun k hk e => hp ⟨k, hk, by omega⟩) hm (by omega)).mono ?_
  rintro e w' (⟨rfl, h3, hk⟩ | ⟨rfl, ⟨S', hcut, h3⟩, hk⟩)
  · have h4 := (h2.new (st := st) hi hm hf hpp).store v hi (.inr ⟨m, by omega, put_on _ _ _⟩)
    rw [← execs_append] at h4
    have hl := appL_len (st := st) (m := m) hc (eN 1 r) i (S.now i)
    refine .inl ⟨rfl, _, _, ⟨_, _, _, _, h3, h4⟩, fun j h5 _ => ?_, ?_, hk⟩
    · rw [execs_append, st_now]
      split
      · rfl
      · exact (app_pre (by omega) (by omega) (by omega)).2
    · rw [List.length_append]; simp; omega
  · exact .inr ⟨rfl, ⟨S', h3, fun hff => h2.cut_new hff hi hm hpp hcut K⟩, hk⟩

end

end Go.Proofs.YtkoflpcpopmkkaaGreat
