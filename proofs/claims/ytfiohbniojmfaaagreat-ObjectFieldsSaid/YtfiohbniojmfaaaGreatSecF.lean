/- The section's calls while the power stays: what stands, call by call. -/
import Derived.Test.YtfiohbniojmfaaaGreatSecM
import Derived.Test.YtfiohbniojmfaaaGreatLaw7
namespace Go.Proofs.YtfiohbniojmfaaaGreat
open Go.RowKit

section
variable {w w' : World} {p : Nat} {a : DA} {u : Int} {S : DS} {q : Sc} {c : Cfg} {m e0 r : Nat} {st : Bool} {f t f' t' : Int} {R U : Int → Option Value} {pl : Nat → Nat} {wd : Nat → Int} {D : Nat → Int}

/-- A section over its words, open. -/
def OpenW (p : Nat) (a : DA) (u : Int) (S : DS) (q : Sc) (c : Cfg) (m r : Nat) (pl : Nat → Nat) (D : Nat → Int) (f t : Int) (w : World) : Prop :=
  ∃ st wd R U, SW w p a (-1) u S q c m st true f t R U ∧ SOpen c a.n 1 r m pl wd D f t R U S

/-- A section over its words, none open. -/
def ShutW (p : Nat) (a : DA) (u : Int) (S : DS) (q : Sc) (c : Cfg) (r : Nat) (w : World) : Prop :=
  ∃ st f t R U pl wd, SW w p a (-1) u S q c 0 st false f t R U ∧ SShut c a.n 1 r pl wd U S

theorem OpenW.keep0 (h : OpenW p a u S q c m r pl D f t w) (hk : Keeps [] w w') : OpenW p a u S q c m r pl D f t w' := by
  obtain ⟨st, wd, R, U, h1, h2⟩ := h
  exact ⟨st, wd, R, U, h1.keep0 hk, h2⟩
theorem ShutW.keep0 (h : ShutW p a u S q c r w) (hk : Keeps [] w w') : ShutW p a u S q c r w' := by
  obtain ⟨st, f, t, R, U, pl, wd, h1, h2⟩ := h
  exact ⟨st, f, t, R, U, pl, wd, h1.keep0 hk, h2⟩
theorem OpenW.keep {T : List Nat} (h : OpenW p a u S q c m r pl D f t w) (hk : Keeps T w w') (hT : ∀ b ∈ a.d :: q.bl p a, b ∉ T) : OpenW p a u S q c m r pl D f t w' := by
  obtain ⟨st, wd, R, U, h1, h2⟩ := h
  exact ⟨st, wd, R, U, h1.keep hk (fun b hb => hT b (List.mem_cons_of_mem _ hb)) (hT _ (by simp)), h2⟩
theorem ShutW.keep {T : List Nat} (h : ShutW p a u S q c r w) (hk : Keeps T w w') (hT : ∀ b ∈ a.d :: q.bl p a, b ∉ T) : ShutW p a u S q c r w' := by
  obtain ⟨st, f, t, R, U, pl, wd, h1, h2⟩ := h
  exact ⟨st, f, t, R, U, pl, wd, h1.keep hk (fun b hb => hT b (List.mem_cons_of_mem _ hb)) (hT _ (by simp)), h2⟩
theorem OpenW.pw (h : OpenW p a u S q c m r pl D f t w) : Pw w p a (-1) u S := by
  obtain ⟨st, wd, R, U, h1, h2⟩ := h
  exact h1.lw.pw
theorem ShutW.pw (h : ShutW p a u S q c r w) : Pw w p a (-1) u S := by
  obtain ⟨st, f, t, R, U, pl, wd, h1, h2⟩ := h
  exact h1.lw.pw
theorem OpenW.lts (h : OpenW p a u S q c m r pl D f t w) : ∀ b ∈ a.d :: q.bl p a, b < w.heap.size := by
  obtain ⟨st, wd, R, U, h1, h2⟩ := h
  exact h1.lts
theorem ShutW.lts (h : ShutW p a u S q c r w) : ∀ b ∈ a.d :: q.bl p a, b < w.heap.size := by
  obtain ⟨st, f, t, R, U, pl, wd, h1, h2⟩ := h
  exact h1.lts
theorem OpenW.le (h : OpenW p a u S q c m r pl D f t w) : m ≤ c.log := by
  obtain ⟨st, wd, R, U, h1, h2⟩ := h
  exact h2.lr.le

theorem begin_f (h : ShutW p a u S q c r w) (hc : c.Ok) (hn : c.words = a.n) (hb : u < 1000000) (f' t' : Int) :
    Calls Tryz.prog 64 #[ptr q.b, spV f' t'] w fun e w' => e = .returned (.int .i64 0) ∧ ∃ u' S' pl, OpenW p a u' S' q c 0 r pl S.now f' t' w' ∧ (∀ j, S'.now j = S.now j) ∧ u' ≤ u + 3000 ∧ Keeps (q.bl p a) w w' := by
  obtain ⟨st, f, t, R, U, pl, wd, h1, h2⟩ := h
  have hci := c_in hc hn
  refine (begin_ran h1 h2.uin hci.2.1 hci.2.2.2.2 (by omega)).mono ?_
  rintro e w' ⟨ss, hss, hr⟩
  obtain ⟨rfl, h3, hk⟩ := hr.free h1.lw.pw.lo
  have := h2.uin.few hci.2.2.2.2 hss
  exact ⟨rfl, _, _, pl, ⟨_, wd, _, _, h3, h2.begin f' t' ss⟩, fun j => kpC_now _ _ _, by rw [kpC_len]; omega, hk⟩

theorem begin_f_no (h : OpenW p a u S q c m r pl D f t w) (f' t' : Int) :
    Calls Tryz.prog 64 #[ptr q.b, spV f' t'] w fun e w' => e = .returned (.int .i64 2) ∧ Keeps [] w w' := by
  obtain ⟨st, wd, R, U, h1, h2⟩ := h
  exact begin_no h1

theorem abort_f (h : OpenW p a u S q c m r pl D f t w) (hc : c.Ok) (hn : c.words = a.n) (hb : u < 1000000) :
    Calls Tryz.prog 66 #[ptr q.b] w fun e w' => e = .returned (.int .i64 0) ∧ ∃ u' S', ShutW p a u' S' q c (rS m r) w' ∧ (∀ j, c.act ≤ j → j < a.n → S'.now j = if freshB f t j = true then S.now j else D j) ∧ u' ≤ u + 3000 ∧ Keeps (q.bl p a) w w' := by
  obtain ⟨st, wd, R, U, h1, h2⟩ := h
  have hci := c_in hc hn
  refine (abort_ran h1 h2.uin hc hn h2.lr (by omega)).mono ?_
  rintro e w' ⟨ss, hss, hr⟩
  obtain ⟨rfl, h3, hk⟩ := hr.free h1.lw.pw.lo
  have := h2.uin.few hci.2.2.2.2 hss
  have h4 := h2.abort (st := st) hss
  have hl := undS_len (st := st) (pl := pl) (wd := wd) hc h2.lr.le (eN 1 r)
  refine ⟨rfl, _, _, ⟨_, _, _, _, _, _, _, h3, h4.1⟩, h4.2, ?_, hk⟩
  rw [List.length_append, kpC_len]
  omega

theorem abort_f_no (h : ShutW p a u S q c r w) : Calls Tryz.prog 66 #[ptr q.b] w fun e w' => e = .returned (.int .i64 2) ∧ w = w' := by
  obtain ⟨st, f, t, R, U, pl, wd, h1, h2⟩ := h
  exact abort_no h1

theorem sstore_f_no (h : ShutW p a u S q c r w) (i v : Int) : Calls Tryz.prog 65 #[ptr q.b, .int .i64 i, .int .u64 v] w fun e w' => e = .returned (.int .i64 2) ∧ w = w' := by
  obtain ⟨st, f, t, R, U, pl, wd, h1, h2⟩ := h
  exact sstore_no h1 i v

theorem sstore_f_out (h : OpenW p a u S q c m r pl D f t w) (hs : c.Small) (i v : Int) (hi : i < (c.act : Int) ∨ (a.n : Int) ≤ i) : Calls Tryz.prog 65 #[ptr q.b, .int .i64 i, .int .u64 v] w fun e w' => e = .returned (.int .i64 1) ∧ Keeps [] w w' := by
  obtain ⟨st, wd, R, U, h1, h2⟩ := h
  exact sstore_out h1 hs i v hi

theorem sopen_f (h : OpenW p a u S q c m r pl D f t w) : Calls Tryz.prog 67 #[ptr q.b] w fun e w' => e = .returned (.bool true) ∧ w = w' := by
  obtain ⟨st, wd, R, U, h1, h2⟩ := h
  exact sopen_at h1
theorem sopen_f_no (h : ShutW p a u S q c r w) : Calls Tryz.prog 67 #[ptr q.b] w fun e w' => e = .returned (.bool false) ∧ w = w' := by
  obtain ⟨st, f, t, R, U, pl, wd, h1, h2⟩ := h
  exact sopen_at h1
theorem slen_f (h : OpenW p a u S q c m r pl D f t w) : At w q.b (secO a.d q c true f t) ∧ Calls Tryz.prog 73 #[ptr q.lb] w fun e w' => e = .returned (.int .i64 m) ∧ w = w' := by
  obtain ⟨st, wd, R, U, h1, h2⟩ := h
  exact ⟨h1.sec, len6_at h1.lw⟩
theorem slen_f_no (h : ShutW p a u S q c r w) : (∃ f t, At w q.b (secO a.d q c false f t)) ∧ Calls Tryz.prog 73 #[ptr q.lb] w fun e w' => e = .returned (.int .i64 (0 : Nat)) ∧ w = w' := by
  obtain ⟨st, f, t, R, U, pl, wd, h1, h2⟩ := h
  exact ⟨⟨_, _, h1.sec⟩, len6_at h1.lw⟩

/-- Has a word a record? -/
def HasP (m : Nat) (pl : Nat → Nat) (i : Nat) : Prop := ∃ k, k < m ∧ pl k = i

/-- No room. -/
theorem sstore_f_full (h : OpenW p a u S q c m r pl D f t w) (hs : c.Small) (i : Nat) (v : Int) (hi : c.act ≤ i ∧ i < a.n) (hf : freshB f t i = false) (hp : ¬ HasP m pl i) (hm : m = c.log) :
    Calls Tryz.prog 65 #[ptr q.b, .int .i64 i, .int .u64 v] w fun e w' => e = .returned (.int .i64 3) ∧ Keeps [] w w' := by
  obtain ⟨st, wd, R, U, h1, h2⟩ := h
  exact sstore_full h1 hs i v hi hf (h2.ri.2 _ fun k hk e => hp ⟨k, hk, by omega⟩) hm

/-- A word that is fresh, or has a record. -/
theorem sstore_f_old (h : OpenW p a u S q c m r pl D f t w) (hc : c.Ok) (hn : c.words = a.n) (hb : u < 1000000) (i : Nat) (v : Int) (hi : c.act ≤ i ∧ i < a.n) (hp : freshB f t i = true ∨ HasP m pl i) :
    Calls Tryz.prog 65 #[ptr q.b, .int .i64 i, .int .u64 v] w fun e w' => e = .returned (.int .i64 0) ∧ ∃ u' S', OpenW p a u' S' q c m r pl D f t w' ∧ (∀ j, c.act ≤ j → j < a.n → S'.now j = if j = i then v else S.now j) ∧ u' ≤ u + 3000 ∧ Keeps (q.bl p a) w w' := by
  obtain ⟨st, wd, R, U, h1, h2⟩ := h
  have hci := c_in hc hn
  refine (sstore_old h1 hc.small (eN 1 r) (eN_lt 1 r) h2.lr.ep.1 hci.2.1 hci.2.2.2.2 i v hi ?_ (by omega)).mono ?_
  · cases hf : freshB f t (i : Nat) with
    | true => exact .inl rfl
    | false =>
      rcases hp with hp | ⟨k, hk, rfl⟩
      · rw [hf] at hp; cases hp
      · exact .inr ⟨rfl, h2.ri.1 k hk⟩
  · intro e w' hr
    obtain ⟨rfl, h3, hk⟩ := hr.free h1.lw.pw.lo
    exact ⟨rfl, _, _, ⟨_, _, _, _, h3, h2.store v hi hp⟩, fun j _ _ => st_now _ _ _ _, by have : (([Cmd.st i v] : List Cmd).length : Int) = 1 := rfl; omega, hk⟩

/-- A word that gets a record. -/
theorem sstore_f_new (h : OpenW p a u S q c m r pl D f t w) (hc : c.Ok) (hn : c.words = a.n) (hb : u < 1000000) (hrb : r < 4294967296) (i : Nat) (v : Int) (hi : c.act ≤ i ∧ i < a.n) (hf : freshB f t i = false) (hp : ¬ HasP m pl i) (hm : m < c.log) :
    Calls Tryz.prog 65 #[ptr q.b, .int .i64 i, .int .u64 v] w fun e w' => e = .returned (.int .i64 0) ∧ ∃ u' S', OpenW p a u' S' q c (m + 1) r (put pl m i) D f t w' ∧ (∀ j, c.act ≤ j → j < a.n → S'.now j = if j = i then v else S.now j) ∧ u' ≤ u + 3000 ∧ Keeps (q.bl p a) w w' := by
  obtain ⟨st, wd, R, U, h1, h2⟩ := h
  have hci := c_in hc hn
  have hact : 16 + 4 * c.log ≤ c.act := (up8_le (16 + 4 * c.log)).1
  refine (sstore_new h1 hc hn h2.lr hrb i v hi hf (h2.ri.2 _ fun k hk e => hp ⟨k, hk, by omega⟩) hm (by omega)).mono ?_
  intro e w' hr
  obtain ⟨rfl, h3, hk⟩ := hr.free h1.lw.pw.lo
  have h4 := (h2.new (st := st) hi hm hf fun k hk e => hp ⟨k, hk, e⟩).store v hi (.inr ⟨m, by omega, put_on _ _ _⟩)
  rw [← execs_append] at h4
  have hl := appL_len (st := st) (m := m) hc (eN 1 r) i (S.now i)
  refine ⟨rfl, _, _, ⟨_, _, _, _, h3, h4⟩, fun j h5 _ => ?_, ?_, hk⟩
  · rw [execs_append, st_now]
    split
    · rfl
    · exact (app_pre (by omega) (by omega) (by omega)).2
  · rw [List.length_append]; simp; omega

end

end Go.Proofs.YtfiohbniojmfaaaGreat
