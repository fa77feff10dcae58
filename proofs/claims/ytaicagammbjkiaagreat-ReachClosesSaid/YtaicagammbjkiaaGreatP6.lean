/- Words that are stored, as they come in; what goes on between two of them. | Rows that a law appends to: places, words. -/
import Derived.Test.YtaicagammbjkiaaGreatLaw6
import Derived.Test.YtaicagammbjkiaaGreatArgs
import Derived.Deep.AppendLies
namespace Go.Proofs.YtaicagammbjkiaaGreat
open Go.RowKit Go.OpenShut

theorem boxed {w : World} (o : Obj) : Keeps [] w (w.alloc o) := (Keeps.refl _ _).alloc _

/-- From address x on stand n words that are to be stored: a place, a value. -/
def AReads (w : World) (x : Option Addr) (n : Nat) (f : Nat → Nat → Int) : Prop :=
  n = 0 ∨ ∃ b off, x = some ⟨b, off, none⟩ ∧ b < w.heap.size ∧ ∀ i, i < n → w.cell? ⟨b, off + i * 2, none⟩ = some (.int .u16 (f i 0)) ∧ w.cell? ⟨b, off + i * 2 + 1, none⟩ = some (.int .u64 (f i 1)) ∧ 0 ≤ f i 0 ∧ f i 0 ≤ 65535

theorem areads_of {x : Option Addr} {n : Nat} {f : Nat → Nat → Int} {W : World}
    (h : n * 2 = 0 ∨ ∃ b off, x = some ⟨b, off, none⟩ ∧ b < W.heap.size ∧ ∀ i j, i < n → j < 2 → W.cell? ⟨b, off + (i * 2 + j), none⟩ = some (.int ((fun j => if j = 0 then .u16 else .u64 : Nat → IntKind) j) (f i j)) ∧ (Lit.int ((fun j => if j = 0 then .u16 else .u64 : Nat → IntKind) j) (f i j)).wf = true) :
    AReads W x n f := by
  rcases h with h | ⟨b, off, rfl, hb, hc⟩
  · exact .inl (by omega)
  · refine .inr ⟨b, off, rfl, hb, fun i hi => ?_⟩
    have h0 := hc i 0 hi (by omega)
    have h1 := hc i 1 hi (by omega)
    have hb0 := bounds_u16 h0.2
    exact ⟨h0.1, by rw [show off + i * 2 + 1 = off + (i * 2 + 1) by omega]; exact h1.1, hb0.1, hb0.2⟩

/-- All words behind the log are kept as they stand. -/
def FixAll (c : Cfg) (n : Nat) (S : DS) : Prop := ∀ j, c.act ≤ j → j < n → Fix S j (S.now j)
/-- All words but those that have records stay as they are, whatever comes. -/
def Rest (n m : Nat) (pl : Nat → Nat) (S : DS) : Prop := ∀ j, j < n → (∃ i, i < m ∧ pl i = j) ∨ Fix S j (S.now j)

/-- Between two words: k have come. -/
def AInv (p : Nat) (a : DA) (lb : Nat) (c : Cfg) (D : Nat → Int) (k : Nat) (w : World) : Prop :=
  ∃ st u S m pl wd, LW w p a (-1) u S lb c m st ∧ LI c a.n 1 0 m pl wd D S ∧ m ≤ k ∧ u ≤ 110000 + 120 * (k : Int) ∧ Rest a.n m pl S

theorem Rest.app {c : Cfg} {n m e i : Nat} {pl : Nat → Nat} {S : DS} {st : Bool} (h : Rest n m pl S) (v : Int) : Rest n (m + 1) (put pl m i) (execs S (appL c st false m e i v)) := fun j hj => by
  obtain ⟨f1, f2, f3⟩ := app_fields (c := c) (m := m) (S := S) (st := st) e i v
  by_cases h0 : j = 16 + 4 * m
  · subst h0; right; rw [f1.1]; exact f1
  · by_cases h1 : j = 16 + 4 * m + 1
    · subst h1; right; rw [f2.1]; exact f2
    · by_cases h2 : j = 16 + 4 * m + 2
      · subst h2; right; rw [f3.1]; exact f3
      · rcases h j hj with ⟨k, hk, h3⟩ | h3
        · exact .inl ⟨k, by omega, by rw [put_off _ _ (by omega)]; exact h3⟩
        · right
          have := app_pre (c := c) (st := st) (S := S) (e := e) (i := i) (v := v) h0 h1 h2
          rw [this.2]
          exact this.1 _ h3

theorem Rest.store {n m i k : Nat} {pl : Nat → Nat} {S : DS} {v : Int} (h : Rest n m pl S) (hk : k < m) (hi : pl k = i) : Rest n m pl (execs S [.st i v]) := fun j hj => by
  by_cases hji : j = i
  · subst hji; exact .inl ⟨k, hk, hi⟩
  · rcases h j hj with h3 | h3
    · exact .inl h3
    · right
      have e : (execs S [.st i v]).now j = S.now j := one_off _ _ (fun e => hji e.symm)
      rw [e]
      exact pre_execs (by simp; exact fun e => hji e.symm) _ h3

theorem rest_fresh {n : Nat} {S : DS} (pl : Nat → Nat) (hk : ∀ j, j < n → S.kept j = S.now j) (hi : ∀ k, S.is k = false) : Rest n 0 pl S := fun j hj => .inr ⟨rfl, hk j hj, fun e => by rw [hi] at e; cases e⟩

theorem undL_off {c : Cfg} {st : Bool} {pl : Nat → Nat} {wd : Nat → Int} {m e : Nat} {y : Cmd} (hy : y ∈ undL c st pl wd m e) {j : Nat} (hj : ∀ i, i < m → pl i ≠ j) (h8 : j ≠ 8) : y.Off j := by
  rw [undL_parts] at hy
  rcases List.mem_append.1 hy with hy | hy
  · exact undA_off hy hj
  · exact truL_off hy h8

/-- Undone, nothing changes any word. -/
theorem Rest.undone {c : Cfg} {n e0 r m : Nat} {pl : Nat → Nat} {wd : Nat → Int} {D : Nat → Int} {S : DS} {st : Bool} (h : Rest n m pl S) (hL : LI c n e0 r m pl wd D S) :
    ∀ j, j < n → Fix (execs S (undS c st pl wd m (eN e0 r))) j ((execs S (undS c st pl wd m (eN e0 r))).now j) := fun j hj => by
  have hD := undS_done (st := st) hL
  have same : ∀ {T : DS} {v : Int}, Fix T j v → Fix T j (T.now j) := fun hf => by rw [hf.1]; exact hf
  by_cases h0 : m = 0
  · subst h0
    rcases h j hj with ⟨i, hi, _⟩ | h1
    · exact absurd hi (Nat.not_lt_zero _)
    · exact h1
  · by_cases h8 : j = 8
    · subst h8
      exact same hD.1.ep
    · rcases h j hj with ⟨i, hi, h1⟩ | h1
      · have := (hL.1.recs i hi).2.2.2.1
        exact same (hD.clean j (by omega) hj)
      · by_cases hp : ∀ i, i < m → pl i ≠ j
        · refine same (v := S.now j) ?_
          unfold undS
          rw [if_neg h0]
          exact pre_execs (fun y hy => undL_off hy hp h8) _ h1
        · have : ∃ i, i < m ∧ pl i = j := by
            apply Classical.byContradiction
            intro hn
            exact hp fun i hi e => hn ⟨i, hi, e⟩
          obtain ⟨i, hi, h2⟩ := this
          have := (hL.1.recs i hi).2.2.2.1
          exact same (hD.clean j (by omega) hj)

/-! By the words that stand alone. -/

/-- A device of which nothing but what stands is asked. -/
def stood (S : DS) : DS := crashed S fun _ => 2

theorem stood_now (S : DS) : (stood S).now = S.now := funext fun i => by simp [stood, crashed, leftV]

theorem stood_all {S : DS} {j : Nat} {q : Int → Prop} : All (stood S) j q ↔ q (S.now j) := by
  have := @crashed_all S (fun _ => 2) j q
  rw [show leftV S j 2 = S.now j by simp [leftV]] at this
  exact this

theorem execs_now_congr : ∀ (cs : List Cmd) {S T : DS}, S.now = T.now → (execs S cs).now = (execs T cs).now
  | [], _, _, h => h
  | x :: cs, S, T, h => by
    rw [execs_cons, execs_cons]
    refine execs_now_congr cs ?_
    cases x with
    | st i v => show put S.now i v = put T.now i v; rw [h]
    | fl i => exact h
    | fe => exact h

section
variable {c : Cfg} {n e0 r m : Nat} {pl : Nat → Nat} {wd : Nat → Int} {S : DS} {st : Bool}

theorem LR.stand {T : DS} (h : LR c n e0 r m pl wd T) (e : S.now = T.now) : LR c n e0 r m pl wd (stood S) := by
  have hp : ∀ j, Pre T (stood S) j := fun j q hq => stood_all.2 (by rw [e]; exact hq.1)
  exact h.pre (hp _) (fun i _ => ⟨hp _, hp _, hp _⟩) (fun i _ _ => hp _)

theorem LR.stood_app (h : LR c n e0 r m pl wd (stood S)) (hm : m < c.log) (i : Nat) (v : Int) (hi : c.act ≤ i ∧ i < n) :
    LR c n e0 r (m + 1) (put pl m i) (put wd m v) (stood (execs S (appL c st false m (eN e0 r) i v))) :=
  (app_done (st := st) h hm i v hi).stand (execs_now_congr _ (stood_now S).symm)

theorem LR.stood_tru (h : LR c n e0 r m pl wd (stood S)) (pl' : Nat → Nat) (wd' : Nat → Int) : LR c n e0 (r + 1) 0 pl' wd' (stood (execs S (truL c st (eN e0 r)))) :=
  (tru_done (st := st) h pl' wd').stand (execs_now_congr _ (stood_now S).symm)

variable {w : World} {p : Nat} {a : DA} {l u : Int} {lb : Nat}

theorem open_st (h : Pw w p a l u S) (hc : c.Ok) (hn : c.words = a.n) (hL : LR c a.n e0 r m pl wd (stood S)) (hr : r < 4294967296) :
    Calls Tryz.prog 91 #[ptr a.d, cfgV c] w fun e w' => ∃ lb, e = .returned (ptr lb) ∧ w.heap.size ≤ lb ∧ LW w' p a l u S lb c m false ∧ Keeps [] w w' := by
  have hci := c_in hc hn
  have h8 := hL.ep.1
  rw [stood_now] at h8
  refine (open_at w p a l u S c h hc.small (eN e0 r) (by have := eN_lt e0 r; omega) h8 hci.1).mono ?_
  rintro e w' ⟨lb, k, rfl, hlb, hW, hk, h1, h2, h3⟩
  obtain rfl := hL.count hr h1 (by rw [stood_now]; exact h2) (by rw [stood_now]; exact h3)
  exact ⟨lb, rfl, hlb, hW, hk⟩

theorem append_st (h : LW w p a l u S lb c m st) (hc : c.Ok) (hn : c.words = a.n) (hL : LR c a.n e0 r m pl wd (stood S)) (hr : r < 4294967296) (hm : m < c.log) (i : Nat) (hi : i < a.n) (hb : u < 4611686018427340000) :
    Calls Tryz.prog 92 #[ptr lb, .int .i64 i] w (RanL p a l u S lb c (m + 1) true (appL c st false m (eN e0 r) i (S.now i)) (.int .i64 0) w) := by
  have hci := c_in hc hn
  have h8 := hL.ep.1
  have hb' := hL.bad hr hm
  rw [stood_now] at h8 hb'
  have := append_ran h hc.small (eN e0 r) (by have := eN_lt e0 r; omega) h8 hm (by omega) i hi false hb' (by omega)
  rwa [epN_eN] at this

theorem trunc_st (h : LW w p a l u S lb c m st) (hc : c.Ok) (hn : c.words = a.n) (hL : LR c a.n e0 r m pl wd (stood S)) (hm : 0 < m) (hb : u < 4611686018427340000) :
    Calls Tryz.prog 114 #[ptr lb] w (RanL p a l u S lb c 0 true (truL c st (eN e0 r)) (.tuple #[]) w) := by
  have hci := c_in hc hn
  have h8 := hL.ep.1
  rw [stood_now] at h8
  have := trunc_ran h hc.small (eN e0 r) (by have := eN_lt e0 r; omega) h8 hm (by omega) hci.2.1 (by omega)
  rwa [epN_eN] at this

theorem truL_len (hc : c.Ok) (e : Nat) : (truL c st e).length ≤ 106 := by
  have := sL_len hc.small st
  simp [truL, kpL]
  omega

end

/-- A word that is stored, flushed, fenced. -/
theorem FixAll.tri {c : Cfg} {n i : Nat} {v : Int} {S : DS} (h : FixAll c n S) : FixAll c n (execs (execs (execs S [.st i v]) [.fl i]) [.fe]) := fun j h1 h2 => by
  have e : execs (execs (execs S [.st i v]) [.fl i]) [.fe] = execs (execs S [.st i v]) (kpL i) := rfl
  rw [e]
  by_cases hji : j = i
  · subst hji
    have := kp_fix (execs S [.st j v]) j j rfl
    have e2 : (execs (execs S [.st j v]) (kpL j)).now j = (execs S [.st j v]).now j := rfl
    rw [e2]
    exact this
  · have e2 : (execs (execs S [.st i v]) (kpL i)).now j = S.now j := one_off S v (fun e => hji e.symm)
    rw [e2]
    refine pre_execs (fun y hy => ?_) _ (pre_execs (fun y hy => ?_) _ (h j h1 h2))
    · simp [kpL] at hy
      rcases hy with rfl | rfl <;> trivial
    · simp at hy
      subst hy
      exact fun e => hji e.symm

theorem FixAll.app {c : Cfg} {n m e i : Nat} {v : Int} {S : DS} {st : Bool} (hm : m < c.log) (h : FixAll c n S) : FixAll c n (execs S (appL c st false m e i v)) := fun j h1 h2 => by
  have hact : 16 + 4 * c.log ≤ c.act := (up8_le (16 + 4 * c.log)).1
  have := app_pre (c := c) (st := st) (S := S) (e := e) (i := i) (v := v) (m := m) (j := j) (by omega) (by omega) (by omega)
  rw [this.2]
  exact this.1 _ (h j h1 h2)

theorem LR.tri {c : Cfg} {n e0 r m i : Nat} {pl : Nat → Nat} {wd : Nat → Int} {v : Int} {S : DS} (h : LR c n e0 r m pl wd S) (hi : c.act ≤ i) : LR c n e0 r m pl wd (execs (execs (execs S [.st i v]) [.fl i]) [.fe]) := by
  have hact : 16 + 4 * c.log ≤ c.act := (up8_le (16 + 4 * c.log)).1
  have hle := h.le
  have hp : ∀ j, j < c.act → Pre S (execs (execs (execs S [.st i v]) [.fl i]) [.fe]) j := fun j hj => by
    have e : execs (execs (execs S [.st i v]) [.fl i]) [.fe] = execs S [.st i v, .fl i, .fe] := rfl
    rw [e]
    refine pre_execs fun y hy => ?_
    simp at hy
    rcases hy with rfl | rfl | rfl
    · show i ≠ j; omega
    · trivial
    · trivial
  exact h.pre (hp _ (by omega)) (fun k hk => ⟨hp _ (by omega), hp _ (by omega), hp _ (by omega)⟩) (fun k _ hk => hp _ (by omega))

/-- Run, of a function that has its arguments. -/
theorem run_first (F : Nat) (first : Array Value) (w : World) (A B : World → Prop)
    (hinv : ∀ w, (callFunc F first).run Tryz.prog w = .ok (.enter F first) w)
    (h : Calls Tryz.prog F first w fun e w' => (e = .returned (.tuple #[]) ∧ A w') ∨ (e = .panicked [{ v := goneV, recovered := false }] ∧ B w')) :
    Calls Tryz.prog 141 #[.func (.func F) first #[]] w fun e w' => (e = .returned (.bool true) ∧ A w') ∨ (e = .returned (.bool false) ∧ ∃ w1, B w1 ∧ w1.alloc (.cells #[] 118) = w') := by
  have e : first ++ (#[] : Array Value) = first := by simp
  exact run_with F first #[] w A B (by rw [e]; exact hinv) (by rw [e]; exact h)

end Go.Proofs.YtaicagammbjkiaaGreat

namespace Go.Proofs.YtaicagammbjkiaaGreat
open Go.RowKit Go.OpenShut

/-- The places that have come, in a row of the call's own. -/
def OwnI (w : World) (B : Nat) (x : Option Addr) (cp n : Nat) (f : Nat → Nat) : Prop :=
  w.ownsRow B 3 1 (.slice x n cp) n ((List.range n).map fun i => .int .i64 (f i : Nat))
/-- The words. -/
def OwnU (w : World) (B : Nat) (x : Option Addr) (cp n : Nat) (f : Nat → Int) : Prop :=
  w.ownsRow B 53 1 (.slice x n cp) n ((List.range n).map fun i => .int .u64 (f i))
/-- The block of a row. -/
def blkL (x : Option Addr) : List Nat := match x with | some a => [a.block] | none => []

theorem ownI_nil (w : World) (B : Nat) (f : Nat → Nat) : OwnI w B none 0 0 f := ⟨rfl, .inl ⟨rfl, rfl⟩⟩
theorem ownU_nil (w : World) (B : Nat) (f : Nat → Int) : OwnU w B none 0 0 f := ⟨rfl, .inl ⟨rfl, rfl⟩⟩

theorem OwnI.form {w : World} {B : Nat} {x : Option Addr} {cp n : Nat} {f : Nat → Nat} (h : OwnI w B x cp n f) :
    (x = none ∧ n = 0) ∨ ∃ g cur, x = some ⟨g, 0, none⟩ ∧ B ≤ g ∧ At w g (.cells cur 3) ∧ ∀ i, i < n → cur[i]? = some (.int .i64 (f i : Nat)) := by
  obtain ⟨_, ⟨h1, h2⟩ | ⟨g, cap, cur, h1, h2, h3, _, _, h6, h7⟩⟩ := h
  · injection h1 with h1; exact .inl ⟨h1, h2⟩
  · injection h1 with h1
    refine .inr ⟨g, cur, h1, h2, h3, fun i hi => ?_⟩
    have e : (cur.toList.take (n * 1))[i]? = ((List.range n).map fun i => Value.int .i64 (f i : Nat))[i]? := by rw [h7]
    rw [List.getElem?_take_of_lt (by omega), Array.getElem?_toList] at e
    rw [e]
    simp [hi]
theorem OwnU.form {w : World} {B : Nat} {x : Option Addr} {cp n : Nat} {f : Nat → Int} (h : OwnU w B x cp n f) :
    (x = none ∧ n = 0) ∨ ∃ g cur, x = some ⟨g, 0, none⟩ ∧ B ≤ g ∧ At w g (.cells cur 53) ∧ ∀ i, i < n → cur[i]? = some (.int .u64 (f i)) := by
  obtain ⟨_, ⟨h1, h2⟩ | ⟨g, cap, cur, h1, h2, h3, _, _, h6, h7⟩⟩ := h
  · injection h1 with h1; exact .inl ⟨h1, h2⟩
  · injection h1 with h1
    refine .inr ⟨g, cur, h1, h2, h3, fun i hi => ?_⟩
    have e : (cur.toList.take (n * 1))[i]? = ((List.range n).map fun i => Value.int .u64 (f i))[i]? := by rw [h7]
    rw [List.getElem?_take_of_lt (by omega), Array.getElem?_toList] at e
    rw [e]
    simp [hi]

theorem OwnI.keep {w w' : World} {B : Nat} {x : Option Addr} {cp n : Nat} {f : Nat → Nat} {T : List Nat} (h : OwnI w B x cp n f) (hk : Keeps T w w') (hT : ∀ b ∈ blkL x, b ∉ T) : OwnI w' B x cp n f := by
  obtain ⟨h0, h1 | ⟨g, cap, cur, h1, h2, h3, h4⟩⟩ := h
  · exact ⟨h0, .inl h1⟩
  · refine ⟨h0, .inr ⟨g, cap, cur, h1, h2, ?_, h4⟩⟩
    injection h1 with h1
    exact hk.at (show At w g (.cells cur 3) from h3) (hT g (by rw [h1]; simp [blkL]))
theorem OwnU.keep {w w' : World} {B : Nat} {x : Option Addr} {cp n : Nat} {f : Nat → Int} {T : List Nat} (h : OwnU w B x cp n f) (hk : Keeps T w w') (hT : ∀ b ∈ blkL x, b ∉ T) : OwnU w' B x cp n f := by
  obtain ⟨h0, h1 | ⟨g, cap, cur, h1, h2, h3, h4⟩⟩ := h
  · exact ⟨h0, .inl h1⟩
  · refine ⟨h0, .inr ⟨g, cap, cur, h1, h2, ?_, h4⟩⟩
    injection h1 with h1
    exact hk.at (show At w g (.cells cur 53) from h3) (hT g (by rw [h1]; simp [blkL]))

theorem OwnI.ge {w : World} {B : Nat} {x : Option Addr} {cp n : Nat} {f : Nat → Nat} (h : OwnI w B x cp n f) : ∀ b ∈ blkL x, B ≤ b ∧ b < w.heap.size := by
  rcases h.form with ⟨rfl, _⟩ | ⟨g, cur, rfl, h1, h2, _⟩
  · simp [blkL]
  · simp [blkL]; exact ⟨h1, h2.lt⟩
theorem OwnU.ge {w : World} {B : Nat} {x : Option Addr} {cp n : Nat} {f : Nat → Int} (h : OwnU w B x cp n f) : ∀ b ∈ blkL x, B ≤ b ∧ b < w.heap.size := by
  rcases h.form with ⟨rfl, _⟩ | ⟨g, cur, rfl, h1, h2, _⟩
  · simp [blkL]
  · simp [blkL]; exact ⟨h1, h2.lt⟩
/-- The two rows lie apart. -/
theorem own_apart {w : World} {B B' : Nat} {x x' : Option Addr} {cp cp' n n' : Nat} {f : Nat → Nat} {f' : Nat → Int} (h : OwnI w B x cp n f) (h' : OwnU w B' x' cp' n' f') : ∀ b ∈ blkL x', b ∉ blkL x := by
  rcases h.form with ⟨rfl, _⟩ | ⟨g, cur, rfl, _, h2, _⟩
  · simp [blkL]
  · rcases h'.form with ⟨rfl, _⟩ | ⟨g', cur', rfl, _, h2', _⟩
    · simp [blkL]
    · have := cells_ne h2' h2 (by decide)
      simp [blkL]; exact this

theorem range_put_i (n i : Nat) (f : Nat → Nat) : ((List.range n).map fun j => Value.int .i64 (f j : Nat)) ++ [Value.int .i64 (i : Nat)] = (List.range (n + 1)).map fun j => Value.int .i64 (put f n i j : Nat) := by
  rw [List.range_succ, List.map_append]
  congr 1
  · refine List.map_congr_left fun j hj => ?_
    rw [put_off _ _ (by have := List.mem_range.1 hj; omega)]
  · simp [put_on]
theorem range_put_u (n : Nat) (v : Int) (f : Nat → Int) : ((List.range n).map fun j => Value.int .u64 (f j)) ++ [Value.int .u64 v] = (List.range (n + 1)).map fun j => Value.int .u64 (put f n v j) := by
  rw [List.range_succ, List.map_append]
  congr 1
  · refine List.map_congr_left fun j hj => ?_
    rw [put_off _ _ (by have := List.mem_range.1 hj; omega)]
  · simp [put_on]

theorem grown_keeps {w w' : World} {x : Option Addr} {n cp : Nat} (h : w.grownBy w' (Value.slice x n cp).ownBlock) : Keeps (blkL x) w w' :=
  ⟨h.os, h.tape, h.output, h.size, fun k hk hn => h.block k hk fun e => hn (by cases x with
    | none => simp [Value.ownBlock] at e
    | some a => simp [Value.ownBlock] at e; simp [blkL]; exact e)⟩

/-- append of a place, at a step of a region that draws. -/
theorem appI_step {ops : Array Oper} {o : Oper} {a : Act} {w : World} {K : Act → World → Prop} {Q : Exit → Act → World → Prop} {E : Prop} (hgd : o.guard = none) (s x : Operand)
    (ho : o.op = .call { callee := .builtin .append, args := #[s, x], argTypes := #[34, 34] })
    (B : Nat) (xx : Option Addr) (cp n : Nat) (f : Nat → Nat) (hs : a.eval s = .slice xx n cp) (hown : OwnI w B xx cp n f) (b c i : Nat) (hx : a.eval x = .slice (some ⟨b, 0, none⟩) 1 c) (hc : w.cell? ⟨b, 0, none⟩ = some (.int .i64 (i : Nat)))
    (hn : n ≤ 1000) (hB : B ≤ w.heap.size)
    (h : ∀ g cap w', OwnI w' B (some ⟨g, 0, none⟩) cap (n + 1) (put f n i) → Keeps (blkL xx) w w' → (blkL xx = [g] ∨ w.heap.size ≤ g) → K (a.put o.dst (.slice (some ⟨g, 0, none⟩) (n + 1) cap)) w') :
    if Region.wanted o (yielded ops a.tmps) = true then Oper.wp Tryz.prog o a w K Q else E := by
  have hi : ∃ i, Tryz.prog.info? 3 = some i ∧ (i.zero, i.size, i.bytes) = (some (.int .i64 0), 1, 8) := by
    have h : (Tryz.prog.info? 3).map (fun i => (i.zero, i.size, i.bytes)) = some (some (.int .i64 0), 1, 8) := by kernel_rfl
    exact Option.map_eq_some_iff.1 h
  obtain ⟨ti, hi1, hi2⟩ := hi
  simp only [Prod.mk.injEq] at hi2
  obtain ⟨hz, hsz, hby⟩ := hi2
  refine step_append_lies w hgd s x 34 ho B 3 ti (.int .i64 0) 1 8 Tryz.underlying34 hi1 hz hsz hby rfl (by omega) _ n _ hs hown ⟨b, 0, none⟩ 1 c [.int .i64 (i : Nat)] hx rfl (fun j u hj => ?_) (by simp [Value.oneCell']) (by omega) (by unfold maxLen; omega) (by omega) hB w.heap.size rfl ?_
  · cases j with
    | zero => simp at hj; subst hj; exact hc
    | succ j => simp at hj
  · intro g cap w' h1 h2 h3 h4
    rw [range_put_i] at h1
    refine h g cap w' h1 (grown_keeps h2) ?_
    rcases h3 with h3 | h3
    · left
      cases xx with
      | none => simp [Value.ownBlock] at h3
      | some a => simp [Value.ownBlock] at h3; simp [blkL]; exact h3
    · right; omega

/-- append of a word. -/
theorem appU_step {ops : Array Oper} {o : Oper} {a : Act} {w : World} {K : Act → World → Prop} {Q : Exit → Act → World → Prop} {E : Prop} (hgd : o.guard = none) (s x : Operand)
    (ho : o.op = .call { callee := .builtin .append, args := #[s, x], argTypes := #[31, 31] })
    (B : Nat) (xx : Option Addr) (cp n : Nat) (f : Nat → Int) (hs : a.eval s = .slice xx n cp) (hown : OwnU w B xx cp n f) (b c : Nat) (v : Int) (hx : a.eval x = .slice (some ⟨b, 0, none⟩) 1 c) (hc : w.cell? ⟨b, 0, none⟩ = some (.int .u64 v))
    (hn : n ≤ 1000) (hB : B ≤ w.heap.size)
    (h : ∀ g cap w', OwnU w' B (some ⟨g, 0, none⟩) cap (n + 1) (put f n v) → Keeps (blkL xx) w w' → (blkL xx = [g] ∨ w.heap.size ≤ g) → K (a.put o.dst (.slice (some ⟨g, 0, none⟩) (n + 1) cap)) w') :
    if Region.wanted o (yielded ops a.tmps) = true then Oper.wp Tryz.prog o a w K Q else E := by
  have hi : ∃ i, Tryz.prog.info? 53 = some i ∧ (i.zero, i.size, i.bytes) = (some (.int .u64 0), 1, 8) := by
    have h : (Tryz.prog.info? 53).map (fun i => (i.zero, i.size, i.bytes)) = some (some (.int .u64 0), 1, 8) := by kernel_rfl
    exact Option.map_eq_some_iff.1 h
  obtain ⟨ti, hi1, hi2⟩ := hi
  simp only [Prod.mk.injEq] at hi2
  obtain ⟨hz, hsz, hby⟩ := hi2
  refine step_append_lies w hgd s x 31 ho B 53 ti (.int .u64 0) 1 8 Tryz.underlying31 hi1 hz hsz hby rfl (by omega) _ n _ hs hown ⟨b, 0, none⟩ 1 c [.int .u64 v] hx rfl (fun j u hj => ?_) (by simp [Value.oneCell']) (by omega) (by unfold maxLen; omega) (by omega) hB w.heap.size rfl ?_
  · cases j with
    | zero => simp at hj; subst hj; exact hc
    | succ j => simp at hj
  · intro g cap w' h1 h2 h3 h4
    rw [range_put_u] at h1
    refine h g cap w' h1 (grown_keeps h2) ?_
    rcases h3 with h3 | h3
    · left
      cases xx with
      | none => simp [Value.ownBlock] at h3
      | some a => simp [Value.ownBlock] at h3; simp [blkL]; exact h3
    · right; omega

end Go.Proofs.YtaicagammbjkiaaGreat
