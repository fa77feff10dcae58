/- Words are stored by any function: what is asked of it; put and Write of the root block by it. -/
import Derived.Test.YtcdlikblebdfkaaGreatRts
import Derived.Deep.RegionHeld2
namespace Go.Proofs.YtcdlikblebdfkaaGreat
open Go.RowKit Go.OpenShut

/-- What is asked of a function by which words are stored: its states s, the device that each has, the blocks that it may turn, what holds in a world behind at most so many stores, what a store of a word makes of a state and answers, what holds where it panics by power that goes. -/
structure Storer (F : Nat) (first cap : Array Value) (a : DA) {σ : Type} (now : σ → DS) (own : σ → List Nat) (N : Nat) (J : Nat → σ → World → Prop) (T : σ → Nat → Int → Int → σ → Prop) (G : σ → Nat → Int → World → Prop) : Prop where
  inv : ∀ (w : World) (i v : Int), (callFunc F (first ++ (#[.int .i64 i, .int .u64 v] ++ cap))).run Tryz.prog w = .ok (.enter F (first ++ (#[.int .i64 i, .int .u64 v] ++ cap))) w
  dev : ∀ n s w, J n s w → ∃ p, Dev w p a (now s)
  keep : ∀ n s w w', J n s w → Keeps [] w w' → J n s w'
  more : ∀ n s w, J n s w → J (n + 1) s w
  call : ∀ n s w (i : Nat) (v : Int), n < N → J n s w → i < a.n → Calls Tryz.prog F (first ++ (#[.int .i64 i, .int .u64 v] ++ cap)) w fun e w' =>
    (∃ code s', e = .returned (.int .i64 code) ∧ T s i v code s' ∧ J (n + 1) s' w' ∧ Keeps (own s) w w' ∧ ∀ b ∈ own s', b ∈ own s ∨ w.heap.size ≤ b) ∨
    (e = .panicked [{ v := goneV, recovered := false }] ∧ G s i v w')

section
variable {F : Nat} {first cap : Array Value} {a : DA} {σ : Type} {now : σ → DS} {own : σ → List Nat} {N : Nat} {J : Nat → σ → World → Prop} {T : σ → Nat → Int → Int → σ → Prop} {G : σ → Nat → Int → World → Prop}

/-- A word that is put: it stands, or it is stored. -/
def PutT (now : σ → DS) (T : σ → Nat → Int → Int → σ → Prop) (s : σ) (i : Nat) (v : Int) (code : Int) (s' : σ) : Prop :=
  ((now s).now i = v ∧ code = 0 ∧ s' = s) ∨ ((now s).now i ≠ v ∧ T s i v code s')

/-- Words that are put, in a row, up to an error. -/
def WrT (now : σ → DS) (T : σ → Nat → Int → Int → σ → Prop) : List (Nat × Int) → σ → Int → σ → Prop
  | [], s, code, s' => code = 0 ∧ s' = s
  | (i, v) :: l, s, code, s' => ∃ c1 s1, PutT now T s i v c1 s1 ∧ ((c1 ≠ 0 ∧ code = c1 ∧ s' = s1) ∨ (c1 = 0 ∧ WrT now T l s1 code s'))

/-- Words that are put, in a row, the power going within. -/
def WrG (now : σ → DS) (T : σ → Nat → Int → Int → σ → Prop) (G : σ → Nat → Int → World → Prop) : List (Nat × Int) → σ → World → Prop
  | [], _, _ => False
  | (i, v) :: l, s, w => ((now s).now i ≠ v ∧ G s i v w) ∨ ∃ s1, PutT now T s i v 0 s1 ∧ WrG now T G l s1 w

theorem WrT.app : ∀ {A B : List (Nat × Int)} {s s1 s2 : σ} {code : Int}, WrT now T A s 0 s1 → WrT now T B s1 code s2 → WrT now T (A ++ B) s code s2
  | [], _, _, _, _, _, h, k => by obtain ⟨_, rfl⟩ := h; exact k
  | (i, v) :: A, B, s, s1, s2, code, h, k => by
    obtain ⟨c1, t1, h1, ⟨h2, h3, _⟩ | ⟨h2, h3⟩⟩ := h
    · exact absurd h3.symm h2
    · exact ⟨c1, t1, h1, .inr ⟨h2, h3.app k⟩⟩

theorem WrG.app : ∀ {A B : List (Nat × Int)} {s s1 : σ} {w : World}, WrT now T A s 0 s1 → WrG now T G B s1 w → WrG now T G (A ++ B) s w
  | [], _, _, _, _, h, k => by obtain ⟨_, rfl⟩ := h; exact k
  | (i, v) :: A, B, s, s1, w, h, k => by
    obtain ⟨c1, t1, h1, ⟨h2, h3, _⟩ | ⟨h2, h3⟩⟩ := h
    · exact absurd h3.symm h2
    · subst h2
      exact .inr ⟨t1, h1, WrG.app h3 k⟩

theorem WrG.left : ∀ {A : List (Nat × Int)} {s : σ} {w : World} (B : List (Nat × Int)), WrG now T G A s w → WrG now T G (A ++ B) s w
  | [], _, _, _, h => h.elim
  | (i, v) :: A, s, w, B, h => by
    rcases h with h | ⟨s1, h1, h2⟩
    · exact .inl h
    · exact .inr ⟨s1, h1, h2.left B⟩

theorem WrT.left : ∀ {A : List (Nat × Int)} {s s1 : σ} {code : Int} (B : List (Nat × Int)), code ≠ 0 → WrT now T A s code s1 → WrT now T (A ++ B) s code s1
  | [], _, _, _, _, h0, h => absurd h.1 h0
  | (i, v) :: A, s, s1, code, B, h0, h => by
    obtain ⟨c1, t1, h1, h2 | ⟨h2, h3⟩⟩ := h
    · exact ⟨c1, t1, h1, .inl h2⟩
    · exact ⟨c1, t1, h1, .inr ⟨h2, h3.left B h0⟩⟩

/-- How a row of puts ends. -/
def StoP (now : σ → DS) (own : σ → List Nat) (J : Nat → σ → World → Prop) (T : σ → Nat → Int → Int → σ → Prop) (G : σ → Nat → Int → World → Prop) (n : Nat) (l : List (Nat × Int)) (s : σ) (w : World) (e : Ending) (w' : World) : Prop :=
  (∃ code s', e = .returned (.int .i64 code) ∧ WrT now T l s code s' ∧ J (n + l.length) s' w' ∧ Keeps (own s) w w' ∧ ∀ b ∈ own s', b ∈ own s ∨ w.heap.size ≤ b) ∨
  (e = .panicked [{ v := goneV, recovered := false }] ∧ WrG now T G l s w')

/-- What a block's words are, as it is written: Active, Used, the roots. -/
def blkW (c : Cfg) (k u : Int) (n : Nat) (f : Nat → Int) : List (Nat × Int) := (c.act, k) :: (c.act + 1, u) :: (List.range n).map fun i => (c.root i, f i)

theorem blkW_len (c : Cfg) (k u : Int) (n : Nat) (f : Nat → Int) : (blkW c k u n f).length = n + 2 := by simp [blkW]
theorem blkW_zero (c : Cfg) (k u : Int) (f : Nat → Int) : blkW c k u 0 f = [(c.act, k)] ++ [(c.act + 1, u)] := rfl
theorem blkW_succ (c : Cfg) (k u : Int) (n : Nat) (f : Nat → Int) : blkW c k u (n + 1) f = blkW c k u n f ++ [(c.root n, f n)] := by simp [blkW, List.range_succ]
theorem blkW_split (c : Cfg) (k u : Int) {m n : Nat} (h : m ≤ n) (f : Nat → Int) : ∃ R, blkW c k u n f = blkW c k u m f ++ R := by
  refine ⟨(blkW c k u n f).drop (m + 2), ?_⟩
  have e : blkW c k u m f = (blkW c k u n f).take (m + 2) := by
    simp only [blkW, List.take_succ_cons]
    rw [← List.map_take, List.take_range, Nat.min_eq_left h]
  rw [e, List.take_append_drop]

/-- So many puts done. -/
def StoR (now : σ → DS) (own : σ → List Nat) (J : Nat → σ → World → Prop) (T : σ → Nat → Int → Int → σ → Prop) (n : Nat) (l : List (Nat × Int)) (s : σ) (w : World) (w' : World) : Prop :=
  ∃ s', WrT now T l s 0 s' ∧ J (n + l.length) s' w' ∧ Keeps (own s) w w' ∧ ∀ b ∈ own s', b ∈ own s ∨ w.heap.size ≤ b

theorem sto_put {l : List (Nat × Int)} {s s1 s2 : σ} {w0 wx w2 w3 : World} {i : Nat} {v code : Int} (h1 : WrT now T l s 0 s1) (hk : Keeps (own s) w0 wx) (ho : ∀ b ∈ own s1, b ∈ own s ∨ w0.heap.size ≤ b) (hkk : Keeps [] wx w2)
    (h2 : WrT now T [(i, v)] s1 code s2) (hk2 : Keeps (own s1) w2 w3) (ho2 : ∀ b ∈ own s2, b ∈ own s1 ∨ w2.heap.size ≤ b) :
    WrT now T (l ++ [(i, v)]) s code s2 ∧ Keeps (own s) w0 w3 ∧ ∀ b ∈ own s2, b ∈ own s ∨ w0.heap.size ≤ b := by
  have hk3 := hk.trans (hkk.mono (by simp))
  refine ⟨h1.app h2, hk3.new hk2 ho, fun b hb => ?_⟩
  rcases ho2 b hb with h | h
  · exact ho b h
  · exact .inr (Nat.le_trans hk3.size h)

theorem Storer.mores (hF : Storer F first cap a now own N J T G) {n : Nat} {s : σ} {w : World} (h : J n s w) : ∀ k, J (n + k) s w
  | 0 => h
  | k + 1 => hF.more _ _ _ (hF.mores h k)

/-- The end of Write. -/
theorem sto_end (hF : Storer F first cap a now own N J T G) {n : Nat} {l R : List (Nat × Int)} {s s2 : σ} {w w0 w3 : World} {code : Int} (hw : Keeps [] w w0) (h1 : WrT now T l s code s2) (hJ : J (n + l.length) s2 w3) (hk : Keeps (own s) w0 w3) (ho : ∀ b ∈ own s2, b ∈ own s ∨ w0.heap.size ≤ b) (hc : R = [] ∨ code ≠ 0) :
    StoP now own J T G n (l ++ R) s w (.returned (.int .i64 code)) w3 := by
  refine .inl ⟨code, s2, rfl, ?_, by rw [List.length_append, ← Nat.add_assoc]; exact hF.mores hJ _, (hw.mono (by simp)).trans hk, fun b hb => ?_⟩
  · rcases hc with rfl | hc
    · rwa [List.append_nil]
    · exact h1.left R hc
  · rcases ho b hb with h | h
    · exact .inl h
    · exact .inr (Nat.le_trans hw.size h)

end

end Go.Proofs.YtcdlikblebdfkaaGreat
