/- Slices of 64 bits: what one reads; slices.Equal, slices.Clone; a device's words. -/
import Derived.Test.YtcdlikblebdfkaaGreatDev2
import Derived.Maps.AppendAt
namespace Go.Proofs.YtcdlikblebdfkaaGreat
open Go.RowKit

/-- From address a on stand n words that f says. -/
def Reads (w : World) (a : Option Addr) (n : Nat) (f : Nat → Int) : Prop :=
  n = 0 ∨ ∃ b off, a = some ⟨b, off, none⟩ ∧ b < w.heap.size ∧ ∀ i, i < n → w.cell? ⟨b, off + i, none⟩ = some (.int .u64 (f i))

theorem Reads.of_at {w : World} {b n N off : Nat} {f : Nat → Int} {T : TypeId} {fz : Nat × Nat} (h : At w b (.cells (u64s N f) T fz)) (hn : off + n ≤ N) : Reads w (some ⟨b, off, none⟩) n (fun i => f (off + i)) :=
  .inr ⟨b, off, rfl, h.lt, fun i hi => h.cell (off + i) (u64s_get (by omega))⟩

theorem Reads.of_at0 {w : World} {b n N : Nat} {f : Nat → Int} {T : TypeId} {fz : Nat × Nat} (h : At w b (.cells (u64s N f) T fz)) (hn : n ≤ N) : Reads w (some ⟨b, 0, none⟩) n f :=
  .inr ⟨b, 0, rfl, h.lt, fun i hi => by rw [Nat.zero_add]; exact h.cell i (u64s_get (by omega))⟩

theorem Keeps.cell {S : List Nat} {a b : World} (h : Keeps S a b) {p : Addr} (hp : p.block < a.heap.size) (hs : p.block ∉ S) : b.cell? p = a.cell? p :=
  World.cell?_of_block (h.block _ hp hs)

theorem Reads.keep {w w' : World} {a : Option Addr} {n : Nat} {f : Nat → Int} {S : List Nat} (h : Reads w a n f) (hk : Keeps S w w') (hs : ∀ b off, a = some ⟨b, off, none⟩ → b ∉ S) : Reads w' a n f := by
  rcases h with h | ⟨b, off, rfl, hb, hc⟩
  · exact .inl h
  · exact .inr ⟨b, off, rfl, Nat.lt_of_lt_of_le hb hk.size, fun i hi => by rw [hk.cell hb (hs b off rfl)]; exact hc i hi⟩

theorem over_none (f g : Nat → Int) (off soff : Nat) : over f g off soff 0 = f := by
  funext i
  unfold over
  rw [if_neg (by omega)]

/-- copy, from what reads. -/
theorem copy64r {w : World} {ops : Array Oper} {rest : List Oper} {o : Oper} {a : Act} {Q : Exit → Act → World → Prop} (hgd : o.guard = none) (d s : Operand)
    (ho : o.op = .call { callee := .builtin .copy, args := #[d, s], argTypes := #[31, 31] })
    (g off dLen dCap : Nat) (sp : Option Addr) (sLen sCap : Nat) (hd : a.eval d = .slice (some ⟨g, off, none⟩) dLen dCap) (hs : a.eval s = .slice sp sLen sCap)
    (N : Nat) (f f2 : Nat → Int) (T : TypeId) (hg : At w g (.cells (u64s N f) T (0, 0))) (hr : Reads w sp sLen f2) (n : Nat) (hn : n = min sLen dLen) (hfit : off + n ≤ N)
    (hK : ∀ w', At w' g (.cells (u64s N (over f f2 off 0 n)) T (0, 0)) → Keeps [g] w w' → wpList Tryz.prog ops Q rest (a.put o.dst (.int .i64 n)) w') :
    wpList Tryz.prog ops Q (o :: rest) a w := by
  by_cases h0 : n = 0
  · subst h0
    refine wpList_copy_nothing hgd d s _ _ ho 26 Tryz.underlying31 (by kernel_rfl) _ _ _ _ _ _ hd hs hn.symm ?_
    have := hK w (by rw [over_none]; exact hg) (Keeps.refl _ _)
    simpa [goInt] using this
  · have hpos : 0 < sLen ∧ n ≤ sLen := by omega
    rcases hr with hr | ⟨b, soff, rfl, hb, hc⟩
    · omega
    · have e := u64s_over (soff := 0) (f := f) (g := f2) hfit
      simp only [Nat.zero_add] at e
      refine wpList_copy_own hgd d s _ _ ho 26 Tryz.underlying31 (by kernel_rfl) g off dLen dCap ⟨b, soff, none⟩ sLen sCap hd hs (u64s N f) T hg ((List.range n).map fun j => Value.int .u64 (f2 j)) (by simpa using hn) ?_ (by simp [u64s_size]; omega) (by simp [Value.oneCell']) ?_
      · intro j v hj
        obtain ⟨hj1, rfl⟩ := List.getElem?_eq_some_iff.1 hj
        have hj2 : j < n := by simpa using hj1
        rw [List.getElem_map, List.getElem_range]
        have e2 : (⟨b, soff, none⟩ : Addr).add j = ⟨b, soff + j, none⟩ := by unfold Addr.add; split <;> simp_all
        rw [e2]
        exact hc j (by omega)
      · rw [← List.append_assoc, e]
        have hk : Keeps [g] w (w.setRow g (u64s N (over f f2 off 0 n))) := by
          refine ⟨rfl, rfl, rfl, by simp [World.setRow], fun k _ hk => setRow_other w g k _ (by simpa using hk)⟩
        have hh : At (w.setRow g (u64s N (over f f2 off 0 n))) g (.cells (u64s N (over f f2 off 0 n)) T (0, 0)) := setRow_heap w g _ _ T _ hg
        have := hK _ hh hk
        simpa [goInt] using this

/-- A row of the call's own: n words that f says, and room. -/
def Own (w : World) (B : Nat) (v : Value) (n : Nat) (f : Nat → Int) : Prop :=
  ∃ g cap cur, v = .slice (some ⟨g, 0, none⟩) n cap ∧ B ≤ g ∧ At w g (.cells cur 26 (0, 0)) ∧ n ≤ cap ∧ cap ≤ maxLen ∧ cur.size = cap ∧ ∀ i, i < n → cur[i]? = some (.int .u64 (f i))

/-- What slices.Equal answers, of any. -/
def SomeBool (w : World) (e : Ending) (w' : World) : Prop := ∃ b : Bool, e = .returned (.bool b) ∧ Keeps [] w w'

theorem Own.row {w : World} {B n : Nat} {v : Value} {f : Nat → Int} (h : Own w B v n f) : w.ownsRow B 26 1 v n ((List.range n).map fun i => .int .u64 (f i)) := by
  obtain ⟨g, cap, cur, rfl, hB, hg, h1, h2, h3, h4⟩ := h
  refine ⟨by simp, .inr ⟨g, cap, cur, rfl, hB, hg, h1, h2, by omega, ?_⟩⟩
  rw [Nat.mul_one]
  apply List.ext_getElem?
  intro i
  by_cases hi : i < n
  · rw [List.getElem?_take_of_lt hi, Array.getElem?_toList, h4 i hi]
    simp [hi]
  · rw [List.getElem?_eq_none (by simp; omega), List.getElem?_eq_none (by simp; omega)]

theorem Own.of_row {w : World} {B n : Nat} {v : Value} {f : Nat → Int} (h : w.ownsRow B 26 1 v n ((List.range n).map fun i => .int .u64 (f i))) (hv : v ≠ .slice none 0 0) : Own w B v n f := by
  obtain ⟨_, ⟨rfl, _⟩ | ⟨g, cap, cur, rfl, hB, hg, h1, h2, h3, h4⟩⟩ := h
  · exact absurd rfl hv
  · refine ⟨g, cap, cur, rfl, hB, hg, h1, h2, by omega, fun i hi => ?_⟩
    have e : (cur.toList.take (n * 1))[i]? = ((List.range n).map fun i => Value.int .u64 (f i))[i]? := by rw [h4]
    rw [List.getElem?_take_of_lt (by omega), Array.getElem?_toList] at e
    rw [e]
    simp [hi]

/-- append, onto a row of the call's own. -/
theorem append64 {w : World} {ops : Array Oper} {rest : List Oper} {o : Oper} {a : Act} {Q : Exit → Act → World → Prop} (hgd : o.guard = none) (s x : Operand)
    (ho : o.op = .call { callee := .builtin .append, args := #[s, x], argTypes := #[31, 31] })
    (B : Nat) (v : Value) (n : Nat) (f : Nat → Int) (hs : a.eval s = v) (hown : Own w B v n f) (ad : Addr) (m c : Nat) (g : Nat → Int) (hx : a.eval x = .slice (some ad) m c) (hr : Reads w (some ad) m g)
    (hb : n + m ≤ 17592186044416) (hB : B ≤ w.heap.size)
    (hK : ∀ v' w', Own w' B v' (n + m) (fun i => if i < n then f i else g (i - n)) → Keeps (match v.ownBlock with | some k => [k] | none => []) w w' → wpList Tryz.prog ops Q rest (a.put o.dst v') w') : wpList Tryz.prog ops Q (o :: rest) a w := by
  refine wpList_plain hgd fun K' hK' => ?_
  have hi : ∃ i, Tryz.prog.info? 26 = some i ∧ (i.zero, i.size, i.bytes) = (some (.int .u64 0), 1, 8) := by
    have h : (Tryz.prog.info? 26).map (fun i => (i.zero, i.size, i.bytes)) = some (some (.int .u64 0), 1, 8) := by kernel_rfl
    exact Option.map_eq_some_iff.1 h
  obtain ⟨i, hi1, hi2⟩ := hi
  simp only [Prod.mk.injEq] at hi2
  obtain ⟨hz, hsz, hby⟩ := hi2
  obtain ⟨v', w', hrun, h1, h2, h3, _⟩ := run_append_own_at (P := Tryz.prog) w B 31 o.type 26 i (.int .u64 0) 1 8 Tryz.underlying31 hi1 hz hsz hby rfl (by omega) v n _ hown.row ad m c
    ((List.range m).map fun i => .int .u64 (g i)) (by simp) (by
      intro j u hj
      rcases hr with h0 | ⟨b, off, he, hb, hc⟩
      · subst h0; simp at hj
      · obtain ⟨hj1, rfl⟩ := List.getElem?_eq_some_iff.1 hj
        have hj2 : j < m := by simpa using hj1
        cases he
        have e2 : (⟨b, off, none⟩ : Addr).add j = ⟨b, off + j, none⟩ := by unfold Addr.add; split <;> simp_all
        rw [List.getElem_map, List.getElem_range, e2]
        exact hc j hj2) (by simp [Value.oneCell']) (by unfold maxLen; omega) (by omega) hB
  have hv : v ≠ .slice none 0 0 := by obtain ⟨g, cap, cur, rfl, _⟩ := hown; simp
  unfold Oper.wp
  simp [execOp, ho, resolve, invoke, builtin, hs, hx, hrun, Result.andThen]
  refine hK' _ _ (hK v' w' (Own.of_row ?_ (fun h => hv (h3.1 h).1)) ?_)
  · have e : ((List.range n).map fun i => Value.int .u64 (f i)) ++ ((List.range m).map fun i => Value.int .u64 (g i)) = (List.range (n + m)).map fun i => Value.int .u64 (if i < n then f i else g (i - n)) := by
      apply List.ext_getElem?
      intro j
      by_cases hj : j < n
      · rw [List.getElem?_append_left (by simpa using hj)]
        simp [hj, show j < n + m by omega]
      · rw [List.getElem?_append_right (by simp; omega)]
        by_cases hj2 : j < n + m
        · simp [hj, hj2, show j - n < m by omega]
        · simp [hj2, show ¬ j - n < m by omega]
    rw [← e]
    exact h1
  · refine ⟨h2.os, h2.tape, h2.output, h2.size, fun k hk hn => h2.block k hk fun e => hn ?_⟩
    rw [← e]
    simp

/-- A slice held against nil. -/
theorem run_slice_nil (a : Option Addr) (n c : Nat) (w : World) : (binOp .eql 31 (.slice a n c) (.slice none 0 0)).run Tryz.prog w = .ok (.bool a.isNone) w := by
  have h := run_equal_slice_nil (P := Tryz.prog) (w := w) 31 26 a n c Tryz.underlying31
  simp [binOp, h, Result.andThen]

def Cloned (w : World) (n : Nat) (f : Nat → Int) (e : Ending) (w' : World) : Prop := ∃ v, e = .returned v ∧ Own w' w.heap.size v n f ∧ Keeps [] w w'

theorem Own.reads {w : World} {B n : Nat} {v : Value} {f : Nat → Int} (h : Own w B v n f) : ∃ g cap, v = .slice (some ⟨g, 0, none⟩) n cap ∧ B ≤ g ∧ g < w.heap.size ∧ n ≤ cap ∧ Reads w (some ⟨g, 0, none⟩) n f := by
  obtain ⟨g, cap, cur, rfl, hB, hg, h1, h2, h3, h4⟩ := h
  exact ⟨g, cap, rfl, hB, hg.lt, h1, .inr ⟨g, 0, rfl, hg.lt, fun i hi => by rw [Nat.zero_add]; exact hg.cell i (h4 i hi)⟩⟩

end Go.Proofs.YtcdlikblebdfkaaGreat
