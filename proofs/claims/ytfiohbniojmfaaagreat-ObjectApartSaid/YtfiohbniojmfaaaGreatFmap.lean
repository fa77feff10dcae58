/- A map whose keys are an object's place and a field: what it reads as; its operations. -/
import Derived.Test.YtfiohbniojmfaaaGreatLaw2
import Derived.Test.YtfiohbniojmfaaaGreatP6
import Derived.Maps.Own
import Derived.DeepKeys4
import Derived.Maps.Views
namespace Go.Proofs.YtfiohbniojmfaaaGreat
open Go.RowKit Go.OpenShut

theorem laidOut10 : laidOutB Tryz.prog = true := by kernel_rfl
theorem rowF : (77 : TypeId) < Tryz.prog.types.size := of_decide_eq_true (by kernel_rfl)
theorem wideF : (match Tryz.prog.underlying 77 with | some (.array _ _) | some (.struct _) => true | _ => false) = true := by rw [Tryz.underlying77]
set_option maxRecDepth 100000 in
theorem keyedF : Go.Maps.Keyed Tryz.prog 77 := Go.Maps.Keyed.of_law (deep_law_laid laidOut10 (m := 2) (by omega) rowF (by kernel_rfl) wideF)

/-- A key, as a value and as what it reads as. -/
abbrev keyV (z i : Int) : Value := .agg #[.int .i64 z, .int .i64 i]
def keyL (z i : Int) : Lit := .string (keyBytes [.int .i64 z, .int .i64 i])

theorem keyTypeF : Tryz.prog.keyType 77 = true := by kernel_rfl

theorem keyOf_f {z i : Int} (wz : (Lit.int .i64 z).wf = true) (wi : (Lit.int .i64 i).wf = true) : keyOf Tryz.prog 77 (keyV z i) = some (keyL z i) := by
  have hC : Tryz.prog.cellsOf 77 = 2 := by kernel_rfl
  have hI : Tryz.prog.cellsOf 3 = 1 := by kernel_rfl
  have hsz : ∃ m, Tryz.prog.types.size = m + 1 := ⟨Tryz.prog.types.size - 1, by have : 0 < Tryz.prog.types.size := of_decide_eq_true (by kernel_rfl); omega⟩
  obtain ⟨m, hm⟩ := hsz
  unfold keyOf
  simp only [Tryz.underlying77]
  rw [if_pos (by simp [keyTypeF, Value.formed, Tryz.underlying77, hC]), hm]
  unfold Program.keyLits
  simp only [Tryz.underlying77, Value.cells]
  rw [if_pos (by rw [hC]; simp)]
  simp [hI, Program.keyLits, Tryz.underlying3, wz, wi, keyL]

theorem keyL_inj {z i z' i' : Int} (wz : (Lit.int .i64 z).wf = true) (wi : (Lit.int .i64 i).wf = true) (wz' : (Lit.int .i64 z').wf = true) (wi' : (Lit.int .i64 i').wf = true) (h : keyL z i = keyL z' i') : z = z' ∧ i = i' := by
  have h1 := keyOf_f wz wi
  have h2 := keyOf_f wz' wi'
  rw [← h] at h2
  have h3 := keyedF.inj h1 h2
  simpa [keyV] using h3

/-- Block b is such a map, of at most n entries, that reads as F. -/
def SMap (w : World) (b n : Nat) (F : Int → Int → Int) : Prop :=
  ∃ D : DataW Unit, w.ownsMap Tryz.prog 77 (plainElem Tryz.prog 3) b n D ∧ Maps.IsMap D ∧
    ∀ z i, (Lit.int .i64 z).wf = true → (Lit.int .i64 i).wf = true → D.atKey (keyL z i) (.lit (.int .i64 0)) = .lit (.int .i64 (F z i))

theorem SMap.lt {w : World} {b n : Nat} {F : Int → Int → Int} (h : SMap w b n F) : b < w.heap.size := by
  obtain ⟨_, h, _⟩ := h
  exact h.lt

theorem SMap.made (w : World) : SMap (w.alloc (.map #[] 0)) w.heap.size 0 (fun _ _ => 0) :=
  ⟨.map [], World.ownsMap_made w _ _ _, ⟨[], rfl⟩, fun _ _ _ _ => rfl⟩

theorem SMap.keep {w w' : World} {b n : Nat} {F : Int → Int → Int} {T : List Nat} (h : SMap w b n F) (hk : Keeps T w w') (hb : b ∉ T) : SMap w' b n F := by
  obtain ⟨D, h1, h2, h3⟩ := h
  have hlt := h1.lt
  obtain ⟨es, clock, hB, hF, hs, hD⟩ := h1
  exact ⟨D, ⟨es, clock, (hk.block b hlt hb).trans hB, hF, hs, hD⟩, h2, h3⟩

theorem zeroI (w : World) : (zeroValue 3).run Tryz.prog w = .ok (.int .i64 0) w := by kernel_rfl

set_option maxRecDepth 100000 in
theorem SMap.lookup {w : World} {b n : Nat} {F : Int → Int → Int} (h : SMap w b n F) {z i : Int} (wz : (Lit.int .i64 z).wf = true) (wi : (Lit.int .i64 i).wf = true) :
    (Instr.lookup 74 (.map (some b)) (keyV z i) false).run Tryz.prog w = .ok (.int .i64 (F z i)) w := by
  obtain ⟨D, h1, _, h3⟩ := h
  obtain ⟨c, hrun, hat, _⟩ := h1.lookup_int keyedF Tryz.underlying74 Tryz.underlying3 (zeroI w) (keyOf_f wz wi)
  have hc : F z i = c := by
    have := (h3 z i wz wi).symm.trans hat
    injection this with this
    injection this with _ this
  rw [hrun, hc]

/-- A function of a place and a field, one of its values another one. -/
def putF (F : Int → Int → Int) (z i v : Int) : Int → Int → Int := fun z' i' => if z' = z ∧ i' = i then v else F z' i'

set_option maxRecDepth 100000 in
theorem SMap.update {w : World} {b n : Nat} {F : Int → Int → Int} (h : SMap w b n F) (hn : n < maxLen) {z i v : Int} (wz : (Lit.int .i64 z).wf = true) (wi : (Lit.int .i64 i).wf = true) (wv : (Lit.int .i64 v).wf = true) :
    ∃ w', (Instr.mapUpdate 74 (.map (some b)) (keyV z i) (.int .i64 v)).run Tryz.prog w = .ok () w' ∧ SMap w' b (n + 1) (putF F z i v) ∧ Keeps [b] w w' := by
  obtain ⟨D, h1, h2, h3⟩ := h
  obtain ⟨w', hrun, h4, h5⟩ := h1.update keyedF Tryz.underlying74 hn (keyOf_f wz wi) (plainElem_int Tryz.underlying3 wv)
  refine ⟨w', hrun, ⟨_, h4, ?_, fun z' i' wz' wi' => ?_⟩, ?_⟩
  · obtain ⟨es, rfl⟩ := h2
    exact ⟨_, rfl⟩
  · unfold putF
    by_cases he : z' = z ∧ i' = i
    · obtain ⟨rfl, rfl⟩ := he
      rw [if_pos ⟨rfl, rfl⟩, Maps.atKey_put_same h2 (keyedF.key (keyOf_f wz wi))]
    · rw [if_neg he, Maps.atKey_put_other (fun e => he (keyL_inj wz' wi' wz wi e))]
      exact h3 z' i' wz' wi'
  · exact ⟨h5.os, h5.tape, h5.output, h5.size, fun k hk hs => h5.block k hk (fun e => hs (by cases e; simp))⟩

end Go.Proofs.YtfiohbniojmfaaaGreat
