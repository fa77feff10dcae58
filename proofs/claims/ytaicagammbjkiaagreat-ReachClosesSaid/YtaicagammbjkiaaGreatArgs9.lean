/- Structs of two whole numbers that come in by value. -/
import Derived.Test.YtaicagammbjkiaaGreatArgs
namespace Go.Proofs.YtaicagammbjkiaaGreat
open Go.RowKit Go.ChangeShapes Go.WideShapes Go.Deep

section
variable {H : Type} {enc : TypeId × Value → H} {P : Program} {w : World} {base : Nat} {held : Bool}

theorem open_int2 {k0 k1 : IntKind} {r : Reach} {b0 : Nat} {t : TypeId} {f0 f1 : Field} {v : Value} {d : DataW H} {p : List MemPlace} (hs : P.underlying t = some (.struct #[f0, f1])) (hone : oneCellFields P #[f0, f1] = true) (hC : P.cellsOf t = 2)
    (h0 : P.underlying f0.type = some (.int k0)) (h1 : P.underlying f1.type = some (.int k1)) (hv : Value.okWide P w r b0 t v) (h : DataW.Trod enc P w base (fun _ => true) held t v d p) :
    ∃ x y : Int, v = .agg #[.int k0 x, .int k1 y] ∧ d = .agg [.lit (.int k0 x), .lit (.int k1 y)] ∧ p = [] ∧ (Lit.int k0 x).wf = true ∧ (Lit.int k1 y).wf = true := by
  obtain ⟨c0, c1, y0, y1, m, rfl, rfl, rfl, g0, g1⟩ := Go.Joins.open_agg2 hs hone hC hv h
  obtain ⟨a, e0, rfl, wa⟩ := DataW.trod_int h0 g0
  obtain ⟨b, e1, rfl, wb⟩ := DataW.trod_int h1 g1
  simp at e0 e1
  subst e0 e1
  exact ⟨a, b, rfl, rfl, rfl, wa, wb⟩

theorem shut_int2 {k0 k1 : IntKind} {t : TypeId} {f0 f1 : Field} {x y : Int} {sp : Nat → Bool} (hs : P.underlying t = some (.struct #[f0, f1])) (hone : oneCellFields P #[f0, f1] = true) (hC : P.cellsOf t = 2)
    (h0 : P.underlying f0.type = some (.int k0)) (h1 : P.underlying f1.type = some (.int k1)) (wx : (Lit.int k0 x).wf = true) (wy : (Lit.int k1 y).wf = true) :
    DataW.Trod enc P w base sp held t (.agg #[.int k0 x, .int k1 y]) (.agg [.lit (.int k0 x), .lit (.int k1 y)]) [] :=
  Go.Joins.shut_agg2 (y0 := (.lit (.int k0 x), [])) (y1 := (.lit (.int k1 y), [])) hs hone hC ⟨1, by simp [DataW.trod, h0, wx]⟩ ⟨1, by simp [DataW.trod, h1, wy]⟩

end

end Go.Proofs.YtaicagammbjkiaaGreat
