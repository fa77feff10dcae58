/-
  No cell of these rows narrows 'for every input' (looked for: loops, veiled, ifaces, maps, wideKeys, modest, calm, conditions, laid).
  DERIVED. THE GIVEN ROWS OF THIS SEAT. 3 by the template 'for every input the law returns true; each argument reads behind the call as it read before'; 0 by the template 'total and deterministic' (their statements: YtbnmjlgjfaeekaaGreatTotals.lean).
  GIVEN WITH THE SEED: the statements are not yours to turn. If you find one false, say at which input.
  Laid BY PROGRAM, IN A SANDBOX (cutbox-rows.mjs): the forced cells as the released guide's own fill.sh prints them over the translation 97f1d6b490be507c… (all of the seat's roots in one cut). By AI agents, Wed Nov 11 2026. No macro, syntax, notation, axiom, sorry.
-/
import Derived.Test.YtbnmjlgjfaeekaaGreatChecked
import GoSem.Claim
import GoSem.ClaimJoined
import GoSem.ClaimMapViews
import Derived.JoinedTies
import Derived.KernelRfl
namespace Go.Proofs.YtbnmjlgjfaeekaaGreat
/- THE CELL 'sum', in the pinned program and in every row, IS THE sha256 OF THE DUMP (.gsa) THAT YtbnmjlgjfaeekaaGreatProg.lean LOADS. Nothing in Lean hashes anything: it is a label: what it is worth is what the hold of that sum in a sandbox is worth. -/
noncomputable def Tryz.pinned : Pinned := { name := "ytbnmjlgjfaeekaagreat", sum := "97f1d6b490be507c988022caa282c72e277bbabe521d14262a2f83083c171425", checked := Tryz.checked }
namespace Rows
def none {H : Type} : Left H := { results := [], args := [] }

/-- 'tumuluslaw09.SpaceAllocs': WHATEVER THE INPUT: true; the input reads as it did. -/
def spaceAllocsSpec : ChangeSpec := { name := "spaceAllocs", fn := fun _ => fun
  | [d1, d2, d3, d4] => { results := [.lit (.bool true)], args := [d1, d2, d3, d4] }
  | _ => none }
def spaceAllocsRow : OpenClaim := { program := "ytbnmjlgjfaeekaagreat", sum := "97f1d6b490be507c988022caa282c72e277bbabe521d14262a2f83083c171425", func := "tumulus/tumuluslaw09.SpaceAllocs", spec := "spaceAllocs", unfollowed := true, recurses := true, apart := false }
def SpaceAllocsSaid : Prop := spaceAllocsRow.holds Tryz.pinned (OpenSpec.ofChange spaceAllocsSpec)

/-- ITS FALSE NEIGHBOUR: 'it returns false'. Refute it at one input. -/
def spaceAllocsWrong : ChangeSpec := { name := "spaceAllocs", fn := fun _ => fun
  | [d1, d2, d3, d4] => { results := [.lit (.bool false)], args := [d1, d2, d3, d4] }
  | _ => none }
def SpaceAllocsWrongFalsely : Prop := spaceAllocsRow.holds Tryz.pinned (OpenSpec.ofChange spaceAllocsWrong)

/-- 'tumuluslaw09.SpaceErrors': WHATEVER THE INPUT: true; the input reads as it did. -/
def spaceErrorsSpec : ChangeSpec := { name := "spaceErrors", fn := fun _ => fun
  | [d1, d2, d3, d4, d5, d6] => { results := [.lit (.bool true)], args := [d1, d2, d3, d4, d5, d6] }
  | _ => none }
def spaceErrorsRow : OpenClaim := { program := "ytbnmjlgjfaeekaagreat", sum := "97f1d6b490be507c988022caa282c72e277bbabe521d14262a2f83083c171425", func := "tumulus/tumuluslaw09.SpaceErrors", spec := "spaceErrors", unfollowed := true, recurses := true, apart := false }
def SpaceErrorsSaid : Prop := spaceErrorsRow.holds Tryz.pinned (OpenSpec.ofChange spaceErrorsSpec)

/-- ITS FALSE NEIGHBOUR: 'it returns false'. Refute it at one input. -/
def spaceErrorsWrong : ChangeSpec := { name := "spaceErrors", fn := fun _ => fun
  | [d1, d2, d3, d4, d5, d6] => { results := [.lit (.bool false)], args := [d1, d2, d3, d4, d5, d6] }
  | _ => none }
def SpaceErrorsWrongFalsely : Prop := spaceErrorsRow.holds Tryz.pinned (OpenSpec.ofChange spaceErrorsWrong)

/-- 'tumuluslaw09.SpaceFills': WHATEVER THE INPUT: true; the input reads as it did. -/
def spaceFillsSpec : ChangeSpec := { name := "spaceFills", fn := fun _ => fun
  | [d1, d2, d3] => { results := [.lit (.bool true)], args := [d1, d2, d3] }
  | _ => none }
def spaceFillsRow : OpenClaim := { program := "ytbnmjlgjfaeekaagreat", sum := "97f1d6b490be507c988022caa282c72e277bbabe521d14262a2f83083c171425", func := "tumulus/tumuluslaw09.SpaceFills", spec := "spaceFills", unfollowed := true, recurses := true, apart := false }
def SpaceFillsSaid : Prop := spaceFillsRow.holds Tryz.pinned (OpenSpec.ofChange spaceFillsSpec)

/-- ITS FALSE NEIGHBOUR: 'it returns false'. Refute it at one input. -/
def spaceFillsWrong : ChangeSpec := { name := "spaceFills", fn := fun _ => fun
  | [d1, d2, d3] => { results := [.lit (.bool false)], args := [d1, d2, d3] }
  | _ => none }
def SpaceFillsWrongFalsely : Prop := spaceFillsRow.holds Tryz.pinned (OpenSpec.ofChange spaceFillsWrong)

/- THE SECOND FORM. 'bulk': how many values and letters a reading holds, each counted each time it is reached (what is shared counts as often as it is met; a slice's spare places count too). A statement '..UptoSaid' is the law's where the arguments, and the package variables that the reading takes, are together of bulk at most 1048576: NARROWER than '..Said'. Prove '..Said' where nothing that the law and all that it calls make is longer than what came in: it says more and counts as full. Else prove '..UptoSaid'. A law counts once. -/
mutual
def uptoBulk {H : Type} : DataW H → Nat
  | .lit (.string bytes) => bytes.length + 1
  | .lit _ => 1
  | .nil => 1
  | .ptr d => uptoBulk d + 1
  | .slice elems spare => uptoBulkAll elems + uptoBulkAll spare + 1
  | .agg parts => uptoBulkAll parts + 1
  | .iface _ d => uptoBulk d + 1
  | .map entries => uptoBulkEntries entries + 1
  | .held _ => 1
def uptoBulkAll {H : Type} : List (DataW H) → Nat
  | [] => 0
  | d :: r => uptoBulk d + uptoBulkAll r
def uptoBulkEntries {H : Type} : List (Lit × DataW H) → Nat
  | [] => 0
  | x :: r => uptoBulkEntry x + uptoBulkEntries r
def uptoBulkEntry {H : Type} : Lit × DataW H → Nat
  | (.string bytes, d) => bytes.length + uptoBulk d + 1
  | (_, d) => uptoBulk d + 1
 end
def uptoSmall : (H : Type) → List (DataW H) → Bool := fun _ ds => decide (uptoBulkAll ds ≤ 1048576)
def OpenSpec.upto (s : _root_.Go.ChangeSpec) : _root_.Go.OpenSpec := { _root_.Go.OpenSpec.ofChange s with cond := some uptoSmall }

/-- 'tumuluslaw09.SpaceAllocs', WHERE WHAT IT READS IS OF BULK AT MOST 1048576: true; the input reads as it did. -/
def spaceAllocsUptoRow : OpenClaim := { program := "ytbnmjlgjfaeekaagreat", sum := "97f1d6b490be507c988022caa282c72e277bbabe521d14262a2f83083c171425", func := "tumulus/tumuluslaw09.SpaceAllocs", spec := "spaceAllocs", unfollowed := true, recurses := true, apart := false, narrowed := true }
def SpaceAllocsUptoSaid : Prop := spaceAllocsUptoRow.holds Tryz.pinned (OpenSpec.upto spaceAllocsSpec)

/-- 'tumuluslaw09.SpaceErrors', WHERE WHAT IT READS IS OF BULK AT MOST 1048576: true; the input reads as it did. -/
def spaceErrorsUptoRow : OpenClaim := { program := "ytbnmjlgjfaeekaagreat", sum := "97f1d6b490be507c988022caa282c72e277bbabe521d14262a2f83083c171425", func := "tumulus/tumuluslaw09.SpaceErrors", spec := "spaceErrors", unfollowed := true, recurses := true, apart := false, narrowed := true }
def SpaceErrorsUptoSaid : Prop := spaceErrorsUptoRow.holds Tryz.pinned (OpenSpec.upto spaceErrorsSpec)

/-- 'tumuluslaw09.SpaceFills', WHERE WHAT IT READS IS OF BULK AT MOST 1048576: true; the input reads as it did. -/
def spaceFillsUptoRow : OpenClaim := { program := "ytbnmjlgjfaeekaagreat", sum := "97f1d6b490be507c988022caa282c72e277bbabe521d14262a2f83083c171425", func := "tumulus/tumuluslaw09.SpaceFills", spec := "spaceFills", unfollowed := true, recurses := true, apart := false, narrowed := true }
def SpaceFillsUptoSaid : Prop := spaceFillsUptoRow.holds Tryz.pinned (OpenSpec.upto spaceFillsSpec)

end Rows
end Go.Proofs.YtbnmjlgjfaeekaaGreat
