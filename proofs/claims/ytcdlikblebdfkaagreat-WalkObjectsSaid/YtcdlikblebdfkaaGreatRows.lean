/-
  No cell of these rows narrows 'for every input' (looked for: loops, veiled, ifaces, maps, wideKeys, modest, calm, conditions, laid).
  DERIVED. THE GIVEN ROWS OF THIS SEAT. 4 by the template 'for every input the law returns true; each argument reads behind the call as it read before'; 0 by the template 'total and deterministic' (their statements: YtcdlikblebdfkaaGreatTotals.lean).
  GIVEN WITH THE SEED: the statements are not yours to turn. If you find one false, say at which input.
  Laid BY PROGRAM, IN A SANDBOX (cutbox-rows.mjs): the forced cells as the released guide's own fill.sh prints them over the translation 85957e5e9462482b… (all of the seat's roots in one cut). By AI agents, Wed Nov 11 2026. No macro, syntax, notation, axiom, sorry.
-/
import Derived.Test.YtcdlikblebdfkaaGreatChecked
import GoSem.Claim
import GoSem.ClaimJoined
import GoSem.ClaimMapViews
import Derived.JoinedTies
import Derived.KernelRfl
namespace Go.Proofs.YtcdlikblebdfkaaGreat
/- THE CELL 'sum', in the pinned program and in every row, IS THE sha256 OF THE DUMP (.gsa) THAT YtcdlikblebdfkaaGreatProg.lean LOADS. Nothing in Lean hashes anything: it is a label: what it is worth is what the hold of that sum in a sandbox is worth. -/
noncomputable def Tryz.pinned : Pinned := { name := "ytcdlikblebdfkaagreat", sum := "85957e5e9462482b1191ad7ceb7529bfabbb7f6e8f04ced75d80a8982733728e", checked := Tryz.checked }
namespace Rows
def none {H : Type} : Left H := { results := [], args := [] }

/-- 'tumuluslaw11.WalkObjects': WHATEVER THE INPUT: true; the input reads as it did. -/
def walkObjectsSpec : ChangeSpec := { name := "walkObjects", fn := fun _ => fun
  | [d1, d2, d3, d4, d5, d6] => { results := [.lit (.bool true)], args := [d1, d2, d3, d4, d5, d6] }
  | _ => none }
def walkObjectsRow : OpenClaim := { program := "ytcdlikblebdfkaagreat", sum := "85957e5e9462482b1191ad7ceb7529bfabbb7f6e8f04ced75d80a8982733728e", func := "tumulus/tumuluslaw11.WalkObjects", spec := "walkObjects", unfollowed := true, recurses := true, apart := false }
def WalkObjectsSaid : Prop := walkObjectsRow.holds Tryz.pinned (OpenSpec.ofChange walkObjectsSpec)

/-- ITS FALSE NEIGHBOUR: 'it returns false'. Refute it at one input. -/
def walkObjectsWrong : ChangeSpec := { name := "walkObjects", fn := fun _ => fun
  | [d1, d2, d3, d4, d5, d6] => { results := [.lit (.bool false)], args := [d1, d2, d3, d4, d5, d6] }
  | _ => none }
def WalkObjectsWrongFalsely : Prop := walkObjectsRow.holds Tryz.pinned (OpenSpec.ofChange walkObjectsWrong)

/-- 'tumuluslaw11.WalkBreaks': WHATEVER THE INPUT: true; the input reads as it did. -/
def walkBreaksSpec : ChangeSpec := { name := "walkBreaks", fn := fun _ => fun
  | [d1, d2, d3] => { results := [.lit (.bool true)], args := [d1, d2, d3] }
  | _ => none }
def walkBreaksRow : OpenClaim := { program := "ytcdlikblebdfkaagreat", sum := "85957e5e9462482b1191ad7ceb7529bfabbb7f6e8f04ced75d80a8982733728e", func := "tumulus/tumuluslaw11.WalkBreaks", spec := "walkBreaks", unfollowed := true, recurses := true, apart := false }
def WalkBreaksSaid : Prop := walkBreaksRow.holds Tryz.pinned (OpenSpec.ofChange walkBreaksSpec)

/-- ITS FALSE NEIGHBOUR: 'it returns false'. Refute it at one input. -/
def walkBreaksWrong : ChangeSpec := { name := "walkBreaks", fn := fun _ => fun
  | [d1, d2, d3] => { results := [.lit (.bool false)], args := [d1, d2, d3] }
  | _ => none }
def WalkBreaksWrongFalsely : Prop := walkBreaksRow.holds Tryz.pinned (OpenSpec.ofChange walkBreaksWrong)

/-- 'tumuluslaw11.WalkSums': WHATEVER THE INPUT: true; the input reads as it did. -/
def walkSumsSpec : ChangeSpec := { name := "walkSums", fn := fun _ => fun
  | [d1, d2, d3] => { results := [.lit (.bool true)], args := [d1, d2, d3] }
  | _ => none }
def walkSumsRow : OpenClaim := { program := "ytcdlikblebdfkaagreat", sum := "85957e5e9462482b1191ad7ceb7529bfabbb7f6e8f04ced75d80a8982733728e", func := "tumulus/tumuluslaw11.WalkSums", spec := "walkSums", unfollowed := true, recurses := true, apart := false }
def WalkSumsSaid : Prop := walkSumsRow.holds Tryz.pinned (OpenSpec.ofChange walkSumsSpec)

/-- ITS FALSE NEIGHBOUR: 'it returns false'. Refute it at one input. -/
def walkSumsWrong : ChangeSpec := { name := "walkSums", fn := fun _ => fun
  | [d1, d2, d3] => { results := [.lit (.bool false)], args := [d1, d2, d3] }
  | _ => none }
def WalkSumsWrongFalsely : Prop := walkSumsRow.holds Tryz.pinned (OpenSpec.ofChange walkSumsWrong)

/-- 'tumuluslaw11.WalkLess': WHATEVER THE INPUT: true; the input reads as it did. -/
def walkLessSpec : ChangeSpec := { name := "walkLess", fn := fun _ => fun
  | [d1, d2, d3] => { results := [.lit (.bool true)], args := [d1, d2, d3] }
  | _ => none }
def walkLessRow : OpenClaim := { program := "ytcdlikblebdfkaagreat", sum := "85957e5e9462482b1191ad7ceb7529bfabbb7f6e8f04ced75d80a8982733728e", func := "tumulus/tumuluslaw11.WalkLess", spec := "walkLess", unfollowed := true, recurses := true, apart := false }
def WalkLessSaid : Prop := walkLessRow.holds Tryz.pinned (OpenSpec.ofChange walkLessSpec)

/-- ITS FALSE NEIGHBOUR: 'it returns false'. Refute it at one input. -/
def walkLessWrong : ChangeSpec := { name := "walkLess", fn := fun _ => fun
  | [d1, d2, d3] => { results := [.lit (.bool false)], args := [d1, d2, d3] }
  | _ => none }
def WalkLessWrongFalsely : Prop := walkLessRow.holds Tryz.pinned (OpenSpec.ofChange walkLessWrong)

/- THE SECOND FORM. 'bulk': how many values and letters a reading holds, each counted each time it is reached (what is shared counts as often as it is met; a slice's spare places count too). A statement '..UptoSaid' is the law's where the arguments, and the package variables that the reading takes, are together of bulk at most 1048576: NARROWER than '..Said'. Prove '..Said' where nothing that the law and all that it calls make is longer than what came in: it says more and counts as full. Else prove '..UptoSaid'. A law counts once. -/
mutual
def uptoBulk {H : Type} : DataW H → Nat
  | .lit (.string bytes) => bytes.length + 1
  | .lit _ => 1
  | .nil => 1
  | .ptr d => uptoBulk d + 1
  | .slice elems spare => uptoBulkAll elems + uptoBulkAll spare + 1
  | .agg parts => uptoBulkAll parts + 1
  | .iface _ d => uptoBulk d + 1
  | .map entries => uptoBulkEntries entries + 1
  | .held _ => 1
def uptoBulkAll {H : Type} : List (DataW H) → Nat
  | [] => 0
  | d :: r => uptoBulk d + uptoBulkAll r
def uptoBulkEntries {H : Type} : List (Lit × DataW H) → Nat
  | [] => 0
  | x :: r => uptoBulkEntry x + uptoBulkEntries r
def uptoBulkEntry {H : Type} : Lit × DataW H → Nat
  | (.string bytes, d) => bytes.length + uptoBulk d + 1
  | (_, d) => uptoBulk d + 1
 end
def uptoSmall : (H : Type) → List (DataW H) → Bool := fun _ ds => decide (uptoBulkAll ds ≤ 1048576)
def OpenSpec.upto (s : _root_.Go.ChangeSpec) : _root_.Go.OpenSpec := { _root_.Go.OpenSpec.ofChange s with cond := some uptoSmall }

/-- 'tumuluslaw11.WalkObjects', WHERE WHAT IT READS IS OF BULK AT MOST 1048576: true; the input reads as it did. -/
def walkObjectsUptoRow : OpenClaim := { program := "ytcdlikblebdfkaagreat", sum := "85957e5e9462482b1191ad7ceb7529bfabbb7f6e8f04ced75d80a8982733728e", func := "tumulus/tumuluslaw11.WalkObjects", spec := "walkObjects", unfollowed := true, recurses := true, apart := false, narrowed := true }
def WalkObjectsUptoSaid : Prop := walkObjectsUptoRow.holds Tryz.pinned (OpenSpec.upto walkObjectsSpec)

/-- 'tumuluslaw11.WalkBreaks', WHERE WHAT IT READS IS OF BULK AT MOST 1048576: true; the input reads as it did. -/
def walkBreaksUptoRow : OpenClaim := { program := "ytcdlikblebdfkaagreat", sum := "85957e5e9462482b1191ad7ceb7529bfabbb7f6e8f04ced75d80a8982733728e", func := "tumulus/tumuluslaw11.WalkBreaks", spec := "walkBreaks", unfollowed := true, recurses := true, apart := false, narrowed := true }
def WalkBreaksUptoSaid : Prop := walkBreaksUptoRow.holds Tryz.pinned (OpenSpec.upto walkBreaksSpec)

/-- 'tumuluslaw11.WalkSums', WHERE WHAT IT READS IS OF BULK AT MOST 1048576: true; the input reads as it did. -/
def walkSumsUptoRow : OpenClaim := { program := "ytcdlikblebdfkaagreat", sum := "85957e5e9462482b1191ad7ceb7529bfabbb7f6e8f04ced75d80a8982733728e", func := "tumulus/tumuluslaw11.WalkSums", spec := "walkSums", unfollowed := true, recurses := true, apart := false, narrowed := true }
def WalkSumsUptoSaid : Prop := walkSumsUptoRow.holds Tryz.pinned (OpenSpec.upto walkSumsSpec)

/-- 'tumuluslaw11.WalkLess', WHERE WHAT IT READS IS OF BULK AT MOST 1048576: true; the input reads as it did. -/
def walkLessUptoRow : OpenClaim := { program := "ytcdlikblebdfkaagreat", sum := "85957e5e9462482b1191ad7ceb7529bfabbb7f6e8f04ced75d80a8982733728e", func := "tumulus/tumuluslaw11.WalkLess", spec := "walkLess", unfollowed := true, recurses := true, apart := false, narrowed := true }
def WalkLessUptoSaid : Prop := walkLessUptoRow.holds Tryz.pinned (OpenSpec.upto walkLessSpec)

end Rows
end Go.Proofs.YtcdlikblebdfkaaGreat
