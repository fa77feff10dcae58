/-
  No cell of these rows narrows 'for every input' (looked for: loops, veiled, ifaces, maps, wideKeys, modest, calm, conditions, laid).
  DERIVED. THE GIVEN ROWS OF THIS SEAT. 4 by the template 'for every input the law returns true; each argument reads behind the call as it read before'; 0 by the template 'total and deterministic' (their statements: YtglpoffbkkdjiaaGreatTotals.lean).
  GIVEN WITH THE SEED: the statements are not yours to turn. If you find one false, say at which input.
  Laid BY PROGRAM, IN A SANDBOX (cutbox-rows.mjs): the forced cells as the released guide's own fill.sh prints them over the translation 8bae52e9c66ca214… (all of the seat's roots in one cut). By AI agents, Wed Nov 11 2026. No macro, syntax, notation, axiom, sorry.
-/
import Derived.Test.YtglpoffbkkdjiaaGreatChecked
import GoSem.Claim
import GoSem.ClaimJoined
import GoSem.ClaimMapViews
import Derived.JoinedTies
import Derived.KernelRfl
namespace Go.Proofs.YtglpoffbkkdjiaaGreat
/- THE CELL 'sum', in the pinned program and in every row, IS THE sha256 OF THE DUMP (.gsa) THAT YtglpoffbkkdjiaaGreatProg.lean LOADS. Nothing in Lean hashes anything: it is a label: what it is worth is what the hold of that sum in a sandbox is worth. -/
noncomputable def Tryz.pinned : Pinned := { name := "ytglpoffbkkdjiaagreat", sum := "8bae52e9c66ca214702b6fc2226f4ce9342963d2abf758449962b41b455008f7", checked := Tryz.checked }
namespace Rows
def none {H : Type} : Left H := { results := [], args := [] }

/-- 'tumuluslaw16.HandlePlays': WHATEVER THE INPUT: true; the input reads as it did. -/
def handlePlaysSpec : ChangeSpec := { name := "handlePlays", fn := fun _ => fun
  | [d] => { results := [.lit (.bool true)], args := [d] }
  | _ => none }
def handlePlaysRow : OpenClaim := { program := "ytglpoffbkkdjiaagreat", sum := "8bae52e9c66ca214702b6fc2226f4ce9342963d2abf758449962b41b455008f7", func := "tumulus/tumuluslaw16.HandlePlays", spec := "handlePlays", unfollowed := true, recurses := true, apart := false }
def HandlePlaysSaid : Prop := handlePlaysRow.holds Tryz.pinned (OpenSpec.ofChange handlePlaysSpec)

/-- ITS FALSE NEIGHBOUR: 'it returns false'. Refute it at one input. -/
def handlePlaysWrong : ChangeSpec := { name := "handlePlays", fn := fun _ => fun
  | [d] => { results := [.lit (.bool false)], args := [d] }
  | _ => none }
def HandlePlaysWrongFalsely : Prop := handlePlaysRow.holds Tryz.pinned (OpenSpec.ofChange handlePlaysWrong)

/-- 'tumuluslaw16.HandleApart': WHATEVER THE INPUT: true; the input reads as it did. -/
def handleApartSpec : ChangeSpec := { name := "handleApart", fn := fun _ => fun
  | [d1, d2] => { results := [.lit (.bool true)], args := [d1, d2] }
  | _ => none }
def handleApartRow : OpenClaim := { program := "ytglpoffbkkdjiaagreat", sum := "8bae52e9c66ca214702b6fc2226f4ce9342963d2abf758449962b41b455008f7", func := "tumulus/tumuluslaw16.HandleApart", spec := "handleApart", unfollowed := true, recurses := true, apart := false }
def HandleApartSaid : Prop := handleApartRow.holds Tryz.pinned (OpenSpec.ofChange handleApartSpec)

/-- ITS FALSE NEIGHBOUR: 'it returns false'. Refute it at one input. -/
def handleApartWrong : ChangeSpec := { name := "handleApart", fn := fun _ => fun
  | [d1, d2] => { results := [.lit (.bool false)], args := [d1, d2] }
  | _ => none }
def HandleApartWrongFalsely : Prop := handleApartRow.holds Tryz.pinned (OpenSpec.ofChange handleApartWrong)

/-- 'tumuluslaw16.HandleMoves': WHATEVER THE INPUT: true; the input reads as it did. -/
def handleMovesSpec : ChangeSpec := { name := "handleMoves", fn := fun _ => fun
  | [d1, d2, d3] => { results := [.lit (.bool true)], args := [d1, d2, d3] }
  | _ => none }
def handleMovesRow : OpenClaim := { program := "ytglpoffbkkdjiaagreat", sum := "8bae52e9c66ca214702b6fc2226f4ce9342963d2abf758449962b41b455008f7", func := "tumulus/tumuluslaw16.HandleMoves", spec := "handleMoves", unfollowed := true, recurses := true, apart := false }
def HandleMovesSaid : Prop := handleMovesRow.holds Tryz.pinned (OpenSpec.ofChange handleMovesSpec)

/-- ITS FALSE NEIGHBOUR: 'it returns false'. Refute it at one input. -/
def handleMovesWrong : ChangeSpec := { name := "handleMoves", fn := fun _ => fun
  | [d1, d2, d3] => { results := [.lit (.bool false)], args := [d1, d2, d3] }
  | _ => none }
def HandleMovesWrongFalsely : Prop := handleMovesRow.holds Tryz.pinned (OpenSpec.ofChange handleMovesWrong)

/-- 'tumuluslaw16.HandleRises': WHATEVER THE INPUT: true; the input reads as it did. -/
def handleRisesSpec : ChangeSpec := { name := "handleRises", fn := fun _ => fun
  | [d] => { results := [.lit (.bool true)], args := [d] }
  | _ => none }
def handleRisesRow : OpenClaim := { program := "ytglpoffbkkdjiaagreat", sum := "8bae52e9c66ca214702b6fc2226f4ce9342963d2abf758449962b41b455008f7", func := "tumulus/tumuluslaw16.HandleRises", spec := "handleRises", unfollowed := true, recurses := true, apart := false }
def HandleRisesSaid : Prop := handleRisesRow.holds Tryz.pinned (OpenSpec.ofChange handleRisesSpec)

/-- ITS FALSE NEIGHBOUR: 'it returns false'. Refute it at one input. -/
def handleRisesWrong : ChangeSpec := { name := "handleRises", fn := fun _ => fun
  | [d] => { results := [.lit (.bool false)], args := [d] }
  | _ => none }
def HandleRisesWrongFalsely : Prop := handleRisesRow.holds Tryz.pinned (OpenSpec.ofChange handleRisesWrong)

/- THE SECOND FORM. 'bulk': how many values and letters a reading holds, each counted each time it is reached (what is shared counts as often as it is met; a slice's spare places count too). A statement '..UptoSaid' is the law's where the arguments, and the package variables that the reading takes, are together of bulk at most 1048576: NARROWER than '..Said'. Prove '..Said' where nothing that the law and all that it calls make is longer than what came in: it says more and counts as full. Else prove '..UptoSaid'. A law counts once. -/
mutual
def uptoBulk {H : Type} : DataW H → Nat
  | .lit (.string bytes) => bytes.length + 1
  | .lit _ => 1
  | .nil => 1
  | .ptr d => uptoBulk d + 1
  | .slice elems spare => uptoBulkAll elems + uptoBulkAll spare + 1
  | .agg parts => uptoBulkAll parts + 1
  | .iface _ d => uptoBulk d + 1
  | .map entries => uptoBulkEntries entries + 1
  | .held _ => 1
def uptoBulkAll {H : Type} : List (DataW H) → Nat
  | [] => 0
  | d :: r => uptoBulk d + uptoBulkAll r
def uptoBulkEntries {H : Type} : List (Lit × DataW H) → Nat
  | [] => 0
  | x :: r => uptoBulkEntry x + uptoBulkEntries r
def uptoBulkEntry {H : Type} : Lit × DataW H → Nat
  | (.string bytes, d) => bytes.length + uptoBulk d + 1
  | (_, d) => uptoBulk d + 1
 end
def uptoSmall : (H : Type) → List (DataW H) → Bool := fun _ ds => decide (uptoBulkAll ds ≤ 1048576)
def OpenSpec.upto (s : _root_.Go.ChangeSpec) : _root_.Go.OpenSpec := { _root_.Go.OpenSpec.ofChange s with cond := some uptoSmall }

/-- 'tumuluslaw16.HandlePlays', WHERE WHAT IT READS IS OF BULK AT MOST 1048576: true; the input reads as it did. -/
def handlePlaysUptoRow : OpenClaim := { program := "ytglpoffbkkdjiaagreat", sum := "8bae52e9c66ca214702b6fc2226f4ce9342963d2abf758449962b41b455008f7", func := "tumulus/tumuluslaw16.HandlePlays", spec := "handlePlays", unfollowed := true, recurses := true, apart := false, narrowed := true }
def HandlePlaysUptoSaid : Prop := handlePlaysUptoRow.holds Tryz.pinned (OpenSpec.upto handlePlaysSpec)

/-- 'tumuluslaw16.HandleApart', WHERE WHAT IT READS IS OF BULK AT MOST 1048576: true; the input reads as it did. -/
def handleApartUptoRow : OpenClaim := { program := "ytglpoffbkkdjiaagreat", sum := "8bae52e9c66ca214702b6fc2226f4ce9342963d2abf758449962b41b455008f7", func := "tumulus/tumuluslaw16.HandleApart", spec := "handleApart", unfollowed := true, recurses := true, apart := false, narrowed := true }
def HandleApartUptoSaid : Prop := handleApartUptoRow.holds Tryz.pinned (OpenSpec.upto handleApartSpec)

/-- 'tumuluslaw16.HandleMoves', WHERE WHAT IT READS IS OF BULK AT MOST 1048576: true; the input reads as it did. -/
def handleMovesUptoRow : OpenClaim := { program := "ytglpoffbkkdjiaagreat", sum := "8bae52e9c66ca214702b6fc2226f4ce9342963d2abf758449962b41b455008f7", func := "tumulus/tumuluslaw16.HandleMoves", spec := "handleMoves", unfollowed := true, recurses := true, apart := false, narrowed := true }
def HandleMovesUptoSaid : Prop := handleMovesUptoRow.holds Tryz.pinned (OpenSpec.upto handleMovesSpec)

/-- 'tumuluslaw16.HandleRises', WHERE WHAT IT READS IS OF BULK AT MOST 1048576: true; the input reads as it did. -/
def handleRisesUptoRow : OpenClaim := { program := "ytglpoffbkkdjiaagreat", sum := "8bae52e9c66ca214702b6fc2226f4ce9342963d2abf758449962b41b455008f7", func := "tumulus/tumuluslaw16.HandleRises", spec := "handleRises", unfollowed := true, recurses := true, apart := false, narrowed := true }
def HandleRisesUptoSaid : Prop := handleRisesUptoRow.holds Tryz.pinned (OpenSpec.upto handleRisesSpec)

end Rows
end Go.Proofs.YtglpoffbkkdjiaaGreat
