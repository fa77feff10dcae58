/-
  No cell of these rows narrows 'for every input' (looked for: loops, veiled, ifaces, maps, wideKeys, modest, calm, conditions, laid).
  DERIVED. THE GIVEN ROWS OF THIS SEAT. 4 by the template 'for every input the law returns true; each argument reads behind the call as it read before'; 0 by the template 'total and deterministic' (their statements: YtfiohbniojmfaaaGreatTotals.lean).
  GIVEN WITH THE SEED: the statements are not yours to turn. If you find one false, say at which input.
  Laid BY PROGRAM, IN A SANDBOX (cutbox-rows.mjs): the forced cells as the released guide's own fill.sh prints them over the translation 9dd7cc2fc139aaec… (all of the seat's roots in one cut). By AI agents, Wed Nov 11 2026. No macro, syntax, notation, axiom, sorry.
-/
import Derived.Test.YtfiohbniojmfaaaGreatChecked
import GoSem.Claim
import GoSem.ClaimJoined
import GoSem.ClaimMapViews
import Derived.JoinedTies
import Derived.KernelRfl
namespace Go.Proofs.YtfiohbniojmfaaaGreat
/- THE CELL 'sum', in the pinned program and in every row, IS THE sha256 OF THE DUMP (.gsa) THAT YtfiohbniojmfaaaGreatProg.lean LOADS. Nothing in Lean hashes anything: it is a label: what it is worth is what the hold of that sum in a sandbox is worth. -/
noncomputable def Tryz.pinned : Pinned := { name := "ytfiohbniojmfaaagreat", sum := "9dd7cc2fc139aaecd8e8ff1023357b28f4dd3de382cdc62039ac497c33888bda", checked := Tryz.checked }
namespace Rows
def none {H : Type} : Left H := { results := [], args := [] }

/-- 'tumuluslaw10.ObjectOf': WHATEVER THE INPUT: true; the input reads as it did. -/
def objectOfSpec : ChangeSpec := { name := "objectOf", fn := fun _ => fun
  | [d1, d2, d3, d4, d5, d6] => { results := [.lit (.bool true)], args := [d1, d2, d3, d4, d5, d6] }
  | _ => none }
def objectOfRow : OpenClaim := { program := "ytfiohbniojmfaaagreat", sum := "9dd7cc2fc139aaecd8e8ff1023357b28f4dd3de382cdc62039ac497c33888bda", func := "tumulus/tumuluslaw10.ObjectOf", spec := "objectOf", unfollowed := true, recurses := true, plainKeys := false, apart := false }
def ObjectOfSaid : Prop := objectOfRow.holds Tryz.pinned (OpenSpec.ofChange objectOfSpec)

/-- ITS FALSE NEIGHBOUR: 'it returns false'. Refute it at one input. -/
def objectOfWrong : ChangeSpec := { name := "objectOf", fn := fun _ => fun
  | [d1, d2, d3, d4, d5, d6] => { results := [.lit (.bool false)], args := [d1, d2, d3, d4, d5, d6] }
  | _ => none }
def ObjectOfWrongFalsely : Prop := objectOfRow.holds Tryz.pinned (OpenSpec.ofChange objectOfWrong)

/-- 'tumuluslaw10.ObjectFields': WHATEVER THE INPUT: true; the input reads as it did. -/
def objectFieldsSpec : ChangeSpec := { name := "objectFields", fn := fun _ => fun
  | [d1, d2, d3, d4, d5, d6, d7, d8] => { results := [.lit (.bool true)], args := [d1, d2, d3, d4, d5, d6, d7, d8] }
  | _ => none }
def objectFieldsRow : OpenClaim := { program := "ytfiohbniojmfaaagreat", sum := "9dd7cc2fc139aaecd8e8ff1023357b28f4dd3de382cdc62039ac497c33888bda", func := "tumulus/tumuluslaw10.ObjectFields", spec := "objectFields", unfollowed := true, recurses := true, plainKeys := false, apart := false }
def ObjectFieldsSaid : Prop := objectFieldsRow.holds Tryz.pinned (OpenSpec.ofChange objectFieldsSpec)

/-- ITS FALSE NEIGHBOUR: 'it returns false'. Refute it at one input. -/
def objectFieldsWrong : ChangeSpec := { name := "objectFields", fn := fun _ => fun
  | [d1, d2, d3, d4, d5, d6, d7, d8] => { results := [.lit (.bool false)], args := [d1, d2, d3, d4, d5, d6, d7, d8] }
  | _ => none }
def ObjectFieldsWrongFalsely : Prop := objectFieldsRow.holds Tryz.pinned (OpenSpec.ofChange objectFieldsWrong)

/-- 'tumuluslaw10.ObjectNames': WHATEVER THE INPUT: true; the input reads as it did. -/
def objectNamesSpec : ChangeSpec := { name := "objectNames", fn := fun _ => fun
  | [d1, d2, d3] => { results := [.lit (.bool true)], args := [d1, d2, d3] }
  | _ => none }
def objectNamesRow : OpenClaim := { program := "ytfiohbniojmfaaagreat", sum := "9dd7cc2fc139aaecd8e8ff1023357b28f4dd3de382cdc62039ac497c33888bda", func := "tumulus/tumuluslaw10.ObjectNames", spec := "objectNames", unfollowed := true, recurses := true, plainKeys := false, apart := false }
def ObjectNamesSaid : Prop := objectNamesRow.holds Tryz.pinned (OpenSpec.ofChange objectNamesSpec)

/-- ITS FALSE NEIGHBOUR: 'it returns false'. Refute it at one input. -/
def objectNamesWrong : ChangeSpec := { name := "objectNames", fn := fun _ => fun
  | [d1, d2, d3] => { results := [.lit (.bool false)], args := [d1, d2, d3] }
  | _ => none }
def ObjectNamesWrongFalsely : Prop := objectNamesRow.holds Tryz.pinned (OpenSpec.ofChange objectNamesWrong)

/-- 'tumuluslaw10.ObjectApart': WHATEVER THE INPUT: true; the input reads as it did. -/
def objectApartSpec : ChangeSpec := { name := "objectApart", fn := fun _ => fun
  | [d1, d2, d3] => { results := [.lit (.bool true)], args := [d1, d2, d3] }
  | _ => none }
def objectApartRow : OpenClaim := { program := "ytfiohbniojmfaaagreat", sum := "9dd7cc2fc139aaecd8e8ff1023357b28f4dd3de382cdc62039ac497c33888bda", func := "tumulus/tumuluslaw10.ObjectApart", spec := "objectApart", unfollowed := true, recurses := true, plainKeys := false, apart := false }
def ObjectApartSaid : Prop := objectApartRow.holds Tryz.pinned (OpenSpec.ofChange objectApartSpec)

/-- ITS FALSE NEIGHBOUR: 'it returns false'. Refute it at one input. -/
def objectApartWrong : ChangeSpec := { name := "objectApart", fn := fun _ => fun
  | [d1, d2, d3] => { results := [.lit (.bool false)], args := [d1, d2, d3] }
  | _ => none }
def ObjectApartWrongFalsely : Prop := objectApartRow.holds Tryz.pinned (OpenSpec.ofChange objectApartWrong)

/- THE SECOND FORM. 'bulk': how many values and letters a reading holds, each counted each time it is reached (what is shared counts as often as it is met; a slice's spare places count too). A statement '..UptoSaid' is the law's where the arguments, and the package variables that the reading takes, are together of bulk at most 1048576: NARROWER than '..Said'. Prove '..Said' where nothing that the law and all that it calls make is longer than what came in: it says more and counts as full. Else prove '..UptoSaid'. A law counts once. -/
mutual
def uptoBulk {H : Type} : DataW H → Nat
  | .lit (.string bytes) => bytes.length + 1
  | .lit _ => 1
  | .nil => 1
  | .ptr d => uptoBulk d + 1
  | .slice elems spare => uptoBulkAll elems + uptoBulkAll spare + 1
  | .agg parts => uptoBulkAll parts + 1
  | .iface _ d => uptoBulk d + 1
  | .map entries => uptoBulkEntries entries + 1
  | .held _ => 1
def uptoBulkAll {H : Type} : List (DataW H) → Nat
  | [] => 0
  | d :: r => uptoBulk d + uptoBulkAll r
def uptoBulkEntries {H : Type} : List (Lit × DataW H) → Nat
  | [] => 0
  | x :: r => uptoBulkEntry x + uptoBulkEntries r
def uptoBulkEntry {H : Type} : Lit × DataW H → Nat
  | (.string bytes, d) => bytes.length + uptoBulk d + 1
  | (_, d) => uptoBulk d + 1
 end
def uptoSmall : (H : Type) → List (DataW H) → Bool := fun _ ds => decide (uptoBulkAll ds ≤ 1048576)
def OpenSpec.upto (s : _root_.Go.ChangeSpec) : _root_.Go.OpenSpec := { _root_.Go.OpenSpec.ofChange s with cond := some uptoSmall }

/-- 'tumuluslaw10.ObjectOf', WHERE WHAT IT READS IS OF BULK AT MOST 1048576: true; the input reads as it did. -/
def objectOfUptoRow : OpenClaim := { program := "ytfiohbniojmfaaagreat", sum := "9dd7cc2fc139aaecd8e8ff1023357b28f4dd3de382cdc62039ac497c33888bda", func := "tumulus/tumuluslaw10.ObjectOf", spec := "objectOf", unfollowed := true, recurses := true, plainKeys := false, apart := false, narrowed := true }
def ObjectOfUptoSaid : Prop := objectOfUptoRow.holds Tryz.pinned (OpenSpec.upto objectOfSpec)

/-- 'tumuluslaw10.ObjectFields', WHERE WHAT IT READS IS OF BULK AT MOST 1048576: true; the input reads as it did. -/
def objectFieldsUptoRow : OpenClaim := { program := "ytfiohbniojmfaaagreat", sum := "9dd7cc2fc139aaecd8e8ff1023357b28f4dd3de382cdc62039ac497c33888bda", func := "tumulus/tumuluslaw10.ObjectFields", spec := "objectFields", unfollowed := true, recurses := true, plainKeys := false, apart := false, narrowed := true }
def ObjectFieldsUptoSaid : Prop := objectFieldsUptoRow.holds Tryz.pinned (OpenSpec.upto objectFieldsSpec)

/-- 'tumuluslaw10.ObjectNames', WHERE WHAT IT READS IS OF BULK AT MOST 1048576: true; the input reads as it did. -/
def objectNamesUptoRow : OpenClaim := { program := "ytfiohbniojmfaaagreat", sum := "9dd7cc2fc139aaecd8e8ff1023357b28f4dd3de382cdc62039ac497c33888bda", func := "tumulus/tumuluslaw10.ObjectNames", spec := "objectNames", unfollowed := true, recurses := true, plainKeys := false, apart := false, narrowed := true }
def ObjectNamesUptoSaid : Prop := objectNamesUptoRow.holds Tryz.pinned (OpenSpec.upto objectNamesSpec)

/-- 'tumuluslaw10.ObjectApart', WHERE WHAT IT READS IS OF BULK AT MOST 1048576: true; the input reads as it did. -/
def objectApartUptoRow : OpenClaim := { program := "ytfiohbniojmfaaagreat", sum := "9dd7cc2fc139aaecd8e8ff1023357b28f4dd3de382cdc62039ac497c33888bda", func := "tumulus/tumuluslaw10.ObjectApart", spec := "objectApart", unfollowed := true, recurses := true, plainKeys := false, apart := false, narrowed := true }
def ObjectApartUptoSaid : Prop := objectApartUptoRow.holds Tryz.pinned (OpenSpec.upto objectApartSpec)

end Rows
end Go.Proofs.YtfiohbniojmfaaaGreat
