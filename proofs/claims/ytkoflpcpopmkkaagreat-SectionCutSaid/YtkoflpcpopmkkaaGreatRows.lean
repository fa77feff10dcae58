/-
  No cell of these rows narrows 'for every input' (looked for: loops, veiled, ifaces, maps, wideKeys, modest, calm, conditions, laid).
  DERIVED. THE GIVEN ROWS OF THIS SEAT. 7 by the template 'for every input the law returns true; each argument reads behind the call as it read before'; 0 by the template 'total and deterministic' (their statements: YtkoflpcpopmkkaaGreatTotals.lean).
  GIVEN WITH THE SEED: the statements are not yours to turn. If you find one false, say at which input.
  Laid BY PROGRAM, IN A SANDBOX (cutbox-rows.mjs): the forced cells as the released guide's own fill.sh prints them over the translation fd8c3654deb4ab2b… (all of the seat's roots in one cut). By AI agents, Wed Nov 11 2026. No macro, syntax, notation, axiom, sorry.
-/
import Derived.Test.YtkoflpcpopmkkaaGreatChecked
import GoSem.Claim
import GoSem.ClaimJoined
import GoSem.ClaimMapViews
import Derived.JoinedTies
import Derived.KernelRfl
namespace Go.Proofs.YtkoflpcpopmkkaaGreat
/- THE CELL 'sum', in the pinned program and in every row, IS THE sha256 OF THE DUMP (.gsa) THAT YtkoflpcpopmkkaaGreatProg.lean LOADS. Nothing in Lean hashes anything: it is a label: what it is worth is what the hold of that sum in a sandbox is worth. -/
noncomputable def Tryz.pinned : Pinned := { name := "ytkoflpcpopmkkaagreat", sum := "fd8c3654deb4ab2b3df6f3481c77b55321d644353e988689e5caba805598e2fe", checked := Tryz.checked }
namespace Rows
def none {H : Type} : Left H := { results := [], args := [] }

/-- 'tumuluslaw07.SectionCut': WHATEVER THE INPUT: true; the input reads as it did. -/
def sectionCutSpec : ChangeSpec := { name := "sectionCut", fn := fun _ => fun
  | [d1, d2, d3, d4, d5] => { results := [.lit (.bool true)], args := [d1, d2, d3, d4, d5] }
  | _ => none }
def sectionCutRow : OpenClaim := { program := "ytkoflpcpopmkkaagreat", sum := "fd8c3654deb4ab2b3df6f3481c77b55321d644353e988689e5caba805598e2fe", func := "tumulus/tumuluslaw07.SectionCut", spec := "sectionCut", unfollowed := true, recurses := true, apart := false }
def SectionCutSaid : Prop := sectionCutRow.holds Tryz.pinned (OpenSpec.ofChange sectionCutSpec)

/-- ITS FALSE NEIGHBOUR: 'it returns false'. Refute it at one input. -/
def sectionCutWrong : ChangeSpec := { name := "sectionCut", fn := fun _ => fun
  | [d1, d2, d3, d4, d5] => { results := [.lit (.bool false)], args := [d1, d2, d3, d4, d5] }
  | _ => none }
def SectionCutWrongFalsely : Prop := sectionCutRow.holds Tryz.pinned (OpenSpec.ofChange sectionCutWrong)

/-- 'tumuluslaw07.SectionOnce': WHATEVER THE INPUT: true; the input reads as it did. -/
def sectionOnceSpec : ChangeSpec := { name := "sectionOnce", fn := fun _ => fun
  | [d1, d2, d3] => { results := [.lit (.bool true)], args := [d1, d2, d3] }
  | _ => none }
def sectionOnceRow : OpenClaim := { program := "ytkoflpcpopmkkaagreat", sum := "fd8c3654deb4ab2b3df6f3481c77b55321d644353e988689e5caba805598e2fe", func := "tumulus/tumuluslaw07.SectionOnce", spec := "sectionOnce", unfollowed := true, recurses := true, apart := false }
def SectionOnceSaid : Prop := sectionOnceRow.holds Tryz.pinned (OpenSpec.ofChange sectionOnceSpec)

/-- ITS FALSE NEIGHBOUR: 'it returns false'. Refute it at one input. -/
def sectionOnceWrong : ChangeSpec := { name := "sectionOnce", fn := fun _ => fun
  | [d1, d2, d3] => { results := [.lit (.bool false)], args := [d1, d2, d3] }
  | _ => none }
def SectionOnceWrongFalsely : Prop := sectionOnceRow.holds Tryz.pinned (OpenSpec.ofChange sectionOnceWrong)

/-- 'tumuluslaw08.RootsReads': WHATEVER THE INPUT: true; the input reads as it did. -/
def rootsReadsSpec : ChangeSpec := { name := "rootsReads", fn := fun _ => fun
  | [d1, d2, d3, d4, d5, d6] => { results := [.lit (.bool true)], args := [d1, d2, d3, d4, d5, d6] }
  | _ => none }
def rootsReadsRow : OpenClaim := { program := "ytkoflpcpopmkkaagreat", sum := "fd8c3654deb4ab2b3df6f3481c77b55321d644353e988689e5caba805598e2fe", func := "tumulus/tumuluslaw08.RootsReads", spec := "rootsReads", unfollowed := true, recurses := true, apart := false }
def RootsReadsSaid : Prop := rootsReadsRow.holds Tryz.pinned (OpenSpec.ofChange rootsReadsSpec)

/-- ITS FALSE NEIGHBOUR: 'it returns false'. Refute it at one input. -/
def rootsReadsWrong : ChangeSpec := { name := "rootsReads", fn := fun _ => fun
  | [d1, d2, d3, d4, d5, d6] => { results := [.lit (.bool false)], args := [d1, d2, d3, d4, d5, d6] }
  | _ => none }
def RootsReadsWrongFalsely : Prop := rootsReadsRow.holds Tryz.pinned (OpenSpec.ofChange rootsReadsWrong)

/-- 'tumuluslaw08.RootsWrites': WHATEVER THE INPUT: true; the input reads as it did. -/
def rootsWritesSpec : ChangeSpec := { name := "rootsWrites", fn := fun _ => fun
  | [d1, d2, d3, d4, d5, d6] => { results := [.lit (.bool true)], args := [d1, d2, d3, d4, d5, d6] }
  | _ => none }
def rootsWritesRow : OpenClaim := { program := "ytkoflpcpopmkkaagreat", sum := "fd8c3654deb4ab2b3df6f3481c77b55321d644353e988689e5caba805598e2fe", func := "tumulus/tumuluslaw08.RootsWrites", spec := "rootsWrites", unfollowed := true, recurses := true, apart := false }
def RootsWritesSaid : Prop := rootsWritesRow.holds Tryz.pinned (OpenSpec.ofChange rootsWritesSpec)

/-- ITS FALSE NEIGHBOUR: 'it returns false'. Refute it at one input. -/
def rootsWritesWrong : ChangeSpec := { name := "rootsWrites", fn := fun _ => fun
  | [d1, d2, d3, d4, d5, d6] => { results := [.lit (.bool false)], args := [d1, d2, d3, d4, d5, d6] }
  | _ => none }
def RootsWritesWrongFalsely : Prop := rootsWritesRow.holds Tryz.pinned (OpenSpec.ofChange rootsWritesWrong)

/-- 'tumuluslaw08.RootsBack': WHATEVER THE INPUT: true; the input reads as it did. -/
def rootsBackSpec : ChangeSpec := { name := "rootsBack", fn := fun _ => fun
  | [d1, d2, d3, d4] => { results := [.lit (.bool true)], args := [d1, d2, d3, d4] }
  | _ => none }
def rootsBackRow : OpenClaim := { program := "ytkoflpcpopmkkaagreat", sum := "fd8c3654deb4ab2b3df6f3481c77b55321d644353e988689e5caba805598e2fe", func := "tumulus/tumuluslaw08.RootsBack", spec := "rootsBack", unfollowed := true, recurses := true, apart := false }
def RootsBackSaid : Prop := rootsBackRow.holds Tryz.pinned (OpenSpec.ofChange rootsBackSpec)

/-- ITS FALSE NEIGHBOUR: 'it returns false'. Refute it at one input. -/
def rootsBackWrong : ChangeSpec := { name := "rootsBack", fn := fun _ => fun
  | [d1, d2, d3, d4] => { results := [.lit (.bool false)], args := [d1, d2, d3, d4] }
  | _ => none }
def RootsBackWrongFalsely : Prop := rootsBackRow.holds Tryz.pinned (OpenSpec.ofChange rootsBackWrong)

/-- 'tumuluslaw08.RootsSame': WHATEVER THE INPUT: true; the input reads as it did. -/
def rootsSameSpec : ChangeSpec := { name := "rootsSame", fn := fun _ => fun
  | [d1, d2, d3, d4] => { results := [.lit (.bool true)], args := [d1, d2, d3, d4] }
  | _ => none }
def rootsSameRow : OpenClaim := { program := "ytkoflpcpopmkkaagreat", sum := "fd8c3654deb4ab2b3df6f3481c77b55321d644353e988689e5caba805598e2fe", func := "tumulus/tumuluslaw08.RootsSame", spec := "rootsSame", unfollowed := true, recurses := true, apart := false }
def RootsSameSaid : Prop := rootsSameRow.holds Tryz.pinned (OpenSpec.ofChange rootsSameSpec)

/-- ITS FALSE NEIGHBOUR: 'it returns false'. Refute it at one input. -/
def rootsSameWrong : ChangeSpec := { name := "rootsSame", fn := fun _ => fun
  | [d1, d2, d3, d4] => { results := [.lit (.bool false)], args := [d1, d2, d3, d4] }
  | _ => none }
def RootsSameWrongFalsely : Prop := rootsSameRow.holds Tryz.pinned (OpenSpec.ofChange rootsSameWrong)

/-- 'tumuluslaw08.RootsHas': WHATEVER THE INPUT: true; the input reads as it did. -/
def rootsHasSpec : ChangeSpec := { name := "rootsHas", fn := fun _ => fun
  | [d1, d2, d3] => { results := [.lit (.bool true)], args := [d1, d2, d3] }
  | _ => none }
def rootsHasRow : OpenClaim := { program := "ytkoflpcpopmkkaagreat", sum := "fd8c3654deb4ab2b3df6f3481c77b55321d644353e988689e5caba805598e2fe", func := "tumulus/tumuluslaw08.RootsHas", spec := "rootsHas", unfollowed := true, recurses := true, apart := false }
def RootsHasSaid : Prop := rootsHasRow.holds Tryz.pinned (OpenSpec.ofChange rootsHasSpec)

/-- ITS FALSE NEIGHBOUR: 'it returns false'. Refute it at one input. -/
def rootsHasWrong : ChangeSpec := { name := "rootsHas", fn := fun _ => fun
  | [d1, d2, d3] => { results := [.lit (.bool false)], args := [d1, d2, d3] }
  | _ => none }
def RootsHasWrongFalsely : Prop := rootsHasRow.holds Tryz.pinned (OpenSpec.ofChange rootsHasWrong)

/- THE SECOND FORM. 'bulk': how many values and letters a reading holds, each counted each time it is reached (what is shared counts as often as it is met; a slice's spare places count too). A statement '..UptoSaid' is the law's where the arguments, and the package variables that the reading takes, are together of bulk at most 1048576: NARROWER than '..Said'. Prove '..Said' where nothing that the law and all that it calls make is longer than what came in: it says more and counts as full. Else prove '..UptoSaid'. A law counts once. -/
mutual
def uptoBulk {H : Type} : DataW H → Nat
  | .lit (.string bytes) => bytes.length + 1
  | .lit _ => 1
  | .nil => 1
  | .ptr d => uptoBulk d + 1
  | .slice elems spare => uptoBulkAll elems + uptoBulkAll spare + 1
  | .agg parts => uptoBulkAll parts + 1
  | .iface _ d => uptoBulk d + 1
  | .map entries => uptoBulkEntries entries + 1
  | .held _ => 1
def uptoBulkAll {H : Type} : List (DataW H) → Nat
  | [] => 0
  | d :: r => uptoBulk d + uptoBulkAll r
def uptoBulkEntries {H : Type} : List (Lit × DataW H) → Nat
  | [] => 0
  | x :: r => uptoBulkEntry x + uptoBulkEntries r
def uptoBulkEntry {H : Type} : Lit × DataW H → Nat
  | (.string bytes, d) => bytes.length + uptoBulk d + 1
  | (_, d) => uptoBulk d + 1
 end
def uptoSmall : (H : Type) → List (DataW H) → Bool := fun _ ds => decide (uptoBulkAll ds ≤ 1048576)
def OpenSpec.upto (s : _root_.Go.ChangeSpec) : _root_.Go.OpenSpec := { _root_.Go.OpenSpec.ofChange s with cond := some uptoSmall }

/-- 'tumuluslaw07.SectionCut', WHERE WHAT IT READS IS OF BULK AT MOST 1048576: true; the input reads as it did. -/
def sectionCutUptoRow : OpenClaim := { program := "ytkoflpcpopmkkaagreat", sum := "fd8c3654deb4ab2b3df6f3481c77b55321d644353e988689e5caba805598e2fe", func := "tumulus/tumuluslaw07.SectionCut", spec := "sectionCut", unfollowed := true, recurses := true, apart := false, narrowed := true }
def SectionCutUptoSaid : Prop := sectionCutUptoRow.holds Tryz.pinned (OpenSpec.upto sectionCutSpec)

/-- 'tumuluslaw07.SectionOnce', WHERE WHAT IT READS IS OF BULK AT MOST 1048576: true; the input reads as it did. -/
def sectionOnceUptoRow : OpenClaim := { program := "ytkoflpcpopmkkaagreat", sum := "fd8c3654deb4ab2b3df6f3481c77b55321d644353e988689e5caba805598e2fe", func := "tumulus/tumuluslaw07.SectionOnce", spec := "sectionOnce", unfollowed := true, recurses := true, apart := false, narrowed := true }
def SectionOnceUptoSaid : Prop := sectionOnceUptoRow.holds Tryz.pinned (OpenSpec.upto sectionOnceSpec)

/-- 'tumuluslaw08.RootsReads', WHERE WHAT IT READS IS OF BULK AT MOST 1048576: true; the input reads as it did. -/
def rootsReadsUptoRow : OpenClaim := { program := "ytkoflpcpopmkkaagreat", sum := "fd8c3654deb4ab2b3df6f3481c77b55321d644353e988689e5caba805598e2fe", func := "tumulus/tumuluslaw08.RootsReads", spec := "rootsReads", unfollowed := true, recurses := true, apart := false, narrowed := true }
def RootsReadsUptoSaid : Prop := rootsReadsUptoRow.holds Tryz.pinned (OpenSpec.upto rootsReadsSpec)

/-- 'tumuluslaw08.RootsWrites', WHERE WHAT IT READS IS OF BULK AT MOST 1048576: true; the input reads as it did. -/
def rootsWritesUptoRow : OpenClaim := { program := "ytkoflpcpopmkkaagreat", sum := "fd8c3654deb4ab2b3df6f3481c77b55321d644353e988689e5caba805598e2fe", func := "tumulus/tumuluslaw08.RootsWrites", spec := "rootsWrites", unfollowed := true, recurses := true, apart := false, narrowed := true }
def RootsWritesUptoSaid : Prop := rootsWritesUptoRow.holds Tryz.pinned (OpenSpec.upto rootsWritesSpec)

/-- 'tumuluslaw08.RootsBack', WHERE WHAT IT READS IS OF BULK AT MOST 1048576: true; the input reads as it did. -/
def rootsBackUptoRow : OpenClaim := { program := "ytkoflpcpopmkkaagreat", sum := "fd8c3654deb4ab2b3df6f3481c77b55321d644353e988689e5caba805598e2fe", func := "tumulus/tumuluslaw08.RootsBack", spec := "rootsBack", unfollowed := true, recurses := true, apart := false, narrowed := true }
def RootsBackUptoSaid : Prop := rootsBackUptoRow.holds Tryz.pinned (OpenSpec.upto rootsBackSpec)

/-- 'tumuluslaw08.RootsSame', WHERE WHAT IT READS IS OF BULK AT MOST 1048576: true; the input reads as it did. -/
def rootsSameUptoRow : OpenClaim := { program := "ytkoflpcpopmkkaagreat", sum := "fd8c3654deb4ab2b3df6f3481c77b55321d644353e988689e5caba805598e2fe", func := "tumulus/tumuluslaw08.RootsSame", spec := "rootsSame", unfollowed := true, recurses := true, apart := false, narrowed := true }
def RootsSameUptoSaid : Prop := rootsSameUptoRow.holds Tryz.pinned (OpenSpec.upto rootsSameSpec)

/-- 'tumuluslaw08.RootsHas', WHERE WHAT IT READS IS OF BULK AT MOST 1048576: true; the input reads as it did. -/
def rootsHasUptoRow : OpenClaim := { program := "ytkoflpcpopmkkaagreat", sum := "fd8c3654deb4ab2b3df6f3481c77b55321d644353e988689e5caba805598e2fe", func := "tumulus/tumuluslaw08.RootsHas", spec := "rootsHas", unfollowed := true, recurses := true, apart := false, narrowed := true }
def RootsHasUptoSaid : Prop := rootsHasUptoRow.holds Tryz.pinned (OpenSpec.upto rootsHasSpec)

end Rows
end Go.Proofs.YtkoflpcpopmkkaaGreat
