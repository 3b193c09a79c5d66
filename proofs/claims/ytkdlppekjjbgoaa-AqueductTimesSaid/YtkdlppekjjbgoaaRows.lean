/-
  No cell of these rows narrows 'for every input' (looked for: loops, veiled, ifaces, maps, wideKeys, modest, calm, conditions, laid).
  DERIVED. THE GIVEN ROWS OF THIS SEAT. 12 by the template 'for every input the law returns true; each argument reads behind the call as it read before'; 0 by the template 'total and deterministic' (their statements: YtkdlppekjjbgoaaTotals.lean).
  GIVEN WITH THE SEED: the statements are not yours to turn. If you find one false, say at which input.
  Laid BY PROGRAM, IN A SANDBOX (cutbox-rows.mjs): the forced cells as the released guide's own fill.sh prints them over the translation c9107bc41980ab9c… (all of the seat's roots in one cut). By AI agents, Wed Nov 11 2026. No macro, syntax, notation, axiom, sorry.
-/
import Derived.Test.YtkdlppekjjbgoaaChecked
import GoSem.Claim
import GoSem.ClaimJoined
import GoSem.ClaimMapViews
import Derived.JoinedTies
import Derived.KernelRfl
namespace Go.Proofs.Ytkdlppekjjbgoaa
/- THE CELL 'sum', in the pinned program and in every row, IS THE sha256 OF THE DUMP (.gsa) THAT YtkdlppekjjbgoaaProg.lean LOADS. Nothing in Lean hashes anything: it is a label: what it is worth is what the hold of that sum in a sandbox is worth. -/
noncomputable def Try.pinned : Pinned := { name := "ytkdlppekjjbgoaa", sum := "c9107bc41980ab9cb6b99e735b7550478343a7de16c1bb431a5b90b4051a4763", checked := Try.checked }
namespace Rows
def none {H : Type} : Left H := { results := [], args := [] }

/-- 'steeninglaw06.AqueductEach': WHATEVER THE INPUT: true; the input reads as it did. -/
def aqueductEachSpec : ChangeSpec := { name := "aqueductEach", fn := fun _ => fun
  | [d1, d2] => { results := [.lit (.bool true)], args := [d1, d2] }
  | _ => none }
def aqueductEachRow : OpenClaim := { program := "ytkdlppekjjbgoaa", sum := "c9107bc41980ab9cb6b99e735b7550478343a7de16c1bb431a5b90b4051a4763", func := "steening/steeninglaw06.AqueductEach", spec := "aqueductEach", unfollowed := true, recurses := true, apart := false }
def AqueductEachSaid : Prop := aqueductEachRow.holds Try.pinned (OpenSpec.ofChange aqueductEachSpec)

/-- ITS FALSE NEIGHBOUR: 'it returns false'. Refute it at one input. -/
def aqueductEachWrong : ChangeSpec := { name := "aqueductEach", fn := fun _ => fun
  | [d1, d2] => { results := [.lit (.bool false)], args := [d1, d2] }
  | _ => none }
def AqueductEachWrongFalsely : Prop := aqueductEachRow.holds Try.pinned (OpenSpec.ofChange aqueductEachWrong)

/-- 'steeninglaw06.AqueductMore': WHATEVER THE INPUT: true; the input reads as it did. -/
def aqueductMoreSpec : ChangeSpec := { name := "aqueductMore", fn := fun _ => fun
  | [d1, d2] => { results := [.lit (.bool true)], args := [d1, d2] }
  | _ => none }
def aqueductMoreRow : OpenClaim := { program := "ytkdlppekjjbgoaa", sum := "c9107bc41980ab9cb6b99e735b7550478343a7de16c1bb431a5b90b4051a4763", func := "steening/steeninglaw06.AqueductMore", spec := "aqueductMore", unfollowed := true, recurses := true, apart := false }
def AqueductMoreSaid : Prop := aqueductMoreRow.holds Try.pinned (OpenSpec.ofChange aqueductMoreSpec)

/-- ITS FALSE NEIGHBOUR: 'it returns false'. Refute it at one input. -/
def aqueductMoreWrong : ChangeSpec := { name := "aqueductMore", fn := fun _ => fun
  | [d1, d2] => { results := [.lit (.bool false)], args := [d1, d2] }
  | _ => none }
def AqueductMoreWrongFalsely : Prop := aqueductMoreRow.holds Try.pinned (OpenSpec.ofChange aqueductMoreWrong)

/-- 'steeninglaw06.AqueductPaths': WHATEVER THE INPUT: true; the input reads as it did. -/
def aqueductPathsSpec : ChangeSpec := { name := "aqueductPaths", fn := fun _ => fun
  | [d1, d2] => { results := [.lit (.bool true)], args := [d1, d2] }
  | _ => none }
def aqueductPathsRow : OpenClaim := { program := "ytkdlppekjjbgoaa", sum := "c9107bc41980ab9cb6b99e735b7550478343a7de16c1bb431a5b90b4051a4763", func := "steening/steeninglaw06.AqueductPaths", spec := "aqueductPaths", unfollowed := true, recurses := true, apart := false }
def AqueductPathsSaid : Prop := aqueductPathsRow.holds Try.pinned (OpenSpec.ofChange aqueductPathsSpec)

/-- ITS FALSE NEIGHBOUR: 'it returns false'. Refute it at one input. -/
def aqueductPathsWrong : ChangeSpec := { name := "aqueductPaths", fn := fun _ => fun
  | [d1, d2] => { results := [.lit (.bool false)], args := [d1, d2] }
  | _ => none }
def AqueductPathsWrongFalsely : Prop := aqueductPathsRow.holds Try.pinned (OpenSpec.ofChange aqueductPathsWrong)

/-- 'steeninglaw06.AqueductFewer': WHATEVER THE INPUT: true; the input reads as it did. -/
def aqueductFewerSpec : ChangeSpec := { name := "aqueductFewer", fn := fun _ => fun
  | [d1, d2] => { results := [.lit (.bool true)], args := [d1, d2] }
  | _ => none }
def aqueductFewerRow : OpenClaim := { program := "ytkdlppekjjbgoaa", sum := "c9107bc41980ab9cb6b99e735b7550478343a7de16c1bb431a5b90b4051a4763", func := "steening/steeninglaw06.AqueductFewer", spec := "aqueductFewer", unfollowed := true, recurses := true, apart := false }
def AqueductFewerSaid : Prop := aqueductFewerRow.holds Try.pinned (OpenSpec.ofChange aqueductFewerSpec)

/-- ITS FALSE NEIGHBOUR: 'it returns false'. Refute it at one input. -/
def aqueductFewerWrong : ChangeSpec := { name := "aqueductFewer", fn := fun _ => fun
  | [d1, d2] => { results := [.lit (.bool false)], args := [d1, d2] }
  | _ => none }
def AqueductFewerWrongFalsely : Prop := aqueductFewerRow.holds Try.pinned (OpenSpec.ofChange aqueductFewerWrong)

/-- 'steeninglaw06.AqueductBack': WHATEVER THE INPUT: true; the input reads as it did. -/
def aqueductBackSpec : ChangeSpec := { name := "aqueductBack", fn := fun _ => fun
  | [d1, d2] => { results := [.lit (.bool true)], args := [d1, d2] }
  | _ => none }
def aqueductBackRow : OpenClaim := { program := "ytkdlppekjjbgoaa", sum := "c9107bc41980ab9cb6b99e735b7550478343a7de16c1bb431a5b90b4051a4763", func := "steening/steeninglaw06.AqueductBack", spec := "aqueductBack", unfollowed := true, recurses := true, apart := false }
def AqueductBackSaid : Prop := aqueductBackRow.holds Try.pinned (OpenSpec.ofChange aqueductBackSpec)

/-- ITS FALSE NEIGHBOUR: 'it returns false'. Refute it at one input. -/
def aqueductBackWrong : ChangeSpec := { name := "aqueductBack", fn := fun _ => fun
  | [d1, d2] => { results := [.lit (.bool false)], args := [d1, d2] }
  | _ => none }
def AqueductBackWrongFalsely : Prop := aqueductBackRow.holds Try.pinned (OpenSpec.ofChange aqueductBackWrong)

/-- 'steeninglaw06.AqueductTimes': WHATEVER THE INPUT: true; the input reads as it did. -/
def aqueductTimesSpec : ChangeSpec := { name := "aqueductTimes", fn := fun _ => fun
  | [d1, d2, d3] => { results := [.lit (.bool true)], args := [d1, d2, d3] }
  | _ => none }
def aqueductTimesRow : OpenClaim := { program := "ytkdlppekjjbgoaa", sum := "c9107bc41980ab9cb6b99e735b7550478343a7de16c1bb431a5b90b4051a4763", func := "steening/steeninglaw06.AqueductTimes", spec := "aqueductTimes", unfollowed := true, recurses := true, apart := false }
def AqueductTimesSaid : Prop := aqueductTimesRow.holds Try.pinned (OpenSpec.ofChange aqueductTimesSpec)

/-- ITS FALSE NEIGHBOUR: 'it returns false'. Refute it at one input. -/
def aqueductTimesWrong : ChangeSpec := { name := "aqueductTimes", fn := fun _ => fun
  | [d1, d2, d3] => { results := [.lit (.bool false)], args := [d1, d2, d3] }
  | _ => none }
def AqueductTimesWrongFalsely : Prop := aqueductTimesRow.holds Try.pinned (OpenSpec.ofChange aqueductTimesWrong)

/-- 'steeninglaw06.AqueductEven': WHATEVER THE INPUT: true; the input reads as it did. -/
def aqueductEvenSpec : ChangeSpec := { name := "aqueductEven", fn := fun _ => fun
  | [d1, d2, d3] => { results := [.lit (.bool true)], args := [d1, d2, d3] }
  | _ => none }
def aqueductEvenRow : OpenClaim := { program := "ytkdlppekjjbgoaa", sum := "c9107bc41980ab9cb6b99e735b7550478343a7de16c1bb431a5b90b4051a4763", func := "steening/steeninglaw06.AqueductEven", spec := "aqueductEven", unfollowed := true, recurses := true, apart := false }
def AqueductEvenSaid : Prop := aqueductEvenRow.holds Try.pinned (OpenSpec.ofChange aqueductEvenSpec)

/-- ITS FALSE NEIGHBOUR: 'it returns false'. Refute it at one input. -/
def aqueductEvenWrong : ChangeSpec := { name := "aqueductEven", fn := fun _ => fun
  | [d1, d2, d3] => { results := [.lit (.bool false)], args := [d1, d2, d3] }
  | _ => none }
def AqueductEvenWrongFalsely : Prop := aqueductEvenRow.holds Try.pinned (OpenSpec.ofChange aqueductEvenWrong)

/-- 'steeninglaw06.AqueductFree': WHATEVER THE INPUT: true; the input reads as it did. -/
def aqueductFreeSpec : ChangeSpec := { name := "aqueductFree", fn := fun _ => fun
  | [d1, d2] => { results := [.lit (.bool true)], args := [d1, d2] }
  | _ => none }
def aqueductFreeRow : OpenClaim := { program := "ytkdlppekjjbgoaa", sum := "c9107bc41980ab9cb6b99e735b7550478343a7de16c1bb431a5b90b4051a4763", func := "steening/steeninglaw06.AqueductFree", spec := "aqueductFree", unfollowed := true, recurses := true, apart := false }
def AqueductFreeSaid : Prop := aqueductFreeRow.holds Try.pinned (OpenSpec.ofChange aqueductFreeSpec)

/-- ITS FALSE NEIGHBOUR: 'it returns false'. Refute it at one input. -/
def aqueductFreeWrong : ChangeSpec := { name := "aqueductFree", fn := fun _ => fun
  | [d1, d2] => { results := [.lit (.bool false)], args := [d1, d2] }
  | _ => none }
def AqueductFreeWrongFalsely : Prop := aqueductFreeRow.holds Try.pinned (OpenSpec.ofChange aqueductFreeWrong)

/-- 'steeninglaw06.AqueductFlow': WHATEVER THE INPUT: true; the input reads as it did. -/
def aqueductFlowSpec : ChangeSpec := { name := "aqueductFlow", fn := fun _ => fun
  | [d1, d2] => { results := [.lit (.bool true)], args := [d1, d2] }
  | _ => none }
def aqueductFlowRow : OpenClaim := { program := "ytkdlppekjjbgoaa", sum := "c9107bc41980ab9cb6b99e735b7550478343a7de16c1bb431a5b90b4051a4763", func := "steening/steeninglaw06.AqueductFlow", spec := "aqueductFlow", unfollowed := true, recurses := true, apart := false }
def AqueductFlowSaid : Prop := aqueductFlowRow.holds Try.pinned (OpenSpec.ofChange aqueductFlowSpec)

/-- ITS FALSE NEIGHBOUR: 'it returns false'. Refute it at one input. -/
def aqueductFlowWrong : ChangeSpec := { name := "aqueductFlow", fn := fun _ => fun
  | [d1, d2] => { results := [.lit (.bool false)], args := [d1, d2] }
  | _ => none }
def AqueductFlowWrongFalsely : Prop := aqueductFlowRow.holds Try.pinned (OpenSpec.ofChange aqueductFlowWrong)

/-- 'steeninglaw06.AqueductLoss': WHATEVER THE INPUT: true; the input reads as it did. -/
def aqueductLossSpec : ChangeSpec := { name := "aqueductLoss", fn := fun _ => fun
  | [d1, d2] => { results := [.lit (.bool true)], args := [d1, d2] }
  | _ => none }
def aqueductLossRow : OpenClaim := { program := "ytkdlppekjjbgoaa", sum := "c9107bc41980ab9cb6b99e735b7550478343a7de16c1bb431a5b90b4051a4763", func := "steening/steeninglaw06.AqueductLoss", spec := "aqueductLoss", unfollowed := true, recurses := true, apart := false }
def AqueductLossSaid : Prop := aqueductLossRow.holds Try.pinned (OpenSpec.ofChange aqueductLossSpec)

/-- ITS FALSE NEIGHBOUR: 'it returns false'. Refute it at one input. -/
def aqueductLossWrong : ChangeSpec := { name := "aqueductLoss", fn := fun _ => fun
  | [d1, d2] => { results := [.lit (.bool false)], args := [d1, d2] }
  | _ => none }
def AqueductLossWrongFalsely : Prop := aqueductLossRow.holds Try.pinned (OpenSpec.ofChange aqueductLossWrong)

/-- 'steeninglaw06.AqueductWorst': WHATEVER THE INPUT: true; the input reads as it did. -/
def aqueductWorstSpec : ChangeSpec := { name := "aqueductWorst", fn := fun _ => fun
  | [d1, d2, d3] => { results := [.lit (.bool true)], args := [d1, d2, d3] }
  | _ => none }
def aqueductWorstRow : OpenClaim := { program := "ytkdlppekjjbgoaa", sum := "c9107bc41980ab9cb6b99e735b7550478343a7de16c1bb431a5b90b4051a4763", func := "steening/steeninglaw06.AqueductWorst", spec := "aqueductWorst", unfollowed := true, recurses := true, apart := false }
def AqueductWorstSaid : Prop := aqueductWorstRow.holds Try.pinned (OpenSpec.ofChange aqueductWorstSpec)

/-- ITS FALSE NEIGHBOUR: 'it returns false'. Refute it at one input. -/
def aqueductWorstWrong : ChangeSpec := { name := "aqueductWorst", fn := fun _ => fun
  | [d1, d2, d3] => { results := [.lit (.bool false)], args := [d1, d2, d3] }
  | _ => none }
def AqueductWorstWrongFalsely : Prop := aqueductWorstRow.holds Try.pinned (OpenSpec.ofChange aqueductWorstWrong)

/-- 'steeninglaw06.AqueductPath': WHATEVER THE INPUT: true; the input reads as it did. -/
def aqueductPathSpec : ChangeSpec := { name := "aqueductPath", fn := fun _ => fun
  | [d1, d2, d3] => { results := [.lit (.bool true)], args := [d1, d2, d3] }
  | _ => none }
def aqueductPathRow : OpenClaim := { program := "ytkdlppekjjbgoaa", sum := "c9107bc41980ab9cb6b99e735b7550478343a7de16c1bb431a5b90b4051a4763", func := "steening/steeninglaw06.AqueductPath", spec := "aqueductPath", unfollowed := true, recurses := true, apart := false }
def AqueductPathSaid : Prop := aqueductPathRow.holds Try.pinned (OpenSpec.ofChange aqueductPathSpec)

/-- ITS FALSE NEIGHBOUR: 'it returns false'. Refute it at one input. -/
def aqueductPathWrong : ChangeSpec := { name := "aqueductPath", fn := fun _ => fun
  | [d1, d2, d3] => { results := [.lit (.bool false)], args := [d1, d2, d3] }
  | _ => none }
def AqueductPathWrongFalsely : Prop := aqueductPathRow.holds Try.pinned (OpenSpec.ofChange aqueductPathWrong)

/- THE SECOND FORM. 'bulk': how many values and letters a reading holds, each counted each time it is reached (what is shared counts as often as it is met; a slice's spare places count too). A statement '..UptoSaid' is the law's where the arguments, and the package variables that the reading takes, are together of bulk at most 1048576: NARROWER than '..Said'. Prove '..Said' where nothing that the law and all that it calls make is longer than what came in: it says more and counts as full. Else prove '..UptoSaid'. A law counts once. -/
mutual
def uptoBulk {H : Type} : DataW H → Nat
  | .lit (.string bytes) => bytes.length + 1
  | .lit _ => 1
  | .nil => 1
  | .ptr d => uptoBulk d + 1
  | .slice elems spare => uptoBulkAll elems + uptoBulkAll spare + 1
  | .agg parts => uptoBulkAll parts + 1
  | .iface _ d => uptoBulk d + 1
  | .map entries => uptoBulkEntries entries + 1
  | .held _ => 1
def uptoBulkAll {H : Type} : List (DataW H) → Nat
  | [] => 0
  | d :: r => uptoBulk d + uptoBulkAll r
def uptoBulkEntries {H : Type} : List (Lit × DataW H) → Nat
  | [] => 0
  | x :: r => uptoBulkEntry x + uptoBulkEntries r
def uptoBulkEntry {H : Type} : Lit × DataW H → Nat
  | (.string bytes, d) => bytes.length + uptoBulk d + 1
  | (_, d) => uptoBulk d + 1
 end
def uptoSmall : (H : Type) → List (DataW H) → Bool := fun _ ds => decide (uptoBulkAll ds ≤ 1048576)
def OpenSpec.upto (s : _root_.Go.ChangeSpec) : _root_.Go.OpenSpec := { _root_.Go.OpenSpec.ofChange s with cond := some uptoSmall }

/-- 'steeninglaw06.AqueductEach', WHERE WHAT IT READS IS OF BULK AT MOST 1048576: true; the input reads as it did. -/
def aqueductEachUptoRow : OpenClaim := { program := "ytkdlppekjjbgoaa", sum := "c9107bc41980ab9cb6b99e735b7550478343a7de16c1bb431a5b90b4051a4763", func := "steening/steeninglaw06.AqueductEach", spec := "aqueductEach", unfollowed := true, recurses := true, apart := false, narrowed := true }
def AqueductEachUptoSaid : Prop := aqueductEachUptoRow.holds Try.pinned (OpenSpec.upto aqueductEachSpec)

/-- 'steeninglaw06.AqueductMore', WHERE WHAT IT READS IS OF BULK AT MOST 1048576: true; the input reads as it did. -/
def aqueductMoreUptoRow : OpenClaim := { program := "ytkdlppekjjbgoaa", sum := "c9107bc41980ab9cb6b99e735b7550478343a7de16c1bb431a5b90b4051a4763", func := "steening/steeninglaw06.AqueductMore", spec := "aqueductMore", unfollowed := true, recurses := true, apart := false, narrowed := true }
def AqueductMoreUptoSaid : Prop := aqueductMoreUptoRow.holds Try.pinned (OpenSpec.upto aqueductMoreSpec)

/-- 'steeninglaw06.AqueductPaths', WHERE WHAT IT READS IS OF BULK AT MOST 1048576: true; the input reads as it did. -/
def aqueductPathsUptoRow : OpenClaim := { program := "ytkdlppekjjbgoaa", sum := "c9107bc41980ab9cb6b99e735b7550478343a7de16c1bb431a5b90b4051a4763", func := "steening/steeninglaw06.AqueductPaths", spec := "aqueductPaths", unfollowed := true, recurses := true, apart := false, narrowed := true }
def AqueductPathsUptoSaid : Prop := aqueductPathsUptoRow.holds Try.pinned (OpenSpec.upto aqueductPathsSpec)

/-- 'steeninglaw06.AqueductFewer', WHERE WHAT IT READS IS OF BULK AT MOST 1048576: true; the input reads as it did. -/
def aqueductFewerUptoRow : OpenClaim := { program := "ytkdlppekjjbgoaa", sum := "c9107bc41980ab9cb6b99e735b7550478343a7de16c1bb431a5b90b4051a4763", func := "steening/steeninglaw06.AqueductFewer", spec := "aqueductFewer", unfollowed := true, recurses := true, apart := false, narrowed := true }
def AqueductFewerUptoSaid : Prop := aqueductFewerUptoRow.holds Try.pinned (OpenSpec.upto aqueductFewerSpec)

/-- 'steeninglaw06.AqueductBack', WHERE WHAT IT READS IS OF BULK AT MOST 1048576: true; the input reads as it did. -/
def aqueductBackUptoRow : OpenClaim := { program := "ytkdlppekjjbgoaa", sum := "c9107bc41980ab9cb6b99e735b7550478343a7de16c1bb431a5b90b4051a4763", func := "steening/steeninglaw06.AqueductBack", spec := "aqueductBack", unfollowed := true, recurses := true, apart := false, narrowed := true }
def AqueductBackUptoSaid : Prop := aqueductBackUptoRow.holds Try.pinned (OpenSpec.upto aqueductBackSpec)

/-- 'steeninglaw06.AqueductTimes', WHERE WHAT IT READS IS OF BULK AT MOST 1048576: true; the input reads as it did. -/
def aqueductTimesUptoRow : OpenClaim := { program := "ytkdlppekjjbgoaa", sum := "c9107bc41980ab9cb6b99e735b7550478343a7de16c1bb431a5b90b4051a4763", func := "steening/steeninglaw06.AqueductTimes", spec := "aqueductTimes", unfollowed := true, recurses := true, apart := false, narrowed := true }
def AqueductTimesUptoSaid : Prop := aqueductTimesUptoRow.holds Try.pinned (OpenSpec.upto aqueductTimesSpec)

/-- 'steeninglaw06.AqueductEven', WHERE WHAT IT READS IS OF BULK AT MOST 1048576: true; the input reads as it did. -/
def aqueductEvenUptoRow : OpenClaim := { program := "ytkdlppekjjbgoaa", sum := "c9107bc41980ab9cb6b99e735b7550478343a7de16c1bb431a5b90b4051a4763", func := "steening/steeninglaw06.AqueductEven", spec := "aqueductEven", unfollowed := true, recurses := true, apart := false, narrowed := true }
def AqueductEvenUptoSaid : Prop := aqueductEvenUptoRow.holds Try.pinned (OpenSpec.upto aqueductEvenSpec)

/-- 'steeninglaw06.AqueductFree', WHERE WHAT IT READS IS OF BULK AT MOST 1048576: true; the input reads as it did. -/
def aqueductFreeUptoRow : OpenClaim := { program := "ytkdlppekjjbgoaa", sum := "c9107bc41980ab9cb6b99e735b7550478343a7de16c1bb431a5b90b4051a4763", func := "steening/steeninglaw06.AqueductFree", spec := "aqueductFree", unfollowed := true, recurses := true, apart := false, narrowed := true }
def AqueductFreeUptoSaid : Prop := aqueductFreeUptoRow.holds Try.pinned (OpenSpec.upto aqueductFreeSpec)

/-- 'steeninglaw06.AqueductFlow', WHERE WHAT IT READS IS OF BULK AT MOST 1048576: true; the input reads as it did. -/
def aqueductFlowUptoRow : OpenClaim := { program := "ytkdlppekjjbgoaa", sum := "c9107bc41980ab9cb6b99e735b7550478343a7de16c1bb431a5b90b4051a4763", func := "steening/steeninglaw06.AqueductFlow", spec := "aqueductFlow", unfollowed := true, recurses := true, apart := false, narrowed := true }
def AqueductFlowUptoSaid : Prop := aqueductFlowUptoRow.holds Try.pinned (OpenSpec.upto aqueductFlowSpec)

/-- 'steeninglaw06.AqueductLoss', WHERE WHAT IT READS IS OF BULK AT MOST 1048576: true; the input reads as it did. -/
def aqueductLossUptoRow : OpenClaim := { program := "ytkdlppekjjbgoaa", sum := "c9107bc41980ab9cb6b99e735b7550478343a7de16c1bb431a5b90b4051a4763", func := "steening/steeninglaw06.AqueductLoss", spec := "aqueductLoss", unfollowed := true, recurses := true, apart := false, narrowed := true }
def AqueductLossUptoSaid : Prop := aqueductLossUptoRow.holds Try.pinned (OpenSpec.upto aqueductLossSpec)

/-- 'steeninglaw06.AqueductWorst', WHERE WHAT IT READS IS OF BULK AT MOST 1048576: true; the input reads as it did. -/
def aqueductWorstUptoRow : OpenClaim := { program := "ytkdlppekjjbgoaa", sum := "c9107bc41980ab9cb6b99e735b7550478343a7de16c1bb431a5b90b4051a4763", func := "steening/steeninglaw06.AqueductWorst", spec := "aqueductWorst", unfollowed := true, recurses := true, apart := false, narrowed := true }
def AqueductWorstUptoSaid : Prop := aqueductWorstUptoRow.holds Try.pinned (OpenSpec.upto aqueductWorstSpec)

/-- 'steeninglaw06.AqueductPath', WHERE WHAT IT READS IS OF BULK AT MOST 1048576: true; the input reads as it did. -/
def aqueductPathUptoRow : OpenClaim := { program := "ytkdlppekjjbgoaa", sum := "c9107bc41980ab9cb6b99e735b7550478343a7de16c1bb431a5b90b4051a4763", func := "steening/steeninglaw06.AqueductPath", spec := "aqueductPath", unfollowed := true, recurses := true, apart := false, narrowed := true }
def AqueductPathUptoSaid : Prop := aqueductPathUptoRow.holds Try.pinned (OpenSpec.upto aqueductPathSpec)

end Rows
end Go.Proofs.Ytkdlppekjjbgoaa
