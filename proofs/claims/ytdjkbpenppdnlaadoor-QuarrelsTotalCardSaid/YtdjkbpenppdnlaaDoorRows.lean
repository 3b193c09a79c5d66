/-
  NARROWER THAN 'FOR EVERY INPUT', by the rows' own cells (each row's printed sentence says how): QuarrelsLeft: laid · QuarrelsHarms: laid · QuarrelsTotal: laid · QuarrelsFewest: laid · QuarrelsDecide: laid · QuarrelsDepth: laid · QuarrelsEach: laid · QuarrelsMore: laid · QuarrelsCover: laid · QuarrelsStep: laid · QuarrelsAlike: laid · QuarrelsSum: laid.
  DERIVED. THE GIVEN ROWS OF THIS SEAT. 12 by the template 'for every input the law returns true; each argument reads behind the call as it read before'; 0 by the template 'total and deterministic' (their statements: YtdjkbpenppdnlaaDoorTotals.lean).
  GIVEN WITH THE SEED: the statements are not yours to turn. If you find one false, say at which input.
  Laid BY PROGRAM, IN A SANDBOX (cutbox-rows.mjs): the forced cells as the released guide's own fill.sh prints them over the translation 581a0c684c302a05… (all of the seat's roots in one cut). By AI agents, Wed Nov 11 2026. No macro, syntax, notation, axiom, sorry.
-/
import Derived.Test.YtdjkbpenppdnlaaDoorChecked
import GoSem.Claim
import GoSem.ClaimJoined
import GoSem.ClaimMapViews
import Derived.JoinedTies
import Derived.KernelRfl
namespace Go.Proofs.YtdjkbpenppdnlaaDoor
/- THE CELL 'sum', in the pinned program and in every row, IS THE sha256 OF THE DUMP (.gsa) THAT YtdjkbpenppdnlaaDoorProg.lean LOADS. Nothing in Lean hashes anything: it is a label: what it is worth is what the hold of that sum in a sandbox is worth. -/
noncomputable def Tryd.pinned : Pinned := { name := "ytdjkbpenppdnlaadoor", sum := "581a0c684c302a056224cff07ac86c61bbbb306c2ecea8a9972c53445448af25", checked := Tryd.checked }
namespace Rows
def none {H : Type} : Left H := { results := [], args := [] }

/- WHAT THE LISTED PACKAGE-LEVEL VARIABLES READ AS WHEN THE CALL BEGINS. Each datum BY PROGRAM (the guide's laid-datum.mjs) off the statement by which the dump's own 'gosem.cut.vars' lays the variable. In a bare row this is a premise. The card (YtdjkbpenppdnlaaDoorCards.lean) ties it to the program's text. -/
def laid_math_bits_deBruijn32tab {H : Type} : DataW H := .agg [.lit (.int .u8 0), .lit (.int .u8 1), .lit (.int .u8 28), .lit (.int .u8 2), .lit (.int .u8 29), .lit (.int .u8 14), .lit (.int .u8 24), .lit (.int .u8 3), .lit (.int .u8 30), .lit (.int .u8 22), .lit (.int .u8 20), .lit (.int .u8 15), .lit (.int .u8 25), .lit (.int .u8 17), .lit (.int .u8 4), .lit (.int .u8 8), .lit (.int .u8 31), .lit (.int .u8 27), .lit (.int .u8 13), .lit (.int .u8 23), .lit (.int .u8 21), .lit (.int .u8 19), .lit (.int .u8 16), .lit (.int .u8 7), .lit (.int .u8 26), .lit (.int .u8 12), .lit (.int .u8 18), .lit (.int .u8 6), .lit (.int .u8 11), .lit (.int .u8 5), .lit (.int .u8 10), .lit (.int .u8 9)]
def laid_math_bits_deBruijn64tab {H : Type} : DataW H := .agg [.lit (.int .u8 0), .lit (.int .u8 1), .lit (.int .u8 56), .lit (.int .u8 2), .lit (.int .u8 57), .lit (.int .u8 49), .lit (.int .u8 28), .lit (.int .u8 3), .lit (.int .u8 61), .lit (.int .u8 58), .lit (.int .u8 42), .lit (.int .u8 50), .lit (.int .u8 38), .lit (.int .u8 29), .lit (.int .u8 17), .lit (.int .u8 4), .lit (.int .u8 62), .lit (.int .u8 47), .lit (.int .u8 59), .lit (.int .u8 36), .lit (.int .u8 45), .lit (.int .u8 43), .lit (.int .u8 51), .lit (.int .u8 22), .lit (.int .u8 53), .lit (.int .u8 39), .lit (.int .u8 33), .lit (.int .u8 30), .lit (.int .u8 24), .lit (.int .u8 18), .lit (.int .u8 12), .lit (.int .u8 5), .lit (.int .u8 63), .lit (.int .u8 55), .lit (.int .u8 48), .lit (.int .u8 27), .lit (.int .u8 60), .lit (.int .u8 41), .lit (.int .u8 37), .lit (.int .u8 16), .lit (.int .u8 46), .lit (.int .u8 35), .lit (.int .u8 44), .lit (.int .u8 21), .lit (.int .u8 52), .lit (.int .u8 32), .lit (.int .u8 23), .lit (.int .u8 11), .lit (.int .u8 54), .lit (.int .u8 26), .lit (.int .u8 40), .lit (.int .u8 15), .lit (.int .u8 34), .lit (.int .u8 20), .lit (.int .u8 31), .lit (.int .u8 10), .lit (.int .u8 25), .lit (.int .u8 14), .lit (.int .u8 19), .lit (.int .u8 9), .lit (.int .u8 13), .lit (.int .u8 8), .lit (.int .u8 7), .lit (.int .u8 6)]

/-- 'steeninglaw05.QuarrelsLeft': WHATEVER THE INPUT: true; the input reads as it did. -/
def quarrelsLeftSpec : ChangeSpec := { name := "quarrelsLeft", fn := fun _ => fun
  | [d1, d2] => { results := [.lit (.bool true)], args := [d1, d2] }
  | _ => none }
def quarrelsLeftRow : OpenClaim := { program := "ytdjkbpenppdnlaadoor", sum := "581a0c684c302a056224cff07ac86c61bbbb306c2ecea8a9972c53445448af25", func := "steening/steeninglaw05.QuarrelsLeft", spec := "quarrelsLeft", unfollowed := true, recurses := true, named := ["math/bits.deBruijn32tab", "math/bits.deBruijn64tab"], apart := false, laid := [("math/bits.deBruijn32tab", laid_math_bits_deBruijn32tab), ("math/bits.deBruijn64tab", laid_math_bits_deBruijn64tab)] }
def QuarrelsLeftSaid : Prop := quarrelsLeftRow.holds Tryd.pinned (OpenSpec.ofChange quarrelsLeftSpec)

/-- ITS FALSE NEIGHBOUR: 'it returns false'. Refute it at one input. -/
def quarrelsLeftWrong : ChangeSpec := { name := "quarrelsLeft", fn := fun _ => fun
  | [d1, d2] => { results := [.lit (.bool false)], args := [d1, d2] }
  | _ => none }
def QuarrelsLeftWrongFalsely : Prop := quarrelsLeftRow.holds Tryd.pinned (OpenSpec.ofChange quarrelsLeftWrong)

/-- 'steeninglaw05.QuarrelsHarms': WHATEVER THE INPUT: true; the input reads as it did. -/
def quarrelsHarmsSpec : ChangeSpec := { name := "quarrelsHarms", fn := fun _ => fun
  | [d1, d2] => { results := [.lit (.bool true)], args := [d1, d2] }
  | _ => none }
def quarrelsHarmsRow : OpenClaim := { program := "ytdjkbpenppdnlaadoor", sum := "581a0c684c302a056224cff07ac86c61bbbb306c2ecea8a9972c53445448af25", func := "steening/steeninglaw05.QuarrelsHarms", spec := "quarrelsHarms", unfollowed := true, recurses := true, named := ["math/bits.deBruijn32tab", "math/bits.deBruijn64tab"], apart := false, laid := [("math/bits.deBruijn32tab", laid_math_bits_deBruijn32tab), ("math/bits.deBruijn64tab", laid_math_bits_deBruijn64tab)] }
def QuarrelsHarmsSaid : Prop := quarrelsHarmsRow.holds Tryd.pinned (OpenSpec.ofChange quarrelsHarmsSpec)

/-- ITS FALSE NEIGHBOUR: 'it returns false'. Refute it at one input. -/
def quarrelsHarmsWrong : ChangeSpec := { name := "quarrelsHarms", fn := fun _ => fun
  | [d1, d2] => { results := [.lit (.bool false)], args := [d1, d2] }
  | _ => none }
def QuarrelsHarmsWrongFalsely : Prop := quarrelsHarmsRow.holds Tryd.pinned (OpenSpec.ofChange quarrelsHarmsWrong)

/-- 'steeninglaw05.QuarrelsTotal': WHATEVER THE INPUT: true; the input reads as it did. -/
def quarrelsTotalSpec : ChangeSpec := { name := "quarrelsTotal", fn := fun _ => fun
  | [d1, d2, d3] => { results := [.lit (.bool true)], args := [d1, d2, d3] }
  | _ => none }
def quarrelsTotalRow : OpenClaim := { program := "ytdjkbpenppdnlaadoor", sum := "581a0c684c302a056224cff07ac86c61bbbb306c2ecea8a9972c53445448af25", func := "steening/steeninglaw05.QuarrelsTotal", spec := "quarrelsTotal", unfollowed := true, recurses := true, named := ["math/bits.deBruijn32tab", "math/bits.deBruijn64tab"], apart := false, laid := [("math/bits.deBruijn32tab", laid_math_bits_deBruijn32tab), ("math/bits.deBruijn64tab", laid_math_bits_deBruijn64tab)] }
def QuarrelsTotalSaid : Prop := quarrelsTotalRow.holds Tryd.pinned (OpenSpec.ofChange quarrelsTotalSpec)

/-- ITS FALSE NEIGHBOUR: 'it returns false'. Refute it at one input. -/
def quarrelsTotalWrong : ChangeSpec := { name := "quarrelsTotal", fn := fun _ => fun
  | [d1, d2, d3] => { results := [.lit (.bool false)], args := [d1, d2, d3] }
  | _ => none }
def QuarrelsTotalWrongFalsely : Prop := quarrelsTotalRow.holds Tryd.pinned (OpenSpec.ofChange quarrelsTotalWrong)

/-- 'steeninglaw05.QuarrelsFewest': WHATEVER THE INPUT: true; the input reads as it did. -/
def quarrelsFewestSpec : ChangeSpec := { name := "quarrelsFewest", fn := fun _ => fun
  | [d1, d2] => { results := [.lit (.bool true)], args := [d1, d2] }
  | _ => none }
def quarrelsFewestRow : OpenClaim := { program := "ytdjkbpenppdnlaadoor", sum := "581a0c684c302a056224cff07ac86c61bbbb306c2ecea8a9972c53445448af25", func := "steening/steeninglaw05.QuarrelsFewest", spec := "quarrelsFewest", unfollowed := true, recurses := true, named := ["math/bits.deBruijn32tab", "math/bits.deBruijn64tab"], apart := false, laid := [("math/bits.deBruijn32tab", laid_math_bits_deBruijn32tab), ("math/bits.deBruijn64tab", laid_math_bits_deBruijn64tab)] }
def QuarrelsFewestSaid : Prop := quarrelsFewestRow.holds Tryd.pinned (OpenSpec.ofChange quarrelsFewestSpec)

/-- ITS FALSE NEIGHBOUR: 'it returns false'. Refute it at one input. -/
def quarrelsFewestWrong : ChangeSpec := { name := "quarrelsFewest", fn := fun _ => fun
  | [d1, d2] => { results := [.lit (.bool false)], args := [d1, d2] }
  | _ => none }
def QuarrelsFewestWrongFalsely : Prop := quarrelsFewestRow.holds Tryd.pinned (OpenSpec.ofChange quarrelsFewestWrong)

/-- 'steeninglaw05.QuarrelsDecide': WHATEVER THE INPUT: true; the input reads as it did. -/
def quarrelsDecideSpec : ChangeSpec := { name := "quarrelsDecide", fn := fun _ => fun
  | [d1, d2] => { results := [.lit (.bool true)], args := [d1, d2] }
  | _ => none }
def quarrelsDecideRow : OpenClaim := { program := "ytdjkbpenppdnlaadoor", sum := "581a0c684c302a056224cff07ac86c61bbbb306c2ecea8a9972c53445448af25", func := "steening/steeninglaw05.QuarrelsDecide", spec := "quarrelsDecide", unfollowed := true, recurses := true, named := ["math/bits.deBruijn32tab", "math/bits.deBruijn64tab"], apart := false, laid := [("math/bits.deBruijn32tab", laid_math_bits_deBruijn32tab), ("math/bits.deBruijn64tab", laid_math_bits_deBruijn64tab)] }
def QuarrelsDecideSaid : Prop := quarrelsDecideRow.holds Tryd.pinned (OpenSpec.ofChange quarrelsDecideSpec)

/-- ITS FALSE NEIGHBOUR: 'it returns false'. Refute it at one input. -/
def quarrelsDecideWrong : ChangeSpec := { name := "quarrelsDecide", fn := fun _ => fun
  | [d1, d2] => { results := [.lit (.bool false)], args := [d1, d2] }
  | _ => none }
def QuarrelsDecideWrongFalsely : Prop := quarrelsDecideRow.holds Tryd.pinned (OpenSpec.ofChange quarrelsDecideWrong)

/-- 'steeninglaw05.QuarrelsDepth': WHATEVER THE INPUT: true; the input reads as it did. -/
def quarrelsDepthSpec : ChangeSpec := { name := "quarrelsDepth", fn := fun _ => fun
  | [d] => { results := [.lit (.bool true)], args := [d] }
  | _ => none }
def quarrelsDepthRow : OpenClaim := { program := "ytdjkbpenppdnlaadoor", sum := "581a0c684c302a056224cff07ac86c61bbbb306c2ecea8a9972c53445448af25", func := "steening/steeninglaw05.QuarrelsDepth", spec := "quarrelsDepth", unfollowed := true, recurses := true, named := ["math/bits.deBruijn32tab", "math/bits.deBruijn64tab"], apart := false, laid := [("math/bits.deBruijn32tab", laid_math_bits_deBruijn32tab), ("math/bits.deBruijn64tab", laid_math_bits_deBruijn64tab)] }
def QuarrelsDepthSaid : Prop := quarrelsDepthRow.holds Tryd.pinned (OpenSpec.ofChange quarrelsDepthSpec)

/-- ITS FALSE NEIGHBOUR: 'it returns false'. Refute it at one input. -/
def quarrelsDepthWrong : ChangeSpec := { name := "quarrelsDepth", fn := fun _ => fun
  | [d] => { results := [.lit (.bool false)], args := [d] }
  | _ => none }
def QuarrelsDepthWrongFalsely : Prop := quarrelsDepthRow.holds Tryd.pinned (OpenSpec.ofChange quarrelsDepthWrong)

/-- 'steeninglaw05.QuarrelsEach': WHATEVER THE INPUT: true; the input reads as it did. -/
def quarrelsEachSpec : ChangeSpec := { name := "quarrelsEach", fn := fun _ => fun
  | [d1, d2, d3] => { results := [.lit (.bool true)], args := [d1, d2, d3] }
  | _ => none }
def quarrelsEachRow : OpenClaim := { program := "ytdjkbpenppdnlaadoor", sum := "581a0c684c302a056224cff07ac86c61bbbb306c2ecea8a9972c53445448af25", func := "steening/steeninglaw05.QuarrelsEach", spec := "quarrelsEach", unfollowed := true, recurses := true, named := ["math/bits.deBruijn32tab", "math/bits.deBruijn64tab"], apart := false, laid := [("math/bits.deBruijn32tab", laid_math_bits_deBruijn32tab), ("math/bits.deBruijn64tab", laid_math_bits_deBruijn64tab)] }
def QuarrelsEachSaid : Prop := quarrelsEachRow.holds Tryd.pinned (OpenSpec.ofChange quarrelsEachSpec)

/-- ITS FALSE NEIGHBOUR: 'it returns false'. Refute it at one input. -/
def quarrelsEachWrong : ChangeSpec := { name := "quarrelsEach", fn := fun _ => fun
  | [d1, d2, d3] => { results := [.lit (.bool false)], args := [d1, d2, d3] }
  | _ => none }
def QuarrelsEachWrongFalsely : Prop := quarrelsEachRow.holds Tryd.pinned (OpenSpec.ofChange quarrelsEachWrong)

/-- 'steeninglaw05.QuarrelsMore': WHATEVER THE INPUT: true; the input reads as it did. -/
def quarrelsMoreSpec : ChangeSpec := { name := "quarrelsMore", fn := fun _ => fun
  | [d1, d2, d3] => { results := [.lit (.bool true)], args := [d1, d2, d3] }
  | _ => none }
def quarrelsMoreRow : OpenClaim := { program := "ytdjkbpenppdnlaadoor", sum := "581a0c684c302a056224cff07ac86c61bbbb306c2ecea8a9972c53445448af25", func := "steening/steeninglaw05.QuarrelsMore", spec := "quarrelsMore", unfollowed := true, recurses := true, named := ["math/bits.deBruijn32tab", "math/bits.deBruijn64tab"], apart := false, laid := [("math/bits.deBruijn32tab", laid_math_bits_deBruijn32tab), ("math/bits.deBruijn64tab", laid_math_bits_deBruijn64tab)] }
def QuarrelsMoreSaid : Prop := quarrelsMoreRow.holds Tryd.pinned (OpenSpec.ofChange quarrelsMoreSpec)

/-- ITS FALSE NEIGHBOUR: 'it returns false'. Refute it at one input. -/
def quarrelsMoreWrong : ChangeSpec := { name := "quarrelsMore", fn := fun _ => fun
  | [d1, d2, d3] => { results := [.lit (.bool false)], args := [d1, d2, d3] }
  | _ => none }
def QuarrelsMoreWrongFalsely : Prop := quarrelsMoreRow.holds Tryd.pinned (OpenSpec.ofChange quarrelsMoreWrong)

/-- 'steeninglaw05.QuarrelsCover': WHATEVER THE INPUT: true; the input reads as it did. -/
def quarrelsCoverSpec : ChangeSpec := { name := "quarrelsCover", fn := fun _ => fun
  | [d1, d2] => { results := [.lit (.bool true)], args := [d1, d2] }
  | _ => none }
def quarrelsCoverRow : OpenClaim := { program := "ytdjkbpenppdnlaadoor", sum := "581a0c684c302a056224cff07ac86c61bbbb306c2ecea8a9972c53445448af25", func := "steening/steeninglaw05.QuarrelsCover", spec := "quarrelsCover", unfollowed := true, recurses := true, named := ["math/bits.deBruijn32tab", "math/bits.deBruijn64tab"], apart := false, laid := [("math/bits.deBruijn32tab", laid_math_bits_deBruijn32tab), ("math/bits.deBruijn64tab", laid_math_bits_deBruijn64tab)] }
def QuarrelsCoverSaid : Prop := quarrelsCoverRow.holds Tryd.pinned (OpenSpec.ofChange quarrelsCoverSpec)

/-- ITS FALSE NEIGHBOUR: 'it returns false'. Refute it at one input. -/
def quarrelsCoverWrong : ChangeSpec := { name := "quarrelsCover", fn := fun _ => fun
  | [d1, d2] => { results := [.lit (.bool false)], args := [d1, d2] }
  | _ => none }
def QuarrelsCoverWrongFalsely : Prop := quarrelsCoverRow.holds Tryd.pinned (OpenSpec.ofChange quarrelsCoverWrong)

/-- 'steeninglaw05.QuarrelsStep': WHATEVER THE INPUT: true; the input reads as it did. -/
def quarrelsStepSpec : ChangeSpec := { name := "quarrelsStep", fn := fun _ => fun
  | [d] => { results := [.lit (.bool true)], args := [d] }
  | _ => none }
def quarrelsStepRow : OpenClaim := { program := "ytdjkbpenppdnlaadoor", sum := "581a0c684c302a056224cff07ac86c61bbbb306c2ecea8a9972c53445448af25", func := "steening/steeninglaw05.QuarrelsStep", spec := "quarrelsStep", unfollowed := true, recurses := true, named := ["math/bits.deBruijn32tab", "math/bits.deBruijn64tab"], apart := false, laid := [("math/bits.deBruijn32tab", laid_math_bits_deBruijn32tab), ("math/bits.deBruijn64tab", laid_math_bits_deBruijn64tab)] }
def QuarrelsStepSaid : Prop := quarrelsStepRow.holds Tryd.pinned (OpenSpec.ofChange quarrelsStepSpec)

/-- ITS FALSE NEIGHBOUR: 'it returns false'. Refute it at one input. -/
def quarrelsStepWrong : ChangeSpec := { name := "quarrelsStep", fn := fun _ => fun
  | [d] => { results := [.lit (.bool false)], args := [d] }
  | _ => none }
def QuarrelsStepWrongFalsely : Prop := quarrelsStepRow.holds Tryd.pinned (OpenSpec.ofChange quarrelsStepWrong)

/-- 'steeninglaw05.QuarrelsAlike': WHATEVER THE INPUT: true; the input reads as it did. -/
def quarrelsAlikeSpec : ChangeSpec := { name := "quarrelsAlike", fn := fun _ => fun
  | [d1, d2, d3] => { results := [.lit (.bool true)], args := [d1, d2, d3] }
  | _ => none }
def quarrelsAlikeRow : OpenClaim := { program := "ytdjkbpenppdnlaadoor", sum := "581a0c684c302a056224cff07ac86c61bbbb306c2ecea8a9972c53445448af25", func := "steening/steeninglaw05.QuarrelsAlike", spec := "quarrelsAlike", unfollowed := true, recurses := true, named := ["math/bits.deBruijn32tab", "math/bits.deBruijn64tab"], apart := false, laid := [("math/bits.deBruijn32tab", laid_math_bits_deBruijn32tab), ("math/bits.deBruijn64tab", laid_math_bits_deBruijn64tab)] }
def QuarrelsAlikeSaid : Prop := quarrelsAlikeRow.holds Tryd.pinned (OpenSpec.ofChange quarrelsAlikeSpec)

/-- ITS FALSE NEIGHBOUR: 'it returns false'. Refute it at one input. -/
def quarrelsAlikeWrong : ChangeSpec := { name := "quarrelsAlike", fn := fun _ => fun
  | [d1, d2, d3] => { results := [.lit (.bool false)], args := [d1, d2, d3] }
  | _ => none }
def QuarrelsAlikeWrongFalsely : Prop := quarrelsAlikeRow.holds Tryd.pinned (OpenSpec.ofChange quarrelsAlikeWrong)

/-- 'steeninglaw05.QuarrelsSum': WHATEVER THE INPUT: true; the input reads as it did. -/
def quarrelsSumSpec : ChangeSpec := { name := "quarrelsSum", fn := fun _ => fun
  | [d1, d2, d3] => { results := [.lit (.bool true)], args := [d1, d2, d3] }
  | _ => none }
def quarrelsSumRow : OpenClaim := { program := "ytdjkbpenppdnlaadoor", sum := "581a0c684c302a056224cff07ac86c61bbbb306c2ecea8a9972c53445448af25", func := "steening/steeninglaw05.QuarrelsSum", spec := "quarrelsSum", unfollowed := true, recurses := true, named := ["math/bits.deBruijn32tab", "math/bits.deBruijn64tab"], apart := false, laid := [("math/bits.deBruijn32tab", laid_math_bits_deBruijn32tab), ("math/bits.deBruijn64tab", laid_math_bits_deBruijn64tab)] }
def QuarrelsSumSaid : Prop := quarrelsSumRow.holds Tryd.pinned (OpenSpec.ofChange quarrelsSumSpec)

/-- ITS FALSE NEIGHBOUR: 'it returns false'. Refute it at one input. -/
def quarrelsSumWrong : ChangeSpec := { name := "quarrelsSum", fn := fun _ => fun
  | [d1, d2, d3] => { results := [.lit (.bool false)], args := [d1, d2, d3] }
  | _ => none }
def QuarrelsSumWrongFalsely : Prop := quarrelsSumRow.holds Tryd.pinned (OpenSpec.ofChange quarrelsSumWrong)

/- THE SECOND FORM. 'bulk': how many values and letters a reading holds, each counted each time it is reached (what is shared counts as often as it is met; a slice's spare places count too). A statement '..UptoSaid' is the law's where the arguments, and the package variables that the reading takes, are together of bulk at most 1048576: NARROWER than '..Said'. Prove '..Said' where nothing that the law and all that it calls make is longer than what came in: it says more and counts as full. Else prove '..UptoSaid'. A law counts once. -/
mutual
def uptoBulk {H : Type} : DataW H → Nat
  | .lit (.string bytes) => bytes.length + 1
  | .lit _ => 1
  | .nil => 1
  | .ptr d => uptoBulk d + 1
  | .slice elems spare => uptoBulkAll elems + uptoBulkAll spare + 1
  | .agg parts => uptoBulkAll parts + 1
  | .iface _ d => uptoBulk d + 1
  | .map entries => uptoBulkEntries entries + 1
  | .held _ => 1
def uptoBulkAll {H : Type} : List (DataW H) → Nat
  | [] => 0
  | d :: r => uptoBulk d + uptoBulkAll r
def uptoBulkEntries {H : Type} : List (Lit × DataW H) → Nat
  | [] => 0
  | x :: r => uptoBulkEntry x + uptoBulkEntries r
def uptoBulkEntry {H : Type} : Lit × DataW H → Nat
  | (.string bytes, d) => bytes.length + uptoBulk d + 1
  | (_, d) => uptoBulk d + 1
 end
def uptoSmall : (H : Type) → List (DataW H) → Bool := fun _ ds => decide (uptoBulkAll ds ≤ 1048576)
def OpenSpec.upto (s : _root_.Go.ChangeSpec) : _root_.Go.OpenSpec := { _root_.Go.OpenSpec.ofChange s with cond := some uptoSmall }

/-- 'steeninglaw05.QuarrelsLeft', WHERE WHAT IT READS IS OF BULK AT MOST 1048576: true; the input reads as it did. -/
def quarrelsLeftUptoRow : OpenClaim := { program := "ytdjkbpenppdnlaadoor", sum := "581a0c684c302a056224cff07ac86c61bbbb306c2ecea8a9972c53445448af25", func := "steening/steeninglaw05.QuarrelsLeft", spec := "quarrelsLeft", unfollowed := true, recurses := true, named := ["math/bits.deBruijn32tab", "math/bits.deBruijn64tab"], apart := false, laid := [("math/bits.deBruijn32tab", laid_math_bits_deBruijn32tab), ("math/bits.deBruijn64tab", laid_math_bits_deBruijn64tab)], narrowed := true }
def QuarrelsLeftUptoSaid : Prop := quarrelsLeftUptoRow.holds Tryd.pinned (OpenSpec.upto quarrelsLeftSpec)

/-- 'steeninglaw05.QuarrelsHarms', WHERE WHAT IT READS IS OF BULK AT MOST 1048576: true; the input reads as it did. -/
def quarrelsHarmsUptoRow : OpenClaim := { program := "ytdjkbpenppdnlaadoor", sum := "581a0c684c302a056224cff07ac86c61bbbb306c2ecea8a9972c53445448af25", func := "steening/steeninglaw05.QuarrelsHarms", spec := "quarrelsHarms", unfollowed := true, recurses := true, named := ["math/bits.deBruijn32tab", "math/bits.deBruijn64tab"], apart := false, laid := [("math/bits.deBruijn32tab", laid_math_bits_deBruijn32tab), ("math/bits.deBruijn64tab", laid_math_bits_deBruijn64tab)], narrowed := true }
def QuarrelsHarmsUptoSaid : Prop := quarrelsHarmsUptoRow.holds Tryd.pinned (OpenSpec.upto quarrelsHarmsSpec)

/-- 'steeninglaw05.QuarrelsTotal', WHERE WHAT IT READS IS OF BULK AT MOST 1048576: true; the input reads as it did. -/
def quarrelsTotalUptoRow : OpenClaim := { program := "ytdjkbpenppdnlaadoor", sum := "581a0c684c302a056224cff07ac86c61bbbb306c2ecea8a9972c53445448af25", func := "steening/steeninglaw05.QuarrelsTotal", spec := "quarrelsTotal", unfollowed := true, recurses := true, named := ["math/bits.deBruijn32tab", "math/bits.deBruijn64tab"], apart := false, laid := [("math/bits.deBruijn32tab", laid_math_bits_deBruijn32tab), ("math/bits.deBruijn64tab", laid_math_bits_deBruijn64tab)], narrowed := true }
def QuarrelsTotalUptoSaid : Prop := quarrelsTotalUptoRow.holds Tryd.pinned (OpenSpec.upto quarrelsTotalSpec)

/-- 'steeninglaw05.QuarrelsFewest', WHERE WHAT IT READS IS OF BULK AT MOST 1048576: true; the input reads as it did. -/
def quarrelsFewestUptoRow : OpenClaim := { program := "ytdjkbpenppdnlaadoor", sum := "581a0c684c302a056224cff07ac86c61bbbb306c2ecea8a9972c53445448af25", func := "steening/steeninglaw05.QuarrelsFewest", spec := "quarrelsFewest", unfollowed := true, recurses := true, named := ["math/bits.deBruijn32tab", "math/bits.deBruijn64tab"], apart := false, laid := [("math/bits.deBruijn32tab", laid_math_bits_deBruijn32tab), ("math/bits.deBruijn64tab", laid_math_bits_deBruijn64tab)], narrowed := true }
def QuarrelsFewestUptoSaid : Prop := quarrelsFewestUptoRow.holds Tryd.pinned (OpenSpec.upto quarrelsFewestSpec)

/-- 'steeninglaw05.QuarrelsDecide', WHERE WHAT IT READS IS OF BULK AT MOST 1048576: true; the input reads as it did. -/
def quarrelsDecideUptoRow : OpenClaim := { program := "ytdjkbpenppdnlaadoor", sum := "581a0c684c302a056224cff07ac86c61bbbb306c2ecea8a9972c53445448af25", func := "steening/steeninglaw05.QuarrelsDecide", spec := "quarrelsDecide", unfollowed := true, recurses := true, named := ["math/bits.deBruijn32tab", "math/bits.deBruijn64tab"], apart := false, laid := [("math/bits.deBruijn32tab", laid_math_bits_deBruijn32tab), ("math/bits.deBruijn64tab", laid_math_bits_deBruijn64tab)], narrowed := true }
def QuarrelsDecideUptoSaid : Prop := quarrelsDecideUptoRow.holds Tryd.pinned (OpenSpec.upto quarrelsDecideSpec)

/-- 'steeninglaw05.QuarrelsDepth', WHERE WHAT IT READS IS OF BULK AT MOST 1048576: true; the input reads as it did. -/
def quarrelsDepthUptoRow : OpenClaim := { program := "ytdjkbpenppdnlaadoor", sum := "581a0c684c302a056224cff07ac86c61bbbb306c2ecea8a9972c53445448af25", func := "steening/steeninglaw05.QuarrelsDepth", spec := "quarrelsDepth", unfollowed := true, recurses := true, named := ["math/bits.deBruijn32tab", "math/bits.deBruijn64tab"], apart := false, laid := [("math/bits.deBruijn32tab", laid_math_bits_deBruijn32tab), ("math/bits.deBruijn64tab", laid_math_bits_deBruijn64tab)], narrowed := true }
def QuarrelsDepthUptoSaid : Prop := quarrelsDepthUptoRow.holds Tryd.pinned (OpenSpec.upto quarrelsDepthSpec)

/-- 'steeninglaw05.QuarrelsEach', WHERE WHAT IT READS IS OF BULK AT MOST 1048576: true; the input reads as it did. -/
def quarrelsEachUptoRow : OpenClaim := { program := "ytdjkbpenppdnlaadoor", sum := "581a0c684c302a056224cff07ac86c61bbbb306c2ecea8a9972c53445448af25", func := "steening/steeninglaw05.QuarrelsEach", spec := "quarrelsEach", unfollowed := true, recurses := true, named := ["math/bits.deBruijn32tab", "math/bits.deBruijn64tab"], apart := false, laid := [("math/bits.deBruijn32tab", laid_math_bits_deBruijn32tab), ("math/bits.deBruijn64tab", laid_math_bits_deBruijn64tab)], narrowed := true }
def QuarrelsEachUptoSaid : Prop := quarrelsEachUptoRow.holds Tryd.pinned (OpenSpec.upto quarrelsEachSpec)

/-- 'steeninglaw05.QuarrelsMore', WHERE WHAT IT READS IS OF BULK AT MOST 1048576: true; the input reads as it did. -/
def quarrelsMoreUptoRow : OpenClaim := { program := "ytdjkbpenppdnlaadoor", sum := "581a0c684c302a056224cff07ac86c61bbbb306c2ecea8a9972c53445448af25", func := "steening/steeninglaw05.QuarrelsMore", spec := "quarrelsMore", unfollowed := true, recurses := true, named := ["math/bits.deBruijn32tab", "math/bits.deBruijn64tab"], apart := false, laid := [("math/bits.deBruijn32tab", laid_math_bits_deBruijn32tab), ("math/bits.deBruijn64tab", laid_math_bits_deBruijn64tab)], narrowed := true }
def QuarrelsMoreUptoSaid : Prop := quarrelsMoreUptoRow.holds Tryd.pinned (OpenSpec.upto quarrelsMoreSpec)

/-- 'steeninglaw05.QuarrelsCover', WHERE WHAT IT READS IS OF BULK AT MOST 1048576: true; the input reads as it did. -/
def quarrelsCoverUptoRow : OpenClaim := { program := "ytdjkbpenppdnlaadoor", sum := "581a0c684c302a056224cff07ac86c61bbbb306c2ecea8a9972c53445448af25", func := "steening/steeninglaw05.QuarrelsCover", spec := "quarrelsCover", unfollowed := true, recurses := true, named := ["math/bits.deBruijn32tab", "math/bits.deBruijn64tab"], apart := false, laid := [("math/bits.deBruijn32tab", laid_math_bits_deBruijn32tab), ("math/bits.deBruijn64tab", laid_math_bits_deBruijn64tab)], narrowed := true }
def QuarrelsCoverUptoSaid : Prop := quarrelsCoverUptoRow.holds Tryd.pinned (OpenSpec.upto quarrelsCoverSpec)

/-- 'steeninglaw05.QuarrelsStep', WHERE WHAT IT READS IS OF BULK AT MOST 1048576: true; the input reads as it did. -/
def quarrelsStepUptoRow : OpenClaim := { program := "ytdjkbpenppdnlaadoor", sum := "581a0c684c302a056224cff07ac86c61bbbb306c2ecea8a9972c53445448af25", func := "steening/steeninglaw05.QuarrelsStep", spec := "quarrelsStep", unfollowed := true, recurses := true, named := ["math/bits.deBruijn32tab", "math/bits.deBruijn64tab"], apart := false, laid := [("math/bits.deBruijn32tab", laid_math_bits_deBruijn32tab), ("math/bits.deBruijn64tab", laid_math_bits_deBruijn64tab)], narrowed := true }
def QuarrelsStepUptoSaid : Prop := quarrelsStepUptoRow.holds Tryd.pinned (OpenSpec.upto quarrelsStepSpec)

/-- 'steeninglaw05.QuarrelsAlike', WHERE WHAT IT READS IS OF BULK AT MOST 1048576: true; the input reads as it did. -/
def quarrelsAlikeUptoRow : OpenClaim := { program := "ytdjkbpenppdnlaadoor", sum := "581a0c684c302a056224cff07ac86c61bbbb306c2ecea8a9972c53445448af25", func := "steening/steeninglaw05.QuarrelsAlike", spec := "quarrelsAlike", unfollowed := true, recurses := true, named := ["math/bits.deBruijn32tab", "math/bits.deBruijn64tab"], apart := false, laid := [("math/bits.deBruijn32tab", laid_math_bits_deBruijn32tab), ("math/bits.deBruijn64tab", laid_math_bits_deBruijn64tab)], narrowed := true }
def QuarrelsAlikeUptoSaid : Prop := quarrelsAlikeUptoRow.holds Tryd.pinned (OpenSpec.upto quarrelsAlikeSpec)

/-- 'steeninglaw05.QuarrelsSum', WHERE WHAT IT READS IS OF BULK AT MOST 1048576: true; the input reads as it did. -/
def quarrelsSumUptoRow : OpenClaim := { program := "ytdjkbpenppdnlaadoor", sum := "581a0c684c302a056224cff07ac86c61bbbb306c2ecea8a9972c53445448af25", func := "steening/steeninglaw05.QuarrelsSum", spec := "quarrelsSum", unfollowed := true, recurses := true, named := ["math/bits.deBruijn32tab", "math/bits.deBruijn64tab"], apart := false, laid := [("math/bits.deBruijn32tab", laid_math_bits_deBruijn32tab), ("math/bits.deBruijn64tab", laid_math_bits_deBruijn64tab)], narrowed := true }
def QuarrelsSumUptoSaid : Prop := quarrelsSumUptoRow.holds Tryd.pinned (OpenSpec.upto quarrelsSumSpec)

end Rows
end Go.Proofs.YtdjkbpenppdnlaaDoor
