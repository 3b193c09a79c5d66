/-
  NARROWER THAN 'FOR EVERY INPUT', by the rows' own cells (each row's printed sentence says how): ShaftsPrice: laid · ShaftsFalls: laid · ShaftsRing: laid.
  DERIVED. THE GIVEN ROWS OF THIS SEAT. 3 by the template 'for every input the law returns true; each argument reads behind the call as it read before'; 0 by the template 'total and deterministic' (their statements: YtaaocomgmacjnabDoorTotals.lean).
  GIVEN WITH THE SEED: the statements are not yours to turn. If you find one false, say at which input.
  Laid BY PROGRAM, IN A SANDBOX (cutbox-rows.mjs): the forced cells as the released guide's own fill.sh prints them over the translation 48b62e1e737c3fca… (all of the seat's roots in one cut). By AI agents, Wed Nov 11 2026. No macro, syntax, notation, axiom, sorry.
-/
import Derived.Test.YtaaocomgmacjnabDoorChecked
import GoSem.Claim
import GoSem.ClaimJoined
import GoSem.ClaimMapViews
import Derived.JoinedTies
import Derived.KernelRfl
namespace Go.Proofs.YtaaocomgmacjnabDoor
/- THE CELL 'sum', in the pinned program and in every row, IS THE sha256 OF THE DUMP (.gsa) THAT YtaaocomgmacjnabDoorProg.lean LOADS. Nothing in Lean hashes anything: it is a label: what it is worth is what the hold of that sum in a sandbox is worth. -/
noncomputable def Tryd.pinned : Pinned := { name := "ytaaocomgmacjnabdoor", sum := "48b62e1e737c3fcad0df35f200eb3d7a9d28a5799d46a4d3301f95e2e021b904", checked := Tryd.checked }
namespace Rows
def none {H : Type} : Left H := { results := [], args := [] }

/- WHAT THE LISTED PACKAGE-LEVEL VARIABLES READ AS WHEN THE CALL BEGINS. Each datum BY PROGRAM (the guide's laid-datum.mjs) off the statement by which the dump's own 'gosem.cut.vars' lays the variable. In a bare row this is a premise. The card (YtaaocomgmacjnabDoorCards.lean) ties it to the program's text. -/
def laid_steening_shafts_noWay {H : Type} : DataW H := .agg [.lit (.int .i64 (-1)), .lit (.int .i64 (-1))]

/-- 'steeninglaw02.ShaftsPrice': WHATEVER THE INPUT: true; the input reads as it did. -/
def shaftsPriceSpec : ChangeSpec := { name := "shaftsPrice", fn := fun _ => fun
  | [d1, d2] => { results := [.lit (.bool true)], args := [d1, d2] }
  | _ => none }
def shaftsPriceRow : OpenClaim := { program := "ytaaocomgmacjnabdoor", sum := "48b62e1e737c3fcad0df35f200eb3d7a9d28a5799d46a4d3301f95e2e021b904", func := "steening/steeninglaw02.ShaftsPrice", spec := "shaftsPrice", unfollowed := true, recurses := true, named := ["steening/shafts.noWay"], apart := false, laid := [("steening/shafts.noWay", laid_steening_shafts_noWay)] }
def ShaftsPriceSaid : Prop := shaftsPriceRow.holds Tryd.pinned (OpenSpec.ofChange shaftsPriceSpec)

/-- ITS FALSE NEIGHBOUR: 'it returns false'. Refute it at one input. -/
def shaftsPriceWrong : ChangeSpec := { name := "shaftsPrice", fn := fun _ => fun
  | [d1, d2] => { results := [.lit (.bool false)], args := [d1, d2] }
  | _ => none }
def ShaftsPriceWrongFalsely : Prop := shaftsPriceRow.holds Tryd.pinned (OpenSpec.ofChange shaftsPriceWrong)

/-- 'steeninglaw02.ShaftsFalls': WHATEVER THE INPUT: true; the input reads as it did. -/
def shaftsFallsSpec : ChangeSpec := { name := "shaftsFalls", fn := fun _ => fun
  | [d1, d2] => { results := [.lit (.bool true)], args := [d1, d2] }
  | _ => none }
def shaftsFallsRow : OpenClaim := { program := "ytaaocomgmacjnabdoor", sum := "48b62e1e737c3fcad0df35f200eb3d7a9d28a5799d46a4d3301f95e2e021b904", func := "steening/steeninglaw02.ShaftsFalls", spec := "shaftsFalls", unfollowed := true, recurses := true, named := ["steening/shafts.noWay"], apart := false, laid := [("steening/shafts.noWay", laid_steening_shafts_noWay)] }
def ShaftsFallsSaid : Prop := shaftsFallsRow.holds Tryd.pinned (OpenSpec.ofChange shaftsFallsSpec)

/-- ITS FALSE NEIGHBOUR: 'it returns false'. Refute it at one input. -/
def shaftsFallsWrong : ChangeSpec := { name := "shaftsFalls", fn := fun _ => fun
  | [d1, d2] => { results := [.lit (.bool false)], args := [d1, d2] }
  | _ => none }
def ShaftsFallsWrongFalsely : Prop := shaftsFallsRow.holds Tryd.pinned (OpenSpec.ofChange shaftsFallsWrong)

/-- 'steeninglaw02.ShaftsRing': WHATEVER THE INPUT: true; the input reads as it did. -/
def shaftsRingSpec : ChangeSpec := { name := "shaftsRing", fn := fun _ => fun
  | [d1, d2, d3] => { results := [.lit (.bool true)], args := [d1, d2, d3] }
  | _ => none }
def shaftsRingRow : OpenClaim := { program := "ytaaocomgmacjnabdoor", sum := "48b62e1e737c3fcad0df35f200eb3d7a9d28a5799d46a4d3301f95e2e021b904", func := "steening/steeninglaw02.ShaftsRing", spec := "shaftsRing", unfollowed := true, recurses := true, named := ["steening/shafts.noWay"], apart := false, laid := [("steening/shafts.noWay", laid_steening_shafts_noWay)] }
def ShaftsRingSaid : Prop := shaftsRingRow.holds Tryd.pinned (OpenSpec.ofChange shaftsRingSpec)

/-- ITS FALSE NEIGHBOUR: 'it returns false'. Refute it at one input. -/
def shaftsRingWrong : ChangeSpec := { name := "shaftsRing", fn := fun _ => fun
  | [d1, d2, d3] => { results := [.lit (.bool false)], args := [d1, d2, d3] }
  | _ => none }
def ShaftsRingWrongFalsely : Prop := shaftsRingRow.holds Tryd.pinned (OpenSpec.ofChange shaftsRingWrong)

/- THE SECOND FORM. 'bulk': how many values and letters a reading holds, each counted each time it is reached (what is shared counts as often as it is met; a slice's spare places count too). A statement '..UptoSaid' is the law's where the arguments, and the package variables that the reading takes, are together of bulk at most 1048576: NARROWER than '..Said'. Prove '..Said' where nothing that the law and all that it calls make is longer than what came in: it says more and counts as full. Else prove '..UptoSaid'. A law counts once. -/
mutual
def uptoBulk {H : Type} : DataW H → Nat
  | .lit (.string bytes) => bytes.length + 1
  | .lit _ => 1
  | .nil => 1
  | .ptr d => uptoBulk d + 1
  | .slice elems spare => uptoBulkAll elems + uptoBulkAll spare + 1
  | .agg parts => uptoBulkAll parts + 1
  | .iface _ d => uptoBulk d + 1
  | .map entries => uptoBulkEntries entries + 1
  | .held _ => 1
def uptoBulkAll {H : Type} : List (DataW H) → Nat
  | [] => 0
  | d :: r => uptoBulk d + uptoBulkAll r
def uptoBulkEntries {H : Type} : List (Lit × DataW H) → Nat
  | [] => 0
  | x :: r => uptoBulkEntry x + uptoBulkEntries r
def uptoBulkEntry {H : Type} : Lit × DataW H → Nat
  | (.string bytes, d) => bytes.length + uptoBulk d + 1
  | (_, d) => uptoBulk d + 1
 end
def uptoSmall : (H : Type) → List (DataW H) → Bool := fun _ ds => decide (uptoBulkAll ds ≤ 1048576)
def OpenSpec.upto (s : _root_.Go.ChangeSpec) : _root_.Go.OpenSpec := { _root_.Go.OpenSpec.ofChange s with cond := some uptoSmall }

/-- 'steeninglaw02.ShaftsPrice', WHERE WHAT IT READS IS OF BULK AT MOST 1048576: true; the input reads as it did. -/
def shaftsPriceUptoRow : OpenClaim := { program := "ytaaocomgmacjnabdoor", sum := "48b62e1e737c3fcad0df35f200eb3d7a9d28a5799d46a4d3301f95e2e021b904", func := "steening/steeninglaw02.ShaftsPrice", spec := "shaftsPrice", unfollowed := true, recurses := true, named := ["steening/shafts.noWay"], apart := false, laid := [("steening/shafts.noWay", laid_steening_shafts_noWay)], narrowed := true }
def ShaftsPriceUptoSaid : Prop := shaftsPriceUptoRow.holds Tryd.pinned (OpenSpec.upto shaftsPriceSpec)

/-- 'steeninglaw02.ShaftsFalls', WHERE WHAT IT READS IS OF BULK AT MOST 1048576: true; the input reads as it did. -/
def shaftsFallsUptoRow : OpenClaim := { program := "ytaaocomgmacjnabdoor", sum := "48b62e1e737c3fcad0df35f200eb3d7a9d28a5799d46a4d3301f95e2e021b904", func := "steening/steeninglaw02.ShaftsFalls", spec := "shaftsFalls", unfollowed := true, recurses := true, named := ["steening/shafts.noWay"], apart := false, laid := [("steening/shafts.noWay", laid_steening_shafts_noWay)], narrowed := true }
def ShaftsFallsUptoSaid : Prop := shaftsFallsUptoRow.holds Tryd.pinned (OpenSpec.upto shaftsFallsSpec)

/-- 'steeninglaw02.ShaftsRing', WHERE WHAT IT READS IS OF BULK AT MOST 1048576: true; the input reads as it did. -/
def shaftsRingUptoRow : OpenClaim := { program := "ytaaocomgmacjnabdoor", sum := "48b62e1e737c3fcad0df35f200eb3d7a9d28a5799d46a4d3301f95e2e021b904", func := "steening/steeninglaw02.ShaftsRing", spec := "shaftsRing", unfollowed := true, recurses := true, named := ["steening/shafts.noWay"], apart := false, laid := [("steening/shafts.noWay", laid_steening_shafts_noWay)], narrowed := true }
def ShaftsRingUptoSaid : Prop := shaftsRingUptoRow.holds Tryd.pinned (OpenSpec.upto shaftsRingSpec)

end Rows
end Go.Proofs.YtaaocomgmacjnabDoor
