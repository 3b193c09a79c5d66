/-
  No cell of these rows narrows 'for every input' (looked for: loops, veiled, ifaces, maps, wideKeys, modest, calm, conditions, laid).
  DERIVED. THE GIVEN ROWS OF THIS SEAT. 12 by the template 'for every input the law returns true; each argument reads behind the call as it read before'; 0 by the template 'total and deterministic' (their statements: YthbicbmlbblflaaTotals.lean).
  GIVEN WITH THE SEED: the statements are not yours to turn. If you find one false, say at which input.
  Laid BY PROGRAM, IN A SANDBOX (cutbox-rows.mjs): the forced cells as the released guide's own fill.sh prints them over the translation 1517a57449824320… (all of the seat's roots in one cut). By AI agents, Wed Nov 11 2026. No macro, syntax, notation, axiom, sorry.
-/
import Derived.Test.YthbicbmlbblflaaChecked
import GoSem.Claim
import GoSem.ClaimJoined
import GoSem.ClaimMapViews
import Derived.JoinedTies
import Derived.KernelRfl
namespace Go.Proofs.Ythbicbmlbblflaa
/- THE CELL 'sum', in the pinned program and in every row, IS THE sha256 OF THE DUMP (.gsa) THAT YthbicbmlbblflaaProg.lean LOADS. Nothing in Lean hashes anything: it is a label: what it is worth is what the hold of that sum in a sandbox is worth. -/
noncomputable def Try.pinned : Pinned := { name := "ythbicbmlbblflaa", sum := "1517a57449824320ca55b461bb44d7383ff2b2be4cf67b740a999bfd44959992", checked := Try.checked }
namespace Rows
def none {H : Type} : Left H := { results := [], args := [] }

/-- 'steeninglaw07.MouthsGauges': WHATEVER THE INPUT: true; the input reads as it did. -/
def mouthsGaugesSpec : ChangeSpec := { name := "mouthsGauges", fn := fun _ => fun
  | [d1, d2, d3] => { results := [.lit (.bool true)], args := [d1, d2, d3] }
  | _ => none }
def mouthsGaugesRow : OpenClaim := { program := "ythbicbmlbblflaa", sum := "1517a57449824320ca55b461bb44d7383ff2b2be4cf67b740a999bfd44959992", func := "steening/steeninglaw07.MouthsGauges", spec := "mouthsGauges", unfollowed := true, recurses := true, apart := false }
def MouthsGaugesSaid : Prop := mouthsGaugesRow.holds Try.pinned (OpenSpec.ofChange mouthsGaugesSpec)

/-- ITS FALSE NEIGHBOUR: 'it returns false'. Refute it at one input. -/
def mouthsGaugesWrong : ChangeSpec := { name := "mouthsGauges", fn := fun _ => fun
  | [d1, d2, d3] => { results := [.lit (.bool false)], args := [d1, d2, d3] }
  | _ => none }
def MouthsGaugesWrongFalsely : Prop := mouthsGaugesRow.holds Try.pinned (OpenSpec.ofChange mouthsGaugesWrong)

/-- 'steeninglaw07.MouthsFrom': WHATEVER THE INPUT: true; the input reads as it did. -/
def mouthsFromSpec : ChangeSpec := { name := "mouthsFrom", fn := fun _ => fun
  | [d1, d2] => { results := [.lit (.bool true)], args := [d1, d2] }
  | _ => none }
def mouthsFromRow : OpenClaim := { program := "ythbicbmlbblflaa", sum := "1517a57449824320ca55b461bb44d7383ff2b2be4cf67b740a999bfd44959992", func := "steening/steeninglaw07.MouthsFrom", spec := "mouthsFrom", unfollowed := true, recurses := true, apart := false }
def MouthsFromSaid : Prop := mouthsFromRow.holds Try.pinned (OpenSpec.ofChange mouthsFromSpec)

/-- ITS FALSE NEIGHBOUR: 'it returns false'. Refute it at one input. -/
def mouthsFromWrong : ChangeSpec := { name := "mouthsFrom", fn := fun _ => fun
  | [d1, d2] => { results := [.lit (.bool false)], args := [d1, d2] }
  | _ => none }
def MouthsFromWrongFalsely : Prop := mouthsFromRow.holds Try.pinned (OpenSpec.ofChange mouthsFromWrong)

/-- 'steeninglaw07.MouthsExact': WHATEVER THE INPUT: true; the input reads as it did. -/
def mouthsExactSpec : ChangeSpec := { name := "mouthsExact", fn := fun _ => fun
  | [d1, d2] => { results := [.lit (.bool true)], args := [d1, d2] }
  | _ => none }
def mouthsExactRow : OpenClaim := { program := "ythbicbmlbblflaa", sum := "1517a57449824320ca55b461bb44d7383ff2b2be4cf67b740a999bfd44959992", func := "steening/steeninglaw07.MouthsExact", spec := "mouthsExact", unfollowed := true, recurses := true, apart := false }
def MouthsExactSaid : Prop := mouthsExactRow.holds Try.pinned (OpenSpec.ofChange mouthsExactSpec)

/-- ITS FALSE NEIGHBOUR: 'it returns false'. Refute it at one input. -/
def mouthsExactWrong : ChangeSpec := { name := "mouthsExact", fn := fun _ => fun
  | [d1, d2] => { results := [.lit (.bool false)], args := [d1, d2] }
  | _ => none }
def MouthsExactWrongFalsely : Prop := mouthsExactRow.holds Try.pinned (OpenSpec.ofChange mouthsExactWrong)

/-- 'steeninglaw07.MouthsParadox': WHATEVER THE INPUT: true; the input reads as it did. -/
def mouthsParadoxSpec : ChangeSpec := { name := "mouthsParadox", fn := fun _ => fun
  | [d] => { results := [.lit (.bool true)], args := [d] }
  | _ => none }
def mouthsParadoxRow : OpenClaim := { program := "ythbicbmlbblflaa", sum := "1517a57449824320ca55b461bb44d7383ff2b2be4cf67b740a999bfd44959992", func := "steening/steeninglaw07.MouthsParadox", spec := "mouthsParadox", unfollowed := true, recurses := true, apart := false }
def MouthsParadoxSaid : Prop := mouthsParadoxRow.holds Try.pinned (OpenSpec.ofChange mouthsParadoxSpec)

/-- ITS FALSE NEIGHBOUR: 'it returns false'. Refute it at one input. -/
def mouthsParadoxWrong : ChangeSpec := { name := "mouthsParadox", fn := fun _ => fun
  | [d] => { results := [.lit (.bool false)], args := [d] }
  | _ => none }
def MouthsParadoxWrongFalsely : Prop := mouthsParadoxRow.holds Try.pinned (OpenSpec.ofChange mouthsParadoxWrong)

/-- 'steeninglaw07.MouthsAll': WHATEVER THE INPUT: true; the input reads as it did. -/
def mouthsAllSpec : ChangeSpec := { name := "mouthsAll", fn := fun _ => fun
  | [d1, d2] => { results := [.lit (.bool true)], args := [d1, d2] }
  | _ => none }
def mouthsAllRow : OpenClaim := { program := "ythbicbmlbblflaa", sum := "1517a57449824320ca55b461bb44d7383ff2b2be4cf67b740a999bfd44959992", func := "steening/steeninglaw07.MouthsAll", spec := "mouthsAll", unfollowed := true, recurses := true, apart := false }
def MouthsAllSaid : Prop := mouthsAllRow.holds Try.pinned (OpenSpec.ofChange mouthsAllSpec)

/-- ITS FALSE NEIGHBOUR: 'it returns false'. Refute it at one input. -/
def mouthsAllWrong : ChangeSpec := { name := "mouthsAll", fn := fun _ => fun
  | [d1, d2] => { results := [.lit (.bool false)], args := [d1, d2] }
  | _ => none }
def MouthsAllWrongFalsely : Prop := mouthsAllRow.holds Try.pinned (OpenSpec.ofChange mouthsAllWrong)

/-- 'steeninglaw07.MouthsWorth': WHATEVER THE INPUT: true; the input reads as it did. -/
def mouthsWorthSpec : ChangeSpec := { name := "mouthsWorth", fn := fun _ => fun
  | [d1, d2, d3] => { results := [.lit (.bool true)], args := [d1, d2, d3] }
  | _ => none }
def mouthsWorthRow : OpenClaim := { program := "ythbicbmlbblflaa", sum := "1517a57449824320ca55b461bb44d7383ff2b2be4cf67b740a999bfd44959992", func := "steening/steeninglaw07.MouthsWorth", spec := "mouthsWorth", unfollowed := true, recurses := true, apart := false }
def MouthsWorthSaid : Prop := mouthsWorthRow.holds Try.pinned (OpenSpec.ofChange mouthsWorthSpec)

/-- ITS FALSE NEIGHBOUR: 'it returns false'. Refute it at one input. -/
def mouthsWorthWrong : ChangeSpec := { name := "mouthsWorth", fn := fun _ => fun
  | [d1, d2, d3] => { results := [.lit (.bool false)], args := [d1, d2, d3] }
  | _ => none }
def MouthsWorthWrongFalsely : Prop := mouthsWorthRow.holds Try.pinned (OpenSpec.ofChange mouthsWorthWrong)

/-- 'steeninglaw07.MouthsShares': WHATEVER THE INPUT: true; the input reads as it did. -/
def mouthsSharesSpec : ChangeSpec := { name := "mouthsShares", fn := fun _ => fun
  | [d1, d2, d3] => { results := [.lit (.bool true)], args := [d1, d2, d3] }
  | _ => none }
def mouthsSharesRow : OpenClaim := { program := "ythbicbmlbblflaa", sum := "1517a57449824320ca55b461bb44d7383ff2b2be4cf67b740a999bfd44959992", func := "steening/steeninglaw07.MouthsShares", spec := "mouthsShares", unfollowed := true, recurses := true, apart := false }
def MouthsSharesSaid : Prop := mouthsSharesRow.holds Try.pinned (OpenSpec.ofChange mouthsSharesSpec)

/-- ITS FALSE NEIGHBOUR: 'it returns false'. Refute it at one input. -/
def mouthsSharesWrong : ChangeSpec := { name := "mouthsShares", fn := fun _ => fun
  | [d1, d2, d3] => { results := [.lit (.bool false)], args := [d1, d2, d3] }
  | _ => none }
def MouthsSharesWrongFalsely : Prop := mouthsSharesRow.holds Try.pinned (OpenSpec.ofChange mouthsSharesWrong)

/-- 'steeninglaw07.MouthsMosts': WHATEVER THE INPUT: true; the input reads as it did. -/
def mouthsMostsSpec : ChangeSpec := { name := "mouthsMosts", fn := fun _ => fun
  | [d1, d2, d3] => { results := [.lit (.bool true)], args := [d1, d2, d3] }
  | _ => none }
def mouthsMostsRow : OpenClaim := { program := "ythbicbmlbblflaa", sum := "1517a57449824320ca55b461bb44d7383ff2b2be4cf67b740a999bfd44959992", func := "steening/steeninglaw07.MouthsMosts", spec := "mouthsMosts", unfollowed := true, recurses := true, apart := false }
def MouthsMostsSaid : Prop := mouthsMostsRow.holds Try.pinned (OpenSpec.ofChange mouthsMostsSpec)

/-- ITS FALSE NEIGHBOUR: 'it returns false'. Refute it at one input. -/
def mouthsMostsWrong : ChangeSpec := { name := "mouthsMosts", fn := fun _ => fun
  | [d1, d2, d3] => { results := [.lit (.bool false)], args := [d1, d2, d3] }
  | _ => none }
def MouthsMostsWrongFalsely : Prop := mouthsMostsRow.holds Try.pinned (OpenSpec.ofChange mouthsMostsWrong)

/-- 'steeninglaw07.MouthsSome': WHATEVER THE INPUT: true; the input reads as it did. -/
def mouthsSomeSpec : ChangeSpec := { name := "mouthsSome", fn := fun _ => fun
  | [d1, d2, d3] => { results := [.lit (.bool true)], args := [d1, d2, d3] }
  | _ => none }
def mouthsSomeRow : OpenClaim := { program := "ythbicbmlbblflaa", sum := "1517a57449824320ca55b461bb44d7383ff2b2be4cf67b740a999bfd44959992", func := "steening/steeninglaw07.MouthsSome", spec := "mouthsSome", unfollowed := true, recurses := true, apart := false }
def MouthsSomeSaid : Prop := mouthsSomeRow.holds Try.pinned (OpenSpec.ofChange mouthsSomeSpec)

/-- ITS FALSE NEIGHBOUR: 'it returns false'. Refute it at one input. -/
def mouthsSomeWrong : ChangeSpec := { name := "mouthsSome", fn := fun _ => fun
  | [d1, d2, d3] => { results := [.lit (.bool false)], args := [d1, d2, d3] }
  | _ => none }
def MouthsSomeWrongFalsely : Prop := mouthsSomeRow.holds Try.pinned (OpenSpec.ofChange mouthsSomeWrong)

/-- 'steeninglaw07.MouthsRounding': WHATEVER THE INPUT: true; the input reads as it did. -/
def mouthsRoundingSpec : ChangeSpec := { name := "mouthsRounding", fn := fun _ => fun
  | [d1, d2] => { results := [.lit (.bool true)], args := [d1, d2] }
  | _ => none }
def mouthsRoundingRow : OpenClaim := { program := "ythbicbmlbblflaa", sum := "1517a57449824320ca55b461bb44d7383ff2b2be4cf67b740a999bfd44959992", func := "steening/steeninglaw07.MouthsRounding", spec := "mouthsRounding", unfollowed := true, recurses := true, apart := false }
def MouthsRoundingSaid : Prop := mouthsRoundingRow.holds Try.pinned (OpenSpec.ofChange mouthsRoundingSpec)

/-- ITS FALSE NEIGHBOUR: 'it returns false'. Refute it at one input. -/
def mouthsRoundingWrong : ChangeSpec := { name := "mouthsRounding", fn := fun _ => fun
  | [d1, d2] => { results := [.lit (.bool false)], args := [d1, d2] }
  | _ => none }
def MouthsRoundingWrongFalsely : Prop := mouthsRoundingRow.holds Try.pinned (OpenSpec.ofChange mouthsRoundingWrong)

/-- 'steeninglaw07.MouthsAlike': WHATEVER THE INPUT: true; the input reads as it did. -/
def mouthsAlikeSpec : ChangeSpec := { name := "mouthsAlike", fn := fun _ => fun
  | [d1, d2, d3] => { results := [.lit (.bool true)], args := [d1, d2, d3] }
  | _ => none }
def mouthsAlikeRow : OpenClaim := { program := "ythbicbmlbblflaa", sum := "1517a57449824320ca55b461bb44d7383ff2b2be4cf67b740a999bfd44959992", func := "steening/steeninglaw07.MouthsAlike", spec := "mouthsAlike", unfollowed := true, recurses := true, apart := false }
def MouthsAlikeSaid : Prop := mouthsAlikeRow.holds Try.pinned (OpenSpec.ofChange mouthsAlikeSpec)

/-- ITS FALSE NEIGHBOUR: 'it returns false'. Refute it at one input. -/
def mouthsAlikeWrong : ChangeSpec := { name := "mouthsAlike", fn := fun _ => fun
  | [d1, d2, d3] => { results := [.lit (.bool false)], args := [d1, d2, d3] }
  | _ => none }
def MouthsAlikeWrongFalsely : Prop := mouthsAlikeRow.holds Try.pinned (OpenSpec.ofChange mouthsAlikeWrong)

/-- 'steeninglaw07.MouthsBack': WHATEVER THE INPUT: true; the input reads as it did. -/
def mouthsBackSpec : ChangeSpec := { name := "mouthsBack", fn := fun _ => fun
  | [d1, d2] => { results := [.lit (.bool true)], args := [d1, d2] }
  | _ => none }
def mouthsBackRow : OpenClaim := { program := "ythbicbmlbblflaa", sum := "1517a57449824320ca55b461bb44d7383ff2b2be4cf67b740a999bfd44959992", func := "steening/steeninglaw07.MouthsBack", spec := "mouthsBack", unfollowed := true, recurses := true, apart := false }
def MouthsBackSaid : Prop := mouthsBackRow.holds Try.pinned (OpenSpec.ofChange mouthsBackSpec)

/-- ITS FALSE NEIGHBOUR: 'it returns false'. Refute it at one input. -/
def mouthsBackWrong : ChangeSpec := { name := "mouthsBack", fn := fun _ => fun
  | [d1, d2] => { results := [.lit (.bool false)], args := [d1, d2] }
  | _ => none }
def MouthsBackWrongFalsely : Prop := mouthsBackRow.holds Try.pinned (OpenSpec.ofChange mouthsBackWrong)

/- THE SECOND FORM. 'bulk': how many values and letters a reading holds, each counted each time it is reached (what is shared counts as often as it is met; a slice's spare places count too). A statement '..UptoSaid' is the law's where the arguments, and the package variables that the reading takes, are together of bulk at most 1048576: NARROWER than '..Said'. Prove '..Said' where nothing that the law and all that it calls make is longer than what came in: it says more and counts as full. Else prove '..UptoSaid'. A law counts once. -/
mutual
def uptoBulk {H : Type} : DataW H → Nat
  | .lit (.string bytes) => bytes.length + 1
  | .lit _ => 1
  | .nil => 1
  | .ptr d => uptoBulk d + 1
  | .slice elems spare => uptoBulkAll elems + uptoBulkAll spare + 1
  | .agg parts => uptoBulkAll parts + 1
  | .iface _ d => uptoBulk d + 1
  | .map entries => uptoBulkEntries entries + 1
  | .held _ => 1
def uptoBulkAll {H : Type} : List (DataW H) → Nat
  | [] => 0
  | d :: r => uptoBulk d + uptoBulkAll r
def uptoBulkEntries {H : Type} : List (Lit × DataW H) → Nat
  | [] => 0
  | x :: r => uptoBulkEntry x + uptoBulkEntries r
def uptoBulkEntry {H : Type} : Lit × DataW H → Nat
  | (.string bytes, d) => bytes.length + uptoBulk d + 1
  | (_, d) => uptoBulk d + 1
 end
def uptoSmall : (H : Type) → List (DataW H) → Bool := fun _ ds => decide (uptoBulkAll ds ≤ 1048576)
def OpenSpec.upto (s : _root_.Go.ChangeSpec) : _root_.Go.OpenSpec := { _root_.Go.OpenSpec.ofChange s with cond := some uptoSmall }

/-- 'steeninglaw07.MouthsGauges', WHERE WHAT IT READS IS OF BULK AT MOST 1048576: true; the input reads as it did. -/
def mouthsGaugesUptoRow : OpenClaim := { program := "ythbicbmlbblflaa", sum := "1517a57449824320ca55b461bb44d7383ff2b2be4cf67b740a999bfd44959992", func := "steening/steeninglaw07.MouthsGauges", spec := "mouthsGauges", unfollowed := true, recurses := true, apart := false, narrowed := true }
def MouthsGaugesUptoSaid : Prop := mouthsGaugesUptoRow.holds Try.pinned (OpenSpec.upto mouthsGaugesSpec)

/-- 'steeninglaw07.MouthsFrom', WHERE WHAT IT READS IS OF BULK AT MOST 1048576: true; the input reads as it did. -/
def mouthsFromUptoRow : OpenClaim := { program := "ythbicbmlbblflaa", sum := "1517a57449824320ca55b461bb44d7383ff2b2be4cf67b740a999bfd44959992", func := "steening/steeninglaw07.MouthsFrom", spec := "mouthsFrom", unfollowed := true, recurses := true, apart := false, narrowed := true }
def MouthsFromUptoSaid : Prop := mouthsFromUptoRow.holds Try.pinned (OpenSpec.upto mouthsFromSpec)

/-- 'steeninglaw07.MouthsExact', WHERE WHAT IT READS IS OF BULK AT MOST 1048576: true; the input reads as it did. -/
def mouthsExactUptoRow : OpenClaim := { program := "ythbicbmlbblflaa", sum := "1517a57449824320ca55b461bb44d7383ff2b2be4cf67b740a999bfd44959992", func := "steening/steeninglaw07.MouthsExact", spec := "mouthsExact", unfollowed := true, recurses := true, apart := false, narrowed := true }
def MouthsExactUptoSaid : Prop := mouthsExactUptoRow.holds Try.pinned (OpenSpec.upto mouthsExactSpec)

/-- 'steeninglaw07.MouthsParadox', WHERE WHAT IT READS IS OF BULK AT MOST 1048576: true; the input reads as it did. -/
def mouthsParadoxUptoRow : OpenClaim := { program := "ythbicbmlbblflaa", sum := "1517a57449824320ca55b461bb44d7383ff2b2be4cf67b740a999bfd44959992", func := "steening/steeninglaw07.MouthsParadox", spec := "mouthsParadox", unfollowed := true, recurses := true, apart := false, narrowed := true }
def MouthsParadoxUptoSaid : Prop := mouthsParadoxUptoRow.holds Try.pinned (OpenSpec.upto mouthsParadoxSpec)

/-- 'steeninglaw07.MouthsAll', WHERE WHAT IT READS IS OF BULK AT MOST 1048576: true; the input reads as it did. -/
def mouthsAllUptoRow : OpenClaim := { program := "ythbicbmlbblflaa", sum := "1517a57449824320ca55b461bb44d7383ff2b2be4cf67b740a999bfd44959992", func := "steening/steeninglaw07.MouthsAll", spec := "mouthsAll", unfollowed := true, recurses := true, apart := false, narrowed := true }
def MouthsAllUptoSaid : Prop := mouthsAllUptoRow.holds Try.pinned (OpenSpec.upto mouthsAllSpec)

/-- 'steeninglaw07.MouthsWorth', WHERE WHAT IT READS IS OF BULK AT MOST 1048576: true; the input reads as it did. -/
def mouthsWorthUptoRow : OpenClaim := { program := "ythbicbmlbblflaa", sum := "1517a57449824320ca55b461bb44d7383ff2b2be4cf67b740a999bfd44959992", func := "steening/steeninglaw07.MouthsWorth", spec := "mouthsWorth", unfollowed := true, recurses := true, apart := false, narrowed := true }
def MouthsWorthUptoSaid : Prop := mouthsWorthUptoRow.holds Try.pinned (OpenSpec.upto mouthsWorthSpec)

/-- 'steeninglaw07.MouthsShares', WHERE WHAT IT READS IS OF BULK AT MOST 1048576: true; the input reads as it did. -/
def mouthsSharesUptoRow : OpenClaim := { program := "ythbicbmlbblflaa", sum := "1517a57449824320ca55b461bb44d7383ff2b2be4cf67b740a999bfd44959992", func := "steening/steeninglaw07.MouthsShares", spec := "mouthsShares", unfollowed := true, recurses := true, apart := false, narrowed := true }
def MouthsSharesUptoSaid : Prop := mouthsSharesUptoRow.holds Try.pinned (OpenSpec.upto mouthsSharesSpec)

/-- 'steeninglaw07.MouthsMosts', WHERE WHAT IT READS IS OF BULK AT MOST 1048576: true; the input reads as it did. -/
def mouthsMostsUptoRow : OpenClaim := { program := "ythbicbmlbblflaa", sum := "1517a57449824320ca55b461bb44d7383ff2b2be4cf67b740a999bfd44959992", func := "steening/steeninglaw07.MouthsMosts", spec := "mouthsMosts", unfollowed := true, recurses := true, apart := false, narrowed := true }
def MouthsMostsUptoSaid : Prop := mouthsMostsUptoRow.holds Try.pinned (OpenSpec.upto mouthsMostsSpec)

/-- 'steeninglaw07.MouthsSome', WHERE WHAT IT READS IS OF BULK AT MOST 1048576: true; the input reads as it did. -/
def mouthsSomeUptoRow : OpenClaim := { program := "ythbicbmlbblflaa", sum := "1517a57449824320ca55b461bb44d7383ff2b2be4cf67b740a999bfd44959992", func := "steening/steeninglaw07.MouthsSome", spec := "mouthsSome", unfollowed := true, recurses := true, apart := false, narrowed := true }
def MouthsSomeUptoSaid : Prop := mouthsSomeUptoRow.holds Try.pinned (OpenSpec.upto mouthsSomeSpec)

/-- 'steeninglaw07.MouthsRounding', WHERE WHAT IT READS IS OF BULK AT MOST 1048576: true; the input reads as it did. -/
def mouthsRoundingUptoRow : OpenClaim := { program := "ythbicbmlbblflaa", sum := "1517a57449824320ca55b461bb44d7383ff2b2be4cf67b740a999bfd44959992", func := "steening/steeninglaw07.MouthsRounding", spec := "mouthsRounding", unfollowed := true, recurses := true, apart := false, narrowed := true }
def MouthsRoundingUptoSaid : Prop := mouthsRoundingUptoRow.holds Try.pinned (OpenSpec.upto mouthsRoundingSpec)

/-- 'steeninglaw07.MouthsAlike', WHERE WHAT IT READS IS OF BULK AT MOST 1048576: true; the input reads as it did. -/
def mouthsAlikeUptoRow : OpenClaim := { program := "ythbicbmlbblflaa", sum := "1517a57449824320ca55b461bb44d7383ff2b2be4cf67b740a999bfd44959992", func := "steening/steeninglaw07.MouthsAlike", spec := "mouthsAlike", unfollowed := true, recurses := true, apart := false, narrowed := true }
def MouthsAlikeUptoSaid : Prop := mouthsAlikeUptoRow.holds Try.pinned (OpenSpec.upto mouthsAlikeSpec)

/-- 'steeninglaw07.MouthsBack', WHERE WHAT IT READS IS OF BULK AT MOST 1048576: true; the input reads as it did. -/
def mouthsBackUptoRow : OpenClaim := { program := "ythbicbmlbblflaa", sum := "1517a57449824320ca55b461bb44d7383ff2b2be4cf67b740a999bfd44959992", func := "steening/steeninglaw07.MouthsBack", spec := "mouthsBack", unfollowed := true, recurses := true, apart := false, narrowed := true }
def MouthsBackUptoSaid : Prop := mouthsBackUptoRow.holds Try.pinned (OpenSpec.upto mouthsBackSpec)

end Rows
end Go.Proofs.Ythbicbmlbblflaa
