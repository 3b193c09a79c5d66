/-
  No cell of these rows narrows 'for every input' (looked for: loops, veiled, ifaces, maps, wideKeys, modest, calm, conditions, laid).
  DERIVED. THE GIVEN ROWS OF THIS SEAT. 6 by the template 'for every input the law returns true; each argument reads behind the call as it read before'; 0 by the template 'total and deterministic' (their statements: YtaaocomgmacjnaaTotals.lean).
  GIVEN WITH THE SEED: the statements are not yours to turn. If you find one false, say at which input.
  Laid BY PROGRAM, IN A SANDBOX (cutbox-rows.mjs): the forced cells as the released guide's own fill.sh prints them over the translation bc8c396834f9decd… (all of the seat's roots in one cut). By AI agents, Wed Nov 11 2026. No macro, syntax, notation, axiom, sorry.
-/
import Derived.Test.YtaaocomgmacjnaaChecked
import GoSem.Claim
import GoSem.ClaimJoined
import GoSem.ClaimMapViews
import Derived.JoinedTies
import Derived.KernelRfl
namespace Go.Proofs.Ytaaocomgmacjnaa
/- THE CELL 'sum', in the pinned program and in every row, IS THE sha256 OF THE DUMP (.gsa) THAT YtaaocomgmacjnaaProg.lean LOADS. Nothing in Lean hashes anything: it is a label: what it is worth is what the hold of that sum in a sandbox is worth. -/
noncomputable def Try.pinned : Pinned := { name := "ytaaocomgmacjnaa", sum := "bc8c396834f9decd5dbf499cce30174a417077a9de0932d747aaf1b7f763fbe4", checked := Try.checked }
namespace Rows
def none {H : Type} : Left H := { results := [], args := [] }

/-- 'steeninglaw04.DowsersLess': WHATEVER THE INPUT: true; the input reads as it did. -/
def dowsersLessSpec : ChangeSpec := { name := "dowsersLess", fn := fun _ => fun
  | [d1, d2, d3] => { results := [.lit (.bool true)], args := [d1, d2, d3] }
  | _ => none }
def dowsersLessRow : OpenClaim := { program := "ytaaocomgmacjnaa", sum := "bc8c396834f9decd5dbf499cce30174a417077a9de0932d747aaf1b7f763fbe4", func := "steening/steeninglaw04.DowsersLess", spec := "dowsersLess", unfollowed := true, recurses := true, plainKeys := false, apart := false }
def DowsersLessSaid : Prop := dowsersLessRow.holds Try.pinned (OpenSpec.ofChange dowsersLessSpec)

/-- ITS FALSE NEIGHBOUR: 'it returns false'. Refute it at one input. -/
def dowsersLessWrong : ChangeSpec := { name := "dowsersLess", fn := fun _ => fun
  | [d1, d2, d3] => { results := [.lit (.bool false)], args := [d1, d2, d3] }
  | _ => none }
def DowsersLessWrongFalsely : Prop := dowsersLessRow.holds Try.pinned (OpenSpec.ofChange dowsersLessWrong)

/-- 'steeninglaw04.DowsersScore': WHATEVER THE INPUT: true; the input reads as it did. -/
def dowsersScoreSpec : ChangeSpec := { name := "dowsersScore", fn := fun _ => fun
  | [d1, d2] => { results := [.lit (.bool true)], args := [d1, d2] }
  | _ => none }
def dowsersScoreRow : OpenClaim := { program := "ytaaocomgmacjnaa", sum := "bc8c396834f9decd5dbf499cce30174a417077a9de0932d747aaf1b7f763fbe4", func := "steening/steeninglaw04.DowsersScore", spec := "dowsersScore", unfollowed := true, recurses := true, plainKeys := false, apart := false }
def DowsersScoreSaid : Prop := dowsersScoreRow.holds Try.pinned (OpenSpec.ofChange dowsersScoreSpec)

/-- ITS FALSE NEIGHBOUR: 'it returns false'. Refute it at one input. -/
def dowsersScoreWrong : ChangeSpec := { name := "dowsersScore", fn := fun _ => fun
  | [d1, d2] => { results := [.lit (.bool false)], args := [d1, d2] }
  | _ => none }
def DowsersScoreWrongFalsely : Prop := dowsersScoreRow.holds Try.pinned (OpenSpec.ofChange dowsersScoreWrong)

/-- 'steeninglaw04.DowsersPurse': WHATEVER THE INPUT: true; the input reads as it did. -/
def dowsersPurseSpec : ChangeSpec := { name := "dowsersPurse", fn := fun _ => fun
  | [d1, d2, d3] => { results := [.lit (.bool true)], args := [d1, d2, d3] }
  | _ => none }
def dowsersPurseRow : OpenClaim := { program := "ytaaocomgmacjnaa", sum := "bc8c396834f9decd5dbf499cce30174a417077a9de0932d747aaf1b7f763fbe4", func := "steening/steeninglaw04.DowsersPurse", spec := "dowsersPurse", unfollowed := true, recurses := true, plainKeys := false, apart := false }
def DowsersPurseSaid : Prop := dowsersPurseRow.holds Try.pinned (OpenSpec.ofChange dowsersPurseSpec)

/-- ITS FALSE NEIGHBOUR: 'it returns false'. Refute it at one input. -/
def dowsersPurseWrong : ChangeSpec := { name := "dowsersPurse", fn := fun _ => fun
  | [d1, d2, d3] => { results := [.lit (.bool false)], args := [d1, d2, d3] }
  | _ => none }
def DowsersPurseWrongFalsely : Prop := dowsersPurseRow.holds Try.pinned (OpenSpec.ofChange dowsersPurseWrong)

/-- 'steeninglaw04.DowsersChance': WHATEVER THE INPUT: true; the input reads as it did. -/
def dowsersChanceSpec : ChangeSpec := { name := "dowsersChance", fn := fun _ => fun
  | [d1, d2] => { results := [.lit (.bool true)], args := [d1, d2] }
  | _ => none }
def dowsersChanceRow : OpenClaim := { program := "ytaaocomgmacjnaa", sum := "bc8c396834f9decd5dbf499cce30174a417077a9de0932d747aaf1b7f763fbe4", func := "steening/steeninglaw04.DowsersChance", spec := "dowsersChance", unfollowed := true, recurses := true, plainKeys := false, apart := false }
def DowsersChanceSaid : Prop := dowsersChanceRow.holds Try.pinned (OpenSpec.ofChange dowsersChanceSpec)

/-- ITS FALSE NEIGHBOUR: 'it returns false'. Refute it at one input. -/
def dowsersChanceWrong : ChangeSpec := { name := "dowsersChance", fn := fun _ => fun
  | [d1, d2] => { results := [.lit (.bool false)], args := [d1, d2] }
  | _ => none }
def DowsersChanceWrongFalsely : Prop := dowsersChanceRow.holds Try.pinned (OpenSpec.ofChange dowsersChanceWrong)

/-- 'steeninglaw04.DowsersChances': WHATEVER THE INPUT: true; the input reads as it did. -/
def dowsersChancesSpec : ChangeSpec := { name := "dowsersChances", fn := fun _ => fun
  | [d1, d2] => { results := [.lit (.bool true)], args := [d1, d2] }
  | _ => none }
def dowsersChancesRow : OpenClaim := { program := "ytaaocomgmacjnaa", sum := "bc8c396834f9decd5dbf499cce30174a417077a9de0932d747aaf1b7f763fbe4", func := "steening/steeninglaw04.DowsersChances", spec := "dowsersChances", unfollowed := true, recurses := true, plainKeys := false, apart := false }
def DowsersChancesSaid : Prop := dowsersChancesRow.holds Try.pinned (OpenSpec.ofChange dowsersChancesSpec)

/-- ITS FALSE NEIGHBOUR: 'it returns false'. Refute it at one input. -/
def dowsersChancesWrong : ChangeSpec := { name := "dowsersChances", fn := fun _ => fun
  | [d1, d2] => { results := [.lit (.bool false)], args := [d1, d2] }
  | _ => none }
def DowsersChancesWrongFalsely : Prop := dowsersChancesRow.holds Try.pinned (OpenSpec.ofChange dowsersChancesWrong)

/-- 'steeninglaw04.DowsersMany': WHATEVER THE INPUT: true; the input reads as it did. -/
def dowsersManySpec : ChangeSpec := { name := "dowsersMany", fn := fun _ => fun
  | [d1, d2] => { results := [.lit (.bool true)], args := [d1, d2] }
  | _ => none }
def dowsersManyRow : OpenClaim := { program := "ytaaocomgmacjnaa", sum := "bc8c396834f9decd5dbf499cce30174a417077a9de0932d747aaf1b7f763fbe4", func := "steening/steeninglaw04.DowsersMany", spec := "dowsersMany", unfollowed := true, recurses := true, plainKeys := false, apart := false }
def DowsersManySaid : Prop := dowsersManyRow.holds Try.pinned (OpenSpec.ofChange dowsersManySpec)

/-- ITS FALSE NEIGHBOUR: 'it returns false'. Refute it at one input. -/
def dowsersManyWrong : ChangeSpec := { name := "dowsersMany", fn := fun _ => fun
  | [d1, d2] => { results := [.lit (.bool false)], args := [d1, d2] }
  | _ => none }
def DowsersManyWrongFalsely : Prop := dowsersManyRow.holds Try.pinned (OpenSpec.ofChange dowsersManyWrong)

/- THE SECOND FORM. 'bulk': how many values and letters a reading holds, each counted each time it is reached (what is shared counts as often as it is met; a slice's spare places count too). A statement '..UptoSaid' is the law's where the arguments, and the package variables that the reading takes, are together of bulk at most 1048576: NARROWER than '..Said'. Prove '..Said' where nothing that the law and all that it calls make is longer than what came in: it says more and counts as full. Else prove '..UptoSaid'. A law counts once. -/
mutual
def uptoBulk {H : Type} : DataW H → Nat
  | .lit (.string bytes) => bytes.length + 1
  | .lit _ => 1
  | .nil => 1
  | .ptr d => uptoBulk d + 1
  | .slice elems spare => uptoBulkAll elems + uptoBulkAll spare + 1
  | .agg parts => uptoBulkAll parts + 1
  | .iface _ d => uptoBulk d + 1
  | .map entries => uptoBulkEntries entries + 1
  | .held _ => 1
def uptoBulkAll {H : Type} : List (DataW H) → Nat
  | [] => 0
  | d :: r => uptoBulk d + uptoBulkAll r
def uptoBulkEntries {H : Type} : List (Lit × DataW H) → Nat
  | [] => 0
  | x :: r => uptoBulkEntry x + uptoBulkEntries r
def uptoBulkEntry {H : Type} : Lit × DataW H → Nat
  | (.string bytes, d) => bytes.length + uptoBulk d + 1
  | (_, d) => uptoBulk d + 1
 end
def uptoSmall : (H : Type) → List (DataW H) → Bool := fun _ ds => decide (uptoBulkAll ds ≤ 1048576)
def OpenSpec.upto (s : _root_.Go.ChangeSpec) : _root_.Go.OpenSpec := { _root_.Go.OpenSpec.ofChange s with cond := some uptoSmall }

/-- 'steeninglaw04.DowsersLess', WHERE WHAT IT READS IS OF BULK AT MOST 1048576: true; the input reads as it did. -/
def dowsersLessUptoRow : OpenClaim := { program := "ytaaocomgmacjnaa", sum := "bc8c396834f9decd5dbf499cce30174a417077a9de0932d747aaf1b7f763fbe4", func := "steening/steeninglaw04.DowsersLess", spec := "dowsersLess", unfollowed := true, recurses := true, plainKeys := false, apart := false, narrowed := true }
def DowsersLessUptoSaid : Prop := dowsersLessUptoRow.holds Try.pinned (OpenSpec.upto dowsersLessSpec)

/-- 'steeninglaw04.DowsersScore', WHERE WHAT IT READS IS OF BULK AT MOST 1048576: true; the input reads as it did. -/
def dowsersScoreUptoRow : OpenClaim := { program := "ytaaocomgmacjnaa", sum := "bc8c396834f9decd5dbf499cce30174a417077a9de0932d747aaf1b7f763fbe4", func := "steening/steeninglaw04.DowsersScore", spec := "dowsersScore", unfollowed := true, recurses := true, plainKeys := false, apart := false, narrowed := true }
def DowsersScoreUptoSaid : Prop := dowsersScoreUptoRow.holds Try.pinned (OpenSpec.upto dowsersScoreSpec)

/-- 'steeninglaw04.DowsersPurse', WHERE WHAT IT READS IS OF BULK AT MOST 1048576: true; the input reads as it did. -/
def dowsersPurseUptoRow : OpenClaim := { program := "ytaaocomgmacjnaa", sum := "bc8c396834f9decd5dbf499cce30174a417077a9de0932d747aaf1b7f763fbe4", func := "steening/steeninglaw04.DowsersPurse", spec := "dowsersPurse", unfollowed := true, recurses := true, plainKeys := false, apart := false, narrowed := true }
def DowsersPurseUptoSaid : Prop := dowsersPurseUptoRow.holds Try.pinned (OpenSpec.upto dowsersPurseSpec)

/-- 'steeninglaw04.DowsersChance', WHERE WHAT IT READS IS OF BULK AT MOST 1048576: true; the input reads as it did. -/
def dowsersChanceUptoRow : OpenClaim := { program := "ytaaocomgmacjnaa", sum := "bc8c396834f9decd5dbf499cce30174a417077a9de0932d747aaf1b7f763fbe4", func := "steening/steeninglaw04.DowsersChance", spec := "dowsersChance", unfollowed := true, recurses := true, plainKeys := false, apart := false, narrowed := true }
def DowsersChanceUptoSaid : Prop := dowsersChanceUptoRow.holds Try.pinned (OpenSpec.upto dowsersChanceSpec)

/-- 'steeninglaw04.DowsersChances', WHERE WHAT IT READS IS OF BULK AT MOST 1048576: true; the input reads as it did. -/
def dowsersChancesUptoRow : OpenClaim := { program := "ytaaocomgmacjnaa", sum := "bc8c396834f9decd5dbf499cce30174a417077a9de0932d747aaf1b7f763fbe4", func := "steening/steeninglaw04.DowsersChances", spec := "dowsersChances", unfollowed := true, recurses := true, plainKeys := false, apart := false, narrowed := true }
def DowsersChancesUptoSaid : Prop := dowsersChancesUptoRow.holds Try.pinned (OpenSpec.upto dowsersChancesSpec)

/-- 'steeninglaw04.DowsersMany', WHERE WHAT IT READS IS OF BULK AT MOST 1048576: true; the input reads as it did. -/
def dowsersManyUptoRow : OpenClaim := { program := "ytaaocomgmacjnaa", sum := "bc8c396834f9decd5dbf499cce30174a417077a9de0932d747aaf1b7f763fbe4", func := "steening/steeninglaw04.DowsersMany", spec := "dowsersMany", unfollowed := true, recurses := true, plainKeys := false, apart := false, narrowed := true }
def DowsersManyUptoSaid : Prop := dowsersManyUptoRow.holds Try.pinned (OpenSpec.upto dowsersManySpec)

end Rows
end Go.Proofs.Ytaaocomgmacjnaa
