/-
  No cell of these rows narrows 'for every input' (looked for: loops, veiled, ifaces, maps, wideKeys, modest, calm, conditions, laid).
  DERIVED. THE GIVEN ROWS OF THIS SEAT. 12 by the template 'for every input the law returns true; each argument reads behind the call as it read before'; 0 by the template 'total and deterministic' (their statements: YtegkgfiaegpihaaTotals.lean).
  GIVEN WITH THE SEED: the statements are not yours to turn. If you find one false, say at which input.
  Laid BY PROGRAM, IN A SANDBOX (cutbox-rows.mjs): the forced cells as the released guide's own fill.sh prints them over the translation 45cae4a62dcc9bf9… (all of the seat's roots in one cut). By AI agents, Wed Nov 11 2026. No macro, syntax, notation, axiom, sorry.
-/
import Derived.Test.YtegkgfiaegpihaaChecked
import GoSem.Claim
import GoSem.ClaimJoined
import GoSem.ClaimMapViews
import Derived.JoinedTies
import Derived.KernelRfl
namespace Go.Proofs.Ytegkgfiaegpihaa
/- THE CELL 'sum', in the pinned program and in every row, IS THE sha256 OF THE DUMP (.gsa) THAT YtegkgfiaegpihaaProg.lean LOADS. Nothing in Lean hashes anything: it is a label: what it is worth is what the hold of that sum in a sandbox is worth. -/
noncomputable def Try.pinned : Pinned := { name := "ytegkgfiaegpihaa", sum := "45cae4a62dcc9bf93148066d4e379704c90418e3bc004da13ee44762cf90d7c8", checked := Try.checked }
namespace Rows
def none {H : Type} : Left H := { results := [], args := [] }

/-- 'steeninglaw08.HoursEach': WHATEVER THE INPUT: true; the input reads as it did. -/
def hoursEachSpec : ChangeSpec := { name := "hoursEach", fn := fun _ => fun
  | [d1, d2] => { results := [.lit (.bool true)], args := [d1, d2] }
  | _ => none }
def hoursEachRow : OpenClaim := { program := "ytegkgfiaegpihaa", sum := "45cae4a62dcc9bf93148066d4e379704c90418e3bc004da13ee44762cf90d7c8", func := "steening/steeninglaw08.HoursEach", spec := "hoursEach", unfollowed := true, recurses := true, plainKeys := false, apart := false }
def HoursEachSaid : Prop := hoursEachRow.holds Try.pinned (OpenSpec.ofChange hoursEachSpec)

/-- ITS FALSE NEIGHBOUR: 'it returns false'. Refute it at one input. -/
def hoursEachWrong : ChangeSpec := { name := "hoursEach", fn := fun _ => fun
  | [d1, d2] => { results := [.lit (.bool false)], args := [d1, d2] }
  | _ => none }
def HoursEachWrongFalsely : Prop := hoursEachRow.holds Try.pinned (OpenSpec.ofChange hoursEachWrong)

/-- 'steeninglaw08.HoursStay': WHATEVER THE INPUT: true; the input reads as it did. -/
def hoursStaySpec : ChangeSpec := { name := "hoursStay", fn := fun _ => fun
  | [d1, d2] => { results := [.lit (.bool true)], args := [d1, d2] }
  | _ => none }
def hoursStayRow : OpenClaim := { program := "ytegkgfiaegpihaa", sum := "45cae4a62dcc9bf93148066d4e379704c90418e3bc004da13ee44762cf90d7c8", func := "steening/steeninglaw08.HoursStay", spec := "hoursStay", unfollowed := true, recurses := true, plainKeys := false, apart := false }
def HoursStaySaid : Prop := hoursStayRow.holds Try.pinned (OpenSpec.ofChange hoursStaySpec)

/-- ITS FALSE NEIGHBOUR: 'it returns false'. Refute it at one input. -/
def hoursStayWrong : ChangeSpec := { name := "hoursStay", fn := fun _ => fun
  | [d1, d2] => { results := [.lit (.bool false)], args := [d1, d2] }
  | _ => none }
def HoursStayWrongFalsely : Prop := hoursStayRow.holds Try.pinned (OpenSpec.ofChange hoursStayWrong)

/-- 'steeninglaw08.HoursMore': WHATEVER THE INPUT: true; the input reads as it did. -/
def hoursMoreSpec : ChangeSpec := { name := "hoursMore", fn := fun _ => fun
  | [d1, d2, d3] => { results := [.lit (.bool true)], args := [d1, d2, d3] }
  | _ => none }
def hoursMoreRow : OpenClaim := { program := "ytegkgfiaegpihaa", sum := "45cae4a62dcc9bf93148066d4e379704c90418e3bc004da13ee44762cf90d7c8", func := "steening/steeninglaw08.HoursMore", spec := "hoursMore", unfollowed := true, recurses := true, plainKeys := false, apart := false }
def HoursMoreSaid : Prop := hoursMoreRow.holds Try.pinned (OpenSpec.ofChange hoursMoreSpec)

/-- ITS FALSE NEIGHBOUR: 'it returns false'. Refute it at one input. -/
def hoursMoreWrong : ChangeSpec := { name := "hoursMore", fn := fun _ => fun
  | [d1, d2, d3] => { results := [.lit (.bool false)], args := [d1, d2, d3] }
  | _ => none }
def HoursMoreWrongFalsely : Prop := hoursMoreRow.holds Try.pinned (OpenSpec.ofChange hoursMoreWrong)

/-- 'steeninglaw08.HoursLess': WHATEVER THE INPUT: true; the input reads as it did. -/
def hoursLessSpec : ChangeSpec := { name := "hoursLess", fn := fun _ => fun
  | [d1, d2] => { results := [.lit (.bool true)], args := [d1, d2] }
  | _ => none }
def hoursLessRow : OpenClaim := { program := "ytegkgfiaegpihaa", sum := "45cae4a62dcc9bf93148066d4e379704c90418e3bc004da13ee44762cf90d7c8", func := "steening/steeninglaw08.HoursLess", spec := "hoursLess", unfollowed := true, recurses := true, plainKeys := false, apart := false }
def HoursLessSaid : Prop := hoursLessRow.holds Try.pinned (OpenSpec.ofChange hoursLessSpec)

/-- ITS FALSE NEIGHBOUR: 'it returns false'. Refute it at one input. -/
def hoursLessWrong : ChangeSpec := { name := "hoursLess", fn := fun _ => fun
  | [d1, d2] => { results := [.lit (.bool false)], args := [d1, d2] }
  | _ => none }
def HoursLessWrongFalsely : Prop := hoursLessRow.holds Try.pinned (OpenSpec.ofChange hoursLessWrong)

/-- 'steeninglaw08.HoursSwaps': WHATEVER THE INPUT: true; the input reads as it did. -/
def hoursSwapsSpec : ChangeSpec := { name := "hoursSwaps", fn := fun _ => fun
  | [d1, d2] => { results := [.lit (.bool true)], args := [d1, d2] }
  | _ => none }
def hoursSwapsRow : OpenClaim := { program := "ytegkgfiaegpihaa", sum := "45cae4a62dcc9bf93148066d4e379704c90418e3bc004da13ee44762cf90d7c8", func := "steening/steeninglaw08.HoursSwaps", spec := "hoursSwaps", unfollowed := true, recurses := true, plainKeys := false, apart := false }
def HoursSwapsSaid : Prop := hoursSwapsRow.holds Try.pinned (OpenSpec.ofChange hoursSwapsSpec)

/-- ITS FALSE NEIGHBOUR: 'it returns false'. Refute it at one input. -/
def hoursSwapsWrong : ChangeSpec := { name := "hoursSwaps", fn := fun _ => fun
  | [d1, d2] => { results := [.lit (.bool false)], args := [d1, d2] }
  | _ => none }
def HoursSwapsWrongFalsely : Prop := hoursSwapsRow.holds Try.pinned (OpenSpec.ofChange hoursSwapsWrong)

/-- 'steeninglaw08.HoursBack': WHATEVER THE INPUT: true; the input reads as it did. -/
def hoursBackSpec : ChangeSpec := { name := "hoursBack", fn := fun _ => fun
  | [d1, d2, d3] => { results := [.lit (.bool true)], args := [d1, d2, d3] }
  | _ => none }
def hoursBackRow : OpenClaim := { program := "ytegkgfiaegpihaa", sum := "45cae4a62dcc9bf93148066d4e379704c90418e3bc004da13ee44762cf90d7c8", func := "steening/steeninglaw08.HoursBack", spec := "hoursBack", unfollowed := true, recurses := true, plainKeys := false, apart := false }
def HoursBackSaid : Prop := hoursBackRow.holds Try.pinned (OpenSpec.ofChange hoursBackSpec)

/-- ITS FALSE NEIGHBOUR: 'it returns false'. Refute it at one input. -/
def hoursBackWrong : ChangeSpec := { name := "hoursBack", fn := fun _ => fun
  | [d1, d2, d3] => { results := [.lit (.bool false)], args := [d1, d2, d3] }
  | _ => none }
def HoursBackWrongFalsely : Prop := hoursBackRow.holds Try.pinned (OpenSpec.ofChange hoursBackWrong)

/-- 'steeninglaw08.HoursOrder': WHATEVER THE INPUT: true; the input reads as it did. -/
def hoursOrderSpec : ChangeSpec := { name := "hoursOrder", fn := fun _ => fun
  | [d1, d2, d3] => { results := [.lit (.bool true)], args := [d1, d2, d3] }
  | _ => none }
def hoursOrderRow : OpenClaim := { program := "ytegkgfiaegpihaa", sum := "45cae4a62dcc9bf93148066d4e379704c90418e3bc004da13ee44762cf90d7c8", func := "steening/steeninglaw08.HoursOrder", spec := "hoursOrder", unfollowed := true, recurses := true, plainKeys := false, apart := false }
def HoursOrderSaid : Prop := hoursOrderRow.holds Try.pinned (OpenSpec.ofChange hoursOrderSpec)

/-- ITS FALSE NEIGHBOUR: 'it returns false'. Refute it at one input. -/
def hoursOrderWrong : ChangeSpec := { name := "hoursOrder", fn := fun _ => fun
  | [d1, d2, d3] => { results := [.lit (.bool false)], args := [d1, d2, d3] }
  | _ => none }
def HoursOrderWrongFalsely : Prop := hoursOrderRow.holds Try.pinned (OpenSpec.ofChange hoursOrderWrong)

/-- 'steeninglaw08.HoursGive': WHATEVER THE INPUT: true; the input reads as it did. -/
def hoursGiveSpec : ChangeSpec := { name := "hoursGive", fn := fun _ => fun
  | [d1, d2, d3] => { results := [.lit (.bool true)], args := [d1, d2, d3] }
  | _ => none }
def hoursGiveRow : OpenClaim := { program := "ytegkgfiaegpihaa", sum := "45cae4a62dcc9bf93148066d4e379704c90418e3bc004da13ee44762cf90d7c8", func := "steening/steeninglaw08.HoursGive", spec := "hoursGive", unfollowed := true, recurses := true, plainKeys := false, apart := false }
def HoursGiveSaid : Prop := hoursGiveRow.holds Try.pinned (OpenSpec.ofChange hoursGiveSpec)

/-- ITS FALSE NEIGHBOUR: 'it returns false'. Refute it at one input. -/
def hoursGiveWrong : ChangeSpec := { name := "hoursGive", fn := fun _ => fun
  | [d1, d2, d3] => { results := [.lit (.bool false)], args := [d1, d2, d3] }
  | _ => none }
def HoursGiveWrongFalsely : Prop := hoursGiveRow.holds Try.pinned (OpenSpec.ofChange hoursGiveWrong)

/-- 'steeninglaw08.HoursCost': WHATEVER THE INPUT: true; the input reads as it did. -/
def hoursCostSpec : ChangeSpec := { name := "hoursCost", fn := fun _ => fun
  | [d1, d2] => { results := [.lit (.bool true)], args := [d1, d2] }
  | _ => none }
def hoursCostRow : OpenClaim := { program := "ytegkgfiaegpihaa", sum := "45cae4a62dcc9bf93148066d4e379704c90418e3bc004da13ee44762cf90d7c8", func := "steening/steeninglaw08.HoursCost", spec := "hoursCost", unfollowed := true, recurses := true, plainKeys := false, apart := false }
def HoursCostSaid : Prop := hoursCostRow.holds Try.pinned (OpenSpec.ofChange hoursCostSpec)

/-- ITS FALSE NEIGHBOUR: 'it returns false'. Refute it at one input. -/
def hoursCostWrong : ChangeSpec := { name := "hoursCost", fn := fun _ => fun
  | [d1, d2] => { results := [.lit (.bool false)], args := [d1, d2] }
  | _ => none }
def HoursCostWrongFalsely : Prop := hoursCostRow.holds Try.pinned (OpenSpec.ofChange hoursCostWrong)

/-- 'steeninglaw08.HoursLeast': WHATEVER THE INPUT: true; the input reads as it did. -/
def hoursLeastSpec : ChangeSpec := { name := "hoursLeast", fn := fun _ => fun
  | [d1, d2] => { results := [.lit (.bool true)], args := [d1, d2] }
  | _ => none }
def hoursLeastRow : OpenClaim := { program := "ytegkgfiaegpihaa", sum := "45cae4a62dcc9bf93148066d4e379704c90418e3bc004da13ee44762cf90d7c8", func := "steening/steeninglaw08.HoursLeast", spec := "hoursLeast", unfollowed := true, recurses := true, plainKeys := false, apart := false }
def HoursLeastSaid : Prop := hoursLeastRow.holds Try.pinned (OpenSpec.ofChange hoursLeastSpec)

/-- ITS FALSE NEIGHBOUR: 'it returns false'. Refute it at one input. -/
def hoursLeastWrong : ChangeSpec := { name := "hoursLeast", fn := fun _ => fun
  | [d1, d2] => { results := [.lit (.bool false)], args := [d1, d2] }
  | _ => none }
def HoursLeastWrongFalsely : Prop := hoursLeastRow.holds Try.pinned (OpenSpec.ofChange hoursLeastWrong)

/-- 'steeninglaw08.HoursFar': WHATEVER THE INPUT: true; the input reads as it did. -/
def hoursFarSpec : ChangeSpec := { name := "hoursFar", fn := fun _ => fun
  | [d] => { results := [.lit (.bool true)], args := [d] }
  | _ => none }
def hoursFarRow : OpenClaim := { program := "ytegkgfiaegpihaa", sum := "45cae4a62dcc9bf93148066d4e379704c90418e3bc004da13ee44762cf90d7c8", func := "steening/steeninglaw08.HoursFar", spec := "hoursFar", unfollowed := true, recurses := true, plainKeys := false, apart := false }
def HoursFarSaid : Prop := hoursFarRow.holds Try.pinned (OpenSpec.ofChange hoursFarSpec)

/-- ITS FALSE NEIGHBOUR: 'it returns false'. Refute it at one input. -/
def hoursFarWrong : ChangeSpec := { name := "hoursFar", fn := fun _ => fun
  | [d] => { results := [.lit (.bool false)], args := [d] }
  | _ => none }
def HoursFarWrongFalsely : Prop := hoursFarRow.holds Try.pinned (OpenSpec.ofChange hoursFarWrong)

/-- 'steeninglaw08.HoursSwap': WHATEVER THE INPUT: true; the input reads as it did. -/
def hoursSwapSpec : ChangeSpec := { name := "hoursSwap", fn := fun _ => fun
  | [d1, d2, d3] => { results := [.lit (.bool true)], args := [d1, d2, d3] }
  | _ => none }
def hoursSwapRow : OpenClaim := { program := "ytegkgfiaegpihaa", sum := "45cae4a62dcc9bf93148066d4e379704c90418e3bc004da13ee44762cf90d7c8", func := "steening/steeninglaw08.HoursSwap", spec := "hoursSwap", unfollowed := true, recurses := true, plainKeys := false, apart := false }
def HoursSwapSaid : Prop := hoursSwapRow.holds Try.pinned (OpenSpec.ofChange hoursSwapSpec)

/-- ITS FALSE NEIGHBOUR: 'it returns false'. Refute it at one input. -/
def hoursSwapWrong : ChangeSpec := { name := "hoursSwap", fn := fun _ => fun
  | [d1, d2, d3] => { results := [.lit (.bool false)], args := [d1, d2, d3] }
  | _ => none }
def HoursSwapWrongFalsely : Prop := hoursSwapRow.holds Try.pinned (OpenSpec.ofChange hoursSwapWrong)

/- THE SECOND FORM. 'bulk': how many values and letters a reading holds, each counted each time it is reached (what is shared counts as often as it is met; a slice's spare places count too). A statement '..UptoSaid' is the law's where the arguments, and the package variables that the reading takes, are together of bulk at most 1048576: NARROWER than '..Said'. Prove '..Said' where nothing that the law and all that it calls make is longer than what came in: it says more and counts as full. Else prove '..UptoSaid'. A law counts once. -/
mutual
def uptoBulk {H : Type} : DataW H → Nat
  | .lit (.string bytes) => bytes.length + 1
  | .lit _ => 1
  | .nil => 1
  | .ptr d => uptoBulk d + 1
  | .slice elems spare => uptoBulkAll elems + uptoBulkAll spare + 1
  | .agg parts => uptoBulkAll parts + 1
  | .iface _ d => uptoBulk d + 1
  | .map entries => uptoBulkEntries entries + 1
  | .held _ => 1
def uptoBulkAll {H : Type} : List (DataW H) → Nat
  | [] => 0
  | d :: r => uptoBulk d + uptoBulkAll r
def uptoBulkEntries {H : Type} : List (Lit × DataW H) → Nat
  | [] => 0
  | x :: r => uptoBulkEntry x + uptoBulkEntries r
def uptoBulkEntry {H : Type} : Lit × DataW H → Nat
  | (.string bytes, d) => bytes.length + uptoBulk d + 1
  | (_, d) => uptoBulk d + 1
 end
def uptoSmall : (H : Type) → List (DataW H) → Bool := fun _ ds => decide (uptoBulkAll ds ≤ 1048576)
def OpenSpec.upto (s : _root_.Go.ChangeSpec) : _root_.Go.OpenSpec := { _root_.Go.OpenSpec.ofChange s with cond := some uptoSmall }

/-- 'steeninglaw08.HoursEach', WHERE WHAT IT READS IS OF BULK AT MOST 1048576: true; the input reads as it did. -/
def hoursEachUptoRow : OpenClaim := { program := "ytegkgfiaegpihaa", sum := "45cae4a62dcc9bf93148066d4e379704c90418e3bc004da13ee44762cf90d7c8", func := "steening/steeninglaw08.HoursEach", spec := "hoursEach", unfollowed := true, recurses := true, plainKeys := false, apart := false, narrowed := true }
def HoursEachUptoSaid : Prop := hoursEachUptoRow.holds Try.pinned (OpenSpec.upto hoursEachSpec)

/-- 'steeninglaw08.HoursStay', WHERE WHAT IT READS IS OF BULK AT MOST 1048576: true; the input reads as it did. -/
def hoursStayUptoRow : OpenClaim := { program := "ytegkgfiaegpihaa", sum := "45cae4a62dcc9bf93148066d4e379704c90418e3bc004da13ee44762cf90d7c8", func := "steening/steeninglaw08.HoursStay", spec := "hoursStay", unfollowed := true, recurses := true, plainKeys := false, apart := false, narrowed := true }
def HoursStayUptoSaid : Prop := hoursStayUptoRow.holds Try.pinned (OpenSpec.upto hoursStaySpec)

/-- 'steeninglaw08.HoursMore', WHERE WHAT IT READS IS OF BULK AT MOST 1048576: true; the input reads as it did. -/
def hoursMoreUptoRow : OpenClaim := { program := "ytegkgfiaegpihaa", sum := "45cae4a62dcc9bf93148066d4e379704c90418e3bc004da13ee44762cf90d7c8", func := "steening/steeninglaw08.HoursMore", spec := "hoursMore", unfollowed := true, recurses := true, plainKeys := false, apart := false, narrowed := true }
def HoursMoreUptoSaid : Prop := hoursMoreUptoRow.holds Try.pinned (OpenSpec.upto hoursMoreSpec)

/-- 'steeninglaw08.HoursLess', WHERE WHAT IT READS IS OF BULK AT MOST 1048576: true; the input reads as it did. -/
def hoursLessUptoRow : OpenClaim := { program := "ytegkgfiaegpihaa", sum := "45cae4a62dcc9bf93148066d4e379704c90418e3bc004da13ee44762cf90d7c8", func := "steening/steeninglaw08.HoursLess", spec := "hoursLess", unfollowed := true, recurses := true, plainKeys := false, apart := false, narrowed := true }
def HoursLessUptoSaid : Prop := hoursLessUptoRow.holds Try.pinned (OpenSpec.upto hoursLessSpec)

/-- 'steeninglaw08.HoursSwaps', WHERE WHAT IT READS IS OF BULK AT MOST 1048576: true; the input reads as it did. -/
def hoursSwapsUptoRow : OpenClaim := { program := "ytegkgfiaegpihaa", sum := "45cae4a62dcc9bf93148066d4e379704c90418e3bc004da13ee44762cf90d7c8", func := "steening/steeninglaw08.HoursSwaps", spec := "hoursSwaps", unfollowed := true, recurses := true, plainKeys := false, apart := false, narrowed := true }
def HoursSwapsUptoSaid : Prop := hoursSwapsUptoRow.holds Try.pinned (OpenSpec.upto hoursSwapsSpec)

/-- 'steeninglaw08.HoursBack', WHERE WHAT IT READS IS OF BULK AT MOST 1048576: true; the input reads as it did. -/
def hoursBackUptoRow : OpenClaim := { program := "ytegkgfiaegpihaa", sum := "45cae4a62dcc9bf93148066d4e379704c90418e3bc004da13ee44762cf90d7c8", func := "steening/steeninglaw08.HoursBack", spec := "hoursBack", unfollowed := true, recurses := true, plainKeys := false, apart := false, narrowed := true }
def HoursBackUptoSaid : Prop := hoursBackUptoRow.holds Try.pinned (OpenSpec.upto hoursBackSpec)

/-- 'steeninglaw08.HoursOrder', WHERE WHAT IT READS IS OF BULK AT MOST 1048576: true; the input reads as it did. -/
def hoursOrderUptoRow : OpenClaim := { program := "ytegkgfiaegpihaa", sum := "45cae4a62dcc9bf93148066d4e379704c90418e3bc004da13ee44762cf90d7c8", func := "steening/steeninglaw08.HoursOrder", spec := "hoursOrder", unfollowed := true, recurses := true, plainKeys := false, apart := false, narrowed := true }
def HoursOrderUptoSaid : Prop := hoursOrderUptoRow.holds Try.pinned (OpenSpec.upto hoursOrderSpec)

/-- 'steeninglaw08.HoursGive', WHERE WHAT IT READS IS OF BULK AT MOST 1048576: true; the input reads as it did. -/
def hoursGiveUptoRow : OpenClaim := { program := "ytegkgfiaegpihaa", sum := "45cae4a62dcc9bf93148066d4e379704c90418e3bc004da13ee44762cf90d7c8", func := "steening/steeninglaw08.HoursGive", spec := "hoursGive", unfollowed := true, recurses := true, plainKeys := false, apart := false, narrowed := true }
def HoursGiveUptoSaid : Prop := hoursGiveUptoRow.holds Try.pinned (OpenSpec.upto hoursGiveSpec)

/-- 'steeninglaw08.HoursCost', WHERE WHAT IT READS IS OF BULK AT MOST 1048576: true; the input reads as it did. -/
def hoursCostUptoRow : OpenClaim := { program := "ytegkgfiaegpihaa", sum := "45cae4a62dcc9bf93148066d4e379704c90418e3bc004da13ee44762cf90d7c8", func := "steening/steeninglaw08.HoursCost", spec := "hoursCost", unfollowed := true, recurses := true, plainKeys := false, apart := false, narrowed := true }
def HoursCostUptoSaid : Prop := hoursCostUptoRow.holds Try.pinned (OpenSpec.upto hoursCostSpec)

/-- 'steeninglaw08.HoursLeast', WHERE WHAT IT READS IS OF BULK AT MOST 1048576: true; the input reads as it did. -/
def hoursLeastUptoRow : OpenClaim := { program := "ytegkgfiaegpihaa", sum := "45cae4a62dcc9bf93148066d4e379704c90418e3bc004da13ee44762cf90d7c8", func := "steening/steeninglaw08.HoursLeast", spec := "hoursLeast", unfollowed := true, recurses := true, plainKeys := false, apart := false, narrowed := true }
def HoursLeastUptoSaid : Prop := hoursLeastUptoRow.holds Try.pinned (OpenSpec.upto hoursLeastSpec)

/-- 'steeninglaw08.HoursFar', WHERE WHAT IT READS IS OF BULK AT MOST 1048576: true; the input reads as it did. -/
def hoursFarUptoRow : OpenClaim := { program := "ytegkgfiaegpihaa", sum := "45cae4a62dcc9bf93148066d4e379704c90418e3bc004da13ee44762cf90d7c8", func := "steening/steeninglaw08.HoursFar", spec := "hoursFar", unfollowed := true, recurses := true, plainKeys := false, apart := false, narrowed := true }
def HoursFarUptoSaid : Prop := hoursFarUptoRow.holds Try.pinned (OpenSpec.upto hoursFarSpec)

/-- 'steeninglaw08.HoursSwap', WHERE WHAT IT READS IS OF BULK AT MOST 1048576: true; the input reads as it did. -/
def hoursSwapUptoRow : OpenClaim := { program := "ytegkgfiaegpihaa", sum := "45cae4a62dcc9bf93148066d4e379704c90418e3bc004da13ee44762cf90d7c8", func := "steening/steeninglaw08.HoursSwap", spec := "hoursSwap", unfollowed := true, recurses := true, plainKeys := false, apart := false, narrowed := true }
def HoursSwapUptoSaid : Prop := hoursSwapUptoRow.holds Try.pinned (OpenSpec.upto hoursSwapSpec)

end Rows
end Go.Proofs.Ytegkgfiaegpihaa
