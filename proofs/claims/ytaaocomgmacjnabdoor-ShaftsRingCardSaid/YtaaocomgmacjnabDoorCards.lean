/-
  DERIVED. GIVEN WITH THE SEED: THE CARDS: each row of YtaaocomgmacjnabDoorRows.lean that lists a variable, with what it lists TIED to the program's text (the seventh form; the later family's looks); each row that meets fmt, with fmt's text TOLD by the authors' own Lean function (tested against real Go, not proved from fmt's source: count such statements apart). THE CARD IS WHAT COUNTS. Prove the row's statement (the work); the ties are given (YtaaocomgmacjnabDoorTie.lean); close each card by the builder's one call (the guide's Derived/Test/ToyasCard.lean, 'card_holds'). Laid BY PROGRAM, IN A SANDBOX (cutbox-door.mjs). By AI agents, Wed Nov 11 2026. No macro, syntax, notation, axiom, sorry.
-/
import Derived.Test.YtaaocomgmacjnabDoorRows
import GoSem.ClaimSeven
namespace Go.Proofs.YtaaocomgmacjnabDoor
namespace Rows

/-- THE TIED CARD OF 'steeninglaw02.ShaftsPrice'. -/
def shaftsPriceCard : Claim7 := { stood := { row := shaftsPriceRow, standIns := [], harness := (true, "66112223122f9fb0b11b4775e3a857ade3ea07804463fad46bbffdba9a3ee919"), looks := false }, kinds := [], alts := [], laidByText := true, laidKinds := [.data], laidTests := true, laidLooks := .later }
def ShaftsPriceCardSaid : Prop := Claim7.holds Tryd.pinned (.plain (OpenSpec.ofChange shaftsPriceSpec)) shaftsPriceCard

/-- THE TIED CARD OF 'steeninglaw02.ShaftsFalls'. -/
def shaftsFallsCard : Claim7 := { stood := { row := shaftsFallsRow, standIns := [], harness := (true, "66112223122f9fb0b11b4775e3a857ade3ea07804463fad46bbffdba9a3ee919"), looks := false }, kinds := [], alts := [], laidByText := true, laidKinds := [.data], laidTests := true, laidLooks := .later }
def ShaftsFallsCardSaid : Prop := Claim7.holds Tryd.pinned (.plain (OpenSpec.ofChange shaftsFallsSpec)) shaftsFallsCard

/-- THE TIED CARD OF 'steeninglaw02.ShaftsRing'. -/
def shaftsRingCard : Claim7 := { stood := { row := shaftsRingRow, standIns := [], harness := (true, "66112223122f9fb0b11b4775e3a857ade3ea07804463fad46bbffdba9a3ee919"), looks := false }, kinds := [], alts := [], laidByText := true, laidKinds := [.data], laidTests := true, laidLooks := .later }
def ShaftsRingCardSaid : Prop := Claim7.holds Tryd.pinned (.plain (OpenSpec.ofChange shaftsRingSpec)) shaftsRingCard

/-- THE SECOND FORM's CARD OF 'steeninglaw02.ShaftsPrice'. -/
def shaftsPriceUptoCard : Claim7 := { stood := { row := shaftsPriceUptoRow, standIns := [], harness := (true, "66112223122f9fb0b11b4775e3a857ade3ea07804463fad46bbffdba9a3ee919"), looks := false }, kinds := [], alts := [], laidByText := true, laidKinds := [.data], laidTests := true, laidLooks := .later }
def ShaftsPriceUptoCardSaid : Prop := Claim7.holds Tryd.pinned (.plain (OpenSpec.upto shaftsPriceSpec)) shaftsPriceUptoCard

/-- THE SECOND FORM's CARD OF 'steeninglaw02.ShaftsFalls'. -/
def shaftsFallsUptoCard : Claim7 := { stood := { row := shaftsFallsUptoRow, standIns := [], harness := (true, "66112223122f9fb0b11b4775e3a857ade3ea07804463fad46bbffdba9a3ee919"), looks := false }, kinds := [], alts := [], laidByText := true, laidKinds := [.data], laidTests := true, laidLooks := .later }
def ShaftsFallsUptoCardSaid : Prop := Claim7.holds Tryd.pinned (.plain (OpenSpec.upto shaftsFallsSpec)) shaftsFallsUptoCard

/-- THE SECOND FORM's CARD OF 'steeninglaw02.ShaftsRing'. -/
def shaftsRingUptoCard : Claim7 := { stood := { row := shaftsRingUptoRow, standIns := [], harness := (true, "66112223122f9fb0b11b4775e3a857ade3ea07804463fad46bbffdba9a3ee919"), looks := false }, kinds := [], alts := [], laidByText := true, laidKinds := [.data], laidTests := true, laidLooks := .later }
def ShaftsRingUptoCardSaid : Prop := Claim7.holds Tryd.pinned (.plain (OpenSpec.upto shaftsRingSpec)) shaftsRingUptoCard
end Rows
end Go.Proofs.YtaaocomgmacjnabDoor
