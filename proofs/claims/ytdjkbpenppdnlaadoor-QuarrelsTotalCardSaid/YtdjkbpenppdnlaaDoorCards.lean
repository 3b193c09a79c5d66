/-
  DERIVED. GIVEN WITH THE SEED: THE CARDS: each row of YtdjkbpenppdnlaaDoorRows.lean that lists a variable, with what it lists TIED to the program's text (the seventh form; the later family's looks); each row that meets fmt, with fmt's text TOLD by the authors' own Lean function (tested against real Go, not proved from fmt's source: count such statements apart). THE CARD IS WHAT COUNTS. Prove the row's statement (the work); the ties are given (YtdjkbpenppdnlaaDoorTie.lean); close each card by the builder's one call (the guide's Derived/Test/ToyasCard.lean, 'card_holds'). Laid BY PROGRAM, IN A SANDBOX (cutbox-door.mjs). By AI agents, Wed Nov 11 2026. No macro, syntax, notation, axiom, sorry.
-/
import Derived.Test.YtdjkbpenppdnlaaDoorRows
import GoSem.ClaimSeven
namespace Go.Proofs.YtdjkbpenppdnlaaDoor
namespace Rows

/-- THE TIED CARD OF 'steeninglaw05.QuarrelsLeft'. -/
def quarrelsLeftCard : Claim7 := { stood := { row := quarrelsLeftRow, standIns := [], harness := (true, "292eb98b16cdd94b43aedd3a5f101114b0380ec289b9ac3b520cf5e71fa42d38"), looks := false }, kinds := [], alts := [], laidByText := true, laidKinds := [.data, .data], laidTests := true, laidLooks := .later }
def QuarrelsLeftCardSaid : Prop := Claim7.holds Tryd.pinned (.plain (OpenSpec.ofChange quarrelsLeftSpec)) quarrelsLeftCard

/-- THE TIED CARD OF 'steeninglaw05.QuarrelsHarms'. -/
def quarrelsHarmsCard : Claim7 := { stood := { row := quarrelsHarmsRow, standIns := [], harness := (true, "292eb98b16cdd94b43aedd3a5f101114b0380ec289b9ac3b520cf5e71fa42d38"), looks := false }, kinds := [], alts := [], laidByText := true, laidKinds := [.data, .data], laidTests := true, laidLooks := .later }
def QuarrelsHarmsCardSaid : Prop := Claim7.holds Tryd.pinned (.plain (OpenSpec.ofChange quarrelsHarmsSpec)) quarrelsHarmsCard

/-- THE TIED CARD OF 'steeninglaw05.QuarrelsTotal'. -/
def quarrelsTotalCard : Claim7 := { stood := { row := quarrelsTotalRow, standIns := [], harness := (true, "292eb98b16cdd94b43aedd3a5f101114b0380ec289b9ac3b520cf5e71fa42d38"), looks := false }, kinds := [], alts := [], laidByText := true, laidKinds := [.data, .data], laidTests := true, laidLooks := .later }
def QuarrelsTotalCardSaid : Prop := Claim7.holds Tryd.pinned (.plain (OpenSpec.ofChange quarrelsTotalSpec)) quarrelsTotalCard

/-- THE TIED CARD OF 'steeninglaw05.QuarrelsFewest'. -/
def quarrelsFewestCard : Claim7 := { stood := { row := quarrelsFewestRow, standIns := [], harness := (true, "292eb98b16cdd94b43aedd3a5f101114b0380ec289b9ac3b520cf5e71fa42d38"), looks := false }, kinds := [], alts := [], laidByText := true, laidKinds := [.data, .data], laidTests := true, laidLooks := .later }
def QuarrelsFewestCardSaid : Prop := Claim7.holds Tryd.pinned (.plain (OpenSpec.ofChange quarrelsFewestSpec)) quarrelsFewestCard

/-- THE TIED CARD OF 'steeninglaw05.QuarrelsDecide'. -/
def quarrelsDecideCard : Claim7 := { stood := { row := quarrelsDecideRow, standIns := [], harness := (true, "292eb98b16cdd94b43aedd3a5f101114b0380ec289b9ac3b520cf5e71fa42d38"), looks := false }, kinds := [], alts := [], laidByText := true, laidKinds := [.data, .data], laidTests := true, laidLooks := .later }
def QuarrelsDecideCardSaid : Prop := Claim7.holds Tryd.pinned (.plain (OpenSpec.ofChange quarrelsDecideSpec)) quarrelsDecideCard

/-- THE TIED CARD OF 'steeninglaw05.QuarrelsDepth'. -/
def quarrelsDepthCard : Claim7 := { stood := { row := quarrelsDepthRow, standIns := [], harness := (true, "292eb98b16cdd94b43aedd3a5f101114b0380ec289b9ac3b520cf5e71fa42d38"), looks := false }, kinds := [], alts := [], laidByText := true, laidKinds := [.data, .data], laidTests := true, laidLooks := .later }
def QuarrelsDepthCardSaid : Prop := Claim7.holds Tryd.pinned (.plain (OpenSpec.ofChange quarrelsDepthSpec)) quarrelsDepthCard

/-- THE TIED CARD OF 'steeninglaw05.QuarrelsEach'. -/
def quarrelsEachCard : Claim7 := { stood := { row := quarrelsEachRow, standIns := [], harness := (true, "292eb98b16cdd94b43aedd3a5f101114b0380ec289b9ac3b520cf5e71fa42d38"), looks := false }, kinds := [], alts := [], laidByText := true, laidKinds := [.data, .data], laidTests := true, laidLooks := .later }
def QuarrelsEachCardSaid : Prop := Claim7.holds Tryd.pinned (.plain (OpenSpec.ofChange quarrelsEachSpec)) quarrelsEachCard

/-- THE TIED CARD OF 'steeninglaw05.QuarrelsMore'. -/
def quarrelsMoreCard : Claim7 := { stood := { row := quarrelsMoreRow, standIns := [], harness := (true, "292eb98b16cdd94b43aedd3a5f101114b0380ec289b9ac3b520cf5e71fa42d38"), looks := false }, kinds := [], alts := [], laidByText := true, laidKinds := [.data, .data], laidTests := true, laidLooks := .later }
def QuarrelsMoreCardSaid : Prop := Claim7.holds Tryd.pinned (.plain (OpenSpec.ofChange quarrelsMoreSpec)) quarrelsMoreCard

/-- THE TIED CARD OF 'steeninglaw05.QuarrelsCover'. -/
def quarrelsCoverCard : Claim7 := { stood := { row := quarrelsCoverRow, standIns := [], harness := (true, "292eb98b16cdd94b43aedd3a5f101114b0380ec289b9ac3b520cf5e71fa42d38"), looks := false }, kinds := [], alts := [], laidByText := true, laidKinds := [.data, .data], laidTests := true, laidLooks := .later }
def QuarrelsCoverCardSaid : Prop := Claim7.holds Tryd.pinned (.plain (OpenSpec.ofChange quarrelsCoverSpec)) quarrelsCoverCard

/-- THE TIED CARD OF 'steeninglaw05.QuarrelsStep'. -/
def quarrelsStepCard : Claim7 := { stood := { row := quarrelsStepRow, standIns := [], harness := (true, "292eb98b16cdd94b43aedd3a5f101114b0380ec289b9ac3b520cf5e71fa42d38"), looks := false }, kinds := [], alts := [], laidByText := true, laidKinds := [.data, .data], laidTests := true, laidLooks := .later }
def QuarrelsStepCardSaid : Prop := Claim7.holds Tryd.pinned (.plain (OpenSpec.ofChange quarrelsStepSpec)) quarrelsStepCard

/-- THE TIED CARD OF 'steeninglaw05.QuarrelsAlike'. -/
def quarrelsAlikeCard : Claim7 := { stood := { row := quarrelsAlikeRow, standIns := [], harness := (true, "292eb98b16cdd94b43aedd3a5f101114b0380ec289b9ac3b520cf5e71fa42d38"), looks := false }, kinds := [], alts := [], laidByText := true, laidKinds := [.data, .data], laidTests := true, laidLooks := .later }
def QuarrelsAlikeCardSaid : Prop := Claim7.holds Tryd.pinned (.plain (OpenSpec.ofChange quarrelsAlikeSpec)) quarrelsAlikeCard

/-- THE TIED CARD OF 'steeninglaw05.QuarrelsSum'. -/
def quarrelsSumCard : Claim7 := { stood := { row := quarrelsSumRow, standIns := [], harness := (true, "292eb98b16cdd94b43aedd3a5f101114b0380ec289b9ac3b520cf5e71fa42d38"), looks := false }, kinds := [], alts := [], laidByText := true, laidKinds := [.data, .data], laidTests := true, laidLooks := .later }
def QuarrelsSumCardSaid : Prop := Claim7.holds Tryd.pinned (.plain (OpenSpec.ofChange quarrelsSumSpec)) quarrelsSumCard

/-- THE SECOND FORM's CARD OF 'steeninglaw05.QuarrelsLeft'. -/
def quarrelsLeftUptoCard : Claim7 := { stood := { row := quarrelsLeftUptoRow, standIns := [], harness := (true, "292eb98b16cdd94b43aedd3a5f101114b0380ec289b9ac3b520cf5e71fa42d38"), looks := false }, kinds := [], alts := [], laidByText := true, laidKinds := [.data, .data], laidTests := true, laidLooks := .later }
def QuarrelsLeftUptoCardSaid : Prop := Claim7.holds Tryd.pinned (.plain (OpenSpec.upto quarrelsLeftSpec)) quarrelsLeftUptoCard

/-- THE SECOND FORM's CARD OF 'steeninglaw05.QuarrelsHarms'. -/
def quarrelsHarmsUptoCard : Claim7 := { stood := { row := quarrelsHarmsUptoRow, standIns := [], harness := (true, "292eb98b16cdd94b43aedd3a5f101114b0380ec289b9ac3b520cf5e71fa42d38"), looks := false }, kinds := [], alts := [], laidByText := true, laidKinds := [.data, .data], laidTests := true, laidLooks := .later }
def QuarrelsHarmsUptoCardSaid : Prop := Claim7.holds Tryd.pinned (.plain (OpenSpec.upto quarrelsHarmsSpec)) quarrelsHarmsUptoCard

/-- THE SECOND FORM's CARD OF 'steeninglaw05.QuarrelsTotal'. -/
def quarrelsTotalUptoCard : Claim7 := { stood := { row := quarrelsTotalUptoRow, standIns := [], harness := (true, "292eb98b16cdd94b43aedd3a5f101114b0380ec289b9ac3b520cf5e71fa42d38"), looks := false }, kinds := [], alts := [], laidByText := true, laidKinds := [.data, .data], laidTests := true, laidLooks := .later }
def QuarrelsTotalUptoCardSaid : Prop := Claim7.holds Tryd.pinned (.plain (OpenSpec.upto quarrelsTotalSpec)) quarrelsTotalUptoCard

/-- THE SECOND FORM's CARD OF 'steeninglaw05.QuarrelsFewest'. -/
def quarrelsFewestUptoCard : Claim7 := { stood := { row := quarrelsFewestUptoRow, standIns := [], harness := (true, "292eb98b16cdd94b43aedd3a5f101114b0380ec289b9ac3b520cf5e71fa42d38"), looks := false }, kinds := [], alts := [], laidByText := true, laidKinds := [.data, .data], laidTests := true, laidLooks := .later }
def QuarrelsFewestUptoCardSaid : Prop := Claim7.holds Tryd.pinned (.plain (OpenSpec.upto quarrelsFewestSpec)) quarrelsFewestUptoCard

/-- THE SECOND FORM's CARD OF 'steeninglaw05.QuarrelsDecide'. -/
def quarrelsDecideUptoCard : Claim7 := { stood := { row := quarrelsDecideUptoRow, standIns := [], harness := (true, "292eb98b16cdd94b43aedd3a5f101114b0380ec289b9ac3b520cf5e71fa42d38"), looks := false }, kinds := [], alts := [], laidByText := true, laidKinds := [.data, .data], laidTests := true, laidLooks := .later }
def QuarrelsDecideUptoCardSaid : Prop := Claim7.holds Tryd.pinned (.plain (OpenSpec.upto quarrelsDecideSpec)) quarrelsDecideUptoCard

/-- THE SECOND FORM's CARD OF 'steeninglaw05.QuarrelsDepth'. -/
def quarrelsDepthUptoCard : Claim7 := { stood := { row := quarrelsDepthUptoRow, standIns := [], harness := (true, "292eb98b16cdd94b43aedd3a5f101114b0380ec289b9ac3b520cf5e71fa42d38"), looks := false }, kinds := [], alts := [], laidByText := true, laidKinds := [.data, .data], laidTests := true, laidLooks := .later }
def QuarrelsDepthUptoCardSaid : Prop := Claim7.holds Tryd.pinned (.plain (OpenSpec.upto quarrelsDepthSpec)) quarrelsDepthUptoCard

/-- THE SECOND FORM's CARD OF 'steeninglaw05.QuarrelsEach'. -/
def quarrelsEachUptoCard : Claim7 := { stood := { row := quarrelsEachUptoRow, standIns := [], harness := (true, "292eb98b16cdd94b43aedd3a5f101114b0380ec289b9ac3b520cf5e71fa42d38"), looks := false }, kinds := [], alts := [], laidByText := true, laidKinds := [.data, .data], laidTests := true, laidLooks := .later }
def QuarrelsEachUptoCardSaid : Prop := Claim7.holds Tryd.pinned (.plain (OpenSpec.upto quarrelsEachSpec)) quarrelsEachUptoCard

/-- THE SECOND FORM's CARD OF 'steeninglaw05.QuarrelsMore'. -/
def quarrelsMoreUptoCard : Claim7 := { stood := { row := quarrelsMoreUptoRow, standIns := [], harness := (true, "292eb98b16cdd94b43aedd3a5f101114b0380ec289b9ac3b520cf5e71fa42d38"), looks := false }, kinds := [], alts := [], laidByText := true, laidKinds := [.data, .data], laidTests := true, laidLooks := .later }
def QuarrelsMoreUptoCardSaid : Prop := Claim7.holds Tryd.pinned (.plain (OpenSpec.upto quarrelsMoreSpec)) quarrelsMoreUptoCard

/-- THE SECOND FORM's CARD OF 'steeninglaw05.QuarrelsCover'. -/
def quarrelsCoverUptoCard : Claim7 := { stood := { row := quarrelsCoverUptoRow, standIns := [], harness := (true, "292eb98b16cdd94b43aedd3a5f101114b0380ec289b9ac3b520cf5e71fa42d38"), looks := false }, kinds := [], alts := [], laidByText := true, laidKinds := [.data, .data], laidTests := true, laidLooks := .later }
def QuarrelsCoverUptoCardSaid : Prop := Claim7.holds Tryd.pinned (.plain (OpenSpec.upto quarrelsCoverSpec)) quarrelsCoverUptoCard

/-- THE SECOND FORM's CARD OF 'steeninglaw05.QuarrelsStep'. -/
def quarrelsStepUptoCard : Claim7 := { stood := { row := quarrelsStepUptoRow, standIns := [], harness := (true, "292eb98b16cdd94b43aedd3a5f101114b0380ec289b9ac3b520cf5e71fa42d38"), looks := false }, kinds := [], alts := [], laidByText := true, laidKinds := [.data, .data], laidTests := true, laidLooks := .later }
def QuarrelsStepUptoCardSaid : Prop := Claim7.holds Tryd.pinned (.plain (OpenSpec.upto quarrelsStepSpec)) quarrelsStepUptoCard

/-- THE SECOND FORM's CARD OF 'steeninglaw05.QuarrelsAlike'. -/
def quarrelsAlikeUptoCard : Claim7 := { stood := { row := quarrelsAlikeUptoRow, standIns := [], harness := (true, "292eb98b16cdd94b43aedd3a5f101114b0380ec289b9ac3b520cf5e71fa42d38"), looks := false }, kinds := [], alts := [], laidByText := true, laidKinds := [.data, .data], laidTests := true, laidLooks := .later }
def QuarrelsAlikeUptoCardSaid : Prop := Claim7.holds Tryd.pinned (.plain (OpenSpec.upto quarrelsAlikeSpec)) quarrelsAlikeUptoCard

/-- THE SECOND FORM's CARD OF 'steeninglaw05.QuarrelsSum'. -/
def quarrelsSumUptoCard : Claim7 := { stood := { row := quarrelsSumUptoRow, standIns := [], harness := (true, "292eb98b16cdd94b43aedd3a5f101114b0380ec289b9ac3b520cf5e71fa42d38"), looks := false }, kinds := [], alts := [], laidByText := true, laidKinds := [.data, .data], laidTests := true, laidLooks := .later }
def QuarrelsSumUptoCardSaid : Prop := Claim7.holds Tryd.pinned (.plain (OpenSpec.upto quarrelsSumSpec)) quarrelsSumUptoCard
end Rows
end Go.Proofs.YtdjkbpenppdnlaaDoor
