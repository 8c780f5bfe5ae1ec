/-
  DERIVED. GIVEN WITH THE SEED: THE CARDS: each row of YtdjnadgcjmlejaaDoorRows.lean that lists a variable, with what it lists TIED to the program's text (the seventh form; the later family's looks); each row that meets fmt, with fmt's text TOLD by the authors' own Lean function (tested against real Go, not proved from fmt's source: count such statements apart). THE CARD IS WHAT COUNTS. Prove the row's statement (the work); the ties are given (YtdjnadgcjmlejaaDoorTie.lean); close each card by the builder's one call (the guide's Derived/Test/ToyasCard.lean, 'card_holds'). Laid BY PROGRAM, IN A SANDBOX (cutbox-door.mjs). By AI agents, Wed Nov 11 2026. No macro, syntax, notation, axiom, sorry.
-/
import Derived.Test.YtdjnadgcjmlejaaDoorRows
import GoSem.ClaimSeven
namespace Go.Proofs.YtdjnadgcjmlejaaDoor
namespace Rows

/-- THE TIED CARD OF 'posthouselaw07.CallFields'. -/
def callFieldsCard : Claim7 := { stood := { row := callFieldsRow, standIns := [], harness := (true, "ded5b961e47663aa21373c5d086d3ba4c796a8438670914ec9c4d4bad5e8074a"), looks := false }, kinds := [], alts := [], laidByText := true, laidKinds := [.data, .pinned], laidTests := true, laidLooks := .later }
def CallFieldsCardSaid : Prop := Claim7.holds Tryd.pinned (.plain (OpenSpec.ofChange callFieldsSpec)) callFieldsCard

/-- THE TIED CARD OF 'posthouselaw07.CallPuts'. -/
def callPutsCard : Claim7 := { stood := { row := callPutsRow, standIns := [], harness := (true, "ded5b961e47663aa21373c5d086d3ba4c796a8438670914ec9c4d4bad5e8074a"), looks := false }, kinds := [], alts := [], laidByText := true, laidKinds := [.data, .pinned], laidTests := true, laidLooks := .later }
def CallPutsCardSaid : Prop := Claim7.holds Tryd.pinned (.plain (OpenSpec.ofChange callPutsSpec)) callPutsCard

/-- THE TIED CARD OF 'posthouselaw07.CallGets'. -/
def callGetsCard : Claim7 := { stood := { row := callGetsRow, standIns := [], harness := (true, "ded5b961e47663aa21373c5d086d3ba4c796a8438670914ec9c4d4bad5e8074a"), looks := false }, kinds := [], alts := [], laidByText := true, laidKinds := [.data, .pinned], laidTests := true, laidLooks := .later }
def CallGetsCardSaid : Prop := Claim7.holds Tryd.pinned (.plain (OpenSpec.ofChange callGetsSpec)) callGetsCard

/-- THE TIED CARD OF 'posthouselaw07.CallCut'. -/
def callCutCard : Claim7 := { stood := { row := callCutRow, standIns := [], harness := (true, "ded5b961e47663aa21373c5d086d3ba4c796a8438670914ec9c4d4bad5e8074a"), looks := false }, kinds := [], alts := [], laidByText := true, laidKinds := [.data, .pinned], laidTests := true, laidLooks := .later }
def CallCutCardSaid : Prop := Claim7.holds Tryd.pinned (.plain (OpenSpec.ofChange callCutSpec)) callCutCard

/-- THE SECOND FORM's CARD OF 'posthouselaw07.CallFields'. -/
def callFieldsUptoCard : Claim7 := { stood := { row := callFieldsUptoRow, standIns := [], harness := (true, "ded5b961e47663aa21373c5d086d3ba4c796a8438670914ec9c4d4bad5e8074a"), looks := false }, kinds := [], alts := [], laidByText := true, laidKinds := [.data, .pinned], laidTests := true, laidLooks := .later }
def CallFieldsUptoCardSaid : Prop := Claim7.holds Tryd.pinned (.plain (OpenSpec.upto callFieldsSpec)) callFieldsUptoCard

/-- THE SECOND FORM's CARD OF 'posthouselaw07.CallPuts'. -/
def callPutsUptoCard : Claim7 := { stood := { row := callPutsUptoRow, standIns := [], harness := (true, "ded5b961e47663aa21373c5d086d3ba4c796a8438670914ec9c4d4bad5e8074a"), looks := false }, kinds := [], alts := [], laidByText := true, laidKinds := [.data, .pinned], laidTests := true, laidLooks := .later }
def CallPutsUptoCardSaid : Prop := Claim7.holds Tryd.pinned (.plain (OpenSpec.upto callPutsSpec)) callPutsUptoCard

/-- THE SECOND FORM's CARD OF 'posthouselaw07.CallGets'. -/
def callGetsUptoCard : Claim7 := { stood := { row := callGetsUptoRow, standIns := [], harness := (true, "ded5b961e47663aa21373c5d086d3ba4c796a8438670914ec9c4d4bad5e8074a"), looks := false }, kinds := [], alts := [], laidByText := true, laidKinds := [.data, .pinned], laidTests := true, laidLooks := .later }
def CallGetsUptoCardSaid : Prop := Claim7.holds Tryd.pinned (.plain (OpenSpec.upto callGetsSpec)) callGetsUptoCard

/-- THE SECOND FORM's CARD OF 'posthouselaw07.CallCut'. -/
def callCutUptoCard : Claim7 := { stood := { row := callCutUptoRow, standIns := [], harness := (true, "ded5b961e47663aa21373c5d086d3ba4c796a8438670914ec9c4d4bad5e8074a"), looks := false }, kinds := [], alts := [], laidByText := true, laidKinds := [.data, .pinned], laidTests := true, laidLooks := .later }
def CallCutUptoCardSaid : Prop := Claim7.holds Tryd.pinned (.plain (OpenSpec.upto callCutSpec)) callCutUptoCard
end Rows
end Go.Proofs.YtdjnadgcjmlejaaDoor
