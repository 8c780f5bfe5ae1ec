/-
  DERIVED. GIVEN WITH THE SEED: THE CARDS: each row of YtikeckmbfgidhaaGreatDoorRows.lean that lists a variable, with what it lists TIED to the program's text (the seventh form; the later family's looks); each row that meets fmt, with fmt's text TOLD by the authors' own Lean function (tested against real Go, not proved from fmt's source: count such statements apart). THE CARD IS WHAT COUNTS. Prove the row's statement (the work); the ties are given (YtikeckmbfgidhaaGreatDoorTie.lean); close each card by the builder's one call (the guide's Derived/Test/ToyasCard.lean, 'card_holds'). Laid BY PROGRAM, IN A SANDBOX (cutbox-door.mjs). By AI agents, Wed Nov 11 2026. No macro, syntax, notation, axiom, sorry.
-/
import Derived.Test.YtikeckmbfgidhaaGreatDoorRows
import GoSem.ClaimSeven
namespace Go.Proofs.YtikeckmbfgidhaaGreatDoor
namespace Rows

/-- THE TIED CARD OF 'posthouselaw14.ImageBack'. -/
def imageBackCard : Claim7 := { stood := { row := imageBackRow, standIns := [], harness := (true, "eee2d65c1d930aaa70b3eb1960ad78e1f6f98aaa29460dc0a36b5559ea33d6dc"), looks := false }, kinds := [], alts := [], laidByText := true, laidKinds := [.data, .pinned], laidTests := true, laidLooks := .later }
def ImageBackCardSaid : Prop := Claim7.holds Tryz.pinned (.plain (OpenSpec.ofChange imageBackSpec)) imageBackCard

/-- THE TIED CARD OF 'posthouselaw14.ImageDies'. -/
def imageDiesCard : Claim7 := { stood := { row := imageDiesRow, standIns := [], harness := (true, "eee2d65c1d930aaa70b3eb1960ad78e1f6f98aaa29460dc0a36b5559ea33d6dc"), looks := false }, kinds := [], alts := [], laidByText := true, laidKinds := [.data, .pinned], laidTests := true, laidLooks := .later }
def ImageDiesCardSaid : Prop := Claim7.holds Tryz.pinned (.plain (OpenSpec.ofChange imageDiesSpec)) imageDiesCard

/-- THE SECOND FORM's CARD OF 'posthouselaw14.ImageBack'. -/
def imageBackUptoCard : Claim7 := { stood := { row := imageBackUptoRow, standIns := [], harness := (true, "eee2d65c1d930aaa70b3eb1960ad78e1f6f98aaa29460dc0a36b5559ea33d6dc"), looks := false }, kinds := [], alts := [], laidByText := true, laidKinds := [.data, .pinned], laidTests := true, laidLooks := .later }
def ImageBackUptoCardSaid : Prop := Claim7.holds Tryz.pinned (.plain (OpenSpec.upto imageBackSpec)) imageBackUptoCard

/-- THE SECOND FORM's CARD OF 'posthouselaw14.ImageDies'. -/
def imageDiesUptoCard : Claim7 := { stood := { row := imageDiesUptoRow, standIns := [], harness := (true, "eee2d65c1d930aaa70b3eb1960ad78e1f6f98aaa29460dc0a36b5559ea33d6dc"), looks := false }, kinds := [], alts := [], laidByText := true, laidKinds := [.data, .pinned], laidTests := true, laidLooks := .later }
def ImageDiesUptoCardSaid : Prop := Claim7.holds Tryz.pinned (.plain (OpenSpec.upto imageDiesSpec)) imageDiesUptoCard
end Rows
end Go.Proofs.YtikeckmbfgidhaaGreatDoor
