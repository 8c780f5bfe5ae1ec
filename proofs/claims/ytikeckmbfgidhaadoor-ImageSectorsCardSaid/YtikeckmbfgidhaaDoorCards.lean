/-
  DERIVED. GIVEN WITH THE SEED: THE CARDS: each row of YtikeckmbfgidhaaDoorRows.lean that lists a variable, with what it lists TIED to the program's text (the seventh form; the later family's looks); each row that meets fmt, with fmt's text TOLD by the authors' own Lean function (tested against real Go, not proved from fmt's source: count such statements apart). THE CARD IS WHAT COUNTS. Prove the row's statement (the work); the ties are given (YtikeckmbfgidhaaDoorTie.lean); close each card by the builder's one call (the guide's Derived/Test/ToyasCard.lean, 'card_holds'). Laid BY PROGRAM, IN A SANDBOX (cutbox-door.mjs). By AI agents, Wed Nov 11 2026. No macro, syntax, notation, axiom, sorry.
-/
import Derived.Test.YtikeckmbfgidhaaDoorRows
import GoSem.ClaimSeven
namespace Go.Proofs.YtikeckmbfgidhaaDoor
namespace Rows

/-- THE TIED CARD OF 'posthouselaw14.ImageSectors'. -/
def imageSectorsCard : Claim7 := { stood := { row := imageSectorsRow, standIns := [], harness := (true, "0da8231df83860bfbf494b9a654abbc4ca05ce9f158c57c6d8df88a59d92df18"), looks := false }, kinds := [], alts := [], laidByText := true, laidKinds := [.data, .pinned], laidTests := true, laidLooks := .later }
def ImageSectorsCardSaid : Prop := Claim7.holds Tryd.pinned (.plain (OpenSpec.ofChange imageSectorsSpec)) imageSectorsCard

/-- THE SECOND FORM's CARD OF 'posthouselaw14.ImageSectors'. -/
def imageSectorsUptoCard : Claim7 := { stood := { row := imageSectorsUptoRow, standIns := [], harness := (true, "0da8231df83860bfbf494b9a654abbc4ca05ce9f158c57c6d8df88a59d92df18"), looks := false }, kinds := [], alts := [], laidByText := true, laidKinds := [.data, .pinned], laidTests := true, laidLooks := .later }
def ImageSectorsUptoCardSaid : Prop := Claim7.holds Tryd.pinned (.plain (OpenSpec.upto imageSectorsSpec)) imageSectorsUptoCard
end Rows
end Go.Proofs.YtikeckmbfgidhaaDoor
