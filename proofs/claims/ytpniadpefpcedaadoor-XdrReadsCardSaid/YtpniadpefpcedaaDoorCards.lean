/-
  DERIVED. GIVEN WITH THE SEED: THE CARDS: each row of YtpniadpefpcedaaDoorRows.lean that lists a variable, with what it lists TIED to the program's text (the seventh form; the later family's looks); each row that meets fmt, with fmt's text TOLD by the authors' own Lean function (tested against real Go, not proved from fmt's source: count such statements apart). THE CARD IS WHAT COUNTS. Prove the row's statement (the work); the ties are given (YtpniadpefpcedaaDoorTie.lean); close each card by the builder's one call (the guide's Derived/Test/ToyasCard.lean, 'card_holds'). Laid BY PROGRAM, IN A SANDBOX (cutbox-door.mjs). By AI agents, Wed Nov 11 2026. No macro, syntax, notation, axiom, sorry.
-/
import Derived.Test.YtpniadpefpcedaaDoorRows
import GoSem.ClaimSeven
namespace Go.Proofs.YtpniadpefpcedaaDoor
namespace Rows

/-- THE TIED CARD OF 'posthouselaw01.XdrReads'. -/
def xdrReadsCard : Claim7 := { stood := { row := xdrReadsRow, standIns := [], harness := (true, "9358ce05ea8366c2257db3df5febc74efc4eadb401b7dfd8fe3e0852f501f1ce"), looks := false }, kinds := [], alts := [], laidByText := true, laidKinds := [.data, .pinned], laidTests := true, laidLooks := .later }
def XdrReadsCardSaid : Prop := Claim7.holds Tryd.pinned (.plain (OpenSpec.ofChange xdrReadsSpec)) xdrReadsCard

/-- THE TIED CARD OF 'posthouselaw01.XdrBack'. -/
def xdrBackCard : Claim7 := { stood := { row := xdrBackRow, standIns := [], harness := (true, "9358ce05ea8366c2257db3df5febc74efc4eadb401b7dfd8fe3e0852f501f1ce"), looks := false }, kinds := [], alts := [], laidByText := true, laidKinds := [.data, .pinned], laidTests := true, laidLooks := .later }
def XdrBackCardSaid : Prop := Claim7.holds Tryd.pinned (.plain (OpenSpec.ofChange xdrBackSpec)) xdrBackCard

/-- THE TIED CARD OF 'posthouselaw01.XdrSame'. -/
def xdrSameCard : Claim7 := { stood := { row := xdrSameRow, standIns := [], harness := (true, "9358ce05ea8366c2257db3df5febc74efc4eadb401b7dfd8fe3e0852f501f1ce"), looks := false }, kinds := [], alts := [], laidByText := true, laidKinds := [.data, .pinned], laidTests := true, laidLooks := .later }
def XdrSameCardSaid : Prop := Claim7.holds Tryd.pinned (.plain (OpenSpec.ofChange xdrSameSpec)) xdrSameCard

/-- THE TIED CARD OF 'posthouselaw01.XdrNil'. -/
def xdrNilCard : Claim7 := { stood := { row := xdrNilRow, standIns := [], harness := (true, "9358ce05ea8366c2257db3df5febc74efc4eadb401b7dfd8fe3e0852f501f1ce"), looks := false }, kinds := [], alts := [], laidByText := true, laidKinds := [.data, .pinned], laidTests := true, laidLooks := .later }
def XdrNilCardSaid : Prop := Claim7.holds Tryd.pinned (.plain (OpenSpec.ofChange xdrNilSpec)) xdrNilCard

/-- THE SECOND FORM's CARD OF 'posthouselaw01.XdrReads'. -/
def xdrReadsUptoCard : Claim7 := { stood := { row := xdrReadsUptoRow, standIns := [], harness := (true, "9358ce05ea8366c2257db3df5febc74efc4eadb401b7dfd8fe3e0852f501f1ce"), looks := false }, kinds := [], alts := [], laidByText := true, laidKinds := [.data, .pinned], laidTests := true, laidLooks := .later }
def XdrReadsUptoCardSaid : Prop := Claim7.holds Tryd.pinned (.plain (OpenSpec.upto xdrReadsSpec)) xdrReadsUptoCard

/-- THE SECOND FORM's CARD OF 'posthouselaw01.XdrBack'. -/
def xdrBackUptoCard : Claim7 := { stood := { row := xdrBackUptoRow, standIns := [], harness := (true, "9358ce05ea8366c2257db3df5febc74efc4eadb401b7dfd8fe3e0852f501f1ce"), looks := false }, kinds := [], alts := [], laidByText := true, laidKinds := [.data, .pinned], laidTests := true, laidLooks := .later }
def XdrBackUptoCardSaid : Prop := Claim7.holds Tryd.pinned (.plain (OpenSpec.upto xdrBackSpec)) xdrBackUptoCard

/-- THE SECOND FORM's CARD OF 'posthouselaw01.XdrSame'. -/
def xdrSameUptoCard : Claim7 := { stood := { row := xdrSameUptoRow, standIns := [], harness := (true, "9358ce05ea8366c2257db3df5febc74efc4eadb401b7dfd8fe3e0852f501f1ce"), looks := false }, kinds := [], alts := [], laidByText := true, laidKinds := [.data, .pinned], laidTests := true, laidLooks := .later }
def XdrSameUptoCardSaid : Prop := Claim7.holds Tryd.pinned (.plain (OpenSpec.upto xdrSameSpec)) xdrSameUptoCard

/-- THE SECOND FORM's CARD OF 'posthouselaw01.XdrNil'. -/
def xdrNilUptoCard : Claim7 := { stood := { row := xdrNilUptoRow, standIns := [], harness := (true, "9358ce05ea8366c2257db3df5febc74efc4eadb401b7dfd8fe3e0852f501f1ce"), looks := false }, kinds := [], alts := [], laidByText := true, laidKinds := [.data, .pinned], laidTests := true, laidLooks := .later }
def XdrNilUptoCardSaid : Prop := Claim7.holds Tryd.pinned (.plain (OpenSpec.upto xdrNilSpec)) xdrNilUptoCard
end Rows
end Go.Proofs.YtpniadpefpcedaaDoor
