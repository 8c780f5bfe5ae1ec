/-
  DERIVED. GIVEN WITH THE SEED: THE CARDS: each row of YtimbcombhdgjiaaDoorRows.lean that lists a variable, with what it lists TIED to the program's text (the seventh form; the later family's looks); each row that meets fmt, with fmt's text TOLD by the authors' own Lean function (tested against real Go, not proved from fmt's source: count such statements apart). THE CARD IS WHAT COUNTS. Prove the row's statement (the work); the ties are given (YtimbcombhdgjiaaDoorTie.lean); close each card by the builder's one call (the guide's Derived/Test/ToyasCard.lean, 'card_holds'). Laid BY PROGRAM, IN A SANDBOX (cutbox-door.mjs). By AI agents, Wed Nov 11 2026. No macro, syntax, notation, axiom, sorry.
-/
import Derived.Test.YtimbcombhdgjiaaDoorRows
import GoSem.ClaimSeven
namespace Go.Proofs.YtimbcombhdgjiaaDoor
namespace Rows

/-- THE TIED CARD OF 'posthouselaw09.RpcPuts'. -/
def rpcPutsCard : Claim7 := { stood := { row := rpcPutsRow, standIns := [], harness := (true, "7c9b5fbf8ae26e58b80aa9c2d8a2f4f52c8727cfd51965a1c17b20962e881695"), looks := true }, kinds := [], alts := [], laidByText := true, laidKinds := [.data, .pinned], laidTests := true, laidLooks := .later }
def RpcPutsCardSaid : Prop := Claim7.holds Tryd.pinned (.plain (OpenSpec.ofChange rpcPutsSpec)) rpcPutsCard

/-- THE TIED CARD OF 'posthouselaw09.RpcGets'. -/
def rpcGetsCard : Claim7 := { stood := { row := rpcGetsRow, standIns := [], harness := (true, "7c9b5fbf8ae26e58b80aa9c2d8a2f4f52c8727cfd51965a1c17b20962e881695"), looks := true }, kinds := [], alts := [], laidByText := true, laidKinds := [.data, .pinned], laidTests := true, laidLooks := .later }
def RpcGetsCardSaid : Prop := Claim7.holds Tryd.pinned (.plain (OpenSpec.ofChange rpcGetsSpec)) rpcGetsCard

/-- THE TIED CARD OF 'posthouselaw09.RpcCut'. -/
def rpcCutCard : Claim7 := { stood := { row := rpcCutRow, standIns := [], harness := (true, "7c9b5fbf8ae26e58b80aa9c2d8a2f4f52c8727cfd51965a1c17b20962e881695"), looks := true }, kinds := [], alts := [], laidByText := true, laidKinds := [.data, .pinned], laidTests := true, laidLooks := .later }
def RpcCutCardSaid : Prop := Claim7.holds Tryd.pinned (.plain (OpenSpec.ofChange rpcCutSpec)) rpcCutCard

/-- THE SECOND FORM's CARD OF 'posthouselaw09.RpcPuts'. -/
def rpcPutsUptoCard : Claim7 := { stood := { row := rpcPutsUptoRow, standIns := [], harness := (true, "7c9b5fbf8ae26e58b80aa9c2d8a2f4f52c8727cfd51965a1c17b20962e881695"), looks := true }, kinds := [], alts := [], laidByText := true, laidKinds := [.data, .pinned], laidTests := true, laidLooks := .later }
def RpcPutsUptoCardSaid : Prop := Claim7.holds Tryd.pinned (.plain (OpenSpec.upto rpcPutsSpec)) rpcPutsUptoCard

/-- THE SECOND FORM's CARD OF 'posthouselaw09.RpcGets'. -/
def rpcGetsUptoCard : Claim7 := { stood := { row := rpcGetsUptoRow, standIns := [], harness := (true, "7c9b5fbf8ae26e58b80aa9c2d8a2f4f52c8727cfd51965a1c17b20962e881695"), looks := true }, kinds := [], alts := [], laidByText := true, laidKinds := [.data, .pinned], laidTests := true, laidLooks := .later }
def RpcGetsUptoCardSaid : Prop := Claim7.holds Tryd.pinned (.plain (OpenSpec.upto rpcGetsSpec)) rpcGetsUptoCard

/-- THE SECOND FORM's CARD OF 'posthouselaw09.RpcCut'. -/
def rpcCutUptoCard : Claim7 := { stood := { row := rpcCutUptoRow, standIns := [], harness := (true, "7c9b5fbf8ae26e58b80aa9c2d8a2f4f52c8727cfd51965a1c17b20962e881695"), looks := true }, kinds := [], alts := [], laidByText := true, laidKinds := [.data, .pinned], laidTests := true, laidLooks := .later }
def RpcCutUptoCardSaid : Prop := Claim7.holds Tryd.pinned (.plain (OpenSpec.upto rpcCutSpec)) rpcCutUptoCard
end Rows
end Go.Proofs.YtimbcombhdgjiaaDoor
