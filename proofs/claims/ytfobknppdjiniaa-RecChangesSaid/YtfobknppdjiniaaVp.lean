/- What the law of changes asks of the program: Changes; its fixed calls (rxknown_any, in Vpe). -/
import Derived.Test.YtfobknppdjiniaaVpa
import Derived.Test.YtfobknppdjiniaaVpe
namespace Go.Proofs.Ytfobknppdjiniaa
open Go.RowKit

theorem rcChanges_any (cs : List Value) (ca : CA) (w : World) (h : CAt w.heap.size cs ca w) (hn : ca.helds.length + ca.files.length + ca.names.length + ca.blocks.length ≤ 1073741824) :
    Calls Try.prog 6 #[.agg cs.toArray] w fun e w' => ∃ v, e = .returned v ∧ RowsAt w'.heap.size 18 Ch.vs v ca.changes w' ∧ Below w.heap.size w w' :=
  (recChanges_any cs ca w h hn).mono fun _ _ ⟨v, he, hr, hb⟩ => ⟨v, he, hr.rows, hb⟩
end Go.Proofs.Ytfobknppdjiniaa
