/- The seat's own structs as arguments. -/
import Derived.Test.YtinhdabfiahjpaaOa
namespace Go.Proofs.Ytinhdabfiahjpaa
open Go.Joins Go.ChangeShapes Go.WideShapes Go.RowKit Go.Deep
section
variable {H : Type} {enc : TypeId × Value → H} {w : World} {base b0 : Nat} {spare : Nat → Bool} {held : Bool} {r : Reach} {v : Value} {d : DataW H} {p : List MemPlace}
theorem open_attr (hv : Value.okWide Try.prog w r b0 40 v) (h : DataW.Trod enc Try.prog w base spare held 40 v d p) : ∃ a : Pa, v = .agg a.vs.toArray ∧ d = a.data ∧ p = [] ∧ a.num :=
  open_by Try.underlying40 (fun h => trod_pa Try.underlying40 (ti := 3) (by kernel_rfl) Try.underlying3 (by kernel_rfl) (by kernel_rfl) h) hv h
theorem open_cred (hv : Value.okWide Try.prog w r b0 44 v) (h : DataW.Trod enc Try.prog w base spare held 44 v d p) : ∃ c : Pc, v = .agg c.vs.toArray ∧ d = c.data ∧ p = [] ∧ c.num :=
  open_by Try.underlying44 (fun h => trod_pc Try.underlying44 (ti := 3) (by kernel_rfl) Try.underlying3 (by kernel_rfl) (by kernel_rfl) h) hv h
theorem trod_opt {fuel : Nat} {cs : List Value} {x : DataW H × List MemPlace} (h : DataW.trod enc Try.prog w base spare held fuel 23 cs = some x) : ∃ o : Po, cs = o.vs ∧ x = (o.data, []) ∧ o.num :=
  trod_po Try.underlying23 (by rfl) (tb := 4) (ti := 3) (by kernel_rfl) (by kernel_rfl) Try.underlying4 Try.underlying3 (by kernel_rfl) (by kernel_rfl) (by kernel_rfl) h
theorem open_set (hv : Value.okWide Try.prog w r b0 25 v) (h : DataW.Trod enc Try.prog w base spare held 25 v d p) : ∃ s : Ps, v = .agg s.vs.toArray ∧ d = s.data ∧ p = [] ∧ s.num :=
  open_by Try.underlying25 (fun h => trod_ps Try.underlying25 (by rfl) (to := 23) (by kernel_rfl) (by kernel_rfl) (by kernel_rfl) (by kernel_rfl) (by kernel_rfl) (by kernel_rfl) (by kernel_rfl) trod_opt h) hv h
end
end Go.Proofs.Ytinhdabfiahjpaa
