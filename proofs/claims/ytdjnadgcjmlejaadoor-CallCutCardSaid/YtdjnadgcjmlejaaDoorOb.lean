/- The seat's own structs as arguments. -/
import Derived.Test.YtdjnadgcjmlejaaDoorOa
namespace Go.Proofs.YtdjnadgcjmlejaaDoor
open Go.Joins Go.ChangeShapes Go.WideShapes Go.RowKit Go.Deep
section
variable {H : Type} {enc : TypeId × Value → H} {w : World} {base b0 : Nat} {spare : Nat → Bool} {held : Bool} {r : Reach} {v : Value} {d : DataW H} {p : List MemPlace}
set_option maxRecDepth 100000 in
theorem trod_opt {fuel : Nat} {cs : List Value} {x : DataW H × List MemPlace} (h : DataW.trod enc Tryd.prog w base spare held fuel 26 cs = some x) : ∃ o : Po, cs = o.vs ∧ x = (o.data, []) ∧ o.num :=
  trod_po Tryd.underlying26 (by rfl) (tb := 4) (ti := 3) (by kernel_rfl) (by kernel_rfl) Tryd.underlying4 Tryd.underlying3 (by kernel_rfl) (by kernel_rfl) (by kernel_rfl) h
set_option maxRecDepth 100000 in
theorem open_set (hv : Value.okWide Tryd.prog w r b0 28 v) (h : DataW.Trod enc Tryd.prog w base spare held 28 v d p) : ∃ s : Ps, v = .agg s.vs.toArray ∧ d = s.data ∧ p = [] ∧ s.num :=
  open_by Tryd.underlying28 (fun h => trod_ps Tryd.underlying28 (by rfl) (to := 26) (by kernel_rfl) (by kernel_rfl) (by kernel_rfl) (by kernel_rfl) (by kernel_rfl) (by kernel_rfl) (by kernel_rfl) trod_opt h) hv h
end
end Go.Proofs.YtdjnadgcjmlejaaDoor
