/- A fact is hidden. -/
import Derived.Lib.Hide
namespace Go.Proofs.YtngfknplljedeaaGreat
theorem hI {p : Prop} (h : p) : RowKit.Hid p := h
end Go.Proofs.YtngfknplljedeaaGreat
