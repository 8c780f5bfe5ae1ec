/- The fixed calls that end each statement of layer 1. -/
import Derived.Test.YtimbcombhdgjiaaDoorWm
namespace Go.Proofs.YtimbcombhdgjiaaDoor
open Go.RowKit

def kt1 : List UInt8 := [0, 0, 0, 2, 97, 98, 0, 0]
def kt2 : List UInt8 := [0, 0, 0, 2, 97, 98, 0, 0, 0, 0, 0, 1, 0, 0, 0, 0, 0, 0, 0, 5]
theorem kt_one : putOpaque ⟨#[97, 98]⟩ = (0, kt1) := by decide
theorem kt_two : putOpt true 5 = (0, [0, 0, 0, 1, 0, 0, 0, 0, 0, 0, 0, 5]) := by decide

theorem Pad_five (w : World) : Calls Tryd.prog 38 #[.int .i64 5] w fun e w' => e = .returned (.int .i64 3) ∧ w = w' := Pad_nat 5 w

theorem wr_new {T E : TypeId} {w : World} : Wr T E w.heap.size none [] (w.alloc (.cells #[.slice none 0 0] T)) :=
  ⟨_, heap_alloc_new w _, World.ownsRow_nil _ _ _ _, rfl⟩

theorem Keep.new {r : Option Nat} {w w' : World} {o : Obj} (h : Keep w.heap.size r (w.alloc o) w') (hr : ∀ j, r = some j → w.heap.size ≤ j) : Below w.heap.size w w' :=
  ((Below.refl _ _).alloc (Nat.le_refl _) o).trans (h.below (Nat.le_refl _) (by simp) hr)

end Go.Proofs.YtimbcombhdgjiaaDoor
