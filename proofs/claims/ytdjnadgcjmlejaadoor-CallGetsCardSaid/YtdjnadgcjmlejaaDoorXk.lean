/- The fixed calls that end each statement of layer 1. -/
import Derived.Test.YtdjnadgcjmlejaaDoorWm
namespace Go.Proofs.YtdjnadgcjmlejaaDoor
open Go.RowKit

def kt1 : List UInt8 := [0, 0, 0, 2, 97, 98, 0, 0]
def kt2 : List UInt8 := [0, 0, 0, 2, 97, 98, 0, 0, 0, 0, 0, 1, 0, 0, 0, 0, 0, 0, 0, 5]
theorem kt_one : putOpaque ⟨#[97, 98]⟩ = (0, kt1) := by decide
theorem kt_two : putOpt true 5 = (0, [0, 0, 0, 1, 0, 0, 0, 0, 0, 0, 0, 5]) := by decide

theorem wOpaque_ab (k : Nat) (w : World) (h : Wr 60 5 k none [] w) :
    Calls Tryd.prog 35 #[.pointer (some ⟨k, 0, none⟩), .string ⟨#[97, 98]⟩] w fun e w' => e = .returned (.int .i64 0) ∧ Wrote 60 5 k none kt1 w w' := by
  refine (wOpaque_any k none [] ⟨#[97, 98]⟩ w (by simp) h).mono ?_
  rintro e w' ⟨rfl, hw⟩
  rw [kt_one] at *
  exact ⟨rfl, hw⟩

theorem wOpt_five (k : Nat) (r : Option Nat) (w : World) (h : Wr 60 5 k r kt1 w) :
    Calls Tryd.prog 41 #[.pointer (some ⟨k, 0, none⟩), .agg #[.bool true, .int .i64 5]] w fun e w' => e = .returned (.int .i64 0) ∧ Wrote 60 5 k r kt2 w w' := by
  refine (wOpt_any k r kt1 true 5 w (by decide) h).mono ?_
  rintro e w' ⟨rfl, hw⟩
  rw [kt_two] at *
  exact ⟨rfl, hw⟩

theorem Pad_five (w : World) : Calls Tryd.prog 84 #[.int .i64 5] w fun e w' => e = .returned (.int .i64 3) ∧ w = w' := Pad_nat 5 w

theorem wr_new {T E : TypeId} {w : World} : Wr T E w.heap.size none [] (w.alloc (.cells #[.slice none 0 0] T)) :=
  ⟨_, heap_alloc_new w _, World.ownsRow_nil _ _ _ _, rfl⟩

theorem Keep.new {r : Option Nat} {w w' : World} {o : Obj} (h : Keep w.heap.size r (w.alloc o) w') (hr : ∀ j, r = some j → w.heap.size ≤ j) : Below w.heap.size w w' :=
  ((Below.refl _ _).alloc (Nat.le_refl _) o).trans (h.below (Nat.le_refl _) (by simp) hr)

end Go.Proofs.YtdjnadgcjmlejaaDoor
