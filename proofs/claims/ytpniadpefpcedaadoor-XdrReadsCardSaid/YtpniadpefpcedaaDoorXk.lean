/- The fixed calls that end each statement of layer 1. -/
import Derived.Test.YtpniadpefpcedaaDoorWm
namespace Go.Proofs.YtpniadpefpcedaaDoor
open Go.RowKit

def kt1 : List UInt8 := [0, 0, 0, 2, 97, 98, 0, 0]
def kt2 : List UInt8 := [0, 0, 0, 2, 97, 98, 0, 0, 0, 0, 0, 1, 0, 0, 0, 0, 0, 0, 0, 5]
theorem kt_one : putOpaque ⟨#[97, 98]⟩ = (0, kt1) := by decide
theorem kt_two : putOpt true 5 = (0, [0, 0, 0, 1, 0, 0, 0, 0, 0, 0, 0, 5]) := by decide

theorem wOpaque_ab (k : Nat) (w : World) (h : Wr 41 5 k none [] w) :
    Calls Tryd.prog 19 #[.pointer (some ⟨k, 0, none⟩), .string ⟨#[97, 98]⟩] w fun e w' => e = .returned (.int .i64 0) ∧ Wrote 41 5 k none kt1 w w' := by
  refine (wOpaque_any k none [] ⟨#[97, 98]⟩ w (by simp) h).mono ?_
  rintro e w' ⟨rfl, hw⟩
  rw [kt_one] at *
  exact ⟨rfl, hw⟩

theorem wOpt_five (k : Nat) (r : Option Nat) (w : World) (h : Wr 41 5 k r kt1 w) :
    Calls Tryd.prog 20 #[.pointer (some ⟨k, 0, none⟩), .agg #[.bool true, .int .i64 5]] w fun e w' => e = .returned (.int .i64 0) ∧ Wrote 41 5 k r kt2 w w' := by
  refine (wOpt_any k r kt1 true 5 w (by decide) h).mono ?_
  rintro e w' ⟨rfl, hw⟩
  rw [kt_two] at *
  exact ⟨rfl, hw⟩

theorem Pad_five (w : World) : Calls Tryd.prog 21 #[.int .i64 5] w fun e w' => e = .returned (.int .i64 3) ∧ w = w' := Pad_nat 5 w

theorem wr_new {T E : TypeId} {w : World} : Wr T E w.heap.size none [] (w.alloc (.cells #[.slice none 0 0] T)) :=
  ⟨_, heap_alloc_new w _, World.ownsRow_nil _ _ _ _, rfl⟩

theorem Keep.new {r : Option Nat} {w w' : World} {o : Obj} (h : Keep w.heap.size r (w.alloc o) w') (hr : ∀ j, r = some j → w.heap.size ≤ j) : Below w.heap.size w w' :=
  ((Below.refl _ _).alloc (Nat.le_refl _) o).trans (h.below (Nat.le_refl _) (by simp) hr)

set_option maxRecDepth 100000 in
theorem xknown_any (w : World) : Calls Tryd.prog 8 #[] w fun e w' => e = .returned (.bool true) ∧ Below w.heap.size w w' := by
  have h0 : Wr 41 5 w.heap.size none [] (w.alloc (.cells #[.slice none 0 0] 41)) := wr_new
  go_enter Tryd.func8, Tryd.ntmps8
  have hkt : ((str kt2).toList == [0, 0, 0, 2, 97, 98, 0, 0, 0, 0, 0, 1, 0, 0, 0, 0, 0, 0, 0, 5]) = true := by decide +kernel
  go_wp2_with (first | (go_at_call 19; go_must (refine (wOpaque_ab _ _ h0).mono ?_); rintro e w1 ⟨rfl, r1, hw1, hk1, hr1⟩) | (go_at_call 20; go_must (refine (wOpt_five _ r1 _ hw1).mono ?_); rintro e w2 ⟨rfl, r2, hw2, hk2, hr2⟩) | (go_at_call 17; go_must (refine (wText_any _ r2 _ _ hw2).mono ?_); rintro e w3 ⟨rfl, rfl⟩) | (go_at_call 21; go_must (refine (Pad_five _).mono ?_); rintro e w4 ⟨rfl, rfl⟩))
  go_ret
  exact ⟨rfl, (hk1.trans hk2 hr1).new (fun j hj => by cases hj)⟩

end Go.Proofs.YtpniadpefpcedaaDoor
