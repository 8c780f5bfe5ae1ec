/- The sums of the package, the reference's, and the fixed calls that end each statement of layer 2. -/
import Derived.Test.YtbdjhkcpnkdbkaaSs
import Derived.Test.YtbdjhkcpnkdbkaaRows
namespace Go.Proofs.Ytbdjhkcpnkdbkaa
open Go.RowKit

/-- The sum of a text. -/
def sumOf (s : ByteArray) : BitVec 32 := more 0#32 s.data.toList

theorem sOfM_any (k : Nat) (n : Int) (s : ByteArray) (w : World) (h1 : n < 9223372036854775807) (h0 : 0 ≤ n) (hs : s.size ≤ 9223372036854775807) (h : Smr k n w) :
    Calls Try.prog 19 #[.pointer (some ⟨k, 0, none⟩), .string s] w fun e w' => e = .returned (uv (sumOf s)) ∧ St 79 k (made (n + 1)) w' ∧ Keep k none w w' := by
  go_enter Try.func19, Try.ntmps19
  go_wp2_with (go_at_call 22; go_must (refine (more_any k n 0#32 s _ h1 h0 hs h).mono ?_); rintro e w1 ⟨rfl, hst, hk⟩)
  go_ret
  exact ⟨rfl, hst, hk⟩

theorem new_below {k : Nat} {w w' : World} {o : Obj} (hk : k = w.heap.size) (h : Keep k none (w.alloc o) w') : Below w.heap.size w w' := by
  subst hk
  exact ((Below.refl _ _).alloc (Nat.le_refl _) o).trans (h.below (Nat.le_refl _) (by simp) (fun j hj => by cases hj))

set_option maxRecDepth 100000 in
theorem sOf_any (s : ByteArray) (w : World) (hs : s.size ≤ 9223372036854775807) :
    Calls Try.prog 21 #[.string s] w fun e w' => e = .returned (uv (sumOf s)) ∧ Below w.heap.size w w' := by
  go_enter Try.func21, Try.ntmps21
  go_wp2_with (first | (go_at_call 18; go_must (refine (sNew_any _).mono ?_); rintro e w1 ⟨rfl, hw1⟩; have h0 : Smr w.heap.size 0 w1 := (by rw [← hw1]; exact .inl (heap_alloc_new w _))) | (go_at_call 19; go_must (refine (sOfM_any w.heap.size 0 s _ (by decide) (by decide) hs h0).mono ?_); rintro e w2 ⟨rfl, hst, hk⟩))
  go_ret
  subst hw1
  exact ⟨rfl, new_below rfl hk⟩

theorem sCalls_any (k : Nat) (n : Int) (w : World) (h : Smr k n w) :
    Calls Try.prog 23 #[.pointer (some ⟨k, 0, none⟩)] w fun e w' => e = .returned (.int .i64 n) ∧ w = w' := by
  have hc : w.cell? ⟨k, 19, none⟩ = some (.int .i64 n) := by rcases h with h | h <;> exact h.cell rfl
  have hl := run_call_load (P := Try.prog) Try.func44 (by kernel_rfl) (by kernel_rfl) (by kernel_rfl) .i64 (by kernel_rfl) hc
  clear h
  go_enter Try.func23, Try.ntmps23
  go_wp2
  go_ret
  exact ⟨rfl, rfl⟩

theorem sOfM_nil (s : ByteArray) (w : World) : Calls Try.prog 19 #[.pointer none, .string s] w fun e w' => e = .returned (.int .u32 0) ∧ w = w' := by
  go_enter Try.func19, Try.ntmps19
  go_wp2
  go_ret
  exact ⟨rfl, rfl⟩
theorem sMore_nil (n : Int) (s : ByteArray) (w : World) : Calls Try.prog 22 #[.pointer none, .int .u32 n, .string s] w fun e w' => e = .returned (.int .u32 0) ∧ w = w' := by
  go_enter Try.func22, Try.ntmps22
  go_wp2
  go_ret
  exact ⟨rfl, rfl⟩
theorem sCalls_nil (w : World) : Calls Try.prog 23 #[.pointer none] w fun e w' => e = .returned (.int .i64 0) ∧ w = w' := by
  go_enter Try.func23, Try.ntmps23
  go_wp2
  go_ret
  exact ⟨rfl, rfl⟩

theorem sum_nine : sumOf ⟨#[49, 50, 51, 52, 53, 54, 55, 56, 57]⟩ = 3808858755#32 := by decide +kernel
theorem sum_empty : sumOf ⟨#[]⟩ = 0#32 := by decide +kernel

theorem sOf_nine (w : World) : Calls Try.prog 21 #[.string ⟨#[49, 50, 51, 52, 53, 54, 55, 56, 57]⟩] w fun e w' => e = .returned (.int .u32 3808858755) ∧ Below w.heap.size w w' := by
  refine (sOf_any ⟨#[49, 50, 51, 52, 53, 54, 55, 56, 57]⟩ w (by decide)).mono ?_
  rintro e w' ⟨rfl, hb⟩
  rw [sum_nine]
  exact ⟨rfl, hb⟩
theorem sOf_empty (w : World) : Calls Try.prog 21 #[.string ⟨#[]⟩] w fun e w' => e = .returned (.int .u32 0) ∧ Below w.heap.size w w' := by
  refine (sOf_any ⟨#[]⟩ w (by decide)).mono ?_
  rintro e w' ⟨rfl, hb⟩
  rw [sum_empty]
  exact ⟨rfl, hb⟩

theorem sknown_any (w : World) : Calls Try.prog 17 #[] w fun e w' => e = .returned (.bool true) ∧ Below w.heap.size w w' := by
  go_enter Try.func17, Try.ntmps17
  go_wp2_with fail
  go_must (refine (sOf_nine _).mono ?_)
  rintro e w1 ⟨rfl, hb1⟩
  go_wp2_with fail
  go_must (refine (sOf_empty _).mono ?_)
  rintro e w2 ⟨rfl, hb2⟩
  go_wp2
  go_ret
  exact ⟨rfl, hb1.trans (hb2.mono hb1.size)⟩

end Go.Proofs.Ytbdjhkcpnkdbkaa
