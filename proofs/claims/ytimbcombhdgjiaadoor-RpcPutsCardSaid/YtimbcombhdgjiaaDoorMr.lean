/- Messages: the reference's small functions. -/
import Derived.Test.YtimbcombhdgjiaaDoorMo
import Derived.Test.YtimbcombhdgjiaaDoorRf
import Derived.Test.YtimbcombhdgjiaaDoorRr
import Derived.BigGuardPart
namespace Go.Proofs.YtimbcombhdgjiaaDoor
open Go.RowKit
set_option linter.unusedSimpArgs false
set_option linter.unusedVariables false

theorem below_one (w : World) (o : Obj) : Below w.heap.size w (w.alloc o) := (Below.refl _ _).alloc (Nat.le_refl _) o
theorem mfnum_any (n l : Int) (w : World) : Calls Tryd.prog 18 #[.int .i64 n, .int .i64 l] w fun e w' => e = .returned (.bool (num32 n l)) ∧ w = w' := by
  by_cases h : l ≤ n
  · have d : decide (n ≥ l) = true := by simpa using h
    have e0 : num32 n l = decide (n ≤ 4294967295) := by unfold num32; rw [decide_eq_true h, Bool.true_and]
    rw [e0]
    clear e0
    go_enter Tryd.func18, Tryd.ntmps18
    go_wp2
    all_goals go_ret
    all_goals exact ⟨rfl, rfl⟩
  · have d : decide (n ≥ l) = false := by simpa using h
    have e0 : num32 n l = false := by unfold num32; rw [decide_eq_false h, Bool.false_and]
    rw [e0]
    clear e0
    go_enter Tryd.func18, Tryd.ntmps18
    go_wp2
    all_goals go_ret
    all_goals exact ⟨rfl, rfl⟩
theorem extract_first (s : ByteArray) (a n : Nat) (h : a + n ≤ s.size) : (s.extract a s.size).extract 0 n = s.extract a (a + n) := by
  apply ByteArray.ext
  apply Array.toList_inj.1
  simp only [ByteArray.data_extract, Array.toList_extract, List.extract_eq_take_drop, ByteArray.size_extract, List.drop_zero, List.take_take, Nat.sub_zero]
  congr 1
  omega
set_option maxRecDepth 100000 in
set_option maxHeartbeats 1000000 in
theorem mfat_any (s : ByteArray) (i : Nat) (w : World) (hs : s.size ≤ 1073741824) (hi : i ≤ 1000) : Calls Tryd.prog 26 #[.string s, .int .i64 i] w fun e w' => e = .returned (.int .i64 (atW s i)) ∧ Below w.heap.size w w' := by
  have w1 : IntKind.i64.wrap (4 * (i : Int)) = 4 * (i : Int) := by rw [IntKind.wrap_i64]; omega
  have w2 : IntKind.i64.wrap (4 * (i : Int) + 4) = 4 * (i : Int) + 4 := by rw [IntKind.wrap_i64]; omega
  unfold atW
  by_cases h : s.size < 4 * i + 4
  · rw [if_pos h]
    have d : decide (4 * (i : Int) + 4 > (s.size : Int)) = true := decide_eq_true (by omega)
    have d2 : s.size < 4 * i + 4 := h
    have d3 : (s.size : Int) < 4 * (i : Int) + 4 := by omega
    go_enter Tryd.func26, Tryd.ntmps26
    go_wp2
    go_ret
    exact ⟨rfl, Below.refl _ _⟩
  · rw [if_neg h]
    have d : decide (4 * (i : Int) + 4 > (s.size : Int)) = false := decide_eq_false (by omega)
    have d3 : ¬ (s.size : Int) < 4 * (i : Int) + 4 := by omega
    have HR := rfU_four w.heap.size s (s.extract (4 * i) s.size) (w.alloc (.cells #[.string s, .int .i64 (4 * i : Nat), .int .i64 0] 65 (0, 0))) hs (by rw [ByteArray.size_extract]; omega) ⟨4 * i, by omega, St.new w 65 _, fun _ => rfl⟩
    rw [extract_first s (4 * i) 4 (by omega)] at HR
    rw [show ((4 * i : Nat) : Int) = 4 * (i : Int) from by omega] at HR
    obtain ⟨v, hv⟩ : ∃ v, v = num (s.extract (4 * i) (4 * i + 4)).data.toList := ⟨_, rfl⟩
    rw [← hv] at HR ⊢
    have LB := Lib.hid (below_one w (.cells #[.string s, .int .i64 (4 * (i : Int)), .int .i64 0] 65 (0, 0)))
    replace HR := Lib.hid HR
    clear hv h
    go_enter Tryd.func26, Tryd.ntmps26
    go_wp2_with (go_at_call 37; go_must (refine (HR.out).mono ?_); rintro e w1 ⟨rfl, g1, k1⟩)
    go_ret
    exact ⟨rfl, LB.out.trans (k1.below (Nat.le_refl _) (by simp) (fun j e => by cases e))⟩
end Go.Proofs.YtimbcombhdgjiaaDoor
