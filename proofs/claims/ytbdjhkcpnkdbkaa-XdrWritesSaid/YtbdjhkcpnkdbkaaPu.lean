/- The contracts of what writes one thing: the reference's, and the law's own; and of the law's look at sizes. -/
import Derived.Test.YtbdjhkcpnkdbkaaRf
import Derived.Deep.RegionHeld3
namespace Go.Proofs.Ytbdjhkcpnkdbkaa
open Go.RowKit

/-- A thing's error and bytes. -/
def thPut (kind n : Int) (is : Bool) (s : ByteArray) : Int × List UInt8 :=
  if kind = 1 then putU32 n else if kind = 2 then putU64 n else if kind = 3 then putBool is else if kind = 4 then putFixed s else if kind = 5 then putOpaque s else if kind = 6 then putOpt is n else (0, [])

theorem kinds (kind : Int) : kind = 1 ∨ kind = 2 ∨ kind = 3 ∨ kind = 4 ∨ kind = 5 ∨ kind = 6 ∨ (¬ kind = 1 ∧ ¬ kind = 2 ∧ ¬ kind = 3 ∧ ¬ kind = 4 ∧ ¬ kind = 5 ∧ ¬ kind = 6) := by omega

set_option maxRecDepth 100000 in
theorem rOpt_false (n : Int) (w : World) :
    Calls Try.prog 30 #[.agg #[.bool false, .int .i64 n]] w fun e w' => e = .returned (.string (str (be 4 0))) ∧ Below w.heap.size w w' := by
  go_enter Try.func30, Try.ntmps30
  go_wp2_with (go_at_call 27; go_must (refine (rTruth_any false _).mono ?_); rintro e w1 ⟨rfl, hb1⟩)
  go_ret
  exact ⟨rfl, ((Below.refl _ _).alloc (Nat.le_refl _) _).trans (hb1.mono (by simp))⟩

set_option maxRecDepth 100000 in
theorem rOpt_any (b : Bool) (n : Nat) (w : World) (hn : n ≤ 9223372036854775807) :
    Calls Try.prog 30 #[.agg #[.bool b, .int .i64 n]] w fun e w' => e = .returned (.string (str (if b then be 4 1 ++ be 8 n else be 4 0))) ∧ Below w.heap.size w w' := by
  cases b
  · go_enter Try.func30, Try.ntmps30
    go_wp2_with (go_at_call 27; go_must (refine (rTruth_any false _).mono ?_); rintro e w1 ⟨rfl, hb1⟩)
    go_ret
    exact ⟨rfl, ((Below.refl _ _).alloc (Nat.le_refl _) _).trans (hb1.mono (by simp))⟩
  · have he := str_append (be 4 1) (be 8 n)
    have h1 : (str (be 4 1)).size ≤ 8 := by rw [str_size, be_length]; omega
    have h2 : (str (be 8 n)).size ≤ 8 := by rw [str_size, be_length]; omega
    obtain ⟨x, hx⟩ : ∃ x, x = str (be 4 1) := ⟨_, rfl⟩
    obtain ⟨y, hy⟩ : ∃ y, y = str (be 8 n) := ⟨_, rfl⟩
    rw [← hx] at h1
    rw [← hy] at h2
    have hxy : ¬ 9223372036854775807 < x.size + y.size := by omega
    have HE := Lib.hid he
    have HX := Lib.hid hx
    have HY := Lib.hid hy
    clear he hx hy
    have hB0 : Below w.heap.size w (w.alloc (.cells #[.bool true, .int .i64 n] 56)).drew := ((Below.refl _ _).alloc (Nat.le_refl _) _).drew
    have hz0 : w.heap.size < (w.alloc (.cells #[.bool true, .int .i64 n] 56)).drew.heap.size := by simp
    go_enter Try.func30, Try.ntmps30
    go_wp2_with fail
    go_region_held3 (fun w' => w'.cell? ⟨w.heap.size, 1, none⟩ = some (.int .i64 n)) (first | (simp; done) | assumption)
      (first | (go_at_call 27; go_must (refine (rTruth_any true _).mono ?_; rintro e w1 ⟨rfl, hb1⟩; have d1 := (hb1.cell (p := ⟨w.heap.size, 1, none⟩) (by simp)).trans (show _ = some (Value.int .i64 n) by simp); have hB1 := hB0.trans (hb1.mono (by simp)); have hz1 := Nat.lt_of_lt_of_le hz0 hb1.size; rw [if_pos rfl, ← HX.out])) | (go_at_call 26; go_must (refine (rNum_any n 8 _ hn (by omega)).mono ?_; rintro e w2 ⟨rfl, hb2⟩; have d2 := (hb2.cell (p := ⟨w.heap.size, 1, none⟩) hz1).trans d1; have hB2 := hB1.trans (hb2.mono (by omega)); rw [← HY.out])))
    go_wp2
    go_ret
    refine ⟨?_, by assumption⟩
    rw [← HE.out, ← HX.out, ← HY.out]
    rfl

/-- What the reference's Put does. -/
def Refs (p : Int × List UInt8) (w : World) (e : Ending) (w' : World) : Prop := e = .returned (.tuple #[.string (str p.2), .int .i64 p.1]) ∧ Below w.heap.size w w'

def thVal (kind n : Int) (is : Bool) (s : ByteArray) : Value := .agg #[.int .i64 kind, .int .i64 n, .bool is, .string s]

theorem boxed {w w1 : World} {o : Obj} (h : Below (w.alloc o).heap.size (w.alloc o) w1) : Below w.heap.size w w1 := ((Below.refl _ _).alloc (Nat.le_refl _) o).trans (h.mono (by simp))
theorem boxed0 {w : World} {o : Obj} : Below w.heap.size w (w.alloc o) := (Below.refl _ _).alloc (Nat.le_refl _) o

set_option maxRecDepth 100000 in
set_option maxHeartbeats 1000000 in
theorem rPut_any (kind n : Int) (is : Bool) (s : ByteArray) (w : World) (hn : n ≤ 9223372036854775807) (hs : s.size ≤ 200) :
    Calls Try.prog 12 #[.agg #[.int .i64 kind, .int .i64 n, .bool is, .string s]] w (Refs (thPut kind n is s) w) := by
  have hl : ¬ 1048576 < s.size := by omega
  rcases kinds kind with rfl | rfl | rfl | rfl | rfl | rfl | ⟨k1, k2, k3, k4, k5, k6⟩
  · rw [show thPut 1 n is s = putU32 n from rfl]
    unfold putU32
    by_cases h1 : n < 0
    · rw [if_pos (.inl h1)]
      go_enter Try.func12, Try.ntmps12
      go_wp2
      go_ret2
      exact ⟨rfl, boxed0⟩
    · by_cases h2 : 4294967295 < n
      · rw [if_pos (.inr h2)]
        go_enter Try.func12, Try.ntmps12
        go_wp2
        go_ret2
        exact ⟨rfl, boxed0⟩
      · rw [if_neg (by omega)]
        obtain ⟨m, rfl⟩ := Int.eq_ofNat_of_zero_le (Int.not_lt.1 h1)
        rw [Int.toNat_natCast]
        go_enter Try.func12, Try.ntmps12
        go_wp2_with (go_at_call 26; go_must (refine (rNum_any m 4 _ (by omega) (by omega)).mono ?_); rintro e w' ⟨rfl, hb⟩)
        go_ret2
        exact ⟨rfl, boxed hb⟩
  · rw [show thPut 2 n is s = putU64 n from rfl]
    unfold putU64
    by_cases h1 : n < 0
    · rw [if_pos h1]
      go_enter Try.func12, Try.ntmps12
      go_wp2
      go_ret2
      exact ⟨rfl, boxed0⟩
    · rw [if_neg h1]
      obtain ⟨m, rfl⟩ := Int.eq_ofNat_of_zero_le (Int.not_lt.1 h1)
      rw [Int.toNat_natCast]
      go_enter Try.func12, Try.ntmps12
      go_wp2_with (go_at_call 26; go_must (refine (rNum_any m 8 _ (by omega) (by omega)).mono ?_); rintro e w' ⟨rfl, hb⟩)
      go_ret2
      exact ⟨rfl, boxed hb⟩
  · rw [show thPut 3 n is s = putBool is from rfl]
    cases is
    · go_enter Try.func12, Try.ntmps12
      go_wp2_with (go_at_call 27; go_must (refine (rTruth_any false _).mono ?_); rintro e w' ⟨rfl, hb⟩)
      go_ret2
      exact ⟨rfl, boxed hb⟩
    · go_enter Try.func12, Try.ntmps12
      go_wp2_with (go_at_call 27; go_must (refine (rTruth_any true _).mono ?_); rintro e w' ⟨rfl, hb⟩)
      go_ret2
      exact ⟨rfl, boxed hb⟩
  · rw [show thPut 4 n is s = putFixed s from rfl]
    unfold putFixed
    rw [if_neg hl]
    go_enter Try.func12, Try.ntmps12
    go_wp2_with (go_at_call 28; go_must (refine (rFilled_any s _ (by omega)).mono ?_); rintro e w' ⟨rfl, rfl⟩)
    go_ret2
    exact ⟨rfl, boxed0⟩
  · rw [show thPut 5 n is s = putOpaque s from rfl]
    unfold putOpaque
    rw [if_neg hl]
    go_enter Try.func12, Try.ntmps12
    go_wp2_with (go_at_call 29; go_must (refine (rText_any s _ (by omega)).mono ?_); rintro e w' ⟨rfl, hb⟩)
    go_ret2
    exact ⟨rfl, boxed hb⟩
  · rw [show thPut 6 n is s = putOpt is n from rfl]
    unfold putOpt
    cases is
    · rw [if_neg (by simp)]
      go_enter Try.func12, Try.ntmps12
      go_wp2_with (go_at_call 30; go_must (refine (rOpt_false n _).mono ?_); rintro e w' ⟨rfl, hb⟩)
      go_ret2
      exact ⟨rfl, boxed hb⟩
    · rw [if_pos rfl]
      by_cases h1 : n < 0
      · rw [if_pos h1]
        go_enter Try.func12, Try.ntmps12
        go_wp2
        go_ret2
        exact ⟨rfl, boxed0⟩
      · rw [if_neg h1]
        obtain ⟨m, rfl⟩ := Int.eq_ofNat_of_zero_le (Int.not_lt.1 h1)
        rw [Int.toNat_natCast]
        go_enter Try.func12, Try.ntmps12
        go_wp2_with (go_at_call 30; go_must (refine (rOpt_any true m _ (by omega)).mono ?_); rintro e w' ⟨rfl, hb⟩)
        go_ret2
        exact ⟨rfl, boxed hb⟩
  · have e : thPut kind n is s = (0, []) := by simp [thPut, k1, k2, k3, k4, k5, k6]
    rw [e]
    go_enter Try.func12, Try.ntmps12
    go_wp2
    go_ret2
    exact ⟨rfl, boxed0⟩

end Go.Proofs.Ytbdjhkcpnkdbkaa
