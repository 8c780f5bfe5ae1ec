/- Several texts in one: Ib. -/
import Derived.Test.YtikeckmbfgidhaaGreatDoorZy04
import Derived.Test.YtikeckmbfgidhaaGreatDoorZy14
import Derived.Test.YtikeckmbfgidhaaGreatDoorZy21
import Derived.Test.YtikeckmbfgidhaaGreatDoorZy24
/- Texts in areas of a disk: plainly; the small functions of the program and of the reference. -/
namespace Go.Proofs.YtikeckmbfgidhaaGreatDoor
open Go.RowKit

/-- How many sectors so many bytes take. -/
def secN (n : Nat) : Nat := (n + 135) / 128
def secI (n : Int) : Int := if n < 0 ∨ 1048576 < n then 0 else (n + 135) / 128
theorem secI_nat (n : Nat) (h : n ≤ 1048576) : secI n = (secN n : Int) := by unfold secI secN; rw [if_neg (by omega)]; omega
theorem secI_pos {n : Int} (h : 0 < secI n) : 0 ≤ n ∧ n ≤ 1048576 := by unfold secI at h; split at h <;> omega
/-- The bytes of a text, ahead of the last sector's rest. -/
def stHead (s : ByteArray) : List UInt8 := be 4 s.size ++ be 4 (sumOf s).toNat ++ padded s
theorem stHead_len (s : ByteArray) : (stHead s).length = 8 + s.size + padN s.size := by
  unfold stHead padded
  simp [be_length]
  have := Lib.size_eq s
  omega
/-- All bytes of a text's sectors. -/
def stB (s : ByteArray) : ByteArray := str (stHead s) ++ noughts (128 * secN s.size - (stHead s).length)
theorem stB_size (s : ByteArray) : (stB s).size = 128 * secN s.size := by
  unfold stB
  rw [ByteArray.size_append, str_size, noughts_size, stHead_len]
  have := padN_lt s.size
  unfold secN padN
  omega

set_option maxRecDepth 100000 in
theorem iSectors_any (n : Int) (w : World) : Calls Tryz.prog 14 #[.int .i64 n] w fun e w' => e = .returned (.int .i64 (secI n)) ∧ w = w' := by
  unfold secI
  by_cases h1 : n < 0
  · rw [if_pos (.inl h1)]
    have d1 : decide (n < 0) = true := decide_eq_true h1
    go_enter Tryz.func14, Tryz.ntmps14
    go_wp2
    go_ret
    exact ⟨rfl, rfl⟩
  · by_cases h2 : 1048576 < n
    · rw [if_pos (.inr h2)]
      have d1 : decide (n < 0) = false := decide_eq_false h1
      have d2 : decide (n > 1048576) = true := decide_eq_true h2
      go_enter Tryz.func14, Tryz.ntmps14
      go_wp2
      go_ret
      exact ⟨rfl, rfl⟩
    · rw [if_neg (by omega)]
      have d1 : decide (n < 0) = false := decide_eq_false h1
      have d2 : decide (n > 1048576) = false := decide_eq_false h2
      obtain ⟨m, rfl⟩ := Int.eq_ofNat_of_zero_le (Int.not_lt.1 h1)
      have hp := padN_lt m
      have hq : (8 + (m : Int) + (padN m : Int) + 128 - 1) / 128 = ((m : Int) + 135) / 128 := by unfold padN; omega
      go_enter Tryz.func14, Tryz.ntmps14
      go_wp2_with (go_at_call 31; go_must (refine (Pad_nat m _).mono ?_); rintro e w1 ⟨rfl, rfl⟩)
      go_ret
      exact ⟨by rw [← hq]; rfl, rfl⟩
set_option maxRecDepth 100000 in
theorem riSectors_any (n : Int) (w : World) : Calls Tryz.prog 13 #[.int .i64 n] w fun e w' => e = .returned (.int .i64 (secI n)) ∧ w = w' := by
  unfold secI
  by_cases h1 : n < 0
  · rw [if_pos (.inl h1)]
    have d1 : decide (n < 0) = true := decide_eq_true h1
    go_enter Tryz.func13, Tryz.ntmps13
    go_wp2
    go_ret
    exact ⟨rfl, rfl⟩
  · by_cases h2 : 1048576 < n
    · rw [if_pos (.inr h2)]
      have d1 : decide (n < 0) = false := decide_eq_false h1
      have d2 : decide (n > 1048576) = true := decide_eq_true h2
      go_enter Tryz.func13, Tryz.ntmps13
      go_wp2
      go_ret
      exact ⟨rfl, rfl⟩
    · rw [if_neg (by omega)]
      have d1 : decide (n < 0) = false := decide_eq_false h1
      have d2 : decide (n > 1048576) = false := decide_eq_false h2
      go_enter Tryz.func13, Tryz.ntmps13
      go_wp2
      go_ret
      exact ⟨rfl, rfl⟩
def holdsB (c n : Int) : Bool := decide (0 < secI n) && decide (secI n ≤ c)
set_option maxRecDepth 100000 in
theorem iholds_any (c n : Int) (w : World) : Calls Tryz.prog 16 #[.int .i64 c, .int .i64 n] w fun e w' => e = .returned (.bool (holdsB c n)) ∧ w = w' := by
  have HS := Lib.hid (iSectors_any n w)
  unfold holdsB
  obtain ⟨q, hq⟩ : ∃ q, q = secI n := ⟨_, rfl⟩
  rw [← hq] at HS ⊢
  clear hq
  by_cases h1 : 0 < q
  · have d1 : decide (0 < q) = true := decide_eq_true h1
    rw [d1, Bool.true_and]
    go_enter Tryz.func16, Tryz.ntmps16
    go_wp2_with (go_at_call 14; go_must (refine HS.out.mono ?_); rintro e w1 ⟨rfl, rfl⟩)
    go_ret
    exact ⟨rfl, rfl⟩
  · have d1 : decide (0 < q) = false := decide_eq_false h1
    rw [d1, Bool.false_and]
    go_enter Tryz.func16, Tryz.ntmps16
    go_wp2_with (go_at_call 14; go_must (refine HS.out.mono ?_); rintro e w1 ⟨rfl, rfl⟩)
    go_ret
    exact ⟨rfl, rfl⟩
set_option maxRecDepth 100000 in
theorem irefusal_no (from_ count : Int) (w : World) : Calls Tryz.prog 15 #[.pointer none, .int .i64 from_, .int .i64 count] w fun e w' => e = .returned (.int .i64 1) ∧ w = w' := by
  go_enter Tryz.func15, Tryz.ntmps15
  go_wp2
  go_ret
  exact ⟨rfl, rfl⟩
/-- Is there no such area? -/
def outB (f c : Int) (n : Nat) : Bool := decide (f < 0) || decide (c < 1) || decide (f > (n : Int) - c)
set_option maxRecDepth 100000 in
theorem irefusal_any (B p : Nat) (F : Nat → Prop) (D : DS) (f c : Int) (w : World) (hc : c ≤ 9223372036854775807) (h : PD B p F D w) : Calls Tryz.prog 15 #[.pointer (some ⟨p, 0, none⟩), .int .i64 f, .int .i64 c] w fun e w' =>
    e = .returned (.int .i64 (if outB f c D.kept.length then 3 else 0)) ∧ w = w' := by
  have HS := Lib.hid (dSize_any B p F D w h)
  have hl : D.kept.length ≤ 65536 := by
    obtain ⟨_, _, _, _, _, h0, _⟩ := h
    exact h0.pos.2
  unfold outB
  obtain ⟨n, hn⟩ : ∃ n, n = D.kept.length := ⟨_, rfl⟩
  rw [← hn] at HS hl ⊢
  clear hn h
  by_cases h1 : f < 0
  · have d1 : decide (f < 0) = true := decide_eq_true h1
    rw [d1, Bool.true_or, Bool.true_or, if_pos rfl]
    go_enter Tryz.func15, Tryz.ntmps15
    go_wp2
    go_ret
    exact ⟨rfl, rfl⟩
  · have d1 : decide (f < 0) = false := decide_eq_false h1
    rw [d1, Bool.false_or]
    by_cases h2 : c < 1
    · have d2 : decide (c < 1) = true := decide_eq_true h2
      rw [d2, Bool.true_or, if_pos rfl]
      go_enter Tryz.func15, Tryz.ntmps15
      go_wp2
      go_ret
      exact ⟨rfl, rfl⟩
    · have d2 : decide (c < 1) = false := decide_eq_false h2
      rw [d2, Bool.false_or]
      by_cases h3 : f > (n : Int) - c
      · have d3 : decide (f > (n : Int) - c) = true := decide_eq_true h3
        rw [d3, if_pos rfl]
        go_enter Tryz.func15, Tryz.ntmps15
        go_wp2_with (go_at_call 32; go_must (refine HS.out.mono ?_); rintro e w1 ⟨rfl, rfl⟩)
        go_ret
        exact ⟨rfl, rfl⟩
      · have d3 : decide (f > (n : Int) - c) = false := decide_eq_false h3
        rw [d3, if_neg (by simp)]
        go_enter Tryz.func15, Tryz.ntmps15
        go_wp2_with (go_at_call 32; go_must (refine HS.out.mono ?_); rintro e w1 ⟨rfl, rfl⟩)
        go_ret
        exact ⟨rfl, rfl⟩
end Go.Proofs.YtikeckmbfgidhaaGreatDoor
