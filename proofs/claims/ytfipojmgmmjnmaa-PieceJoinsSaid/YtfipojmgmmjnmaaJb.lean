/- The reference's Nums and Check of pieces. -/
import Derived.Test.YtfipojmgmmjnmaaJa
import Derived.Test.YtfipojmgmmjnmaaSt
import Derived.Test.YtfipojmgmmjnmaaCw
import Derived.Test.YtfipojmgmmjnmaaRows
import Derived.BigGuardPart
namespace Go.Proofs.Ytfipojmgmmjnmaa
open Go.RowKit
set_option linter.unusedVariables false

set_option maxRecDepth 100000 in
theorem pkNums_any (e q : Int) (w : World) : Calls Try.prog 29 #[.int .i64 e, .int .i64 q] w fun a w' => a = .returned (.bool (numsB e q)) ∧ w = w' := by
  obtain ⟨r, hr⟩ : ∃ r, r = numsB e q := ⟨_, rfl⟩
  have HR := Lib.hid hr
  rw [← hr]
  clear hr
  by_cases h1 : 1 ≤ e
  · have d1 : decide (e ≥ 1) = true := decide_eq_true h1
    by_cases h2 : e ≤ 4294967295
    · have d2 : decide (e ≤ 4294967295) = true := decide_eq_true h2
      by_cases h3 : 1 ≤ q
      · have d3 : decide (q ≥ 1) = true := decide_eq_true h3
        go_enter Try.func29, Try.ntmps29
        go_wp2
        go_ret
        exact ⟨by rw [HR.out]; unfold numsB; rw [decide_eq_true (show 1 ≤ e by omega), decide_eq_true (show e ≤ 4294967295 by omega), decide_eq_true (show 1 ≤ q by omega)]; rfl, rfl⟩
      · have d3 : decide (q ≥ 1) = false := decide_eq_false h3
        go_enter Try.func29, Try.ntmps29
        go_wp2
        go_ret
        exact ⟨by rw [HR.out]; unfold numsB; rw [decide_eq_true (show 1 ≤ e by omega), decide_eq_true (show e ≤ 4294967295 by omega), decide_eq_false (show ¬ 1 ≤ q by omega)]; rfl, rfl⟩
    · have d2 : decide (e ≤ 4294967295) = false := decide_eq_false h2
      go_enter Try.func29, Try.ntmps29
      go_wp2
      go_ret
      exact ⟨by rw [HR.out]; unfold numsB; rw [decide_eq_false (show ¬ e ≤ 4294967295 by omega), Bool.and_false]; rfl, rfl⟩
  · have d1 : decide (e ≥ 1) = false := decide_eq_false h1
    go_enter Try.func29, Try.ntmps29
    go_wp2
    go_ret
    exact ⟨by rw [HR.out]; unfold numsB; rw [decide_eq_false (show ¬ 1 ≤ e by omega)]; rfl, rfl⟩

set_option maxRecDepth 100000 in
set_option maxHeartbeats 1000000 in
theorem chk_n (epoch seq part parts : Int) (data : ByteArray) (w : World) (hn : numsB epoch seq = false) :
    Calls Try.prog 57 #[.agg #[.int .i64 epoch, .int .i64 seq, .int .i64 part, .int .i64 parts, .string data]] w fun a w' => a = .returned (.bool false) ∧ Below w.heap.size w w' := by
  have T0 := St.new w 81 #[.int .i64 epoch, .int .i64 seq, .int .i64 part, .int .i64 parts, .string data]
  have b0 := T0.cell (j := 0) rfl
  have b1 := T0.cell (j := 1) rfl
  have b2 := T0.cell (j := 2) rfl
  have b3 := T0.cell (j := 3) rfl
  have b4 := T0.cell (j := 4) rfl
  have hN := fun W => pkNums_any epoch seq W
  rw [hn] at hN
  have HN := Lib.hid hN
  have B0 := Lib.hid ((Below.refl _ w).alloc (Nat.le_refl w.heap.size) (.cells #[.int .i64 epoch, .int .i64 seq, .int .i64 part, .int .i64 parts, .string data] 81 (0, 0)))
  clear T0 hN hn
  go_enter Try.func57, Try.ntmps57
  go_wp2_with (go_at_call 29; go_must (with_reducible refine (HN.out _).mono ?_); rintro e w1 ⟨rfl, rfl⟩)
  go_ret
  exact ⟨rfl, B0.out⟩
set_option maxRecDepth 100000 in
set_option maxHeartbeats 1000000 in
theorem chk_0 (epoch seq part parts : Int) (data : ByteArray) (w : World) (hn : numsB epoch seq = true) (h0 : parts < 1) :
    Calls Try.prog 57 #[.agg #[.int .i64 epoch, .int .i64 seq, .int .i64 part, .int .i64 parts, .string data]] w fun a w' => a = .returned (.bool false) ∧ Below w.heap.size w w' := by
  have T0 := St.new w 81 #[.int .i64 epoch, .int .i64 seq, .int .i64 part, .int .i64 parts, .string data]
  have b0 := T0.cell (j := 0) rfl
  have b1 := T0.cell (j := 1) rfl
  have b2 := T0.cell (j := 2) rfl
  have b3 := T0.cell (j := 3) rfl
  have b4 := T0.cell (j := 4) rfl
  have hN := fun W => pkNums_any epoch seq W
  rw [hn] at hN
  have HN := Lib.hid hN
  have d0 : decide (parts < 1) = true := decide_eq_true (by omega)
  have B0 := Lib.hid ((Below.refl _ w).alloc (Nat.le_refl w.heap.size) (.cells #[.int .i64 epoch, .int .i64 seq, .int .i64 part, .int .i64 parts, .string data] 81 (0, 0)))
  clear T0 hN hn h0
  go_enter Try.func57, Try.ntmps57
  go_wp2_with (go_at_call 29; go_must (with_reducible refine (HN.out _).mono ?_); rintro e w1 ⟨rfl, rfl⟩)
  go_ret
  exact ⟨rfl, B0.out⟩
set_option maxRecDepth 100000 in
set_option maxHeartbeats 1000000 in
theorem chk_1 (epoch seq part parts : Int) (data : ByteArray) (w : World) (hn : numsB epoch seq = true) (h0 : ¬ parts < 1) (h1 : 64 < parts) :
    Calls Try.prog 57 #[.agg #[.int .i64 epoch, .int .i64 seq, .int .i64 part, .int .i64 parts, .string data]] w fun a w' => a = .returned (.bool false) ∧ Below w.heap.size w w' := by
  have T0 := St.new w 81 #[.int .i64 epoch, .int .i64 seq, .int .i64 part, .int .i64 parts, .string data]
  have b0 := T0.cell (j := 0) rfl
  have b1 := T0.cell (j := 1) rfl
  have b2 := T0.cell (j := 2) rfl
  have b3 := T0.cell (j := 3) rfl
  have b4 := T0.cell (j := 4) rfl
  have hN := fun W => pkNums_any epoch seq W
  rw [hn] at hN
  have HN := Lib.hid hN
  have d0 : decide (parts < 1) = false := decide_eq_false (by omega)
  have d1 : decide (parts > 64) = true := decide_eq_true (by omega)
  have B0 := Lib.hid ((Below.refl _ w).alloc (Nat.le_refl w.heap.size) (.cells #[.int .i64 epoch, .int .i64 seq, .int .i64 part, .int .i64 parts, .string data] 81 (0, 0)))
  clear T0 hN hn h0 h1
  go_enter Try.func57, Try.ntmps57
  go_wp2_with (go_at_call 29; go_must (with_reducible refine (HN.out _).mono ?_); rintro e w1 ⟨rfl, rfl⟩)
  go_ret
  exact ⟨rfl, B0.out⟩
set_option maxRecDepth 100000 in
set_option maxHeartbeats 1000000 in
theorem chk_2 (epoch seq part parts : Int) (data : ByteArray) (w : World) (hn : numsB epoch seq = true) (h0 : ¬ parts < 1) (h1 : ¬ 64 < parts) (h2 : part < 0) :
    Calls Try.prog 57 #[.agg #[.int .i64 epoch, .int .i64 seq, .int .i64 part, .int .i64 parts, .string data]] w fun a w' => a = .returned (.bool false) ∧ Below w.heap.size w w' := by
  have T0 := St.new w 81 #[.int .i64 epoch, .int .i64 seq, .int .i64 part, .int .i64 parts, .string data]
  have b0 := T0.cell (j := 0) rfl
  have b1 := T0.cell (j := 1) rfl
  have b2 := T0.cell (j := 2) rfl
  have b3 := T0.cell (j := 3) rfl
  have b4 := T0.cell (j := 4) rfl
  have hN := fun W => pkNums_any epoch seq W
  rw [hn] at hN
  have HN := Lib.hid hN
  have d0 : decide (parts < 1) = false := decide_eq_false (by omega)
  have d1 : decide (parts > 64) = false := decide_eq_false (by omega)
  have d2 : decide (part < 0) = true := decide_eq_true (by omega)
  have B0 := Lib.hid ((Below.refl _ w).alloc (Nat.le_refl w.heap.size) (.cells #[.int .i64 epoch, .int .i64 seq, .int .i64 part, .int .i64 parts, .string data] 81 (0, 0)))
  clear T0 hN hn h0 h1 h2
  go_enter Try.func57, Try.ntmps57
  go_wp2_with (go_at_call 29; go_must (with_reducible refine (HN.out _).mono ?_); rintro e w1 ⟨rfl, rfl⟩)
  go_ret
  exact ⟨rfl, B0.out⟩
set_option maxRecDepth 100000 in
set_option maxHeartbeats 1000000 in
theorem chk_3 (epoch seq part parts : Int) (data : ByteArray) (w : World) (hn : numsB epoch seq = true) (h0 : ¬ parts < 1) (h1 : ¬ 64 < parts) (h2 : ¬ part < 0) (h3 : parts ≤ part) :
    Calls Try.prog 57 #[.agg #[.int .i64 epoch, .int .i64 seq, .int .i64 part, .int .i64 parts, .string data]] w fun a w' => a = .returned (.bool false) ∧ Below w.heap.size w w' := by
  have T0 := St.new w 81 #[.int .i64 epoch, .int .i64 seq, .int .i64 part, .int .i64 parts, .string data]
  have b0 := T0.cell (j := 0) rfl
  have b1 := T0.cell (j := 1) rfl
  have b2 := T0.cell (j := 2) rfl
  have b3 := T0.cell (j := 3) rfl
  have b4 := T0.cell (j := 4) rfl
  have hN := fun W => pkNums_any epoch seq W
  rw [hn] at hN
  have HN := Lib.hid hN
  have d0 : decide (parts < 1) = false := decide_eq_false (by omega)
  have d1 : decide (parts > 64) = false := decide_eq_false (by omega)
  have d2 : decide (part < 0) = false := decide_eq_false (by omega)
  have d3 : decide (part ≥ parts) = true := decide_eq_true (by omega)
  have B0 := Lib.hid ((Below.refl _ w).alloc (Nat.le_refl w.heap.size) (.cells #[.int .i64 epoch, .int .i64 seq, .int .i64 part, .int .i64 parts, .string data] 81 (0, 0)))
  clear T0 hN hn h0 h1 h2 h3
  go_enter Try.func57, Try.ntmps57
  go_wp2_with (go_at_call 29; go_must (with_reducible refine (HN.out _).mono ?_); rintro e w1 ⟨rfl, rfl⟩)
  go_ret
  exact ⟨rfl, B0.out⟩
set_option maxRecDepth 100000 in
set_option maxHeartbeats 1000000 in
theorem chk_4 (epoch seq part parts : Int) (data : ByteArray) (w : World) (hn : numsB epoch seq = true) (h0 : ¬ parts < 1) (h1 : ¬ 64 < parts) (h2 : ¬ part < 0) (h3 : ¬ parts ≤ part) (h4 : 100 < data.size) :
    Calls Try.prog 57 #[.agg #[.int .i64 epoch, .int .i64 seq, .int .i64 part, .int .i64 parts, .string data]] w fun a w' => a = .returned (.bool false) ∧ Below w.heap.size w w' := by
  have T0 := St.new w 81 #[.int .i64 epoch, .int .i64 seq, .int .i64 part, .int .i64 parts, .string data]
  have b0 := T0.cell (j := 0) rfl
  have b1 := T0.cell (j := 1) rfl
  have b2 := T0.cell (j := 2) rfl
  have b3 := T0.cell (j := 3) rfl
  have b4 := T0.cell (j := 4) rfl
  have hN := fun W => pkNums_any epoch seq W
  rw [hn] at hN
  have HN := Lib.hid hN
  have d0 : decide (parts < 1) = false := decide_eq_false (by omega)
  have d1 : decide (parts > 64) = false := decide_eq_false (by omega)
  have d2 : decide (part < 0) = false := decide_eq_false (by omega)
  have d3 : decide (part ≥ parts) = false := decide_eq_false (by omega)
  have d4 : decide ((data.size : Int) > 100) = true := decide_eq_true (by omega)
  have B0 := Lib.hid ((Below.refl _ w).alloc (Nat.le_refl w.heap.size) (.cells #[.int .i64 epoch, .int .i64 seq, .int .i64 part, .int .i64 parts, .string data] 81 (0, 0)))
  clear T0 hN hn h0 h1 h2 h3 h4
  go_enter Try.func57, Try.ntmps57
  go_wp2_with (go_at_call 29; go_must (with_reducible refine (HN.out _).mono ?_); rintro e w1 ⟨rfl, rfl⟩)
  go_ret
  exact ⟨rfl, B0.out⟩
set_option maxRecDepth 100000 in
set_option maxHeartbeats 1000000 in
theorem chk_full (epoch seq part parts : Int) (data : ByteArray) (w : World) (hn : numsB epoch seq = true) (h0 : ¬ parts < 1) (h1 : ¬ 64 < parts) (h2 : ¬ part < 0) (h3 : ¬ parts ≤ part) (h4 : ¬ 100 < data.size) (h5 : part < parts - 1) (h6 : data.size = 100) :
    Calls Try.prog 57 #[.agg #[.int .i64 epoch, .int .i64 seq, .int .i64 part, .int .i64 parts, .string data]] w fun a w' => a = .returned (.bool true) ∧ Below w.heap.size w w' := by
  have T0 := St.new w 81 #[.int .i64 epoch, .int .i64 seq, .int .i64 part, .int .i64 parts, .string data]
  have b0 := T0.cell (j := 0) rfl
  have b1 := T0.cell (j := 1) rfl
  have b2 := T0.cell (j := 2) rfl
  have b3 := T0.cell (j := 3) rfl
  have b4 := T0.cell (j := 4) rfl
  have hN := fun W => pkNums_any epoch seq W
  rw [hn] at hN
  have HN := Lib.hid hN
  have d0 : decide (parts < 1) = false := decide_eq_false (by omega)
  have d1 : decide (parts > 64) = false := decide_eq_false (by omega)
  have d2 : decide (part < 0) = false := decide_eq_false (by omega)
  have d3 : decide (part ≥ parts) = false := decide_eq_false (by omega)
  have d4 : decide ((data.size : Int) > 100) = false := decide_eq_false (by omega)
  have hw : IntKind.i64.wrap (parts - 1) = parts - 1 := by rw [IntKind.wrap_i64]; omega
  have d5 : decide (part < parts - 1) = true := decide_eq_true h5
  have d6 : ((data.size : Int) == 100) = true := by rw [h6]; rfl
  have B0 := Lib.hid ((Below.refl _ w).alloc (Nat.le_refl w.heap.size) (.cells #[.int .i64 epoch, .int .i64 seq, .int .i64 part, .int .i64 parts, .string data] 81 (0, 0)))
  clear T0 hN hn h0 h1 h2 h3 h4 h5 h6
  go_enter Try.func57, Try.ntmps57
  go_wp2_with (go_at_call 29; go_must (with_reducible refine (HN.out _).mono ?_); rintro e w1 ⟨rfl, rfl⟩)
  go_ret
  exact ⟨rfl, B0.out⟩
set_option maxRecDepth 100000 in
set_option maxHeartbeats 1000000 in
theorem chk_part (epoch seq part parts : Int) (data : ByteArray) (w : World) (hn : numsB epoch seq = true) (h0 : ¬ parts < 1) (h1 : ¬ 64 < parts) (h2 : ¬ part < 0) (h3 : ¬ parts ≤ part) (h4 : ¬ 100 < data.size) (h5 : part < parts - 1) (h6 : data.size ≠ 100) :
    Calls Try.prog 57 #[.agg #[.int .i64 epoch, .int .i64 seq, .int .i64 part, .int .i64 parts, .string data]] w fun a w' => a = .returned (.bool false) ∧ Below w.heap.size w w' := by
  have T0 := St.new w 81 #[.int .i64 epoch, .int .i64 seq, .int .i64 part, .int .i64 parts, .string data]
  have b0 := T0.cell (j := 0) rfl
  have b1 := T0.cell (j := 1) rfl
  have b2 := T0.cell (j := 2) rfl
  have b3 := T0.cell (j := 3) rfl
  have b4 := T0.cell (j := 4) rfl
  have hN := fun W => pkNums_any epoch seq W
  rw [hn] at hN
  have HN := Lib.hid hN
  have d0 : decide (parts < 1) = false := decide_eq_false (by omega)
  have d1 : decide (parts > 64) = false := decide_eq_false (by omega)
  have d2 : decide (part < 0) = false := decide_eq_false (by omega)
  have d3 : decide (part ≥ parts) = false := decide_eq_false (by omega)
  have d4 : decide ((data.size : Int) > 100) = false := decide_eq_false (by omega)
  have hw : IntKind.i64.wrap (parts - 1) = parts - 1 := by rw [IntKind.wrap_i64]; omega
  have d5 : decide (part < parts - 1) = true := decide_eq_true h5
  have d6 : ((data.size : Int) == 100) = false := by rw [beq_eq_false_iff_ne]; omega
  have B0 := Lib.hid ((Below.refl _ w).alloc (Nat.le_refl w.heap.size) (.cells #[.int .i64 epoch, .int .i64 seq, .int .i64 part, .int .i64 parts, .string data] 81 (0, 0)))
  clear T0 hN hn h0 h1 h2 h3 h4 h5 h6
  go_enter Try.func57, Try.ntmps57
  go_wp2_with (go_at_call 29; go_must (with_reducible refine (HN.out _).mono ?_); rintro e w1 ⟨rfl, rfl⟩)
  go_ret
  exact ⟨rfl, B0.out⟩
set_option maxRecDepth 100000 in
set_option maxHeartbeats 1000000 in
theorem chk_some (epoch seq part parts : Int) (data : ByteArray) (w : World) (hn : numsB epoch seq = true) (h0 : ¬ parts < 1) (h1 : ¬ 64 < parts) (h2 : ¬ part < 0) (h3 : ¬ parts ≤ part) (h4 : ¬ 100 < data.size) (h5 : ¬ part < parts - 1) (h6 : 0 < data.size) :
    Calls Try.prog 57 #[.agg #[.int .i64 epoch, .int .i64 seq, .int .i64 part, .int .i64 parts, .string data]] w fun a w' => a = .returned (.bool true) ∧ Below w.heap.size w w' := by
  have T0 := St.new w 81 #[.int .i64 epoch, .int .i64 seq, .int .i64 part, .int .i64 parts, .string data]
  have b0 := T0.cell (j := 0) rfl
  have b1 := T0.cell (j := 1) rfl
  have b2 := T0.cell (j := 2) rfl
  have b3 := T0.cell (j := 3) rfl
  have b4 := T0.cell (j := 4) rfl
  have hN := fun W => pkNums_any epoch seq W
  rw [hn] at hN
  have HN := Lib.hid hN
  have d0 : decide (parts < 1) = false := decide_eq_false (by omega)
  have d1 : decide (parts > 64) = false := decide_eq_false (by omega)
  have d2 : decide (part < 0) = false := decide_eq_false (by omega)
  have d3 : decide (part ≥ parts) = false := decide_eq_false (by omega)
  have d4 : decide ((data.size : Int) > 100) = false := decide_eq_false (by omega)
  have hw : IntKind.i64.wrap (parts - 1) = parts - 1 := by rw [IntKind.wrap_i64]; omega
  have d5 : decide (part < parts - 1) = false := decide_eq_false h5
  have d6 : decide ((data.size : Int) > 0) = true := decide_eq_true (by omega)
  have d7 : 0 < data.size := h6
  have B0 := Lib.hid ((Below.refl _ w).alloc (Nat.le_refl w.heap.size) (.cells #[.int .i64 epoch, .int .i64 seq, .int .i64 part, .int .i64 parts, .string data] 81 (0, 0)))
  clear T0 hN hn h0 h1 h2 h3 h4 h5 h6
  go_enter Try.func57, Try.ntmps57
  go_wp2_with (go_at_call 29; go_must (with_reducible refine (HN.out _).mono ?_); rintro e w1 ⟨rfl, rfl⟩)
  go_ret
  exact ⟨rfl, B0.out⟩
set_option maxRecDepth 100000 in
set_option maxHeartbeats 1000000 in
theorem chk_one (epoch seq part parts : Int) (data : ByteArray) (w : World) (hn : numsB epoch seq = true) (h0 : ¬ parts < 1) (h1 : ¬ 64 < parts) (h2 : ¬ part < 0) (h3 : ¬ parts ≤ part) (h4 : ¬ 100 < data.size) (h5 : ¬ part < parts - 1) (h6 : data.size = 0) (h7 : parts = 1) :
    Calls Try.prog 57 #[.agg #[.int .i64 epoch, .int .i64 seq, .int .i64 part, .int .i64 parts, .string data]] w fun a w' => a = .returned (.bool true) ∧ Below w.heap.size w w' := by
  have T0 := St.new w 81 #[.int .i64 epoch, .int .i64 seq, .int .i64 part, .int .i64 parts, .string data]
  have b0 := T0.cell (j := 0) rfl
  have b1 := T0.cell (j := 1) rfl
  have b2 := T0.cell (j := 2) rfl
  have b3 := T0.cell (j := 3) rfl
  have b4 := T0.cell (j := 4) rfl
  have hN := fun W => pkNums_any epoch seq W
  rw [hn] at hN
  have HN := Lib.hid hN
  have d0 : decide (parts < 1) = false := decide_eq_false (by omega)
  have d1 : decide (parts > 64) = false := decide_eq_false (by omega)
  have d2 : decide (part < 0) = false := decide_eq_false (by omega)
  have d3 : decide (part ≥ parts) = false := decide_eq_false (by omega)
  have d4 : decide ((data.size : Int) > 100) = false := decide_eq_false (by omega)
  have hw : IntKind.i64.wrap (parts - 1) = parts - 1 := by rw [IntKind.wrap_i64]; omega
  have d5 : decide (part < parts - 1) = false := decide_eq_false h5
  have d6 : decide ((data.size : Int) > 0) = false := decide_eq_false (by omega)
  have d7 : ¬ 0 < data.size := by omega
  have d8 : (parts == 1) = true := by rw [h7]; rfl
  have B0 := Lib.hid ((Below.refl _ w).alloc (Nat.le_refl w.heap.size) (.cells #[.int .i64 epoch, .int .i64 seq, .int .i64 part, .int .i64 parts, .string data] 81 (0, 0)))
  clear T0 hN hn h0 h1 h2 h3 h4 h5 h6 h7
  go_enter Try.func57, Try.ntmps57
  go_wp2_with (go_at_call 29; go_must (with_reducible refine (HN.out _).mono ?_); rintro e w1 ⟨rfl, rfl⟩)
  go_ret
  exact ⟨rfl, B0.out⟩
set_option maxRecDepth 100000 in
set_option maxHeartbeats 1000000 in
theorem chk_not (epoch seq part parts : Int) (data : ByteArray) (w : World) (hn : numsB epoch seq = true) (h0 : ¬ parts < 1) (h1 : ¬ 64 < parts) (h2 : ¬ part < 0) (h3 : ¬ parts ≤ part) (h4 : ¬ 100 < data.size) (h5 : ¬ part < parts - 1) (h6 : data.size = 0) (h7 : parts ≠ 1) :
    Calls Try.prog 57 #[.agg #[.int .i64 epoch, .int .i64 seq, .int .i64 part, .int .i64 parts, .string data]] w fun a w' => a = .returned (.bool false) ∧ Below w.heap.size w w' := by
  have T0 := St.new w 81 #[.int .i64 epoch, .int .i64 seq, .int .i64 part, .int .i64 parts, .string data]
  have b0 := T0.cell (j := 0) rfl
  have b1 := T0.cell (j := 1) rfl
  have b2 := T0.cell (j := 2) rfl
  have b3 := T0.cell (j := 3) rfl
  have b4 := T0.cell (j := 4) rfl
  have hN := fun W => pkNums_any epoch seq W
  rw [hn] at hN
  have HN := Lib.hid hN
  have d0 : decide (parts < 1) = false := decide_eq_false (by omega)
  have d1 : decide (parts > 64) = false := decide_eq_false (by omega)
  have d2 : decide (part < 0) = false := decide_eq_false (by omega)
  have d3 : decide (part ≥ parts) = false := decide_eq_false (by omega)
  have d4 : decide ((data.size : Int) > 100) = false := decide_eq_false (by omega)
  have hw : IntKind.i64.wrap (parts - 1) = parts - 1 := by rw [IntKind.wrap_i64]; omega
  have d5 : decide (part < parts - 1) = false := decide_eq_false h5
  have d6 : decide ((data.size : Int) > 0) = false := decide_eq_false (by omega)
  have d7 : ¬ 0 < data.size := by omega
  have d8 : (parts == 1) = false := by rw [beq_eq_false_iff_ne]; exact h7
  have B0 := Lib.hid ((Below.refl _ w).alloc (Nat.le_refl w.heap.size) (.cells #[.int .i64 epoch, .int .i64 seq, .int .i64 part, .int .i64 parts, .string data] 81 (0, 0)))
  clear T0 hN hn h0 h1 h2 h3 h4 h5 h6 h7
  go_enter Try.func57, Try.ntmps57
  go_wp2_with (go_at_call 29; go_must (with_reducible refine (HN.out _).mono ?_); rintro e w1 ⟨rfl, rfl⟩)
  go_ret
  exact ⟨rfl, B0.out⟩

theorem pkCheck_any (p : Pz) (w : World) : Calls Try.prog 57 #[.agg p.arr] w fun a w' => a = .returned (.bool p.ok) ∧ Below w.heap.size w w' := by
  obtain ⟨epoch, seq, part, parts, data⟩ := p
  show Calls Try.prog 57 #[.agg #[.int .i64 epoch, .int .i64 seq, .int .i64 part, .int .i64 parts, .string data]] w _
  cases hn : numsB epoch seq with
  | false =>
    have e : Pz.ok ⟨epoch, seq, part, parts, data⟩ = false := by simp [Pz.ok, hn]
    rw [e]
    exact chk_n epoch seq part parts data w hn
  | true =>
    by_cases h0 : parts < 1
    · have e : Pz.ok ⟨epoch, seq, part, parts, data⟩ = false := by simp [Pz.ok, show ¬ (1 ≤ parts) by omega]
      rw [e]
      exact chk_0 epoch seq part parts data w hn h0
    by_cases h1 : 64 < parts
    · have e : Pz.ok ⟨epoch, seq, part, parts, data⟩ = false := by simp [Pz.ok, show ¬ (parts ≤ 64) by omega]
      rw [e]
      exact chk_1 epoch seq part parts data w hn h0 h1
    by_cases h2 : part < 0
    · have e : Pz.ok ⟨epoch, seq, part, parts, data⟩ = false := by simp [Pz.ok, show ¬ (0 ≤ part) by omega]
      rw [e]
      exact chk_2 epoch seq part parts data w hn h0 h1 h2
    by_cases h3 : parts ≤ part
    · have e : Pz.ok ⟨epoch, seq, part, parts, data⟩ = false := by simp [Pz.ok, show ¬ (part < parts) by omega]
      rw [e]
      exact chk_3 epoch seq part parts data w hn h0 h1 h2 h3
    by_cases h4 : 100 < data.size
    · have e : Pz.ok ⟨epoch, seq, part, parts, data⟩ = false := by simp [Pz.ok, show ¬ (data.size ≤ 100) by omega]
      rw [e]
      exact chk_4 epoch seq part parts data w hn h0 h1 h2 h3 h4
    have eok : Pz.ok ⟨epoch, seq, part, parts, data⟩ = (if part < parts - 1 then decide (data.size = 100) else decide (0 < data.size) || decide (parts = 1)) := by
      simp only [Pz.ok, hn, decide_eq_true (show 1 ≤ parts by omega), decide_eq_true (show parts ≤ 64 by omega), decide_eq_true (show 0 ≤ part by omega), decide_eq_true (show part < parts by omega), decide_eq_true (show data.size ≤ 100 by omega), Bool.true_and]
    rw [eok]
    by_cases h5 : part < parts - 1
    · rw [if_pos h5]
      by_cases h6 : data.size = 100
      · rw [decide_eq_true h6]; exact chk_full epoch seq part parts data w hn h0 h1 h2 h3 h4 h5 h6
      · rw [decide_eq_false h6]; exact chk_part epoch seq part parts data w hn h0 h1 h2 h3 h4 h5 h6
    · rw [if_neg h5]
      by_cases h6 : 0 < data.size
      · rw [decide_eq_true h6]; exact chk_some epoch seq part parts data w hn h0 h1 h2 h3 h4 h5 h6
      · rw [decide_eq_false h6]
        by_cases h7 : parts = 1
        · rw [decide_eq_true h7]; exact chk_one epoch seq part parts data w hn h0 h1 h2 h3 h4 h5 (by omega) h7
        · rw [decide_eq_false h7]; exact chk_not epoch seq part parts data w hn h0 h1 h2 h3 h4 h5 (by omega) h7
end Go.Proofs.Ytfipojmgmmjnmaa
