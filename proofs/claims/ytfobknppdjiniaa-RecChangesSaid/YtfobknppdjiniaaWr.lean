/- The contracts of a writer's methods. -/
import Derived.Test.YtfobknppdjiniaaFr
import Derived.Test.YtfobknppdjiniaaBe
import Derived.Test.YtfobknppdjiniaaRows
import Derived.Handy
import Derived.Deep.DeepMust
import Derived.WalkLawsBesides
namespace Go.Proofs.Ytfobknppdjiniaa
open Go.RowKit

theorem Try.infoU8 : (Try.prog.info? 5).map (fun i => (i.zero, i.size, i.bytes)) = some (some (.int .u8 0), 1, 1) := by kernel_rfl

set_option maxRecDepth 100000 in
set_option maxHeartbeats 400000 in
theorem number_any (k : Nat) (r : Option Nat) (xs : List UInt8) (n : Nat) (size : Nat) (w : World) (hs : size ≤ 8) (hl : xs.length ≤ 1073741824)
    (h : Wr 54 5 k r xs w) :
    Calls Try.prog 29 #[.pointer (some ⟨k, 0, none⟩), .int .i64 n, .int .i64 size] w fun e w' => e = .returned (.tuple #[]) ∧ Wrote 54 5 k r (xs ++ be size n) w w' := by
  obtain ⟨i0, hi, hz0, hz1, hz2⟩ := info_parts Try.infoU8
  go_enter Try.func29, Try.ntmps29
  go_wp2
  go_loopw [6] (fun s wr => ∃ i j : Nat, i + j = size ∧ s = .int .i64 (8 * ((j : Int) - 1)) ∧ Wrote 54 5 k r (xs ++ (be size n).take i) w wr) (fun s _ => (intOf s + 8).toNat)
  case atStart => exact ⟨0, size, by omega, by go_num, by simpa using Wrote.refl h⟩
  case round =>
    obtain ⟨i, j, hi', rfl, hwr⟩ := hrel
    obtain ⟨r', ⟨v, hb, hown, hv⟩, hkeep, hr'⟩ := hwr
    have hc := cell_of_one hb
    have hf := free_of_one hb
    have HB := Lib.hid hb
    have HV := Lib.hid hv
    clear hb hv
    match j with
    | j + 1 =>
      rw [show ((8 : Int) * (((j + 1 : Nat) : Int) - 1)) = 8 * (j : Int) from by omega]
      go_wp2
      have hlt := lt_of_block HB.out
      have hll : (xs ++ (be size n).take i).length ≤ 1073741832 := by simp [be_length]; omega
      obtain ⟨ys, hys⟩ : ∃ ys, ys = xs ++ (be size n).take i := ⟨_, rfl⟩
      rw [← hys] at hown hll
      have HY := Lib.hid hys
      clear hys
      have hne := own_ne hown
      go_region_law ((refine step_append_lies _ rfl (.tmp 18) (.tmp 23) 52 rfl (k + 1) 5 i0 (.int .u8 0) 1 1 Try.underlying52 hi hz0 hz1 hz2 rfl (by decide) v _ _ (by simp [Act.eval]) ((hown.alloc _).drew) ⟨wr.heap.size, 0, none⟩ 1 1 [.int .u8 (IntKind.u8.wrap ((n : Int) / 2 ^ (8 * (j : Int)).toNat))] (by simp [Act.eval]) rfl (cell_one_new _ _ _) (by intro u hu; simp at hu; subst hu; rfl) (by decide) (by unfold maxLen; omega) (by omega) (by simp; omega) _ (by simp; rfl) ?_; intro g cap w2 h1 hg hat hl2; have hb2 := block_grown HB.out (w1 := (wr.alloc _).drew) (fun j hj => Below.heap_alloc wr _ j hj) (by simp) hg hne; have hc2 := cell_of_one hb2; have hf2 := free_of_one hb2))
      all_goals
        have hstep := wr_push (UInt8.ofNat (n / 256 ^ j)) (u8_shift n j) HB.out HV.out hown h1 hg hat
        rw [show ys ++ [UInt8.ofNat (n / 256 ^ j)] = xs ++ (be size n).take (i + 1) from by rw [HY.out, List.append_assoc, be_take _ _ _ (by omega), show size - 1 - i = j from by omega]] at hstep
        have HST := Lib.hid (Wrote.trans hkeep hr' hstep)
        clear hstep hown h1 hat hb2 hkeep hr'
        go_wp2
        go_roundw
        case rel => exact ⟨i + 1, j, by omega, by go_num, HST.out⟩
        case measure => simp [intOf]; omega
    | 0 =>
      have e : (be size n).take i = be size n := List.take_of_length_le (by rw [be_length]; omega)
      rw [e] at hown
      clear e
      go_wp2
      go_end0
      exact ⟨rfl, Wrote.trans hkeep hr' (Wrote.refl ⟨v, HB.out, hown, HV.out⟩)⟩

theorem Pad_small (n : Int) (h : n < 1) (w : World) : Calls Try.prog 34 #[.int .i64 n] w fun e w' => e = .returned (.int .i64 0) ∧ w = w' := by
  go_enter Try.func34, Try.ntmps34
  go_wp2
  go_ret
  exact ⟨rfl, rfl⟩

theorem Pad_any (n : Int) (h : 1 ≤ n) (w : World) : Calls Try.prog 34 #[.int .i64 n] w fun e w' => e = .returned (.int .i64 ((4 - n % 4) % 4)) ∧ w = w' := by
  go_enter Try.func34, Try.ntmps34
  go_wp2
  go_ret
  exact ⟨rfl, rfl⟩

/-- How many zero bytes fill up n bytes. -/
def padN (n : Nat) : Nat := (4 - n % 4) % 4

theorem Pad_nat (n : Nat) (w : World) : Calls Try.prog 34 #[.int .i64 n] w fun e w' => e = .returned (.int .i64 (padN n)) ∧ w = w' := by
  by_cases h : (n : Int) < 1
  · obtain rfl : n = 0 := by omega
    exact (Pad_small 0 (by omega) w)
  · refine (Pad_any n (by omega) w).mono ?_
    rintro e w' ⟨rfl, rfl⟩
    refine ⟨?_, rfl⟩
    rw [show ((4 - (n : Int) % 4) % 4) = (padN n : Int) from by unfold padN; omega]

theorem padN_lt (n : Nat) : padN n < 4 := by unfold padN; omega

set_option maxRecDepth 100000 in
set_option maxHeartbeats 400000 in
theorem padded_any (k : Nat) (r : Option Nat) (xs : List UInt8) (s : ByteArray) (w : World) (hs : s.size ≤ 1073741824) (hl : xs.length ≤ 1073741824)
    (h : Wr 54 5 k r xs w) :
    Calls Try.prog 30 #[.pointer (some ⟨k, 0, none⟩), .string s] w fun e w' => e = .returned (.tuple #[]) ∧ Wrote 54 5 k r (xs ++ s.data.toList ++ List.replicate (padN s.size) 0) w w' := by
  obtain ⟨i0, hi, hz0, hz1, hz2⟩ := info_parts Try.infoU8
  obtain ⟨v, hb, hown, hv⟩ := h
  have hlt := lt_of_block hb
  have hc := cell_of_one hb
  have hf := free_of_one hb
  have HB := Lib.hid hb
  have HV := Lib.hid hv
  have hne := own_ne hown
  clear hb hv
  go_enter Try.func30, Try.ntmps30
  go_wp2_with (first | (at_builtin; go_must (refine wpList_append_string_lies _ rfl (.tmp 8) (.tmp 9) 52 9 rfl (k + 1) 5 i0 Try.underlying52 Try.underlying9 hi hz0 hz1 hz2 v _ _ (by simp [Act.eval]) hown s (by simp [Act.eval]) (by unfold maxLen; omega) (by omega) (by omega) ?_); intro v' w2 h1 hg hat; have hb2 := block_grown HB.out (w1 := w) (fun j hj => rfl) (Nat.le_refl _) hg hne; have hc2 := cell_of_one hb2; have hf2 := free_of_one hb2; have HST := Lib.hid (wr_store HB.out HV.out hown (zs := xs ++ s.data.toList) (own_string h1) hg hat); obtain ⟨ao, cap, rfl⟩ := own_slice h1; clear hb2) | (go_at_call 34; refine (Pad_nat _ _).mono ?_; rintro e w3 ⟨rfl, rfl⟩))
  clear hown h1 hat hc hc2 hf hf2 hg hlt hne HB HV
  go_loopw [16] (fun c wr => ∃ i : Nat, i ≤ padN s.size ∧ c = .int .i64 i ∧ Wrote 54 5 k r (xs ++ s.data.toList ++ List.replicate i 0) w wr) (fun c _ => padN s.size - (intOf c).toNat)
  case atStart => exact ⟨0, Nat.zero_le _, rfl, by simpa using HST.out⟩
  case round =>
    obtain ⟨i, hi', rfl, hwr⟩ := hrel
    have hp := padN_lt s.size
    by_cases hlt : i < padN s.size
    · obtain ⟨r', ⟨v, hb, hown, hv⟩, hkeep, hr'⟩ := hwr
      have hc := cell_of_one hb
      have hf := free_of_one hb
      have hltk := lt_of_block hb
      have HB := Lib.hid hb
      have HV := Lib.hid hv
      clear hb hv HST
      have hne := own_ne hown
      have hll : (xs ++ s.data.toList ++ List.replicate i 0).length ≤ 2147483700 := by simp; omega
      obtain ⟨ys, hys⟩ : ∃ ys, ys = xs ++ s.data.toList ++ List.replicate i 0 := ⟨_, rfl⟩
      rw [← hys] at hown hll
      have HY := Lib.hid hys
      clear hys
      go_wp2_with (at_builtin; go_must (refine wpList_append_lies _ rfl (.tmp 22) (.tmp 23) 52 rfl (k + 1) 5 i0 (.int .u8 0) 1 1 Try.underlying52 hi hz0 hz1 hz2 rfl (by decide) v _ _ (by simp [Act.eval]) (hown.alloc _) ⟨wr.heap.size, 0, none⟩ 1 1 [.int .u8 0] (by simp [Act.eval]) rfl (cell_one_new _ _ _) (by intro u hu; simp at hu; subst hu; rfl) (by decide) (by unfold maxLen; omega) (by omega) (by simp; omega) _ (by simp; rfl) ?_); intro g cap w2 h1 hg hat hl2; have hb2 := block_grown HB.out (w1 := wr.alloc _) (fun j hj => Below.heap_alloc wr _ j hj) (by simp) hg hne; have hc2 := cell_of_one hb2; have hf2 := free_of_one hb2; have HST := Lib.hid (wr_push0 HB.out HV.out hown h1 hg hat); clear hb2)
      rw [show ys ++ [0] = xs ++ s.data.toList ++ List.replicate (i + 1) 0 from by rw [HY.out, List.append_assoc, ← List.replicate_succ']] at HST
      go_roundw
      case rel => exact ⟨i + 1, by omega, by go_num, Wrote.trans hkeep hr' HST.out⟩
      case measure => simp [intOf]; omega
    · obtain rfl : i = padN s.size := by omega
      go_wp2
      go_end0
      exact ⟨rfl, hwr⟩
end Go.Proofs.Ytfobknppdjiniaa
