/- The contracts of a writer's methods. -/
import Derived.Test.YtinhdabfiahjpaaFr
import Derived.Test.YtinhdabfiahjpaaBe
import Derived.Test.YtinhdabfiahjpaaRows
import Derived.Handy
import Derived.Deep.DeepMust
import Derived.WalkLawsBesides
namespace Go.Proofs.Ytinhdabfiahjpaa
open Go.RowKit

theorem Try.infoU8 : (Try.prog.info? 5).map (fun i => (i.zero, i.size, i.bytes)) = some (some (.int .u8 0), 1, 1) := by kernel_rfl

set_option maxRecDepth 100000 in
set_option maxHeartbeats 400000 in
theorem number_any (k : Nat) (r : Option Nat) (xs : List UInt8) (n : Nat) (size : Nat) (w : World) (hs : size ≤ 8) (hl : xs.length ≤ 1073741824)
    (h : Wr 29 5 k r xs w) :
    Calls Try.prog 50 #[.pointer (some ⟨k, 0, none⟩), .int .i64 n, .int .i64 size] w fun e w' => e = .returned (.tuple #[]) ∧ Wrote 29 5 k r (xs ++ be size n) w w' := by
  obtain ⟨i0, hi, hz0, hz1, hz2⟩ := info_parts Try.infoU8
  go_enter Try.func50, Try.ntmps50
  go_wp2
  go_loopw [6] (fun s wr => ∃ i j : Nat, i + j = size ∧ s = .int .i64 (8 * ((j : Int) - 1)) ∧ Wrote 29 5 k r (xs ++ (be size n).take i) w wr) (fun s _ => (intOf s + 8).toNat)
  case atStart => exact ⟨0, size, by omega, by go_num, by simpa using Wrote.refl h⟩
  case round =>
    obtain ⟨i, j, hi', rfl, hwr⟩ := hrel
    obtain ⟨r', ⟨v, hb, hown, hv⟩, hkeep, hr'⟩ := hwr
    have hc := cell_of_one hb
    have hf := free_of_one hb
    have HB := Lib.hid hb
    have HV := Lib.hid hv
    clear hb hv
    match j with
    | j + 1 =>
      rw [show ((8 : Int) * (((j + 1 : Nat) : Int) - 1)) = 8 * (j : Int) from by omega]
      go_wp2
      have hlt := lt_of_block HB.out
      have hll : (xs ++ (be size n).take i).length ≤ 1073741832 := by simp [be_length]; omega
      obtain ⟨ys, hys⟩ : ∃ ys, ys = xs ++ (be size n).take i := ⟨_, rfl⟩
      rw [← hys] at hown hll
      have HY := Lib.hid hys
      clear hys
      have hne := own_ne hown
      go_region_law ((refine step_append_lies _ rfl (.tmp 18) (.tmp 23) 27 rfl (k + 1) 5 i0 (.int .u8 0) 1 1 Try.underlying27 hi hz0 hz1 hz2 rfl (by decide) v _ _ (by simp [Act.eval]) ((hown.alloc _).drew) ⟨wr.heap.size, 0, none⟩ 1 1 [.int .u8 (IntKind.u8.wrap ((n : Int) / 2 ^ (8 * (j : Int)).toNat))] (by simp [Act.eval]) rfl (cell_one_new _ _ _) (by intro u hu; simp at hu; subst hu; rfl) (by decide) (by unfold maxLen; omega) (by omega) (by simp; omega) _ (by simp; rfl) ?_; intro g cap w2 h1 hg hat hl2; have hb2 := block_grown HB.out (w1 := (wr.alloc _).drew) (fun j hj => Below.heap_alloc wr _ j hj) (by simp) hg hne; have hc2 := cell_of_one hb2; have hf2 := free_of_one hb2))
      all_goals
        have hstep := wr_push (UInt8.ofNat (n / 256 ^ j)) (u8_shift n j) HB.out HV.out hown h1 hg hat
        rw [show ys ++ [UInt8.ofNat (n / 256 ^ j)] = xs ++ (be size n).take (i + 1) from by rw [HY.out, List.append_assoc, be_take _ _ _ (by omega), show size - 1 - i = j from by omega]] at hstep
        have HST := Lib.hid (Wrote.trans hkeep hr' hstep)
        clear hstep hown h1 hat hb2 hkeep hr'
        go_wp2
        go_roundw
        case rel => exact ⟨i + 1, j, by omega, by go_num, HST.out⟩
        case measure => simp [intOf]; omega
    | 0 =>
      have e : (be size n).take i = be size n := List.take_of_length_le (by rw [be_length]; omega)
      rw [e] at hown
      clear e
      go_wp2
      go_end0
      exact ⟨rfl, Wrote.trans hkeep hr' (Wrote.refl ⟨v, HB.out, hown, HV.out⟩)⟩

/-- How many zero bytes fill up n bytes. -/
def padN (n : Nat) : Nat := (4 - n % 4) % 4

theorem padN_lt (n : Nat) : padN n < 4 := by unfold padN; omega

end Go.Proofs.Ytinhdabfiahjpaa
