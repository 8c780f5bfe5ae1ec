/- The contract of the reference's sum. -/
import Derived.Test.YtbdjhkcpnkdbkaaSk
namespace Go.Proofs.Ytbdjhkcpnkdbkaa
open Go.RowKit

set_option maxRecDepth 100000 in
set_option maxHeartbeats 800000 in
theorem refOf_any (s : ByteArray) (w : World) (hs : s.size ≤ 9223372036854775807) :
    Calls Try.prog 20 #[.string s] w fun e w' => e = .returned (uv (sumOf s)) ∧ w = w' := by
  unfold uv
  go_enter Try.func20, Try.ntmps20
  go_wp2
  go_loop [3, 4, 5, 6] (fun reg c _ _ => ∃ i : Nat, i ≤ s.size ∧ c = .int .i64 i ∧ reg = .int .u32 (crc (~~~ 0#32) (s.data.toList.take i)).toNat) (fun _ c _ _ => s.size - (intOf c).toNat)
  case atStart => exact ⟨0, Nat.zero_le _, rfl, rfl⟩
  case round =>
    obtain ⟨i, hi, rfl, rfl⟩ := hrel
    have hfin : sumOf s = ~~~ (crc (~~~ 0#32) (s.data.toList.take s.size)) := by unfold sumOf more; rw [List.take_of_length_le (by simp)]
    by_cases hlt : i < s.size
    · obtain ⟨q, hq⟩ : ∃ q, q = crc (~~~ 0#32) (s.data.toList.take i) := ⟨_, rfl⟩
      rw [← hq]
      have hnext : ∀ b, b = s[i] → crc (~~~ 0#32) (s.data.toList.take (i + 1)) = upd q b := fun b hb => by
        have hg : s.data.toList[i]? = some s[i] := by rw [Array.getElem?_toList]; exact Array.getElem?_eq_getElem hlt
        rw [List.take_add_one, hg, hq, hb]
        exact crc_snoc _ _ _
      have HN := Lib.hid hnext
      clear hq hnext hfin
      obtain ⟨q1, e1, e2⟩ := byte_xor q s[i]
      have H2 := Lib.hid e2
      clear e2
      go_wp2
      go_loop [3, 5, 6] (fun reg c _ => ∃ j : Nat, j ≤ 8 ∧ c = .int .i64 j ∧ reg = .int .u32 (stN j q1).toNat) (fun _ c _ => 8 - (intOf c).toNat)
      case atStart => exact ⟨0, by omega, rfl, rfl⟩
      case round =>
        obtain ⟨j, hj, rfl, rfl⟩ := hrel
        by_cases hlj : j < 8
        · obtain ⟨r, hr⟩ : ∃ r, r = stN j q1 := ⟨_, rfl⟩
          rw [← hr]
          have HR := Lib.hid hr
          clear hr
          go_wp2
          all_goals go_round
          case rel => exact ⟨j + 1, by omega, by go_num, by first | exact (st_odd_ref r (by assumption)).trans (by rw [HR.out]; rfl) | exact (st_even_ref r (by assumption)).trans (by rw [HR.out]; rfl)⟩
          case measure => simp [intOf]; omega
          case rel => exact ⟨j + 1, by omega, by go_num, by first | exact (st_odd_ref r (by assumption)).trans (by rw [HR.out]; rfl) | exact (st_even_ref r (by assumption)).trans (by rw [HR.out]; rfl)⟩
          case measure => simp [intOf]; omega
        · obtain rfl : j = 8 := by omega
          go_wp2
          go_round
          case rel => exact ⟨i + 1, by omega, by go_num, by rw [HN.out _ rfl, ← H2.out]⟩
          case measure => simp [intOf]; omega
    · obtain rfl : i = s.size := by omega
      obtain ⟨q, hq⟩ : ∃ q, q = crc (~~~ 0#32) (s.data.toList.take s.size) := ⟨_, rfl⟩
      rw [← hq] at hfin ⊢
      have HF := Lib.hid hfin
      have hqb : (q.toNat : Int) ≤ 4294967295 := by have := q.isLt; omega
      clear hfin hq
      go_wp2
      go_ret
      refine ⟨?_, rfl⟩
      rw [HF.out, ← not_sub]
      rfl

end Go.Proofs.Ytbdjhkcpnkdbkaa
