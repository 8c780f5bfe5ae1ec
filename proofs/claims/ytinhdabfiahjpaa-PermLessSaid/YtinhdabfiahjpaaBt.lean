/- Bits of 64-bit numbers: plain lemmas; no function of the program is named here. -/
import Derived.Laws.BitsLemmas
import Derived.Laws.Bits128
import Derived.Laws.BitsAllLaws
namespace Go.Proofs.Ytinhdabfiahjpaa
open Go

theorem bv_i64 (x : BitVec 64) : BitVec.ofInt 64 (IntKind.i64.wrap (x.toNat : Int)) = x := by
  apply BitVec.eq_of_toNat_eq
  rw [BitVec.toNat_ofInt, IntKind.wrap_i64]
  have := x.isLt
  omega
theorem bits_and_bv (a b : Int) : BitVec.ofInt 64 (bits .and .i64 a b) = BitVec.ofInt 64 a &&& BitVec.ofInt 64 b := bv_i64 _
theorem bits_or_bv (a b : Int) : BitVec.ofInt 64 (bits .or .i64 a b) = BitVec.ofInt 64 a ||| BitVec.ofInt 64 b := bv_i64 _
theorem bits_and_of (a b : Int) : bits .and .i64 a b = IntKind.i64.wrap ((BitVec.ofInt 64 a &&& BitVec.ofInt 64 b).toNat : Int) := rfl
theorem bits_or_of (a b : Int) : bits .or .i64 a b = IntKind.i64.wrap ((BitVec.ofInt 64 a ||| BitVec.ofInt 64 b).toNat : Int) := rfl
/-- What is asked together is what is asked one by one. -/
theorem bits_and_or (h x y : Int) : bits .and .i64 h (bits .or .i64 x y) = bits .or .i64 (bits .and .i64 h x) (bits .and .i64 h y) := by
  rw [bits_and_of, bits_or_of (bits .and .i64 h x), bits_or_bv, bits_and_bv, bits_and_bv, BitVec.and_or_distrib_left]
theorem bits_and_comm (a b : Int) : bits .and .i64 a b = bits .and .i64 b a := by
  rw [bits_and_of, bits_and_of b, BitVec.and_comm]
theorem bits_and_assoc (a b c : Int) : bits .and .i64 (bits .and .i64 a b) c = bits .and .i64 a (bits .and .i64 b c) := by
  rw [bits_and_of, bits_and_bv, bits_and_of a, bits_and_bv, BitVec.and_assoc]
/-- The lowest bits. -/
theorem and_mask (n : Int) (k : Nat) (hk : k ≤ 62) (m : Int) (hm : m = 2 ^ k - 1) : bits .and .i64 n m = n % 2 ^ k := by
  have hp : (2 ^ k : Nat) ≤ 2 ^ 62 := Nat.pow_le_pow_right (by omega) hk
  have hpos : 0 < (2 ^ k : Nat) := Nat.pow_pos (by omega)
  have hmz : (BitVec.ofInt 64 m).toNat = 2 ^ k - 1 := by
    rw [BitVec.toNat_ofInt, hm]
    have e : ((2 : Int) ^ k - 1) = ((2 ^ k - 1 : Nat) : Int) := by
      rw [Int.natCast_sub hpos]; simp
    rw [e]
    omega
  have key : (BitVec.ofInt 64 n &&& BitVec.ofInt 64 m).toNat = (n % ((2 ^ 64 : Nat) : Int)).toNat % 2 ^ k := by
    rw [BitVec.toNat_and, BitVec.toNat_ofInt, hmz, Nat.and_two_pow_sub_one_eq_mod]
  rw [bits_and_of, key, IntKind.wrap_i64]
  have hd : ((2 ^ k : Nat) : Int) ∣ ((2 ^ 64 : Nat) : Int) := by
    refine ⟨((2 ^ (64 - k) : Nat) : Int), ?_⟩
    rw [← Int.natCast_mul, ← Nat.pow_add]
    congr 2
    omega
  have e1 : (((n % ((2 ^ 64 : Nat) : Int)).toNat % 2 ^ k : Nat) : Int) = n % ((2 ^ k : Nat) : Int) := by
    rw [Int.natCast_emod, Int.toNat_of_nonneg (by omega)]
    exact Int.emod_emod_of_dvd n hd
  have e2 : ((2 ^ k : Nat) : Int) = 2 ^ k := by simp
  rw [e1, ← e2]
  have h0 := Int.emod_nonneg n (show ((2 ^ k : Nat) : Int) ≠ 0 by omega)
  have h1 := Int.emod_lt_of_pos n (show (0 : Int) < ((2 ^ k : Nat) : Int) by omega)
  omega
theorem and_7 (n : Int) : bits .and .i64 n 7 = n % 8 := and_mask n 3 (by omega) 7 rfl
theorem and_511 (n : Int) : bits .and .i64 n 511 = n % 512 := and_mask n 9 (by omega) 511 rfl
theorem and_1 (n : Int) : bits .and .i64 n 1 = n % 2 := and_mask n 1 (by omega) 1 rfl
/-- One bit. -/
theorem and_bit (n : Int) (k : Nat) (hk : k ≤ 62) (m : Int) (hm : m = 2 ^ k) : bits .and .i64 n m = 2 ^ k * (n / 2 ^ k % 2) := by
  have hp : (2 ^ k : Nat) ≤ 2 ^ 62 := Nat.pow_le_pow_right (by omega) hk
  have hpos : 0 < (2 ^ k : Nat) := Nat.pow_pos (by omega)
  have e2 : ((2 ^ k : Nat) : Int) = 2 ^ k := by simp
  have hmz : (BitVec.ofInt 64 m).toNat = 2 ^ k := by
    rw [BitVec.toNat_ofInt, hm, ← e2]
    omega
  have ht : (((n % ((2 ^ 64 : Nat) : Int)).toNat / 2 ^ k % 2 : Nat) : Int) = n / 2 ^ k % 2 := by
    rw [Int.natCast_emod, Int.natCast_ediv, Int.toNat_of_nonneg (by omega), e2]
    have hs : ((2 ^ 64 : Nat) : Int) = 2 ^ k * (2 * ((2 ^ (63 - k) : Nat) : Int)) := by
      have : (2 ^ 64 : Nat) = 2 ^ k * (2 * 2 ^ (63 - k)) := by
        rw [← Nat.mul_assoc, ← Nat.pow_succ, ← Nat.pow_add]
        congr 1
        omega
      rw [this]
      push_cast
      rfl
    have hdm := Int.emod_add_mul_ediv n ((2 ^ 64 : Nat) : Int)
    generalize hq : n / ((2 ^ 64 : Nat) : Int) = q at hdm
    generalize hr : n % ((2 ^ 64 : Nat) : Int) = r at hdm ⊢
    rw [hs] at hdm
    have : n = r + (2 * ((2 ^ (63 - k) : Nat) : Int) * q) * 2 ^ k := by
      rw [← hdm]
      congr 1
      rw [Int.mul_assoc, Int.mul_comm]
    rw [this, Int.add_mul_ediv_right _ _ (by rw [← e2]; omega), Int.mul_assoc, Int.add_mul_emod_self_left]
    rfl
  have key : ((BitVec.ofInt 64 n &&& BitVec.ofInt 64 m).toNat : Int) = 2 ^ k * (n / 2 ^ k % 2) := by
    rw [BitVec.toNat_and, BitVec.toNat_ofInt, hmz, nat_bit, Int.natCast_mul, ht, Int.mul_comm, e2]
  rw [bits_and_of, key, IntKind.wrap_i64, ← e2]
  rcases (show n / ((2 ^ k : Nat) : Int) % 2 = 0 ∨ n / ((2 ^ k : Nat) : Int) % 2 = 1 by omega) with h | h <;> rw [h] <;> omega
theorem and_2 (n : Int) : bits .and .i64 n 2 = 2 * (n / 2 % 2) := and_bit n 1 (by omega) 2 rfl
theorem and_4 (n : Int) : bits .and .i64 n 4 = 4 * (n / 4 % 2) := and_bit n 2 (by omega) 4 rfl
end Go.Proofs.Ytinhdabfiahjpaa
