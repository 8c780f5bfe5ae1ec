/- Plain lemmas: a number's bytes, the highest first. Nothing of the program is named here. -/
import Derived.WalkKit
namespace Go.Proofs.Ytfobknppdjiniaa
open Go.RowKit

/-- The last k bytes of v, the highest first. -/
def be : Nat → Nat → List UInt8
  | 0, _ => []
  | k + 1, v => UInt8.ofNat (v / 256 ^ k) :: be k v

theorem be_length : ∀ k v, (be k v).length = k
  | 0, _ => rfl
  | k + 1, v => by simp [be, be_length k]

theorem be_get : ∀ (k v i : Nat), i < k → (be k v)[i]? = some (UInt8.ofNat (v / 256 ^ (k - 1 - i)))
  | 0, _, _, h => by omega
  | k + 1, v, 0, _ => by simp [be]
  | k + 1, v, i + 1, h => by
    simp only [be, List.getElem?_cons_succ]
    rw [be_get k v i (by omega), show k + 1 - 1 - (i + 1) = k - 1 - i from by omega]

theorem be_take (k v i : Nat) (h : i < k) : (be k v).take (i + 1) = (be k v).take i ++ [UInt8.ofNat (v / 256 ^ (k - 1 - i))] := by
  rw [List.take_add_one, be_get k v i h]; rfl

theorem u8_wrap (m : Nat) : Value.int .u8 (IntKind.u8.wrap (m : Int)) = Value.int .u8 (UInt8.ofNat m).toNat := by
  exact congrArg _ (by simp [IntKind.wrap_u8, UInt8.toNat_ofNat'])

theorem u8_shift (n j : Nat) : Value.int .u8 (IntKind.u8.wrap ((n : Int) / 2 ^ (8 * (j : Int)).toNat)) = Value.int .u8 (UInt8.ofNat (n / 256 ^ j)).toNat := by
  rw [← u8_wrap, show (8 * (j : Int)).toNat = 8 * j from by omega, show (256 : Nat) = 2 ^ 8 from rfl, ← Nat.pow_mul, Int.natCast_ediv, Int.natCast_pow]
  rfl

end Go.Proofs.Ytfobknppdjiniaa
