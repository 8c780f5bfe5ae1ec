/- Names: the reference's checks. -/
import Derived.Test.YtfipojmgmmjnmaaFr
import Derived.Test.YtfipojmgmmjnmaaSt
import Derived.Test.YtfipojmgmmjnmaaRows
import Derived.Handy
import Derived.Deep.DeepMust
import Derived.WalkLawsBesides
import Derived.Deep.RegionHeld3
import Derived.Lib.Strings
namespace Go.Proofs.Ytfipojmgmmjnmaa
open Go.RowKit

/-- The number in a slot. -/
def intOf : Value → Int | .int _ k => k | _ => 0

theorem snoc_at (s : ByteArray) (k : Nat) (h : k < s.size) : s.data.toList.take (k + 1) = s.data.toList.take k ++ [s[k]] := by
  have hg : s.data.toList[k]? = some (s[k]) := by
    rw [Array.getElem?_toList]
    exact Array.getElem?_eq_getElem h
  rw [List.take_add_one, hg]
  rfl

/-- Has a text a byte? -/
def hasB (xs : List UInt8) (c : UInt8) : Bool := xs.contains c

/-- Why a text is no name. -/
def checkL (xs : List UInt8) : Int :=
  if xs = [] ∨ hasB xs 0 = true ∨ hasB xs 47 = true ∨ xs = [46] ∨ xs = [46, 46] then 22 else if 24 < xs.length then 63 else 0
/-- Why a text is no link's. -/
def targetL (xs : List UInt8) : Int :=
  if xs = [] ∨ hasB xs 0 = true then 22 else if 48 < xs.length then 63 else 0

theorem checkL_bad {xs : List UInt8} (h : xs = [] ∨ hasB xs 0 = true ∨ hasB xs 47 = true ∨ xs = [46] ∨ xs = [46, 46]) : checkL xs = 22 := if_pos h
theorem checkL_long {xs : List UInt8} (h : ¬ (xs = [] ∨ hasB xs 0 = true ∨ hasB xs 47 = true ∨ xs = [46] ∨ xs = [46, 46])) (hl : 24 < xs.length) : checkL xs = 63 := by unfold checkL; rw [if_neg h, if_pos hl]
theorem checkL_ok {xs : List UInt8} (h : ¬ (xs = [] ∨ hasB xs 0 = true ∨ hasB xs 47 = true ∨ xs = [46] ∨ xs = [46, 46])) (hl : xs.length ≤ 24) : checkL xs = 0 := by unfold checkL; rw [if_neg h, if_neg (by omega)]

end Go.Proofs.Ytfipojmgmmjnmaa
