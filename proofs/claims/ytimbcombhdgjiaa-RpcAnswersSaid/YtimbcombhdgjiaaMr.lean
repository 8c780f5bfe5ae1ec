/- Messages: the reference's small functions. -/
import Derived.Test.YtimbcombhdgjiaaMo
import Derived.Test.YtimbcombhdgjiaaRf
import Derived.Test.YtimbcombhdgjiaaRr
import Derived.BigGuardPart
namespace Go.Proofs.Ytimbcombhdgjiaa
open Go.RowKit
set_option linter.unusedSimpArgs false
set_option linter.unusedVariables false

theorem below_one (w : World) (o : Obj) : Below w.heap.size w (w.alloc o) := (Below.refl _ _).alloc (Nat.le_refl _) o
theorem extract_first (s : ByteArray) (a n : Nat) (h : a + n ≤ s.size) : (s.extract a s.size).extract 0 n = s.extract a (a + n) := by
  apply ByteArray.ext
  apply Array.toList_inj.1
  simp only [ByteArray.data_extract, Array.toList_extract, List.extract_eq_take_drop, ByteArray.size_extract, List.drop_zero, List.take_take, Nat.sub_zero]
  congr 1
  omega
end Go.Proofs.Ytimbcombhdgjiaa
