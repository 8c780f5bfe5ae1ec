/- Several texts in one: Dd. -/
import Derived.Test.YtikeckmbfgidhaaGreatDoorZy05
import Derived.Test.YtikeckmbfgidhaaGreatDoorZy06
/- The reference's disk: Read. -/
namespace Go.Proofs.YtikeckmbfgidhaaGreatDoor
open Go.RowKit

theorem last_at (i : Nat) (s : ByteArray) (l : List (Nat × ByteArray)) (k : Nat) (x : Nat × ByteArray) (h : l[k]? = some x) : lastOf i s (l.take (k + 1)) = if x.1 = i then x.2 else lastOf i s (l.take k) := by
  obtain ⟨hk, rfl⟩ := List.getElem?_eq_some_iff.1 h
  rw [List.take_succ_eq_append_getElem hk]
  exact lastOf_snoc i _ _ s

end Go.Proofs.YtikeckmbfgidhaaGreatDoor
