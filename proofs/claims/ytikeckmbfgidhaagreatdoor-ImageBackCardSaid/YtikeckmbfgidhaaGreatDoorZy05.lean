/- Several texts in one: Db Dc. -/
import Derived.Test.YtikeckmbfgidhaaGreatDoorRows
import Derived.Deep.QuietTactic
import Derived.BigQuiet
import Derived.IntWalk
import Derived.Test.YtikeckmbfgidhaaGreatDoorZy01
import Derived.Test.YtikeckmbfgidhaaGreatDoorZy02
/- The reference's disk as it lies in memory; its Blank. -/
namespace Go.Proofs.YtikeckmbfgidhaaGreatDoor
open Go.RowKit

/-- The bytes of a text in a slot: for a measure. -/
def szOf : Value → Nat | .string t => t.size | _ => 0

end Go.Proofs.YtikeckmbfgidhaaGreatDoor

/- The reference's disk as it lies in memory; its burn, Arm, Read. -/
namespace Go.Proofs.YtikeckmbfgidhaaGreatDoor
open Go.RowKit

/-- The cells of writes that wait. -/
def wcells (l : List (Nat × ByteArray)) : List Value := l.flatMap fun x => [Value.int .i64 (x.1 : Int), Value.string x.2]
theorem wcells_append (l m : List (Nat × ByteArray)) : wcells (l ++ m) = wcells l ++ wcells m := by simp [wcells]
theorem wcells_at : ∀ (l : List (Nat × ByteArray)) (k : Nat) (x : Nat × ByteArray), l[k]? = some x → (wcells l)[k * 2]? = some (.int .i64 (x.1 : Int)) ∧ (wcells l)[k * 2 + 1]? = some (.string x.2)
  | [], k, x, h => by simp at h
  | y :: l, 0, x, h => by
    simp at h
    subst h
    exact ⟨rfl, rfl⟩
  | y :: l, k + 1, x, h => by
    have h2 := wcells_at l k x (by simpa using h)
    have e : wcells (y :: l) = Value.int .i64 (y.1 : Int) :: Value.string y.2 :: wcells l := rfl
    rw [e]
    have e1 : (k + 1) * 2 = k * 2 + 1 + 1 := by omega
    rw [e1]
    exact h2
/-- The cells of the reference's disk. -/
def dcells (kv wv : Value) (D : DS) : Array Value := #[kv, wv, .int .i64 D.fuse, .bool D.dead, .int .i64 (D.wr : Int), .int .i64 (D.br : Int)]
end Go.Proofs.YtikeckmbfgidhaaGreatDoor
