/- Messages: the reference's numbers one behind the other. -/
import Derived.Test.YtimbcombhdgjiaaMk
namespace Go.Proofs.Ytimbcombhdgjiaa
open Go.RowKit

def vals (l : List Int) : Array Value := (l.map fun n => Value.int .i64 n).toArray
theorem vals_at {l : List Int} {i : Nat} {v : Int} (h : l[i]? = some v) : (vals l)[i]? = some (.int .i64 v) := by
  unfold vals
  simp [h]
theorem words_next (l : List Int) (j : Nat) (v : Int) (h : l[j]? = some v) : words (l.take (j + 1)) = words (l.take j) ++ be 4 v.toNat := by
  rw [List.take_add_one, h]
  simp [words]
end Go.Proofs.Ytimbcombhdgjiaa
