/- The functions that a reader's take hands its bytes to; take with each of them; the numbers and the boolean that are read. -/
import Derived.Test.YtimbcombhdgjiaaRd
namespace Go.Proofs.Ytimbcombhdgjiaa
open Go.RowKit

theorem Keep.cell {b : Nat} {w : World} (v : Value) : Keep b none w (w.setCell ⟨b, 0, none⟩ v) := (Keep.refl b none w).put 0 v

theorem keep_two {w w2 : World} (k b : Nat) (v : Value) (h : Keep b none (w.setCell ⟨k, 0, none⟩ v) w2) : Keep k (some b) w w2 :=
  ⟨h.os, h.tape, h.output, by have := h.size; simpa [World.setCell] using this, fun j hj hk hr => (h.block j (by simpa [World.setCell] using hj) (fun e => hr (by rw [e])) (by simp)).trans (Below.heap_setCell w _ v j hk)⟩
theorem keep_three {w w2 w3 : World} (k b : Nat) (v : Value) (h : Keep b none (w.setCell ⟨k, 0, none⟩ v) w2) (g : Keep k none w2 w3) : Keep k (some b) w w3 := by
  have h2 := keep_two k b v h
  exact ⟨g.os.trans h2.os, g.tape.trans h2.tape, g.output.trans h2.output, Nat.le_trans h2.size g.size, fun j hj hk hr => (g.block j (Nat.lt_of_lt_of_le hj h2.size) hk (by simp)).trans (h2.block j hj hk hr)⟩

end Go.Proofs.Ytimbcombhdgjiaa
