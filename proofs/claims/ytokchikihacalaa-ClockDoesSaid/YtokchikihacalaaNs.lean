/- Lists of texts; whether two are the same (the reference's Same). -/
import Derived.Test.YtokchikihacalaaFr
import Derived.Test.YtokchikihacalaaRows
import Derived.Deep.QuietTactic
import Derived.BigQuiet
import Derived.IntWalk
import Derived.Lib.Strings
namespace Go.Proofs.Ytokchikihacalaa
open Go.RowKit

/-- A slice of texts. -/
def Strs (v : Value) (xs : List ByteArray) (w : World) : Prop :=
  ∃ (ao : Option Addr) (cap b off : Nat), v = .slice ao xs.length cap ∧ xs.length ≤ 9223372036854775807 ∧ (0 < xs.length → ao = some ⟨b, off, none⟩ ∧ b < w.heap.size) ∧ ∀ (i : Nat) (x : ByteArray), xs[i]? = some x → w.cell? ⟨b, off + i, none⟩ = some (.string x)
theorem Strs.below {v : Value} {xs : List ByteArray} {w w' : World} (h : Strs v xs w) (hb : Below w.heap.size w w') : Strs v xs w' := by
  obtain ⟨ao, cap, b, off, hv, hl, hao, hc⟩ := h
  refine ⟨ao, cap, b, off, hv, hl, fun h => ⟨(hao h).1, Nat.lt_of_lt_of_le (hao h).2 hb.size⟩, fun i x hx => ?_⟩
  have h0 : 0 < xs.length := by have := (List.getElem?_eq_some_iff.1 hx).1; omega
  exact (hb.cell (p := ⟨b, off + i, none⟩) (hao h0).2).trans (hc i x hx)

theorem strs_row {B : Nat} {A : Nat} {xs : List ByteArray} {w : World} (h : w.ownsRow B 9 1 (.slice (some ⟨A, 0, none⟩) xs.length xs.length) xs.length (xs.map Value.string)) : Strs (.slice (some ⟨A, 0, none⟩) xs.length xs.length) xs w := by
  have hl : xs.length ≤ 9223372036854775807 := by
    rcases h.2 with ⟨_, h0⟩ | ⟨g, cap, cur, hv, _, _, h1, h2, _⟩
    · omega
    · unfold maxLen at h2; omega
  refine ⟨_, xs.length, A, 0, rfl, hl, fun _ => ⟨rfl, (h.lt A rfl).2⟩, fun i x hx => ?_⟩
  have := h.cells (g := A) rfl i (.string x) (by simp [hx])
  rw [Nat.zero_add]
  by_cases hi : i = 0
  · subst hi; simpa [Addr.add] using this
  · simpa [Addr.add, hi] using this

end Go.Proofs.Ytokchikihacalaa
