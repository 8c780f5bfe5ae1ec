/- What the laws ask of the program's disk. -/
import Derived.Test.YtfipojmgmmjnmaaPdn
import Derived.Test.YtfipojmgmmjnmaaDl
import Derived.Test.YtfipojmgmmjnmaaNs
namespace Go.Proofs.Ytfipojmgmmjnmaa
open Go.RowKit

/-- A slice of texts, in a block that is fine. -/
def StrsIn (ok : Nat → Prop) (v : Value) (xs : List ByteArray) (w : World) : Prop :=
  ∃ (ao : Option Addr) (cap b off : Nat), v = .slice ao xs.length cap ∧ xs.length ≤ 9223372036854775807 ∧ (0 < xs.length → ao = some ⟨b, off, none⟩ ∧ b < w.heap.size ∧ ok b) ∧ ∀ (i : Nat) (x : ByteArray), xs[i]? = some x → w.cell? ⟨b, off + i, none⟩ = some (.string x)
theorem StrsIn.strs {ok : Nat → Prop} {v : Value} {xs : List ByteArray} {w : World} (h : StrsIn ok v xs w) : Strs v xs w := by
  obtain ⟨ao, cap, b, off, e1, e2, e3, e4⟩ := h
  exact ⟨ao, cap, b, off, e1, e2, fun hl => ⟨(e3 hl).1, (e3 hl).2.1⟩, e4⟩
theorem StrsIn.frm {ok : Nat → Prop} {F : Nat → Prop} {v : Value} {xs : List ByteArray} {a b : World} (h : StrsIn ok v xs a) (f : Frm F a b) (hf : ∀ j, ok j → ¬ F j) : StrsIn ok v xs b := by
  obtain ⟨ao, cap, bb, off, e1, e2, e3, e4⟩ := h
  refine ⟨ao, cap, bb, off, e1, e2, fun hl => ⟨(e3 hl).1, Nat.lt_of_lt_of_le (e3 hl).2.1 f.size, (e3 hl).2.2⟩, fun i x hx => ?_⟩
  have hl : 0 < xs.length := by have := (List.getElem?_eq_some_iff.1 hx).1; omega
  exact (f.cell (q := ⟨bb, off + i, none⟩) (e3 hl).2.1 (hf bb (e3 hl).2.2)).trans (e4 i x hx)
theorem dImage_any (B p : Nat) (F : Nat → Prop) (D : DS) (w : World) (h : PD B p F D w) : Calls Try.prog 20 #[.pointer (some ⟨p, 0, none⟩)] w fun e w' => ∃ v, e = .returned v ∧ StrsIn (fun j => w.heap.size ≤ j) v D.kept w' ∧ Below w.heap.size w w' := by
  obtain ⟨kv, wv, lv, is, N, h0, _⟩ := h
  have hn := h0.pos
  refine (dImage_at (by omega) h0).mono fun e w' ⟨he, ho, hb⟩ => ⟨_, he, ⟨_, _, w.heap.size, 0, rfl, by omega, fun _ => ⟨rfl, (ho.lt _ rfl).2, Nat.le_refl _⟩, fun i x hx => ?_⟩, hb⟩
  have hi := (List.getElem?_eq_some_iff.1 hx).1
  rw [Nat.zero_add, ho.cellAt i (by omega)]
  simp [hx]
end Go.Proofs.Ytfipojmgmmjnmaa
