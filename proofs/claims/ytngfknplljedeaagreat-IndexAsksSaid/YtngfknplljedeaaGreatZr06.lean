/- Lemmas for the laws of index. -/
import Derived.BigQuiet
import Derived.Test.YtngfknplljedeaaGreatRows
import Derived.Test.YtngfknplljedeaaGreatZr01
namespace Go.Proofs.YtngfknplljedeaaGreat
open Go.RowKit
theorem own_some {w : World} {base : Nat} {e : TypeId} {size : Nat} {v : Value} {n : Nat} {xs : List Value} (h : w.ownsRow base e size v n xs) (hn : 0 < n) :
 ∃ g cap, v = .slice (some ⟨g, 0, none⟩) n cap ∧ w.heap[g]? ≠ none ∧ n ≤ 9223372036854775807 ∧ ∀ (j : Nat) (u : Value), xs[j]? = some u → w.cell? ⟨g, j, none⟩ = some u := by
 rcases h.2 with ⟨_, h0⟩ | ⟨g, cap, cur, rfl, _, hg, hnc, hcm, _, _⟩
 · omega
 · refine ⟨g, cap, rfl, by rw [hg]; simp, by unfold maxLen at hcm; omega, fun j u hu => ?_⟩
   have hj := (List.getElem?_eq_some_iff.1 hu).1
   rw [h.1] at hj
   rw [h.cellAt j hj]
   exact hu
theorem own_len {w : World} {base : Nat} {e : TypeId} {size : Nat} {v : Value} {n : Nat} {xs : List Value} (h : w.ownsRow base e size v n xs) : n ≤ 9223372036854775807 := by
 rcases h.2 with ⟨_, h0⟩ | ⟨g, cap, cur, rfl, _, hg, hnc, hcm, _, _⟩
 · omega
 · unfold maxLen at hcm; omega
def Ints (ok : Nat → Prop) (v : Value) (xs : List Int) (w : World) : Prop :=
 ∃ (ao : Option Addr) (cap b off : Nat), v = .slice ao xs.length cap ∧ (xs.length ≤ 9223372036854775807 ∧ (ao = none → cap = 0)) ∧ (0 < xs.length → ao = some ⟨b, off, none⟩ ∧ b < w.heap.size ∧ ok b) ∧ ∀ (i : Nat) (x : Int), xs[i]? = some x → w.cell? ⟨b, off + i, none⟩ = some (.int .i64 x)
theorem Ints.frm {ok : Nat → Prop} {F : Nat → Prop} {v : Value} {xs : List Int} {a b : World} (h : Ints ok v xs a) (f : Frm F a b) (hf : ∀ j, ok j → ¬ F j) : Ints ok v xs b := by
 obtain ⟨ao, cap, bb, off, e1, e2, e3, e4⟩ := h
 refine ⟨ao, cap, bb, off, e1, e2, fun hl => ⟨(e3 hl).1, Nat.lt_of_lt_of_le (e3 hl).2.1 f.size, (e3 hl).2.2⟩, fun i x hx => ?_⟩
 have hl : 0 < xs.length := by have := (List.getElem?_eq_some_iff.1 hx).1; omega
 exact (f.cell (q := ⟨bb, off + i, none⟩) (e3 hl).2.1 (hf bb (e3 hl).2.2)).trans (e4 i x hx)
theorem Ints.imp {ok ok' : Nat → Prop} {v : Value} {xs : List Int} {a : World} (h : Ints ok v xs a) (hf : ∀ j, ok j → ok' j) : Ints ok' v xs a := by
 obtain ⟨ao, cap, bb, off, e1, e2, e3, e4⟩ := h
 exact ⟨ao, cap, bb, off, e1, e2, fun hl => ⟨(e3 hl).1, (e3 hl).2.1, hf _ (e3 hl).2.2⟩, e4⟩
theorem Tryz.infoInt : (Tryz.prog.info? 3).map (fun i => (i.zero, i.size, i.bytes)) = some (some (.int .i64 0), 1, 8) := by kernel_rfl
theorem ints_row {B n : Nat} {v : Value} {xs : List Int} {w : World} (h : w.ownsRow B 3 1 v n (xs.map (Value.int .i64))) (hn : n = xs.length) : Ints (fun j => B ≤ j) v xs w := by
 subst hn
 have hl := own_len h
 rcases h.2 with ⟨rfl, h0⟩ | ⟨g, cap, cur, rfl, hg, _⟩
 · have e := List.length_eq_zero_iff.1 h0
   subst e
   exact ⟨none, 0, 0, 0, rfl, ⟨by simp, fun _ => rfl⟩, fun h => by simp at h, fun i x hx => by simp at hx⟩
 · refine ⟨some ⟨g, 0, none⟩, cap, g, 0, rfl, ⟨hl, fun h => by cases h⟩, fun _ => ⟨rfl, (h.lt g rfl).2, hg⟩, fun i x hx => ?_⟩
   have hi := (List.getElem?_eq_some_iff.1 hx).1
   have e := h.cellAt i (by omega)
   rw [Nat.zero_add, e]
   simp [hx]
theorem Ints.below {B : Nat} {v : Value} {xs : List Int} {w w' : World} (h : Ints (fun j => j < B) v xs w) (hb : Below B w w') : Ints (fun j => j < B) v xs w' := by
 obtain ⟨ao, cap, b, off, e1, e2, e3, e4⟩ := h
 refine ⟨ao, cap, b, off, e1, e2, fun hl => ⟨(e3 hl).1, Nat.lt_of_lt_of_le (e3 hl).2.1 hb.size, (e3 hl).2.2⟩, fun i x hx => ?_⟩
 have hl : 0 < xs.length := by have := (List.getElem?_eq_some_iff.1 hx).1; omega
 exact (hb.cell (p := ⟨b, off + i, none⟩) (e3 hl).2.2).trans (e4 i x hx)
end Go.Proofs.YtngfknplljedeaaGreat
