/- Lemmas for the laws of index. -/
import Derived.Test.YtngfknplljedeaaGreatZr01
namespace Go.Proofs.YtngfknplljedeaaGreat
open Go.RowKit
structure Keep (k : Nat) (r : Option Nat) (w w' : World) : Prop where
 os : w'.os = w.os
 tape : w'.tape = w.tape
 output : w'.output = w.output
 size : w.heap.size ≤ w'.heap.size
 block : ∀ j, j < w.heap.size → j ≠ k → some j ≠ r → w'.heap[j]? = w.heap[j]?
def Wr (T E : TypeId) (k : Nat) (r : Option Nat) (xs : List UInt8) (w : World) : Prop :=
 ∃ v, w.heap[k]? = some (.cells #[v] T (0, 0)) ∧ w.ownsRow (k + 1) E 1 v xs.length (bc xs) ∧ v.ownBlock = r
def Wrote (T E : TypeId) (k : Nat) (r : Option Nat) (ys : List UInt8) (w w' : World) : Prop :=
 ∃ r', Wr T E k r' ys w' ∧ Keep k r w w' ∧ (r' = r ∨ ∃ j, r' = some j ∧ w.heap.size ≤ j)
theorem Keep.refl (k : Nat) (r : Option Nat) (w : World) : Keep k r w w := ⟨rfl, rfl, rfl, Nat.le_refl _, fun _ _ _ _ => rfl⟩
theorem Keep.trans {k : Nat} {r r' : Option Nat} {a b c : World} (h : Keep k r a b) (g : Keep k r' b c) (hr : r' = r ∨ ∃ j, r' = some j ∧ a.heap.size ≤ j) : Keep k r a c := by
 refine ⟨g.os.trans h.os, g.tape.trans h.tape, g.output.trans h.output, Nat.le_trans h.size g.size, fun j hj hk hr' => ?_⟩
 rw [g.block j (Nat.lt_of_lt_of_le hj h.size) hk ?_, h.block j hj hk hr']
 rcases hr with rfl | ⟨i, rfl, hi⟩
 · exact hr'
 · intro e; injection e with e; omega
theorem Keep.alloc {k : Nat} {r : Option Nat} {a b : World} (h : Keep k r a b) (o : Obj) : Keep k r a (b.alloc o) :=
 ⟨h.os, h.tape, h.output, Nat.le_trans h.size (by simp), fun j hj hk hr => (Below.heap_alloc b o j (Nat.lt_of_lt_of_le hj h.size)).trans (h.block j hj hk hr)⟩
theorem Keep.drew {k : Nat} {r : Option Nat} {a b : World} (h : Keep k r a b) : Keep k r a b.drew := ⟨h.os, h.tape, h.output, h.size, h.block⟩
theorem Keep.below {k B : Nat} {r : Option Nat} {a b : World} (h : Keep k r a b) (hB : B ≤ k) (hs : B ≤ a.heap.size) (hr : ∀ j, r = some j → B ≤ j) : Below B a b :=
 ⟨h.os, h.tape, h.output, h.size, fun j hj => h.block j (by omega) (by omega) (fun e => by have := hr j e.symm; omega)⟩
theorem Wrote.refl {T E : TypeId} {k : Nat} {r : Option Nat} {xs : List UInt8} {w : World} (h : Wr T E k r xs w) : Wrote T E k r xs w w := ⟨r, h, Keep.refl _ _ _, .inl rfl⟩
theorem Wrote.trans {T E : TypeId} {k : Nat} {r r1 : Option Nat} {zs : List UInt8} {a b c : World} (hk : Keep k r a b) (hr : r1 = r ∨ ∃ j, r1 = some j ∧ a.heap.size ≤ j) (g : Wrote T E k r1 zs b c) : Wrote T E k r zs a c := by
 obtain ⟨r2, hw, hk2, h2⟩ := g
 refine ⟨r2, hw, hk.trans hk2 hr, ?_⟩
 rcases h2 with rfl | ⟨j, rfl, hj⟩
 · exact hr
 · exact .inr ⟨j, rfl, Nat.le_trans hk.size hj⟩
theorem Wr.alloc {T E : TypeId} {k : Nat} {r : Option Nat} {xs : List UInt8} {w : World} (h : Wr T E k r xs w) (o : Obj) : Wr T E k r xs (w.alloc o) := by
 obtain ⟨v, hb, hown, hv⟩ := h
 exact ⟨v, (Below.heap_alloc w o k (lt_of_block hb)).trans hb, hown.alloc o, hv⟩
theorem Wr.drew {T E : TypeId} {k : Nat} {r : Option Nat} {xs : List UInt8} {w : World} (h : Wr T E k r xs w) : Wr T E k r xs w.drew := h
theorem Wrote.then {T E : TypeId} {k : Nat} {r : Option Nat} {ys zs : List UInt8} {a b c : World} (h : Wrote T E k r ys a b) (g : ∀ r1, Wr T E k r1 ys b → Wrote T E k r1 zs b c) : Wrote T E k r zs a c := by
 obtain ⟨r1, hw, hk, hr⟩ := h
 exact Wrote.trans hk hr (g r1 hw)
theorem Wr.below {T E : TypeId} {k : Nat} {r : Option Nat} {xs : List UInt8} {w w1 : World} (h : Wr T E k r xs w) (hb : Below w.heap.size w w1) : Wr T E k r xs w1 := by
 obtain ⟨v, h1, hown, hv⟩ := h
 refine ⟨v, (hb.block k (lt_of_block h1)).trans h1, ?_, hv⟩
 exact hown.kept (row := none) ⟨hb.os, hb.tape, hb.output, hb.size, fun k hk _ => hb.block k hk⟩ (by cases v.ownBlock <;> simp)
def noughts (n : Nat) : ByteArray := ⟨Array.replicate n 0⟩
def blank (s : ByteArray) : ByteArray := s ++ noughts (128 - s.size)
structure DS where
 kept : List ByteArray
 wait : List (Nat × ByteArray)
 fuse : Int
 dead : Bool
 wr : Nat
 br : Nat
def DS.new (n : Nat) : DS := ⟨List.replicate n (blank ⟨#[]⟩), [], -1, false, 0, 0⟩
theorem Keep.put {k : Nat} {a b : World} (h : Keep k none a b) (j : Nat) (v : Value) : Keep k none a (b.setCell ⟨k, j, none⟩ v) :=
 ⟨h.os, h.tape, h.output, by simpa [World.setCell] using h.size, fun i hi hk hr => (Below.heap_setCell b _ v i hk).trans (h.block i hi hk hr)⟩
end Go.Proofs.YtngfknplljedeaaGreat
