/- The contracts of the law's own writing of a thing, and of its look at sizes. -/
import Derived.Test.YtimbcombhdgjiaaDoorXk
namespace Go.Proofs.YtimbcombhdgjiaaDoor
open Go.RowKit

/-- A thing's error and bytes. -/
def thPut (kind n : Int) (is : Bool) (s : ByteArray) : Int × List UInt8 :=
  if kind = 1 then putU32 n else if kind = 2 then putU64 n else if kind = 3 then putBool is else if kind = 4 then putFixed s else if kind = 5 then putOpaque s else if kind = 6 then putOpt is n else (0, [])

theorem kinds (kind : Int) : kind = 1 ∨ kind = 2 ∨ kind = 3 ∨ kind = 4 ∨ kind = 5 ∨ kind = 6 ∨ (¬ kind = 1 ∧ ¬ kind = 2 ∧ ¬ kind = 3 ∧ ¬ kind = 4 ∧ ¬ kind = 5 ∧ ¬ kind = 6) := by omega

theorem boxed {w w1 : World} {o : Obj} (h : Below (w.alloc o).heap.size (w.alloc o) w1) : Below w.heap.size w w1 := ((Below.refl _ _).alloc (Nat.le_refl _) o).trans (h.mono (by simp))
theorem boxed0 {w : World} {o : Obj} : Below w.heap.size w (w.alloc o) := (Below.refl _ _).alloc (Nat.le_refl _) o

theorem Puts.of_alloc {k : Nat} {r : Option Nat} {xs : List UInt8} {p : Int × List UInt8} {w : World} {o : Obj} {e : Ending} {w' : World} (h : Puts k r xs p (w.alloc o) e w') : Puts k r xs p w e w' := ⟨h.1, h.2.of_alloc⟩

/-! ### A list of things -/
structure Th where
  kind : Int
  n : Int
  is : Bool
  s : ByteArray

/-- The things of a slice, cell by cell. -/
structure Things (b off len : Nat) (ts : List Th) (w : World) : Prop where
  hlen : ts.length = len
  hkind : ∀ (i : Nat) (t : Th), ts[i]? = some t → w.cell? ⟨b, off + i * 4, none⟩ = some (.int .i64 t.kind)
  hn : ∀ (i : Nat) (t : Th), ts[i]? = some t → w.cell? ⟨b, off + i * 4 + 1, none⟩ = some (.int .i64 t.n)
  his : ∀ (i : Nat) (t : Th), ts[i]? = some t → w.cell? ⟨b, off + i * 4 + 2, none⟩ = some (.bool t.is)
  hs : ∀ (i : Nat) (t : Th), ts[i]? = some t → w.cell? ⟨b, off + i * 4 + 3, none⟩ = some (.string t.s)
  hbd : ∀ (i : Nat) (t : Th), ts[i]? = some t → t.n ≤ 9223372036854775807 ∧ t.s.size ≤ 9223372036854775807

theorem Things.below {b off len : Nat} {ts : List Th} {B : Nat} {w w1 : World} (h : Things b off len ts w) (hb : Below B w w1) (hB : b < B) : Things b off len ts w1 :=
  ⟨h.hlen, fun i t e => (hb.cell (p := ⟨b, _, none⟩) hB).trans (h.hkind i t e), fun i t e => (hb.cell (p := ⟨b, _, none⟩) hB).trans (h.hn i t e), fun i t e => (hb.cell (p := ⟨b, _, none⟩) hB).trans (h.his i t e), fun i t e => (hb.cell (p := ⟨b, _, none⟩) hB).trans (h.hs i t e), h.hbd⟩

def small (ts : List Th) : Prop := ts.length ≤ 40 ∧ ∀ (i : Nat) (t : Th), ts[i]? = some t → t.s.size ≤ 200

theorem Things.get {b off len : Nat} {ts : List Th} {w : World} (h : Things b off len ts w) {i : Nat} (hi : i < len) : ∃ t, ts[i]? = some t := ⟨ts[i]'(by rw [h.hlen]; exact hi), List.getElem?_eq_getElem _⟩

end Go.Proofs.YtimbcombhdgjiaaDoor
