/- Plain definitions: pieces of records. No function of the program is named here. -/
import Derived.Test.YtfipojmgmmjnmaaDa
import Derived.Test.YtfipojmgmmjnmaaOs
namespace Go.Proofs.Ytfipojmgmmjnmaa
open Go.RowKit

/-- A piece. -/
structure Pz where
  epoch : Int
  seq : Int
  part : Int
  parts : Int
  data : ByteArray
deriving DecidableEq
def Pz.arr (p : Pz) : Array Value := #[.int .i64 p.epoch, .int .i64 p.seq, .int .i64 p.part, .int .i64 p.parts, .string p.data]
def Pz.num (p : Pz) : Prop := i64 p.epoch ∧ i64 p.seq ∧ i64 p.part ∧ i64 p.parts ∧ p.data.size ≤ 9223372036854775807
def numsB (e q : Int) : Bool := decide (1 ≤ e) && decide (e ≤ 4294967295) && decide (1 ≤ q)
/-- May it be? -/
def Pz.ok (p : Pz) : Bool := numsB p.epoch p.seq && decide (1 ≤ p.parts) && decide (p.parts ≤ 64) && decide (0 ≤ p.part) && decide (p.part < p.parts) && decide (p.data.size ≤ 100) &&
  (if p.part < p.parts - 1 then decide (p.data.size = 100) else decide (0 < p.data.size) || decide (p.parts = 1))
/-- How many pieces so many bytes have. -/
def cnt (n : Nat) : Nat := if n = 0 then 1 else (n + 99) / 100
/-- The bytes of a piece. -/
def chunk (r : ByteArray) (i : Nat) : ByteArray := r.extract (100 * i) (min r.size (100 * i + 100))
def pieceAt (r : ByteArray) (e q : Int) (i : Nat) : Pz := ⟨e, q, i, cnt r.size, chunk r i⟩
def piecesTo (r : ByteArray) (e q : Int) (k : Nat) : List Pz := (List.range k).map (pieceAt r e q)
/-- A record's pieces. -/
def pieces (r : ByteArray) (e q : Int) : List Pz := piecesTo r e q (cnt r.size)
theorem piecesTo_succ (r : ByteArray) (e q : Int) (k : Nat) : piecesTo r e q (k + 1) = piecesTo r e q k ++ [pieceAt r e q k] := by
  unfold piecesTo
  rw [List.range_succ, List.map_append]
  rfl
theorem piecesTo_length (r : ByteArray) (e q : Int) (k : Nat) : (piecesTo r e q k).length = k := by simp [piecesTo]
/-- Does this one fit at this place? -/
def fits (l : List Pz) (i : Nat) (p : Pz) : Bool := p.ok && decide (p.part = i) && decide (p.parts = l.length) && decide (p.epoch = (l.headD p).epoch) && decide (p.seq = (l.headD p).seq)
def fitsAt (l : List Pz) (i : Nat) : Bool := match l[i]? with
  | some p => fits l i p
  | none => false
def allFit (l : List Pz) (k : Nat) : Bool := (List.range k).all (fitsAt l)
def glue (l : List Pz) : ByteArray := l.foldl (fun s p => s ++ p.data) ⟨#[]⟩
/-- The record of pieces. -/
def joined (l : List Pz) : Option ByteArray := if 0 < l.length ∧ allFit l l.length = true then some (glue l) else none
theorem glue_snoc (l : List Pz) (p : Pz) : glue (l ++ [p]) = glue l ++ p.data := by simp [glue]
theorem allFit_succ (l : List Pz) (k : Nat) : allFit l (k + 1) = (allFit l k && fitsAt l k) := by
  unfold allFit
  rw [List.range_succ, List.all_append]
  simp
theorem allFit_le (l : List Pz) (k n : Nat) (h : k < n) (hf : fitsAt l k = false) : allFit l n = false := by
  unfold allFit
  rw [List.all_eq_false]
  exact ⟨k, List.mem_range.2 h, by rw [hf]; simp⟩
theorem pz_eq (a b : Pz) : a = b ↔ a.epoch = b.epoch ∧ a.seq = b.seq ∧ a.part = b.part ∧ a.parts = b.parts ∧ a.data = b.data := by
  constructor
  · rintro rfl; exact ⟨rfl, rfl, rfl, rfl, rfl⟩
  · obtain ⟨a1, a2, a3, a4, a5⟩ := a
    obtain ⟨b1, b2, b3, b4, b5⟩ := b
    rintro ⟨h1, h2, h3, h4, h5⟩
    subst h1 h2 h3 h4 h5
    rfl
/-- A slice of pieces, in a block that is fine. -/
def Pzs (ok : Nat → Prop) (v : Value) (xs : List Pz) (w : World) : Prop :=
  ∃ (ao : Option Addr) (cap b off : Nat), v = .slice ao xs.length cap ∧ (xs.length ≤ 9223372036854775807 ∧ (ao = none → cap = 0)) ∧ (0 < xs.length → ao = some ⟨b, off, none⟩ ∧ b < w.heap.size ∧ ok b) ∧
    ∀ (i : Nat) (x : Pz), xs[i]? = some x → w.rangeAt b (off + i * 5) x.arr.toList
theorem Pzs.frm {ok : Nat → Prop} {F : Nat → Prop} {v : Value} {xs : List Pz} {a b : World} (h : Pzs ok v xs a) (f : Frm F a b) (hf : ∀ j, ok j → ¬ F j) : Pzs ok v xs b := by
  obtain ⟨ao, cap, bb, off, e1, e2, e3, e4⟩ := h
  refine ⟨ao, cap, bb, off, e1, e2, fun hl => ⟨(e3 hl).1, Nat.lt_of_lt_of_le (e3 hl).2.1 f.size, (e3 hl).2.2⟩, fun i x hx j u hu => ?_⟩
  have hl : 0 < xs.length := by have := (List.getElem?_eq_some_iff.1 hx).1; omega
  exact (f.cell (q := ⟨bb, off + i * 5 + j, none⟩) (e3 hl).2.1 (hf bb (e3 hl).2.2)).trans (e4 i x hx j u hu)
theorem Pzs.below {ok : Nat → Prop} {v : Value} {xs : List Pz} {a b : World} (h : Pzs ok v xs a) (hb : Below a.heap.size a b) : Pzs ok v xs b := h.frm (F := fun _ => False) (Frm.of_below hb) fun _ _ e => e
theorem Pzs.imp {ok ok' : Nat → Prop} {v : Value} {xs : List Pz} {a : World} (h : Pzs ok v xs a) (hf : ∀ j, j < a.heap.size → ok j → ok' j) : Pzs ok' v xs a := by
  obtain ⟨ao, cap, bb, off, e1, e2, e3, e4⟩ := h
  exact ⟨ao, cap, bb, off, e1, e2, fun hl => ⟨(e3 hl).1, (e3 hl).2.1, hf _ (e3 hl).2.1 (e3 hl).2.2⟩, e4⟩
/-- The cells of pieces in a row. -/
def pcells (l : List Pz) : List Value := l.flatMap fun p => p.arr.toList
theorem pcells_append (l m : List Pz) : pcells (l ++ m) = pcells l ++ pcells m := by simp [pcells]
theorem pcells_at : ∀ (l : List Pz) (k : Nat) (x : Pz), l[k]? = some x → ∀ (j : Nat) (u : Value), x.arr.toList[j]? = some u → (pcells l)[k * 5 + j]? = some u
  | [], k, x, h => by simp at h
  | y :: l, 0, x, h => fun j u hu => by
    simp at h
    subst h
    have hj := (List.getElem?_eq_some_iff.1 hu).1
    show (y.arr.toList ++ pcells l)[0 * 5 + j]? = some u
    rw [Nat.zero_mul, Nat.zero_add, List.getElem?_append_left hj]
    exact hu
  | y :: l, k + 1, x, h => fun j u hu => by
    have h2 := pcells_at l k x (by simpa using h) j u hu
    show (y.arr.toList ++ pcells l)[(k + 1) * 5 + j]? = some u
    have e : y.arr.toList.length = 5 := rfl
    rw [List.getElem?_append_right (by rw [e]; omega), e, show (k + 1) * 5 + j - 5 = k * 5 + j from by omega]
    exact h2
end Go.Proofs.Ytfipojmgmmjnmaa
