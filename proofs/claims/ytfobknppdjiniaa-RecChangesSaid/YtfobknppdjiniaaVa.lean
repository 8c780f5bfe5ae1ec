/- Plain definitions: what a proxy keeps, and changes of it; rows of structs, wherever they lie. No function of the program is named here. -/
import Derived.Test.YtfobknppdjiniaaOa
import Derived.Test.YtfobknppdjiniaaOs
import Derived.Test.YtfobknppdjiniaaDa
import Derived.Test.YtfobknppdjiniaaIn
namespace Go.Proofs.Ytfobknppdjiniaa
open Go.RowKit

/-- A handle that was issued. -/
structure Hd where
  epoch : Int
  serial : Int
  up : ByteArray
deriving DecidableEq
/-- A file that is kept. -/
structure Cd where
  up : ByteArray
  attr : Pa
deriving DecidableEq
/-- A name that is kept. -/
structure Kn where
  dir : ByteArray
  name : ByteArray
  up : ByteArray
deriving DecidableEq
/-- A block that is kept. -/
structure Bk where
  up : ByteArray
  no : Int
  slot : Int
deriving DecidableEq
/-- A change. -/
structure Ch where
  kind : Int
  epoch : Int
  serial : Int
  up : ByteArray
  name : ByteArray
  child : ByteArray
  attr : Pa
  no : Int
  slot : Int
deriving DecidableEq
def Hd.vs (x : Hd) : List Value := [.int .i64 x.epoch, .int .i64 x.serial, .string x.up]
def Cd.vs (x : Cd) : List Value := [.string x.up, .int .i64 x.attr.ty, .int .i64 x.attr.mode, .int .i64 x.attr.nlink, .int .i64 x.attr.uid, .int .i64 x.attr.gid, .int .i64 x.attr.size, .int .i64 x.attr.id, .int .i64 x.attr.gen, .int .i64 x.attr.change, .int .i64 x.attr.time]
def Kn.vs (x : Kn) : List Value := [.string x.dir, .string x.name, .string x.up]
def Bk.vs (x : Bk) : List Value := [.string x.up, .int .i64 x.no, .int .i64 x.slot]
def Ch.vs (x : Ch) : List Value := [.int .i64 x.kind, .int .i64 x.epoch, .int .i64 x.serial, .string x.up, .string x.name, .string x.child, .int .i64 x.attr.ty, .int .i64 x.attr.mode, .int .i64 x.attr.nlink, .int .i64 x.attr.uid, .int .i64 x.attr.gid, .int .i64 x.attr.size, .int .i64 x.attr.id, .int .i64 x.attr.gen, .int .i64 x.attr.change, .int .i64 x.attr.time, .int .i64 x.no, .int .i64 x.slot]
def Hd.num (x : Hd) : Prop := i64 x.epoch ∧ i64 x.serial ∧ x.up.size ≤ 9223372036854775807
def Cd.num (x : Cd) : Prop := x.up.size ≤ 9223372036854775807 ∧ x.attr.num
def Kn.num (x : Kn) : Prop := x.dir.size ≤ 9223372036854775807 ∧ x.name.size ≤ 9223372036854775807 ∧ x.up.size ≤ 9223372036854775807
def Bk.num (x : Bk) : Prop := x.up.size ≤ 9223372036854775807 ∧ i64 x.no ∧ i64 x.slot
def Ch.num (x : Ch) : Prop := i64 x.kind ∧ i64 x.epoch ∧ i64 x.serial ∧ x.up.size ≤ 9223372036854775807 ∧ x.name.size ≤ 9223372036854775807 ∧ x.child.size ≤ 9223372036854775807 ∧ x.attr.num ∧ i64 x.no ∧ i64 x.slot
/-- All that a proxy keeps. -/
structure CA where
  helds : List Hd
  files : List Cd
  names : List Kn
  blocks : List Bk
deriving DecidableEq
def CA.num (c : CA) : Prop := (∀ x ∈ c.helds, x.num) ∧ (∀ x ∈ c.files, x.num) ∧ (∀ x ∈ c.names, x.num) ∧ ∀ x ∈ c.blocks, x.num
def Hd.ch (x : Hd) : Ch := ⟨1, x.epoch, x.serial, x.up, ⟨#[]⟩, ⟨#[]⟩, Pa.zero, 0, 0⟩
def Cd.ch (x : Cd) : Ch := ⟨3, 0, 0, x.up, ⟨#[]⟩, ⟨#[]⟩, x.attr, 0, 0⟩
def Kn.ch (x : Kn) : Ch := ⟨6, 0, 0, x.dir, x.name, x.up, Pa.zero, 0, 0⟩
def Bk.ch (x : Bk) : Ch := ⟨8, 0, 0, x.up, ⟨#[]⟩, ⟨#[]⟩, Pa.zero, x.no, x.slot⟩
/-- The changes that make it. -/
def CA.changes (c : CA) : List Ch := c.helds.map Hd.ch ++ c.files.map Cd.ch ++ c.names.map Kn.ch ++ c.blocks.map Bk.ch
theorem CA.changes_length (c : CA) : c.changes.length = c.helds.length + c.files.length + c.names.length + c.blocks.length := by simp [CA.changes]; omega
section
variable {α : Type}
/-- A slice whose elements are these, all of it below B. -/
def RowsAt (B k : Nat) (f : α → List Value) (v : Value) (xs : List α) (w : World) : Prop :=
  ∃ (ao : Option Addr) (cap b off : Nat), v = .slice ao xs.length cap ∧ (xs.length ≤ 9223372036854775807 ∧ xs.length ≤ cap) ∧ (0 < xs.length → ao = some ⟨b, off, none⟩ ∧ b < B) ∧
    ∀ (i : Nat) (x : α), xs[i]? = some x → w.rangeAt b (off + i * k) (f x)
theorem RowsAt.below {B k : Nat} {f : α → List Value} {v : Value} {xs : List α} {w w' : World} (h : RowsAt B k f v xs w) (hb : Below B w w') : RowsAt B k f v xs w' := by
  obtain ⟨ao, cap, b, off, hv, hl, hao, hx⟩ := h
  refine ⟨ao, cap, b, off, hv, hl, hao, fun i x hi j u hu => ?_⟩
  have h0 : 0 < xs.length := by have := (List.getElem?_eq_some_iff.1 hi).1; omega
  exact (hb.cell (p := ⟨b, off + i * k + j, none⟩) (hao h0).2).trans (hx i x hi j u hu)
theorem RowsAt.raise {B B' k : Nat} {f : α → List Value} {v : Value} {xs : List α} {w : World} (h : RowsAt B k f v xs w) (hB : B ≤ B') : RowsAt B' k f v xs w := by
  obtain ⟨ao, cap, b, off, hv, hl, hao, hx⟩ := h
  exact ⟨ao, cap, b, off, hv, hl, fun h0 => ⟨(hao h0).1, Nat.lt_of_lt_of_le (hao h0).2 hB⟩, hx⟩
/-- As the walk wants it. -/
theorem RowsAt.walk {B k : Nat} {f : α → List Value} {v : Value} {xs : List α} {w : World} (h : RowsAt B k f v xs w) : ∃ (ao : Option Addr) (cap b off : Nat), v = .slice ao xs.length cap ∧ xs.length ≤ 9223372036854775807 ∧
    ∀ i, i < xs.length → ∃ x, xs[i]? = some x ∧ ao = some ⟨b, off, none⟩ ∧ b < B ∧ w.rangeAt b (off + i * k) (f x) := by
  obtain ⟨ao, cap, b, off, hv, hl, hao, hx⟩ := h
  exact ⟨ao, cap, b, off, hv, hl.1, fun i hi => ⟨xs[i], List.getElem?_eq_getElem hi, (hao (by omega)).1, (hao (by omega)).2, hx i _ (List.getElem?_eq_getElem hi)⟩⟩
theorem RowsAt.walk2 {B k : Nat} {f : α → List Value} {v : Value} {xs : List α} {w : World} (h : RowsAt B k f v xs w) : ∃ (ao : Option Addr) (cap b off : Nat), v = .slice ao xs.length cap ∧ xs.length ≤ 9223372036854775807 ∧ xs.length ≤ cap ∧
    ∀ i, i < xs.length → ∃ x, xs[i]? = some x ∧ ao = some ⟨b, off, none⟩ ∧ b < B ∧ w.rangeAt b (off + i * k) (f x) := by
  obtain ⟨ao, cap, b, off, hv, hl, hao, hx⟩ := h
  exact ⟨ao, cap, b, off, hv, hl.1, hl.2, fun i hi => ⟨xs[i], List.getElem?_eq_getElem hi, (hao (by omega)).1, (hao (by omega)).2, hx i _ (List.getElem?_eq_getElem hi)⟩⟩
theorem take_one : ∀ (xs : List α) (k : Nat) (x : α), xs[k]? = some x → xs.take (k + 1) = xs.take k ++ [x]
  | [], k, x, h => by simp at h
  | y :: xs, 0, x, h => by simp at h; simp [h]
  | y :: xs, k + 1, x, h => by
    rw [List.take_succ_cons, List.take_succ_cons, take_one xs k x (by simpa using h)]
    rfl
theorem flat_length {k : Nat} {f : α → List Value} (hf : ∀ x, (f x).length = k) : ∀ xs : List α, (xs.flatMap f).length = xs.length * k
  | [] => by simp
  | x :: xs => by
    rw [List.flatMap_cons, List.length_append, flat_length hf xs, hf, List.length_cons, Nat.succ_mul]
    omega
theorem flat_at {k : Nat} {f : α → List Value} (hf : ∀ x, (f x).length = k) : ∀ (xs : List α) (i : Nat) (x : α), xs[i]? = some x → ∀ j, j < k → (xs.flatMap f)[i * k + j]? = (f x)[j]?
  | [], i, x, h => by simp at h
  | y :: xs, 0, x, h => fun j hj => by
    obtain rfl : y = x := by simpa using h
    rw [Nat.zero_mul, Nat.zero_add, List.flatMap_cons, List.getElem?_append_left (by rw [hf]; exact hj)]
  | y :: xs, i + 1, x, h => fun j hj => by
    rw [List.flatMap_cons, List.getElem?_append_right (by rw [hf, Nat.succ_mul]; omega), hf, show (i + 1) * k + j - k = i * k + j from by rw [Nat.succ_mul]; omega]
    exact flat_at hf xs i x (by simpa using h) j hj
/-- A row of one's own is such a slice. -/
theorem RowsAt.own {B k : Nat} {e : TypeId} {f : α → List Value} {v : Value} {xs : List α} {w : World} (hf : ∀ x, (f x).length = k) (h : w.ownsRow B e k v xs.length (xs.flatMap f)) : RowsAt w.heap.size k f v xs w := by
  have hl := own_len h
  rcases h.2 with ⟨hv, h0⟩ | ⟨g, cap, cur, hv, _, _, hnc, _⟩
  · have h1 : xs = [] := List.length_eq_zero_iff.1 h0
    subst h1
    exact ⟨none, 0, 0, 0, hv, ⟨by simp, by simp⟩, fun h => by simp at h, fun i x hi => by simp at hi⟩
  · subst hv
    refine ⟨some ⟨g, 0, none⟩, cap, g, 0, rfl, ⟨hl, hnc⟩, fun _ => ⟨rfl, (World.ownsRow.lt h g rfl).2⟩, fun i x hi j u hu => ?_⟩
    have hi2 := (List.getElem?_eq_some_iff.1 hi).1
    have hj : j < k := by have := (List.getElem?_eq_some_iff.1 hu).1; rwa [hf] at this
    have hlt : i * k + j < xs.length * k := by
      have : (i + 1) * k ≤ xs.length * k := Nat.mul_le_mul_right k hi2
      rw [Nat.succ_mul] at this
      omega
    rw [Nat.zero_add, World.ownsRow.cellAt h (i * k + j) hlt, flat_at hf xs i x hi j hj]
    exact hu
end
theorem Ch.vs_length (x : Ch) : x.vs.length = 18 := rfl
theorem Hd.vs_length (x : Hd) : x.vs.length = 3 := rfl
theorem Cd.vs_length (x : Cd) : x.vs.length = 11 := rfl
theorem Kn.vs_length (x : Kn) : x.vs.length = 3 := rfl
theorem Bk.vs_length (x : Bk) : x.vs.length = 3 := rfl
/-- A cache as a value: four slices, all of them below B. -/
def CAt (B : Nat) (cs : List Value) (c : CA) (w : World) : Prop :=
  ∃ v1 v2 v3 v4, cs = [v1, v2, v3, v4] ∧ RowsAt B 3 Hd.vs v1 c.helds w ∧ RowsAt B 11 Cd.vs v2 c.files w ∧ RowsAt B 3 Kn.vs v3 c.names w ∧ RowsAt B 3 Bk.vs v4 c.blocks w
theorem CAt.below {B : Nat} {cs : List Value} {c : CA} {w w' : World} (h : CAt B cs c w) (hb : Below B w w') : CAt B cs c w' := by
  obtain ⟨v1, v2, v3, v4, e, h1, h2, h3, h4⟩ := h
  exact ⟨v1, v2, v3, v4, e, h1.below hb, h2.below hb, h3.below hb, h4.below hb⟩
/-- Changes in a row of one's own. -/
def ChRow (T : TypeId) (B : Nat) (v : Value) (xs : List Ch) (w : World) : Prop := w.ownsRow B T 18 v xs.length (xs.flatMap Ch.vs)
theorem ChRow.rows {T : TypeId} {B : Nat} {v : Value} {xs : List Ch} {w : World} (h : ChRow T B v xs w) : RowsAt w.heap.size 18 Ch.vs v xs w := RowsAt.own Ch.vs_length h
theorem ChRow.one (xs : List Ch) : ∀ u ∈ xs.flatMap Ch.vs, u.oneCell' = true := by
  intro u hu
  obtain ⟨p, _, hp⟩ := List.mem_flatMap.1 hu
  simp [Ch.vs] at hp
  rcases hp with rfl | rfl | rfl | rfl | rfl | rfl | rfl | rfl | rfl | rfl | rfl | rfl | rfl | rfl | rfl | rfl | rfl | rfl <;> rfl
end Go.Proofs.Ytfobknppdjiniaa
