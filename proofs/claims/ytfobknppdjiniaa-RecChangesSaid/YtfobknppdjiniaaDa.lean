/- Plain definitions: what a disk has, and what becomes of it. No function of the program is named here. -/
import Derived.Test.YtfobknppdjiniaaFr
import Derived.Deep.Draws
namespace Go.Proofs.Ytfobknppdjiniaa
open Go.RowKit

/-- So many noughts. -/
def noughts (n : Nat) : ByteArray := ⟨Array.replicate n 0⟩
theorem noughts_size (n : Nat) : (noughts n).size = n := by simp [noughts, ByteArray.size]
theorem noughts_zero : noughts 0 = ⟨#[]⟩ := rfl
theorem noughts_succ (n : Nat) : noughts n ++ ⟨#[0]⟩ = noughts (n + 1) := by
  apply ByteArray.ext
  simp [noughts, Array.replicate_succ]
theorem append_noughts (s : ByteArray) (n : Nat) : (s ++ noughts n) ++ ⟨#[0]⟩ = s ++ noughts (n + 1) := by
  rw [ByteArray.append_assoc, noughts_succ]
theorem append_none (s : ByteArray) : s ++ noughts 0 = s := by
  apply ByteArray.ext
  simp [noughts]
/-- A sector that begins with a text. -/
def blank (s : ByteArray) : ByteArray := s ++ noughts (128 - s.size)
theorem blank_size (s : ByteArray) (h : s.size ≤ 128) : (blank s).size = 128 := by
  unfold blank
  rw [ByteArray.size_append, noughts_size]
  omega

/-- What a disk has: what is kept, what waits, the fuse, whether it has died, what was counted. -/
structure DS where
  kept : List ByteArray
  wait : List (Nat × ByteArray)
  fuse : Int
  dead : Bool
  wr : Nat
  br : Nat

/-- What the last write to a sector said; else s. -/
def lastOf (i : Nat) (s : ByteArray) : List (Nat × ByteArray) → ByteArray
  | [] => s
  | x :: l => lastOf i (if x.1 = i then x.2 else s) l
theorem lastOf_snoc (i : Nat) (x : Nat × ByteArray) : ∀ (l : List (Nat × ByteArray)) (s : ByteArray), lastOf i s (l ++ [x]) = if x.1 = i then x.2 else lastOf i s l
  | [], _ => rfl
  | _ :: l, _ => lastOf_snoc i x l _

/-- What is kept when all these are. -/
def keepAll (k : List ByteArray) (l : List (Nat × ByteArray)) : List ByteArray := l.foldl (fun k x => k.set x.1 x.2) k
theorem keepAll_snoc (k : List ByteArray) (l : List (Nat × ByteArray)) (x : Nat × ByteArray) : keepAll k (l ++ [x]) = (keepAll k l).set x.1 x.2 := by
  simp [keepAll]
theorem keepAll_length (l : List (Nat × ByteArray)) : ∀ k : List ByteArray, (keepAll k l).length = k.length := by
  induction l with
  | nil => intro k; rfl
  | cons x l ih => intro k; show (keepAll (k.set x.1 x.2) l).length = _; rw [ih]; simp

/-- Those at the places that are named. -/
def chosen (keep : List Int) (l : List (Nat × ByteArray)) (n : Nat) : List (Nat × ByteArray) := match l with
  | [] => []
  | x :: l => if (n : Int) ∈ keep then x :: chosen keep l (n + 1) else chosen keep l (n + 1)
theorem chosen_snoc (keep : List Int) (x : Nat × ByteArray) : ∀ (l : List (Nat × ByteArray)) (n : Nat), chosen keep (l ++ [x]) n = chosen keep l n ++ (if ((n + l.length : Nat) : Int) ∈ keep then [x] else [])
  | [], n => by simp only [List.nil_append, chosen, List.length_nil, Nat.add_zero]
  | y :: l, n => by
    have e : n + 1 + l.length = n + (y :: l).length := by simp; omega
    simp only [List.cons_append, chosen, chosen_snoc keep x l (n + 1), e]
    split <;> simp

def DS.inside (D : DS) (i : Int) : Bool := decide (0 ≤ i ∧ i < D.kept.length)
/-- What Read answers. -/
def DS.read (D : DS) (i : Int) : ByteArray × Int :=
  if D.dead then (⟨#[]⟩, 30) else if D.inside i then (lastOf i.toNat (D.kept.getD i.toNat ⟨#[]⟩) D.wait, 0) else (⟨#[]⟩, 3)
/-- Behind the fuse. -/
def DS.burnt (D : DS) : DS := if D.fuse = 0 then { D with dead := true } else if 0 < D.fuse then { D with fuse := D.fuse - 1 } else D
def DS.write (D : DS) (i : Int) (s : ByteArray) : Int × DS :=
  if D.dead then (30, D) else if D.inside i = false then (3, D) else if 128 < s.size then (4, D)
  else if D.fuse = 0 then (30, D.burnt) else (0, { D.burnt with wait := D.wait ++ [(i.toNat, blank s)], wr := D.wr + 1 })
def DS.barrier (D : DS) : Int × DS :=
  if D.dead then (30, D) else if D.fuse = 0 then (30, D.burnt) else (0, { D.burnt with kept := keepAll D.kept D.wait, wait := [], br := D.br + 1 })
def DS.arm (D : DS) (n : Int) : Int × DS := if D.dead then (30, D) else (0, { D with fuse := if n < 0 then -1 else n })
def DS.crash (D : DS) (keep : List Int) : DS := { D with kept := keepAll D.kept (chosen keep D.wait 0), wait := [], fuse := -1, dead := false }
def DS.new (n : Nat) : DS := ⟨List.replicate n (blank ⟨#[]⟩), [], -1, false, 0, 0⟩

/-- What a disk may have: each write that waits is to a sector; the fuse is a number; not too much of anything. -/
structure DS.ok (D : DS) (n : Nat) : Prop where
  len : D.kept.length = n
  inn : ∀ x ∈ D.wait, x.1 < n
  full : ∀ x ∈ D.kept, x.size = 128
  fulw : ∀ x ∈ D.wait, x.2.size = 128
  lo : -1 ≤ D.fuse
  hi : D.fuse ≤ 9223372036854775807

/-- All blocks but those of F are as they were. -/
structure Frm (F : Nat → Prop) (w w' : World) : Prop where
  os : w'.os = w.os
  tape : w'.tape = w.tape
  output : w'.output = w.output
  size : w.heap.size ≤ w'.heap.size
  block : ∀ j, j < w.heap.size → ¬ F j → w'.heap[j]? = w.heap[j]?
/-- F, and what is new. -/
def Grow (F : Nat → Prop) (w w' : World) : Nat → Prop := fun j => F j ∨ (w.heap.size ≤ j ∧ j < w'.heap.size)

theorem Frm.refl (F : Nat → Prop) (w : World) : Frm F w w := ⟨rfl, rfl, rfl, Nat.le_refl _, fun _ _ _ => rfl⟩
theorem Frm.trans {F : Nat → Prop} {a b c : World} (h : Frm F a b) (g : Frm (Grow F a b) b c) : Frm F a c :=
  ⟨g.os.trans h.os, g.tape.trans h.tape, g.output.trans h.output, Nat.le_trans h.size g.size, fun j hj hf => (g.block j (Nat.lt_of_lt_of_le hj h.size) (fun e => by rcases e with e | e; exact hf e; omega)).trans (h.block j hj hf)⟩
theorem Frm.wide {F G : Nat → Prop} {a b : World} (h : Frm F a b) (hg : ∀ j, F j → G j) : Frm G a b := ⟨h.os, h.tape, h.output, h.size, fun j hj hn => h.block j hj fun e => hn (hg j e)⟩
theorem Frm.next {F : Nat → Prop} {a b c : World} (h : Frm F a b) (g : Frm F b c) : Frm F a c := h.trans (g.wide fun _ e => .inl e)
theorem Frm.alloc {F : Nat → Prop} {a b : World} (h : Frm F a b) (o : Obj) : Frm F a (b.alloc o) :=
  h.next ⟨rfl, rfl, rfl, by simp, fun j hj _ => Below.heap_alloc b o j hj⟩
theorem Frm.drew {F : Nat → Prop} {a b : World} (h : Frm F a b) : Frm F a b.drew := ⟨h.os, h.tape, h.output, h.size, h.block⟩
theorem Frm.drewN {F : Nat → Prop} {a b : World} (h : Frm F a b) (q : Nat) : Frm F a (b.drewN q) := ⟨h.os, h.tape, h.output, h.size, h.block⟩
theorem Frm.setCell {F : Nat → Prop} {a b : World} (h : Frm F a b) {p : Addr} (hp : F p.block ∨ a.heap.size ≤ p.block) (u : Value) : Frm F a (b.setCell p u) :=
  h.trans ⟨rfl, rfl, rfl, by simp [World.setCell], fun j hj hn => Below.heap_setCell _ _ _ _ (fun e => hn (by subst e; rcases hp with hp | hp; exact .inl hp; exact .inr ⟨hp, hj⟩))⟩
theorem Frm.grown {F : Nat → Prop} {a b c : World} {row : Option Nat} (h : Frm F a b) (hg : b.grownBy c row) (hr : ∀ k, row = some k → F k ∨ a.heap.size ≤ k) : Frm F a c :=
  h.trans ⟨hg.os, hg.tape, hg.output, hg.size, fun j hj hn => hg.block j hj (fun e => hn (by rcases hr j e.symm with hp | hp; exact .inl hp; exact .inr ⟨hp, hj⟩))⟩
theorem Frm.of_below {F : Nat → Prop} {a b : World} (h : Below a.heap.size a b) : Frm F a b := ⟨h.os, h.tape, h.output, h.size, fun j hj _ => h.block j hj⟩
theorem Frm.below {F : Nat → Prop} {a b : World} {B : Nat} (h : Frm F a b) (hB : B ≤ a.heap.size) (hF : ∀ j, F j → B ≤ j) : Below B a b :=
  ⟨h.os, h.tape, h.output, h.size, fun j hj => h.block j (by omega) (fun e => by have := hF j e; omega)⟩
theorem Frm.st {F : Nat → Prop} {a b : World} (h : Frm F a b) {k : Nat} {o : Obj} (hk : a.heap[k]? = some o) (hf : ¬ F k) : b.heap[k]? = some o := (h.block k (lt_of_block hk) hf).trans hk
theorem Frm.own {F : Nat → Prop} {a b : World} (h : Frm F a b) {B : Nat} {e : TypeId} {size : Nat} {v : Value} {n : Nat} {xs : List Value} (ho : a.ownsRow B e size v n xs) (hf : ∀ k, v.ownBlock = some k → ¬ F k) : b.ownsRow B e size v n xs := by
  refine ⟨ho.1, ?_⟩
  rcases ho.2 with hn | ⟨g, cap, cur, rfl, hb, hgg, rest⟩
  · exact .inl hn
  · exact .inr ⟨g, cap, cur, rfl, hb, (h.block g (lt_of_block hgg) (hf g rfl)).trans hgg, rest⟩
theorem Frm.cell {F : Nat → Prop} {a b : World} (h : Frm F a b) {q : Addr} (hq : q.block < a.heap.size) (hf : ¬ F q.block) : b.cell? q = a.cell? q := World.cell?_of_block (w := a) (h.block q.block hq hf)
theorem Frm.frozen {F : Nat → Prop} {a b : World} (h : Frm F a b) {q : Addr} (hq : q.block < a.heap.size) (hf : ¬ F q.block) : b.frozen? q = a.frozen? q := World.frozen?_of_block (w := a) (h.block q.block hq hf)

end Go.Proofs.Ytfobknppdjiniaa
