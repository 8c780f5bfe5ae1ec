/- Plain lemmas on memory: a writer's block and its row of bytes, and what a call of one of its methods leaves alone. No function of the program is named here. -/
import Derived.WalkKit
import Derived.OneCell
import Derived.Deep.AppendLies
import Derived.Deep.RegionLaw
import Derived.Deep.Draws
import Derived.Lib.AppendStr
import Derived.Lib.Hide
import Derived.Laws.BytesArg
namespace Go.Proofs.Ytfobknppdjiniaa
open Go.RowKit

/-- Bytes as the cells of a row. -/
def bc (xs : List UInt8) : List Value := xs.map fun b => Value.int .u8 b.toNat
theorem bc_length (xs : List UInt8) : (bc xs).length = xs.length := by simp [bc]
theorem bc_append (xs ys : List UInt8) : bc (xs ++ ys) = bc xs ++ bc ys := by simp [bc]

/-- All blocks but k and row r are as they were. -/
structure Keep (k : Nat) (r : Option Nat) (w w' : World) : Prop where
  os : w'.os = w.os
  tape : w'.tape = w.tape
  output : w'.output = w.output
  size : w.heap.size ≤ w'.heap.size
  block : ∀ j, j < w.heap.size → j ≠ k → some j ≠ r → w'.heap[j]? = w.heap[j]?

/-- Block k holds one slice of bytes, whose row is r, and whose bytes are xs; both lie from k on. -/
def Wr (T E : TypeId) (k : Nat) (r : Option Nat) (xs : List UInt8) (w : World) : Prop :=
  ∃ v, w.heap[k]? = some (.cells #[v] T (0, 0)) ∧ w.ownsRow (k + 1) E 1 v xs.length (bc xs) ∧ v.ownBlock = r

/-- What a method of a writer leaves: the bytes ys; all other blocks as they were; the row the old one or a new one. -/
def Wrote (T E : TypeId) (k : Nat) (r : Option Nat) (ys : List UInt8) (w w' : World) : Prop :=
  ∃ r', Wr T E k r' ys w' ∧ Keep k r w w' ∧ (r' = r ∨ ∃ j, r' = some j ∧ w.heap.size ≤ j)

theorem Keep.refl (k : Nat) (r : Option Nat) (w : World) : Keep k r w w := ⟨rfl, rfl, rfl, Nat.le_refl _, fun _ _ _ _ => rfl⟩

theorem Keep.trans {k : Nat} {r r' : Option Nat} {a b c : World} (h : Keep k r a b) (g : Keep k r' b c) (hr : r' = r ∨ ∃ j, r' = some j ∧ a.heap.size ≤ j) : Keep k r a c := by
  refine ⟨g.os.trans h.os, g.tape.trans h.tape, g.output.trans h.output, Nat.le_trans h.size g.size, fun j hj hk hr' => ?_⟩
  rw [g.block j (Nat.lt_of_lt_of_le hj h.size) hk ?_, h.block j hj hk hr']
  rcases hr with rfl | ⟨i, rfl, hi⟩
  · exact hr'
  · intro e; injection e with e; omega

theorem Keep.alloc {k : Nat} {r : Option Nat} {a b : World} (h : Keep k r a b) (o : Obj) : Keep k r a (b.alloc o) :=
  ⟨h.os, h.tape, h.output, Nat.le_trans h.size (by simp), fun j hj hk hr => (Below.heap_alloc b o j (Nat.lt_of_lt_of_le hj h.size)).trans (h.block j hj hk hr)⟩

theorem Keep.drew {k : Nat} {r : Option Nat} {a b : World} (h : Keep k r a b) : Keep k r a b.drew := ⟨h.os, h.tape, h.output, h.size, h.block⟩

theorem Keep.below {k B : Nat} {r : Option Nat} {a b : World} (h : Keep k r a b) (hB : B ≤ k) (hs : B ≤ a.heap.size) (hr : ∀ j, r = some j → B ≤ j) : Below B a b :=
  ⟨h.os, h.tape, h.output, h.size, fun j hj => h.block j (by omega) (by omega) (fun e => by have := hr j e.symm; omega)⟩

theorem Keep.grown {k : Nat} {r : Option Nat} {a b c : World} (h : Keep k r a b) (hg : b.grownBy c r) : Keep k r a c :=
  ⟨hg.os.trans h.os, hg.tape.trans h.tape, hg.output.trans h.output, Nat.le_trans h.size hg.size, fun j hj hk hr => (hg.block j (Nat.lt_of_lt_of_le hj h.size) hr).trans (h.block j hj hk hr)⟩

theorem Keep.setCell {k : Nat} {r : Option Nat} {a b : World} (h : Keep k r a b) (u : Value) : Keep k r a (b.setCell ⟨k, 0, none⟩ u) :=
  ⟨h.os, h.tape, h.output, by simpa [World.setCell] using h.size, fun j hj hk hr => (Below.heap_setCell b _ u j hk).trans (h.block j hj hk hr)⟩

theorem Wrote.refl {T E : TypeId} {k : Nat} {r : Option Nat} {xs : List UInt8} {w : World} (h : Wr T E k r xs w) : Wrote T E k r xs w w := ⟨r, h, Keep.refl _ _ _, .inl rfl⟩

theorem Wrote.trans {T E : TypeId} {k : Nat} {r r1 : Option Nat} {zs : List UInt8} {a b c : World} (hk : Keep k r a b) (hr : r1 = r ∨ ∃ j, r1 = some j ∧ a.heap.size ≤ j) (g : Wrote T E k r1 zs b c) : Wrote T E k r zs a c := by
  obtain ⟨r2, hw, hk2, h2⟩ := g
  refine ⟨r2, hw, hk.trans hk2 hr, ?_⟩
  rcases h2 with rfl | ⟨j, rfl, hj⟩
  · exact hr
  · exact .inr ⟨j, rfl, Nat.le_trans hk.size hj⟩

/-- Behind an append to the bytes and the store into the writer. -/
theorem wrote_step {T E : TypeId} {k : Nat} {r : Option Nat} {xs zs : List UInt8} {w w1 w2 : World} {v : Value} {g cap : Nat}
    (hb : w.heap[k]? = some (.cells #[v] T (0, 0))) (hv : v.ownBlock = r) (hown : w.ownsRow (k + 1) E 1 v xs.length (bc xs)) (hk1 : Keep k none w w1)
    (h1 : w2.ownsRow (k + 1) E 1 (.slice (some ⟨g, 0, none⟩) (xs ++ zs).length cap) (xs ++ zs).length (bc (xs ++ zs))) (hg : w1.grownBy w2 v.ownBlock) (hw1 : w1.heap[k]? = w.heap[k]?) (hat : v.ownBlock = some g ∨ w.heap.size ≤ g) :
    Wrote T E k r (xs ++ zs) w (w2.setCell ⟨k, 0, none⟩ (.slice (some ⟨g, 0, none⟩) (xs ++ zs).length cap)) := by
  have hlt : k < w.heap.size := lt_of_block hb
  have hne : some k ≠ v.ownBlock := fun e => by have := (hown.lt k e.symm).1; omega
  have hkb : w2.heap[k]? = some (.cells #[v] T (0, 0)) := by
    rw [hg.block k (Nat.lt_of_lt_of_le hlt hk1.size) hne, hw1, hb]
  have hgk : (k + 1) ≤ g := by
    have := h1.lt g rfl; omega
  refine ⟨some g, ⟨_, one_setCell hkb, ownsRow_setCell_other h1 (by simp [Value.ownBlock]; omega) _, rfl⟩, ?_, ?_⟩
  · refine Keep.setCell ?_ _
    refine Keep.grown (b := w1) ⟨hk1.os, hk1.tape, hk1.output, hk1.size, fun j hj hk' _ => hk1.block j hj hk' (by simp)⟩ (hv ▸ hg)
  · rcases hat with h | h
    · exact .inl (by rw [← hv, h])
    · exact .inr ⟨g, rfl, h⟩

/-- What stands in a block that an append to another row leaves alone. -/
theorem block_grown {w w1 w2 : World} {row : Option Nat} {k : Nat} {o : Obj} (hb : w.heap[k]? = some o) (h1 : ∀ j, j < w.heap.size → w1.heap[j]? = w.heap[j]?) (hs : w.heap.size ≤ w1.heap.size) (hg : w1.grownBy w2 row) (hne : some k ≠ row) : w2.heap[k]? = some o := by
  have hlt := lt_of_block hb
  rw [hg.block k (Nat.lt_of_lt_of_le hlt hs) hne, h1 k hlt, hb]

theorem own_ne {w : World} {k : Nat} {E : TypeId} {v : Value} {n : Nat} {xs : List Value} (h : w.ownsRow (k + 1) E 1 v n xs) : some k ≠ v.ownBlock := fun e => by
  have := (h.lt k e.symm).1; omega

/-- One byte appended (it lies in a new block first) and the slice stored back. -/
theorem wr_push {T E : TypeId} {k : Nat} {r : Option Nat} {xs : List UInt8} {w w2 : World} {v : Value} {g cap : Nat} {X : Obj} {B : Value} (b : UInt8) (hB : B = .int .u8 b.toNat)
    (hb : w.heap[k]? = some (.cells #[v] T (0, 0))) (hv : v.ownBlock = r) (hown : w.ownsRow (k + 1) E 1 v xs.length (bc xs))
    (h1 : w2.ownsRow (k + 1) E 1 (.slice (some ⟨g, 0, none⟩) (xs.length + 1) cap) (xs.length + 1) (bc xs ++ [B])) (hg : (w.alloc X).drew.grownBy w2 v.ownBlock) (hat : v.ownBlock = some g ∨ g = w.heap.size + 1) :
    Wrote T E k r (xs ++ [b]) w (w2.setCell ⟨k, 0, none⟩ (.slice (some ⟨g, 0, none⟩) (xs.length + 1) cap)) := by
  have hlt := lt_of_block hb
  have e : (xs ++ [b]).length = xs.length + 1 := by simp
  have h := wrote_step (zs := [b]) hb hv hown (((Keep.refl k none w).alloc X).drew) (w2 := w2) (g := g) (cap := cap) (by rw [e, bc_append, show bc [b] = [B] from by rw [hB]; rfl]; exact h1) hg (Below.heap_alloc w X k hlt)
    (hat.imp id (fun h => by omega))
  rw [e] at h
  exact h

theorem wr_push0 {T E : TypeId} {k : Nat} {r : Option Nat} {xs : List UInt8} {w w2 : World} {v : Value} {g cap : Nat} {X : Obj}
    (hb : w.heap[k]? = some (.cells #[v] T (0, 0))) (hv : v.ownBlock = r) (hown : w.ownsRow (k + 1) E 1 v xs.length (bc xs))
    (h1 : w2.ownsRow (k + 1) E 1 (.slice (some ⟨g, 0, none⟩) (xs.length + 1) cap) (xs.length + 1) (bc xs ++ [.int .u8 0])) (hg : (w.alloc X).grownBy w2 v.ownBlock) (hat : v.ownBlock = some g ∨ g = w.heap.size + 1) :
    Wrote T E k r (xs ++ [0]) w (w2.setCell ⟨k, 0, none⟩ (.slice (some ⟨g, 0, none⟩) (xs.length + 1) cap)) :=
  wr_push 0 rfl hb hv hown h1 ⟨hg.os, hg.tape, hg.output, hg.size, hg.block⟩ hat

theorem Wr.lt {T E : TypeId} {k : Nat} {r : Option Nat} {xs : List UInt8} {w : World} (h : Wr T E k r xs w) : k < w.heap.size ∧ ∀ j, r = some j → k < j ∧ j < w.heap.size := by
  obtain ⟨v, hb, hown, hv⟩ := h
  refine ⟨lt_of_block hb, fun j hj => ?_⟩
  have := hown.lt j (hv.trans hj)
  omega

/-- A new block leaves a writer as it was. -/
theorem Wr.alloc {T E : TypeId} {k : Nat} {r : Option Nat} {xs : List UInt8} {w : World} (h : Wr T E k r xs w) (o : Obj) : Wr T E k r xs (w.alloc o) := by
  obtain ⟨v, hb, hown, hv⟩ := h
  exact ⟨v, (Below.heap_alloc w o k (lt_of_block hb)).trans hb, hown.alloc o, hv⟩

theorem Wr.drew {T E : TypeId} {k : Nat} {r : Option Nat} {xs : List UInt8} {w : World} (h : Wr T E k r xs w) : Wr T E k r xs w.drew := h

/-- A block beside the writer is as it was. -/
theorem Keep.same {k : Nat} {r : Option Nat} {a b : World} (h : Keep k r a b) {j : Nat} {o : Obj} (hj : a.heap[j]? = some o) (hk : j ≠ k) (hr : some j ≠ r) : b.heap[j]? = some o :=
  (h.block j (lt_of_block hj) hk hr).trans hj

/-- The block that was new ahead of a writer's method is as it was behind it. -/
theorem Wrote.fresh {T E : TypeId} {k : Nat} {r : Option Nat} {xs ys : List UInt8} {w w' : World} {o : Obj} (h : Wr T E k r xs w) (g : Wrote T E k r ys (w.alloc o) w') : w'.heap[w.heap.size]? = some o := by
  obtain ⟨r', _, hk, _⟩ := g
  refine hk.same (heap_alloc_new w o) (by have := h.lt.1; omega) (fun e => ?_)
  have := (h.lt.2 _ e.symm).2
  omega

theorem Wrote.of_alloc {T E : TypeId} {k : Nat} {r : Option Nat} {ys : List UInt8} {w w' : World} {o : Obj} (g : Wrote T E k r ys (w.alloc o) w') : Wrote T E k r ys w w' := by
  obtain ⟨r', hw, hk, hr⟩ := g
  refine ⟨r', hw, ⟨hk.os, hk.tape, hk.output, Nat.le_trans (by simp) hk.size, fun j hj hk' hr' => (hk.block j (by simp; omega) hk' hr').trans (Below.heap_alloc w o j hj)⟩, hr.imp id fun ⟨j, e, hj⟩ => ⟨j, e, by simp at hj; omega⟩⟩

/-- One method behind the other. -/
theorem Wrote.then {T E : TypeId} {k : Nat} {r : Option Nat} {ys zs : List UInt8} {a b c : World} (h : Wrote T E k r ys a b) (g : ∀ r1, Wr T E k r1 ys b → Wrote T E k r1 zs b c) : Wrote T E k r zs a c := by
  obtain ⟨r1, hw, hk, hr⟩ := h
  exact Wrote.trans hk hr (g r1 hw)

/-- Bytes as a string. -/
def str (xs : List UInt8) : ByteArray := ⟨xs.toArray⟩

theorem str_append (xs ys : List UInt8) : str xs ++ str ys = str (xs ++ ys) := by
  unfold str
  apply ByteArray.ext
  simp

theorem str_data (s : ByteArray) : str s.data.toList = s := by
  unfold str
  apply ByteArray.ext
  simp

theorem str_size (xs : List UInt8) : (str xs).size = xs.length := by simp [str, ByteArray.size]

theorem own_text {P : Program} {w : World} {base : Nat} {e src dst : TypeId} {v : Value} {xs : List UInt8} (h : w.ownsRow base e 1 v xs.length (bc xs)) (hs : P.underlying src = some (.slice e)) (he : P.underlying e = some (.int .u8)) (hd : P.underlying dst = some .string) :
    (convert src dst v).run P w = .ok (.string (str xs)) w := by
  rcases h.2 with ⟨rfl, h0⟩ | ⟨g, cap, cur, rfl, _⟩
  · rw [run_convert_bytes_nil w src e hs he 0 0 dst hd]
    obtain rfl := List.eq_nil_of_length_eq_zero h0
    rfl
  · have hcs := h.cells (g := g) rfl
    have hr := run_convert_bytes_arg (P := P) w src e hs he g 0 xs.length cap (xs.map fun b => (b.toNat : Int)) (by simp) (fun i hi => by
      have := hcs i (.int .u8 (xs[i].toNat)) (by simp [bc, hi])
      have hadd : (⟨g, 0, none⟩ : Addr).add i = ⟨g, 0 + i, none⟩ := by unfold Addr.add; split <;> simp_all
      rw [← hadd, this]
      simp [List.getD, hi]) dst hd
    rw [hr]
    congr 2
    unfold strOfNums str
    congr 2
    rw [List.map_map]
    conv => rhs; rw [← List.map_id xs]
    apply List.map_congr_left
    intro x _
    simp

/-- A call that leaves all that was there alone leaves a writer alone. -/
theorem Wr.below {T E : TypeId} {k : Nat} {r : Option Nat} {xs : List UInt8} {w w1 : World} (h : Wr T E k r xs w) (hb : Below w.heap.size w w1) : Wr T E k r xs w1 := by
  obtain ⟨v, h1, hown, hv⟩ := h
  refine ⟨v, (hb.block k (lt_of_block h1)).trans h1, ?_, hv⟩
  exact hown.kept (row := none) ⟨hb.os, hb.tape, hb.output, hb.size, fun k hk _ => hb.block k hk⟩ (by cases v.ownBlock <;> simp)

theorem strCells_bc (s : ByteArray) : Lib.strCells s = bc s.data.toList := rfl

theorem run_append_string_lies {P : Program} (w : World) (base : Nat) (t u ty e : TypeId) (i : TypeInfo) (ht : P.underlying t = some (.slice e)) (hu : P.underlying u = some .string) (hi : P.info? e = some i) (hz : i.zero = some (.int .u8 0))
    (hsize : i.size = 1) (hby : i.bytes = 1) (v : Value) (n : Nat) (xs : List Value) (hown : w.ownsRow base e 1 v n xs) (s : ByteArray)
    (h63 : n + s.size ≤ maxLen) (hbytes : n + s.size ≤ 140737488355328) (hbase : base ≤ w.heap.size) :
    ∃ v' w', (Builtin.append_ #[t, u] ty #[v, .string s]).run P w = .ok v' w' ∧ w'.ownsRow base e 1 v' (n + s.size) (xs ++ Lib.strCells s) ∧ w.grownBy w' v.ownBlock ∧
      (v'.ownBlock = v.ownBlock ∨ ∃ j, v'.ownBlock = some j ∧ w.heap.size ≤ j) := by
  obtain ⟨v', w', hr, h2, h3, h4⟩ := Lib.run_append_own_string (P := P) w base t u ty e i ht hu hi hz hsize hby v n xs hown s h63 hbytes hbase
  refine ⟨v', w', hr, h2, h3, ?_⟩
  rcases hown.2 with ⟨rfl, rfl⟩ | ⟨g, cap, cur, rfl, hbg, hg, hnc, hcm, hcs, htake⟩
  · obtain ⟨v2, w2, hr2, g2, _, _⟩ := Lib.run_append_own_string (P := P) w w.heap.size t u ty e i ht hu hi hz hsize hby (.slice none 0 0) 0 [] (World.ownsRow_nil _ _ _ _) s h63 hbytes (Nat.le_refl _)
    rw [hr] at hr2
    injection hr2 with e1 e2
    subst e1 e2
    cases hb : v'.ownBlock with
    | none => exact .inl rfl
    | some j => exact .inr ⟨j, rfl, (g2.lt j hb).1⟩
  · by_cases hroom : n + s.size ≤ cap
    · have hcs' : cur.size = cap := by simpa using hcs
      have hr2 := Lib.run_append_room_string (P := P) w t u ty e i ht hu hi hsize g n cap cur hg s hroom (by omega)
      rw [hr] at hr2
      injection hr2 with e1 e2
      subst e1
      exact .inl rfl
    · have hxl : xs.length = n := by simpa using hown.1
      have holds : ∀ j u, xs[j]? = some u → w.cell? ((⟨g, 0, none⟩ : Addr).add j) = some u := hown.cells (g := g) rfl
      simp only [maxLen] at h63
      have hr2 := Lib.run_append_grow_string (P := P) w t u ty e i (.int .u8 0) ht hu hi hz ⟨g, 0, none⟩ n cap xs (by rw [hsize]; simpa using hxl) holds s (by omega) (by omega) (by rw [hby]; exact growslice_fits (by omega) (by omega))
      rw [hr] at hr2
      injection hr2 with e1 e2
      subst e1
      exact .inr ⟨_, rfl, Nat.le_refl _⟩

theorem wpList_append_string_lies {P : Program} (w : World) {ops : Array Oper} {rest : List Oper} {o : Oper} {a : Act} {Q : Exit → Act → World → Prop} (hgd : o.guard = none) (sl x : Operand) (t u : TypeId)
    (ho : o.op = .call { callee := .builtin .append, args := #[sl, x], argTypes := #[t, u] })
    (base : Nat) (e : TypeId) (i : TypeInfo) (ht : P.underlying t = some (.slice e)) (hu : P.underlying u = some .string) (hi : P.info? e = some i) (hz : i.zero = some (.int .u8 0))
    (hsize : i.size = 1) (hby : i.bytes = 1)
    (v : Value) (n : Nat) (xs : List Value) (hs : a.eval sl = v) (hown : w.ownsRow base e 1 v n xs) (s : ByteArray) (hx : a.eval x = .string s)
    (h63 : n + s.size ≤ maxLen) (hbytes : n + s.size ≤ 140737488355328) (hbase : base ≤ w.heap.size)
    (h : ∀ v' w', w'.ownsRow base e 1 v' (n + s.size) (xs ++ Lib.strCells s) → w.grownBy w' v.ownBlock → (v'.ownBlock = v.ownBlock ∨ ∃ j, v'.ownBlock = some j ∧ w.heap.size ≤ j) → wpList P ops Q rest (a.put o.dst v') w') : wpList P ops Q (o :: rest) a w := by
  refine wpList_plain hgd fun K hK => ?_
  obtain ⟨v', w', hr, h2, h3, h4⟩ := run_append_string_lies (P := P) w base t u o.type e i ht hu hi hz hsize hby v n xs hown s h63 hbytes hbase
  unfold Oper.wp execOp
  simp only [ho, resolve, invoke, builtin, Sem.run_bind, Sem.run_pure, Result.andThen_ok, List.map_toArray, List.map_cons, List.map_nil, hs, hx, hr]
  exact hK _ _ (h v' w' h2 h3 h4)

theorem own_slice {w : World} {base : Nat} {e : TypeId} {size : Nat} {v : Value} {n : Nat} {xs : List Value} (h : w.ownsRow base e size v n xs) : ∃ ao cap, v = .slice ao n cap := by
  rcases h.2 with ⟨rfl, rfl⟩ | ⟨g, cap, cur, rfl, _⟩
  · exact ⟨none, 0, rfl⟩
  · exact ⟨some ⟨g, 0, none⟩, cap, rfl⟩

/-- An append of whatever bytes, and the slice stored back. -/
theorem wr_store {T E : TypeId} {k : Nat} {r : Option Nat} {zs : List UInt8} {w w2 : World} {v v' : Value} {n : Nat} {xs : List Value}
    (hb : w.heap[k]? = some (.cells #[v] T (0, 0))) (hv : v.ownBlock = r) (hown : w.ownsRow (k + 1) E 1 v n xs)
    (h1 : w2.ownsRow (k + 1) E 1 v' zs.length (bc zs)) (hg : w.grownBy w2 v.ownBlock) (hat : v'.ownBlock = v.ownBlock ∨ ∃ j, v'.ownBlock = some j ∧ w.heap.size ≤ j) :
    Wrote T E k r zs w (w2.setCell ⟨k, 0, none⟩ v') := by
  have hkb : w2.heap[k]? = some (.cells #[v] T (0, 0)) := block_grown hb (w1 := w) (fun _ _ => rfl) (Nat.le_refl _) hg (own_ne hown)
  refine ⟨v'.ownBlock, ⟨v', one_setCell hkb, ownsRow_setCell_other h1 (fun e => own_ne h1 e.symm) _, rfl⟩, ?_, hv ▸ hat⟩
  exact Keep.setCell (Keep.grown (Keep.refl k r w) (hv ▸ hg)) _

theorem own_string {w : World} {base : Nat} {E : TypeId} {v : Value} {xs : List UInt8} {s : ByteArray} (h : w.ownsRow base E 1 v (xs.length + s.size) (bc xs ++ Lib.strCells s)) :
    w.ownsRow base E 1 v (xs ++ s.data.toList).length (bc (xs ++ s.data.toList)) := by
  rw [bc_append, List.length_append, ← strCells_bc]
  exact h

theorem below_drewN {B : Nat} {w w' : World} (h : Below B w w') (n : Nat) : Below B w (w'.drewN n) := by
  obtain ⟨h1, h2, h3, h4, h5⟩ := h
  exact ⟨h1, h2, h3, h4, h5⟩

end Go.Proofs.Ytfobknppdjiniaa
