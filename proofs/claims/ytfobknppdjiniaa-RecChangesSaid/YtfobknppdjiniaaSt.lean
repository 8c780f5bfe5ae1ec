/- A block of any cells, as one. -/
import Derived.Test.YtfobknppdjiniaaFr
import Derived.Laws.Rows
namespace Go.Proofs.Ytfobknppdjiniaa
open Go.RowKit

/-- Block k holds the cells cs. -/
def St (T : TypeId) (k : Nat) (cs : Array Value) (w : World) : Prop := w.heap[k]? = some (.cells cs T (0, 0))

theorem St.cell {T : TypeId} {k : Nat} {cs : Array Value} {w : World} (h : St T k cs w) {j : Nat} {v : Value} (hj : cs[j]? = some v) : w.cell? ⟨k, j, none⟩ = some v := by
  unfold St at h
  simp [World.cell?, h, hj]
theorem St.free {T : TypeId} {k : Nat} {cs : Array Value} {w : World} (h : St T k cs w) (j : Nat) : w.frozen? ⟨k, j, none⟩ = false := by
  unfold St at h
  simp [World.frozen?, h]
theorem St.set {T : TypeId} {k : Nat} {cs : Array Value} {w : World} (h : St T k cs w) (j : Nat) (v : Value) : St T k (cs.setIfInBounds j v) (w.setCell ⟨k, j, none⟩ v) := by
  have hlt := lt_of_block h
  unfold St at h ⊢
  have h' : w.heap[k] = .cells cs T (0, 0) := by simpa [Array.getElem?_eq_getElem hlt] using h
  show (w.heap.modify k _)[k]? = _
  rw [Array.getElem?_eq_getElem (by simpa using hlt), Array.getElem_modify_self, h']
  rfl
theorem St.lt {T : TypeId} {k : Nat} {cs : Array Value} {w : World} (h : St T k cs w) : k < w.heap.size := lt_of_block h
theorem Keep.put {k : Nat} {a b : World} (h : Keep k none a b) (j : Nat) (v : Value) : Keep k none a (b.setCell ⟨k, j, none⟩ v) :=
  ⟨h.os, h.tape, h.output, by simpa [World.setCell] using h.size, fun i hi hk hr => (Below.heap_setCell b _ v i hk).trans (h.block i hi hk hr)⟩


theorem St.below {T : TypeId} {k : Nat} {cs : Array Value} {w w' : World} (h : St T k cs w) (hb : Below w.heap.size w w') : St T k cs w' :=
  (hb.block k h.lt).trans h
theorem St.alloc {T : TypeId} {k : Nat} {cs : Array Value} {w : World} (h : St T k cs w) (o : Obj) : St T k cs (w.alloc o) := by
  have hlt := h.lt
  unfold St at h ⊢
  exact (Below.heap_alloc w o k hlt).trans h
theorem St.new (w : World) (T : TypeId) (cs : Array Value) : St T w.heap.size cs (w.alloc (.cells cs T (0, 0))) := by
  unfold St
  exact heap_alloc_new w _
theorem St.load {P : Program} {T ty : TypeId} {k : Nat} {cs : Array Value} {w : World} {d : TypeDesc} (h : St T k cs w) (hu : P.underlying ty = some d) (hd : (match d with | .struct _ | .array _ _ => true | _ => false) = true)
    (hi : (P.info? ty).map (·.size) = some cs.size) : (loadVar ty ⟨k, 0, none⟩).run P w = .ok (.agg cs) w := run_loadVar_row w k T ty cs (0, 0) d h hu hd hi

/-- Another block's cell is set: this one is as it was. -/
theorem St.other {T : TypeId} {k : Nat} {cs : Array Value} {w : World} (h : St T k cs w) (j i : Nat) (v : Value) (hj : j ≠ k) : St T k cs (w.setCell ⟨j, i, none⟩ v) := by
  unfold St at h ⊢
  exact (Below.heap_setCell w _ v k (fun e => hj e.symm)).trans h

/-- A function whose one result is a block of cells, returned as it stands. -/
theorem ret_cell {P : Program} {fn : Func} {R : Ending → World → Prop} {a : Act} {w : World} {r : Nat} {T ty : TypeId} {k : Nat} {cs : Array Value} {d : TypeDesc} (hfn : fn.results = #[.cell r ty]) (hr : a.tmps.getD r undef = .pointer (some ⟨k, 0, none⟩)) (h : St T k cs w)
    (hu : P.underlying ty = some d) (hd : (match d with | .struct _ | .array _ _ => true | _ => false) = true) (hi : (P.info? ty).map (·.size) = some cs.size) (hdf : a.defers = []) (hR : R (.returned (.agg cs)) w) : bodyPost P fn R .ret a w := by
  refine bodyPost_ret (v := .agg cs) ?_ hdf hR
  have hl := h.load (P := P) hu hd hi
  rw [Array.getD_eq_getD_getElem?] at hr
  have hp : ∀ (x : Addr) (w : World), (asAddr (.pointer (some x))).run P w = .ok x w := fun _ _ => rfl
  unfold results
  rw [hfn]
  simp [Sem.run_bind, hr, hp, hl, Result.andThen]

end Go.Proofs.Ytfobknppdjiniaa
