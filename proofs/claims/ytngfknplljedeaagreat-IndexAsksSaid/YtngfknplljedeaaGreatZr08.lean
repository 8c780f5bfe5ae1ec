/- Lemmas for the laws of index. -/
import Derived.Deep.MidRow
import Derived.Deep.WholeRow
import Derived.Test.YtngfknplljedeaaGreatZr01
namespace Go.Proofs.YtngfknplljedeaaGreat
open Go.RowKit
theorem wpList_build_as {P : Program} {ops : Array Oper} {rest : List Oper} {o : Oper} {a : Act} {w : World} {Q : Exit → Act → World → Prop} (hg : o.guard = none) (t : TypeId) (parts : Array (Nat × Operand)) (ho : o.op = .build t parts)
 (row : Array Value) (hf : P.built t (parts.toList.map fun p => (p.1, a.eval p.2)) = some row)
 (h : wpList P ops Q rest (a.put o.dst (.agg row)) w) : wpList P ops Q (o :: rest) a w := by
 have e : (parts.map fun (i, x) => (i, a.eval x)).toList = parts.toList.map fun p => (p.1, a.eval p.2) := by rw [Array.toList_map]
 refine wpList_build hg t parts ho (by rw [e, hf]; rfl) ?_
 rw [e, hf]
 exact h
theorem wpList_buildSlice_as {P : Program} {ops : Array Oper} {rest : List Oper} {o : Oper} {a : Act} {w : World} {Q : Exit → Act → World → Prop} (hg : o.guard = none) (t e : TypeId) (len : Nat) (parts : Array (Nat × Operand)) (ho : o.op = .buildSlice t len parts)
 (vs : Array (Nat × Value)) (row : Array Value) (hv : parts.toList.map (fun p => (p.1, a.eval p.2)) = vs.toList)
 (hrun : ∀ w, (Instr.buildSlice t len vs).run P w = .ok (.slice (some ⟨w.heap.size, 0, none⟩) len len) (w.alloc (.cells row e)))
 (h : wpList P ops Q rest (a.put o.dst (.slice (some ⟨w.heap.size, 0, none⟩) len len)) (w.alloc (.cells row e))) : wpList P ops Q (o :: rest) a w := by
 have e2 : (parts.map fun (i, x) => (i, a.eval x)) = vs := by
  apply Array.toList_inj.1
  rw [← hv, Array.toList_map]
 refine wpList_plain hg fun K hK => ?_
 unfold Oper.wp execOp
 simp only [ho, Sem.run_bind, e2, hrun, Result.andThen_ok]
 exact hK _ _ h
theorem St.row {T : TypeId} {k : Nat} {cs cs' : Array Value} {w : World} (h : St T k cs w) : St T k cs' (w.setRow k cs') := by
 unfold St at h ⊢
 exact setRow_heap w k _ _ T _ h
theorem wpList_store_st {P : Program} {ops : Array Oper} {rest : List Oper} {o : Oper} {a : Act} {w : World} {Q : Exit → Act → World → Prop} (hgd : o.guard = none) (ty : TypeId) (x y : Operand) (ho : o.op = .store ty x y)
 (k : Nat) (cells : Array Value) (hx : a.eval x = .pointer (some ⟨k, 0, none⟩)) (hy : a.eval y = .agg cells) (old : Array Value) (hst : St ty k old w) (hi : (P.info? ty).map (·.size) = some cells.size)
 (hold : old.size = cells.size) (h1 : cells.all (·.oneCell') = true)
 (h : ∀ w', w' = w.setRow k cells → St ty k cells w' → wpList P ops Q rest (a.put o.dst undef) w') : wpList P ops Q (o :: rest) a w :=
 wpList_store_row hgd ty x y ho k cells hx hy ty old hst hi hold h1 (h _ rfl hst.row)
theorem wpList_load_st {P : Program} {ops : Array Oper} {rest : List Oper} {o : Oper} {a : Act} {w : World} {Q : Exit → Act → World → Prop} (hgd : o.guard = none) (ty : TypeId) (x : Operand) (ho : o.op = .load ty x)
 (k : Nat) (hx : a.eval x = .pointer (some ⟨k, 0, none⟩)) (T : TypeId) (cs : Array Value) (hst : St T k cs w) (d : TypeDesc)
 (hu : P.underlying ty = some d) (hd : (match d with | .struct _ | .array _ _ => true | _ => false) = true) (hi : (P.info? ty).map (·.size) = some cs.size)
 (h : wpList P ops Q rest (a.put o.dst (.agg cs)) w) : wpList P ops Q (o :: rest) a w :=
 wpList_load_row hgd ty x ho k hx T cs (0, 0) d hst hu hd hi h
theorem alloc_row (w : World) (c c' : Array Value) (t : TypeId) : (w.alloc (.cells c t)).setRow w.heap.size c' = w.alloc (.cells c' t) := World.setRow_alloc_new w c c' t
theorem ret_cell2 {P : Program} {fn : Func} {R : Ending → World → Prop} {a : Act} {w : World} {r t : Nat} {T ty : TypeId} {k : Nat} {cs : Array Value} {d : TypeDesc} {x : Value} (hfn : fn.results = #[.cell r ty, .tmp t]) (hr : a.tmps.getD r undef = .pointer (some ⟨k, 0, none⟩)) (hx : a.tmps.getD t undef = x)
 (h : St T k cs w) (hu : P.underlying ty = some d) (hd : (match d with | .struct _ | .array _ _ => true | _ => false) = true) (hi : (P.info? ty).map (·.size) = some cs.size) (hdf : a.defers = []) (hR : R (.returned (.tuple #[.agg cs, x])) w) : bodyPost P fn R .ret a w := by
 refine bodyPost_ret (v := .tuple #[.agg cs, x]) ?_ hdf hR
 have hl := h.load (P := P) hu hd hi
 rw [Array.getD_eq_getD_getElem?] at hr hx
 have hp : ∀ (x : Addr) (w : World), (asAddr (.pointer (some x))).run P w = .ok x w := fun _ _ => rfl
 unfold results
 rw [hfn]
 simp [Sem.run_bind, hr, hp, hl, hx, Result.andThen]
theorem St.setRow_other {T : TypeId} {k g : Nat} {cs : Array Value} {w : World} (h : St T k cs w) (hne : k ≠ g) (row : Array Value) : St T k cs (w.setRow g row) := (Go.setRow_other w g k row hne).trans h
theorem below_row {B k : Nat} {a w : World} (h : Below B a w) (hk : B ≤ k) (cs : Array Value) : Below B a (w.setRow k cs) :=
 h.trans ⟨rfl, rfl, rfl, by simp, fun j hj => Go.setRow_other w k j cs (by omega)⟩
theorem wpList_load_stg {P : Program} {ops : Array Oper} {rest : List Oper} {o : Oper} {a : Act} {w : World} {Q : Exit → Act → World → Prop} (hw : Region.wanted o (yielded ops a.tmps) = true) (ty : TypeId) (x : Operand) (ho : o.op = .load ty x)
 (k : Nat) (hx : a.eval x = .pointer (some ⟨k, 0, none⟩)) (T : TypeId) (cs : Array Value) (hst : St T k cs w) (d : TypeDesc)
 (hu : P.underlying ty = some d) (hd : (match d with | .struct _ | .array _ _ => true | _ => false) = true) (hi : (P.info? ty).map (·.size) = some cs.size)
 (h : wpList P ops Q rest (a.put o.dst (.agg cs)) w) : wpList P ops Q (o :: rest) a w :=
 wpList_step fun K hK => by rw [if_pos hw]; exact wp_load_row ty x ho k hx T cs (0, 0) d hst hu hd hi (hK _ _ h)
theorem wpList_load_midg {P : Program} {ops : Array Oper} {rest : List Oper} {o : Oper} {a : Act} {w : World} {Q : Exit → Act → World → Prop} (hw : Region.wanted o (yielded ops a.tmps) = true) (ty : TypeId) (x : Operand) (ho : o.op = .load ty x)
 (b n : Nat) (hx : a.eval x = .pointer (some ⟨b, n, none⟩)) (cs : List Value) (hc : w.rangeAt b n cs) (d : TypeDesc)
 (hu : P.underlying ty = some d) (hd : d.isRow = true) (hi : (P.info? ty).map (·.size) = some cs.length)
 (h : wpList P ops Q rest (a.put o.dst (.agg cs.toArray)) w) : wpList P ops Q (o :: rest) a w :=
 wpList_step fun K hK => by rw [if_pos hw]; exact wp_load_mid ty x ho b n hx cs d hc hu hd hi (hK _ _ h)
theorem wpList_build_asg {P : Program} {ops : Array Oper} {rest : List Oper} {o : Oper} {a : Act} {w : World} {Q : Exit → Act → World → Prop} (hw : Region.wanted o (yielded ops a.tmps) = true) (t : TypeId) (parts : Array (Nat × Operand)) (ho : o.op = .build t parts)
 (row : Array Value) (hf : P.built t (parts.toList.map fun p => (p.1, a.eval p.2)) = some row)
 (h : wpList P ops Q rest (a.put o.dst (.agg row)) w) : wpList P ops Q (o :: rest) a w := by
 have e2 : (parts.map fun (i, x) => (i, a.eval x)).toList = parts.toList.map fun p => (p.1, a.eval p.2) := by rw [Array.toList_map]
 refine wpList_step fun K hK => ?_
 rw [if_pos hw]
 refine wp_build t parts ho (by rw [e2, hf]; rfl) (hK _ _ ?_)
 rw [e2, hf]
 exact h
theorem step_load_row {P : Program} {ops : Array Oper} {o : Oper} {a : Act} {w : World} {K : Act → World → Prop} {Q : Exit → Act → World → Prop} {E : Prop} (hgd : o.guard = none) (ty : TypeId) (x : Operand) (ho : o.op = .load ty x)
 (g : Nat) (hx : a.eval x = .pointer (some ⟨g, 0, none⟩)) (t : TypeId) (cs : Array Value) (fr : Nat × Nat) (d : TypeDesc) (hg : w.heap[g]? = some (.cells cs t fr))
 (hu : P.underlying ty = some d) (hd : (match d with | .struct _ | .array _ _ => true | _ => false) = true) (hi : (P.info? ty).map (·.size) = some cs.size)
 (h : K (a.put o.dst (.agg cs)) w) : if Region.wanted o (yielded ops a.tmps) = true then Oper.wp P o a w K Q else E := by
 rw [if_pos (by simp [Region.wanted, hgd])]
 exact wp_load_row ty x ho g hx t cs fr d hg hu hd hi h
theorem step_store_row {P : Program} {ops : Array Oper} {o : Oper} {a : Act} {w : World} {K : Act → World → Prop} {Q : Exit → Act → World → Prop} {E : Prop} (hgd : o.guard = none) (ty : TypeId) (x y : Operand) (ho : o.op = .store ty x y)
 (g : Nat) (cells : Array Value) (hx : a.eval x = .pointer (some ⟨g, 0, none⟩)) (hy : a.eval y = .agg cells)
 (t : TypeId) (old : Array Value) (hg : w.heap[g]? = some (.cells old t (0, 0))) (hi : (P.info? ty).map (·.size) = some cells.size)
 (hold : old.size = cells.size) (h1 : cells.all (·.oneCell') = true)
 (h : K (a.put o.dst undef) (w.setRow g cells)) : if Region.wanted o (yielded ops a.tmps) = true then Oper.wp P o a w K Q else E := by
 rw [if_pos (by simp [Region.wanted, hgd])]
 exact wp_store_row ty x y ho g cells hx hy t old hg hi hold h1 h
theorem St.new1 (w : World) (o : Obj) (T : TypeId) (cs : Array Value) : St T (w.heap.size + 1) cs ((w.alloc o).alloc (.cells cs T (0, 0))) := by
 have h := St.new (w.alloc o) T cs
 rwa [show (w.alloc o).heap.size = w.heap.size + 1 from by simp] at h
theorem St.new2 (w : World) (o u : Obj) (T : TypeId) (cs : Array Value) : St T (w.heap.size + 1 + 1) cs (((w.alloc o).alloc u).alloc (.cells cs T (0, 0))) := by
 have h := St.new ((w.alloc o).alloc u) T cs
 rwa [show ((w.alloc o).alloc u).heap.size = w.heap.size + 1 + 1 from by simp] at h
end Go.Proofs.YtngfknplljedeaaGreat
