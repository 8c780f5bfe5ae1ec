/- Whole loads and stores as steps of a region that draws; blocks behind one and two other new ones; no function of the program is named here. -/
import Derived.Test.YtimbcombhdgjiaaDoorCw
import Derived.RegionTactic
namespace Go.Proofs.YtimbcombhdgjiaaDoor
open Go.RowKit

theorem St.newAt (w : World) (T : TypeId) (cs : Array Value) (n : Nat) (h : w.heap.size = n) : St T n cs (w.alloc (.cells cs T (0, 0))) := h ▸ St.new w T cs
theorem step_load_row {P : Program} {ops : Array Oper} {o : Oper} {a : Act} {w : World} {K : Act → World → Prop} {Q : Exit → Act → World → Prop} {E : Prop} (hgd : o.guard = none) (ty : TypeId) (x : Operand) (ho : o.op = .load ty x)
    (g : Nat) (hx : a.eval x = .pointer (some ⟨g, 0, none⟩)) (t : TypeId) (cs : Array Value) (fr : Nat × Nat) (d : TypeDesc) (hg : w.heap[g]? = some (.cells cs t fr))
    (hu : P.underlying ty = some d) (hd : (match d with | .struct _ | .array _ _ => true | _ => false) = true) (hi : (P.info? ty).map (·.size) = some cs.size)
    (h : K (a.put o.dst (.agg cs)) w) : if Region.wanted o (yielded ops a.tmps) = true then Oper.wp P o a w K Q else E := by
  rw [if_pos (by simp [Region.wanted, hgd])]
  exact wp_load_row ty x ho g hx t cs fr d hg hu hd hi h
theorem step_store_row {P : Program} {ops : Array Oper} {o : Oper} {a : Act} {w : World} {K : Act → World → Prop} {Q : Exit → Act → World → Prop} {E : Prop} (hgd : o.guard = none) (ty : TypeId) (x y : Operand) (ho : o.op = .store ty x y)
    (g : Nat) (cells : Array Value) (hx : a.eval x = .pointer (some ⟨g, 0, none⟩)) (hy : a.eval y = .agg cells)
    (t : TypeId) (old : Array Value) (hg : w.heap[g]? = some (.cells old t (0, 0))) (hi : (P.info? ty).map (·.size) = some cells.size)
    (hold : old.size = cells.size) (h1 : cells.all (·.oneCell') = true)
    (h : K (a.put o.dst undef) (w.setRow g cells)) : if Region.wanted o (yielded ops a.tmps) = true then Oper.wp P o a w K Q else E := by
  rw [if_pos (by simp [Region.wanted, hgd])]
  exact wp_store_row ty x y ho g cells hx hy t old hg hi hold h1 h
theorem St.new1 (w : World) (o : Obj) (T : TypeId) (cs : Array Value) : St T (w.heap.size + 1) cs ((w.alloc o).alloc (.cells cs T (0, 0))) := by
  have h := St.new (w.alloc o) T cs
  rwa [show (w.alloc o).heap.size = w.heap.size + 1 from by simp] at h
theorem St.new2 (w : World) (o u : Obj) (T : TypeId) (cs : Array Value) : St T (w.heap.size + 1 + 1) cs (((w.alloc o).alloc u).alloc (.cells cs T (0, 0))) := by
  have h := St.new ((w.alloc o).alloc u) T cs
  rwa [show ((w.alloc o).alloc u).heap.size = w.heap.size + 1 + 1 from by simp] at h
end Go.Proofs.YtimbcombhdgjiaaDoor
