/- Lemmas for the laws of index. -/
import Derived.Deep.AppendLies
import Derived.Deep.Draws
import Derived.Deep.RegionLaw
import Derived.Lib.AppendStr
import Derived.Lib.Hide
import Derived.WalkKit
namespace Go.Proofs.YtngfknplljedeaaGreat
open Go.RowKit
def bc (xs : List UInt8) : List Value := xs.map fun b => Value.int .u8 b.toNat
theorem own_slice {w : World} {base : Nat} {e : TypeId} {size : Nat} {v : Value} {n : Nat} {xs : List Value} (h : w.ownsRow base e size v n xs) : ∃ ao cap, v = .slice ao n cap := by
 rcases h.2 with ⟨rfl, rfl⟩ | ⟨g, cap, cur, rfl, _⟩
 · exact ⟨none, 0, rfl⟩
 · exact ⟨some ⟨g, 0, none⟩, cap, rfl⟩
theorem below_drewN {B : Nat} {w w' : World} (h : Below B w w') (n : Nat) : Below B w (w'.drewN n) := by
 obtain ⟨h1, h2, h3, h4, h5⟩ := h
 exact ⟨h1, h2, h3, h4, h5⟩
structure Frm (F : Nat → Prop) (w w' : World) : Prop where
 os : w'.os = w.os
 tape : w'.tape = w.tape
 output : w'.output = w.output
 size : w.heap.size ≤ w'.heap.size
 block : ∀ j, j < w.heap.size → ¬ F j → w'.heap[j]? = w.heap[j]?
def Grow (F : Nat → Prop) (w w' : World) : Nat → Prop := fun j => F j ∨ (w.heap.size ≤ j ∧ j < w'.heap.size)
theorem Frm.refl (F : Nat → Prop) (w : World) : Frm F w w := ⟨rfl, rfl, rfl, Nat.le_refl _, fun _ _ _ => rfl⟩
theorem Frm.trans {F : Nat → Prop} {a b c : World} (h : Frm F a b) (g : Frm (Grow F a b) b c) : Frm F a c :=
 ⟨g.os.trans h.os, g.tape.trans h.tape, g.output.trans h.output, Nat.le_trans h.size g.size, fun j hj hf => (g.block j (Nat.lt_of_lt_of_le hj h.size) (fun e => by rcases e with e | e; exact hf e; omega)).trans (h.block j hj hf)⟩
theorem Frm.wide {F G : Nat → Prop} {a b : World} (h : Frm F a b) (hg : ∀ j, F j → G j) : Frm G a b := ⟨h.os, h.tape, h.output, h.size, fun j hj hn => h.block j hj fun e => hn (hg j e)⟩
theorem Frm.next {F : Nat → Prop} {a b c : World} (h : Frm F a b) (g : Frm F b c) : Frm F a c := h.trans (g.wide fun _ e => .inl e)
theorem Frm.alloc {F : Nat → Prop} {a b : World} (h : Frm F a b) (o : Obj) : Frm F a (b.alloc o) :=
 h.next ⟨rfl, rfl, rfl, by simp, fun j hj _ => Below.heap_alloc b o j hj⟩
theorem Frm.drew {F : Nat → Prop} {a b : World} (h : Frm F a b) : Frm F a b.drew := ⟨h.os, h.tape, h.output, h.size, h.block⟩
theorem Frm.setCell {F : Nat → Prop} {a b : World} (h : Frm F a b) {p : Addr} (hp : F p.block ∨ a.heap.size ≤ p.block) (u : Value) : Frm F a (b.setCell p u) :=
 h.trans ⟨rfl, rfl, rfl, by simp [World.setCell], fun j hj hn => Below.heap_setCell _ _ _ _ (fun e => hn (by subst e; rcases hp with hp | hp; exact .inl hp; exact .inr ⟨hp, hj⟩))⟩
theorem Frm.grown {F : Nat → Prop} {a b c : World} {row : Option Nat} (h : Frm F a b) (hg : b.grownBy c row) (hr : ∀ k, row = some k → F k ∨ a.heap.size ≤ k) : Frm F a c :=
 h.trans ⟨hg.os, hg.tape, hg.output, hg.size, fun j hj hn => hg.block j hj (fun e => hn (by rcases hr j e.symm with hp | hp; exact .inl hp; exact .inr ⟨hp, hj⟩))⟩
theorem Frm.of_below {F : Nat → Prop} {a b : World} (h : Below a.heap.size a b) : Frm F a b := ⟨h.os, h.tape, h.output, h.size, fun j hj _ => h.block j hj⟩
theorem Frm.below {F : Nat → Prop} {a b : World} {B : Nat} (h : Frm F a b) (hB : B ≤ a.heap.size) (hF : ∀ j, F j → B ≤ j) : Below B a b :=
 ⟨h.os, h.tape, h.output, h.size, fun j hj => h.block j (by omega) (fun e => by have := hF j e; omega)⟩
theorem Frm.st {F : Nat → Prop} {a b : World} (h : Frm F a b) {k : Nat} {o : Obj} (hk : a.heap[k]? = some o) (hf : ¬ F k) : b.heap[k]? = some o := (h.block k (lt_of_block hk) hf).trans hk
theorem Frm.own {F : Nat → Prop} {a b : World} (h : Frm F a b) {B : Nat} {e : TypeId} {size : Nat} {v : Value} {n : Nat} {xs : List Value} (ho : a.ownsRow B e size v n xs) (hf : ∀ k, v.ownBlock = some k → ¬ F k) : b.ownsRow B e size v n xs := by
 refine ⟨ho.1, ?_⟩
 rcases ho.2 with hn | ⟨g, cap, cur, rfl, hb, hgg, rest⟩
 · exact .inl hn
 · exact .inr ⟨g, cap, cur, rfl, hb, (h.block g (lt_of_block hgg) (hf g rfl)).trans hgg, rest⟩
theorem Frm.cell {F : Nat → Prop} {a b : World} (h : Frm F a b) {q : Addr} (hq : q.block < a.heap.size) (hf : ¬ F q.block) : b.cell? q = a.cell? q := World.cell?_of_block (w := a) (h.block q.block hq hf)
def St (T : TypeId) (k : Nat) (cs : Array Value) (w : World) : Prop := w.heap[k]? = some (.cells cs T (0, 0))
theorem St.cell {T : TypeId} {k : Nat} {cs : Array Value} {w : World} (h : St T k cs w) {j : Nat} {v : Value} (hj : cs[j]? = some v) : w.cell? ⟨k, j, none⟩ = some v := by
 unfold St at h
 simp [World.cell?, h, hj]
theorem St.free {T : TypeId} {k : Nat} {cs : Array Value} {w : World} (h : St T k cs w) (j : Nat) : w.frozen? ⟨k, j, none⟩ = false := by
 unfold St at h
 simp [World.frozen?, h]
theorem St.set {T : TypeId} {k : Nat} {cs : Array Value} {w : World} (h : St T k cs w) (j : Nat) (v : Value) : St T k (cs.setIfInBounds j v) (w.setCell ⟨k, j, none⟩ v) := by
 have hlt := lt_of_block h
 unfold St at h ⊢
 have h' : w.heap[k] = .cells cs T (0, 0) := by simpa [Array.getElem?_eq_getElem hlt] using h
 show (w.heap.modify k _)[k]? = _
 rw [Array.getElem?_eq_getElem (by simpa using hlt), Array.getElem_modify_self, h']
 rfl
theorem St.lt {T : TypeId} {k : Nat} {cs : Array Value} {w : World} (h : St T k cs w) : k < w.heap.size := lt_of_block h
theorem St.below {T : TypeId} {k : Nat} {cs : Array Value} {w w' : World} (h : St T k cs w) (hb : Below w.heap.size w w') : St T k cs w' :=
 (hb.block k h.lt).trans h
theorem St.alloc {T : TypeId} {k : Nat} {cs : Array Value} {w : World} (h : St T k cs w) (o : Obj) : St T k cs (w.alloc o) := by
 have hlt := h.lt
 unfold St at h ⊢
 exact (Below.heap_alloc w o k hlt).trans h
theorem St.new (w : World) (T : TypeId) (cs : Array Value) : St T w.heap.size cs (w.alloc (.cells cs T (0, 0))) := by
 unfold St
 exact heap_alloc_new w _
theorem St.load {P : Program} {T ty : TypeId} {k : Nat} {cs : Array Value} {w : World} {d : TypeDesc} (h : St T k cs w) (hu : P.underlying ty = some d) (hd : (match d with | .struct _ | .array _ _ => true | _ => false) = true)
 (hi : (P.info? ty).map (·.size) = some cs.size) : (loadVar ty ⟨k, 0, none⟩).run P w = .ok (.agg cs) w := run_loadVar_row w k T ty cs (0, 0) d h hu hd hi
theorem St.other {T : TypeId} {k : Nat} {cs : Array Value} {w : World} (h : St T k cs w) (j i : Nat) (v : Value) (hj : j ≠ k) : St T k cs (w.setCell ⟨j, i, none⟩ v) := by
 unfold St at h ⊢
 exact (Below.heap_setCell w _ v k (fun e => hj e.symm)).trans h
theorem ret_cell {P : Program} {fn : Func} {R : Ending → World → Prop} {a : Act} {w : World} {r : Nat} {T ty : TypeId} {k : Nat} {cs : Array Value} {d : TypeDesc} (hfn : fn.results = #[.cell r ty]) (hr : a.tmps.getD r undef = .pointer (some ⟨k, 0, none⟩)) (h : St T k cs w)
 (hu : P.underlying ty = some d) (hd : (match d with | .struct _ | .array _ _ => true | _ => false) = true) (hi : (P.info? ty).map (·.size) = some cs.size) (hdf : a.defers = []) (hR : R (.returned (.agg cs)) w) : bodyPost P fn R .ret a w := by
 refine bodyPost_ret (v := .agg cs) ?_ hdf hR
 have hl := h.load (P := P) hu hd hi
 rw [Array.getD_eq_getD_getElem?] at hr
 have hp : ∀ (x : Addr) (w : World), (asAddr (.pointer (some x))).run P w = .ok x w := fun _ _ => rfl
 unfold results
 rw [hfn]
 simp [Sem.run_bind, hr, hp, hl, Result.andThen]
end Go.Proofs.YtngfknplljedeaaGreat
