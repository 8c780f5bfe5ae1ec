/- Lemmas for the laws of index. -/
import Derived.Test.YtngfknplljedeaaGreatZr10
namespace Go.Proofs.YtngfknplljedeaaGreat
open Go.Joins Go.ChangeShapes Go.WideShapes Go.RowKit Go.Deep
section
variable {H : Type} {enc : TypeId × Value → H} {w : World} {base : Nat} {held : Bool}
set_option maxRecDepth 100000 in
theorem trod_hd {fuel : Nat} {cs : List Value} {x : DataW H × List MemPlace} (h : DataW.trod enc Tryz.prog w base (fun _ => true) held fuel 49 cs = some x) : ∃ y : Hd, cs = y.vs ∧ y.num := by
 obtain ⟨xs, n, _, hx, hl, hlen, hg⟩ := DataW.trod_struct Tryz.underlying49 h
 have h3 : cs.length = 3 := hl.trans (by kernel_rfl)
 match cs, h3 with
 | [c0, c1, c2], _ =>
  have k1 : Tryz.prog.cellsOf 3 = 1 := by kernel_rfl
  have k2 : Tryz.prog.cellsOf 9 = 1 := by kernel_rfl
  have g0 := trod_at (i := 0) (off := 0) (ti := 3) (by kernel_rfl) k1 hg
  have g1 := trod_at (i := 1) (off := 1) (ti := 3) (by kernel_rfl) k1 hg
  have g2 := trod_at (i := 2) (off := 2) (ti := 9) (by kernel_rfl) k2 hg
  have hl3 : xs.length = 3 := hlen
  match xs, hl3 with
  | [y0, y1, y2], _ =>
   simp only [List.drop_zero, List.take_succ_cons, List.take_zero, List.drop_succ_cons] at g0 g1 g2
   obtain ⟨m0, e0, _, f0⟩ := DataW.trod_int Tryz.underlying3 (g0.trans rfl)
   obtain ⟨m1, e1, _, f1⟩ := DataW.trod_int Tryz.underlying3 (g1.trans rfl)
   obtain ⟨m2, e2, _, f2⟩ := DataW.trod_string Tryz.underlying9 (g2.trans rfl)
   simp only [List.cons.injEq, and_true] at e0 e1 e2
   subst e0 e1 e2
   unfold maxLen at f2
   exact ⟨⟨m0, m1, m2⟩, rfl, i64_of f0, i64_of f1, f2⟩
set_option maxRecDepth 100000 in
theorem trod_kn {fuel : Nat} {cs : List Value} {x : DataW H × List MemPlace} (h : DataW.trod enc Tryz.prog w base (fun _ => true) held fuel 61 cs = some x) : ∃ y : Kn, cs = y.vs ∧ y.num := by
 obtain ⟨xs, n, _, hx, hl, hlen, hg⟩ := DataW.trod_struct Tryz.underlying61 h
 have h3 : cs.length = 3 := hl.trans (by kernel_rfl)
 match cs, h3 with
 | [c0, c1, c2], _ =>
  have k2 : Tryz.prog.cellsOf 9 = 1 := by kernel_rfl
  have g0 := trod_at (i := 0) (off := 0) (ti := 9) (by kernel_rfl) k2 hg
  have g1 := trod_at (i := 1) (off := 1) (ti := 9) (by kernel_rfl) k2 hg
  have g2 := trod_at (i := 2) (off := 2) (ti := 9) (by kernel_rfl) k2 hg
  have hl3 : xs.length = 3 := hlen
  match xs, hl3 with
  | [y0, y1, y2], _ =>
   simp only [List.drop_zero, List.take_succ_cons, List.take_zero, List.drop_succ_cons] at g0 g1 g2
   obtain ⟨m0, e0, _, f0⟩ := DataW.trod_string Tryz.underlying9 (g0.trans rfl)
   obtain ⟨m1, e1, _, f1⟩ := DataW.trod_string Tryz.underlying9 (g1.trans rfl)
   obtain ⟨m2, e2, _, f2⟩ := DataW.trod_string Tryz.underlying9 (g2.trans rfl)
   simp only [List.cons.injEq, and_true] at e0 e1 e2
   subst e0 e1 e2
   unfold maxLen at f0 f1 f2
   exact ⟨⟨m0, m1, m2⟩, rfl, f0, f1, f2⟩
set_option maxRecDepth 100000 in
theorem trod_bk {fuel : Nat} {cs : List Value} {x : DataW H × List MemPlace} (h : DataW.trod enc Tryz.prog w base (fun _ => true) held fuel 66 cs = some x) : ∃ y : Bk, cs = y.vs ∧ y.num := by
 obtain ⟨xs, n, _, hx, hl, hlen, hg⟩ := DataW.trod_struct Tryz.underlying66 h
 have h3 : cs.length = 3 := hl.trans (by kernel_rfl)
 match cs, h3 with
 | [c0, c1, c2], _ =>
  have k1 : Tryz.prog.cellsOf 3 = 1 := by kernel_rfl
  have k2 : Tryz.prog.cellsOf 9 = 1 := by kernel_rfl
  have g0 := trod_at (i := 0) (off := 0) (ti := 9) (by kernel_rfl) k2 hg
  have g1 := trod_at (i := 1) (off := 1) (ti := 3) (by kernel_rfl) k1 hg
  have g2 := trod_at (i := 2) (off := 2) (ti := 3) (by kernel_rfl) k1 hg
  have hl3 : xs.length = 3 := hlen
  match xs, hl3 with
  | [y0, y1, y2], _ =>
   simp only [List.drop_zero, List.take_succ_cons, List.take_zero, List.drop_succ_cons] at g0 g1 g2
   obtain ⟨m0, e0, _, f0⟩ := DataW.trod_string Tryz.underlying9 (g0.trans rfl)
   obtain ⟨m1, e1, _, f1⟩ := DataW.trod_int Tryz.underlying3 (g1.trans rfl)
   obtain ⟨m2, e2, _, f2⟩ := DataW.trod_int Tryz.underlying3 (g2.trans rfl)
   simp only [List.cons.injEq, and_true] at e0 e1 e2
   subst e0 e1 e2
   unfold maxLen at f0
   exact ⟨⟨m0, m1, m2⟩, rfl, f0, i64_of f1, i64_of f2⟩
set_option maxRecDepth 100000 in
theorem trod_cd {fuel : Nat} {cs : List Value} {x : DataW H × List MemPlace} (h : DataW.trod enc Tryz.prog w base (fun _ => true) held fuel 57 cs = some x) : ∃ y : Cd, cs = y.vs ∧ y.num := by
 obtain ⟨xs, n, _, hx, hl, hlen, hg⟩ := DataW.trod_struct Tryz.underlying57 h
 have h3 : cs.length = 11 := hl.trans (by kernel_rfl)
 match cs, h3 with
 | [c0, c1, c2, c3, c4, c5, c6, c7, c8, c9, c10], _ =>
  have k1 : Tryz.prog.cellsOf 38 = 10 := by kernel_rfl
  have k2 : Tryz.prog.cellsOf 9 = 1 := by kernel_rfl
  have g0 := trod_at (i := 0) (off := 0) (ti := 9) (by kernel_rfl) k2 hg
  have g1 := trod_at (i := 1) (off := 1) (ti := 38) (by kernel_rfl) k1 hg
  have hl3 : xs.length = 2 := hlen
  match xs, hl3 with
  | [y0, y1], _ =>
   simp only [List.drop_zero, List.take_succ_cons, List.take_zero, List.drop_succ_cons, List.take_nil] at g0 g1
   obtain ⟨m0, e0, _, f0⟩ := DataW.trod_string Tryz.underlying9 (g0.trans rfl)
   obtain ⟨a, e1, f1⟩ := trod_attr (g1.trans rfl)
   simp only [List.cons.injEq, and_true] at e0
   subst e0
   unfold maxLen at f0
   refine ⟨⟨m0, a⟩, ?_, f0, f1⟩
   rw [show ∀ z : Value, [z, c1, c2, c3, c4, c5, c6, c7, c8, c9, c10] = z :: [c1, c2, c3, c4, c5, c6, c7, c8, c9, c10] from fun _ => rfl, e1]
   rfl
set_option maxRecDepth 100000 in
theorem trod_ca {fuel : Nat} {cs : List Value} {x : DataW H × List MemPlace} (h : DataW.trod enc Tryz.prog w base (fun _ => true) held fuel 27 cs = some x) : ∃ c : CA, CAt w.heap.size cs c w ∧ c.num := by
 obtain ⟨xs, n, _, hx, hl, hlen, hg⟩ := DataW.trod_struct Tryz.underlying27 h
 have h3 : cs.length = 4 := hl.trans (by kernel_rfl)
 match cs, h3 with
 | [c0, c1, c2, c3], _ =>
  have k1 : Tryz.prog.cellsOf 22 = 1 := by kernel_rfl
  have k2 : Tryz.prog.cellsOf 23 = 1 := by kernel_rfl
  have k3 : Tryz.prog.cellsOf 24 = 1 := by kernel_rfl
  have k4 : Tryz.prog.cellsOf 25 = 1 := by kernel_rfl
  have g0 := trod_at (i := 0) (off := 0) (ti := 22) (by kernel_rfl) k1 hg
  have g1 := trod_at (i := 1) (off := 1) (ti := 23) (by kernel_rfl) k2 hg
  have g2 := trod_at (i := 2) (off := 2) (ti := 24) (by kernel_rfl) k3 hg
  have g3 := trod_at (i := 3) (off := 3) (ti := 25) (by kernel_rfl) k4 hg
  have hl3 : xs.length = 4 := hlen
  match xs, hl3 with
  | [y0, y1, y2, y3], _ =>
   simp only [List.drop_zero, List.take_succ_cons, List.take_zero, List.drop_succ_cons] at g0 g1 g2 g3
   obtain ⟨l0, r0, n0⟩ := rows_of Hd.vs_length Tryz.underlying22 (by kernel_rfl) (by omega) (fun h => trod_hd h) (g0.trans rfl)
   obtain ⟨l1, r1, n1⟩ := rows_of Cd.vs_length Tryz.underlying23 (by kernel_rfl) (by omega) (fun h => trod_cd h) (g1.trans rfl)
   obtain ⟨l2, r2, n2⟩ := rows_of Kn.vs_length Tryz.underlying24 (by kernel_rfl) (by omega) (fun h => trod_kn h) (g2.trans rfl)
   obtain ⟨l3, r3, n3⟩ := rows_of Bk.vs_length Tryz.underlying25 (by kernel_rfl) (by omega) (fun h => trod_bk h) (g3.trans rfl)
   exact ⟨⟨l0, l1, l2, l3⟩, ⟨c0, c1, c2, c3, rfl, r0, r1, r2, r3⟩, n0, n1, n2, n3⟩
end
end Go.Proofs.YtngfknplljedeaaGreat
