/- Lemmas for the laws of index. -/
import Derived.Test.YtngfknplljedeaaGreatZr10
namespace Go.Proofs.YtngfknplljedeaaGreat
open Go.RowKit
section
variable {α : Type}
theorem RowsAt.walk2 {B k : Nat} {f : α → List Value} {v : Value} {xs : List α} {w : World} (h : RowsAt B k f v xs w) : ∃ (ao : Option Addr) (cap b off : Nat), v = .slice ao xs.length cap ∧ xs.length ≤ 9223372036854775807 ∧ xs.length ≤ cap ∧
 ∀ i, i < xs.length → ∃ x, xs[i]? = some x ∧ ao = some ⟨b, off, none⟩ ∧ b < B ∧ w.rangeAt b (off + i * k) (f x) := by
 obtain ⟨ao, cap, b, off, hv, hl, hao, hx⟩ := h
 exact ⟨ao, cap, b, off, hv, hl.1, hl.2, fun i hi => ⟨xs[i], List.getElem?_eq_getElem hi, (hao (by omega)).1, (hao (by omega)).2, hx i _ (List.getElem?_eq_getElem hi)⟩⟩
end
end Go.Proofs.YtngfknplljedeaaGreat
namespace Go.Proofs.YtngfknplljedeaaGreat
open Go.Joins Go.ChangeShapes Go.WideShapes Go.RowKit Go.Deep
section
variable {H : Type} {enc : TypeId × Value → H} {w : World} {base : Nat} {held : Bool}
set_option maxRecDepth 100000 in
theorem trod_ch {fuel : Nat} {cs : List Value} {x : DataW H × List MemPlace} (h : DataW.trod enc Tryz.prog w base (fun _ => true) held fuel 40 cs = some x) : ∃ y : Ch, cs = y.vs ∧ y.num := by
 obtain ⟨xs, n, _, hx, hl, hlen, hg⟩ := DataW.trod_struct Tryz.underlying40 h
 have h3 : cs.length = 18 := hl.trans (by kernel_rfl)
 match cs, h3 with
 | [c0, c1, c2, c3, c4, c5, d0, d1, d2, d3, d4, d5, d6, d7, d8, d9, c6, c7], _ =>
  have k1 : Tryz.prog.cellsOf 3 = 1 := by kernel_rfl
  have k2 : Tryz.prog.cellsOf 9 = 1 := by kernel_rfl
  have k3 : Tryz.prog.cellsOf 38 = 10 := by kernel_rfl
  have g0 := trod_at (i := 0) (off := 0) (ti := 3) (by kernel_rfl) k1 hg
  have g1 := trod_at (i := 1) (off := 1) (ti := 3) (by kernel_rfl) k1 hg
  have g2 := trod_at (i := 2) (off := 2) (ti := 3) (by kernel_rfl) k1 hg
  have g3 := trod_at (i := 3) (off := 3) (ti := 9) (by kernel_rfl) k2 hg
  have g4 := trod_at (i := 4) (off := 4) (ti := 9) (by kernel_rfl) k2 hg
  have g5 := trod_at (i := 5) (off := 5) (ti := 9) (by kernel_rfl) k2 hg
  have g6 := trod_at (i := 6) (off := 6) (ti := 38) (by kernel_rfl) k3 hg
  have g7 := trod_at (i := 7) (off := 16) (ti := 3) (by kernel_rfl) k1 hg
  have g8 := trod_at (i := 8) (off := 17) (ti := 3) (by kernel_rfl) k1 hg
  have hl3 : xs.length = 9 := hlen
  match xs, hl3 with
  | [y0, y1, y2, y3, y4, y5, y6, y7, y8], _ =>
   simp only [List.drop_zero, List.take_succ_cons, List.take_zero, List.drop_succ_cons, List.take_nil] at g0 g1 g2 g3 g4 g5 g6 g7 g8
   obtain ⟨m0, e0, _, f0⟩ := DataW.trod_int Tryz.underlying3 (g0.trans rfl)
   obtain ⟨m1, e1, _, f1⟩ := DataW.trod_int Tryz.underlying3 (g1.trans rfl)
   obtain ⟨m2, e2, _, f2⟩ := DataW.trod_int Tryz.underlying3 (g2.trans rfl)
   obtain ⟨m3, e3, _, f3⟩ := DataW.trod_string Tryz.underlying9 (g3.trans rfl)
   obtain ⟨m4, e4, _, f4⟩ := DataW.trod_string Tryz.underlying9 (g4.trans rfl)
   obtain ⟨m5, e5, _, f5⟩ := DataW.trod_string Tryz.underlying9 (g5.trans rfl)
   obtain ⟨a, e6, f6⟩ := trod_attr (g6.trans rfl)
   obtain ⟨m7, e7, _, f7⟩ := DataW.trod_int Tryz.underlying3 (g7.trans rfl)
   obtain ⟨m8, e8, _, f8⟩ := DataW.trod_int Tryz.underlying3 (g8.trans rfl)
   simp only [List.cons.injEq, and_true] at e0 e1 e2 e3 e4 e5 e7 e8
   subst e0 e1 e2 e3 e4 e5 e7 e8
   unfold maxLen at f3 f4 f5
   unfold Pa.vs at e6
   simp only [List.cons.injEq, and_true] at e6
   obtain ⟨q0, q1, q2, q3, q4, q5, q6, q7, q8, q9⟩ := e6
   subst q0 q1 q2 q3 q4 q5 q6 q7 q8 q9
   exact ⟨⟨m0, m1, m2, m3, m4, m5, a, m7, m8⟩, rfl, i64_of f0, i64_of f1, i64_of f2, f3, f4, f5, f6, i64_of f7, i64_of f8⟩
theorem open_chs {fuel : Nat} {u : Value} {x : DataW H × List MemPlace} (h : DataW.trod enc Tryz.prog w base (fun _ => true) held fuel 33 [u] = some x) : ∃ xs : List Ch, RowsAt w.heap.size 18 Ch.vs u xs w ∧ ∀ y ∈ xs, y.num :=
 rows_of Ch.vs_length Tryz.underlying33 (by kernel_rfl) (by omega) (fun h => trod_ch h) h
end
end Go.Proofs.YtngfknplljedeaaGreat
