/- Caches and changes as arguments. -/
import Derived.Test.YtfobknppdjiniaaVa
namespace Go.Proofs.Ytfobknppdjiniaa
open Go.Joins Go.ChangeShapes Go.WideShapes Go.RowKit Go.Deep

section
variable {H : Type} {enc : TypeId × Value → H} {P : Program} {w : World} {base : Nat} {held : Bool}
theorem slice_cell {t e : TypeId} {fuel : Nat} {u : Value} {x : DataW H × List MemPlace} (ht : P.underlying t = some (.slice e)) (h : DataW.trod enc P w base (fun _ => true) held fuel t [u] = some x) : ∃ a len cap, u = .slice a len cap := by
  rcases open_slice ht h with ⟨hcs, _⟩ | ⟨a, len, cap, m, nf, D, Pl, hcs, _⟩
  · simp at hcs
    exact ⟨none, 0, 0, hcs⟩
  · simp at hcs
    exact ⟨_, _, _, hcs⟩
/-- A slice of structs, element by element. -/
theorem rows_of {α : Type} {f : α → List Value} {num : α → Prop} {t e : TypeId} {fuel k : Nat} {u : Value} {x : DataW H × List MemPlace} (hf : ∀ x : α, (f x).length = k) (ht : P.underlying t = some (.slice e)) (hC : P.cellsOf e = k) (hk : 0 < k)
    (E : ∀ {fuel : Nat} {cs : List Value} {x : DataW H × List MemPlace}, DataW.trod enc P w base (fun _ => true) held fuel e cs = some x → ∃ y : α, cs = f y ∧ num y)
    (h : DataW.trod enc P w base (fun _ => true) held fuel t [u] = some x) : ∃ xs : List α, RowsAt w.heap.size k f u xs w ∧ ∀ y ∈ xs, num y := by
  have hv := slice_cell ht h
  have hcap : ∀ a n c, u = .slice a n c → n ≤ c := fun a n c e => by
    rcases open_slice ht h with ⟨hcs, _⟩ | ⟨a', len', cap', m, nf, D, Pl, hcs, hb, hl, _⟩
    · simp at hcs; rw [hcs] at e; cases e; exact Nat.le_refl _
    · simp at hcs; rw [hcs] at e; cases e; exact hl
  obtain ⟨ao, n, cap, b, off, rfl, hn, hao, hc⟩ := open_rows (P := P) (k := k) (R := fun cs => ∃ y : α, cs = f y ∧ num y) ht hC hk (fun {fuel cs x} h => E h) hv (by obtain ⟨_, _, _, rfl⟩ := hv; exact h)
  obtain ⟨xs, hl, hx⟩ := exists_list n (fun i (y : α) => w.rangeAt b (off + i * k) (f y) ∧ num y) fun i hi => by
    obtain ⟨cs, hcl, ⟨y, rfl, hp⟩, hj⟩ := hc i hi
    refine ⟨y, fun j u hu => ?_, hp⟩
    have hjk : j < k := by have := (List.getElem?_eq_some_iff.1 hu).1; rwa [hf] at this
    rw [Nat.add_assoc, hj j hjk]
    exact hu
  refine ⟨xs, ⟨ao, cap, b, off, by rw [hl], ⟨by have := hn.1; omega, by rw [hl]; exact hcap _ _ _ rfl⟩, fun h0 => ⟨(hao (by omega)).1, (hao (by omega)).2⟩, fun i y hi => (hx i y hi).1⟩, fun y hy => ?_⟩
  obtain ⟨i, hi⟩ := List.mem_iff_getElem?.1 hy
  exact (hx i y hi).2
end
section
variable {H : Type} {enc : TypeId × Value → H} {w : World} {base : Nat} {held : Bool}
theorem trod_attr {fuel : Nat} {cs : List Value} {x : DataW H × List MemPlace} (h : DataW.trod enc Try.prog w base (fun _ => true) held fuel 37 cs = some x) : ∃ a : Pa, cs = a.vs ∧ a.num := by
  obtain ⟨a, h1, _, h2⟩ := trod_pa Try.underlying37 (ti := 3) (by kernel_rfl) Try.underlying3 (by kernel_rfl) (by kernel_rfl) h
  exact ⟨a, h1, h2⟩
set_option maxRecDepth 100000 in
theorem trod_hd {fuel : Nat} {cs : List Value} {x : DataW H × List MemPlace} (h : DataW.trod enc Try.prog w base (fun _ => true) held fuel 41 cs = some x) : ∃ y : Hd, cs = y.vs ∧ y.num := by
  obtain ⟨xs, n, _, hx, hl, hlen, hg⟩ := DataW.trod_struct Try.underlying41 h
  have h3 : cs.length = 3 := hl.trans (by kernel_rfl)
  match cs, h3 with
  | [c0, c1, c2], _ =>
    have k1 : Try.prog.cellsOf 3 = 1 := by kernel_rfl
    have k2 : Try.prog.cellsOf 9 = 1 := by kernel_rfl
    have g0 := trod_at (i := 0) (off := 0) (ti := 3) (by kernel_rfl) k1 hg
    have g1 := trod_at (i := 1) (off := 1) (ti := 3) (by kernel_rfl) k1 hg
    have g2 := trod_at (i := 2) (off := 2) (ti := 9) (by kernel_rfl) k2 hg
    have hl3 : xs.length = 3 := hlen
    match xs, hl3 with
    | [y0, y1, y2], _ =>
      simp only [List.drop_zero, List.take_succ_cons, List.take_zero, List.drop_succ_cons] at g0 g1 g2
      obtain ⟨m0, e0, _, f0⟩ := DataW.trod_int Try.underlying3 (g0.trans rfl)
      obtain ⟨m1, e1, _, f1⟩ := DataW.trod_int Try.underlying3 (g1.trans rfl)
      obtain ⟨m2, e2, _, f2⟩ := DataW.trod_string Try.underlying9 (g2.trans rfl)
      simp only [List.cons.injEq, and_true] at e0 e1 e2
      subst e0 e1 e2
      unfold maxLen at f2
      exact ⟨⟨m0, m1, m2⟩, rfl, i64_of f0, i64_of f1, f2⟩
set_option maxRecDepth 100000 in
theorem trod_kn {fuel : Nat} {cs : List Value} {x : DataW H × List MemPlace} (h : DataW.trod enc Try.prog w base (fun _ => true) held fuel 45 cs = some x) : ∃ y : Kn, cs = y.vs ∧ y.num := by
  obtain ⟨xs, n, _, hx, hl, hlen, hg⟩ := DataW.trod_struct Try.underlying45 h
  have h3 : cs.length = 3 := hl.trans (by kernel_rfl)
  match cs, h3 with
  | [c0, c1, c2], _ =>
    have k2 : Try.prog.cellsOf 9 = 1 := by kernel_rfl
    have g0 := trod_at (i := 0) (off := 0) (ti := 9) (by kernel_rfl) k2 hg
    have g1 := trod_at (i := 1) (off := 1) (ti := 9) (by kernel_rfl) k2 hg
    have g2 := trod_at (i := 2) (off := 2) (ti := 9) (by kernel_rfl) k2 hg
    have hl3 : xs.length = 3 := hlen
    match xs, hl3 with
    | [y0, y1, y2], _ =>
      simp only [List.drop_zero, List.take_succ_cons, List.take_zero, List.drop_succ_cons] at g0 g1 g2
      obtain ⟨m0, e0, _, f0⟩ := DataW.trod_string Try.underlying9 (g0.trans rfl)
      obtain ⟨m1, e1, _, f1⟩ := DataW.trod_string Try.underlying9 (g1.trans rfl)
      obtain ⟨m2, e2, _, f2⟩ := DataW.trod_string Try.underlying9 (g2.trans rfl)
      simp only [List.cons.injEq, and_true] at e0 e1 e2
      subst e0 e1 e2
      unfold maxLen at f0 f1 f2
      exact ⟨⟨m0, m1, m2⟩, rfl, f0, f1, f2⟩
set_option maxRecDepth 100000 in
theorem trod_bk {fuel : Nat} {cs : List Value} {x : DataW H × List MemPlace} (h : DataW.trod enc Try.prog w base (fun _ => true) held fuel 47 cs = some x) : ∃ y : Bk, cs = y.vs ∧ y.num := by
  obtain ⟨xs, n, _, hx, hl, hlen, hg⟩ := DataW.trod_struct Try.underlying47 h
  have h3 : cs.length = 3 := hl.trans (by kernel_rfl)
  match cs, h3 with
  | [c0, c1, c2], _ =>
    have k1 : Try.prog.cellsOf 3 = 1 := by kernel_rfl
    have k2 : Try.prog.cellsOf 9 = 1 := by kernel_rfl
    have g0 := trod_at (i := 0) (off := 0) (ti := 9) (by kernel_rfl) k2 hg
    have g1 := trod_at (i := 1) (off := 1) (ti := 3) (by kernel_rfl) k1 hg
    have g2 := trod_at (i := 2) (off := 2) (ti := 3) (by kernel_rfl) k1 hg
    have hl3 : xs.length = 3 := hlen
    match xs, hl3 with
    | [y0, y1, y2], _ =>
      simp only [List.drop_zero, List.take_succ_cons, List.take_zero, List.drop_succ_cons] at g0 g1 g2
      obtain ⟨m0, e0, _, f0⟩ := DataW.trod_string Try.underlying9 (g0.trans rfl)
      obtain ⟨m1, e1, _, f1⟩ := DataW.trod_int Try.underlying3 (g1.trans rfl)
      obtain ⟨m2, e2, _, f2⟩ := DataW.trod_int Try.underlying3 (g2.trans rfl)
      simp only [List.cons.injEq, and_true] at e0 e1 e2
      subst e0 e1 e2
      unfold maxLen at f0
      exact ⟨⟨m0, m1, m2⟩, rfl, f0, i64_of f1, i64_of f2⟩
set_option maxRecDepth 100000 in
theorem trod_cd {fuel : Nat} {cs : List Value} {x : DataW H × List MemPlace} (h : DataW.trod enc Try.prog w base (fun _ => true) held fuel 43 cs = some x) : ∃ y : Cd, cs = y.vs ∧ y.num := by
  obtain ⟨xs, n, _, hx, hl, hlen, hg⟩ := DataW.trod_struct Try.underlying43 h
  have h3 : cs.length = 11 := hl.trans (by kernel_rfl)
  match cs, h3 with
  | [c0, c1, c2, c3, c4, c5, c6, c7, c8, c9, c10], _ =>
    have k1 : Try.prog.cellsOf 37 = 10 := by kernel_rfl
    have k2 : Try.prog.cellsOf 9 = 1 := by kernel_rfl
    have g0 := trod_at (i := 0) (off := 0) (ti := 9) (by kernel_rfl) k2 hg
    have g1 := trod_at (i := 1) (off := 1) (ti := 37) (by kernel_rfl) k1 hg
    have hl3 : xs.length = 2 := hlen
    match xs, hl3 with
    | [y0, y1], _ =>
      simp only [List.drop_zero, List.take_succ_cons, List.take_zero, List.drop_succ_cons, List.take_nil] at g0 g1
      obtain ⟨m0, e0, _, f0⟩ := DataW.trod_string Try.underlying9 (g0.trans rfl)
      obtain ⟨a, e1, f1⟩ := trod_attr (g1.trans rfl)
      simp only [List.cons.injEq, and_true] at e0
      subst e0
      unfold maxLen at f0
      refine ⟨⟨m0, a⟩, ?_, f0, f1⟩
      rw [show ∀ z : Value, [z, c1, c2, c3, c4, c5, c6, c7, c8, c9, c10] = z :: [c1, c2, c3, c4, c5, c6, c7, c8, c9, c10] from fun _ => rfl, e1]
      rfl
set_option maxRecDepth 100000 in
theorem trod_ch {fuel : Nat} {cs : List Value} {x : DataW H × List MemPlace} (h : DataW.trod enc Try.prog w base (fun _ => true) held fuel 39 cs = some x) : ∃ y : Ch, cs = y.vs ∧ y.num := by
  obtain ⟨xs, n, _, hx, hl, hlen, hg⟩ := DataW.trod_struct Try.underlying39 h
  have h3 : cs.length = 18 := hl.trans (by kernel_rfl)
  match cs, h3 with
  | [c0, c1, c2, c3, c4, c5, d0, d1, d2, d3, d4, d5, d6, d7, d8, d9, c6, c7], _ =>
    have k1 : Try.prog.cellsOf 3 = 1 := by kernel_rfl
    have k2 : Try.prog.cellsOf 9 = 1 := by kernel_rfl
    have k3 : Try.prog.cellsOf 37 = 10 := by kernel_rfl
    have g0 := trod_at (i := 0) (off := 0) (ti := 3) (by kernel_rfl) k1 hg
    have g1 := trod_at (i := 1) (off := 1) (ti := 3) (by kernel_rfl) k1 hg
    have g2 := trod_at (i := 2) (off := 2) (ti := 3) (by kernel_rfl) k1 hg
    have g3 := trod_at (i := 3) (off := 3) (ti := 9) (by kernel_rfl) k2 hg
    have g4 := trod_at (i := 4) (off := 4) (ti := 9) (by kernel_rfl) k2 hg
    have g5 := trod_at (i := 5) (off := 5) (ti := 9) (by kernel_rfl) k2 hg
    have g6 := trod_at (i := 6) (off := 6) (ti := 37) (by kernel_rfl) k3 hg
    have g7 := trod_at (i := 7) (off := 16) (ti := 3) (by kernel_rfl) k1 hg
    have g8 := trod_at (i := 8) (off := 17) (ti := 3) (by kernel_rfl) k1 hg
    have hl3 : xs.length = 9 := hlen
    match xs, hl3 with
    | [y0, y1, y2, y3, y4, y5, y6, y7, y8], _ =>
      simp only [List.drop_zero, List.take_succ_cons, List.take_zero, List.drop_succ_cons, List.take_nil] at g0 g1 g2 g3 g4 g5 g6 g7 g8
      obtain ⟨m0, e0, _, f0⟩ := DataW.trod_int Try.underlying3 (g0.trans rfl)
      obtain ⟨m1, e1, _, f1⟩ := DataW.trod_int Try.underlying3 (g1.trans rfl)
      obtain ⟨m2, e2, _, f2⟩ := DataW.trod_int Try.underlying3 (g2.trans rfl)
      obtain ⟨m3, e3, _, f3⟩ := DataW.trod_string Try.underlying9 (g3.trans rfl)
      obtain ⟨m4, e4, _, f4⟩ := DataW.trod_string Try.underlying9 (g4.trans rfl)
      obtain ⟨m5, e5, _, f5⟩ := DataW.trod_string Try.underlying9 (g5.trans rfl)
      obtain ⟨a, e6, f6⟩ := trod_attr (g6.trans rfl)
      obtain ⟨m7, e7, _, f7⟩ := DataW.trod_int Try.underlying3 (g7.trans rfl)
      obtain ⟨m8, e8, _, f8⟩ := DataW.trod_int Try.underlying3 (g8.trans rfl)
      simp only [List.cons.injEq, and_true] at e0 e1 e2 e3 e4 e5 e7 e8
      subst e0 e1 e2 e3 e4 e5 e7 e8
      unfold maxLen at f3 f4 f5
      unfold Pa.vs at e6
      simp only [List.cons.injEq, and_true] at e6
      obtain ⟨q0, q1, q2, q3, q4, q5, q6, q7, q8, q9⟩ := e6
      subst q0 q1 q2 q3 q4 q5 q6 q7 q8 q9
      exact ⟨⟨m0, m1, m2, m3, m4, m5, a, m7, m8⟩, rfl, i64_of f0, i64_of f1, i64_of f2, f3, f4, f5, f6, i64_of f7, i64_of f8⟩
/-- Changes as an argument. -/
theorem open_chs {fuel : Nat} {u : Value} {x : DataW H × List MemPlace} (h : DataW.trod enc Try.prog w base (fun _ => true) held fuel 30 [u] = some x) : ∃ xs : List Ch, RowsAt w.heap.size 18 Ch.vs u xs w ∧ ∀ y ∈ xs, y.num :=
  rows_of Ch.vs_length Try.underlying30 (by kernel_rfl) (by omega) (fun h => trod_ch h) h
set_option maxRecDepth 100000 in
/-- A cache as an argument. -/
theorem trod_ca {fuel : Nat} {cs : List Value} {x : DataW H × List MemPlace} (h : DataW.trod enc Try.prog w base (fun _ => true) held fuel 27 cs = some x) : ∃ c : CA, CAt w.heap.size cs c w ∧ c.num := by
  obtain ⟨xs, n, _, hx, hl, hlen, hg⟩ := DataW.trod_struct Try.underlying27 h
  have h3 : cs.length = 4 := hl.trans (by kernel_rfl)
  match cs, h3 with
  | [c0, c1, c2, c3], _ =>
    have k1 : Try.prog.cellsOf 22 = 1 := by kernel_rfl
    have k2 : Try.prog.cellsOf 23 = 1 := by kernel_rfl
    have k3 : Try.prog.cellsOf 24 = 1 := by kernel_rfl
    have k4 : Try.prog.cellsOf 25 = 1 := by kernel_rfl
    have g0 := trod_at (i := 0) (off := 0) (ti := 22) (by kernel_rfl) k1 hg
    have g1 := trod_at (i := 1) (off := 1) (ti := 23) (by kernel_rfl) k2 hg
    have g2 := trod_at (i := 2) (off := 2) (ti := 24) (by kernel_rfl) k3 hg
    have g3 := trod_at (i := 3) (off := 3) (ti := 25) (by kernel_rfl) k4 hg
    have hl3 : xs.length = 4 := hlen
    match xs, hl3 with
    | [y0, y1, y2, y3], _ =>
      simp only [List.drop_zero, List.take_succ_cons, List.take_zero, List.drop_succ_cons] at g0 g1 g2 g3
      obtain ⟨l0, r0, n0⟩ := rows_of Hd.vs_length Try.underlying22 (by kernel_rfl) (by omega) (fun h => trod_hd h) (g0.trans rfl)
      obtain ⟨l1, r1, n1⟩ := rows_of Cd.vs_length Try.underlying23 (by kernel_rfl) (by omega) (fun h => trod_cd h) (g1.trans rfl)
      obtain ⟨l2, r2, n2⟩ := rows_of Kn.vs_length Try.underlying24 (by kernel_rfl) (by omega) (fun h => trod_kn h) (g2.trans rfl)
      obtain ⟨l3, r3, n3⟩ := rows_of Bk.vs_length Try.underlying25 (by kernel_rfl) (by omega) (fun h => trod_bk h) (g3.trans rfl)
      exact ⟨⟨l0, l1, l2, l3⟩, ⟨c0, c1, c2, c3, rfl, r0, r1, r2, r3⟩, n0, n1, n2, n3⟩
end
end Go.Proofs.Ytfobknppdjiniaa
