/- attr: Apply, the program's. -/
import Derived.Test.YtinhdabfiahjpaaAa
namespace Go.Proofs.Ytinhdabfiahjpaa
open Go.Joins Go.RowKit

def Pa.val (a : Pa) : Value := .agg a.vs.toArray

/-- Attributes, a change and a result, laid one behind the other. -/
def Tri (k : Nat) (av sv rv : Array Value) (w : World) : Prop := St 40 k av w ∧ St 25 (k + 1) sv w ∧ St 40 (k + 1 + 1) rv w
theorem Tri.below {k : Nat} {av sv rv : Array Value} {w w' : World} (h : Tri k av sv rv w) (hb : Below w.heap.size w w') : Tri k av sv rv w' := ⟨h.1.below hb, h.2.1.below hb, h.2.2.below hb⟩
theorem Tri.setA {k : Nat} {av sv rv : Array Value} {w : World} (h : Tri k av sv rv w) (j : Nat) (v : Value) : Tri k (av.setIfInBounds j v) sv rv (w.setCell ⟨k, j, none⟩ v) :=
  ⟨h.1.set j v, h.2.1.other k j v (by omega), h.2.2.other k j v (by omega)⟩
theorem Tri.new (av sv rv : Array Value) (w : World) : Tri w.heap.size av sv rv (((w.alloc (.cells av 40 (0, 0))).alloc (.cells sv 25 (0, 0))).alloc (.cells rv 40 (0, 0))) := by
  refine ⟨((St.new w 40 av).alloc _).alloc _, (St.new2 w _ 25 sv).alloc _, ?_⟩
  have := St.new2 (w.alloc (.cells av 40 (0, 0))) (.cells sv 25 (0, 0)) 40 rv
  simpa using this
theorem below_alloc3 (w : World) (o p q : Obj) : Below w.heap.size w (((w.alloc o).alloc p).alloc q) :=
  (below_alloc2 w o p).alloc (by simp; omega) q
theorem St.fill10 {T : TypeId} {k : Nat} {u0 u1 u2 u3 u4 u5 u6 u7 u8 u9 : Value} (v0 v1 v2 v3 v4 v5 v6 v7 v8 v9 : Value) {w : World} (h : St T k #[u0, u1, u2, u3, u4, u5, u6, u7, u8, u9] w) : St T k #[v0, v1, v2, v3, v4, v5, v6, v7, v8, v9] ((((((((((w.setCell ⟨k, 0, none⟩ v0).setCell ⟨k, 1, none⟩ v1).setCell ⟨k, 2, none⟩ v2).setCell ⟨k, 3, none⟩ v3).setCell ⟨k, 4, none⟩ v4).setCell ⟨k, 5, none⟩ v5).setCell ⟨k, 6, none⟩ v6).setCell ⟨k, 7, none⟩ v7).setCell ⟨k, 8, none⟩ v8).setCell ⟨k, 9, none⟩ v9) := by
  have := ((((((((((h.set 0 v0).set 1 v1).set 2 v2).set 3 v3).set 4 v4).set 5 v5).set 6 v6).set 7 v7).set 8 v8).set 9 v9)
  simpa using this
theorem below_fill10 {B k : Nat} {w W : World} (v0 v1 v2 v3 v4 v5 v6 v7 v8 v9 : Value) (hk : B ≤ k) (f : Below B w W) : Below B w ((((((((((W.setCell ⟨k, 0, none⟩ v0).setCell ⟨k, 1, none⟩ v1).setCell ⟨k, 2, none⟩ v2).setCell ⟨k, 3, none⟩ v3).setCell ⟨k, 4, none⟩ v4).setCell ⟨k, 5, none⟩ v5).setCell ⟨k, 6, none⟩ v6).setCell ⟨k, 7, none⟩ v7).setCell ⟨k, 8, none⟩ v8).setCell ⟨k, 9, none⟩ v9) := (Below.setCell (Below.setCell (Below.setCell (Below.setCell (Below.setCell (Below.setCell (Below.setCell (Below.setCell (Below.setCell (Below.setCell f (p := ⟨k, 0, none⟩) hk v0) (p := ⟨k, 1, none⟩) hk v1) (p := ⟨k, 2, none⟩) hk v2) (p := ⟨k, 3, none⟩) hk v3) (p := ⟨k, 4, none⟩) hk v4) (p := ⟨k, 5, none⟩) hk v5) (p := ⟨k, 6, none⟩) hk v6) (p := ⟨k, 7, none⟩) hk v7) (p := ⟨k, 8, none⟩) hk v8) (p := ⟨k, 9, none⟩) hk v9)
theorem upon_skip {P : Program} {o : Oper} {a : Act} {K : Act → World → Prop} {Q : Exit → Act → World → Prop} {r : Result Next} {W : World} (h : r = .ok .skip W) (g : K (a.put o.dst undef) W) : Oper.upon P o a K Q r := by
  rw [h]; exact g
theorem ps_none {i0 i1 i2 i3 i4 : Bool} (h : true = (!i0 && !i1 && !i2 && !i3 && !i4)) : i0 = false ∧ i1 = false ∧ i2 = false ∧ i3 = false ∧ i4 = false := by
  cases i0 <;> cases i1 <;> cases i2 <;> cases i3 <;> cases i4 <;> simp_all
theorem pa_none {a : Pa} {s : Ps} {now : Int} (h : psEmpty s = true) : paApply a s now = a := by
  obtain ⟨⟨i0, n0⟩, ⟨i1, n1⟩, ⟨i2, n2⟩, ⟨i3, n3⟩, ⟨i4, n4⟩⟩ := s
  have h' := h
  unfold psEmpty at h
  obtain ⟨rfl, rfl, rfl, rfl, rfl⟩ := ps_none h.symm
  simp only [paApply, h']
  rfl
theorem below_step {w W W' : World} (f : Below w.heap.size w W) (b : Below W.heap.size W W') : Below w.heap.size w W' := f.trans (b.mono f.size)

set_option maxHeartbeats 1000000 in
set_option maxRecDepth 100000 in
theorem aApply_any (a : Pa) (s : Ps) (now : Int) (w : World) : Calls Try.prog 20 #[a.val, s.val, .int .i64 now] w fun e w' => e = .returned (paApply a s now).val ∧ Below w.heap.size w w' := by
  have HE := fun w => aEmpty_any s w
  obtain ⟨q, hq⟩ : ∃ q, q = psEmpty s := ⟨_, rfl⟩
  rw [← hq] at HE
  obtain ⟨ty, mode, nlink, uid, gid, size, id, gen, change, time⟩ := a
  obtain ⟨⟨i0, n0⟩, ⟨i1, n1⟩, ⟨i2, n2⟩, ⟨i3, n3⟩, ⟨i4, n4⟩⟩ := s
  cases q
  · simp only [paApply, ← hq]
    unfold psEmpty at hq
    simp only [Pa.val, Pa.vs, Ps.val, Ps.vs, Po.vs, List.cons_append, List.nil_append] at HE ⊢
    have H0 := fun w => achosen_any i0 n0 mode w
    have H1 := fun w => achosen_any i1 n1 uid w
    have H2 := fun w => achosen_any i2 n2 gid w
    have H4 := fun w => achosen_any i4 n4 (if i3 then now else time) w
    obtain ⟨m0, hm0⟩ : ∃ m, m = (if i0 = true then n0 else mode) := ⟨_, rfl⟩
    obtain ⟨m1, hm1⟩ : ∃ m, m = (if i1 = true then n1 else uid) := ⟨_, rfl⟩
    obtain ⟨m2, hm2⟩ : ∃ m, m = (if i2 = true then n2 else gid) := ⟨_, rfl⟩
    obtain ⟨m4, hm4⟩ : ∃ m, m = (if i4 = true then n4 else if i3 = true then now else time) := ⟨_, rfl⟩
    rw [← hm0] at H0
    rw [← hm1] at H1
    rw [← hm2] at H2
    rw [← hm4] at H4
    rw [← hm0, ← hm1, ← hm2, ← hm4]
    have hfc : (if false = true then change else now) = now := rfl
    rw [hfc]
    clear hq hm0 hm1 hm2 hm4 hfc
    replace HE := Lib.hid HE
    replace H0 := Lib.hid H0
    replace H1 := Lib.hid H1
    replace H2 := Lib.hid H2
    cases i3
    · have hi : (if false = true then now else time) = time := rfl
      rw [hi] at H4
      replace H4 := Lib.hid H4
      clear hi
      go_enter Try.func20, Try.ntmps20
      go_wp2_with fail
      go_must (refine (HE.out _).mono ?_)
      rintro e w1 ⟨rfl, b1⟩
      have t1 := Tri.below (Tri.new #[.int .i64 ty, .int .i64 mode, .int .i64 nlink, .int .i64 uid, .int .i64 gid, .int .i64 size, .int .i64 id, .int .i64 gen, .int .i64 change, .int .i64 time] #[.bool i0, .int .i64 n0, .bool i1, .int .i64 n1, .bool i2, .int .i64 n2, .bool false, .int .i64 n3, .bool i4, .int .i64 n4] #[.int .i64 0, .int .i64 0, .int .i64 0, .int .i64 0, .int .i64 0, .int .i64 0, .int .i64 0, .int .i64 0, .int .i64 0, .int .i64 0] w) b1
      have f1 := below_step (below_alloc3 w _ _ _) b1
      clear b1
      obtain ⟨c0, c1, c2, c3, c4, c5, c6, c7, c8, c9⟩ := t1.1.cell10
      obtain ⟨d0, d1, d2, d3, d4, d5, d6, d7, d8, d9⟩ := t1.2.1.cell10
      have fa := t1.1.free
      go_wp2_with fail
      go_must (refine (H0.out _).mono ?_)
      rintro e w2 ⟨rfl, b2⟩
      have t2 := Tri.below ((t1).setA 8 (.int .i64 now)) b2
      have f2 := below_step (Below.setCell (f1) (p := ⟨w.heap.size, 8, none⟩) (Nat.le_refl _) (.int .i64 now)) b2
      clear b2
      clear t1 fa c0 c1 c2 c3 c4 c5 c6 c7 c8 c9 d0 d1 d2 d3 d4 d5 d6 d7 d8 d9
      obtain ⟨c0, c1, c2, c3, c4, c5, c6, c7, c8, c9⟩ := t2.1.cell10
      obtain ⟨d0, d1, d2, d3, d4, d5, d6, d7, d8, d9⟩ := t2.2.1.cell10
      have fa := t2.1.free
      go_wp2_with fail
      go_must (refine (H1.out _).mono ?_)
      rintro e w3 ⟨rfl, b3⟩
      have t3 := Tri.below ((t2).setA 1 (.int .i64 m0)) b3
      have f3 := below_step (Below.setCell (f2) (p := ⟨w.heap.size, 1, none⟩) (Nat.le_refl _) (.int .i64 m0)) b3
      clear b3
      clear t2 fa c0 c1 c2 c3 c4 c5 c6 c7 c8 c9 d0 d1 d2 d3 d4 d5 d6 d7 d8 d9
      obtain ⟨c0, c1, c2, c3, c4, c5, c6, c7, c8, c9⟩ := t3.1.cell10
      obtain ⟨d0, d1, d2, d3, d4, d5, d6, d7, d8, d9⟩ := t3.2.1.cell10
      have fa := t3.1.free
      go_wp2_with fail
      go_must (refine (H2.out _).mono ?_)
      rintro e w4 ⟨rfl, b4⟩
      have t4 := Tri.below ((t3).setA 3 (.int .i64 m1)) b4
      have f4 := below_step (Below.setCell (f3) (p := ⟨w.heap.size, 3, none⟩) (Nat.le_refl _) (.int .i64 m1)) b4
      clear b4
      clear t3 fa c0 c1 c2 c3 c4 c5 c6 c7 c8 c9 d0 d1 d2 d3 d4 d5 d6 d7 d8 d9
      obtain ⟨c0, c1, c2, c3, c4, c5, c6, c7, c8, c9⟩ := t4.1.cell10
      obtain ⟨d0, d1, d2, d3, d4, d5, d6, d7, d8, d9⟩ := t4.2.1.cell10
      have fa := t4.1.free
      go_wp2_with fail
      go_must (refine (H4.out _).mono ?_)
      rintro e w5 ⟨rfl, b5⟩
      have t5 := Tri.below ((t4).setA 4 (.int .i64 m2)) b5
      have f5 := below_step (Below.setCell (f4) (p := ⟨w.heap.size, 4, none⟩) (Nat.le_refl _) (.int .i64 m2)) b5
      clear b5
      clear t4 fa c0 c1 c2 c3 c4 c5 c6 c7 c8 c9 d0 d1 d2 d3 d4 d5 d6 d7 d8 d9
      obtain ⟨c0, c1, c2, c3, c4, c5, c6, c7, c8, c9⟩ := t5.1.cell10
      obtain ⟨d0, d1, d2, d3, d4, d5, d6, d7, d8, d9⟩ := t5.2.1.cell10
      have fa := t5.1.free
      obtain ⟨r0, r1, r2, r3, r4, r5, r6, r7, r8, r9⟩ := t5.2.2.cell10
      have fr := t5.2.2.free
      have fin := Lib.hid (St.fill10 (.int .i64 ty) (.int .i64 m0) (.int .i64 nlink) (.int .i64 m1) (.int .i64 m2) (.int .i64 size) (.int .i64 id) (.int .i64 gen) (.int .i64 now) (.int .i64 m4) (t5.2.2.other w.heap.size 9 (.int .i64 m4) (by omega)))
      have fib := Lib.hid (below_fill10 (.int .i64 ty) (.int .i64 m0) (.int .i64 nlink) (.int .i64 m1) (.int .i64 m2) (.int .i64 size) (.int .i64 id) (.int .i64 gen) (.int .i64 now) (.int .i64 m4) (k := w.heap.size + 1 + 1) (by omega) (Below.setCell (f5) (p := ⟨w.heap.size, 9, none⟩) (Nat.le_refl _) (.int .i64 m4)))
      go_wp2_with fail
      exact ret_cell (r := 6) (k := w.heap.size + 1 + 1) (T := 40) Try.results20 rfl fin.out Try.underlying40 rfl (by kernel_rfl) rfl ⟨rfl, fib.out⟩
    · have hi : (if true = true then now else time) = now := rfl
      rw [hi] at H4
      replace H4 := Lib.hid H4
      clear hi
      go_enter Try.func20, Try.ntmps20
      go_wp2_with fail
      go_must (refine (HE.out _).mono ?_)
      rintro e w1 ⟨rfl, b1⟩
      have t1 := Tri.below (Tri.new #[.int .i64 ty, .int .i64 mode, .int .i64 nlink, .int .i64 uid, .int .i64 gid, .int .i64 size, .int .i64 id, .int .i64 gen, .int .i64 change, .int .i64 time] #[.bool i0, .int .i64 n0, .bool i1, .int .i64 n1, .bool i2, .int .i64 n2, .bool true, .int .i64 n3, .bool i4, .int .i64 n4] #[.int .i64 0, .int .i64 0, .int .i64 0, .int .i64 0, .int .i64 0, .int .i64 0, .int .i64 0, .int .i64 0, .int .i64 0, .int .i64 0] w) b1
      have f1 := below_step (below_alloc3 w _ _ _) b1
      clear b1
      obtain ⟨c0, c1, c2, c3, c4, c5, c6, c7, c8, c9⟩ := t1.1.cell10
      obtain ⟨d0, d1, d2, d3, d4, d5, d6, d7, d8, d9⟩ := t1.2.1.cell10
      have fa := t1.1.free
      go_wp2_with fail
      go_must (refine (H0.out _).mono ?_)
      rintro e w2 ⟨rfl, b2⟩
      have t2 := Tri.below (((t1).setA 8 (.int .i64 now)).setA 9 (.int .i64 now)) b2
      have f2 := below_step (Below.setCell (Below.setCell (f1) (p := ⟨w.heap.size, 8, none⟩) (Nat.le_refl _) (.int .i64 now)) (p := ⟨w.heap.size, 9, none⟩) (Nat.le_refl _) (.int .i64 now)) b2
      clear b2
      clear t1 fa c0 c1 c2 c3 c4 c5 c6 c7 c8 c9 d0 d1 d2 d3 d4 d5 d6 d7 d8 d9
      obtain ⟨c0, c1, c2, c3, c4, c5, c6, c7, c8, c9⟩ := t2.1.cell10
      obtain ⟨d0, d1, d2, d3, d4, d5, d6, d7, d8, d9⟩ := t2.2.1.cell10
      have fa := t2.1.free
      go_wp2_with fail
      go_must (refine (H1.out _).mono ?_)
      rintro e w3 ⟨rfl, b3⟩
      have t3 := Tri.below ((t2).setA 1 (.int .i64 m0)) b3
      have f3 := below_step (Below.setCell (f2) (p := ⟨w.heap.size, 1, none⟩) (Nat.le_refl _) (.int .i64 m0)) b3
      clear b3
      clear t2 fa c0 c1 c2 c3 c4 c5 c6 c7 c8 c9 d0 d1 d2 d3 d4 d5 d6 d7 d8 d9
      obtain ⟨c0, c1, c2, c3, c4, c5, c6, c7, c8, c9⟩ := t3.1.cell10
      obtain ⟨d0, d1, d2, d3, d4, d5, d6, d7, d8, d9⟩ := t3.2.1.cell10
      have fa := t3.1.free
      go_wp2_with fail
      go_must (refine (H2.out _).mono ?_)
      rintro e w4 ⟨rfl, b4⟩
      have t4 := Tri.below ((t3).setA 3 (.int .i64 m1)) b4
      have f4 := below_step (Below.setCell (f3) (p := ⟨w.heap.size, 3, none⟩) (Nat.le_refl _) (.int .i64 m1)) b4
      clear b4
      clear t3 fa c0 c1 c2 c3 c4 c5 c6 c7 c8 c9 d0 d1 d2 d3 d4 d5 d6 d7 d8 d9
      obtain ⟨c0, c1, c2, c3, c4, c5, c6, c7, c8, c9⟩ := t4.1.cell10
      obtain ⟨d0, d1, d2, d3, d4, d5, d6, d7, d8, d9⟩ := t4.2.1.cell10
      have fa := t4.1.free
      go_wp2_with fail
      go_must (refine (H4.out _).mono ?_)
      rintro e w5 ⟨rfl, b5⟩
      have t5 := Tri.below ((t4).setA 4 (.int .i64 m2)) b5
      have f5 := below_step (Below.setCell (f4) (p := ⟨w.heap.size, 4, none⟩) (Nat.le_refl _) (.int .i64 m2)) b5
      clear b5
      clear t4 fa c0 c1 c2 c3 c4 c5 c6 c7 c8 c9 d0 d1 d2 d3 d4 d5 d6 d7 d8 d9
      obtain ⟨c0, c1, c2, c3, c4, c5, c6, c7, c8, c9⟩ := t5.1.cell10
      obtain ⟨d0, d1, d2, d3, d4, d5, d6, d7, d8, d9⟩ := t5.2.1.cell10
      have fa := t5.1.free
      obtain ⟨r0, r1, r2, r3, r4, r5, r6, r7, r8, r9⟩ := t5.2.2.cell10
      have fr := t5.2.2.free
      have fin := Lib.hid (St.fill10 (.int .i64 ty) (.int .i64 m0) (.int .i64 nlink) (.int .i64 m1) (.int .i64 m2) (.int .i64 size) (.int .i64 id) (.int .i64 gen) (.int .i64 now) (.int .i64 m4) (t5.2.2.other w.heap.size 9 (.int .i64 m4) (by omega)))
      have fib := Lib.hid (below_fill10 (.int .i64 ty) (.int .i64 m0) (.int .i64 nlink) (.int .i64 m1) (.int .i64 m2) (.int .i64 size) (.int .i64 id) (.int .i64 gen) (.int .i64 now) (.int .i64 m4) (k := w.heap.size + 1 + 1) (by omega) (Below.setCell (f5) (p := ⟨w.heap.size, 9, none⟩) (Nat.le_refl _) (.int .i64 m4)))
      go_wp2_with fail
      exact ret_cell (r := 6) (k := w.heap.size + 1 + 1) (T := 40) Try.results20 rfl fin.out Try.underlying40 rfl (by kernel_rfl) rfl ⟨rfl, fib.out⟩
  · rw [pa_none hq.symm]
    unfold psEmpty at hq
    have h := ps_none hq
    obtain ⟨rfl, rfl, rfl, rfl, rfl⟩ := h
    simp only [Pa.val, Pa.vs, Ps.val, Ps.vs, Po.vs, List.cons_append, List.nil_append] at HE ⊢
    replace HE := Lib.hid HE
    clear hq
    go_enter Try.func20, Try.ntmps20
    go_wp2_with fail
    go_must (refine (HE.out _).mono ?_)
    rintro e w1 ⟨rfl, b1⟩
    have t1 := Tri.below (Tri.new #[.int .i64 ty, .int .i64 mode, .int .i64 nlink, .int .i64 uid, .int .i64 gid, .int .i64 size, .int .i64 id, .int .i64 gen, .int .i64 change, .int .i64 time] #[.bool false, .int .i64 n0, .bool false, .int .i64 n1, .bool false, .int .i64 n2, .bool false, .int .i64 n3, .bool false, .int .i64 n4] #[.int .i64 0, .int .i64 0, .int .i64 0, .int .i64 0, .int .i64 0, .int .i64 0, .int .i64 0, .int .i64 0, .int .i64 0, .int .i64 0] w) b1
    have f1 := below_step (below_alloc3 w _ _ _) b1
    clear b1
    obtain ⟨c0, c1, c2, c3, c4, c5, c6, c7, c8, c9⟩ := t1.1.cell10
    obtain ⟨d0, d1, d2, d3, d4, d5, d6, d7, d8, d9⟩ := t1.2.1.cell10
    have fa := t1.1.free
    obtain ⟨r0, r1, r2, r3, r4, r5, r6, r7, r8, r9⟩ := t1.2.2.cell10
    have fr := t1.2.2.free
    have fin := Lib.hid (St.fill10 (.int .i64 ty) (.int .i64 mode) (.int .i64 nlink) (.int .i64 uid) (.int .i64 gid) (.int .i64 size) (.int .i64 id) (.int .i64 gen) (.int .i64 change) (.int .i64 time) (t1.2.2))
    have fib := Lib.hid (below_fill10 (.int .i64 ty) (.int .i64 mode) (.int .i64 nlink) (.int .i64 uid) (.int .i64 gid) (.int .i64 size) (.int .i64 id) (.int .i64 gen) (.int .i64 change) (.int .i64 time) (k := w.heap.size + 1 + 1) (by omega) (f1))
    go_wp2_with fail
    exact ret_cell (r := 6) (k := w.heap.size + 1 + 1) (T := 40) Try.results20 rfl fin.out Try.underlying40 rfl (by kernel_rfl) rfl ⟨rfl, fib.out⟩
end Go.Proofs.Ytinhdabfiahjpaa
