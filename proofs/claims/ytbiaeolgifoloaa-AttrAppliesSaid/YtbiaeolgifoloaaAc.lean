/- attr: the reference's Apply. -/
import Derived.Test.YtbiaeolgifoloaaAb
namespace Go.Proofs.Ytbiaeolgifoloaa
open Go.Joins Go.RowKit

theorem Tri.set1 {k : Nat} {v0 v1 v2 v3 v4 v5 v6 v7 v8 v9 : Value} {sv rv : Array Value} {w : World} (h : Tri k #[v0, v1, v2, v3, v4, v5, v6, v7, v8, v9] sv rv w) (u : Value) : Tri k #[v0, u, v2, v3, v4, v5, v6, v7, v8, v9] sv rv (w.setCell ⟨k, 1, none⟩ u) := by
  have := h.setA 1 u
  simpa using this
theorem Tri.set3 {k : Nat} {v0 v1 v2 v3 v4 v5 v6 v7 v8 v9 : Value} {sv rv : Array Value} {w : World} (h : Tri k #[v0, v1, v2, v3, v4, v5, v6, v7, v8, v9] sv rv w) (u : Value) : Tri k #[v0, v1, v2, u, v4, v5, v6, v7, v8, v9] sv rv (w.setCell ⟨k, 3, none⟩ u) := by
  have := h.setA 3 u
  simpa using this
theorem Tri.set4 {k : Nat} {v0 v1 v2 v3 v4 v5 v6 v7 v8 v9 : Value} {sv rv : Array Value} {w : World} (h : Tri k #[v0, v1, v2, v3, v4, v5, v6, v7, v8, v9] sv rv w) (u : Value) : Tri k #[v0, v1, v2, v3, u, v5, v6, v7, v8, v9] sv rv (w.setCell ⟨k, 4, none⟩ u) := by
  have := h.setA 4 u
  simpa using this
theorem Tri.set8 {k : Nat} {v0 v1 v2 v3 v4 v5 v6 v7 v8 v9 : Value} {sv rv : Array Value} {w : World} (h : Tri k #[v0, v1, v2, v3, v4, v5, v6, v7, v8, v9] sv rv w) (u : Value) : Tri k #[v0, v1, v2, v3, v4, v5, v6, v7, u, v9] sv rv (w.setCell ⟨k, 8, none⟩ u) := by
  have := h.setA 8 u
  simpa using this
theorem Tri.set9 {k : Nat} {v0 v1 v2 v3 v4 v5 v6 v7 v8 v9 : Value} {sv rv : Array Value} {w : World} (h : Tri k #[v0, v1, v2, v3, v4, v5, v6, v7, v8, v9] sv rv w) (u : Value) : Tri k #[v0, v1, v2, v3, v4, v5, v6, v7, v8, u] sv rv (w.setCell ⟨k, 9, none⟩ u) := by
  have := h.setA 9 u
  simpa using this
set_option maxHeartbeats 1000000 in
set_option maxRecDepth 100000 in
theorem apFFFFF (ty mode nlink uid gid size id gen change time n0 n1 n2 n3 n4 now : Int) (w : World) : Calls Try.prog 16 #[.agg #[.int .i64 ty, .int .i64 mode, .int .i64 nlink, .int .i64 uid, .int .i64 gid, .int .i64 size, .int .i64 id, .int .i64 gen, .int .i64 change, .int .i64 time], .agg #[.bool false, .int .i64 n0, .bool false, .int .i64 n1, .bool false, .int .i64 n2, .bool false, .int .i64 n3, .bool false, .int .i64 n4], .int .i64 now] w fun e w' => e = .returned (.agg #[.int .i64 ty, .int .i64 mode, .int .i64 nlink, .int .i64 uid, .int .i64 gid, .int .i64 size, .int .i64 id, .int .i64 gen, .int .i64 change, .int .i64 time]) ∧ Below w.heap.size w w' := by
  have HE := Lib.hid (show ∀ w, Calls Try.prog 10 #[.agg #[.bool false, .int .i64 n0, .bool false, .int .i64 n1, .bool false, .int .i64 n2, .bool false, .int .i64 n3, .bool false, .int .i64 n4]] w fun e w' => e = .returned (.bool true) ∧ Below w.heap.size w w' from fun w => afEmpty_any ⟨⟨false, n0⟩, ⟨false, n1⟩, ⟨false, n2⟩, ⟨false, n3⟩, ⟨false, n4⟩⟩ w)
  have T0 := Lib.hid (Tri.new #[.int .i64 ty, .int .i64 mode, .int .i64 nlink, .int .i64 uid, .int .i64 gid, .int .i64 size, .int .i64 id, .int .i64 gen, .int .i64 change, .int .i64 time] #[.bool false, .int .i64 n0, .bool false, .int .i64 n1, .bool false, .int .i64 n2, .bool false, .int .i64 n3, .bool false, .int .i64 n4] #[.int .i64 0, .int .i64 0, .int .i64 0, .int .i64 0, .int .i64 0, .int .i64 0, .int .i64 0, .int .i64 0, .int .i64 0, .int .i64 0] w)
  have F0 := Lib.hid (below_alloc3 w (.cells #[.int .i64 ty, .int .i64 mode, .int .i64 nlink, .int .i64 uid, .int .i64 gid, .int .i64 size, .int .i64 id, .int .i64 gen, .int .i64 change, .int .i64 time] 40 (0, 0)) (.cells #[.bool false, .int .i64 n0, .bool false, .int .i64 n1, .bool false, .int .i64 n2, .bool false, .int .i64 n3, .bool false, .int .i64 n4] 25 (0, 0)) (.cells #[.int .i64 0, .int .i64 0, .int .i64 0, .int .i64 0, .int .i64 0, .int .i64 0, .int .i64 0, .int .i64 0, .int .i64 0, .int .i64 0] 40 (0, 0)))
  go_enter Try.func16, Try.ntmps16
  go_wp2_with fail
  go_must (refine (HE.out _).mono ?_)
  rintro e w1 ⟨rfl, b1⟩
  have t1 := T0.out.below b1
  have f1 := below_step F0.out b1
  clear b1
  obtain ⟨c0, c1, c2, c3, c4, c5, c6, c7, c8, c9⟩ := t1.1.cell10
  obtain ⟨r0, r1, r2, r3, r4, r5, r6, r7, r8, r9⟩ := t1.2.2.cell10
  have fa := t1.1.free
  have fr := t1.2.2.free
  have fin := Lib.hid (St.fill10 (.int .i64 ty) (.int .i64 mode) (.int .i64 nlink) (.int .i64 uid) (.int .i64 gid) (.int .i64 size) (.int .i64 id) (.int .i64 gen) (.int .i64 change) (.int .i64 time) (t1.2.2))
  have fib := Lib.hid (below_fill10 (.int .i64 ty) (.int .i64 mode) (.int .i64 nlink) (.int .i64 uid) (.int .i64 gid) (.int .i64 size) (.int .i64 id) (.int .i64 gen) (.int .i64 change) (.int .i64 time) (k := w.heap.size + 1 + 1) (by omega) (f1))
  go_wp2_with fail
  exact ret_cell (r := 6) (k := w.heap.size + 1 + 1) (T := 40) Try.results16 rfl fin.out Try.underlying40 rfl (by kernel_rfl) rfl ⟨rfl, fib.out⟩
set_option maxHeartbeats 1000000 in
set_option maxRecDepth 100000 in
theorem apFFFFT (ty mode nlink uid gid size id gen change time n0 n1 n2 n3 n4 now : Int) (w : World) : Calls Try.prog 16 #[.agg #[.int .i64 ty, .int .i64 mode, .int .i64 nlink, .int .i64 uid, .int .i64 gid, .int .i64 size, .int .i64 id, .int .i64 gen, .int .i64 change, .int .i64 time], .agg #[.bool false, .int .i64 n0, .bool false, .int .i64 n1, .bool false, .int .i64 n2, .bool false, .int .i64 n3, .bool true, .int .i64 n4], .int .i64 now] w fun e w' => e = .returned (.agg #[.int .i64 ty, .int .i64 mode, .int .i64 nlink, .int .i64 uid, .int .i64 gid, .int .i64 size, .int .i64 id, .int .i64 gen, .int .i64 now, .int .i64 n4]) ∧ Below w.heap.size w w' := by
  have HE := Lib.hid (show ∀ w, Calls Try.prog 10 #[.agg #[.bool false, .int .i64 n0, .bool false, .int .i64 n1, .bool false, .int .i64 n2, .bool false, .int .i64 n3, .bool true, .int .i64 n4]] w fun e w' => e = .returned (.bool false) ∧ Below w.heap.size w w' from fun w => afEmpty_any ⟨⟨false, n0⟩, ⟨false, n1⟩, ⟨false, n2⟩, ⟨false, n3⟩, ⟨true, n4⟩⟩ w)
  have T0 := Lib.hid (Tri.new #[.int .i64 ty, .int .i64 mode, .int .i64 nlink, .int .i64 uid, .int .i64 gid, .int .i64 size, .int .i64 id, .int .i64 gen, .int .i64 change, .int .i64 n4] #[.bool false, .int .i64 n0, .bool false, .int .i64 n1, .bool false, .int .i64 n2, .bool false, .int .i64 n3, .bool true, .int .i64 n4] #[.int .i64 0, .int .i64 0, .int .i64 0, .int .i64 0, .int .i64 0, .int .i64 0, .int .i64 0, .int .i64 0, .int .i64 0, .int .i64 0] w)
  have F0 := Lib.hid (below_alloc3 w (.cells #[.int .i64 ty, .int .i64 mode, .int .i64 nlink, .int .i64 uid, .int .i64 gid, .int .i64 size, .int .i64 id, .int .i64 gen, .int .i64 change, .int .i64 n4] 40 (0, 0)) (.cells #[.bool false, .int .i64 n0, .bool false, .int .i64 n1, .bool false, .int .i64 n2, .bool false, .int .i64 n3, .bool true, .int .i64 n4] 25 (0, 0)) (.cells #[.int .i64 0, .int .i64 0, .int .i64 0, .int .i64 0, .int .i64 0, .int .i64 0, .int .i64 0, .int .i64 0, .int .i64 0, .int .i64 0] 40 (0, 0)))
  go_enter Try.func16, Try.ntmps16
  go_wp2_with fail
  go_must (refine (HE.out _).mono ?_)
  rintro e w1 ⟨rfl, b1⟩
  have t1 := T0.out.below b1
  have f1 := below_step F0.out b1
  clear b1
  obtain ⟨c0, c1, c2, c3, c4, c5, c6, c7, c8, c9⟩ := t1.1.cell10
  obtain ⟨r0, r1, r2, r3, r4, r5, r6, r7, r8, r9⟩ := t1.2.2.cell10
  have fa := t1.1.free
  have fr := t1.2.2.free
  have fin := Lib.hid (St.fill10 (.int .i64 ty) (.int .i64 mode) (.int .i64 nlink) (.int .i64 uid) (.int .i64 gid) (.int .i64 size) (.int .i64 id) (.int .i64 gen) (.int .i64 now) (.int .i64 n4) (t1.2.2.other w.heap.size 8 (.int .i64 now) (by omega)))
  have fib := Lib.hid (below_fill10 (.int .i64 ty) (.int .i64 mode) (.int .i64 nlink) (.int .i64 uid) (.int .i64 gid) (.int .i64 size) (.int .i64 id) (.int .i64 gen) (.int .i64 now) (.int .i64 n4) (k := w.heap.size + 1 + 1) (by omega) (Below.setCell f1 (p := ⟨w.heap.size, 8, none⟩) (Nat.le_refl _) (.int .i64 now)))
  go_wp2_with fail
  exact ret_cell (r := 6) (k := w.heap.size + 1 + 1) (T := 40) Try.results16 rfl fin.out Try.underlying40 rfl (by kernel_rfl) rfl ⟨rfl, fib.out⟩
set_option maxHeartbeats 1000000 in
set_option maxRecDepth 100000 in
theorem apFFFTF (ty mode nlink uid gid size id gen change time n0 n1 n2 n3 n4 now : Int) (w : World) : Calls Try.prog 16 #[.agg #[.int .i64 ty, .int .i64 mode, .int .i64 nlink, .int .i64 uid, .int .i64 gid, .int .i64 size, .int .i64 id, .int .i64 gen, .int .i64 change, .int .i64 time], .agg #[.bool false, .int .i64 n0, .bool false, .int .i64 n1, .bool false, .int .i64 n2, .bool true, .int .i64 n3, .bool false, .int .i64 n4], .int .i64 now] w fun e w' => e = .returned (.agg #[.int .i64 ty, .int .i64 mode, .int .i64 nlink, .int .i64 uid, .int .i64 gid, .int .i64 size, .int .i64 id, .int .i64 gen, .int .i64 now, .int .i64 now]) ∧ Below w.heap.size w w' := by
  have HE := Lib.hid (show ∀ w, Calls Try.prog 10 #[.agg #[.bool false, .int .i64 n0, .bool false, .int .i64 n1, .bool false, .int .i64 n2, .bool true, .int .i64 n3, .bool false, .int .i64 n4]] w fun e w' => e = .returned (.bool false) ∧ Below w.heap.size w w' from fun w => afEmpty_any ⟨⟨false, n0⟩, ⟨false, n1⟩, ⟨false, n2⟩, ⟨true, n3⟩, ⟨false, n4⟩⟩ w)
  have T0 := Lib.hid (Tri.new #[.int .i64 ty, .int .i64 mode, .int .i64 nlink, .int .i64 uid, .int .i64 gid, .int .i64 size, .int .i64 id, .int .i64 gen, .int .i64 change, .int .i64 now] #[.bool false, .int .i64 n0, .bool false, .int .i64 n1, .bool false, .int .i64 n2, .bool true, .int .i64 n3, .bool false, .int .i64 n4] #[.int .i64 0, .int .i64 0, .int .i64 0, .int .i64 0, .int .i64 0, .int .i64 0, .int .i64 0, .int .i64 0, .int .i64 0, .int .i64 0] w)
  have F0 := Lib.hid (below_alloc3 w (.cells #[.int .i64 ty, .int .i64 mode, .int .i64 nlink, .int .i64 uid, .int .i64 gid, .int .i64 size, .int .i64 id, .int .i64 gen, .int .i64 change, .int .i64 now] 40 (0, 0)) (.cells #[.bool false, .int .i64 n0, .bool false, .int .i64 n1, .bool false, .int .i64 n2, .bool true, .int .i64 n3, .bool false, .int .i64 n4] 25 (0, 0)) (.cells #[.int .i64 0, .int .i64 0, .int .i64 0, .int .i64 0, .int .i64 0, .int .i64 0, .int .i64 0, .int .i64 0, .int .i64 0, .int .i64 0] 40 (0, 0)))
  go_enter Try.func16, Try.ntmps16
  go_wp2_with fail
  go_must (refine (HE.out _).mono ?_)
  rintro e w1 ⟨rfl, b1⟩
  have t1 := T0.out.below b1
  have f1 := below_step F0.out b1
  clear b1
  obtain ⟨c0, c1, c2, c3, c4, c5, c6, c7, c8, c9⟩ := t1.1.cell10
  obtain ⟨r0, r1, r2, r3, r4, r5, r6, r7, r8, r9⟩ := t1.2.2.cell10
  have fa := t1.1.free
  have fr := t1.2.2.free
  have fin := Lib.hid (St.fill10 (.int .i64 ty) (.int .i64 mode) (.int .i64 nlink) (.int .i64 uid) (.int .i64 gid) (.int .i64 size) (.int .i64 id) (.int .i64 gen) (.int .i64 now) (.int .i64 now) (t1.2.2.other w.heap.size 8 (.int .i64 now) (by omega)))
  have fib := Lib.hid (below_fill10 (.int .i64 ty) (.int .i64 mode) (.int .i64 nlink) (.int .i64 uid) (.int .i64 gid) (.int .i64 size) (.int .i64 id) (.int .i64 gen) (.int .i64 now) (.int .i64 now) (k := w.heap.size + 1 + 1) (by omega) (Below.setCell f1 (p := ⟨w.heap.size, 8, none⟩) (Nat.le_refl _) (.int .i64 now)))
  go_wp2_with fail
  exact ret_cell (r := 6) (k := w.heap.size + 1 + 1) (T := 40) Try.results16 rfl fin.out Try.underlying40 rfl (by kernel_rfl) rfl ⟨rfl, fib.out⟩
set_option maxHeartbeats 1000000 in
set_option maxRecDepth 100000 in
theorem apFFFTT (ty mode nlink uid gid size id gen change time n0 n1 n2 n3 n4 now : Int) (w : World) : Calls Try.prog 16 #[.agg #[.int .i64 ty, .int .i64 mode, .int .i64 nlink, .int .i64 uid, .int .i64 gid, .int .i64 size, .int .i64 id, .int .i64 gen, .int .i64 change, .int .i64 time], .agg #[.bool false, .int .i64 n0, .bool false, .int .i64 n1, .bool false, .int .i64 n2, .bool true, .int .i64 n3, .bool true, .int .i64 n4], .int .i64 now] w fun e w' => e = .returned (.agg #[.int .i64 ty, .int .i64 mode, .int .i64 nlink, .int .i64 uid, .int .i64 gid, .int .i64 size, .int .i64 id, .int .i64 gen, .int .i64 now, .int .i64 n4]) ∧ Below w.heap.size w w' := by
  have HE := Lib.hid (show ∀ w, Calls Try.prog 10 #[.agg #[.bool false, .int .i64 n0, .bool false, .int .i64 n1, .bool false, .int .i64 n2, .bool true, .int .i64 n3, .bool true, .int .i64 n4]] w fun e w' => e = .returned (.bool false) ∧ Below w.heap.size w w' from fun w => afEmpty_any ⟨⟨false, n0⟩, ⟨false, n1⟩, ⟨false, n2⟩, ⟨true, n3⟩, ⟨true, n4⟩⟩ w)
  have T0 := Lib.hid (Tri.new #[.int .i64 ty, .int .i64 mode, .int .i64 nlink, .int .i64 uid, .int .i64 gid, .int .i64 size, .int .i64 id, .int .i64 gen, .int .i64 change, .int .i64 n4] #[.bool false, .int .i64 n0, .bool false, .int .i64 n1, .bool false, .int .i64 n2, .bool true, .int .i64 n3, .bool true, .int .i64 n4] #[.int .i64 0, .int .i64 0, .int .i64 0, .int .i64 0, .int .i64 0, .int .i64 0, .int .i64 0, .int .i64 0, .int .i64 0, .int .i64 0] w)
  have F0 := Lib.hid (below_alloc3 w (.cells #[.int .i64 ty, .int .i64 mode, .int .i64 nlink, .int .i64 uid, .int .i64 gid, .int .i64 size, .int .i64 id, .int .i64 gen, .int .i64 change, .int .i64 n4] 40 (0, 0)) (.cells #[.bool false, .int .i64 n0, .bool false, .int .i64 n1, .bool false, .int .i64 n2, .bool true, .int .i64 n3, .bool true, .int .i64 n4] 25 (0, 0)) (.cells #[.int .i64 0, .int .i64 0, .int .i64 0, .int .i64 0, .int .i64 0, .int .i64 0, .int .i64 0, .int .i64 0, .int .i64 0, .int .i64 0] 40 (0, 0)))
  go_enter Try.func16, Try.ntmps16
  go_wp2_with fail
  go_must (refine (HE.out _).mono ?_)
  rintro e w1 ⟨rfl, b1⟩
  have t1 := T0.out.below b1
  have f1 := below_step F0.out b1
  clear b1
  obtain ⟨c0, c1, c2, c3, c4, c5, c6, c7, c8, c9⟩ := t1.1.cell10
  obtain ⟨r0, r1, r2, r3, r4, r5, r6, r7, r8, r9⟩ := t1.2.2.cell10
  have fa := t1.1.free
  have fr := t1.2.2.free
  have fin := Lib.hid (St.fill10 (.int .i64 ty) (.int .i64 mode) (.int .i64 nlink) (.int .i64 uid) (.int .i64 gid) (.int .i64 size) (.int .i64 id) (.int .i64 gen) (.int .i64 now) (.int .i64 n4) (t1.2.2.other w.heap.size 8 (.int .i64 now) (by omega)))
  have fib := Lib.hid (below_fill10 (.int .i64 ty) (.int .i64 mode) (.int .i64 nlink) (.int .i64 uid) (.int .i64 gid) (.int .i64 size) (.int .i64 id) (.int .i64 gen) (.int .i64 now) (.int .i64 n4) (k := w.heap.size + 1 + 1) (by omega) (Below.setCell f1 (p := ⟨w.heap.size, 8, none⟩) (Nat.le_refl _) (.int .i64 now)))
  go_wp2_with fail
  exact ret_cell (r := 6) (k := w.heap.size + 1 + 1) (T := 40) Try.results16 rfl fin.out Try.underlying40 rfl (by kernel_rfl) rfl ⟨rfl, fib.out⟩
set_option maxHeartbeats 1000000 in
set_option maxRecDepth 100000 in
theorem apFFTFF (ty mode nlink uid gid size id gen change time n0 n1 n2 n3 n4 now : Int) (w : World) : Calls Try.prog 16 #[.agg #[.int .i64 ty, .int .i64 mode, .int .i64 nlink, .int .i64 uid, .int .i64 gid, .int .i64 size, .int .i64 id, .int .i64 gen, .int .i64 change, .int .i64 time], .agg #[.bool false, .int .i64 n0, .bool false, .int .i64 n1, .bool true, .int .i64 n2, .bool false, .int .i64 n3, .bool false, .int .i64 n4], .int .i64 now] w fun e w' => e = .returned (.agg #[.int .i64 ty, .int .i64 mode, .int .i64 nlink, .int .i64 uid, .int .i64 n2, .int .i64 size, .int .i64 id, .int .i64 gen, .int .i64 now, .int .i64 time]) ∧ Below w.heap.size w w' := by
  have HE := Lib.hid (show ∀ w, Calls Try.prog 10 #[.agg #[.bool false, .int .i64 n0, .bool false, .int .i64 n1, .bool true, .int .i64 n2, .bool false, .int .i64 n3, .bool false, .int .i64 n4]] w fun e w' => e = .returned (.bool false) ∧ Below w.heap.size w w' from fun w => afEmpty_any ⟨⟨false, n0⟩, ⟨false, n1⟩, ⟨true, n2⟩, ⟨false, n3⟩, ⟨false, n4⟩⟩ w)
  have T0 := Lib.hid (Tri.new #[.int .i64 ty, .int .i64 mode, .int .i64 nlink, .int .i64 uid, .int .i64 n2, .int .i64 size, .int .i64 id, .int .i64 gen, .int .i64 change, .int .i64 time] #[.bool false, .int .i64 n0, .bool false, .int .i64 n1, .bool true, .int .i64 n2, .bool false, .int .i64 n3, .bool false, .int .i64 n4] #[.int .i64 0, .int .i64 0, .int .i64 0, .int .i64 0, .int .i64 0, .int .i64 0, .int .i64 0, .int .i64 0, .int .i64 0, .int .i64 0] w)
  have F0 := Lib.hid (below_alloc3 w (.cells #[.int .i64 ty, .int .i64 mode, .int .i64 nlink, .int .i64 uid, .int .i64 n2, .int .i64 size, .int .i64 id, .int .i64 gen, .int .i64 change, .int .i64 time] 40 (0, 0)) (.cells #[.bool false, .int .i64 n0, .bool false, .int .i64 n1, .bool true, .int .i64 n2, .bool false, .int .i64 n3, .bool false, .int .i64 n4] 25 (0, 0)) (.cells #[.int .i64 0, .int .i64 0, .int .i64 0, .int .i64 0, .int .i64 0, .int .i64 0, .int .i64 0, .int .i64 0, .int .i64 0, .int .i64 0] 40 (0, 0)))
  go_enter Try.func16, Try.ntmps16
  go_wp2_with fail
  go_must (refine (HE.out _).mono ?_)
  rintro e w1 ⟨rfl, b1⟩
  have t1 := T0.out.below b1
  have f1 := below_step F0.out b1
  clear b1
  obtain ⟨c0, c1, c2, c3, c4, c5, c6, c7, c8, c9⟩ := t1.1.cell10
  obtain ⟨r0, r1, r2, r3, r4, r5, r6, r7, r8, r9⟩ := t1.2.2.cell10
  have fa := t1.1.free
  have fr := t1.2.2.free
  have fin := Lib.hid (St.fill10 (.int .i64 ty) (.int .i64 mode) (.int .i64 nlink) (.int .i64 uid) (.int .i64 n2) (.int .i64 size) (.int .i64 id) (.int .i64 gen) (.int .i64 now) (.int .i64 time) (t1.2.2.other w.heap.size 8 (.int .i64 now) (by omega)))
  have fib := Lib.hid (below_fill10 (.int .i64 ty) (.int .i64 mode) (.int .i64 nlink) (.int .i64 uid) (.int .i64 n2) (.int .i64 size) (.int .i64 id) (.int .i64 gen) (.int .i64 now) (.int .i64 time) (k := w.heap.size + 1 + 1) (by omega) (Below.setCell f1 (p := ⟨w.heap.size, 8, none⟩) (Nat.le_refl _) (.int .i64 now)))
  go_wp2_with fail
  exact ret_cell (r := 6) (k := w.heap.size + 1 + 1) (T := 40) Try.results16 rfl fin.out Try.underlying40 rfl (by kernel_rfl) rfl ⟨rfl, fib.out⟩
set_option maxHeartbeats 1000000 in
set_option maxRecDepth 100000 in
theorem apFFTFT (ty mode nlink uid gid size id gen change time n0 n1 n2 n3 n4 now : Int) (w : World) : Calls Try.prog 16 #[.agg #[.int .i64 ty, .int .i64 mode, .int .i64 nlink, .int .i64 uid, .int .i64 gid, .int .i64 size, .int .i64 id, .int .i64 gen, .int .i64 change, .int .i64 time], .agg #[.bool false, .int .i64 n0, .bool false, .int .i64 n1, .bool true, .int .i64 n2, .bool false, .int .i64 n3, .bool true, .int .i64 n4], .int .i64 now] w fun e w' => e = .returned (.agg #[.int .i64 ty, .int .i64 mode, .int .i64 nlink, .int .i64 uid, .int .i64 n2, .int .i64 size, .int .i64 id, .int .i64 gen, .int .i64 now, .int .i64 n4]) ∧ Below w.heap.size w w' := by
  have HE := Lib.hid (show ∀ w, Calls Try.prog 10 #[.agg #[.bool false, .int .i64 n0, .bool false, .int .i64 n1, .bool true, .int .i64 n2, .bool false, .int .i64 n3, .bool true, .int .i64 n4]] w fun e w' => e = .returned (.bool false) ∧ Below w.heap.size w w' from fun w => afEmpty_any ⟨⟨false, n0⟩, ⟨false, n1⟩, ⟨true, n2⟩, ⟨false, n3⟩, ⟨true, n4⟩⟩ w)
  have T0 := Lib.hid (Tri.new #[.int .i64 ty, .int .i64 mode, .int .i64 nlink, .int .i64 uid, .int .i64 n2, .int .i64 size, .int .i64 id, .int .i64 gen, .int .i64 change, .int .i64 n4] #[.bool false, .int .i64 n0, .bool false, .int .i64 n1, .bool true, .int .i64 n2, .bool false, .int .i64 n3, .bool true, .int .i64 n4] #[.int .i64 0, .int .i64 0, .int .i64 0, .int .i64 0, .int .i64 0, .int .i64 0, .int .i64 0, .int .i64 0, .int .i64 0, .int .i64 0] w)
  have F0 := Lib.hid (below_alloc3 w (.cells #[.int .i64 ty, .int .i64 mode, .int .i64 nlink, .int .i64 uid, .int .i64 n2, .int .i64 size, .int .i64 id, .int .i64 gen, .int .i64 change, .int .i64 n4] 40 (0, 0)) (.cells #[.bool false, .int .i64 n0, .bool false, .int .i64 n1, .bool true, .int .i64 n2, .bool false, .int .i64 n3, .bool true, .int .i64 n4] 25 (0, 0)) (.cells #[.int .i64 0, .int .i64 0, .int .i64 0, .int .i64 0, .int .i64 0, .int .i64 0, .int .i64 0, .int .i64 0, .int .i64 0, .int .i64 0] 40 (0, 0)))
  go_enter Try.func16, Try.ntmps16
  go_wp2_with fail
  go_must (refine (HE.out _).mono ?_)
  rintro e w1 ⟨rfl, b1⟩
  have t1 := T0.out.below b1
  have f1 := below_step F0.out b1
  clear b1
  obtain ⟨c0, c1, c2, c3, c4, c5, c6, c7, c8, c9⟩ := t1.1.cell10
  obtain ⟨r0, r1, r2, r3, r4, r5, r6, r7, r8, r9⟩ := t1.2.2.cell10
  have fa := t1.1.free
  have fr := t1.2.2.free
  have fin := Lib.hid (St.fill10 (.int .i64 ty) (.int .i64 mode) (.int .i64 nlink) (.int .i64 uid) (.int .i64 n2) (.int .i64 size) (.int .i64 id) (.int .i64 gen) (.int .i64 now) (.int .i64 n4) (t1.2.2.other w.heap.size 8 (.int .i64 now) (by omega)))
  have fib := Lib.hid (below_fill10 (.int .i64 ty) (.int .i64 mode) (.int .i64 nlink) (.int .i64 uid) (.int .i64 n2) (.int .i64 size) (.int .i64 id) (.int .i64 gen) (.int .i64 now) (.int .i64 n4) (k := w.heap.size + 1 + 1) (by omega) (Below.setCell f1 (p := ⟨w.heap.size, 8, none⟩) (Nat.le_refl _) (.int .i64 now)))
  go_wp2_with fail
  exact ret_cell (r := 6) (k := w.heap.size + 1 + 1) (T := 40) Try.results16 rfl fin.out Try.underlying40 rfl (by kernel_rfl) rfl ⟨rfl, fib.out⟩
set_option maxHeartbeats 1000000 in
set_option maxRecDepth 100000 in
theorem apFFTTF (ty mode nlink uid gid size id gen change time n0 n1 n2 n3 n4 now : Int) (w : World) : Calls Try.prog 16 #[.agg #[.int .i64 ty, .int .i64 mode, .int .i64 nlink, .int .i64 uid, .int .i64 gid, .int .i64 size, .int .i64 id, .int .i64 gen, .int .i64 change, .int .i64 time], .agg #[.bool false, .int .i64 n0, .bool false, .int .i64 n1, .bool true, .int .i64 n2, .bool true, .int .i64 n3, .bool false, .int .i64 n4], .int .i64 now] w fun e w' => e = .returned (.agg #[.int .i64 ty, .int .i64 mode, .int .i64 nlink, .int .i64 uid, .int .i64 n2, .int .i64 size, .int .i64 id, .int .i64 gen, .int .i64 now, .int .i64 now]) ∧ Below w.heap.size w w' := by
  have HE := Lib.hid (show ∀ w, Calls Try.prog 10 #[.agg #[.bool false, .int .i64 n0, .bool false, .int .i64 n1, .bool true, .int .i64 n2, .bool true, .int .i64 n3, .bool false, .int .i64 n4]] w fun e w' => e = .returned (.bool false) ∧ Below w.heap.size w w' from fun w => afEmpty_any ⟨⟨false, n0⟩, ⟨false, n1⟩, ⟨true, n2⟩, ⟨true, n3⟩, ⟨false, n4⟩⟩ w)
  have T0 := Lib.hid (Tri.new #[.int .i64 ty, .int .i64 mode, .int .i64 nlink, .int .i64 uid, .int .i64 n2, .int .i64 size, .int .i64 id, .int .i64 gen, .int .i64 change, .int .i64 now] #[.bool false, .int .i64 n0, .bool false, .int .i64 n1, .bool true, .int .i64 n2, .bool true, .int .i64 n3, .bool false, .int .i64 n4] #[.int .i64 0, .int .i64 0, .int .i64 0, .int .i64 0, .int .i64 0, .int .i64 0, .int .i64 0, .int .i64 0, .int .i64 0, .int .i64 0] w)
  have F0 := Lib.hid (below_alloc3 w (.cells #[.int .i64 ty, .int .i64 mode, .int .i64 nlink, .int .i64 uid, .int .i64 n2, .int .i64 size, .int .i64 id, .int .i64 gen, .int .i64 change, .int .i64 now] 40 (0, 0)) (.cells #[.bool false, .int .i64 n0, .bool false, .int .i64 n1, .bool true, .int .i64 n2, .bool true, .int .i64 n3, .bool false, .int .i64 n4] 25 (0, 0)) (.cells #[.int .i64 0, .int .i64 0, .int .i64 0, .int .i64 0, .int .i64 0, .int .i64 0, .int .i64 0, .int .i64 0, .int .i64 0, .int .i64 0] 40 (0, 0)))
  go_enter Try.func16, Try.ntmps16
  go_wp2_with fail
  go_must (refine (HE.out _).mono ?_)
  rintro e w1 ⟨rfl, b1⟩
  have t1 := T0.out.below b1
  have f1 := below_step F0.out b1
  clear b1
  obtain ⟨c0, c1, c2, c3, c4, c5, c6, c7, c8, c9⟩ := t1.1.cell10
  obtain ⟨r0, r1, r2, r3, r4, r5, r6, r7, r8, r9⟩ := t1.2.2.cell10
  have fa := t1.1.free
  have fr := t1.2.2.free
  have fin := Lib.hid (St.fill10 (.int .i64 ty) (.int .i64 mode) (.int .i64 nlink) (.int .i64 uid) (.int .i64 n2) (.int .i64 size) (.int .i64 id) (.int .i64 gen) (.int .i64 now) (.int .i64 now) (t1.2.2.other w.heap.size 8 (.int .i64 now) (by omega)))
  have fib := Lib.hid (below_fill10 (.int .i64 ty) (.int .i64 mode) (.int .i64 nlink) (.int .i64 uid) (.int .i64 n2) (.int .i64 size) (.int .i64 id) (.int .i64 gen) (.int .i64 now) (.int .i64 now) (k := w.heap.size + 1 + 1) (by omega) (Below.setCell f1 (p := ⟨w.heap.size, 8, none⟩) (Nat.le_refl _) (.int .i64 now)))
  go_wp2_with fail
  exact ret_cell (r := 6) (k := w.heap.size + 1 + 1) (T := 40) Try.results16 rfl fin.out Try.underlying40 rfl (by kernel_rfl) rfl ⟨rfl, fib.out⟩
set_option maxHeartbeats 1000000 in
set_option maxRecDepth 100000 in
theorem apFFTTT (ty mode nlink uid gid size id gen change time n0 n1 n2 n3 n4 now : Int) (w : World) : Calls Try.prog 16 #[.agg #[.int .i64 ty, .int .i64 mode, .int .i64 nlink, .int .i64 uid, .int .i64 gid, .int .i64 size, .int .i64 id, .int .i64 gen, .int .i64 change, .int .i64 time], .agg #[.bool false, .int .i64 n0, .bool false, .int .i64 n1, .bool true, .int .i64 n2, .bool true, .int .i64 n3, .bool true, .int .i64 n4], .int .i64 now] w fun e w' => e = .returned (.agg #[.int .i64 ty, .int .i64 mode, .int .i64 nlink, .int .i64 uid, .int .i64 n2, .int .i64 size, .int .i64 id, .int .i64 gen, .int .i64 now, .int .i64 n4]) ∧ Below w.heap.size w w' := by
  have HE := Lib.hid (show ∀ w, Calls Try.prog 10 #[.agg #[.bool false, .int .i64 n0, .bool false, .int .i64 n1, .bool true, .int .i64 n2, .bool true, .int .i64 n3, .bool true, .int .i64 n4]] w fun e w' => e = .returned (.bool false) ∧ Below w.heap.size w w' from fun w => afEmpty_any ⟨⟨false, n0⟩, ⟨false, n1⟩, ⟨true, n2⟩, ⟨true, n3⟩, ⟨true, n4⟩⟩ w)
  have T0 := Lib.hid (Tri.new #[.int .i64 ty, .int .i64 mode, .int .i64 nlink, .int .i64 uid, .int .i64 n2, .int .i64 size, .int .i64 id, .int .i64 gen, .int .i64 change, .int .i64 n4] #[.bool false, .int .i64 n0, .bool false, .int .i64 n1, .bool true, .int .i64 n2, .bool true, .int .i64 n3, .bool true, .int .i64 n4] #[.int .i64 0, .int .i64 0, .int .i64 0, .int .i64 0, .int .i64 0, .int .i64 0, .int .i64 0, .int .i64 0, .int .i64 0, .int .i64 0] w)
  have F0 := Lib.hid (below_alloc3 w (.cells #[.int .i64 ty, .int .i64 mode, .int .i64 nlink, .int .i64 uid, .int .i64 n2, .int .i64 size, .int .i64 id, .int .i64 gen, .int .i64 change, .int .i64 n4] 40 (0, 0)) (.cells #[.bool false, .int .i64 n0, .bool false, .int .i64 n1, .bool true, .int .i64 n2, .bool true, .int .i64 n3, .bool true, .int .i64 n4] 25 (0, 0)) (.cells #[.int .i64 0, .int .i64 0, .int .i64 0, .int .i64 0, .int .i64 0, .int .i64 0, .int .i64 0, .int .i64 0, .int .i64 0, .int .i64 0] 40 (0, 0)))
  go_enter Try.func16, Try.ntmps16
  go_wp2_with fail
  go_must (refine (HE.out _).mono ?_)
  rintro e w1 ⟨rfl, b1⟩
  have t1 := T0.out.below b1
  have f1 := below_step F0.out b1
  clear b1
  obtain ⟨c0, c1, c2, c3, c4, c5, c6, c7, c8, c9⟩ := t1.1.cell10
  obtain ⟨r0, r1, r2, r3, r4, r5, r6, r7, r8, r9⟩ := t1.2.2.cell10
  have fa := t1.1.free
  have fr := t1.2.2.free
  have fin := Lib.hid (St.fill10 (.int .i64 ty) (.int .i64 mode) (.int .i64 nlink) (.int .i64 uid) (.int .i64 n2) (.int .i64 size) (.int .i64 id) (.int .i64 gen) (.int .i64 now) (.int .i64 n4) (t1.2.2.other w.heap.size 8 (.int .i64 now) (by omega)))
  have fib := Lib.hid (below_fill10 (.int .i64 ty) (.int .i64 mode) (.int .i64 nlink) (.int .i64 uid) (.int .i64 n2) (.int .i64 size) (.int .i64 id) (.int .i64 gen) (.int .i64 now) (.int .i64 n4) (k := w.heap.size + 1 + 1) (by omega) (Below.setCell f1 (p := ⟨w.heap.size, 8, none⟩) (Nat.le_refl _) (.int .i64 now)))
  go_wp2_with fail
  exact ret_cell (r := 6) (k := w.heap.size + 1 + 1) (T := 40) Try.results16 rfl fin.out Try.underlying40 rfl (by kernel_rfl) rfl ⟨rfl, fib.out⟩
set_option maxHeartbeats 1000000 in
set_option maxRecDepth 100000 in
theorem apFTFFF (ty mode nlink uid gid size id gen change time n0 n1 n2 n3 n4 now : Int) (w : World) : Calls Try.prog 16 #[.agg #[.int .i64 ty, .int .i64 mode, .int .i64 nlink, .int .i64 uid, .int .i64 gid, .int .i64 size, .int .i64 id, .int .i64 gen, .int .i64 change, .int .i64 time], .agg #[.bool false, .int .i64 n0, .bool true, .int .i64 n1, .bool false, .int .i64 n2, .bool false, .int .i64 n3, .bool false, .int .i64 n4], .int .i64 now] w fun e w' => e = .returned (.agg #[.int .i64 ty, .int .i64 mode, .int .i64 nlink, .int .i64 n1, .int .i64 gid, .int .i64 size, .int .i64 id, .int .i64 gen, .int .i64 now, .int .i64 time]) ∧ Below w.heap.size w w' := by
  have HE := Lib.hid (show ∀ w, Calls Try.prog 10 #[.agg #[.bool false, .int .i64 n0, .bool true, .int .i64 n1, .bool false, .int .i64 n2, .bool false, .int .i64 n3, .bool false, .int .i64 n4]] w fun e w' => e = .returned (.bool false) ∧ Below w.heap.size w w' from fun w => afEmpty_any ⟨⟨false, n0⟩, ⟨true, n1⟩, ⟨false, n2⟩, ⟨false, n3⟩, ⟨false, n4⟩⟩ w)
  have T0 := Lib.hid (Tri.new #[.int .i64 ty, .int .i64 mode, .int .i64 nlink, .int .i64 n1, .int .i64 gid, .int .i64 size, .int .i64 id, .int .i64 gen, .int .i64 change, .int .i64 time] #[.bool false, .int .i64 n0, .bool true, .int .i64 n1, .bool false, .int .i64 n2, .bool false, .int .i64 n3, .bool false, .int .i64 n4] #[.int .i64 0, .int .i64 0, .int .i64 0, .int .i64 0, .int .i64 0, .int .i64 0, .int .i64 0, .int .i64 0, .int .i64 0, .int .i64 0] w)
  have F0 := Lib.hid (below_alloc3 w (.cells #[.int .i64 ty, .int .i64 mode, .int .i64 nlink, .int .i64 n1, .int .i64 gid, .int .i64 size, .int .i64 id, .int .i64 gen, .int .i64 change, .int .i64 time] 40 (0, 0)) (.cells #[.bool false, .int .i64 n0, .bool true, .int .i64 n1, .bool false, .int .i64 n2, .bool false, .int .i64 n3, .bool false, .int .i64 n4] 25 (0, 0)) (.cells #[.int .i64 0, .int .i64 0, .int .i64 0, .int .i64 0, .int .i64 0, .int .i64 0, .int .i64 0, .int .i64 0, .int .i64 0, .int .i64 0] 40 (0, 0)))
  go_enter Try.func16, Try.ntmps16
  go_wp2_with fail
  go_must (refine (HE.out _).mono ?_)
  rintro e w1 ⟨rfl, b1⟩
  have t1 := T0.out.below b1
  have f1 := below_step F0.out b1
  clear b1
  obtain ⟨c0, c1, c2, c3, c4, c5, c6, c7, c8, c9⟩ := t1.1.cell10
  obtain ⟨r0, r1, r2, r3, r4, r5, r6, r7, r8, r9⟩ := t1.2.2.cell10
  have fa := t1.1.free
  have fr := t1.2.2.free
  have fin := Lib.hid (St.fill10 (.int .i64 ty) (.int .i64 mode) (.int .i64 nlink) (.int .i64 n1) (.int .i64 gid) (.int .i64 size) (.int .i64 id) (.int .i64 gen) (.int .i64 now) (.int .i64 time) (t1.2.2.other w.heap.size 8 (.int .i64 now) (by omega)))
  have fib := Lib.hid (below_fill10 (.int .i64 ty) (.int .i64 mode) (.int .i64 nlink) (.int .i64 n1) (.int .i64 gid) (.int .i64 size) (.int .i64 id) (.int .i64 gen) (.int .i64 now) (.int .i64 time) (k := w.heap.size + 1 + 1) (by omega) (Below.setCell f1 (p := ⟨w.heap.size, 8, none⟩) (Nat.le_refl _) (.int .i64 now)))
  go_wp2_with fail
  exact ret_cell (r := 6) (k := w.heap.size + 1 + 1) (T := 40) Try.results16 rfl fin.out Try.underlying40 rfl (by kernel_rfl) rfl ⟨rfl, fib.out⟩
set_option maxHeartbeats 1000000 in
set_option maxRecDepth 100000 in
theorem apFTFFT (ty mode nlink uid gid size id gen change time n0 n1 n2 n3 n4 now : Int) (w : World) : Calls Try.prog 16 #[.agg #[.int .i64 ty, .int .i64 mode, .int .i64 nlink, .int .i64 uid, .int .i64 gid, .int .i64 size, .int .i64 id, .int .i64 gen, .int .i64 change, .int .i64 time], .agg #[.bool false, .int .i64 n0, .bool true, .int .i64 n1, .bool false, .int .i64 n2, .bool false, .int .i64 n3, .bool true, .int .i64 n4], .int .i64 now] w fun e w' => e = .returned (.agg #[.int .i64 ty, .int .i64 mode, .int .i64 nlink, .int .i64 n1, .int .i64 gid, .int .i64 size, .int .i64 id, .int .i64 gen, .int .i64 now, .int .i64 n4]) ∧ Below w.heap.size w w' := by
  have HE := Lib.hid (show ∀ w, Calls Try.prog 10 #[.agg #[.bool false, .int .i64 n0, .bool true, .int .i64 n1, .bool false, .int .i64 n2, .bool false, .int .i64 n3, .bool true, .int .i64 n4]] w fun e w' => e = .returned (.bool false) ∧ Below w.heap.size w w' from fun w => afEmpty_any ⟨⟨false, n0⟩, ⟨true, n1⟩, ⟨false, n2⟩, ⟨false, n3⟩, ⟨true, n4⟩⟩ w)
  have T0 := Lib.hid (Tri.new #[.int .i64 ty, .int .i64 mode, .int .i64 nlink, .int .i64 n1, .int .i64 gid, .int .i64 size, .int .i64 id, .int .i64 gen, .int .i64 change, .int .i64 n4] #[.bool false, .int .i64 n0, .bool true, .int .i64 n1, .bool false, .int .i64 n2, .bool false, .int .i64 n3, .bool true, .int .i64 n4] #[.int .i64 0, .int .i64 0, .int .i64 0, .int .i64 0, .int .i64 0, .int .i64 0, .int .i64 0, .int .i64 0, .int .i64 0, .int .i64 0] w)
  have F0 := Lib.hid (below_alloc3 w (.cells #[.int .i64 ty, .int .i64 mode, .int .i64 nlink, .int .i64 n1, .int .i64 gid, .int .i64 size, .int .i64 id, .int .i64 gen, .int .i64 change, .int .i64 n4] 40 (0, 0)) (.cells #[.bool false, .int .i64 n0, .bool true, .int .i64 n1, .bool false, .int .i64 n2, .bool false, .int .i64 n3, .bool true, .int .i64 n4] 25 (0, 0)) (.cells #[.int .i64 0, .int .i64 0, .int .i64 0, .int .i64 0, .int .i64 0, .int .i64 0, .int .i64 0, .int .i64 0, .int .i64 0, .int .i64 0] 40 (0, 0)))
  go_enter Try.func16, Try.ntmps16
  go_wp2_with fail
  go_must (refine (HE.out _).mono ?_)
  rintro e w1 ⟨rfl, b1⟩
  have t1 := T0.out.below b1
  have f1 := below_step F0.out b1
  clear b1
  obtain ⟨c0, c1, c2, c3, c4, c5, c6, c7, c8, c9⟩ := t1.1.cell10
  obtain ⟨r0, r1, r2, r3, r4, r5, r6, r7, r8, r9⟩ := t1.2.2.cell10
  have fa := t1.1.free
  have fr := t1.2.2.free
  have fin := Lib.hid (St.fill10 (.int .i64 ty) (.int .i64 mode) (.int .i64 nlink) (.int .i64 n1) (.int .i64 gid) (.int .i64 size) (.int .i64 id) (.int .i64 gen) (.int .i64 now) (.int .i64 n4) (t1.2.2.other w.heap.size 8 (.int .i64 now) (by omega)))
  have fib := Lib.hid (below_fill10 (.int .i64 ty) (.int .i64 mode) (.int .i64 nlink) (.int .i64 n1) (.int .i64 gid) (.int .i64 size) (.int .i64 id) (.int .i64 gen) (.int .i64 now) (.int .i64 n4) (k := w.heap.size + 1 + 1) (by omega) (Below.setCell f1 (p := ⟨w.heap.size, 8, none⟩) (Nat.le_refl _) (.int .i64 now)))
  go_wp2_with fail
  exact ret_cell (r := 6) (k := w.heap.size + 1 + 1) (T := 40) Try.results16 rfl fin.out Try.underlying40 rfl (by kernel_rfl) rfl ⟨rfl, fib.out⟩
set_option maxHeartbeats 1000000 in
set_option maxRecDepth 100000 in
theorem apFTFTF (ty mode nlink uid gid size id gen change time n0 n1 n2 n3 n4 now : Int) (w : World) : Calls Try.prog 16 #[.agg #[.int .i64 ty, .int .i64 mode, .int .i64 nlink, .int .i64 uid, .int .i64 gid, .int .i64 size, .int .i64 id, .int .i64 gen, .int .i64 change, .int .i64 time], .agg #[.bool false, .int .i64 n0, .bool true, .int .i64 n1, .bool false, .int .i64 n2, .bool true, .int .i64 n3, .bool false, .int .i64 n4], .int .i64 now] w fun e w' => e = .returned (.agg #[.int .i64 ty, .int .i64 mode, .int .i64 nlink, .int .i64 n1, .int .i64 gid, .int .i64 size, .int .i64 id, .int .i64 gen, .int .i64 now, .int .i64 now]) ∧ Below w.heap.size w w' := by
  have HE := Lib.hid (show ∀ w, Calls Try.prog 10 #[.agg #[.bool false, .int .i64 n0, .bool true, .int .i64 n1, .bool false, .int .i64 n2, .bool true, .int .i64 n3, .bool false, .int .i64 n4]] w fun e w' => e = .returned (.bool false) ∧ Below w.heap.size w w' from fun w => afEmpty_any ⟨⟨false, n0⟩, ⟨true, n1⟩, ⟨false, n2⟩, ⟨true, n3⟩, ⟨false, n4⟩⟩ w)
  have T0 := Lib.hid (Tri.new #[.int .i64 ty, .int .i64 mode, .int .i64 nlink, .int .i64 n1, .int .i64 gid, .int .i64 size, .int .i64 id, .int .i64 gen, .int .i64 change, .int .i64 now] #[.bool false, .int .i64 n0, .bool true, .int .i64 n1, .bool false, .int .i64 n2, .bool true, .int .i64 n3, .bool false, .int .i64 n4] #[.int .i64 0, .int .i64 0, .int .i64 0, .int .i64 0, .int .i64 0, .int .i64 0, .int .i64 0, .int .i64 0, .int .i64 0, .int .i64 0] w)
  have F0 := Lib.hid (below_alloc3 w (.cells #[.int .i64 ty, .int .i64 mode, .int .i64 nlink, .int .i64 n1, .int .i64 gid, .int .i64 size, .int .i64 id, .int .i64 gen, .int .i64 change, .int .i64 now] 40 (0, 0)) (.cells #[.bool false, .int .i64 n0, .bool true, .int .i64 n1, .bool false, .int .i64 n2, .bool true, .int .i64 n3, .bool false, .int .i64 n4] 25 (0, 0)) (.cells #[.int .i64 0, .int .i64 0, .int .i64 0, .int .i64 0, .int .i64 0, .int .i64 0, .int .i64 0, .int .i64 0, .int .i64 0, .int .i64 0] 40 (0, 0)))
  go_enter Try.func16, Try.ntmps16
  go_wp2_with fail
  go_must (refine (HE.out _).mono ?_)
  rintro e w1 ⟨rfl, b1⟩
  have t1 := T0.out.below b1
  have f1 := below_step F0.out b1
  clear b1
  obtain ⟨c0, c1, c2, c3, c4, c5, c6, c7, c8, c9⟩ := t1.1.cell10
  obtain ⟨r0, r1, r2, r3, r4, r5, r6, r7, r8, r9⟩ := t1.2.2.cell10
  have fa := t1.1.free
  have fr := t1.2.2.free
  have fin := Lib.hid (St.fill10 (.int .i64 ty) (.int .i64 mode) (.int .i64 nlink) (.int .i64 n1) (.int .i64 gid) (.int .i64 size) (.int .i64 id) (.int .i64 gen) (.int .i64 now) (.int .i64 now) (t1.2.2.other w.heap.size 8 (.int .i64 now) (by omega)))
  have fib := Lib.hid (below_fill10 (.int .i64 ty) (.int .i64 mode) (.int .i64 nlink) (.int .i64 n1) (.int .i64 gid) (.int .i64 size) (.int .i64 id) (.int .i64 gen) (.int .i64 now) (.int .i64 now) (k := w.heap.size + 1 + 1) (by omega) (Below.setCell f1 (p := ⟨w.heap.size, 8, none⟩) (Nat.le_refl _) (.int .i64 now)))
  go_wp2_with fail
  exact ret_cell (r := 6) (k := w.heap.size + 1 + 1) (T := 40) Try.results16 rfl fin.out Try.underlying40 rfl (by kernel_rfl) rfl ⟨rfl, fib.out⟩
set_option maxHeartbeats 1000000 in
set_option maxRecDepth 100000 in
theorem apFTFTT (ty mode nlink uid gid size id gen change time n0 n1 n2 n3 n4 now : Int) (w : World) : Calls Try.prog 16 #[.agg #[.int .i64 ty, .int .i64 mode, .int .i64 nlink, .int .i64 uid, .int .i64 gid, .int .i64 size, .int .i64 id, .int .i64 gen, .int .i64 change, .int .i64 time], .agg #[.bool false, .int .i64 n0, .bool true, .int .i64 n1, .bool false, .int .i64 n2, .bool true, .int .i64 n3, .bool true, .int .i64 n4], .int .i64 now] w fun e w' => e = .returned (.agg #[.int .i64 ty, .int .i64 mode, .int .i64 nlink, .int .i64 n1, .int .i64 gid, .int .i64 size, .int .i64 id, .int .i64 gen, .int .i64 now, .int .i64 n4]) ∧ Below w.heap.size w w' := by
  have HE := Lib.hid (show ∀ w, Calls Try.prog 10 #[.agg #[.bool false, .int .i64 n0, .bool true, .int .i64 n1, .bool false, .int .i64 n2, .bool true, .int .i64 n3, .bool true, .int .i64 n4]] w fun e w' => e = .returned (.bool false) ∧ Below w.heap.size w w' from fun w => afEmpty_any ⟨⟨false, n0⟩, ⟨true, n1⟩, ⟨false, n2⟩, ⟨true, n3⟩, ⟨true, n4⟩⟩ w)
  have T0 := Lib.hid (Tri.new #[.int .i64 ty, .int .i64 mode, .int .i64 nlink, .int .i64 n1, .int .i64 gid, .int .i64 size, .int .i64 id, .int .i64 gen, .int .i64 change, .int .i64 n4] #[.bool false, .int .i64 n0, .bool true, .int .i64 n1, .bool false, .int .i64 n2, .bool true, .int .i64 n3, .bool true, .int .i64 n4] #[.int .i64 0, .int .i64 0, .int .i64 0, .int .i64 0, .int .i64 0, .int .i64 0, .int .i64 0, .int .i64 0, .int .i64 0, .int .i64 0] w)
  have F0 := Lib.hid (below_alloc3 w (.cells #[.int .i64 ty, .int .i64 mode, .int .i64 nlink, .int .i64 n1, .int .i64 gid, .int .i64 size, .int .i64 id, .int .i64 gen, .int .i64 change, .int .i64 n4] 40 (0, 0)) (.cells #[.bool false, .int .i64 n0, .bool true, .int .i64 n1, .bool false, .int .i64 n2, .bool true, .int .i64 n3, .bool true, .int .i64 n4] 25 (0, 0)) (.cells #[.int .i64 0, .int .i64 0, .int .i64 0, .int .i64 0, .int .i64 0, .int .i64 0, .int .i64 0, .int .i64 0, .int .i64 0, .int .i64 0] 40 (0, 0)))
  go_enter Try.func16, Try.ntmps16
  go_wp2_with fail
  go_must (refine (HE.out _).mono ?_)
  rintro e w1 ⟨rfl, b1⟩
  have t1 := T0.out.below b1
  have f1 := below_step F0.out b1
  clear b1
  obtain ⟨c0, c1, c2, c3, c4, c5, c6, c7, c8, c9⟩ := t1.1.cell10
  obtain ⟨r0, r1, r2, r3, r4, r5, r6, r7, r8, r9⟩ := t1.2.2.cell10
  have fa := t1.1.free
  have fr := t1.2.2.free
  have fin := Lib.hid (St.fill10 (.int .i64 ty) (.int .i64 mode) (.int .i64 nlink) (.int .i64 n1) (.int .i64 gid) (.int .i64 size) (.int .i64 id) (.int .i64 gen) (.int .i64 now) (.int .i64 n4) (t1.2.2.other w.heap.size 8 (.int .i64 now) (by omega)))
  have fib := Lib.hid (below_fill10 (.int .i64 ty) (.int .i64 mode) (.int .i64 nlink) (.int .i64 n1) (.int .i64 gid) (.int .i64 size) (.int .i64 id) (.int .i64 gen) (.int .i64 now) (.int .i64 n4) (k := w.heap.size + 1 + 1) (by omega) (Below.setCell f1 (p := ⟨w.heap.size, 8, none⟩) (Nat.le_refl _) (.int .i64 now)))
  go_wp2_with fail
  exact ret_cell (r := 6) (k := w.heap.size + 1 + 1) (T := 40) Try.results16 rfl fin.out Try.underlying40 rfl (by kernel_rfl) rfl ⟨rfl, fib.out⟩
set_option maxHeartbeats 1000000 in
set_option maxRecDepth 100000 in
theorem apFTTFF (ty mode nlink uid gid size id gen change time n0 n1 n2 n3 n4 now : Int) (w : World) : Calls Try.prog 16 #[.agg #[.int .i64 ty, .int .i64 mode, .int .i64 nlink, .int .i64 uid, .int .i64 gid, .int .i64 size, .int .i64 id, .int .i64 gen, .int .i64 change, .int .i64 time], .agg #[.bool false, .int .i64 n0, .bool true, .int .i64 n1, .bool true, .int .i64 n2, .bool false, .int .i64 n3, .bool false, .int .i64 n4], .int .i64 now] w fun e w' => e = .returned (.agg #[.int .i64 ty, .int .i64 mode, .int .i64 nlink, .int .i64 n1, .int .i64 n2, .int .i64 size, .int .i64 id, .int .i64 gen, .int .i64 now, .int .i64 time]) ∧ Below w.heap.size w w' := by
  have HE := Lib.hid (show ∀ w, Calls Try.prog 10 #[.agg #[.bool false, .int .i64 n0, .bool true, .int .i64 n1, .bool true, .int .i64 n2, .bool false, .int .i64 n3, .bool false, .int .i64 n4]] w fun e w' => e = .returned (.bool false) ∧ Below w.heap.size w w' from fun w => afEmpty_any ⟨⟨false, n0⟩, ⟨true, n1⟩, ⟨true, n2⟩, ⟨false, n3⟩, ⟨false, n4⟩⟩ w)
  have T0 := Lib.hid (Tri.new #[.int .i64 ty, .int .i64 mode, .int .i64 nlink, .int .i64 n1, .int .i64 n2, .int .i64 size, .int .i64 id, .int .i64 gen, .int .i64 change, .int .i64 time] #[.bool false, .int .i64 n0, .bool true, .int .i64 n1, .bool true, .int .i64 n2, .bool false, .int .i64 n3, .bool false, .int .i64 n4] #[.int .i64 0, .int .i64 0, .int .i64 0, .int .i64 0, .int .i64 0, .int .i64 0, .int .i64 0, .int .i64 0, .int .i64 0, .int .i64 0] w)
  have F0 := Lib.hid (below_alloc3 w (.cells #[.int .i64 ty, .int .i64 mode, .int .i64 nlink, .int .i64 n1, .int .i64 n2, .int .i64 size, .int .i64 id, .int .i64 gen, .int .i64 change, .int .i64 time] 40 (0, 0)) (.cells #[.bool false, .int .i64 n0, .bool true, .int .i64 n1, .bool true, .int .i64 n2, .bool false, .int .i64 n3, .bool false, .int .i64 n4] 25 (0, 0)) (.cells #[.int .i64 0, .int .i64 0, .int .i64 0, .int .i64 0, .int .i64 0, .int .i64 0, .int .i64 0, .int .i64 0, .int .i64 0, .int .i64 0] 40 (0, 0)))
  go_enter Try.func16, Try.ntmps16
  go_wp2_with fail
  go_must (refine (HE.out _).mono ?_)
  rintro e w1 ⟨rfl, b1⟩
  have t1 := T0.out.below b1
  have f1 := below_step F0.out b1
  clear b1
  obtain ⟨c0, c1, c2, c3, c4, c5, c6, c7, c8, c9⟩ := t1.1.cell10
  obtain ⟨r0, r1, r2, r3, r4, r5, r6, r7, r8, r9⟩ := t1.2.2.cell10
  have fa := t1.1.free
  have fr := t1.2.2.free
  have fin := Lib.hid (St.fill10 (.int .i64 ty) (.int .i64 mode) (.int .i64 nlink) (.int .i64 n1) (.int .i64 n2) (.int .i64 size) (.int .i64 id) (.int .i64 gen) (.int .i64 now) (.int .i64 time) (t1.2.2.other w.heap.size 8 (.int .i64 now) (by omega)))
  have fib := Lib.hid (below_fill10 (.int .i64 ty) (.int .i64 mode) (.int .i64 nlink) (.int .i64 n1) (.int .i64 n2) (.int .i64 size) (.int .i64 id) (.int .i64 gen) (.int .i64 now) (.int .i64 time) (k := w.heap.size + 1 + 1) (by omega) (Below.setCell f1 (p := ⟨w.heap.size, 8, none⟩) (Nat.le_refl _) (.int .i64 now)))
  go_wp2_with fail
  exact ret_cell (r := 6) (k := w.heap.size + 1 + 1) (T := 40) Try.results16 rfl fin.out Try.underlying40 rfl (by kernel_rfl) rfl ⟨rfl, fib.out⟩
set_option maxHeartbeats 1000000 in
set_option maxRecDepth 100000 in
theorem apFTTFT (ty mode nlink uid gid size id gen change time n0 n1 n2 n3 n4 now : Int) (w : World) : Calls Try.prog 16 #[.agg #[.int .i64 ty, .int .i64 mode, .int .i64 nlink, .int .i64 uid, .int .i64 gid, .int .i64 size, .int .i64 id, .int .i64 gen, .int .i64 change, .int .i64 time], .agg #[.bool false, .int .i64 n0, .bool true, .int .i64 n1, .bool true, .int .i64 n2, .bool false, .int .i64 n3, .bool true, .int .i64 n4], .int .i64 now] w fun e w' => e = .returned (.agg #[.int .i64 ty, .int .i64 mode, .int .i64 nlink, .int .i64 n1, .int .i64 n2, .int .i64 size, .int .i64 id, .int .i64 gen, .int .i64 now, .int .i64 n4]) ∧ Below w.heap.size w w' := by
  have HE := Lib.hid (show ∀ w, Calls Try.prog 10 #[.agg #[.bool false, .int .i64 n0, .bool true, .int .i64 n1, .bool true, .int .i64 n2, .bool false, .int .i64 n3, .bool true, .int .i64 n4]] w fun e w' => e = .returned (.bool false) ∧ Below w.heap.size w w' from fun w => afEmpty_any ⟨⟨false, n0⟩, ⟨true, n1⟩, ⟨true, n2⟩, ⟨false, n3⟩, ⟨true, n4⟩⟩ w)
  have T0 := Lib.hid (Tri.new #[.int .i64 ty, .int .i64 mode, .int .i64 nlink, .int .i64 n1, .int .i64 n2, .int .i64 size, .int .i64 id, .int .i64 gen, .int .i64 change, .int .i64 n4] #[.bool false, .int .i64 n0, .bool true, .int .i64 n1, .bool true, .int .i64 n2, .bool false, .int .i64 n3, .bool true, .int .i64 n4] #[.int .i64 0, .int .i64 0, .int .i64 0, .int .i64 0, .int .i64 0, .int .i64 0, .int .i64 0, .int .i64 0, .int .i64 0, .int .i64 0] w)
  have F0 := Lib.hid (below_alloc3 w (.cells #[.int .i64 ty, .int .i64 mode, .int .i64 nlink, .int .i64 n1, .int .i64 n2, .int .i64 size, .int .i64 id, .int .i64 gen, .int .i64 change, .int .i64 n4] 40 (0, 0)) (.cells #[.bool false, .int .i64 n0, .bool true, .int .i64 n1, .bool true, .int .i64 n2, .bool false, .int .i64 n3, .bool true, .int .i64 n4] 25 (0, 0)) (.cells #[.int .i64 0, .int .i64 0, .int .i64 0, .int .i64 0, .int .i64 0, .int .i64 0, .int .i64 0, .int .i64 0, .int .i64 0, .int .i64 0] 40 (0, 0)))
  go_enter Try.func16, Try.ntmps16
  go_wp2_with fail
  go_must (refine (HE.out _).mono ?_)
  rintro e w1 ⟨rfl, b1⟩
  have t1 := T0.out.below b1
  have f1 := below_step F0.out b1
  clear b1
  obtain ⟨c0, c1, c2, c3, c4, c5, c6, c7, c8, c9⟩ := t1.1.cell10
  obtain ⟨r0, r1, r2, r3, r4, r5, r6, r7, r8, r9⟩ := t1.2.2.cell10
  have fa := t1.1.free
  have fr := t1.2.2.free
  have fin := Lib.hid (St.fill10 (.int .i64 ty) (.int .i64 mode) (.int .i64 nlink) (.int .i64 n1) (.int .i64 n2) (.int .i64 size) (.int .i64 id) (.int .i64 gen) (.int .i64 now) (.int .i64 n4) (t1.2.2.other w.heap.size 8 (.int .i64 now) (by omega)))
  have fib := Lib.hid (below_fill10 (.int .i64 ty) (.int .i64 mode) (.int .i64 nlink) (.int .i64 n1) (.int .i64 n2) (.int .i64 size) (.int .i64 id) (.int .i64 gen) (.int .i64 now) (.int .i64 n4) (k := w.heap.size + 1 + 1) (by omega) (Below.setCell f1 (p := ⟨w.heap.size, 8, none⟩) (Nat.le_refl _) (.int .i64 now)))
  go_wp2_with fail
  exact ret_cell (r := 6) (k := w.heap.size + 1 + 1) (T := 40) Try.results16 rfl fin.out Try.underlying40 rfl (by kernel_rfl) rfl ⟨rfl, fib.out⟩
set_option maxHeartbeats 1000000 in
set_option maxRecDepth 100000 in
theorem apFTTTF (ty mode nlink uid gid size id gen change time n0 n1 n2 n3 n4 now : Int) (w : World) : Calls Try.prog 16 #[.agg #[.int .i64 ty, .int .i64 mode, .int .i64 nlink, .int .i64 uid, .int .i64 gid, .int .i64 size, .int .i64 id, .int .i64 gen, .int .i64 change, .int .i64 time], .agg #[.bool false, .int .i64 n0, .bool true, .int .i64 n1, .bool true, .int .i64 n2, .bool true, .int .i64 n3, .bool false, .int .i64 n4], .int .i64 now] w fun e w' => e = .returned (.agg #[.int .i64 ty, .int .i64 mode, .int .i64 nlink, .int .i64 n1, .int .i64 n2, .int .i64 size, .int .i64 id, .int .i64 gen, .int .i64 now, .int .i64 now]) ∧ Below w.heap.size w w' := by
  have HE := Lib.hid (show ∀ w, Calls Try.prog 10 #[.agg #[.bool false, .int .i64 n0, .bool true, .int .i64 n1, .bool true, .int .i64 n2, .bool true, .int .i64 n3, .bool false, .int .i64 n4]] w fun e w' => e = .returned (.bool false) ∧ Below w.heap.size w w' from fun w => afEmpty_any ⟨⟨false, n0⟩, ⟨true, n1⟩, ⟨true, n2⟩, ⟨true, n3⟩, ⟨false, n4⟩⟩ w)
  have T0 := Lib.hid (Tri.new #[.int .i64 ty, .int .i64 mode, .int .i64 nlink, .int .i64 n1, .int .i64 n2, .int .i64 size, .int .i64 id, .int .i64 gen, .int .i64 change, .int .i64 now] #[.bool false, .int .i64 n0, .bool true, .int .i64 n1, .bool true, .int .i64 n2, .bool true, .int .i64 n3, .bool false, .int .i64 n4] #[.int .i64 0, .int .i64 0, .int .i64 0, .int .i64 0, .int .i64 0, .int .i64 0, .int .i64 0, .int .i64 0, .int .i64 0, .int .i64 0] w)
  have F0 := Lib.hid (below_alloc3 w (.cells #[.int .i64 ty, .int .i64 mode, .int .i64 nlink, .int .i64 n1, .int .i64 n2, .int .i64 size, .int .i64 id, .int .i64 gen, .int .i64 change, .int .i64 now] 40 (0, 0)) (.cells #[.bool false, .int .i64 n0, .bool true, .int .i64 n1, .bool true, .int .i64 n2, .bool true, .int .i64 n3, .bool false, .int .i64 n4] 25 (0, 0)) (.cells #[.int .i64 0, .int .i64 0, .int .i64 0, .int .i64 0, .int .i64 0, .int .i64 0, .int .i64 0, .int .i64 0, .int .i64 0, .int .i64 0] 40 (0, 0)))
  go_enter Try.func16, Try.ntmps16
  go_wp2_with fail
  go_must (refine (HE.out _).mono ?_)
  rintro e w1 ⟨rfl, b1⟩
  have t1 := T0.out.below b1
  have f1 := below_step F0.out b1
  clear b1
  obtain ⟨c0, c1, c2, c3, c4, c5, c6, c7, c8, c9⟩ := t1.1.cell10
  obtain ⟨r0, r1, r2, r3, r4, r5, r6, r7, r8, r9⟩ := t1.2.2.cell10
  have fa := t1.1.free
  have fr := t1.2.2.free
  have fin := Lib.hid (St.fill10 (.int .i64 ty) (.int .i64 mode) (.int .i64 nlink) (.int .i64 n1) (.int .i64 n2) (.int .i64 size) (.int .i64 id) (.int .i64 gen) (.int .i64 now) (.int .i64 now) (t1.2.2.other w.heap.size 8 (.int .i64 now) (by omega)))
  have fib := Lib.hid (below_fill10 (.int .i64 ty) (.int .i64 mode) (.int .i64 nlink) (.int .i64 n1) (.int .i64 n2) (.int .i64 size) (.int .i64 id) (.int .i64 gen) (.int .i64 now) (.int .i64 now) (k := w.heap.size + 1 + 1) (by omega) (Below.setCell f1 (p := ⟨w.heap.size, 8, none⟩) (Nat.le_refl _) (.int .i64 now)))
  go_wp2_with fail
  exact ret_cell (r := 6) (k := w.heap.size + 1 + 1) (T := 40) Try.results16 rfl fin.out Try.underlying40 rfl (by kernel_rfl) rfl ⟨rfl, fib.out⟩
set_option maxHeartbeats 1000000 in
set_option maxRecDepth 100000 in
theorem apFTTTT (ty mode nlink uid gid size id gen change time n0 n1 n2 n3 n4 now : Int) (w : World) : Calls Try.prog 16 #[.agg #[.int .i64 ty, .int .i64 mode, .int .i64 nlink, .int .i64 uid, .int .i64 gid, .int .i64 size, .int .i64 id, .int .i64 gen, .int .i64 change, .int .i64 time], .agg #[.bool false, .int .i64 n0, .bool true, .int .i64 n1, .bool true, .int .i64 n2, .bool true, .int .i64 n3, .bool true, .int .i64 n4], .int .i64 now] w fun e w' => e = .returned (.agg #[.int .i64 ty, .int .i64 mode, .int .i64 nlink, .int .i64 n1, .int .i64 n2, .int .i64 size, .int .i64 id, .int .i64 gen, .int .i64 now, .int .i64 n4]) ∧ Below w.heap.size w w' := by
  have HE := Lib.hid (show ∀ w, Calls Try.prog 10 #[.agg #[.bool false, .int .i64 n0, .bool true, .int .i64 n1, .bool true, .int .i64 n2, .bool true, .int .i64 n3, .bool true, .int .i64 n4]] w fun e w' => e = .returned (.bool false) ∧ Below w.heap.size w w' from fun w => afEmpty_any ⟨⟨false, n0⟩, ⟨true, n1⟩, ⟨true, n2⟩, ⟨true, n3⟩, ⟨true, n4⟩⟩ w)
  have T0 := Lib.hid (Tri.new #[.int .i64 ty, .int .i64 mode, .int .i64 nlink, .int .i64 n1, .int .i64 n2, .int .i64 size, .int .i64 id, .int .i64 gen, .int .i64 change, .int .i64 n4] #[.bool false, .int .i64 n0, .bool true, .int .i64 n1, .bool true, .int .i64 n2, .bool true, .int .i64 n3, .bool true, .int .i64 n4] #[.int .i64 0, .int .i64 0, .int .i64 0, .int .i64 0, .int .i64 0, .int .i64 0, .int .i64 0, .int .i64 0, .int .i64 0, .int .i64 0] w)
  have F0 := Lib.hid (below_alloc3 w (.cells #[.int .i64 ty, .int .i64 mode, .int .i64 nlink, .int .i64 n1, .int .i64 n2, .int .i64 size, .int .i64 id, .int .i64 gen, .int .i64 change, .int .i64 n4] 40 (0, 0)) (.cells #[.bool false, .int .i64 n0, .bool true, .int .i64 n1, .bool true, .int .i64 n2, .bool true, .int .i64 n3, .bool true, .int .i64 n4] 25 (0, 0)) (.cells #[.int .i64 0, .int .i64 0, .int .i64 0, .int .i64 0, .int .i64 0, .int .i64 0, .int .i64 0, .int .i64 0, .int .i64 0, .int .i64 0] 40 (0, 0)))
  go_enter Try.func16, Try.ntmps16
  go_wp2_with fail
  go_must (refine (HE.out _).mono ?_)
  rintro e w1 ⟨rfl, b1⟩
  have t1 := T0.out.below b1
  have f1 := below_step F0.out b1
  clear b1
  obtain ⟨c0, c1, c2, c3, c4, c5, c6, c7, c8, c9⟩ := t1.1.cell10
  obtain ⟨r0, r1, r2, r3, r4, r5, r6, r7, r8, r9⟩ := t1.2.2.cell10
  have fa := t1.1.free
  have fr := t1.2.2.free
  have fin := Lib.hid (St.fill10 (.int .i64 ty) (.int .i64 mode) (.int .i64 nlink) (.int .i64 n1) (.int .i64 n2) (.int .i64 size) (.int .i64 id) (.int .i64 gen) (.int .i64 now) (.int .i64 n4) (t1.2.2.other w.heap.size 8 (.int .i64 now) (by omega)))
  have fib := Lib.hid (below_fill10 (.int .i64 ty) (.int .i64 mode) (.int .i64 nlink) (.int .i64 n1) (.int .i64 n2) (.int .i64 size) (.int .i64 id) (.int .i64 gen) (.int .i64 now) (.int .i64 n4) (k := w.heap.size + 1 + 1) (by omega) (Below.setCell f1 (p := ⟨w.heap.size, 8, none⟩) (Nat.le_refl _) (.int .i64 now)))
  go_wp2_with fail
  exact ret_cell (r := 6) (k := w.heap.size + 1 + 1) (T := 40) Try.results16 rfl fin.out Try.underlying40 rfl (by kernel_rfl) rfl ⟨rfl, fib.out⟩
set_option maxHeartbeats 1000000 in
set_option maxRecDepth 100000 in
theorem apTFFFF (ty mode nlink uid gid size id gen change time n0 n1 n2 n3 n4 now : Int) (w : World) : Calls Try.prog 16 #[.agg #[.int .i64 ty, .int .i64 mode, .int .i64 nlink, .int .i64 uid, .int .i64 gid, .int .i64 size, .int .i64 id, .int .i64 gen, .int .i64 change, .int .i64 time], .agg #[.bool true, .int .i64 n0, .bool false, .int .i64 n1, .bool false, .int .i64 n2, .bool false, .int .i64 n3, .bool false, .int .i64 n4], .int .i64 now] w fun e w' => e = .returned (.agg #[.int .i64 ty, .int .i64 n0, .int .i64 nlink, .int .i64 uid, .int .i64 gid, .int .i64 size, .int .i64 id, .int .i64 gen, .int .i64 now, .int .i64 time]) ∧ Below w.heap.size w w' := by
  have HE := Lib.hid (show ∀ w, Calls Try.prog 10 #[.agg #[.bool true, .int .i64 n0, .bool false, .int .i64 n1, .bool false, .int .i64 n2, .bool false, .int .i64 n3, .bool false, .int .i64 n4]] w fun e w' => e = .returned (.bool false) ∧ Below w.heap.size w w' from fun w => afEmpty_any ⟨⟨true, n0⟩, ⟨false, n1⟩, ⟨false, n2⟩, ⟨false, n3⟩, ⟨false, n4⟩⟩ w)
  have T0 := Lib.hid (Tri.new #[.int .i64 ty, .int .i64 n0, .int .i64 nlink, .int .i64 uid, .int .i64 gid, .int .i64 size, .int .i64 id, .int .i64 gen, .int .i64 change, .int .i64 time] #[.bool true, .int .i64 n0, .bool false, .int .i64 n1, .bool false, .int .i64 n2, .bool false, .int .i64 n3, .bool false, .int .i64 n4] #[.int .i64 0, .int .i64 0, .int .i64 0, .int .i64 0, .int .i64 0, .int .i64 0, .int .i64 0, .int .i64 0, .int .i64 0, .int .i64 0] w)
  have F0 := Lib.hid (below_alloc3 w (.cells #[.int .i64 ty, .int .i64 n0, .int .i64 nlink, .int .i64 uid, .int .i64 gid, .int .i64 size, .int .i64 id, .int .i64 gen, .int .i64 change, .int .i64 time] 40 (0, 0)) (.cells #[.bool true, .int .i64 n0, .bool false, .int .i64 n1, .bool false, .int .i64 n2, .bool false, .int .i64 n3, .bool false, .int .i64 n4] 25 (0, 0)) (.cells #[.int .i64 0, .int .i64 0, .int .i64 0, .int .i64 0, .int .i64 0, .int .i64 0, .int .i64 0, .int .i64 0, .int .i64 0, .int .i64 0] 40 (0, 0)))
  go_enter Try.func16, Try.ntmps16
  go_wp2_with fail
  go_must (refine (HE.out _).mono ?_)
  rintro e w1 ⟨rfl, b1⟩
  have t1 := T0.out.below b1
  have f1 := below_step F0.out b1
  clear b1
  obtain ⟨c0, c1, c2, c3, c4, c5, c6, c7, c8, c9⟩ := t1.1.cell10
  obtain ⟨r0, r1, r2, r3, r4, r5, r6, r7, r8, r9⟩ := t1.2.2.cell10
  have fa := t1.1.free
  have fr := t1.2.2.free
  have fin := Lib.hid (St.fill10 (.int .i64 ty) (.int .i64 n0) (.int .i64 nlink) (.int .i64 uid) (.int .i64 gid) (.int .i64 size) (.int .i64 id) (.int .i64 gen) (.int .i64 now) (.int .i64 time) (t1.2.2.other w.heap.size 8 (.int .i64 now) (by omega)))
  have fib := Lib.hid (below_fill10 (.int .i64 ty) (.int .i64 n0) (.int .i64 nlink) (.int .i64 uid) (.int .i64 gid) (.int .i64 size) (.int .i64 id) (.int .i64 gen) (.int .i64 now) (.int .i64 time) (k := w.heap.size + 1 + 1) (by omega) (Below.setCell f1 (p := ⟨w.heap.size, 8, none⟩) (Nat.le_refl _) (.int .i64 now)))
  go_wp2_with fail
  exact ret_cell (r := 6) (k := w.heap.size + 1 + 1) (T := 40) Try.results16 rfl fin.out Try.underlying40 rfl (by kernel_rfl) rfl ⟨rfl, fib.out⟩
set_option maxHeartbeats 1000000 in
set_option maxRecDepth 100000 in
theorem apTFFFT (ty mode nlink uid gid size id gen change time n0 n1 n2 n3 n4 now : Int) (w : World) : Calls Try.prog 16 #[.agg #[.int .i64 ty, .int .i64 mode, .int .i64 nlink, .int .i64 uid, .int .i64 gid, .int .i64 size, .int .i64 id, .int .i64 gen, .int .i64 change, .int .i64 time], .agg #[.bool true, .int .i64 n0, .bool false, .int .i64 n1, .bool false, .int .i64 n2, .bool false, .int .i64 n3, .bool true, .int .i64 n4], .int .i64 now] w fun e w' => e = .returned (.agg #[.int .i64 ty, .int .i64 n0, .int .i64 nlink, .int .i64 uid, .int .i64 gid, .int .i64 size, .int .i64 id, .int .i64 gen, .int .i64 now, .int .i64 n4]) ∧ Below w.heap.size w w' := by
  have HE := Lib.hid (show ∀ w, Calls Try.prog 10 #[.agg #[.bool true, .int .i64 n0, .bool false, .int .i64 n1, .bool false, .int .i64 n2, .bool false, .int .i64 n3, .bool true, .int .i64 n4]] w fun e w' => e = .returned (.bool false) ∧ Below w.heap.size w w' from fun w => afEmpty_any ⟨⟨true, n0⟩, ⟨false, n1⟩, ⟨false, n2⟩, ⟨false, n3⟩, ⟨true, n4⟩⟩ w)
  have T0 := Lib.hid (Tri.new #[.int .i64 ty, .int .i64 n0, .int .i64 nlink, .int .i64 uid, .int .i64 gid, .int .i64 size, .int .i64 id, .int .i64 gen, .int .i64 change, .int .i64 n4] #[.bool true, .int .i64 n0, .bool false, .int .i64 n1, .bool false, .int .i64 n2, .bool false, .int .i64 n3, .bool true, .int .i64 n4] #[.int .i64 0, .int .i64 0, .int .i64 0, .int .i64 0, .int .i64 0, .int .i64 0, .int .i64 0, .int .i64 0, .int .i64 0, .int .i64 0] w)
  have F0 := Lib.hid (below_alloc3 w (.cells #[.int .i64 ty, .int .i64 n0, .int .i64 nlink, .int .i64 uid, .int .i64 gid, .int .i64 size, .int .i64 id, .int .i64 gen, .int .i64 change, .int .i64 n4] 40 (0, 0)) (.cells #[.bool true, .int .i64 n0, .bool false, .int .i64 n1, .bool false, .int .i64 n2, .bool false, .int .i64 n3, .bool true, .int .i64 n4] 25 (0, 0)) (.cells #[.int .i64 0, .int .i64 0, .int .i64 0, .int .i64 0, .int .i64 0, .int .i64 0, .int .i64 0, .int .i64 0, .int .i64 0, .int .i64 0] 40 (0, 0)))
  go_enter Try.func16, Try.ntmps16
  go_wp2_with fail
  go_must (refine (HE.out _).mono ?_)
  rintro e w1 ⟨rfl, b1⟩
  have t1 := T0.out.below b1
  have f1 := below_step F0.out b1
  clear b1
  obtain ⟨c0, c1, c2, c3, c4, c5, c6, c7, c8, c9⟩ := t1.1.cell10
  obtain ⟨r0, r1, r2, r3, r4, r5, r6, r7, r8, r9⟩ := t1.2.2.cell10
  have fa := t1.1.free
  have fr := t1.2.2.free
  have fin := Lib.hid (St.fill10 (.int .i64 ty) (.int .i64 n0) (.int .i64 nlink) (.int .i64 uid) (.int .i64 gid) (.int .i64 size) (.int .i64 id) (.int .i64 gen) (.int .i64 now) (.int .i64 n4) (t1.2.2.other w.heap.size 8 (.int .i64 now) (by omega)))
  have fib := Lib.hid (below_fill10 (.int .i64 ty) (.int .i64 n0) (.int .i64 nlink) (.int .i64 uid) (.int .i64 gid) (.int .i64 size) (.int .i64 id) (.int .i64 gen) (.int .i64 now) (.int .i64 n4) (k := w.heap.size + 1 + 1) (by omega) (Below.setCell f1 (p := ⟨w.heap.size, 8, none⟩) (Nat.le_refl _) (.int .i64 now)))
  go_wp2_with fail
  exact ret_cell (r := 6) (k := w.heap.size + 1 + 1) (T := 40) Try.results16 rfl fin.out Try.underlying40 rfl (by kernel_rfl) rfl ⟨rfl, fib.out⟩
set_option maxHeartbeats 1000000 in
set_option maxRecDepth 100000 in
theorem apTFFTF (ty mode nlink uid gid size id gen change time n0 n1 n2 n3 n4 now : Int) (w : World) : Calls Try.prog 16 #[.agg #[.int .i64 ty, .int .i64 mode, .int .i64 nlink, .int .i64 uid, .int .i64 gid, .int .i64 size, .int .i64 id, .int .i64 gen, .int .i64 change, .int .i64 time], .agg #[.bool true, .int .i64 n0, .bool false, .int .i64 n1, .bool false, .int .i64 n2, .bool true, .int .i64 n3, .bool false, .int .i64 n4], .int .i64 now] w fun e w' => e = .returned (.agg #[.int .i64 ty, .int .i64 n0, .int .i64 nlink, .int .i64 uid, .int .i64 gid, .int .i64 size, .int .i64 id, .int .i64 gen, .int .i64 now, .int .i64 now]) ∧ Below w.heap.size w w' := by
  have HE := Lib.hid (show ∀ w, Calls Try.prog 10 #[.agg #[.bool true, .int .i64 n0, .bool false, .int .i64 n1, .bool false, .int .i64 n2, .bool true, .int .i64 n3, .bool false, .int .i64 n4]] w fun e w' => e = .returned (.bool false) ∧ Below w.heap.size w w' from fun w => afEmpty_any ⟨⟨true, n0⟩, ⟨false, n1⟩, ⟨false, n2⟩, ⟨true, n3⟩, ⟨false, n4⟩⟩ w)
  have T0 := Lib.hid (Tri.new #[.int .i64 ty, .int .i64 n0, .int .i64 nlink, .int .i64 uid, .int .i64 gid, .int .i64 size, .int .i64 id, .int .i64 gen, .int .i64 change, .int .i64 now] #[.bool true, .int .i64 n0, .bool false, .int .i64 n1, .bool false, .int .i64 n2, .bool true, .int .i64 n3, .bool false, .int .i64 n4] #[.int .i64 0, .int .i64 0, .int .i64 0, .int .i64 0, .int .i64 0, .int .i64 0, .int .i64 0, .int .i64 0, .int .i64 0, .int .i64 0] w)
  have F0 := Lib.hid (below_alloc3 w (.cells #[.int .i64 ty, .int .i64 n0, .int .i64 nlink, .int .i64 uid, .int .i64 gid, .int .i64 size, .int .i64 id, .int .i64 gen, .int .i64 change, .int .i64 now] 40 (0, 0)) (.cells #[.bool true, .int .i64 n0, .bool false, .int .i64 n1, .bool false, .int .i64 n2, .bool true, .int .i64 n3, .bool false, .int .i64 n4] 25 (0, 0)) (.cells #[.int .i64 0, .int .i64 0, .int .i64 0, .int .i64 0, .int .i64 0, .int .i64 0, .int .i64 0, .int .i64 0, .int .i64 0, .int .i64 0] 40 (0, 0)))
  go_enter Try.func16, Try.ntmps16
  go_wp2_with fail
  go_must (refine (HE.out _).mono ?_)
  rintro e w1 ⟨rfl, b1⟩
  have t1 := T0.out.below b1
  have f1 := below_step F0.out b1
  clear b1
  obtain ⟨c0, c1, c2, c3, c4, c5, c6, c7, c8, c9⟩ := t1.1.cell10
  obtain ⟨r0, r1, r2, r3, r4, r5, r6, r7, r8, r9⟩ := t1.2.2.cell10
  have fa := t1.1.free
  have fr := t1.2.2.free
  have fin := Lib.hid (St.fill10 (.int .i64 ty) (.int .i64 n0) (.int .i64 nlink) (.int .i64 uid) (.int .i64 gid) (.int .i64 size) (.int .i64 id) (.int .i64 gen) (.int .i64 now) (.int .i64 now) (t1.2.2.other w.heap.size 8 (.int .i64 now) (by omega)))
  have fib := Lib.hid (below_fill10 (.int .i64 ty) (.int .i64 n0) (.int .i64 nlink) (.int .i64 uid) (.int .i64 gid) (.int .i64 size) (.int .i64 id) (.int .i64 gen) (.int .i64 now) (.int .i64 now) (k := w.heap.size + 1 + 1) (by omega) (Below.setCell f1 (p := ⟨w.heap.size, 8, none⟩) (Nat.le_refl _) (.int .i64 now)))
  go_wp2_with fail
  exact ret_cell (r := 6) (k := w.heap.size + 1 + 1) (T := 40) Try.results16 rfl fin.out Try.underlying40 rfl (by kernel_rfl) rfl ⟨rfl, fib.out⟩
set_option maxHeartbeats 1000000 in
set_option maxRecDepth 100000 in
theorem apTFFTT (ty mode nlink uid gid size id gen change time n0 n1 n2 n3 n4 now : Int) (w : World) : Calls Try.prog 16 #[.agg #[.int .i64 ty, .int .i64 mode, .int .i64 nlink, .int .i64 uid, .int .i64 gid, .int .i64 size, .int .i64 id, .int .i64 gen, .int .i64 change, .int .i64 time], .agg #[.bool true, .int .i64 n0, .bool false, .int .i64 n1, .bool false, .int .i64 n2, .bool true, .int .i64 n3, .bool true, .int .i64 n4], .int .i64 now] w fun e w' => e = .returned (.agg #[.int .i64 ty, .int .i64 n0, .int .i64 nlink, .int .i64 uid, .int .i64 gid, .int .i64 size, .int .i64 id, .int .i64 gen, .int .i64 now, .int .i64 n4]) ∧ Below w.heap.size w w' := by
  have HE := Lib.hid (show ∀ w, Calls Try.prog 10 #[.agg #[.bool true, .int .i64 n0, .bool false, .int .i64 n1, .bool false, .int .i64 n2, .bool true, .int .i64 n3, .bool true, .int .i64 n4]] w fun e w' => e = .returned (.bool false) ∧ Below w.heap.size w w' from fun w => afEmpty_any ⟨⟨true, n0⟩, ⟨false, n1⟩, ⟨false, n2⟩, ⟨true, n3⟩, ⟨true, n4⟩⟩ w)
  have T0 := Lib.hid (Tri.new #[.int .i64 ty, .int .i64 n0, .int .i64 nlink, .int .i64 uid, .int .i64 gid, .int .i64 size, .int .i64 id, .int .i64 gen, .int .i64 change, .int .i64 n4] #[.bool true, .int .i64 n0, .bool false, .int .i64 n1, .bool false, .int .i64 n2, .bool true, .int .i64 n3, .bool true, .int .i64 n4] #[.int .i64 0, .int .i64 0, .int .i64 0, .int .i64 0, .int .i64 0, .int .i64 0, .int .i64 0, .int .i64 0, .int .i64 0, .int .i64 0] w)
  have F0 := Lib.hid (below_alloc3 w (.cells #[.int .i64 ty, .int .i64 n0, .int .i64 nlink, .int .i64 uid, .int .i64 gid, .int .i64 size, .int .i64 id, .int .i64 gen, .int .i64 change, .int .i64 n4] 40 (0, 0)) (.cells #[.bool true, .int .i64 n0, .bool false, .int .i64 n1, .bool false, .int .i64 n2, .bool true, .int .i64 n3, .bool true, .int .i64 n4] 25 (0, 0)) (.cells #[.int .i64 0, .int .i64 0, .int .i64 0, .int .i64 0, .int .i64 0, .int .i64 0, .int .i64 0, .int .i64 0, .int .i64 0, .int .i64 0] 40 (0, 0)))
  go_enter Try.func16, Try.ntmps16
  go_wp2_with fail
  go_must (refine (HE.out _).mono ?_)
  rintro e w1 ⟨rfl, b1⟩
  have t1 := T0.out.below b1
  have f1 := below_step F0.out b1
  clear b1
  obtain ⟨c0, c1, c2, c3, c4, c5, c6, c7, c8, c9⟩ := t1.1.cell10
  obtain ⟨r0, r1, r2, r3, r4, r5, r6, r7, r8, r9⟩ := t1.2.2.cell10
  have fa := t1.1.free
  have fr := t1.2.2.free
  have fin := Lib.hid (St.fill10 (.int .i64 ty) (.int .i64 n0) (.int .i64 nlink) (.int .i64 uid) (.int .i64 gid) (.int .i64 size) (.int .i64 id) (.int .i64 gen) (.int .i64 now) (.int .i64 n4) (t1.2.2.other w.heap.size 8 (.int .i64 now) (by omega)))
  have fib := Lib.hid (below_fill10 (.int .i64 ty) (.int .i64 n0) (.int .i64 nlink) (.int .i64 uid) (.int .i64 gid) (.int .i64 size) (.int .i64 id) (.int .i64 gen) (.int .i64 now) (.int .i64 n4) (k := w.heap.size + 1 + 1) (by omega) (Below.setCell f1 (p := ⟨w.heap.size, 8, none⟩) (Nat.le_refl _) (.int .i64 now)))
  go_wp2_with fail
  exact ret_cell (r := 6) (k := w.heap.size + 1 + 1) (T := 40) Try.results16 rfl fin.out Try.underlying40 rfl (by kernel_rfl) rfl ⟨rfl, fib.out⟩
set_option maxHeartbeats 1000000 in
set_option maxRecDepth 100000 in
theorem apTFTFF (ty mode nlink uid gid size id gen change time n0 n1 n2 n3 n4 now : Int) (w : World) : Calls Try.prog 16 #[.agg #[.int .i64 ty, .int .i64 mode, .int .i64 nlink, .int .i64 uid, .int .i64 gid, .int .i64 size, .int .i64 id, .int .i64 gen, .int .i64 change, .int .i64 time], .agg #[.bool true, .int .i64 n0, .bool false, .int .i64 n1, .bool true, .int .i64 n2, .bool false, .int .i64 n3, .bool false, .int .i64 n4], .int .i64 now] w fun e w' => e = .returned (.agg #[.int .i64 ty, .int .i64 n0, .int .i64 nlink, .int .i64 uid, .int .i64 n2, .int .i64 size, .int .i64 id, .int .i64 gen, .int .i64 now, .int .i64 time]) ∧ Below w.heap.size w w' := by
  have HE := Lib.hid (show ∀ w, Calls Try.prog 10 #[.agg #[.bool true, .int .i64 n0, .bool false, .int .i64 n1, .bool true, .int .i64 n2, .bool false, .int .i64 n3, .bool false, .int .i64 n4]] w fun e w' => e = .returned (.bool false) ∧ Below w.heap.size w w' from fun w => afEmpty_any ⟨⟨true, n0⟩, ⟨false, n1⟩, ⟨true, n2⟩, ⟨false, n3⟩, ⟨false, n4⟩⟩ w)
  have T0 := Lib.hid (Tri.new #[.int .i64 ty, .int .i64 n0, .int .i64 nlink, .int .i64 uid, .int .i64 n2, .int .i64 size, .int .i64 id, .int .i64 gen, .int .i64 change, .int .i64 time] #[.bool true, .int .i64 n0, .bool false, .int .i64 n1, .bool true, .int .i64 n2, .bool false, .int .i64 n3, .bool false, .int .i64 n4] #[.int .i64 0, .int .i64 0, .int .i64 0, .int .i64 0, .int .i64 0, .int .i64 0, .int .i64 0, .int .i64 0, .int .i64 0, .int .i64 0] w)
  have F0 := Lib.hid (below_alloc3 w (.cells #[.int .i64 ty, .int .i64 n0, .int .i64 nlink, .int .i64 uid, .int .i64 n2, .int .i64 size, .int .i64 id, .int .i64 gen, .int .i64 change, .int .i64 time] 40 (0, 0)) (.cells #[.bool true, .int .i64 n0, .bool false, .int .i64 n1, .bool true, .int .i64 n2, .bool false, .int .i64 n3, .bool false, .int .i64 n4] 25 (0, 0)) (.cells #[.int .i64 0, .int .i64 0, .int .i64 0, .int .i64 0, .int .i64 0, .int .i64 0, .int .i64 0, .int .i64 0, .int .i64 0, .int .i64 0] 40 (0, 0)))
  go_enter Try.func16, Try.ntmps16
  go_wp2_with fail
  go_must (refine (HE.out _).mono ?_)
  rintro e w1 ⟨rfl, b1⟩
  have t1 := T0.out.below b1
  have f1 := below_step F0.out b1
  clear b1
  obtain ⟨c0, c1, c2, c3, c4, c5, c6, c7, c8, c9⟩ := t1.1.cell10
  obtain ⟨r0, r1, r2, r3, r4, r5, r6, r7, r8, r9⟩ := t1.2.2.cell10
  have fa := t1.1.free
  have fr := t1.2.2.free
  have fin := Lib.hid (St.fill10 (.int .i64 ty) (.int .i64 n0) (.int .i64 nlink) (.int .i64 uid) (.int .i64 n2) (.int .i64 size) (.int .i64 id) (.int .i64 gen) (.int .i64 now) (.int .i64 time) (t1.2.2.other w.heap.size 8 (.int .i64 now) (by omega)))
  have fib := Lib.hid (below_fill10 (.int .i64 ty) (.int .i64 n0) (.int .i64 nlink) (.int .i64 uid) (.int .i64 n2) (.int .i64 size) (.int .i64 id) (.int .i64 gen) (.int .i64 now) (.int .i64 time) (k := w.heap.size + 1 + 1) (by omega) (Below.setCell f1 (p := ⟨w.heap.size, 8, none⟩) (Nat.le_refl _) (.int .i64 now)))
  go_wp2_with fail
  exact ret_cell (r := 6) (k := w.heap.size + 1 + 1) (T := 40) Try.results16 rfl fin.out Try.underlying40 rfl (by kernel_rfl) rfl ⟨rfl, fib.out⟩
set_option maxHeartbeats 1000000 in
set_option maxRecDepth 100000 in
theorem apTFTFT (ty mode nlink uid gid size id gen change time n0 n1 n2 n3 n4 now : Int) (w : World) : Calls Try.prog 16 #[.agg #[.int .i64 ty, .int .i64 mode, .int .i64 nlink, .int .i64 uid, .int .i64 gid, .int .i64 size, .int .i64 id, .int .i64 gen, .int .i64 change, .int .i64 time], .agg #[.bool true, .int .i64 n0, .bool false, .int .i64 n1, .bool true, .int .i64 n2, .bool false, .int .i64 n3, .bool true, .int .i64 n4], .int .i64 now] w fun e w' => e = .returned (.agg #[.int .i64 ty, .int .i64 n0, .int .i64 nlink, .int .i64 uid, .int .i64 n2, .int .i64 size, .int .i64 id, .int .i64 gen, .int .i64 now, .int .i64 n4]) ∧ Below w.heap.size w w' := by
  have HE := Lib.hid (show ∀ w, Calls Try.prog 10 #[.agg #[.bool true, .int .i64 n0, .bool false, .int .i64 n1, .bool true, .int .i64 n2, .bool false, .int .i64 n3, .bool true, .int .i64 n4]] w fun e w' => e = .returned (.bool false) ∧ Below w.heap.size w w' from fun w => afEmpty_any ⟨⟨true, n0⟩, ⟨false, n1⟩, ⟨true, n2⟩, ⟨false, n3⟩, ⟨true, n4⟩⟩ w)
  have T0 := Lib.hid (Tri.new #[.int .i64 ty, .int .i64 n0, .int .i64 nlink, .int .i64 uid, .int .i64 n2, .int .i64 size, .int .i64 id, .int .i64 gen, .int .i64 change, .int .i64 n4] #[.bool true, .int .i64 n0, .bool false, .int .i64 n1, .bool true, .int .i64 n2, .bool false, .int .i64 n3, .bool true, .int .i64 n4] #[.int .i64 0, .int .i64 0, .int .i64 0, .int .i64 0, .int .i64 0, .int .i64 0, .int .i64 0, .int .i64 0, .int .i64 0, .int .i64 0] w)
  have F0 := Lib.hid (below_alloc3 w (.cells #[.int .i64 ty, .int .i64 n0, .int .i64 nlink, .int .i64 uid, .int .i64 n2, .int .i64 size, .int .i64 id, .int .i64 gen, .int .i64 change, .int .i64 n4] 40 (0, 0)) (.cells #[.bool true, .int .i64 n0, .bool false, .int .i64 n1, .bool true, .int .i64 n2, .bool false, .int .i64 n3, .bool true, .int .i64 n4] 25 (0, 0)) (.cells #[.int .i64 0, .int .i64 0, .int .i64 0, .int .i64 0, .int .i64 0, .int .i64 0, .int .i64 0, .int .i64 0, .int .i64 0, .int .i64 0] 40 (0, 0)))
  go_enter Try.func16, Try.ntmps16
  go_wp2_with fail
  go_must (refine (HE.out _).mono ?_)
  rintro e w1 ⟨rfl, b1⟩
  have t1 := T0.out.below b1
  have f1 := below_step F0.out b1
  clear b1
  obtain ⟨c0, c1, c2, c3, c4, c5, c6, c7, c8, c9⟩ := t1.1.cell10
  obtain ⟨r0, r1, r2, r3, r4, r5, r6, r7, r8, r9⟩ := t1.2.2.cell10
  have fa := t1.1.free
  have fr := t1.2.2.free
  have fin := Lib.hid (St.fill10 (.int .i64 ty) (.int .i64 n0) (.int .i64 nlink) (.int .i64 uid) (.int .i64 n2) (.int .i64 size) (.int .i64 id) (.int .i64 gen) (.int .i64 now) (.int .i64 n4) (t1.2.2.other w.heap.size 8 (.int .i64 now) (by omega)))
  have fib := Lib.hid (below_fill10 (.int .i64 ty) (.int .i64 n0) (.int .i64 nlink) (.int .i64 uid) (.int .i64 n2) (.int .i64 size) (.int .i64 id) (.int .i64 gen) (.int .i64 now) (.int .i64 n4) (k := w.heap.size + 1 + 1) (by omega) (Below.setCell f1 (p := ⟨w.heap.size, 8, none⟩) (Nat.le_refl _) (.int .i64 now)))
  go_wp2_with fail
  exact ret_cell (r := 6) (k := w.heap.size + 1 + 1) (T := 40) Try.results16 rfl fin.out Try.underlying40 rfl (by kernel_rfl) rfl ⟨rfl, fib.out⟩
set_option maxHeartbeats 1000000 in
set_option maxRecDepth 100000 in
theorem apTFTTF (ty mode nlink uid gid size id gen change time n0 n1 n2 n3 n4 now : Int) (w : World) : Calls Try.prog 16 #[.agg #[.int .i64 ty, .int .i64 mode, .int .i64 nlink, .int .i64 uid, .int .i64 gid, .int .i64 size, .int .i64 id, .int .i64 gen, .int .i64 change, .int .i64 time], .agg #[.bool true, .int .i64 n0, .bool false, .int .i64 n1, .bool true, .int .i64 n2, .bool true, .int .i64 n3, .bool false, .int .i64 n4], .int .i64 now] w fun e w' => e = .returned (.agg #[.int .i64 ty, .int .i64 n0, .int .i64 nlink, .int .i64 uid, .int .i64 n2, .int .i64 size, .int .i64 id, .int .i64 gen, .int .i64 now, .int .i64 now]) ∧ Below w.heap.size w w' := by
  have HE := Lib.hid (show ∀ w, Calls Try.prog 10 #[.agg #[.bool true, .int .i64 n0, .bool false, .int .i64 n1, .bool true, .int .i64 n2, .bool true, .int .i64 n3, .bool false, .int .i64 n4]] w fun e w' => e = .returned (.bool false) ∧ Below w.heap.size w w' from fun w => afEmpty_any ⟨⟨true, n0⟩, ⟨false, n1⟩, ⟨true, n2⟩, ⟨true, n3⟩, ⟨false, n4⟩⟩ w)
  have T0 := Lib.hid (Tri.new #[.int .i64 ty, .int .i64 n0, .int .i64 nlink, .int .i64 uid, .int .i64 n2, .int .i64 size, .int .i64 id, .int .i64 gen, .int .i64 change, .int .i64 now] #[.bool true, .int .i64 n0, .bool false, .int .i64 n1, .bool true, .int .i64 n2, .bool true, .int .i64 n3, .bool false, .int .i64 n4] #[.int .i64 0, .int .i64 0, .int .i64 0, .int .i64 0, .int .i64 0, .int .i64 0, .int .i64 0, .int .i64 0, .int .i64 0, .int .i64 0] w)
  have F0 := Lib.hid (below_alloc3 w (.cells #[.int .i64 ty, .int .i64 n0, .int .i64 nlink, .int .i64 uid, .int .i64 n2, .int .i64 size, .int .i64 id, .int .i64 gen, .int .i64 change, .int .i64 now] 40 (0, 0)) (.cells #[.bool true, .int .i64 n0, .bool false, .int .i64 n1, .bool true, .int .i64 n2, .bool true, .int .i64 n3, .bool false, .int .i64 n4] 25 (0, 0)) (.cells #[.int .i64 0, .int .i64 0, .int .i64 0, .int .i64 0, .int .i64 0, .int .i64 0, .int .i64 0, .int .i64 0, .int .i64 0, .int .i64 0] 40 (0, 0)))
  go_enter Try.func16, Try.ntmps16
  go_wp2_with fail
  go_must (refine (HE.out _).mono ?_)
  rintro e w1 ⟨rfl, b1⟩
  have t1 := T0.out.below b1
  have f1 := below_step F0.out b1
  clear b1
  obtain ⟨c0, c1, c2, c3, c4, c5, c6, c7, c8, c9⟩ := t1.1.cell10
  obtain ⟨r0, r1, r2, r3, r4, r5, r6, r7, r8, r9⟩ := t1.2.2.cell10
  have fa := t1.1.free
  have fr := t1.2.2.free
  have fin := Lib.hid (St.fill10 (.int .i64 ty) (.int .i64 n0) (.int .i64 nlink) (.int .i64 uid) (.int .i64 n2) (.int .i64 size) (.int .i64 id) (.int .i64 gen) (.int .i64 now) (.int .i64 now) (t1.2.2.other w.heap.size 8 (.int .i64 now) (by omega)))
  have fib := Lib.hid (below_fill10 (.int .i64 ty) (.int .i64 n0) (.int .i64 nlink) (.int .i64 uid) (.int .i64 n2) (.int .i64 size) (.int .i64 id) (.int .i64 gen) (.int .i64 now) (.int .i64 now) (k := w.heap.size + 1 + 1) (by omega) (Below.setCell f1 (p := ⟨w.heap.size, 8, none⟩) (Nat.le_refl _) (.int .i64 now)))
  go_wp2_with fail
  exact ret_cell (r := 6) (k := w.heap.size + 1 + 1) (T := 40) Try.results16 rfl fin.out Try.underlying40 rfl (by kernel_rfl) rfl ⟨rfl, fib.out⟩
set_option maxHeartbeats 1000000 in
set_option maxRecDepth 100000 in
theorem apTFTTT (ty mode nlink uid gid size id gen change time n0 n1 n2 n3 n4 now : Int) (w : World) : Calls Try.prog 16 #[.agg #[.int .i64 ty, .int .i64 mode, .int .i64 nlink, .int .i64 uid, .int .i64 gid, .int .i64 size, .int .i64 id, .int .i64 gen, .int .i64 change, .int .i64 time], .agg #[.bool true, .int .i64 n0, .bool false, .int .i64 n1, .bool true, .int .i64 n2, .bool true, .int .i64 n3, .bool true, .int .i64 n4], .int .i64 now] w fun e w' => e = .returned (.agg #[.int .i64 ty, .int .i64 n0, .int .i64 nlink, .int .i64 uid, .int .i64 n2, .int .i64 size, .int .i64 id, .int .i64 gen, .int .i64 now, .int .i64 n4]) ∧ Below w.heap.size w w' := by
  have HE := Lib.hid (show ∀ w, Calls Try.prog 10 #[.agg #[.bool true, .int .i64 n0, .bool false, .int .i64 n1, .bool true, .int .i64 n2, .bool true, .int .i64 n3, .bool true, .int .i64 n4]] w fun e w' => e = .returned (.bool false) ∧ Below w.heap.size w w' from fun w => afEmpty_any ⟨⟨true, n0⟩, ⟨false, n1⟩, ⟨true, n2⟩, ⟨true, n3⟩, ⟨true, n4⟩⟩ w)
  have T0 := Lib.hid (Tri.new #[.int .i64 ty, .int .i64 n0, .int .i64 nlink, .int .i64 uid, .int .i64 n2, .int .i64 size, .int .i64 id, .int .i64 gen, .int .i64 change, .int .i64 n4] #[.bool true, .int .i64 n0, .bool false, .int .i64 n1, .bool true, .int .i64 n2, .bool true, .int .i64 n3, .bool true, .int .i64 n4] #[.int .i64 0, .int .i64 0, .int .i64 0, .int .i64 0, .int .i64 0, .int .i64 0, .int .i64 0, .int .i64 0, .int .i64 0, .int .i64 0] w)
  have F0 := Lib.hid (below_alloc3 w (.cells #[.int .i64 ty, .int .i64 n0, .int .i64 nlink, .int .i64 uid, .int .i64 n2, .int .i64 size, .int .i64 id, .int .i64 gen, .int .i64 change, .int .i64 n4] 40 (0, 0)) (.cells #[.bool true, .int .i64 n0, .bool false, .int .i64 n1, .bool true, .int .i64 n2, .bool true, .int .i64 n3, .bool true, .int .i64 n4] 25 (0, 0)) (.cells #[.int .i64 0, .int .i64 0, .int .i64 0, .int .i64 0, .int .i64 0, .int .i64 0, .int .i64 0, .int .i64 0, .int .i64 0, .int .i64 0] 40 (0, 0)))
  go_enter Try.func16, Try.ntmps16
  go_wp2_with fail
  go_must (refine (HE.out _).mono ?_)
  rintro e w1 ⟨rfl, b1⟩
  have t1 := T0.out.below b1
  have f1 := below_step F0.out b1
  clear b1
  obtain ⟨c0, c1, c2, c3, c4, c5, c6, c7, c8, c9⟩ := t1.1.cell10
  obtain ⟨r0, r1, r2, r3, r4, r5, r6, r7, r8, r9⟩ := t1.2.2.cell10
  have fa := t1.1.free
  have fr := t1.2.2.free
  have fin := Lib.hid (St.fill10 (.int .i64 ty) (.int .i64 n0) (.int .i64 nlink) (.int .i64 uid) (.int .i64 n2) (.int .i64 size) (.int .i64 id) (.int .i64 gen) (.int .i64 now) (.int .i64 n4) (t1.2.2.other w.heap.size 8 (.int .i64 now) (by omega)))
  have fib := Lib.hid (below_fill10 (.int .i64 ty) (.int .i64 n0) (.int .i64 nlink) (.int .i64 uid) (.int .i64 n2) (.int .i64 size) (.int .i64 id) (.int .i64 gen) (.int .i64 now) (.int .i64 n4) (k := w.heap.size + 1 + 1) (by omega) (Below.setCell f1 (p := ⟨w.heap.size, 8, none⟩) (Nat.le_refl _) (.int .i64 now)))
  go_wp2_with fail
  exact ret_cell (r := 6) (k := w.heap.size + 1 + 1) (T := 40) Try.results16 rfl fin.out Try.underlying40 rfl (by kernel_rfl) rfl ⟨rfl, fib.out⟩
set_option maxHeartbeats 1000000 in
set_option maxRecDepth 100000 in
theorem apTTFFF (ty mode nlink uid gid size id gen change time n0 n1 n2 n3 n4 now : Int) (w : World) : Calls Try.prog 16 #[.agg #[.int .i64 ty, .int .i64 mode, .int .i64 nlink, .int .i64 uid, .int .i64 gid, .int .i64 size, .int .i64 id, .int .i64 gen, .int .i64 change, .int .i64 time], .agg #[.bool true, .int .i64 n0, .bool true, .int .i64 n1, .bool false, .int .i64 n2, .bool false, .int .i64 n3, .bool false, .int .i64 n4], .int .i64 now] w fun e w' => e = .returned (.agg #[.int .i64 ty, .int .i64 n0, .int .i64 nlink, .int .i64 n1, .int .i64 gid, .int .i64 size, .int .i64 id, .int .i64 gen, .int .i64 now, .int .i64 time]) ∧ Below w.heap.size w w' := by
  have HE := Lib.hid (show ∀ w, Calls Try.prog 10 #[.agg #[.bool true, .int .i64 n0, .bool true, .int .i64 n1, .bool false, .int .i64 n2, .bool false, .int .i64 n3, .bool false, .int .i64 n4]] w fun e w' => e = .returned (.bool false) ∧ Below w.heap.size w w' from fun w => afEmpty_any ⟨⟨true, n0⟩, ⟨true, n1⟩, ⟨false, n2⟩, ⟨false, n3⟩, ⟨false, n4⟩⟩ w)
  have T0 := Lib.hid (Tri.new #[.int .i64 ty, .int .i64 n0, .int .i64 nlink, .int .i64 n1, .int .i64 gid, .int .i64 size, .int .i64 id, .int .i64 gen, .int .i64 change, .int .i64 time] #[.bool true, .int .i64 n0, .bool true, .int .i64 n1, .bool false, .int .i64 n2, .bool false, .int .i64 n3, .bool false, .int .i64 n4] #[.int .i64 0, .int .i64 0, .int .i64 0, .int .i64 0, .int .i64 0, .int .i64 0, .int .i64 0, .int .i64 0, .int .i64 0, .int .i64 0] w)
  have F0 := Lib.hid (below_alloc3 w (.cells #[.int .i64 ty, .int .i64 n0, .int .i64 nlink, .int .i64 n1, .int .i64 gid, .int .i64 size, .int .i64 id, .int .i64 gen, .int .i64 change, .int .i64 time] 40 (0, 0)) (.cells #[.bool true, .int .i64 n0, .bool true, .int .i64 n1, .bool false, .int .i64 n2, .bool false, .int .i64 n3, .bool false, .int .i64 n4] 25 (0, 0)) (.cells #[.int .i64 0, .int .i64 0, .int .i64 0, .int .i64 0, .int .i64 0, .int .i64 0, .int .i64 0, .int .i64 0, .int .i64 0, .int .i64 0] 40 (0, 0)))
  go_enter Try.func16, Try.ntmps16
  go_wp2_with fail
  go_must (refine (HE.out _).mono ?_)
  rintro e w1 ⟨rfl, b1⟩
  have t1 := T0.out.below b1
  have f1 := below_step F0.out b1
  clear b1
  obtain ⟨c0, c1, c2, c3, c4, c5, c6, c7, c8, c9⟩ := t1.1.cell10
  obtain ⟨r0, r1, r2, r3, r4, r5, r6, r7, r8, r9⟩ := t1.2.2.cell10
  have fa := t1.1.free
  have fr := t1.2.2.free
  have fin := Lib.hid (St.fill10 (.int .i64 ty) (.int .i64 n0) (.int .i64 nlink) (.int .i64 n1) (.int .i64 gid) (.int .i64 size) (.int .i64 id) (.int .i64 gen) (.int .i64 now) (.int .i64 time) (t1.2.2.other w.heap.size 8 (.int .i64 now) (by omega)))
  have fib := Lib.hid (below_fill10 (.int .i64 ty) (.int .i64 n0) (.int .i64 nlink) (.int .i64 n1) (.int .i64 gid) (.int .i64 size) (.int .i64 id) (.int .i64 gen) (.int .i64 now) (.int .i64 time) (k := w.heap.size + 1 + 1) (by omega) (Below.setCell f1 (p := ⟨w.heap.size, 8, none⟩) (Nat.le_refl _) (.int .i64 now)))
  go_wp2_with fail
  exact ret_cell (r := 6) (k := w.heap.size + 1 + 1) (T := 40) Try.results16 rfl fin.out Try.underlying40 rfl (by kernel_rfl) rfl ⟨rfl, fib.out⟩
set_option maxHeartbeats 1000000 in
set_option maxRecDepth 100000 in
theorem apTTFFT (ty mode nlink uid gid size id gen change time n0 n1 n2 n3 n4 now : Int) (w : World) : Calls Try.prog 16 #[.agg #[.int .i64 ty, .int .i64 mode, .int .i64 nlink, .int .i64 uid, .int .i64 gid, .int .i64 size, .int .i64 id, .int .i64 gen, .int .i64 change, .int .i64 time], .agg #[.bool true, .int .i64 n0, .bool true, .int .i64 n1, .bool false, .int .i64 n2, .bool false, .int .i64 n3, .bool true, .int .i64 n4], .int .i64 now] w fun e w' => e = .returned (.agg #[.int .i64 ty, .int .i64 n0, .int .i64 nlink, .int .i64 n1, .int .i64 gid, .int .i64 size, .int .i64 id, .int .i64 gen, .int .i64 now, .int .i64 n4]) ∧ Below w.heap.size w w' := by
  have HE := Lib.hid (show ∀ w, Calls Try.prog 10 #[.agg #[.bool true, .int .i64 n0, .bool true, .int .i64 n1, .bool false, .int .i64 n2, .bool false, .int .i64 n3, .bool true, .int .i64 n4]] w fun e w' => e = .returned (.bool false) ∧ Below w.heap.size w w' from fun w => afEmpty_any ⟨⟨true, n0⟩, ⟨true, n1⟩, ⟨false, n2⟩, ⟨false, n3⟩, ⟨true, n4⟩⟩ w)
  have T0 := Lib.hid (Tri.new #[.int .i64 ty, .int .i64 n0, .int .i64 nlink, .int .i64 n1, .int .i64 gid, .int .i64 size, .int .i64 id, .int .i64 gen, .int .i64 change, .int .i64 n4] #[.bool true, .int .i64 n0, .bool true, .int .i64 n1, .bool false, .int .i64 n2, .bool false, .int .i64 n3, .bool true, .int .i64 n4] #[.int .i64 0, .int .i64 0, .int .i64 0, .int .i64 0, .int .i64 0, .int .i64 0, .int .i64 0, .int .i64 0, .int .i64 0, .int .i64 0] w)
  have F0 := Lib.hid (below_alloc3 w (.cells #[.int .i64 ty, .int .i64 n0, .int .i64 nlink, .int .i64 n1, .int .i64 gid, .int .i64 size, .int .i64 id, .int .i64 gen, .int .i64 change, .int .i64 n4] 40 (0, 0)) (.cells #[.bool true, .int .i64 n0, .bool true, .int .i64 n1, .bool false, .int .i64 n2, .bool false, .int .i64 n3, .bool true, .int .i64 n4] 25 (0, 0)) (.cells #[.int .i64 0, .int .i64 0, .int .i64 0, .int .i64 0, .int .i64 0, .int .i64 0, .int .i64 0, .int .i64 0, .int .i64 0, .int .i64 0] 40 (0, 0)))
  go_enter Try.func16, Try.ntmps16
  go_wp2_with fail
  go_must (refine (HE.out _).mono ?_)
  rintro e w1 ⟨rfl, b1⟩
  have t1 := T0.out.below b1
  have f1 := below_step F0.out b1
  clear b1
  obtain ⟨c0, c1, c2, c3, c4, c5, c6, c7, c8, c9⟩ := t1.1.cell10
  obtain ⟨r0, r1, r2, r3, r4, r5, r6, r7, r8, r9⟩ := t1.2.2.cell10
  have fa := t1.1.free
  have fr := t1.2.2.free
  have fin := Lib.hid (St.fill10 (.int .i64 ty) (.int .i64 n0) (.int .i64 nlink) (.int .i64 n1) (.int .i64 gid) (.int .i64 size) (.int .i64 id) (.int .i64 gen) (.int .i64 now) (.int .i64 n4) (t1.2.2.other w.heap.size 8 (.int .i64 now) (by omega)))
  have fib := Lib.hid (below_fill10 (.int .i64 ty) (.int .i64 n0) (.int .i64 nlink) (.int .i64 n1) (.int .i64 gid) (.int .i64 size) (.int .i64 id) (.int .i64 gen) (.int .i64 now) (.int .i64 n4) (k := w.heap.size + 1 + 1) (by omega) (Below.setCell f1 (p := ⟨w.heap.size, 8, none⟩) (Nat.le_refl _) (.int .i64 now)))
  go_wp2_with fail
  exact ret_cell (r := 6) (k := w.heap.size + 1 + 1) (T := 40) Try.results16 rfl fin.out Try.underlying40 rfl (by kernel_rfl) rfl ⟨rfl, fib.out⟩
set_option maxHeartbeats 1000000 in
set_option maxRecDepth 100000 in
theorem apTTFTF (ty mode nlink uid gid size id gen change time n0 n1 n2 n3 n4 now : Int) (w : World) : Calls Try.prog 16 #[.agg #[.int .i64 ty, .int .i64 mode, .int .i64 nlink, .int .i64 uid, .int .i64 gid, .int .i64 size, .int .i64 id, .int .i64 gen, .int .i64 change, .int .i64 time], .agg #[.bool true, .int .i64 n0, .bool true, .int .i64 n1, .bool false, .int .i64 n2, .bool true, .int .i64 n3, .bool false, .int .i64 n4], .int .i64 now] w fun e w' => e = .returned (.agg #[.int .i64 ty, .int .i64 n0, .int .i64 nlink, .int .i64 n1, .int .i64 gid, .int .i64 size, .int .i64 id, .int .i64 gen, .int .i64 now, .int .i64 now]) ∧ Below w.heap.size w w' := by
  have HE := Lib.hid (show ∀ w, Calls Try.prog 10 #[.agg #[.bool true, .int .i64 n0, .bool true, .int .i64 n1, .bool false, .int .i64 n2, .bool true, .int .i64 n3, .bool false, .int .i64 n4]] w fun e w' => e = .returned (.bool false) ∧ Below w.heap.size w w' from fun w => afEmpty_any ⟨⟨true, n0⟩, ⟨true, n1⟩, ⟨false, n2⟩, ⟨true, n3⟩, ⟨false, n4⟩⟩ w)
  have T0 := Lib.hid (Tri.new #[.int .i64 ty, .int .i64 n0, .int .i64 nlink, .int .i64 n1, .int .i64 gid, .int .i64 size, .int .i64 id, .int .i64 gen, .int .i64 change, .int .i64 now] #[.bool true, .int .i64 n0, .bool true, .int .i64 n1, .bool false, .int .i64 n2, .bool true, .int .i64 n3, .bool false, .int .i64 n4] #[.int .i64 0, .int .i64 0, .int .i64 0, .int .i64 0, .int .i64 0, .int .i64 0, .int .i64 0, .int .i64 0, .int .i64 0, .int .i64 0] w)
  have F0 := Lib.hid (below_alloc3 w (.cells #[.int .i64 ty, .int .i64 n0, .int .i64 nlink, .int .i64 n1, .int .i64 gid, .int .i64 size, .int .i64 id, .int .i64 gen, .int .i64 change, .int .i64 now] 40 (0, 0)) (.cells #[.bool true, .int .i64 n0, .bool true, .int .i64 n1, .bool false, .int .i64 n2, .bool true, .int .i64 n3, .bool false, .int .i64 n4] 25 (0, 0)) (.cells #[.int .i64 0, .int .i64 0, .int .i64 0, .int .i64 0, .int .i64 0, .int .i64 0, .int .i64 0, .int .i64 0, .int .i64 0, .int .i64 0] 40 (0, 0)))
  go_enter Try.func16, Try.ntmps16
  go_wp2_with fail
  go_must (refine (HE.out _).mono ?_)
  rintro e w1 ⟨rfl, b1⟩
  have t1 := T0.out.below b1
  have f1 := below_step F0.out b1
  clear b1
  obtain ⟨c0, c1, c2, c3, c4, c5, c6, c7, c8, c9⟩ := t1.1.cell10
  obtain ⟨r0, r1, r2, r3, r4, r5, r6, r7, r8, r9⟩ := t1.2.2.cell10
  have fa := t1.1.free
  have fr := t1.2.2.free
  have fin := Lib.hid (St.fill10 (.int .i64 ty) (.int .i64 n0) (.int .i64 nlink) (.int .i64 n1) (.int .i64 gid) (.int .i64 size) (.int .i64 id) (.int .i64 gen) (.int .i64 now) (.int .i64 now) (t1.2.2.other w.heap.size 8 (.int .i64 now) (by omega)))
  have fib := Lib.hid (below_fill10 (.int .i64 ty) (.int .i64 n0) (.int .i64 nlink) (.int .i64 n1) (.int .i64 gid) (.int .i64 size) (.int .i64 id) (.int .i64 gen) (.int .i64 now) (.int .i64 now) (k := w.heap.size + 1 + 1) (by omega) (Below.setCell f1 (p := ⟨w.heap.size, 8, none⟩) (Nat.le_refl _) (.int .i64 now)))
  go_wp2_with fail
  exact ret_cell (r := 6) (k := w.heap.size + 1 + 1) (T := 40) Try.results16 rfl fin.out Try.underlying40 rfl (by kernel_rfl) rfl ⟨rfl, fib.out⟩
set_option maxHeartbeats 1000000 in
set_option maxRecDepth 100000 in
theorem apTTFTT (ty mode nlink uid gid size id gen change time n0 n1 n2 n3 n4 now : Int) (w : World) : Calls Try.prog 16 #[.agg #[.int .i64 ty, .int .i64 mode, .int .i64 nlink, .int .i64 uid, .int .i64 gid, .int .i64 size, .int .i64 id, .int .i64 gen, .int .i64 change, .int .i64 time], .agg #[.bool true, .int .i64 n0, .bool true, .int .i64 n1, .bool false, .int .i64 n2, .bool true, .int .i64 n3, .bool true, .int .i64 n4], .int .i64 now] w fun e w' => e = .returned (.agg #[.int .i64 ty, .int .i64 n0, .int .i64 nlink, .int .i64 n1, .int .i64 gid, .int .i64 size, .int .i64 id, .int .i64 gen, .int .i64 now, .int .i64 n4]) ∧ Below w.heap.size w w' := by
  have HE := Lib.hid (show ∀ w, Calls Try.prog 10 #[.agg #[.bool true, .int .i64 n0, .bool true, .int .i64 n1, .bool false, .int .i64 n2, .bool true, .int .i64 n3, .bool true, .int .i64 n4]] w fun e w' => e = .returned (.bool false) ∧ Below w.heap.size w w' from fun w => afEmpty_any ⟨⟨true, n0⟩, ⟨true, n1⟩, ⟨false, n2⟩, ⟨true, n3⟩, ⟨true, n4⟩⟩ w)
  have T0 := Lib.hid (Tri.new #[.int .i64 ty, .int .i64 n0, .int .i64 nlink, .int .i64 n1, .int .i64 gid, .int .i64 size, .int .i64 id, .int .i64 gen, .int .i64 change, .int .i64 n4] #[.bool true, .int .i64 n0, .bool true, .int .i64 n1, .bool false, .int .i64 n2, .bool true, .int .i64 n3, .bool true, .int .i64 n4] #[.int .i64 0, .int .i64 0, .int .i64 0, .int .i64 0, .int .i64 0, .int .i64 0, .int .i64 0, .int .i64 0, .int .i64 0, .int .i64 0] w)
  have F0 := Lib.hid (below_alloc3 w (.cells #[.int .i64 ty, .int .i64 n0, .int .i64 nlink, .int .i64 n1, .int .i64 gid, .int .i64 size, .int .i64 id, .int .i64 gen, .int .i64 change, .int .i64 n4] 40 (0, 0)) (.cells #[.bool true, .int .i64 n0, .bool true, .int .i64 n1, .bool false, .int .i64 n2, .bool true, .int .i64 n3, .bool true, .int .i64 n4] 25 (0, 0)) (.cells #[.int .i64 0, .int .i64 0, .int .i64 0, .int .i64 0, .int .i64 0, .int .i64 0, .int .i64 0, .int .i64 0, .int .i64 0, .int .i64 0] 40 (0, 0)))
  go_enter Try.func16, Try.ntmps16
  go_wp2_with fail
  go_must (refine (HE.out _).mono ?_)
  rintro e w1 ⟨rfl, b1⟩
  have t1 := T0.out.below b1
  have f1 := below_step F0.out b1
  clear b1
  obtain ⟨c0, c1, c2, c3, c4, c5, c6, c7, c8, c9⟩ := t1.1.cell10
  obtain ⟨r0, r1, r2, r3, r4, r5, r6, r7, r8, r9⟩ := t1.2.2.cell10
  have fa := t1.1.free
  have fr := t1.2.2.free
  have fin := Lib.hid (St.fill10 (.int .i64 ty) (.int .i64 n0) (.int .i64 nlink) (.int .i64 n1) (.int .i64 gid) (.int .i64 size) (.int .i64 id) (.int .i64 gen) (.int .i64 now) (.int .i64 n4) (t1.2.2.other w.heap.size 8 (.int .i64 now) (by omega)))
  have fib := Lib.hid (below_fill10 (.int .i64 ty) (.int .i64 n0) (.int .i64 nlink) (.int .i64 n1) (.int .i64 gid) (.int .i64 size) (.int .i64 id) (.int .i64 gen) (.int .i64 now) (.int .i64 n4) (k := w.heap.size + 1 + 1) (by omega) (Below.setCell f1 (p := ⟨w.heap.size, 8, none⟩) (Nat.le_refl _) (.int .i64 now)))
  go_wp2_with fail
  exact ret_cell (r := 6) (k := w.heap.size + 1 + 1) (T := 40) Try.results16 rfl fin.out Try.underlying40 rfl (by kernel_rfl) rfl ⟨rfl, fib.out⟩
set_option maxHeartbeats 1000000 in
set_option maxRecDepth 100000 in
theorem apTTTFF (ty mode nlink uid gid size id gen change time n0 n1 n2 n3 n4 now : Int) (w : World) : Calls Try.prog 16 #[.agg #[.int .i64 ty, .int .i64 mode, .int .i64 nlink, .int .i64 uid, .int .i64 gid, .int .i64 size, .int .i64 id, .int .i64 gen, .int .i64 change, .int .i64 time], .agg #[.bool true, .int .i64 n0, .bool true, .int .i64 n1, .bool true, .int .i64 n2, .bool false, .int .i64 n3, .bool false, .int .i64 n4], .int .i64 now] w fun e w' => e = .returned (.agg #[.int .i64 ty, .int .i64 n0, .int .i64 nlink, .int .i64 n1, .int .i64 n2, .int .i64 size, .int .i64 id, .int .i64 gen, .int .i64 now, .int .i64 time]) ∧ Below w.heap.size w w' := by
  have HE := Lib.hid (show ∀ w, Calls Try.prog 10 #[.agg #[.bool true, .int .i64 n0, .bool true, .int .i64 n1, .bool true, .int .i64 n2, .bool false, .int .i64 n3, .bool false, .int .i64 n4]] w fun e w' => e = .returned (.bool false) ∧ Below w.heap.size w w' from fun w => afEmpty_any ⟨⟨true, n0⟩, ⟨true, n1⟩, ⟨true, n2⟩, ⟨false, n3⟩, ⟨false, n4⟩⟩ w)
  have T0 := Lib.hid (Tri.new #[.int .i64 ty, .int .i64 n0, .int .i64 nlink, .int .i64 n1, .int .i64 n2, .int .i64 size, .int .i64 id, .int .i64 gen, .int .i64 change, .int .i64 time] #[.bool true, .int .i64 n0, .bool true, .int .i64 n1, .bool true, .int .i64 n2, .bool false, .int .i64 n3, .bool false, .int .i64 n4] #[.int .i64 0, .int .i64 0, .int .i64 0, .int .i64 0, .int .i64 0, .int .i64 0, .int .i64 0, .int .i64 0, .int .i64 0, .int .i64 0] w)
  have F0 := Lib.hid (below_alloc3 w (.cells #[.int .i64 ty, .int .i64 n0, .int .i64 nlink, .int .i64 n1, .int .i64 n2, .int .i64 size, .int .i64 id, .int .i64 gen, .int .i64 change, .int .i64 time] 40 (0, 0)) (.cells #[.bool true, .int .i64 n0, .bool true, .int .i64 n1, .bool true, .int .i64 n2, .bool false, .int .i64 n3, .bool false, .int .i64 n4] 25 (0, 0)) (.cells #[.int .i64 0, .int .i64 0, .int .i64 0, .int .i64 0, .int .i64 0, .int .i64 0, .int .i64 0, .int .i64 0, .int .i64 0, .int .i64 0] 40 (0, 0)))
  go_enter Try.func16, Try.ntmps16
  go_wp2_with fail
  go_must (refine (HE.out _).mono ?_)
  rintro e w1 ⟨rfl, b1⟩
  have t1 := T0.out.below b1
  have f1 := below_step F0.out b1
  clear b1
  obtain ⟨c0, c1, c2, c3, c4, c5, c6, c7, c8, c9⟩ := t1.1.cell10
  obtain ⟨r0, r1, r2, r3, r4, r5, r6, r7, r8, r9⟩ := t1.2.2.cell10
  have fa := t1.1.free
  have fr := t1.2.2.free
  have fin := Lib.hid (St.fill10 (.int .i64 ty) (.int .i64 n0) (.int .i64 nlink) (.int .i64 n1) (.int .i64 n2) (.int .i64 size) (.int .i64 id) (.int .i64 gen) (.int .i64 now) (.int .i64 time) (t1.2.2.other w.heap.size 8 (.int .i64 now) (by omega)))
  have fib := Lib.hid (below_fill10 (.int .i64 ty) (.int .i64 n0) (.int .i64 nlink) (.int .i64 n1) (.int .i64 n2) (.int .i64 size) (.int .i64 id) (.int .i64 gen) (.int .i64 now) (.int .i64 time) (k := w.heap.size + 1 + 1) (by omega) (Below.setCell f1 (p := ⟨w.heap.size, 8, none⟩) (Nat.le_refl _) (.int .i64 now)))
  go_wp2_with fail
  exact ret_cell (r := 6) (k := w.heap.size + 1 + 1) (T := 40) Try.results16 rfl fin.out Try.underlying40 rfl (by kernel_rfl) rfl ⟨rfl, fib.out⟩
set_option maxHeartbeats 1000000 in
set_option maxRecDepth 100000 in
theorem apTTTFT (ty mode nlink uid gid size id gen change time n0 n1 n2 n3 n4 now : Int) (w : World) : Calls Try.prog 16 #[.agg #[.int .i64 ty, .int .i64 mode, .int .i64 nlink, .int .i64 uid, .int .i64 gid, .int .i64 size, .int .i64 id, .int .i64 gen, .int .i64 change, .int .i64 time], .agg #[.bool true, .int .i64 n0, .bool true, .int .i64 n1, .bool true, .int .i64 n2, .bool false, .int .i64 n3, .bool true, .int .i64 n4], .int .i64 now] w fun e w' => e = .returned (.agg #[.int .i64 ty, .int .i64 n0, .int .i64 nlink, .int .i64 n1, .int .i64 n2, .int .i64 size, .int .i64 id, .int .i64 gen, .int .i64 now, .int .i64 n4]) ∧ Below w.heap.size w w' := by
  have HE := Lib.hid (show ∀ w, Calls Try.prog 10 #[.agg #[.bool true, .int .i64 n0, .bool true, .int .i64 n1, .bool true, .int .i64 n2, .bool false, .int .i64 n3, .bool true, .int .i64 n4]] w fun e w' => e = .returned (.bool false) ∧ Below w.heap.size w w' from fun w => afEmpty_any ⟨⟨true, n0⟩, ⟨true, n1⟩, ⟨true, n2⟩, ⟨false, n3⟩, ⟨true, n4⟩⟩ w)
  have T0 := Lib.hid (Tri.new #[.int .i64 ty, .int .i64 n0, .int .i64 nlink, .int .i64 n1, .int .i64 n2, .int .i64 size, .int .i64 id, .int .i64 gen, .int .i64 change, .int .i64 n4] #[.bool true, .int .i64 n0, .bool true, .int .i64 n1, .bool true, .int .i64 n2, .bool false, .int .i64 n3, .bool true, .int .i64 n4] #[.int .i64 0, .int .i64 0, .int .i64 0, .int .i64 0, .int .i64 0, .int .i64 0, .int .i64 0, .int .i64 0, .int .i64 0, .int .i64 0] w)
  have F0 := Lib.hid (below_alloc3 w (.cells #[.int .i64 ty, .int .i64 n0, .int .i64 nlink, .int .i64 n1, .int .i64 n2, .int .i64 size, .int .i64 id, .int .i64 gen, .int .i64 change, .int .i64 n4] 40 (0, 0)) (.cells #[.bool true, .int .i64 n0, .bool true, .int .i64 n1, .bool true, .int .i64 n2, .bool false, .int .i64 n3, .bool true, .int .i64 n4] 25 (0, 0)) (.cells #[.int .i64 0, .int .i64 0, .int .i64 0, .int .i64 0, .int .i64 0, .int .i64 0, .int .i64 0, .int .i64 0, .int .i64 0, .int .i64 0] 40 (0, 0)))
  go_enter Try.func16, Try.ntmps16
  go_wp2_with fail
  go_must (refine (HE.out _).mono ?_)
  rintro e w1 ⟨rfl, b1⟩
  have t1 := T0.out.below b1
  have f1 := below_step F0.out b1
  clear b1
  obtain ⟨c0, c1, c2, c3, c4, c5, c6, c7, c8, c9⟩ := t1.1.cell10
  obtain ⟨r0, r1, r2, r3, r4, r5, r6, r7, r8, r9⟩ := t1.2.2.cell10
  have fa := t1.1.free
  have fr := t1.2.2.free
  have fin := Lib.hid (St.fill10 (.int .i64 ty) (.int .i64 n0) (.int .i64 nlink) (.int .i64 n1) (.int .i64 n2) (.int .i64 size) (.int .i64 id) (.int .i64 gen) (.int .i64 now) (.int .i64 n4) (t1.2.2.other w.heap.size 8 (.int .i64 now) (by omega)))
  have fib := Lib.hid (below_fill10 (.int .i64 ty) (.int .i64 n0) (.int .i64 nlink) (.int .i64 n1) (.int .i64 n2) (.int .i64 size) (.int .i64 id) (.int .i64 gen) (.int .i64 now) (.int .i64 n4) (k := w.heap.size + 1 + 1) (by omega) (Below.setCell f1 (p := ⟨w.heap.size, 8, none⟩) (Nat.le_refl _) (.int .i64 now)))
  go_wp2_with fail
  exact ret_cell (r := 6) (k := w.heap.size + 1 + 1) (T := 40) Try.results16 rfl fin.out Try.underlying40 rfl (by kernel_rfl) rfl ⟨rfl, fib.out⟩
set_option maxHeartbeats 1000000 in
set_option maxRecDepth 100000 in
theorem apTTTTF (ty mode nlink uid gid size id gen change time n0 n1 n2 n3 n4 now : Int) (w : World) : Calls Try.prog 16 #[.agg #[.int .i64 ty, .int .i64 mode, .int .i64 nlink, .int .i64 uid, .int .i64 gid, .int .i64 size, .int .i64 id, .int .i64 gen, .int .i64 change, .int .i64 time], .agg #[.bool true, .int .i64 n0, .bool true, .int .i64 n1, .bool true, .int .i64 n2, .bool true, .int .i64 n3, .bool false, .int .i64 n4], .int .i64 now] w fun e w' => e = .returned (.agg #[.int .i64 ty, .int .i64 n0, .int .i64 nlink, .int .i64 n1, .int .i64 n2, .int .i64 size, .int .i64 id, .int .i64 gen, .int .i64 now, .int .i64 now]) ∧ Below w.heap.size w w' := by
  have HE := Lib.hid (show ∀ w, Calls Try.prog 10 #[.agg #[.bool true, .int .i64 n0, .bool true, .int .i64 n1, .bool true, .int .i64 n2, .bool true, .int .i64 n3, .bool false, .int .i64 n4]] w fun e w' => e = .returned (.bool false) ∧ Below w.heap.size w w' from fun w => afEmpty_any ⟨⟨true, n0⟩, ⟨true, n1⟩, ⟨true, n2⟩, ⟨true, n3⟩, ⟨false, n4⟩⟩ w)
  have T0 := Lib.hid (Tri.new #[.int .i64 ty, .int .i64 n0, .int .i64 nlink, .int .i64 n1, .int .i64 n2, .int .i64 size, .int .i64 id, .int .i64 gen, .int .i64 change, .int .i64 now] #[.bool true, .int .i64 n0, .bool true, .int .i64 n1, .bool true, .int .i64 n2, .bool true, .int .i64 n3, .bool false, .int .i64 n4] #[.int .i64 0, .int .i64 0, .int .i64 0, .int .i64 0, .int .i64 0, .int .i64 0, .int .i64 0, .int .i64 0, .int .i64 0, .int .i64 0] w)
  have F0 := Lib.hid (below_alloc3 w (.cells #[.int .i64 ty, .int .i64 n0, .int .i64 nlink, .int .i64 n1, .int .i64 n2, .int .i64 size, .int .i64 id, .int .i64 gen, .int .i64 change, .int .i64 now] 40 (0, 0)) (.cells #[.bool true, .int .i64 n0, .bool true, .int .i64 n1, .bool true, .int .i64 n2, .bool true, .int .i64 n3, .bool false, .int .i64 n4] 25 (0, 0)) (.cells #[.int .i64 0, .int .i64 0, .int .i64 0, .int .i64 0, .int .i64 0, .int .i64 0, .int .i64 0, .int .i64 0, .int .i64 0, .int .i64 0] 40 (0, 0)))
  go_enter Try.func16, Try.ntmps16
  go_wp2_with fail
  go_must (refine (HE.out _).mono ?_)
  rintro e w1 ⟨rfl, b1⟩
  have t1 := T0.out.below b1
  have f1 := below_step F0.out b1
  clear b1
  obtain ⟨c0, c1, c2, c3, c4, c5, c6, c7, c8, c9⟩ := t1.1.cell10
  obtain ⟨r0, r1, r2, r3, r4, r5, r6, r7, r8, r9⟩ := t1.2.2.cell10
  have fa := t1.1.free
  have fr := t1.2.2.free
  have fin := Lib.hid (St.fill10 (.int .i64 ty) (.int .i64 n0) (.int .i64 nlink) (.int .i64 n1) (.int .i64 n2) (.int .i64 size) (.int .i64 id) (.int .i64 gen) (.int .i64 now) (.int .i64 now) (t1.2.2.other w.heap.size 8 (.int .i64 now) (by omega)))
  have fib := Lib.hid (below_fill10 (.int .i64 ty) (.int .i64 n0) (.int .i64 nlink) (.int .i64 n1) (.int .i64 n2) (.int .i64 size) (.int .i64 id) (.int .i64 gen) (.int .i64 now) (.int .i64 now) (k := w.heap.size + 1 + 1) (by omega) (Below.setCell f1 (p := ⟨w.heap.size, 8, none⟩) (Nat.le_refl _) (.int .i64 now)))
  go_wp2_with fail
  exact ret_cell (r := 6) (k := w.heap.size + 1 + 1) (T := 40) Try.results16 rfl fin.out Try.underlying40 rfl (by kernel_rfl) rfl ⟨rfl, fib.out⟩
set_option maxHeartbeats 1000000 in
set_option maxRecDepth 100000 in
theorem apTTTTT (ty mode nlink uid gid size id gen change time n0 n1 n2 n3 n4 now : Int) (w : World) : Calls Try.prog 16 #[.agg #[.int .i64 ty, .int .i64 mode, .int .i64 nlink, .int .i64 uid, .int .i64 gid, .int .i64 size, .int .i64 id, .int .i64 gen, .int .i64 change, .int .i64 time], .agg #[.bool true, .int .i64 n0, .bool true, .int .i64 n1, .bool true, .int .i64 n2, .bool true, .int .i64 n3, .bool true, .int .i64 n4], .int .i64 now] w fun e w' => e = .returned (.agg #[.int .i64 ty, .int .i64 n0, .int .i64 nlink, .int .i64 n1, .int .i64 n2, .int .i64 size, .int .i64 id, .int .i64 gen, .int .i64 now, .int .i64 n4]) ∧ Below w.heap.size w w' := by
  have HE := Lib.hid (show ∀ w, Calls Try.prog 10 #[.agg #[.bool true, .int .i64 n0, .bool true, .int .i64 n1, .bool true, .int .i64 n2, .bool true, .int .i64 n3, .bool true, .int .i64 n4]] w fun e w' => e = .returned (.bool false) ∧ Below w.heap.size w w' from fun w => afEmpty_any ⟨⟨true, n0⟩, ⟨true, n1⟩, ⟨true, n2⟩, ⟨true, n3⟩, ⟨true, n4⟩⟩ w)
  have T0 := Lib.hid (Tri.new #[.int .i64 ty, .int .i64 n0, .int .i64 nlink, .int .i64 n1, .int .i64 n2, .int .i64 size, .int .i64 id, .int .i64 gen, .int .i64 change, .int .i64 n4] #[.bool true, .int .i64 n0, .bool true, .int .i64 n1, .bool true, .int .i64 n2, .bool true, .int .i64 n3, .bool true, .int .i64 n4] #[.int .i64 0, .int .i64 0, .int .i64 0, .int .i64 0, .int .i64 0, .int .i64 0, .int .i64 0, .int .i64 0, .int .i64 0, .int .i64 0] w)
  have F0 := Lib.hid (below_alloc3 w (.cells #[.int .i64 ty, .int .i64 n0, .int .i64 nlink, .int .i64 n1, .int .i64 n2, .int .i64 size, .int .i64 id, .int .i64 gen, .int .i64 change, .int .i64 n4] 40 (0, 0)) (.cells #[.bool true, .int .i64 n0, .bool true, .int .i64 n1, .bool true, .int .i64 n2, .bool true, .int .i64 n3, .bool true, .int .i64 n4] 25 (0, 0)) (.cells #[.int .i64 0, .int .i64 0, .int .i64 0, .int .i64 0, .int .i64 0, .int .i64 0, .int .i64 0, .int .i64 0, .int .i64 0, .int .i64 0] 40 (0, 0)))
  go_enter Try.func16, Try.ntmps16
  go_wp2_with fail
  go_must (refine (HE.out _).mono ?_)
  rintro e w1 ⟨rfl, b1⟩
  have t1 := T0.out.below b1
  have f1 := below_step F0.out b1
  clear b1
  obtain ⟨c0, c1, c2, c3, c4, c5, c6, c7, c8, c9⟩ := t1.1.cell10
  obtain ⟨r0, r1, r2, r3, r4, r5, r6, r7, r8, r9⟩ := t1.2.2.cell10
  have fa := t1.1.free
  have fr := t1.2.2.free
  have fin := Lib.hid (St.fill10 (.int .i64 ty) (.int .i64 n0) (.int .i64 nlink) (.int .i64 n1) (.int .i64 n2) (.int .i64 size) (.int .i64 id) (.int .i64 gen) (.int .i64 now) (.int .i64 n4) (t1.2.2.other w.heap.size 8 (.int .i64 now) (by omega)))
  have fib := Lib.hid (below_fill10 (.int .i64 ty) (.int .i64 n0) (.int .i64 nlink) (.int .i64 n1) (.int .i64 n2) (.int .i64 size) (.int .i64 id) (.int .i64 gen) (.int .i64 now) (.int .i64 n4) (k := w.heap.size + 1 + 1) (by omega) (Below.setCell f1 (p := ⟨w.heap.size, 8, none⟩) (Nat.le_refl _) (.int .i64 now)))
  go_wp2_with fail
  exact ret_cell (r := 6) (k := w.heap.size + 1 + 1) (T := 40) Try.results16 rfl fin.out Try.underlying40 rfl (by kernel_rfl) rfl ⟨rfl, fib.out⟩
theorem afApply_any (a : Pa) (s : Ps) (now : Int) (w : World) : Calls Try.prog 16 #[a.val, s.val, .int .i64 now] w fun e w' => e = .returned (paApply a s now).val ∧ Below w.heap.size w w' := by
  obtain ⟨ty, mode, nlink, uid, gid, size, id, gen, change, time⟩ := a
  obtain ⟨⟨i0, n0⟩, ⟨i1, n1⟩, ⟨i2, n2⟩, ⟨i3, n3⟩, ⟨i4, n4⟩⟩ := s
  cases i0 <;> cases i1 <;> cases i2 <;> cases i3 <;> cases i4
  · exact apFFFFF ty mode nlink uid gid size id gen change time n0 n1 n2 n3 n4 now w
  · exact apFFFFT ty mode nlink uid gid size id gen change time n0 n1 n2 n3 n4 now w
  · exact apFFFTF ty mode nlink uid gid size id gen change time n0 n1 n2 n3 n4 now w
  · exact apFFFTT ty mode nlink uid gid size id gen change time n0 n1 n2 n3 n4 now w
  · exact apFFTFF ty mode nlink uid gid size id gen change time n0 n1 n2 n3 n4 now w
  · exact apFFTFT ty mode nlink uid gid size id gen change time n0 n1 n2 n3 n4 now w
  · exact apFFTTF ty mode nlink uid gid size id gen change time n0 n1 n2 n3 n4 now w
  · exact apFFTTT ty mode nlink uid gid size id gen change time n0 n1 n2 n3 n4 now w
  · exact apFTFFF ty mode nlink uid gid size id gen change time n0 n1 n2 n3 n4 now w
  · exact apFTFFT ty mode nlink uid gid size id gen change time n0 n1 n2 n3 n4 now w
  · exact apFTFTF ty mode nlink uid gid size id gen change time n0 n1 n2 n3 n4 now w
  · exact apFTFTT ty mode nlink uid gid size id gen change time n0 n1 n2 n3 n4 now w
  · exact apFTTFF ty mode nlink uid gid size id gen change time n0 n1 n2 n3 n4 now w
  · exact apFTTFT ty mode nlink uid gid size id gen change time n0 n1 n2 n3 n4 now w
  · exact apFTTTF ty mode nlink uid gid size id gen change time n0 n1 n2 n3 n4 now w
  · exact apFTTTT ty mode nlink uid gid size id gen change time n0 n1 n2 n3 n4 now w
  · exact apTFFFF ty mode nlink uid gid size id gen change time n0 n1 n2 n3 n4 now w
  · exact apTFFFT ty mode nlink uid gid size id gen change time n0 n1 n2 n3 n4 now w
  · exact apTFFTF ty mode nlink uid gid size id gen change time n0 n1 n2 n3 n4 now w
  · exact apTFFTT ty mode nlink uid gid size id gen change time n0 n1 n2 n3 n4 now w
  · exact apTFTFF ty mode nlink uid gid size id gen change time n0 n1 n2 n3 n4 now w
  · exact apTFTFT ty mode nlink uid gid size id gen change time n0 n1 n2 n3 n4 now w
  · exact apTFTTF ty mode nlink uid gid size id gen change time n0 n1 n2 n3 n4 now w
  · exact apTFTTT ty mode nlink uid gid size id gen change time n0 n1 n2 n3 n4 now w
  · exact apTTFFF ty mode nlink uid gid size id gen change time n0 n1 n2 n3 n4 now w
  · exact apTTFFT ty mode nlink uid gid size id gen change time n0 n1 n2 n3 n4 now w
  · exact apTTFTF ty mode nlink uid gid size id gen change time n0 n1 n2 n3 n4 now w
  · exact apTTFTT ty mode nlink uid gid size id gen change time n0 n1 n2 n3 n4 now w
  · exact apTTTFF ty mode nlink uid gid size id gen change time n0 n1 n2 n3 n4 now w
  · exact apTTTFT ty mode nlink uid gid size id gen change time n0 n1 n2 n3 n4 now w
  · exact apTTTTF ty mode nlink uid gid size id gen change time n0 n1 n2 n3 n4 now w
  · exact apTTTTT ty mode nlink uid gid size id gen change time n0 n1 n2 n3 n4 now w
end Go.Proofs.Ytbiaeolgifoloaa
