/- The law's take over no reader. -/
import Derived.Test.YtbdjhkcpnkdbkaaDoorNl
import Derived.Test.YtbdjhkcpnkdbkaaDoorSt
namespace Go.Proofs.YtbdjhkcpnkdbkaaDoor
open Go.RowKit

/-- What the cells of two new blocks hold behind a call that leaves what was there alone. -/
theorem two_new {w w1 : World} {T U : TypeId} {cs ds : Array Value} (hb : Below ((w.alloc (.cells cs T (0, 0))).alloc (.cells ds U (0, 0))).heap.size ((w.alloc (.cells cs T (0, 0))).alloc (.cells ds U (0, 0))) w1) :
    St T w.heap.size cs w1 ∧ St U (w.heap.size + 1) ds w1 := by
  constructor
  · refine St.below ?_ hb
    unfold St
    exact (Below.heap_alloc _ _ _ (by simp)).trans (heap_alloc_new w _)
  · refine St.below ?_ hb
    have h := St.new (w.alloc (.cells cs T (0, 0))) U ds
    simpa using h

theorem two_below {w w1 : World} {o u : Obj} (hb : Below ((w.alloc o).alloc u).heap.size ((w.alloc o).alloc u) w1) : Below w.heap.size w w1 :=
  ((boxed0 (w := w)).alloc (by simp) _).trans (hb.mono (by simp; omega))

set_option maxRecDepth 100000 in
set_option maxHeartbeats 1000000 in
theorem xtake_nil1 (n : Int) (w : World) :
    Calls Tryd.prog 10 #[.pointer none, .int .i64 1, .int .i64 n] w fun e w' => e = .returned (.agg #[.int .i64 1, .int .i64 0, .bool false, .string ⟨#[]⟩]) ∧ Below w.heap.size w w' := by
  go_enter Tryd.func10, Tryd.ntmps10
  go_wp2_with (go_at_call 22; go_must (refine (nrU32 _).mono ?_); rintro e w1 ⟨rfl, hb⟩; have hs := two_new hb; have hz := hb.size; have c0 := hs.2.cell (j := 0) rfl; have f0 := hs.2.free 0; have d0 := hs.1.cell (j := 0) rfl; have e0 := hs.1.free 0; have c1 := hs.2.cell (j := 1) rfl; have f1 := hs.2.free 1; have d1 := hs.1.cell (j := 1) rfl; have e1 := hs.1.free 1; have c2 := hs.2.cell (j := 2) rfl; have f2 := hs.2.free 2; have d2 := hs.1.cell (j := 2) rfl; have e2 := hs.1.free 2; have c3 := hs.2.cell (j := 3) rfl; have f3 := hs.2.free 3; have d3 := hs.1.cell (j := 3) rfl; have e3 := hs.1.free 3; simp at hz)
  refine ret_cell (r := 6) (k := w.heap.size) (T := 32) Tryd.results10 (by rfl) (((((hs.1.other _ _ _ (by omega)).set 0 _).set 1 _).set 2 _).set 3 _) Tryd.underlying32 rfl (by kernel_rfl) rfl ⟨rfl, ?_⟩
  exact ((((((two_below hb).setCell (by simp) _).setCell (by simp) _).setCell (by simp) _).setCell (by simp) _).setCell (by simp) _)

set_option maxRecDepth 100000 in
set_option maxHeartbeats 1000000 in
theorem xtake_nil2 (n : Int) (w : World) :
    Calls Tryd.prog 10 #[.pointer none, .int .i64 2, .int .i64 n] w fun e w' => e = .returned (.agg #[.int .i64 2, .int .i64 0, .bool false, .string ⟨#[]⟩]) ∧ Below w.heap.size w w' := by
  go_enter Tryd.func10, Tryd.ntmps10
  go_wp2_with (go_at_call 23; go_must (refine (nrU64 _).mono ?_); rintro e w1 ⟨rfl, hb⟩; have hs := two_new hb; have hz := hb.size; have c0 := hs.2.cell (j := 0) rfl; have f0 := hs.2.free 0; have d0 := hs.1.cell (j := 0) rfl; have e0 := hs.1.free 0; have c1 := hs.2.cell (j := 1) rfl; have f1 := hs.2.free 1; have d1 := hs.1.cell (j := 1) rfl; have e1 := hs.1.free 1; have c2 := hs.2.cell (j := 2) rfl; have f2 := hs.2.free 2; have d2 := hs.1.cell (j := 2) rfl; have e2 := hs.1.free 2; have c3 := hs.2.cell (j := 3) rfl; have f3 := hs.2.free 3; have d3 := hs.1.cell (j := 3) rfl; have e3 := hs.1.free 3; simp at hz)
  refine ret_cell (r := 6) (k := w.heap.size) (T := 32) Tryd.results10 (by rfl) (((((hs.1.other _ _ _ (by omega)).set 0 _).set 1 _).set 2 _).set 3 _) Tryd.underlying32 rfl (by kernel_rfl) rfl ⟨rfl, ?_⟩
  exact ((((((two_below hb).setCell (by simp) _).setCell (by simp) _).setCell (by simp) _).setCell (by simp) _).setCell (by simp) _)

set_option maxRecDepth 100000 in
set_option maxHeartbeats 1000000 in
theorem xtake_nil3 (n : Int) (w : World) :
    Calls Tryd.prog 10 #[.pointer none, .int .i64 3, .int .i64 n] w fun e w' => e = .returned (.agg #[.int .i64 3, .int .i64 0, .bool false, .string ⟨#[]⟩]) ∧ Below w.heap.size w w' := by
  go_enter Tryd.func10, Tryd.ntmps10
  go_wp2_with (go_at_call 24; go_must (refine (nrBool _).mono ?_); rintro e w1 ⟨rfl, hb⟩; have hs := two_new hb; have hz := hb.size; have c0 := hs.2.cell (j := 0) rfl; have f0 := hs.2.free 0; have d0 := hs.1.cell (j := 0) rfl; have e0 := hs.1.free 0; have c1 := hs.2.cell (j := 1) rfl; have f1 := hs.2.free 1; have d1 := hs.1.cell (j := 1) rfl; have e1 := hs.1.free 1; have c2 := hs.2.cell (j := 2) rfl; have f2 := hs.2.free 2; have d2 := hs.1.cell (j := 2) rfl; have e2 := hs.1.free 2; have c3 := hs.2.cell (j := 3) rfl; have f3 := hs.2.free 3; have d3 := hs.1.cell (j := 3) rfl; have e3 := hs.1.free 3; simp at hz)
  refine ret_cell (r := 6) (k := w.heap.size) (T := 32) Tryd.results10 (by rfl) (((((hs.1.other _ _ _ (by omega)).set 0 _).set 1 _).set 2 _).set 3 _) Tryd.underlying32 rfl (by kernel_rfl) rfl ⟨rfl, ?_⟩
  exact ((((((two_below hb).setCell (by simp) _).setCell (by simp) _).setCell (by simp) _).setCell (by simp) _).setCell (by simp) _)

set_option maxRecDepth 100000 in
set_option maxHeartbeats 1000000 in
theorem xtake_nil4 (n : Int) (w : World) :
    Calls Tryd.prog 10 #[.pointer none, .int .i64 4, .int .i64 n] w fun e w' => e = .returned (.agg #[.int .i64 4, .int .i64 0, .bool false, .string ⟨#[]⟩]) ∧ Below w.heap.size w w' := by
  go_enter Tryd.func10, Tryd.ntmps10
  go_wp2_with (go_at_call 25; go_must (refine (nrFixed n _).mono ?_); rintro e w1 ⟨rfl, hb⟩; have hs := two_new hb; have hz := hb.size; have c0 := hs.2.cell (j := 0) rfl; have f0 := hs.2.free 0; have d0 := hs.1.cell (j := 0) rfl; have e0 := hs.1.free 0; have c1 := hs.2.cell (j := 1) rfl; have f1 := hs.2.free 1; have d1 := hs.1.cell (j := 1) rfl; have e1 := hs.1.free 1; have c2 := hs.2.cell (j := 2) rfl; have f2 := hs.2.free 2; have d2 := hs.1.cell (j := 2) rfl; have e2 := hs.1.free 2; have c3 := hs.2.cell (j := 3) rfl; have f3 := hs.2.free 3; have d3 := hs.1.cell (j := 3) rfl; have e3 := hs.1.free 3; simp at hz)
  refine ret_cell (r := 6) (k := w.heap.size) (T := 32) Tryd.results10 (by rfl) (((((hs.1.other _ _ _ (by omega)).set 0 _).set 1 _).set 2 _).set 3 _) Tryd.underlying32 rfl (by kernel_rfl) rfl ⟨rfl, ?_⟩
  exact ((((((two_below hb).setCell (by simp) _).setCell (by simp) _).setCell (by simp) _).setCell (by simp) _).setCell (by simp) _)

set_option maxRecDepth 100000 in
set_option maxHeartbeats 1000000 in
theorem xtake_nil5 (n : Int) (w : World) :
    Calls Tryd.prog 10 #[.pointer none, .int .i64 5, .int .i64 n] w fun e w' => e = .returned (.agg #[.int .i64 5, .int .i64 0, .bool false, .string ⟨#[]⟩]) ∧ Below w.heap.size w w' := by
  go_enter Tryd.func10, Tryd.ntmps10
  go_wp2_with (go_at_call 26; go_must (refine (nrOpaque n _).mono ?_); rintro e w1 ⟨rfl, hb⟩; have hs := two_new hb; have hz := hb.size; have c0 := hs.2.cell (j := 0) rfl; have f0 := hs.2.free 0; have d0 := hs.1.cell (j := 0) rfl; have e0 := hs.1.free 0; have c1 := hs.2.cell (j := 1) rfl; have f1 := hs.2.free 1; have d1 := hs.1.cell (j := 1) rfl; have e1 := hs.1.free 1; have c2 := hs.2.cell (j := 2) rfl; have f2 := hs.2.free 2; have d2 := hs.1.cell (j := 2) rfl; have e2 := hs.1.free 2; have c3 := hs.2.cell (j := 3) rfl; have f3 := hs.2.free 3; have d3 := hs.1.cell (j := 3) rfl; have e3 := hs.1.free 3; simp at hz)
  refine ret_cell (r := 6) (k := w.heap.size) (T := 32) Tryd.results10 (by rfl) (((((hs.1.other _ _ _ (by omega)).set 0 _).set 1 _).set 2 _).set 3 _) Tryd.underlying32 rfl (by kernel_rfl) rfl ⟨rfl, ?_⟩
  exact ((((((two_below hb).setCell (by simp) _).setCell (by simp) _).setCell (by simp) _).setCell (by simp) _).setCell (by simp) _)

set_option maxRecDepth 100000 in
set_option maxHeartbeats 1000000 in
theorem xtake_nil6 (n : Int) (w : World) :
    Calls Tryd.prog 10 #[.pointer none, .int .i64 6, .int .i64 n] w fun e w' => e = .returned (.agg #[.int .i64 6, .int .i64 0, .bool false, .string ⟨#[]⟩]) ∧ Below w.heap.size w w' := by
  go_enter Tryd.func10, Tryd.ntmps10
  go_wp2_with (go_at_call 27; go_must (refine (nrOpt _).mono ?_); rintro e w1 ⟨rfl, hb⟩; have hs0 := two_new hb; have hs := And.intro (hs0.1.alloc (.cells #[.bool false, .int .i64 0] 49 (0, 0))) (hs0.2.alloc (.cells #[.bool false, .int .i64 0] 49 (0, 0))); have hz := hb.size; have c0 := hs.2.cell (j := 0) rfl; have f0 := hs.2.free 0; have d0 := hs.1.cell (j := 0) rfl; have e0 := hs.1.free 0; have c1 := hs.2.cell (j := 1) rfl; have f1 := hs.2.free 1; have d1 := hs.1.cell (j := 1) rfl; have e1 := hs.1.free 1; have c2 := hs.2.cell (j := 2) rfl; have f2 := hs.2.free 2; have d2 := hs.1.cell (j := 2) rfl; have e2 := hs.1.free 2; have c3 := hs.2.cell (j := 3) rfl; have f3 := hs.2.free 3; have d3 := hs.1.cell (j := 3) rfl; have e3 := hs.1.free 3; simp at hz)
  refine ret_cell (r := 6) (k := w.heap.size) (T := 32) Tryd.results10 (by rfl) ((((((hs.1.other _ _ _ (by omega)).other _ _ _ (by omega)).set 0 _).set 1 _).set 2 _).set 3 _) Tryd.underlying32 rfl (by kernel_rfl) rfl ⟨rfl, ?_⟩
  exact ((((((((two_below hb).alloc (by have := hb.size; simp at this; omega) _).setCell (by simp) _).setCell (by simp) _).setCell (by simp) _).setCell (by simp) _).setCell (by simp) _).setCell (by simp) _)

set_option maxRecDepth 100000 in
set_option maxHeartbeats 1000000 in
theorem xtake_nil0 (kind n : Int) (w : World) (k1 : kind ≠ 1) (k2 : kind ≠ 2) (k3 : kind ≠ 3) (k4 : kind ≠ 4) (k5 : kind ≠ 5) (k6 : kind ≠ 6) :
    Calls Tryd.prog 10 #[.pointer none, .int .i64 kind, .int .i64 n] w fun e w' => e = .returned (.agg #[.int .i64 kind, .int .i64 0, .bool false, .string ⟨#[]⟩]) ∧ Below w.heap.size w w' := by
  go_enter Tryd.func10, Tryd.ntmps10
  go_wp2
  refine ret_cell (r := 6) (k := w.heap.size) (T := 32) Tryd.results10 (by rfl) ((St.new w 32 #[.int .i64 kind, .int .i64 0, .bool false, .string ⟨#[]⟩]).alloc _) Tryd.underlying32 rfl (by kernel_rfl) rfl ⟨rfl, ?_⟩
  exact boxed0.alloc (by simp) _

theorem xtake_nil (kind n : Int) (w : World) :
    Calls Tryd.prog 10 #[.pointer none, .int .i64 kind, .int .i64 n] w fun e w' => e = .returned (.agg #[.int .i64 kind, .int .i64 0, .bool false, .string ⟨#[]⟩]) ∧ Below w.heap.size w w' := by
  rcases kinds kind with rfl | rfl | rfl | rfl | rfl | rfl | ⟨k1, k2, k3, k4, k5, k6⟩
  · exact xtake_nil1 n w
  · exact xtake_nil2 n w
  · exact xtake_nil3 n w
  · exact xtake_nil4 n w
  · exact xtake_nil5 n w
  · exact xtake_nil6 n w
  · exact xtake_nil0 kind n w k1 k2 k3 k4 k5 k6
end Go.Proofs.YtbdjhkcpnkdbkaaDoor
