/- The fixed calls that end each statement of layer 6. -/
import Derived.Test.YtinhdabfiahjpaaPk
import Derived.Test.YtinhdabfiahjpaaPs
namespace Go.Proofs.Ytinhdabfiahjpaa
open Go.Joins Go.RowKit

theorem St.cell10 {T : TypeId} {k : Nat} {v0 v1 v2 v3 v4 v5 v6 v7 v8 v9 : Value} {w : World} (h : St T k #[v0, v1, v2, v3, v4, v5, v6, v7, v8, v9] w) :
    (w.cell? ⟨k, 0, none⟩ = some v0 ∧ w.cell? ⟨k, 1, none⟩ = some v1 ∧ w.cell? ⟨k, 2, none⟩ = some v2 ∧ w.cell? ⟨k, 3, none⟩ = some v3 ∧ w.cell? ⟨k, 4, none⟩ = some v4 ∧ w.cell? ⟨k, 5, none⟩ = some v5 ∧ w.cell? ⟨k, 6, none⟩ = some v6 ∧ w.cell? ⟨k, 7, none⟩ = some v7 ∧ w.cell? ⟨k, 8, none⟩ = some v8 ∧ w.cell? ⟨k, 9, none⟩ = some v9) :=
  ⟨h.cell rfl, h.cell rfl, h.cell rfl, h.cell rfl, h.cell rfl, h.cell rfl, h.cell rfl, h.cell rfl, h.cell rfl, h.cell rfl⟩
theorem kb1 (w : World) : Calls Try.prog 22 #[.agg #[.int .i64 1, .int .i64 416, .int .i64 0, .int .i64 1, .int .i64 2, .int .i64 0, .int .i64 0, .int .i64 0, .int .i64 0, .int .i64 0], .agg #[.int .i64 0, .int .i64 0, .int .i64 1, .int .i64 2]] w fun e w' => e = .returned (.int .i64 6) ∧ Below w.heap.size w w' :=
  pBits_any ⟨1, 416, 0, 1, 2, 0, 0, 0, 0, 0⟩ ⟨0, 0, 1, 2⟩ w
theorem kb2 (w : World) : Calls Try.prog 22 #[.agg #[.int .i64 1, .int .i64 416, .int .i64 0, .int .i64 1, .int .i64 2, .int .i64 0, .int .i64 0, .int .i64 0, .int .i64 0, .int .i64 0], .agg #[.int .i64 0, .int .i64 0, .int .i64 3, .int .i64 2]] w fun e w' => e = .returned (.int .i64 4) ∧ Below w.heap.size w w' :=
  pBits_any ⟨1, 416, 0, 1, 2, 0, 0, 0, 0, 0⟩ ⟨0, 0, 3, 2⟩ w
theorem km (w : World) : Calls Try.prog 24 #[.agg #[.int .i64 1, .int .i64 416, .int .i64 0, .int .i64 1, .int .i64 2, .int .i64 0, .int .i64 0, .int .i64 0, .int .i64 0, .int .i64 0], .agg #[.int .i64 0, .int .i64 0, .int .i64 3, .int .i64 3], .int .i64 1] w fun e w' => e = .returned (.bool false) ∧ Below w.heap.size w w' :=
  pMay_any ⟨1, 416, 0, 1, 2, 0, 0, 0, 0, 0⟩ ⟨0, 0, 3, 3⟩ 1 w
theorem two_cells {k : Nat} {ty mode nlink uid gid size id gen change time cl seq cu cg : Int} {w : World} (h : Two k ⟨ty, mode, nlink, uid, gid, size, id, gen, change, time⟩ ⟨cl, seq, cu, cg⟩ w) :
    (w.cell? ⟨k, 0, none⟩ = some (.int .i64 ty) ∧ w.cell? ⟨k, 1, none⟩ = some (.int .i64 mode) ∧ w.cell? ⟨k, 2, none⟩ = some (.int .i64 nlink) ∧ w.cell? ⟨k, 3, none⟩ = some (.int .i64 uid) ∧ w.cell? ⟨k, 4, none⟩ = some (.int .i64 gid) ∧ w.cell? ⟨k, 5, none⟩ = some (.int .i64 size) ∧ w.cell? ⟨k, 6, none⟩ = some (.int .i64 id) ∧ w.cell? ⟨k, 7, none⟩ = some (.int .i64 gen) ∧ w.cell? ⟨k, 8, none⟩ = some (.int .i64 change) ∧ w.cell? ⟨k, 9, none⟩ = some (.int .i64 time)) ∧ w.cell? ⟨k + 1, 0, none⟩ = some (.int .i64 cl) ∧ w.cell? ⟨k + 1, 1, none⟩ = some (.int .i64 seq) ∧ w.cell? ⟨k + 1, 2, none⟩ = some (.int .i64 cu) ∧ w.cell? ⟨k + 1, 3, none⟩ = some (.int .i64 cg) := h.cells
theorem hide_op (d : Nat) (o : Op) (t : TypeId) (p : String) (af : Array Edge) (g : Option (Nat × Bool)) : Oper.mk (some d) o t p af g = Oper.mk (some d) (_root_.id o) t p af g := rfl
theorem two_step {k : Nat} {a : Pa} {c : Pc} {w W W' : World} (b : Below W.heap.size W W') (t : Two k a c W) (f : Below w.heap.size w W) : Two k a c W' ∧ Below w.heap.size w W' := ⟨t.below b, f.trans (b.mono f.size)⟩
theorem ks : ((str (pmShow 416)).toList == [114, 119, 45, 114, 45, 45, 45, 45, 45]) = true := by decide +kernel

set_option maxHeartbeats 2000000 in
set_option maxRecDepth 100000 in
theorem pknown_any (w : World) : Calls Try.prog 27 #[] w fun e w' => e = .returned (.bool true) ∧ Below w.heap.size w w' := by
  have hks := ks
  go_enter Try.func27, Try.ntmps27
  go_wp2_with fail
  go_must (refine (kb1 _).mono ?_)
  rintro e w1 ⟨rfl, b1⟩
  have f1 : Below w.heap.size w w1 := ((Below.refl _ _).alloc (Nat.le_refl _) _).trans (b1.mono (by simp))
  have st := (St.new w 40 #[.int .i64 1, .int .i64 416, .int .i64 0, .int .i64 1, .int .i64 2, .int .i64 0, .int .i64 0, .int .i64 0, .int .i64 0, .int .i64 0]).below b1
  obtain ⟨c0, c1, c2, c3, c4, c5, c6, c7, c8, c9⟩ := st.cell10
  clear b1
  go_wp2_with fail
  go_must (refine (kb2 _).mono ?_)
  rintro e w2 ⟨rfl, b2⟩
  have f2 := f1.trans (b2.mono f1.size)
  have st2 := st.below b2
  clear c0 c1 c2 c3 c4 c5 c6 c7 c8 c9
  obtain ⟨c0, c1, c2, c3, c4, c5, c6, c7, c8, c9⟩ := st2.cell10
  clear b2 st
  go_wp2_with fail
  go_must (refine (km _).mono ?_)
  rintro e w3 ⟨rfl, b3⟩
  have f3 := f2.trans (b3.mono f2.size)
  clear b3 st2 c0 c1 c2 c3 c4 c5 c6 c7 c8 c9
  go_wp2_with fail
  go_must (refine (pShow_any 416 _).mono ?_)
  rintro e w4 ⟨rfl, b4⟩
  have f4 := f3.trans (b4.mono f3.size)
  go_wp2_with fail
  go_ret
  exact ⟨rfl, f4⟩
end Go.Proofs.Ytinhdabfiahjpaa
