/- Messages: the program's Refuse and Answer. -/
import Derived.Test.YtimbcombhdgjiaaDoorMr
import Derived.Test.YtimbcombhdgjiaaDoorRl
namespace Go.Proofs.YtimbcombhdgjiaaDoor
open Go.RowKit

set_option maxRecDepth 100000 in
theorem mRefuse_any (m : Mg) (k : Int) (w : World) : Calls Tryd.prog 13 #[.agg m.arr, .int .i64 k] w fun e w' => e = .returned (.agg (Mg.arr { Mg.zero with xid := m.xid, ans := true, accept := k })) ∧ Below w.heap.size w w' := by
  obtain ⟨x, hx⟩ : ∃ x, x = m.xid := ⟨_, rfl⟩
  have r0 : m.arr[0]? = some (.int .i64 x) := by rw [hx]; rfl
  rw [← hx]
  obtain ⟨row, hrow⟩ : ∃ row, row = m.arr := ⟨_, rfl⟩
  rw [← hrow] at r0 ⊢
  have s1 := (St.new w 25 row).alloc (.cells #[.int .i64 0, .bool false, .bool false, .int .i64 0, .int .i64 0, .int .i64 0, .int .i64 0, .int .i64 0, .int .i64 0, .string ⟨#[]⟩] 25 (0, 0))
  have c0 := s1.cell r0
  have d0 := (St.new w 25 row).cell r0
  have L0 := Lib.hid ((below_one w (.cells row 25 (0, 0))).alloc (below_one w (.cells row 25 (0, 0))).size (.cells (Mg.arr { Mg.zero with xid := x, ans := true, accept := k }) 25 (0, 0)))
  clear hx hrow r0 s1
  go_enter Tryd.func13, Tryd.ntmps13
  go_wp2
  refine ret_cell (k := w.heap.size + 1) (T := 25) Tryd.results13 rfl (St.new1 _ _ _ _) Tryd.underlying25 rfl (by kernel_rfl) rfl ?_
  exact ⟨rfl, L0.out⟩
end Go.Proofs.YtimbcombhdgjiaaDoor
