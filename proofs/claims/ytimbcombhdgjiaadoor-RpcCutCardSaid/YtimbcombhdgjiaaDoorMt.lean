/- Messages: the program's numbers ahead of a body; its Check. -/
import Derived.Test.YtimbcombhdgjiaaDoorMp
import Derived.Test.YtimbcombhdgjiaaDoorMn
import Derived.Test.YtimbcombhdgjiaaDoorRl
import Derived.Deep.RegionHeld
import Derived.Deep.RegionHeld3
namespace Go.Proofs.YtimbcombhdgjiaaDoor
open Go.RowKit

theorem mgHead_len (m : Mg) : (mgHead m).length = if m.ans then 6 else 14 := by
  unfold mgHead; cases m.ans <;> rfl
set_option maxRecDepth 100000 in
set_option maxHeartbeats 2000000 in
theorem rchead_ans (xid : Int) (again : Bool) (proc client seq uid gid accept : Int) (body : ByteArray) (w : World) :
    Calls Tryd.prog 14 #[.agg (Mg.arr ⟨xid, true, again, proc, client, seq, uid, gid, accept, body⟩)] w fun e w' => ∃ b, w.heap.size ≤ b ∧ e = .returned (.slice (some ⟨b, 0, none⟩) 6 6) ∧ St 3 b #[.int .i64 xid, .int .i64 1, .int .i64 0, .int .i64 (if again then 1 else 0), .int .i64 0, .int .i64 accept] w' ∧ Below w.heap.size w w' := by
  dsimp only [Mg.arr]
  obtain ⟨row, hrow⟩ : ∃ row : Array Value, row = #[.int .i64 xid, .bool true, .bool again, .int .i64 proc, .int .i64 client, .int .i64 seq, .int .i64 uid, .int .i64 gid, .int .i64 accept, .string body] := ⟨_, rfl⟩
  rw [← hrow]
  have st := St.new w 25 row
  have c0 : (w.alloc (.cells row 25 (0, 0))).cell? ⟨w.heap.size, 0, none⟩ = some (.int .i64 xid) := st.cell (by rw [hrow]; rfl)
  have c1 : (w.alloc (.cells row 25 (0, 0))).cell? ⟨w.heap.size, 1, none⟩ = some (.bool true) := st.cell (by rw [hrow]; rfl)
  have c2 : (w.alloc (.cells row 25 (0, 0))).cell? ⟨w.heap.size, 2, none⟩ = some (.bool again) := st.cell (by rw [hrow]; rfl)
  have c8 : (w.alloc (.cells row 25 (0, 0))).cell? ⟨w.heap.size, 8, none⟩ = some (.int .i64 accept) := st.cell (by rw [hrow]; rfl)
  have KK : ∀ o, (((w.alloc (.cells row 25 (0, 0))).alloc o).drew.cell? ⟨w.heap.size, 0, none⟩ = some (.int .i64 xid)) ∧ (((w.alloc (.cells row 25 (0, 0))).alloc o).drew.cell? ⟨w.heap.size, 2, none⟩ = some (.bool again)) ∧ (((w.alloc (.cells row 25 (0, 0))).alloc o).drew.cell? ⟨w.heap.size, 8, none⟩ = some (.int .i64 accept)) := fun o => by
    have s2 : St 25 w.heap.size row ((w.alloc (.cells row 25 (0, 0))).alloc o).drew := st.alloc o
    exact ⟨s2.cell (by rw [hrow]; rfl), s2.cell (by rw [hrow]; rfl), s2.cell (by rw [hrow]; rfl)⟩
  replace KK := Lib.hid KK
  have HF := fun w => rcflag_any again w
  obtain ⟨fl, hfl⟩ : ∃ v, v = (if again then (1 : Int) else 0) := ⟨_, rfl⟩
  rw [← hfl] at HF ⊢
  replace HF := Lib.hid HF
  have L0 := Lib.hid (below_one w (.cells row 25 (0, 0)))
  clear hrow st hfl
  have LD : Below w.heap.size w (w.alloc (.cells row 25 (0, 0))).drew := L0.out.drew
  go_enter Tryd.func14, Tryd.ntmps14
  go_wp2_with fail
  go_region_held3 (fun w' => w'.cell? ⟨w.heap.size, 0, none⟩ = some (.int .i64 xid) ∧ w'.cell? ⟨w.heap.size, 2, none⟩ = some (.bool again) ∧ w'.cell? ⟨w.heap.size, 8, none⟩ = some (.int .i64 accept))
    (first | exact ⟨c0, c2, c8⟩ | exact KK.out _ | (simp [c0, c2, c8]; done) | assumption)
    ((go_at_call 27; go_must (refine (HF.out _).mono ?_); rintro e w1 ⟨rfl, rfl⟩))
  all_goals go_wp2
  all_goals go_ret
  all_goals exact ⟨_, by simp, rfl, St.new1 w _ 3 _, (L0.out.alloc (by simp) _).drew⟩
set_option maxRecDepth 100000 in
set_option maxHeartbeats 2000000 in
theorem rchead_call (xid : Int) (again : Bool) (proc client seq uid gid accept : Int) (body : ByteArray) (w : World) :
    Calls Tryd.prog 14 #[.agg (Mg.arr ⟨xid, false, again, proc, client, seq, uid, gid, accept, body⟩)] w fun e w' => ∃ b, w.heap.size ≤ b ∧ e = .returned (.slice (some ⟨b, 0, none⟩) 14 14) ∧ St 3 b #[.int .i64 xid, .int .i64 0, .int .i64 2, .int .i64 100003, .int .i64 3, .int .i64 proc, .int .i64 1, .int .i64 16, .int .i64 client, .int .i64 seq, .int .i64 uid, .int .i64 gid, .int .i64 0, .int .i64 0] w' ∧ Below w.heap.size w w' := by
  dsimp only [Mg.arr]
  obtain ⟨row, hrow⟩ : ∃ row : Array Value, row = #[.int .i64 xid, .bool false, .bool again, .int .i64 proc, .int .i64 client, .int .i64 seq, .int .i64 uid, .int .i64 gid, .int .i64 accept, .string body] := ⟨_, rfl⟩
  rw [← hrow]
  have st := St.new w 25 row
  have c0 : (w.alloc (.cells row 25 (0, 0))).cell? ⟨w.heap.size, 0, none⟩ = some (.int .i64 xid) := st.cell (by rw [hrow]; rfl)
  have c1 : (w.alloc (.cells row 25 (0, 0))).cell? ⟨w.heap.size, 1, none⟩ = some (.bool false) := st.cell (by rw [hrow]; rfl)
  have c3 : (w.alloc (.cells row 25 (0, 0))).cell? ⟨w.heap.size, 3, none⟩ = some (.int .i64 proc) := st.cell (by rw [hrow]; rfl)
  have c4 : (w.alloc (.cells row 25 (0, 0))).cell? ⟨w.heap.size, 4, none⟩ = some (.int .i64 client) := st.cell (by rw [hrow]; rfl)
  have c5 : (w.alloc (.cells row 25 (0, 0))).cell? ⟨w.heap.size, 5, none⟩ = some (.int .i64 seq) := st.cell (by rw [hrow]; rfl)
  have c6 : (w.alloc (.cells row 25 (0, 0))).cell? ⟨w.heap.size, 6, none⟩ = some (.int .i64 uid) := st.cell (by rw [hrow]; rfl)
  have c7 : (w.alloc (.cells row 25 (0, 0))).cell? ⟨w.heap.size, 7, none⟩ = some (.int .i64 gid) := st.cell (by rw [hrow]; rfl)
  have st2 := st.alloc (.cells #[.int .i64 client, .int .i64 seq, .int .i64 uid, .int .i64 gid] 23 (0, 0))
  have e0 : ((w.alloc (.cells row 25 (0, 0))).alloc (.cells #[.int .i64 client, .int .i64 seq, .int .i64 uid, .int .i64 gid] 23 (0, 0))).cell? ⟨w.heap.size, 0, none⟩ = some (.int .i64 xid) := st2.cell (by rw [hrow]; rfl)
  have e3 : ((w.alloc (.cells row 25 (0, 0))).alloc (.cells #[.int .i64 client, .int .i64 seq, .int .i64 uid, .int .i64 gid] 23 (0, 0))).cell? ⟨w.heap.size, 3, none⟩ = some (.int .i64 proc) := st2.cell (by rw [hrow]; rfl)
  have L0 := Lib.hid (below_one w (.cells row 25 (0, 0)))
  clear hrow st st2
  go_enter Tryd.func14, Tryd.ntmps14
  go_wp2
  go_ret
  exact ⟨w.heap.size + 1 + 1, by omega, rfl, St.new2 _ _ _ _ _, (L0.out.alloc (by simp) _).alloc (by simp; omega) _⟩
theorem rchead_any (m : Mg) (w : World) : Calls Tryd.prog 14 #[.agg m.arr] w fun e w' => ∃ b, w.heap.size ≤ b ∧ e = .returned (.slice (some ⟨b, 0, none⟩) (mgHead m).length (mgHead m).length) ∧ St 3 b (vals (mgHead m)) w' ∧ Below w.heap.size w w' := by
  obtain ⟨xid, ans, again, proc, client, seq, uid, gid, accept, body⟩ := m
  cases ans
  · exact rchead_call xid again proc client seq uid gid accept body w
  · exact rchead_ans xid again proc client seq uid gid accept body w
end Go.Proofs.YtimbcombhdgjiaaDoor
