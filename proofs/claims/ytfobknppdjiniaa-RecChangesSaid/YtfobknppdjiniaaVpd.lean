/- rec.Check of a change that goes. -/
import Derived.Test.YtfobknppdjiniaaVpc
import Derived.Test.YtfobknppdjiniaaVd
namespace Go.Proofs.Ytfobknppdjiniaa
open Go.RowKit

theorem range_all {T : TypeId} {k : Nat} {cs : Array Value} {w : World} (h : St T k cs w) : w.rangeAt k 0 cs.toList := fun j u hu => by
  rw [Nat.zero_add]
  exact h.cell (by simpa using hu)

set_option maxRecDepth 100000 in
set_option maxHeartbeats 1000000 in
theorem recCheck_gone (s : ByteArray) (w : World) (hs : s.size = 2) : Calls Try.prog 11 #[.agg #[.int .i64 4, .int .i64 0, .int .i64 0, .string s, .string ⟨#[]⟩, .string ⟨#[]⟩, .int .i64 0, .int .i64 0, .int .i64 0, .int .i64 0, .int .i64 0, .int .i64 0, .int .i64 0, .int .i64 0, .int .i64 0, .int .i64 0, .int .i64 0, .int .i64 0]] w fun e w' => e = .returned (.int .i64 0) ∧ Below w.heap.size w w' := by
  obtain ⟨W, hW⟩ : ∃ W, W = ((w.alloc (.cells #[.int .i64 4, .int .i64 0, .int .i64 0, .string s, .string ⟨#[]⟩, .string ⟨#[]⟩, .int .i64 0, .int .i64 0, .int .i64 0, .int .i64 0, .int .i64 0, .int .i64 0, .int .i64 0, .int .i64 0, .int .i64 0, .int .i64 0, .int .i64 0, .int .i64 0] 39 (0, 0))).alloc (.cells #[.int .i64 4, .int .i64 0, .int .i64 0, .string s, .string ⟨#[]⟩, .string ⟨#[]⟩, .int .i64 0, .int .i64 0, .int .i64 0, .int .i64 0, .int .i64 0, .int .i64 0, .int .i64 0, .int .i64 0, .int .i64 0, .int .i64 0, .int .i64 0, .int .i64 0] 39 (0, 0))).alloc (.cells #[.bool true] 4 (0, 0)) := ⟨_, rfl⟩
  have hsz : W.heap.size = w.heap.size + 1 + 1 + 1 := by rw [hW]; simp
  have s0 : St 39 w.heap.size (goneCs s) W := by rw [hW]; exact ((St.new w _ _).alloc _).alloc _
  have s1 : St 39 (w.heap.size + 1) (goneCs s) W := by rw [hW]; have := (St.new (w.alloc (.cells (goneCs s) 39 (0, 0))) 39 (goneCs s)).alloc (.cells #[.bool true] 4 (0, 0)); simpa [goneCs] using this
  have s2 : St 4 (w.heap.size + 1 + 1) #[.bool true] W := by rw [hW]; have := St.new ((w.alloc (.cells (goneCs s) 39 (0, 0))).alloc (.cells (goneCs s) 39 (0, 0))) 4 #[.bool true]; simpa [goneCs] using this
  have bW : Below w.heap.size w W := by rw [hW]; exact (((Below.refl _ w).alloc (Nat.le_refl _) _).alloc (by simp) _).alloc (by simp; omega) _
  have HL := Lib.hid (show Calls Try.prog 13 #[.slice (some ⟨w.heap.size + 1, 0, none⟩) 1 1, .agg #[.func (.func 23) #[] #[], .func (.func 24) #[] #[.pointer (some ⟨w.heap.size + 1 + 1, 0, none⟩)], .func (.func 25) #[] #[.pointer (some ⟨w.heap.size + 1 + 1, 0, none⟩)], .func (.func 26) #[] #[.pointer (some ⟨w.heap.size + 1 + 1, 0, none⟩)], .func (.func 27) #[] #[.pointer (some ⟨w.heap.size + 1 + 1, 0, none⟩)]]] W fun e w' => e = .returned (.bool true) ∧ St 39 w.heap.size (goneCs s) w' ∧ St 39 (w.heap.size + 1) (goneCs ⟨#[]⟩) w' ∧ St 4 (w.heap.size + 1 + 1) #[.bool true] w' ∧ Below w.heap.size w w' from
    (visit_look (w.heap.size + 1) (w.heap.size + 1 + 1) s W hs (by omega) s1 s2).mono fun e w' ⟨he, q1, q2, q3⟩ => ⟨he, ((q3 (w.heap.size + 1) (Nat.le_refl _) (by omega) (by omega)).block w.heap.size (by omega)).trans s0, q1, q2, bW.trans (q3 w.heap.size (by omega) (by omega) (by omega))⟩)
  have HW := Lib.hid hW
  clear hW s0 s1 s2 bW hs hsz
  go_enter Try.func11, Try.ntmps11
  go_wp2_with (first
    | ((with_reducible show wpList _ _ _ ({ dst := _, op := .load 39 (.tmp 1), type := _, pos := _, after := _, guard := _ } :: _) _ _); refine wpList_load_st rfl 39 _ rfl w.heap.size rfl 39 #[.int .i64 4, .int .i64 0, .int .i64 0, .string s, .string ⟨#[]⟩, .string ⟨#[]⟩, .int .i64 0, .int .i64 0, .int .i64 0, .int .i64 0, .int .i64 0, .int .i64 0, .int .i64 0, .int .i64 0, .int .i64 0, .int .i64 0, .int .i64 0, .int .i64 0] (St.new w _ _) _ Try.underlying39 rfl (by kernel_rfl) ?_)
    | (go_at_call 13; rw [← HW.out]; go_must (refine HL.out.mono ?_); rintro e w3 ⟨rfl, q1, q2, q3, q4⟩; have c0 : w3.cell? ⟨w.heap.size, 0, none⟩ = some (.int .i64 4) := q1.cell rfl; have c1 : w3.cell? ⟨w.heap.size + 1 + 1, 0, none⟩ = some (.bool true) := q3.cell rfl; have Q2 := Lib.hid q2; have Q4 := Lib.hid q4; clear q1 q2 q3 q4))
  obtain ⟨cz, hcz⟩ : ∃ cz, cz = goneCs ⟨#[]⟩ := ⟨_, rfl⟩
  have hne : ∀ W, (binOp .neq 39 (.agg cz) (.agg #[.int .i64 4, .int .i64 0, .int .i64 0, .string ⟨#[]⟩, .string ⟨#[]⟩, .string ⟨#[]⟩, .int .i64 0, .int .i64 0, .int .i64 0, .int .i64 0, .int .i64 0, .int .i64 0, .int .i64 0, .int .i64 0, .int .i64 0, .int .i64 0, .int .i64 0, .int .i64 0])).run Try.prog W = .ok (.bool false) W := by
    intro W
    rw [hcz]
    exact (run_ne_ch ⟨4, 0, 0, ⟨#[]⟩, ⟨#[]⟩, ⟨#[]⟩, Pa.zero, 0, 0⟩ ⟨4, 0, 0, ⟨#[]⟩, ⟨#[]⟩, ⟨#[]⟩, Pa.zero, 0, 0⟩ W).trans (by rw [decide_eq_true rfl]; rfl)
  have CZ := Lib.hid (show w3.rangeAt (w.heap.size + 1) 0 cz.toList from by rw [hcz]; exact range_all Q2.out)
  have HCZ := Lib.hid hcz
  clear hcz
  refine wp_region_quiet_lit (by kernel_rfl) (by kernel_rfl) ?_
  quiet_step (fail)
  quiet_step (fail)
  quiet_step (fail)
  quiet_step (fail)
  quiet_step (fail)
  quiet_step (fail)
  quiet_step (fail)
  quiet_step (fail)
  quiet_step (fail)
  refine wpQuiet_load_mid (by rfl) 39 (.tmp 23) rfl (w.heap.size + 1) 0 (by simp [Act.eval]) cz.toList _ (fun w' hw' => by obtain ⟨m, rfl⟩ := hw'; exact CZ.out) Try.underlying39 rfl (by rw [HCZ.out]; kernel_rfl) ?_
  quiet_step (fail)
  quiet_step (fail)
  quiet_step (fail)
  quiet_step (fail)
  quiet_step (fail)
  refine wpQuiet_nil ?_
  intro _ hw'
  obtain ⟨nq, hw''⟩ := hw'
  subst hw''
  go_wp2_with fail
  go_ret
  exact ⟨rfl, below_drewN Q4.out _⟩
end Go.Proofs.Ytfobknppdjiniaa
