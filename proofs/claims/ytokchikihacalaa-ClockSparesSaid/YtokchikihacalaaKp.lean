/- What the laws ask of the program's clock (keys are texts). -/
import Derived.Test.YtokchikihacalaaKke
namespace Go.Proofs.Ytokchikihacalaa
open Go.RowKit

/-- No clock, or one that nothing made. -/
def NoC (v : Value) (w : World) : Prop := v = .pointer none ∨ ∃ p, v = .pointer (some ⟨p, 0, none⟩) ∧ St 56 p #[.map none, .map none, .pointer none] w

theorem kHas_any (B p : Nat) (F : Nat → Prop) (l : List (ByteArray × Bool)) (s : ByteArray) (hs : s.size ≤ 9223372036854775807) (w : World) (h : CL B p F l w) :
    Calls Try.prog 21 #[.pointer (some ⟨p, 0, none⟩), .string s] w fun e w' => e = .returned (.bool (inK s l)) ∧ ∃ q, w' = w.drewN q := by
  obtain ⟨pm, sm, bs, h0, _⟩ := h
  exact kHas_at s hs h0
theorem kMarked_any (B p : Nat) (F : Nat → Prop) (l : List (ByteArray × Bool)) (s : ByteArray) (hs : s.size ≤ 9223372036854775807) (w : World) (h : CL B p F l w) :
    Calls Try.prog 23 #[.pointer (some ⟨p, 0, none⟩), .string s] w fun e w' => e = .returned (.bool (mkd l s)) ∧ Below w.heap.size w w' := by
  obtain ⟨pm, sm, bs, h0, _⟩ := h
  exact kMarked_at s hs h0
theorem kLen_any (B p : Nat) (F : Nat → Prop) (l : List (ByteArray × Bool)) (w : World) (h : CL B p F l w) :
    Calls Try.prog 30 #[.pointer (some ⟨p, 0, none⟩)] w fun e w' => e = .returned (.int .i64 (l.length : Int)) ∧ ∃ q, w' = w.drewN q := by
  obtain ⟨pm, sm, bs, h0, _⟩ := h
  exact kLen_at h0
set_option maxRecDepth 100000 in
theorem ktakes_no (v : Value) (s : ByteArray) (w : World) (h : NoC v w) : Calls Try.prog 42 #[v, .string s] w fun e w' => e = .returned (.bool false) ∧ w = w' := by
  rcases h with rfl | ⟨p, rfl, h⟩
  · go_enter_defers Try.func42, Try.ntmps42
    go_wp2
    refine ⟨.bool false, ?_, rfl, rfl⟩
    unfold results
    rw [Try.results42]
    simp [go_sem]
  · have c0 : w.cell? ⟨p, 0, none⟩ = some (.map none) := h.cell rfl
    have hne : (binOp BinOp.eql 52 (.map none) (.map none)).run Try.prog w = .ok (.bool true) w := by kernel_rfl
    clear h
    go_enter_defers Try.func42, Try.ntmps42
    go_wp2
    refine ⟨.bool false, ?_, rfl, rfl⟩
    unfold results
    rw [Try.results42]
    simp [go_sem]
set_option maxRecDepth 100000 in
theorem kLen_no (v : Value) (w : World) (h : NoC v w) : Calls Try.prog 30 #[v] w fun e w' => e = .returned (.int .i64 0) ∧ ∃ q, w' = w.drewN q := by
  rcases h with rfl | ⟨p, rfl, h⟩
  · go_enter Try.func30, Try.ntmps30
    go_wp2
    go_returns
    exact ⟨rfl, 0, rfl⟩
  · have c0 : w.cell? ⟨p, 0, none⟩ = some (.map none) := h.cell rfl
    clear h
    go_enter Try.func30, Try.ntmps30
    go_wp2
    go_returns
    exact ⟨rfl, 0, rfl⟩
set_option maxRecDepth 100000 in
theorem kTouch_no (v : Value) (s : ByteArray) (w : World) (h : NoC v w) : Calls Try.prog 13 #[v, .string s] w fun e w' => e = .returned (.tuple #[]) ∧ ∃ q, w' = w.drewN q := by
  have HM := Lib.hid (ktakes_no v s w h)
  clear h
  go_enter Try.func13, Try.ntmps13
  go_wp2_with (go_at_call 42; go_must (with_reducible refine HM.out.mono ?_); rintro e w1 ⟨rfl, rfl⟩)
  first
    | go_returns
    | (refine bodyPost_ret (results_none rfl _ _ _) rfl ?_)
  exact ⟨rfl, 0, rfl⟩
set_option maxRecDepth 100000 in
theorem kHas_no (v : Value) (s : ByteArray) (w : World) (h : NoC v w) : Calls Try.prog 21 #[v, .string s] w fun e w' => e = .returned (.bool false) ∧ ∃ q, w' = w.drewN q := by
  have HM := Lib.hid (ktakes_no v s w h)
  clear h
  go_enter Try.func21, Try.ntmps21
  go_wp2_with (go_at_call 42; go_must (with_reducible refine HM.out.mono ?_); rintro e w1 ⟨rfl, rfl⟩)
  go_returns
  exact ⟨rfl, 0, rfl⟩
set_option maxRecDepth 100000 in
theorem kMarked_no (v : Value) (s : ByteArray) (w : World) (h : NoC v w) : Calls Try.prog 23 #[v, .string s] w fun e w' => e = .returned (.bool false) ∧ ∃ q, w' = w.drewN q := by
  have HM := Lib.hid (ktakes_no v s w h)
  clear h
  go_enter Try.func23, Try.ntmps23
  go_wp2_with (go_at_call 42; go_must (with_reducible refine HM.out.mono ?_); rintro e w1 ⟨rfl, rfl⟩)
  go_returns
  exact ⟨rfl, 0, rfl⟩
set_option maxRecDepth 100000 in
theorem kVictim_no (v : Value) (w : World) (h : NoC v w) : Calls Try.prog 18 #[v] w fun e w' => e = .returned (.tuple #[.string ⟨#[]⟩, .bool false]) ∧ ∃ q, w' = w.drewN q := by
  have HL := Lib.hid (kLen_no v w h)
  clear h
  go_enter Try.func18, Try.ntmps18
  go_wp2_with (go_at_call 30; go_must (with_reducible refine HL.out.mono ?_); rintro e w1 ⟨rfl, q, rfl⟩)
  go_returns
  exact ⟨rfl, q, rfl⟩
set_option maxRecDepth 100000 in
theorem kDrop_no (v : Value) (s : ByteArray) (w : World) (h : NoC v w) : Calls Try.prog 15 #[v, .string s] w fun e w' => e = .returned (.bool false) ∧ ∃ q, w' = w.drewN q := by
  have HL := Lib.hid (kHas_no v s w h)
  clear h
  go_enter Try.func15, Try.ntmps15
  go_wp2_with (go_at_call 21; go_must (with_reducible refine HL.out.mono ?_); rintro e w1 ⟨rfl, q, rfl⟩)
  go_returns
  exact ⟨rfl, q, rfl⟩
set_option maxRecDepth 100000 in
theorem kKeys_no (v : Value) (w : World) (h : NoC v w) : Calls Try.prog 22 #[v] w fun e w' => ∃ ao cap, e = .returned (.slice ao 0 cap) ∧ ∃ q, w' = w.drewN q := by
  have HL := Lib.hid (kLen_no v w h)
  clear h
  go_enter Try.func22, Try.ntmps22
  go_wp2_with (go_at_call 30; go_must (with_reducible refine HL.out.mono ?_); rintro e w1 ⟨rfl, q, rfl⟩)
  go_returns
  exact ⟨none, 0, rfl, q, rfl⟩
end Go.Proofs.Ytokchikihacalaa
