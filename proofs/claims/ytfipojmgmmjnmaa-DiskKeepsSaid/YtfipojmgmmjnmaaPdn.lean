/- The program's disk: no disk. -/
import Derived.Test.YtfipojmgmmjnmaaPdm
namespace Go.Proofs.Ytfipojmgmmjnmaa
open Go.RowKit

/-- No disk: nil, or one that New did not make. -/
def NoD (v : Value) (w : World) : Prop := v = .pointer none ∨ ∃ p, v = .pointer (some ⟨p, 0, none⟩) ∧ St 65 p #[.slice none 0 0, .slice none 0 0, .slice none 0 0, .bool false, .int .i64 0, .bool false, .int .i64 0, .int .i64 0] w
theorem NoD.below {v : Value} {w w' : World} (h : NoD v w) (b : Below w.heap.size w w') : NoD v w' := by
  rcases h with h | ⟨p, h, hs⟩
  · exact .inl h
  · exact .inr ⟨p, h, hs.below b⟩
set_option maxRecDepth 100000 in
theorem dSize_no (v : Value) (w : World) (h : NoD v w) : Calls Try.prog 12 #[v] w fun e w' => e = .returned (.int .i64 0) ∧ w = w' := by
  rcases h with rfl | ⟨p, rfl, hs⟩
  · go_enter Try.func12, Try.ntmps12
    go_wp2
    go_ret
    exact ⟨rfl, rfl⟩
  · have c0 : w.cell? ⟨p, 0, none⟩ = some (.slice none 0 0) := hs.cell rfl
    clear hs
    go_enter Try.func12, Try.ntmps12
    go_wp2
    go_ret
    exact ⟨rfl, rfl⟩
set_option maxRecDepth 100000 in
theorem dDead_no (v : Value) (w : World) (h : NoD v w) : Calls Try.prog 17 #[v] w fun e w' => e = .returned (.bool false) ∧ w = w' := by
  rcases h with rfl | ⟨p, rfl, hs⟩
  · go_enter Try.func17, Try.ntmps17
    go_wp2
    go_ret
    exact ⟨rfl, rfl⟩
  · have c5 : w.cell? ⟨p, 5, none⟩ = some (.bool false) := hs.cell rfl
    clear hs
    go_enter Try.func17, Try.ntmps17
    go_wp2
    go_ret
    exact ⟨rfl, rfl⟩
set_option maxRecDepth 100000 in
theorem dWaiting_no (v : Value) (w : World) (h : NoD v w) : Calls Try.prog 18 #[v] w fun e w' => e = .returned (.int .i64 0) ∧ w = w' := by
  rcases h with rfl | ⟨p, rfl, hs⟩
  · go_enter Try.func18, Try.ntmps18
    go_wp2
    go_ret
    exact ⟨rfl, rfl⟩
  · have c1 : w.cell? ⟨p, 1, none⟩ = some (.slice none 0 0) := hs.cell rfl
    clear hs
    go_enter Try.func18, Try.ntmps18
    go_wp2
    go_ret
    exact ⟨rfl, rfl⟩
set_option maxRecDepth 100000 in
theorem dmade_no (v : Value) (w : World) (h : NoD v w) : Calls Try.prog 42 #[v] w fun e w' => e = .returned (.bool false) ∧ w = w' := by
  have HS := Lib.hid (dSize_no v w h)
  clear h
  go_enter Try.func42, Try.ntmps42
  go_wp2_with (go_at_call 12; go_must (refine HS.out.mono ?_); rintro e w1 ⟨rfl, rfl⟩)
  go_ret
  exact ⟨rfl, rfl⟩
set_option maxRecDepth 100000 in
theorem drefusal_no (v : Value) (w : World) (h : NoD v w) : Calls Try.prog 45 #[v] w fun e w' => e = .returned (.int .i64 1) ∧ w = w' := by
  have HS := Lib.hid (dmade_no v w h)
  clear h
  go_enter Try.func45, Try.ntmps45
  go_wp2_with (go_at_call 42; go_must (refine HS.out.mono ?_); rintro e w1 ⟨rfl, rfl⟩)
  go_ret
  exact ⟨rfl, rfl⟩
set_option maxRecDepth 100000 in
theorem dRead_no (v : Value) (i : Int) (w : World) (h : NoD v w) : Calls Try.prog 25 #[v, .int .i64 i] w fun e w' => e = .returned (.tuple #[.string ⟨#[]⟩, .int .i64 1]) ∧ w = w' := by
  have HS := Lib.hid (drefusal_no v w h)
  clear h
  go_enter Try.func25, Try.ntmps25
  go_wp2_with (go_at_call 45; go_must (refine HS.out.mono ?_); rintro e w1 ⟨rfl, rfl⟩)
  go_ret2
  exact ⟨rfl, rfl⟩
set_option maxRecDepth 100000 in
theorem dWrite_no (v : Value) (i : Int) (s : ByteArray) (w : World) (h : NoD v w) : Calls Try.prog 22 #[v, .int .i64 i, .string s] w fun e w' => e = .returned (.int .i64 1) ∧ w = w' := by
  have HS := Lib.hid (drefusal_no v w h)
  clear h
  go_enter Try.func22, Try.ntmps22
  go_wp2_with (go_at_call 45; go_must (refine HS.out.mono ?_); rintro e w1 ⟨rfl, rfl⟩)
  go_ret
  exact ⟨rfl, rfl⟩
set_option maxRecDepth 100000 in
theorem dBarrier_no (v : Value) (w : World) (h : NoD v w) : Calls Try.prog 24 #[v] w fun e w' => e = .returned (.int .i64 1) ∧ w = w' := by
  have HS := Lib.hid (drefusal_no v w h)
  clear h
  go_enter Try.func24, Try.ntmps24
  go_wp2_with (go_at_call 45; go_must (refine HS.out.mono ?_); rintro e w1 ⟨rfl, rfl⟩)
  go_ret
  exact ⟨rfl, rfl⟩
set_option maxRecDepth 100000 in
theorem dArm_no (v : Value) (n : Int) (w : World) (h : NoD v w) : Calls Try.prog 35 #[v, .int .i64 n] w fun e w' => e = .returned (.int .i64 1) ∧ w = w' := by
  have HS := Lib.hid (drefusal_no v w h)
  clear h
  go_enter Try.func35, Try.ntmps35
  go_wp2_with (go_at_call 45; go_must (refine HS.out.mono ?_); rintro e w1 ⟨rfl, rfl⟩)
  go_ret
  exact ⟨rfl, rfl⟩
set_option maxRecDepth 100000 in
theorem dCrash_no (v k : Value) (w : World) (h : NoD v w) : Calls Try.prog 21 #[v, k] w fun e w' => e = .returned (.int .i64 1) ∧ w = w' := by
  have HS := Lib.hid (dmade_no v w h)
  clear h
  go_enter Try.func21, Try.ntmps21
  go_wp2_with (go_at_call 42; go_must (refine HS.out.mono ?_); rintro e w1 ⟨rfl, rfl⟩)
  go_ret
  exact ⟨rfl, rfl⟩
set_option maxRecDepth 100000 in
theorem dCount_no (v : Value) (w : World) (h : NoD v w) : Calls Try.prog 16 #[v] w fun e w' => e = .returned (.tuple #[.int .i64 0, .int .i64 0]) ∧ ∃ q, w' = w.drewN q := by
  rcases h with rfl | ⟨p, rfl, hs⟩
  · go_enter Try.func16, Try.ntmps16
    go_wp2
    go_ret2
    exact ⟨rfl, 0, rfl⟩
  · have H6 := Lib.hid (show ∀ W, (∃ d, W = World.drewN w d) → Calls Try.prog 41 #[.pointer (some ⟨p, 6, none⟩)] W fun e w' => e = .returned (.int .i64 0) ∧ w' = W from fun W hW => by
      obtain ⟨d, rfl⟩ := hW
      exact (i64_is ⟨p, 6, none⟩ 0 (w.drewN d) (St.cell (w := w.drewN d) (j := 6) hs rfl)).mono fun _ _ h => ⟨h.1, h.2.symm⟩)
    have H7 := Lib.hid (show ∀ W, (∃ d, W = World.drewN w d) → Calls Try.prog 41 #[.pointer (some ⟨p, 7, none⟩)] W fun e w' => e = .returned (.int .i64 0) ∧ w' = W from fun W hW => by
      obtain ⟨d, rfl⟩ := hW
      exact (i64_is ⟨p, 7, none⟩ 0 (w.drewN d) (St.cell (w := w.drewN d) (j := 7) hs rfl)).mono fun _ _ h => ⟨h.1, h.2.symm⟩)
    clear hs
    go_enter Try.func16, Try.ntmps16
    go_wp2_with fail
    go_quiet (first | (go_at_call 41; exact Calls.quiet_of_same (H6.out _ ⟨_, rfl⟩)) | (go_at_call 41; exact Calls.quiet_of_same (H7.out _ ⟨_, rfl⟩)))
    go_wp2_with fail
    go_ret2
    exact ⟨rfl, _, rfl⟩
set_option maxRecDepth 100000 in
theorem dImage_no (v : Value) (w : World) (h : NoD v w) : Calls Try.prog 20 #[v] w fun e w' => (∃ ao cap, e = .returned (.slice ao 0 cap)) ∧ Below w.heap.size w w' := by
  rcases h with rfl | ⟨p, rfl, hs⟩
  · go_enter Try.func20, Try.ntmps20
    go_wp2
    go_ret
    exact ⟨⟨_, _, rfl⟩, Below.refl _ _⟩
  · obtain ⟨i0, hi, hz0, hz1, hz2⟩ := info_parts infoStr2
    have c0 : w.cell? ⟨p, 0, none⟩ = some (.slice none 0 0) := hs.cell rfl
    have c0' : (w.alloc (.cells (madeCells #[Value.string ⟨#[]⟩] 0) 9 (0, 0))).cell? ⟨p, 0, none⟩ = some (.slice none 0 0) := cell_alloc c0 _
    clear hs
    go_enter Try.func20, Try.ntmps20
    go_wp2_with ((with_reducible show wpList _ _ _ ({ dst := _, op := .makeSlice _ _ _, type := _, pos := _, after := _, guard := _ } :: _) _ _); refine wpList_make rfl 40 9 _ _ rfl i0 (.string ⟨#[]⟩) 1 Try.underlying40 hi hz0 hz1 0 rfl rfl (by simp) (by decide) ?_)
    go_loopw [19] (fun c wr => wr = w.alloc (.cells (madeCells #[Value.string ⟨#[]⟩] 0) 9 (0, 0)) ∧ c = .int .i64 0) (fun _ _ => 0)
    case atStart => exact ⟨rfl, rfl⟩
    case round =>
      obtain ⟨rfl, rfl⟩ := hrel
      go_wp2_with fail
      go_ret
      exact ⟨⟨_, _, rfl⟩, (Below.refl _ w).alloc (Nat.le_refl _) _⟩
end Go.Proofs.Ytfipojmgmmjnmaa
