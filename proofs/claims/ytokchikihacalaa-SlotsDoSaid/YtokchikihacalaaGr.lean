/- The law's fixed calls of places. -/
import Derived.Test.YtokchikihacalaaGq
namespace Go.Proofs.Ytokchikihacalaa
open Go.RowKit

set_option maxRecDepth 100000 in
set_option maxHeartbeats 1000000 in
theorem lgknown_any (w : World) : Calls Try.prog 31 #[] w fun e w' => e = .returned (.bool true) ∧ Below w.heap.size w w' := by
  have HN := Lib.hid (fun W => (show Calls Try.prog 32 #[.int .i64 2] W fun e w' => ∃ p, e = .returned (.tuple #[.pointer (some ⟨p, 0, none⟩), .int .i64 0]) ∧ SL W.heap.size p (fun j => W.heap.size ≤ j ∧ j < w'.heap.size) [1, 1] w' ∧ Below W.heap.size W w' from gNew_ok 2 W (by omega) (by omega)))
  have HT1 := Lib.hid (fun B p F W hB h => (show Calls Try.prog 38 #[.pointer (some ⟨p, 0, none⟩)] W fun e w' => e = .returned (.tuple #[.int .i64 0, .bool true]) ∧ SLid B p F [2, 1] W w' from by
    have := gTake_any B p F [1, 1] W hB h; rw [show gdo [1, 1] ⟨0, 0⟩ = ([2, 1], 0, true) by decide] at this; exact this))
  have HT2 := Lib.hid (fun B p F W hB h => (show Calls Try.prog 38 #[.pointer (some ⟨p, 0, none⟩)] W fun e w' => e = .returned (.tuple #[.int .i64 1, .bool true]) ∧ SLid B p F [2, 2] W w' from by
    have := gTake_any B p F [2, 1] W hB h; rw [show gdo [2, 1] ⟨0, 0⟩ = ([2, 2], 1, true) by decide] at this; exact this))
  have HG := Lib.hid (fun B p F W hB h => (show Calls Try.prog 39 #[.pointer (some ⟨p, 0, none⟩), .int .i64 0] W fun e w' => e = .returned (.bool true) ∧ SLid B p F [3, 2] W w' from by
    have := gGive_any B p F [2, 2] 0 W hB h; rw [show gdo [2, 2] ⟨2, 0⟩ = ([3, 2], 0, true) by decide] at this; exact this))
  have HT3 := Lib.hid (fun B p F W hB h => (show Calls Try.prog 38 #[.pointer (some ⟨p, 0, none⟩)] W fun e w' => e = .returned (.tuple #[.int .i64 0, .bool false]) ∧ SLid B p F [3, 2] W w' from by
    have := gTake_any B p F [3, 2] W hB h; rw [show gdo [3, 2] ⟨0, 0⟩ = ([3, 2], 0, false) by decide] at this; exact this))
  have HS := Lib.hid (fun B p F W hB h => (show Calls Try.prog 40 #[.pointer (some ⟨p, 0, none⟩)] W fun e w' => e = .returned (.int .i64 1) ∧ SLid B p F [1, 2] W w' from gSettle_any B p F [3, 2] W hB h))
  have HT4 := Lib.hid (fun B p F W hB h => (show Calls Try.prog 38 #[.pointer (some ⟨p, 0, none⟩)] W fun e w' => e = .returned (.tuple #[.int .i64 0, .bool true]) ∧ SLid B p F [2, 2] W w' from by
    have := gTake_any B p F [1, 2] W hB h; rw [show gdo [1, 2] ⟨0, 0⟩ = ([2, 2], 0, true) by decide] at this; exact this))
  go_enter Try.func31, Try.ntmps31
  go_wp2_with (first
    | (go_at_call 32; go_must (with_reducible refine (HN.out _).mono ?_); rintro e w1 ⟨p, rfl, hp, b1⟩; have P1 := Lib.hid hp; have B1 := Lib.hid b1; have s1 := b1.size; clear hp b1)
    | (go_at_call 38; (with_reducible refine (HT1.out w.heap.size p _ _ s1 P1.out).mono ?_); rintro e w2 ⟨rfl, h2⟩; have P2 := Lib.hid h2.1; have B2 := Lib.hid (B1.out.trans (h2.below s1 fun j hj => (P1.out.inF j hj).1)); have s2 := B2.out.size; clear h2)
    | (go_at_call 38; (with_reducible refine (HT2.out w.heap.size p _ _ s2 P2.out).mono ?_); rintro e w3 ⟨rfl, h3⟩; have P3 := Lib.hid h3.1; have B3 := Lib.hid (B2.out.trans (h3.below s2 fun j hj => (P2.out.inF j hj).1)); have s3 := B3.out.size; clear h3)
    | (go_at_call 39; (with_reducible refine (HG.out w.heap.size p _ _ s3 P3.out).mono ?_); rintro e w4 ⟨rfl, h4⟩; have P4 := Lib.hid h4.1; have B4 := Lib.hid (B3.out.trans (h4.below s3 fun j hj => (P3.out.inF j hj).1)); have s4 := B4.out.size; clear h4)
    | (go_at_call 38; (with_reducible refine (HT3.out w.heap.size p _ _ s4 P4.out).mono ?_); rintro e w5 ⟨rfl, h5⟩; have P5 := Lib.hid h5.1; have B5 := Lib.hid (B4.out.trans (h5.below s4 fun j hj => (P4.out.inF j hj).1)); have s5 := B5.out.size; clear h5)
    | (go_at_call 40; (with_reducible refine (HS.out w.heap.size p _ _ s5 P5.out).mono ?_); rintro e w6 ⟨rfl, h6⟩; have P6 := Lib.hid h6.1; have B6 := Lib.hid (B5.out.trans (h6.below s5 fun j hj => (P5.out.inF j hj).1)); have s6 := B6.out.size; clear h6)
    | (go_at_call 38; (with_reducible refine (HT4.out w.heap.size p _ _ s6 P6.out).mono ?_); rintro e w7 ⟨rfl, h7⟩; have B7 := Lib.hid (B6.out.trans (h7.below s6 fun j hj => (P6.out.inF j hj).1)); clear h7))
  go_ret
  exact ⟨rfl, B7.out⟩
end Go.Proofs.Ytokchikihacalaa
