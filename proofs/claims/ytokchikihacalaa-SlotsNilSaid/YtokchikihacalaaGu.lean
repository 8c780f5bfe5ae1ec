/- The law of no places. -/
import Derived.Test.YtokchikihacalaaGr
namespace Go.Proofs.Ytokchikihacalaa
open Go.RowKit

set_option maxRecDepth 100000 in
set_option maxHeartbeats 1000000 in
theorem gnil_any (i : Int) (w : World) : Calls Try.prog 9 #[.int .i64 i] w fun e w' => e = .returned (.bool true) ∧ Below w.heap.size w w' := by
  have HK := Lib.hid (fun q => (lgknown_any (w.drewN q)).mono (R' := fun e w' => e = .returned (.bool true) ∧ Below w.heap.size w w') fun e w' ⟨he, hb⟩ => ⟨he, (below_drewN (Below.refl w.heap.size w) q).trans hb⟩)
  have H1 := Lib.hid (fun W => gTake_no W)
  have H2 := Lib.hid (fun W => gUse_no i W)
  have H3 := Lib.hid (fun W => gGive_no i W)
  have H4 := Lib.hid (fun W => gSettle_no W)
  have H5 := Lib.hid (fun W => gState_no i W)
  have H6 := Lib.hid (fun W => gCount_no W)
  go_enter Try.func9, Try.ntmps9
  go_wp2_with (first
    | (go_at_call 38; go_must (with_reducible refine (H1.out _).mono ?_); rintro e w1 ⟨rfl, q, rfl⟩)
    | (go_at_call 41; go_must (with_reducible refine (H2.out _).mono ?_); rintro e w1 ⟨rfl, q, rfl⟩)
    | (go_at_call 39; go_must (with_reducible refine (H3.out _).mono ?_); rintro e w1 ⟨rfl, q, rfl⟩)
    | (go_at_call 40; go_must (with_reducible refine (H4.out _).mono ?_); rintro e w1 ⟨rfl, q, rfl⟩)
    | (go_at_call 37; go_must (with_reducible refine (H5.out _).mono ?_); rintro e w1 ⟨rfl, q, rfl⟩)
    | (go_at_call 35; go_must (with_reducible refine (H6.out _).mono ?_); rintro e w1 ⟨rfl, q, rfl⟩)
    | (go_at_call 31; (try simp only [World.drewN_drewN]); (with_reducible refine (HK.out _).mono ?_); rintro e w2 ⟨rfl, b2⟩))
  go_ret
  exact ⟨rfl, b2⟩
end Go.Proofs.Ytokchikihacalaa
