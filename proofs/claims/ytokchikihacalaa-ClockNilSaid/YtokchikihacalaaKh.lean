/- The law of no clock. -/
import Derived.Test.YtokchikihacalaaKd
namespace Go.Proofs.Ytokchikihacalaa
open Go.RowKit

theorem NoC.drewN {v : Value} {w : World} (h : NoC v w) (q : Nat) : NoC v (w.drewN q) := h

set_option maxRecDepth 100000 in
set_option maxHeartbeats 1000000 in
theorem knil_large (s : ByteArray) (b : Bool) (w : World) (hs : 100 < s.size) : Calls Try.prog 6 #[.string s, .bool b] w fun e w' => e = .returned (.bool true) ∧ Below w.heap.size w w' := by
  have d1 : decide ((s.size : Int) > 100) = true := decide_eq_true (by omega)
  clear hs
  go_enter Try.func6, Try.ntmps6
  go_wp2_with (go_at_call 11; go_must (with_reducible refine (lkknown_any _).mono ?_); rintro e w2 ⟨rfl, b2⟩)
  go_ret
  exact ⟨rfl, b2⟩
set_option maxRecDepth 100000 in
set_option maxHeartbeats 1000000 in
theorem knil_any (s : ByteArray) (b : Bool) (w : World) : Calls Try.prog 6 #[.string s, .bool b] w fun e w' => e = .returned (.bool true) ∧ Below w.heap.size w w' := by
  by_cases hs : 100 < s.size
  · exact knil_large s b w hs
  have d1 : decide ((s.size : Int) > 100) = false := decide_eq_false (by omega)
  have H1 := Lib.hid (fun v W h => kTouch_no v s W h)
  have H2 := Lib.hid (fun v W h => kHas_no v s W h)
  have H3 := Lib.hid (fun v W h => kMarked_no v s W h)
  have H4 := Lib.hid (fun v W h => kVictim_no v W h)
  have H5 := Lib.hid (fun v W h => kDrop_no v s W h)
  have H6 := Lib.hid (fun v W h => kLen_no v W h)
  have H7 := Lib.hid (fun v W h => kKeys_no v W h)
  have HK := Lib.hid (fun W (hW : Below w.heap.size w W) q => (lkknown_any (W.drewN q)).mono (R' := fun e w' => e = .returned (.bool true) ∧ Below w.heap.size w w') fun e w' ⟨he, hb⟩ => ⟨he, (below_drewN hW q).trans (hb.mono hW.size)⟩)
  clear hs
  cases b with
  | false =>
    have N0 := Lib.hid (show ∀ q, NoC (.pointer none) (w.drewN q) from fun q => .inl rfl)
    have NN := Lib.hid (show NoC (.pointer none) w from .inl rfl)
    have BB := Lib.hid (Below.refl w.heap.size w)
    go_enter Try.func6, Try.ntmps6
    go_wp2_with (first
      | (go_at_call 13; go_must (with_reducible refine (H1.out _ _ NN.out).mono ?_); rintro e w1 ⟨rfl, q, rfl⟩)
      | (go_at_call 21; go_must (with_reducible refine (H2.out _ _ (N0.out _)).mono ?_); rintro e w1 ⟨rfl, q, rfl⟩)
      | (go_at_call 23; go_must (with_reducible refine (H3.out _ _ (N0.out _)).mono ?_); rintro e w1 ⟨rfl, q, rfl⟩)
      | (go_at_call 18; go_must (with_reducible refine (H4.out _ _ (N0.out _)).mono ?_); rintro e w1 ⟨rfl, q, rfl⟩)
      | (go_at_call 15; go_must (with_reducible refine (H5.out _ _ (N0.out _)).mono ?_); rintro e w1 ⟨rfl, q, rfl⟩)
      | (go_at_call 30; go_must (with_reducible refine (H6.out _ _ (N0.out _)).mono ?_); rintro e w1 ⟨rfl, q, rfl⟩)
      | (go_at_call 22; go_must (with_reducible refine (H7.out _ _ (N0.out _)).mono ?_); rintro e w1 ⟨ao, cap, rfl, q, rfl⟩)
      | (go_at_call 11; (with_reducible refine (HK.out _ BB.out _).mono ?_); rintro e w2 ⟨rfl, b2⟩))
    go_ret
    exact ⟨rfl, b2⟩
  | true =>
    obtain ⟨W, hW⟩ : ∃ W, W = w.alloc (.cells #[.map none, .map none, .pointer none] 56 (0, 0)) := ⟨_, rfl⟩
    have N0 := Lib.hid (show ∀ q, NoC (.pointer (some ⟨w.heap.size, 0, none⟩)) (W.drewN q) from fun q => .inr ⟨_, rfl, by rw [hW]; exact St.new w 56 _⟩)
    have NN := Lib.hid (show NoC (.pointer (some ⟨w.heap.size, 0, none⟩)) W from .inr ⟨_, rfl, by rw [hW]; exact St.new w 56 _⟩)
    have BB := Lib.hid (show Below w.heap.size w W by rw [hW]; exact (Below.refl w.heap.size w).alloc (Nat.le_refl _) _)
    have HW := Lib.hid hW
    clear hW
    go_enter Try.func6, Try.ntmps6
    go_wp2_with (first
      | (go_at_call 13; rw [← HW.out]; (with_reducible refine (H1.out _ _ NN.out).mono ?_); rintro e w1 ⟨rfl, q, rfl⟩)
      | (go_at_call 21; go_must (with_reducible refine (H2.out _ _ (N0.out _)).mono ?_); rintro e w1 ⟨rfl, q, rfl⟩)
      | (go_at_call 23; go_must (with_reducible refine (H3.out _ _ (N0.out _)).mono ?_); rintro e w1 ⟨rfl, q, rfl⟩)
      | (go_at_call 18; go_must (with_reducible refine (H4.out _ _ (N0.out _)).mono ?_); rintro e w1 ⟨rfl, q, rfl⟩)
      | (go_at_call 15; go_must (with_reducible refine (H5.out _ _ (N0.out _)).mono ?_); rintro e w1 ⟨rfl, q, rfl⟩)
      | (go_at_call 30; go_must (with_reducible refine (H6.out _ _ (N0.out _)).mono ?_); rintro e w1 ⟨rfl, q, rfl⟩)
      | (go_at_call 22; go_must (with_reducible refine (H7.out _ _ (N0.out _)).mono ?_); rintro e w1 ⟨ao, cap, rfl, q, rfl⟩)
      | (go_at_call 11; (with_reducible refine (HK.out _ BB.out _).mono ?_); rintro e w2 ⟨rfl, b2⟩))
    go_ret
    exact ⟨rfl, b2⟩
end Go.Proofs.Ytokchikihacalaa
