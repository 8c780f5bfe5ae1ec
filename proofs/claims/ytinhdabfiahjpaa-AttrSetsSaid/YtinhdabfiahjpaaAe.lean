/- The fixed calls that end each statement of layer 5. -/
import Derived.Test.YtinhdabfiahjpaaAb
import Derived.Test.YtinhdabfiahjpaaAd
namespace Go.Proofs.Ytinhdabfiahjpaa
open Go.Joins Go.RowKit

theorem awr_new {T E : TypeId} {w : World} : Wr T E w.heap.size none [] (w.alloc (.cells #[.slice none 0 0] T)) :=
  ⟨_, heap_alloc_new w _, World.ownsRow_nil _ _ _ _, rfl⟩
theorem kz_len : (psPut ⟨⟨false, 0⟩, ⟨false, 0⟩, ⟨false, 0⟩, ⟨false, 0⟩, ⟨false, 0⟩⟩).length = 20 := by decide
theorem kp (k : Nat) (w : World) (h : Wr 29 5 k none [] w) : Calls Try.prog 10 #[.pointer (some ⟨k, 0, none⟩), .agg #[.bool false, .int .i64 0, .bool false, .int .i64 0, .bool false, .int .i64 0, .bool false, .int .i64 0, .bool false, .int .i64 0]] w fun e w' => e = .returned (.int .i64 0) ∧ Wrote 29 5 k none (psPut ⟨⟨false, 0⟩, ⟨false, 0⟩, ⟨false, 0⟩, ⟨false, 0⟩, ⟨false, 0⟩⟩) w w' :=
  aPutSet_any k ⟨⟨false, 0⟩, ⟨false, 0⟩, ⟨false, 0⟩, ⟨false, 0⟩, ⟨false, 0⟩⟩ w h
theorem ka (w : World) : Calls Try.prog 20 #[.agg #[.int .i64 0, .int .i64 0, .int .i64 0, .int .i64 0, .int .i64 0, .int .i64 0, .int .i64 0, .int .i64 0, .int .i64 0, .int .i64 0], .agg #[.bool false, .int .i64 0, .bool false, .int .i64 0, .bool false, .int .i64 0, .bool true, .int .i64 0, .bool false, .int .i64 0], .int .i64 9] w fun e w' => e = .returned (.agg #[.int .i64 0, .int .i64 0, .int .i64 0, .int .i64 0, .int .i64 0, .int .i64 0, .int .i64 0, .int .i64 0, .int .i64 9, .int .i64 9]) ∧ Below w.heap.size w w' :=
  aApply_any ⟨0, 0, 0, 0, 0, 0, 0, 0, 0, 0⟩ ⟨⟨false, 0⟩, ⟨false, 0⟩, ⟨false, 0⟩, ⟨true, 0⟩, ⟨false, 0⟩⟩ 9 w

set_option maxHeartbeats 2000000 in
set_option maxRecDepth 100000 in
theorem aknown_any (w : World) : Calls Try.prog 17 #[] w fun e w' => e = .returned (.bool true) ∧ Below w.heap.size w w' := by
  have h0 := Lib.hid (awr_new (T := 29) (E := 5) (w := w))
  have f0 := Lib.hid (below_alloc1 w (.cells #[.slice none 0 0] 29))
  have hl := kz_len
  have KP := fun k w h => kp k w h
  obtain ⟨zs, hz⟩ : ∃ z, z = psPut ⟨⟨false, 0⟩, ⟨false, 0⟩, ⟨false, 0⟩, ⟨false, 0⟩, ⟨false, 0⟩⟩ := ⟨_, rfl⟩
  rw [← hz] at hl KP
  replace KP := Lib.hid KP
  go_enter Try.func17, Try.ntmps17
  clear hz
  go_wp2_with fail
  go_must (refine (KP.out _ _ h0.out).mono ?_)
  rintro e w1 ⟨rfl, r1, hw1, hk1, hr1⟩
  have f1 : Below w.heap.size w w1 := f0.out.trans (hk1.below (B := w.heap.size) (Nat.le_refl _) (by simp) (fun j hj => by cases hj))
  clear hk1 hr1
  go_wp2_with fail
  go_must (refine (ka _).mono ?_)
  rintro e w2 ⟨rfl, b2⟩
  have f2 := f1.trans (b2.mono f1.size)
  have hw2 := hw1.below b2
  clear b2 hw1
  go_wp2_with fail
  go_must (refine (wLen_any _ r1 _ _ (by first | exact hw2 | exact hw2.alloc _)).mono ?_)
  rintro e w3 ⟨rfl, rfl⟩
  rw [hl]
  go_wp2_with fail
  go_ret
  exact ⟨rfl, by first | exact f2 | exact f2.alloc f2.size _⟩
theorem duo_step {k : Nat} {av sv : Array Value} {w W W' : World} (b : Below W.heap.size W W') (t : St 40 k av W ∧ St 25 (k + 1) sv W) (f : Below w.heap.size w W) : (St 40 k av W' ∧ St 25 (k + 1) sv W') ∧ Below w.heap.size w W' :=
  ⟨⟨t.1.below b, t.2.below b⟩, f.trans (b.mono f.size)⟩
end Go.Proofs.Ytinhdabfiahjpaa
