/- Lemmas for the laws of index. -/
import Derived.Deep.RegionHeld3
import Derived.Great.BuildSlice
import Derived.Laws.AppendOwnNone
import Derived.Laws.CopyOwn
import Derived.Lib.AppendZerosOnto
import Derived.Shelf.Slices.Cells
import Derived.Shelf.Slices.Empties
import Derived.Shelf.Slices.In.SortNone
import Derived.Shelf.SlicesE.DeleteFunc
import Derived.Shelf.Small.Strs
import Derived.Shelf.Small.Wraps
import Derived.Shelf.Sort.Plain
import Derived.Shelf.Spec.SlicesInsert
import Derived.StillTailTactics
import Derived.Test.YtngfknplljedeaaGreatZr08
import Derived.Test.YtngfknplljedeaaGreatZr17
import Derived.Test.YtngfknplljedeaaGreatZrHi
namespace Go.Proofs.YtngfknplljedeaaGreat
open Go.RowKit
theorem CA.eq_parts (a b : CA) : decide (a = b) = (decide (a.helds = b.helds) && (decide (a.files = b.files) && (decide (a.names = b.names) && decide (a.blocks = b.blocks)))) := by
 obtain ⟨a1, a2, a3, a4⟩ := a
 obtain ⟨b1, b2, b3, b4⟩ := b
 rw [Bool.eq_iff_iff]
 simp only [Bool.and_eq_true, decide_eq_true_eq, CA.mk.injEq]
set_option maxRecDepth 100000 in
set_option maxHeartbeats 4000000 in
theorem inSame_any (cs ds : List Value) (ca cb : CA) (w : World) (h : CAt w.heap.size cs ca w) (h' : CAt w.heap.size ds cb w) :
 Calls Tryz.prog 33 #[.agg cs.toArray, .agg ds.toArray] w fun e w' => e = .returned (.bool (decide (ca = cb))) ∧ Below w.heap.size w w' := by
 obtain ⟨v1, v2, v3, v4, rfl, r1, r2, r3, r4⟩ := h
 obtain ⟨u1, u2, u3, u4, rfl, s1, s2, s3, s4⟩ := h'
 rw [CA.eq_parts]
 obtain ⟨w1, hw1⟩ : ∃ w1, w1 = (w.alloc (.cells #[v1, v2, v3, v4] 27 (0, 0))).alloc (.cells #[u1, u2, u3, u4] 27 (0, 0)) := ⟨_, rfl⟩
 have hb1 : Below w.heap.size w w1 := by rw [hw1]; exact ((Below.refl _ w).alloc (Nat.le_refl _) _).alloc (by simp) _
 have st0 : St 27 w.heap.size #[v1, v2, v3, v4] w1 := by rw [hw1]; exact (St.new w 27 _).alloc _
 have st1 : St 27 (w.heap.size + 1) #[u1, u2, u3, u4] w1 := by rw [hw1]; exact St.new1 _ _ _ _
 have up : ∀ {α : Type} {k : Nat} {f : α → List Value} {v : Value} {xs : List α}, RowsAt w.heap.size k f v xs w → ∀ W, Below w1.heap.size w1 W → RowsAt W.heap.size k f v xs W := fun r W hW => (r.below (hb1.trans (hW.mono hb1.size))).raise (Nat.le_trans hb1.size hW.size)
 obtain ⟨e1, he1⟩ : ∃ e, e = decide (ca.helds = cb.helds) := ⟨_, rfl⟩
 rw [← he1]
 have HE1 := hI (show ∀ W, Below w1.heap.size w1 W → Calls Tryz.prog 70 #[v1, u1] W fun e w' => e = .returned (.bool e1) ∧ Below W.heap.size W w' from fun W hW => by rw [he1]; exact sxEqHeld_any v1 u1 ca.helds cb.helds W (up r1 W hW) (up s1 W hW))
 obtain ⟨e2, he2⟩ : ∃ e, e = decide (ca.files = cb.files) := ⟨_, rfl⟩
 rw [← he2]
 have HE2 := hI (show ∀ W, Below w1.heap.size w1 W → Calls Tryz.prog 71 #[v2, u2] W fun e w' => e = .returned (.bool e2) ∧ Below W.heap.size W w' from fun W hW => by rw [he2]; exact sxEqCached_any v2 u2 ca.files cb.files W (up r2 W hW) (up s2 W hW))
 obtain ⟨e3, he3⟩ : ∃ e, e = decide (ca.names = cb.names) := ⟨_, rfl⟩
 rw [← he3]
 have HE3 := hI (show ∀ W, Below w1.heap.size w1 W → Calls Tryz.prog 72 #[v3, u3] W fun e w' => e = .returned (.bool e3) ∧ Below W.heap.size W w' from fun W hW => by rw [he3]; exact sxEqKnown_any v3 u3 ca.names cb.names W (up r3 W hW) (up s3 W hW))
 obtain ⟨e4, he4⟩ : ∃ e, e = decide (ca.blocks = cb.blocks) := ⟨_, rfl⟩
 rw [← he4]
 have HE4 := hI (show ∀ W, Below w1.heap.size w1 W → Calls Tryz.prog 73 #[v4, u4] W fun e w' => e = .returned (.bool e4) ∧ Below W.heap.size W w' from fun W hW => by rw [he4]; exact sxEqPlaced_any v4 u4 ca.blocks cb.blocks W (up r4 W hW) (up s4 W hW))
 have HS := hI (show ∀ W, Below w1.heap.size w1 W → (W.cell? ⟨w.heap.size, 0, none⟩ = some v1 ∧ W.cell? ⟨w.heap.size, 1, none⟩ = some v2 ∧ W.cell? ⟨w.heap.size, 2, none⟩ = some v3 ∧ W.cell? ⟨w.heap.size, 3, none⟩ = some v4) ∧ (W.cell? ⟨w.heap.size + 1, 0, none⟩ = some u1 ∧ W.cell? ⟨w.heap.size + 1, 1, none⟩ = some u2 ∧ W.cell? ⟨w.heap.size + 1, 2, none⟩ = some u3 ∧ W.cell? ⟨w.heap.size + 1, 3, none⟩ = some u4) from fun W hW => ⟨⟨(st0.below hW).cell rfl, (st0.below hW).cell rfl, (st0.below hW).cell rfl, (st0.below hW).cell rfl⟩, (st1.below hW).cell rfl, (st1.below hW).cell rfl, (st1.below hW).cell rfl, (st1.below hW).cell rfl⟩)
 have HW1 := hI hw1
 have HB1 := hI hb1
 have B0 := hI (Below.refl w1.heap.size w1)
 clear hw1 hb1 st0 st1 up r1 r2 r3 r4 s1 s2 s3 s4 he1 he2 he3 he4
 obtain ⟨⟨c10, c11, c12, c13⟩, d10, d11, d12, d13⟩ := HS.out w1 B0.out
 obtain ⟨r, hr⟩ : ∃ r, r = (e1 && (e2 && (e3 && e4))) := ⟨_, rfl⟩
 rw [← hr]
 have HRR := hI hr
 clear hr
 show Calls Tryz.prog 33 #[.agg #[v1, v2, v3, v4], .agg #[u1, u2, u3, u4]] w _
 cases e1 with
 | false =>
  go_enter Tryz.func33, Tryz.ntmps33
  go_wp2_with fail
  rw [← HW1.out]
  go_wp2_with (first
   | ((with_reducible refine (HE1.out _ B0.out).mono ?_); rintro e wq1 ⟨rfl, hb⟩; have B1 := hI (B0.out.trans (hb.mono B0.out.size)); clear hb; obtain ⟨⟨c20, c21, c22, c23⟩, d20, d21, d22, d23⟩ := HS.out _ B1.out))
  go_ret
  exact ⟨by rw [HRR.out]; rfl, HB1.out.trans (B1.out.mono HB1.out.size)⟩
 | true =>
  cases e2 with
  | false =>
   go_enter Tryz.func33, Tryz.ntmps33
   go_wp2_with fail
   rw [← HW1.out]
   go_wp2_with (first
    | ((with_reducible refine (HE1.out _ B0.out).mono ?_); rintro e wq1 ⟨rfl, hb⟩; have B1 := hI (B0.out.trans (hb.mono B0.out.size)); clear hb; obtain ⟨⟨c20, c21, c22, c23⟩, d20, d21, d22, d23⟩ := HS.out _ B1.out)
    | ((with_reducible refine (HE2.out _ B1.out).mono ?_); rintro e wq2 ⟨rfl, hb⟩; have B2 := hI (B1.out.trans (hb.mono B1.out.size)); clear hb; obtain ⟨⟨c30, c31, c32, c33⟩, d30, d31, d32, d33⟩ := HS.out _ B2.out))
   go_ret
   exact ⟨by rw [HRR.out]; rfl, HB1.out.trans (B2.out.mono HB1.out.size)⟩
  | true =>
   cases e3 with
   | false =>
    go_enter Tryz.func33, Tryz.ntmps33
    go_wp2_with fail
    rw [← HW1.out]
    go_wp2_with (first
     | ((with_reducible refine (HE1.out _ B0.out).mono ?_); rintro e wq1 ⟨rfl, hb⟩; have B1 := hI (B0.out.trans (hb.mono B0.out.size)); clear hb; obtain ⟨⟨c20, c21, c22, c23⟩, d20, d21, d22, d23⟩ := HS.out _ B1.out)
     | ((with_reducible refine (HE2.out _ B1.out).mono ?_); rintro e wq2 ⟨rfl, hb⟩; have B2 := hI (B1.out.trans (hb.mono B1.out.size)); clear hb; obtain ⟨⟨c30, c31, c32, c33⟩, d30, d31, d32, d33⟩ := HS.out _ B2.out)
     | ((with_reducible refine (HE3.out _ B2.out).mono ?_); rintro e wq3 ⟨rfl, hb⟩; have B3 := hI (B2.out.trans (hb.mono B2.out.size)); clear hb; obtain ⟨⟨c40, c41, c42, c43⟩, d40, d41, d42, d43⟩ := HS.out _ B3.out))
    go_ret
    exact ⟨by rw [HRR.out]; rfl, HB1.out.trans (B3.out.mono HB1.out.size)⟩
   | true =>
    cases e4 with
    | false =>
     go_enter Tryz.func33, Tryz.ntmps33
     go_wp2_with fail
     rw [← HW1.out]
     go_wp2_with (first
      | ((with_reducible refine (HE1.out _ B0.out).mono ?_); rintro e wq1 ⟨rfl, hb⟩; have B1 := hI (B0.out.trans (hb.mono B0.out.size)); clear hb; obtain ⟨⟨c20, c21, c22, c23⟩, d20, d21, d22, d23⟩ := HS.out _ B1.out)
      | ((with_reducible refine (HE2.out _ B1.out).mono ?_); rintro e wq2 ⟨rfl, hb⟩; have B2 := hI (B1.out.trans (hb.mono B1.out.size)); clear hb; obtain ⟨⟨c30, c31, c32, c33⟩, d30, d31, d32, d33⟩ := HS.out _ B2.out)
      | ((with_reducible refine (HE3.out _ B2.out).mono ?_); rintro e wq3 ⟨rfl, hb⟩; have B3 := hI (B2.out.trans (hb.mono B2.out.size)); clear hb; obtain ⟨⟨c40, c41, c42, c43⟩, d40, d41, d42, d43⟩ := HS.out _ B3.out)
      | ((with_reducible refine (HE4.out _ B3.out).mono ?_); rintro e wq4 ⟨rfl, hb⟩; have B4 := hI (B3.out.trans (hb.mono B3.out.size)); clear hb; obtain ⟨⟨c50, c51, c52, c53⟩, d50, d51, d52, d53⟩ := HS.out _ B4.out))
     go_ret
     exact ⟨by rw [HRR.out]; rfl, HB1.out.trans (B4.out.mono HB1.out.size)⟩
    | true =>
     go_enter Tryz.func33, Tryz.ntmps33
     go_wp2_with fail
     rw [← HW1.out]
     go_wp2_with (first
      | ((with_reducible refine (HE1.out _ B0.out).mono ?_); rintro e wq1 ⟨rfl, hb⟩; have B1 := hI (B0.out.trans (hb.mono B0.out.size)); clear hb; obtain ⟨⟨c20, c21, c22, c23⟩, d20, d21, d22, d23⟩ := HS.out _ B1.out)
      | ((with_reducible refine (HE2.out _ B1.out).mono ?_); rintro e wq2 ⟨rfl, hb⟩; have B2 := hI (B1.out.trans (hb.mono B1.out.size)); clear hb; obtain ⟨⟨c30, c31, c32, c33⟩, d30, d31, d32, d33⟩ := HS.out _ B2.out)
      | ((with_reducible refine (HE3.out _ B2.out).mono ?_); rintro e wq3 ⟨rfl, hb⟩; have B3 := hI (B2.out.trans (hb.mono B2.out.size)); clear hb; obtain ⟨⟨c40, c41, c42, c43⟩, d40, d41, d42, d43⟩ := HS.out _ B3.out)
      | ((with_reducible refine (HE4.out _ B3.out).mono ?_); rintro e wq4 ⟨rfl, hb⟩; have B4 := hI (B3.out.trans (hb.mono B3.out.size)); clear hb; obtain ⟨⟨c50, c51, c52, c53⟩, d50, d51, d52, d53⟩ := HS.out _ B4.out))
     go_ret
     exact ⟨by rw [HRR.out]; rfl, HB1.out.trans (B4.out.mono HB1.out.size)⟩
end Go.Proofs.YtngfknplljedeaaGreat
