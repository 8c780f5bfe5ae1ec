/- Lemmas for the laws of index. -/
import Derived.Test.YtngfknplljedeaaGreatZr13
import Derived.Test.YtngfknplljedeaaGreatZr16
import Derived.Test.YtngfknplljedeaaGreatZr18
import Derived.Test.YtngfknplljedeaaGreatZrHi
namespace Go.Proofs.YtngfknplljedeaaGreat
open Go.RowKit
set_option maxRecDepth 100000 in
set_option maxHeartbeats 2000000 in
theorem ixSame_any {B : Nat} (sa sb : List Value) (a b : CA) (w : World) (ha : CAt B sa a w) (hb : CAt B sb b w) (hB : B ≤ w.heap.size)
 (hn : a.helds.length + a.files.length + a.names.length + a.blocks.length ≤ 1073741824) (hm : b.helds.length + b.files.length + b.names.length + b.blocks.length ≤ 1073741824) :
 Calls Tryz.prog 17 #[.agg sa.toArray, .agg sb.toArray] w fun e w' => e = .returned (.bool (decide (a.changes = b.changes))) ∧ Below w.heap.size w w' := by
 have HA := hI (show ∀ W, Below w.heap.size w W → CAt W.heap.size sa a W from fun W hW => (ha.below (hW.mono hB)).raise (Nat.le_trans hB hW.size))
 have HC := hI (show ∀ W, Below w.heap.size w W → CAt W.heap.size sb b W from fun W hW => (hb.below (hW.mono hB)).raise (Nat.le_trans hB hW.size))
 obtain ⟨a1, a2, a3, a4, rfl, _⟩ := ha
 obtain ⟨b1, b2, b3, b4, rfl, _⟩ := hb
 obtain ⟨w1, hw1⟩ : ∃ w1, w1 = (w.alloc (.cells #[a1, a2, a3, a4] 27 (0, 0))).alloc (.cells #[b1, b2, b3, b4] 27 (0, 0)) := ⟨_, rfl⟩
 have hb1 : Below w.heap.size w w1 := by rw [hw1]; exact ((Below.refl _ w).alloc (Nat.le_refl _) _).alloc (by simp) _
 have st1 : St 27 w.heap.size #[a1, a2, a3, a4] w1 := by rw [hw1]; exact (St.new w 27 _).alloc _
 have st2 : St 27 (w.heap.size + 1) #[b1, b2, b3, b4] w1 := by
  rw [hw1, show w.heap.size + 1 = (w.alloc (.cells #[a1, a2, a3, a4] 27 (0, 0))).heap.size from by simp]
  exact St.new _ _ _
 have HK := hI (show ∀ W, Below w1.heap.size w1 W → (W.cell? ⟨w.heap.size, 0, none⟩ = some a1 ∧ W.cell? ⟨w.heap.size, 1, none⟩ = some a2 ∧ W.cell? ⟨w.heap.size, 2, none⟩ = some a3 ∧ W.cell? ⟨w.heap.size, 3, none⟩ = some a4 ∧ W.cell? ⟨w.heap.size + 1, 0, none⟩ = some b1 ∧ W.cell? ⟨w.heap.size + 1, 1, none⟩ = some b2 ∧ W.cell? ⟨w.heap.size + 1, 2, none⟩ = some b3 ∧ W.cell? ⟨w.heap.size + 1, 3, none⟩ = some b4) from fun W hW => ⟨(st1.below hW).cell rfl, (st1.below hW).cell rfl, (st1.below hW).cell rfl, (st1.below hW).cell rfl, (st2.below hW).cell rfl, (st2.below hW).cell rfl, (st2.below hW).cell rfl, (st2.below hW).cell rfl⟩)
 have HW1 := hI hw1
 have HB1 := hI hb1
 clear hw1 hb1 st1 st2 hB
 show Calls Tryz.prog 17 #[.agg #[a1, a2, a3, a4], .agg #[b1, b2, b3, b4]] w _
 go_enter Tryz.func17, Tryz.ntmps17
 go_wp2_with fail
 rw [← HW1.out]
 obtain ⟨c0, c1, c2, c3, c4, c5, c6, c7⟩ := HK.out w1 (Below.refl _ _)
 have HB1d := hI (show Below w.heap.size w w1.drew from HB1.out.drew)
 have HF := hI (rxChanges_any [a1, a2, a3, a4] a w1.drew (HA.out _ HB1d.out) hn)
 have HG := hI (fun W (h : Below w.heap.size w W) => rxChanges_any [b1, b2, b3, b4] b W (HC.out _ h) hm)
 have DR := hI (show Below w1.heap.size w1 w1.drew from (Below.refl _ _).drew)
 go_region_held3 (fun W => W.cell? ⟨w.heap.size, 0, none⟩ = some a1 ∧ W.cell? ⟨w.heap.size, 1, none⟩ = some a2 ∧ W.cell? ⟨w.heap.size, 2, none⟩ = some a3 ∧ W.cell? ⟨w.heap.size, 3, none⟩ = some a4 ∧ W.cell? ⟨w.heap.size + 1, 0, none⟩ = some b1 ∧ W.cell? ⟨w.heap.size + 1, 1, none⟩ = some b2 ∧ W.cell? ⟨w.heap.size + 1, 2, none⟩ = some b3 ∧ W.cell? ⟨w.heap.size + 1, 3, none⟩ = some b4) (first | exact HK.out _ DR.out | exact HK.out _ B2.out | exact HK.out _ B3.out | exact HK.out _ B4.out) (first
  | (go_at_call 37; (with_reducible refine HF.out.mono ?_); rintro e2 w2 ⟨va, rfl, r2, b2⟩; have R2 := hI (ChRow.rows r2); have B2 := hI (DR.out.trans (b2.mono DR.out.size)); have F2 := hI (HB1.out.trans (B2.out.mono HB1.out.size)); clear r2 b2)
  | (go_at_call 37; (with_reducible refine (HG.out _ F2.out).mono ?_); rintro e3 w3 ⟨vb, rfl, r3, b3⟩; have R3 := hI (ChRow.rows r3); have RA := hI (R2.out.below b3); have B3 := hI (B2.out.trans (b3.mono B2.out.size)); have F3 := hI (HB1.out.trans (B3.out.mono HB1.out.size)); clear r3 b3)
  | (go_at_call 55; (refine (rxSame_any _ _ _ _ _ RA.out R3.out).mono ?_); rintro e4 w4 ⟨rfl, b4⟩; have B4 := hI (B3.out.trans (b4.mono B3.out.size)); have F4 := hI (HB1.out.trans (B4.out.mono HB1.out.size)); clear b4))
 all_goals (
  go_wp2_with fail
  go_ret
  exact ⟨rfl, F4.out⟩)
end Go.Proofs.YtngfknplljedeaaGreat
