/- Names: what is known of fixed calls; the law on checks. -/
import Derived.Test.YteijcfmgaljjaaaDoorNg
namespace Go.Proofs.YteijcfmgaljjaaaDoor
open Go.RowKit

set_option maxRecDepth 100000 in
set_option maxHeartbeats 1000000 in
theorem nknown_any (w : World) (hT : Lib.Utf8Tabs 0 1 w) (h01 : 1 < w.heap.size) :
    Calls Tryd.prog 8 #[] w fun e w' => e = .returned (.bool true) ∧ Below w.heap.size w w' := by
  have h1 := nShow_eq ⟨#[97, 32, 98]⟩ w (by decide) hT h01
  rw [show_ab] at h1
  have h2 := fun W => nCheck_eq ⟨#[46, 46]⟩ W (by decide)
  have h3 := fun W => nSplit_any ⟨#[47, 97, 47, 47, 98]⟩ W (by decide)
  rw [split_ab] at h3
  have H1 := Lib.hid h1
  have H2 := Lib.hid h2
  have H3 := Lib.hid h3
  clear h1 h2 h3
  go_enter Tryd.func8, Tryd.ntmps8
  go_wp2_with fail
  go_must (refine H1.out.mono ?_)
  rintro e w1 ⟨rfl, b1⟩
  go_wp2_with fail
  go_must (refine (H2.out _).mono ?_)
  rintro e w2 ⟨rfl, b2⟩
  go_wp2_with fail
  go_must (refine (H3.out _).mono ?_)
  rintro e w3 ⟨v, rfl, hv, b3⟩
  go_wp2_with fail
  have hN : Strs (.slice (some ⟨w3.heap.size, 0, none⟩) 2 2) [⟨#[97]⟩, ⟨#[98]⟩] (w3.alloc (.cells #[.string ⟨#[97]⟩, .string ⟨#[98]⟩] 9 (0, 0))) := by
    refine ⟨_, 2, w3.heap.size, 0, rfl, by decide, fun _ => ⟨rfl, by simp⟩, fun i x hx => ?_⟩
    rw [Nat.zero_add, World.cell?_alloc_at _ _ _ _ rfl]
    match i, hx with
    | 0, hx => cases hx; rfl
    | 1, hx => cases hx; rfl
  have b4 : Below w3.heap.size w3 (w3.alloc (.cells #[.string ⟨#[97]⟩, .string ⟨#[98]⟩] 9 (0, 0))) := (Below.refl _ w3).alloc (Nat.le_refl _) _
  have H4 := Lib.hid (mSame_eq _ _ _ _ _ (hv.below b4) hN)
  go_must (refine H4.out.mono ?_)
  rintro e w5 ⟨rfl, b5⟩
  have hz1 := b1.size
  have hz2 := b2.size
  have hz3 := b3.size
  have hz4 := b4.size
  go_wp2_with fail
  go_ret
  exact ⟨rfl, (((b1.trans (b2.mono (by omega))).trans (b3.mono (by omega))).trans (b4.mono (by omega))).trans (b5.mono (by omega))⟩
end Go.Proofs.YteijcfmgaljjaaaDoor
