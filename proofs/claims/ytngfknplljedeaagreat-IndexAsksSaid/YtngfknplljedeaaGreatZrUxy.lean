/- PROVED HERE: for all changes, numbers and texts, the law of the five questions returns true. CONDITIONS: none. -/
import Derived.Deep.AppendLies
import Derived.Deep.DeepMust
import Derived.Deep.RegionHeld3
import Derived.Deep.WholeRow
import Derived.Great.BuildSlice
import Derived.Handy
import Derived.Laws.AppendOwnNone
import Derived.Laws.CopyOwn
import Derived.Lib.AppendZerosOnto
import Derived.Lib.Hide
import Derived.Lib.SmallJoins
import Derived.Shelf.Slices.Cells
import Derived.Shelf.Slices.Empties
import Derived.Shelf.Slices.In.SortNone
import Derived.Shelf.SlicesE.DeleteFunc
import Derived.Shelf.Small.Strs
import Derived.Shelf.Small.Wraps
import Derived.Shelf.Sort.Plain
import Derived.Shelf.Spec.SearchS
import Derived.Shelf.Spec.SlicesInsert
import Derived.Sort.OwnSortedInts
import Derived.StillTailTactics
import Derived.Test.YtngfknplljedeaaGreatRows
import Derived.WalkLawsBesides
import Derived.Test.YtngfknplljedeaaGreatZr01
import Derived.Test.YtngfknplljedeaaGreatZr04
import Derived.Test.YtngfknplljedeaaGreatZr10
import Derived.Test.YtngfknplljedeaaGreatZr11
import Derived.Test.YtngfknplljedeaaGreatZr18
import Derived.Test.YtngfknplljedeaaGreatZr31
import Derived.Test.YtngfknplljedeaaGreatZr32
import Derived.Test.YtngfknplljedeaaGreatZr58
import Derived.Test.YtngfknplljedeaaGreatZr65
import Derived.Test.YtngfknplljedeaaGreatZr69
namespace Go.Proofs.YtngfknplljedeaaGreat.indexAsks
open Go.ChangeShapes Go.WideShapes Go.ChangeAt Go.RowKit
open Go.ChangeMaps (open_string shut_string)

theorem own : ownKnob Tryz.prog.godebug = none := by kernel_rfl
theorem laidOut : laidOutB Tryz.prog = true := by kernel_rfl

set_option maxRecDepth 100000 in
theorem lifted (os : Os) (started : os.Started) (H : Type) (enc : TypeId × Value → H) :
    ReturnsInHanded {} Tryz.checked os 6 .any (Rows.indexAsksSpec.pre6 enc Tryz.prog Tryz.f6 Rows.indexAsksRow.domain false) (Rows.indexAsksSpec.post enc Tryz.prog Tryz.f6 false true false false) := by
  refine returnsInHanded_of_change (C := Tryz.checked) own started (by kernel_rfl) Tryz.func6
    (ChangeSpec.witness6 (enc := enc) (C := Tryz.checked) false ⟨#[], #[.slice none 0 0, .int .i64 0, .string ⟨#[]⟩, .string ⟨#[]⟩, .int .i64 0], []⟩ 8 (by kernel_rfl) (by kernel_rfl) (by kernel_rfl) (by kernel_rfl)) ?_
  intro W base args ds gs before hval0 hW hcnd _
  have hval : ∀ (j : Nat) t v, Tryz.f6.params[j]? = some t → args[j]? = some v → Value.okWide Tryz.prog W .any base t v := hval0
  have hW' := hW
  obtain ⟨p, q, hA0, hV, rfl, hfz, hnd⟩ := hW
  have hA : DataW.TrodAll enc Tryz.prog W 0 (fun _ => true) true Tryz.f6.params.toList args.toList ds p := hA0
  rw [Tryz.params6] at hA hval
  obtain ⟨v0, vs0, d0, ds0, p0, q0, hargs, rfl, rfl, h0, r0⟩ := trodAll_cons hA
  obtain ⟨v1, vs1, d1, ds1, p1, q1, rfl, rfl, rfl, h1, r1⟩ := trodAll_cons r0
  obtain ⟨v2, vs2, d2, ds2, p2, q2, rfl, rfl, rfl, h2, r2⟩ := trodAll_cons r1
  obtain ⟨v3, vs3, d3, ds3, p3, q3, rfl, rfl, rfl, h3, r3⟩ := trodAll_cons r2
  obtain ⟨v4, vs4, d4, ds4, p4, q4, rfl, rfl, rfl, h4, r4⟩ := trodAll_cons r3
  obtain ⟨rfl, rfl, rfl⟩ := trodAll_nil r4
  obtain rfl : args = #[v0, v1, v2, v3, v4] := by cases args; simp_all
  have post : ∀ W', Below W.heap.size W W' → Rows.indexAsksSpec.post enc Tryz.prog Tryz.f6 false true false false W #[v0, v1, v2, v3, v4] (.bool true) W' := fun W' hg =>
    law_post laidOut (by rw [Tryz.params6]; decide +kernel) rfl Tryz.underlying4 rfl hW' rfl hg
  have done : ∀ (e : Ending) W', (e = .returned (.bool true) ∧ Below W.heap.size W W') → ∃ v, e = .returned v ∧ Rows.indexAsksSpec.post enc Tryz.prog Tryz.f6 false true false false W #[v0, v1, v2, v3, v4] v W' := fun e W' ⟨he, hg⟩ => ⟨_, he, post W' hg⟩
  clear post
  obtain ⟨f0, e0⟩ := h0
  obtain ⟨a0, n0, k0, rfl⟩ := okWide_slice Tryz.underlying33 (hval 0 33 v0 rfl rfl)
  obtain ⟨x0, g0, m0⟩ := open_chs e0
  obtain ⟨x1, rfl, rfl, rfl, g1⟩ := open_int Tryz.underlying3 (hval 1 3 v1 rfl rfl) h1
  obtain ⟨x2, rfl, rfl, rfl, g2⟩ := open_string Tryz.underlying9 (hval 2 9 v2 rfl rfl) h2
  obtain ⟨x3, rfl, rfl, rfl, g3⟩ := open_string Tryz.underlying9 (hval 3 9 v3 rfl rfl) h3
  obtain ⟨x4, rfl, rfl, rfl, g4⟩ := open_int Tryz.underlying3 (hval 4 3 v4 rfl rfl) h4
  exact (iasks_walk _ x0 x1 x2 x3 x4 W g0 g2).mono done

theorem over : Rows.indexAsksRow.holds Tryz.pinned (OpenSpec.ofChange Rows.indexAsksSpec) :=
  OpenClaim.holds_of_wide 6 Tryz.f6 rfl rfl rfl rfl rfl rfl rfl ⟨rfl, rfl, rfl, rfl, rfl⟩ rfl rfl rfl rfl rfl (by kernel_rfl) Tryz.func6 (by kernel_rfl)
    (of_decide_eq_true (by kernel_rfl)) (by unfold Func.isWrapper; first | (rw [if_pos (by decide +kernel)]; kernel_rfl) | (rw [if_neg (by decide +kernel)]; exact ⟨rfl, rfl⟩))
    (fun os started H enc _ => lifted os started H enc)

theorem proved : Rows.IndexAsksSaid := over

end Go.Proofs.YtngfknplljedeaaGreat.indexAsks
