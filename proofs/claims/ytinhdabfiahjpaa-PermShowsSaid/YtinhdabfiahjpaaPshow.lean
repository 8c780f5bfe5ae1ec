/- PROVED HERE: for every integer, the law PermShows returns true: any mode is shown as the document says, and its nine bits come back. CONDITIONS: none. -/
import Derived.Test.YtinhdabfiahjpaaPg
import Derived.Test.YtinhdabfiahjpaaPf
import Derived.Test.YtinhdabfiahjpaaPn
import Derived.Test.YtinhdabfiahjpaaOb
import Derived.Test.YtinhdabfiahjpaaLaw
import Derived.Deep.RegionHeld3
namespace Go.Proofs.Ytinhdabfiahjpaa.permShows
open Go.ChangeShapes Go.WideShapes Go.ChangeAt Go.RowKit Go.Joins
open Go.ChangeMaps (open_string)

theorem own : ownKnob Try.prog.godebug = none := by kernel_rfl
theorem laidOut : laidOutB Try.prog = true := by kernel_rfl

set_option maxHeartbeats 4000000 in
set_option maxRecDepth 100000 in
theorem walk (mode : Int) (w : World) :
    Calls Try.prog 7 #[.int .i64 mode] w fun e w' => e = .returned (.bool true) ∧ Below w.heap.size w w' := by
  have H1 := fun w => pShow_any mode w
  have H2 := fun w => pMode_any (str (pmShow mode)) w (by rw [str_size, pmShow_len]; omega)
  have H3 := fun w => pfShow_any mode w
  have hr : pmModeR (str (pmShow mode)) = .tuple #[.int .i64 (bits .and .i64 mode 511), .int .i64 0] := by
    unfold pmModeR
    have e : (str (pmShow mode)).data.toList = pmShow mode := by simp [str]
    rw [e, mdRead_show, pmShow_mod, if_pos rfl, and_511]
  rw [hr] at H2
  obtain ⟨u, hu⟩ : ∃ u, u = str (pmShow mode) := ⟨_, rfl⟩
  rw [← hu] at H1 H2 H3
  clear hu hr
  replace H1 := Lib.hid H1
  replace H2 := Lib.hid H2
  replace H3 := Lib.hid H3
  go_enter Try.func7, Try.ntmps7
  go_wp2_with fail
  go_must (refine (H1.out _).mono ?_)
  rintro e w1 ⟨rfl, b1⟩
  go_wp2_with fail
  go_must (refine (H2.out _).mono ?_)
  rintro e w2 ⟨rfl, b2⟩
  have f2 := b1.trans (b2.mono b1.size)
  go_wp2_with fail
  go_must (refine (H3.out _).mono ?_)
  rintro e w3 ⟨rfl, rfl⟩
  go_wp2_with fail
  go_must (refine (pknown_any _).mono ?_)
  rintro e w4 ⟨rfl, b4⟩
  have f4 := f2.trans (b4.mono f2.size)
  go_wp2_with fail
  go_ret
  exact ⟨rfl, f4⟩

set_option maxRecDepth 100000 in
theorem lifted (os : Os) (started : os.Started) (H : Type) (enc : TypeId × Value → H) :
    ReturnsInHanded {} Try.checked os 7 .any (Rows.permShowsSpec.pre6 enc Try.prog Try.f7 Rows.permShowsRow.domain false) (Rows.permShowsSpec.post enc Try.prog Try.f7 false true false false) := by
  refine returnsInHanded_of_change (C := Try.checked) own started (by kernel_rfl) Try.func7
    (ChangeSpec.witness6 (enc := enc) (C := Try.checked) false ⟨#[], #[.int .i64 0], []⟩ 8 (by kernel_rfl) (by kernel_rfl) (by kernel_rfl) (by kernel_rfl)) ?_
  intro W base args ds gs before hval0 hW hcnd _
  have hval : ∀ (j : Nat) t v, Try.f7.params[j]? = some t → args[j]? = some v → Value.okWide Try.prog W .any base t v := hval0
  have hW' := hW
  obtain ⟨p, q, hA0, hV, rfl, hfz, hnd⟩ := hW
  have hA : DataW.TrodAll enc Try.prog W 0 (fun _ => true) true Try.f7.params.toList args.toList ds p := hA0
  rw [Try.params7] at hA hval
  obtain ⟨v0, vs0, d0, ds0, p0, q0, hargs, rfl, rfl, h0, r0⟩ := trodAll_cons hA
  obtain ⟨rfl, rfl, rfl⟩ := trodAll_nil r0
  obtain rfl : args = #[v0] := by cases args; simp_all
  have post : ∀ W', Below W.heap.size W W' → Rows.permShowsSpec.post enc Try.prog Try.f7 false true false false W #[v0] (.bool true) W' := fun W' hg =>
    law_post laidOut (by rw [Try.params7]; decide +kernel) rfl Try.underlying4 rfl hW' rfl hg
  have done : ∀ (e : Ending) W', (e = .returned (.bool true) ∧ Below W.heap.size W W') → ∃ v, e = .returned v ∧ Rows.permShowsSpec.post enc Try.prog Try.f7 false true false false W #[v0] v W' := fun e W' ⟨he, hg⟩ => ⟨_, he, post W' hg⟩
  clear post
  obtain ⟨n, rfl, rfl, rfl, hn⟩ := open_int Try.underlying3 (hval 0 3 v0 rfl rfl) h0
  exact (walk n W).mono done


theorem over : Rows.permShowsRow.holds Try.pinned (OpenSpec.ofChange Rows.permShowsSpec) :=
  OpenClaim.holds_of_wide 7 Try.f7 rfl rfl rfl rfl rfl rfl rfl ⟨rfl, rfl, rfl, rfl, rfl⟩ rfl rfl rfl rfl rfl (by kernel_rfl) Try.func7 (by kernel_rfl)
    (of_decide_eq_true (by kernel_rfl)) (by unfold Func.isWrapper; first | (rw [if_pos (by decide +kernel)]; kernel_rfl) | (rw [if_neg (by decide +kernel)]; exact ⟨rfl, rfl⟩))
    (fun os started H enc _ => lifted os started H enc)

theorem proved : Rows.PermShowsSaid := over

end Go.Proofs.Ytinhdabfiahjpaa.permShows
