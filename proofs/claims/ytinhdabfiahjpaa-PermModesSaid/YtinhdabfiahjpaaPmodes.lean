/- PROVED HERE: for every text, the law PermModes returns true: it is that of one mode, or none's. CONDITIONS: none. -/
import Derived.Test.YtinhdabfiahjpaaPg
import Derived.Test.YtinhdabfiahjpaaPf
import Derived.Test.YtinhdabfiahjpaaPn
import Derived.Test.YtinhdabfiahjpaaOb
import Derived.Test.YtinhdabfiahjpaaLaw
import Derived.Deep.RegionHeld3
namespace Go.Proofs.Ytinhdabfiahjpaa.permModes
open Go.ChangeShapes Go.WideShapes Go.ChangeAt Go.RowKit Go.Joins
open Go.ChangeMaps (open_string)

theorem own : ownKnob Try.prog.godebug = none := by kernel_rfl
theorem laidOut : laidOutB Try.prog = true := by kernel_rfl

set_option maxHeartbeats 4000000 in
set_option maxRecDepth 100000 in
theorem walk (s : ByteArray) (w : World) (hs : s.size ≤ 9223372036854775807) :
    Calls Try.prog 8 #[.string s] w fun e w' => e = .returned (.bool true) ∧ Below w.heap.size w w' := by
  have H1 := fun w => pMode_any s w hs
  obtain ⟨n, hn⟩ : ∃ n, n = mdRead s.data.toList := ⟨_, rfl⟩
  by_cases he : str (pmShow n) = s
  · have hr : pmModeR s = .tuple #[.int .i64 n, .int .i64 0] := by unfold pmModeR; rw [← hn, if_pos he]
    have H2 := fun w => pfShow_any n w
    rw [he] at H2
    rw [hr] at H1
    have hl : s.data.toList.length = 9 := by
      rw [← he]
      show (pmShow n).length = 9
      exact pmShow_len n
    have hg := mdRead_range _ hl
    rw [← hn] at hg
    have d1 : decide (n ≥ 0) = true := by simpa using hg.1
    have d2 : decide (n < 512) = true := by simpa using hg.2
    replace H1 := Lib.hid H1
    replace H2 := Lib.hid H2
    clear hn he hr hl hg hs
    go_enter Try.func8, Try.ntmps8
    go_wp2_with fail
    go_must (refine (H1.out _).mono ?_)
    rintro e w1 ⟨rfl, b1⟩
    go_wp2_with fail
    go_must (refine (H2.out _).mono ?_)
    rintro e w2 ⟨rfl, rfl⟩
    go_wp2_with fail
    go_must (refine (pknown_any _).mono ?_)
    rintro e w3 ⟨rfl, b3⟩
    have f3 := b1.trans (b3.mono b1.size)
    go_wp2_with fail
    go_ret
    exact ⟨rfl, f3⟩
  · have hr : pmModeR s = .tuple #[.int .i64 0, .int .i64 40] := by unfold pmModeR; rw [← hn, if_neg he]
    rw [hr] at H1
    replace H1 := Lib.hid H1
    clear hn he hr hs
    go_enter Try.func8, Try.ntmps8
    go_wp2_with fail
    go_must (refine (H1.out _).mono ?_)
    rintro e w1 ⟨rfl, b1⟩
    go_wp2_with fail
    go_must (refine (pknown_any _).mono ?_)
    rintro e w3 ⟨rfl, b3⟩
    have f3 := b1.trans (b3.mono b1.size)
    go_wp2_with fail
    go_ret
    exact ⟨rfl, f3⟩

set_option maxRecDepth 100000 in
theorem lifted (os : Os) (started : os.Started) (H : Type) (enc : TypeId × Value → H) :
    ReturnsInHanded {} Try.checked os 8 .any (Rows.permModesSpec.pre6 enc Try.prog Try.f8 Rows.permModesRow.domain false) (Rows.permModesSpec.post enc Try.prog Try.f8 false true false false) := by
  refine returnsInHanded_of_change (C := Try.checked) own started (by kernel_rfl) Try.func8
    (ChangeSpec.witness6 (enc := enc) (C := Try.checked) false ⟨#[], #[.string ⟨#[]⟩], []⟩ 8 (by kernel_rfl) (by kernel_rfl) (by kernel_rfl) (by kernel_rfl)) ?_
  intro W base args ds gs before hval0 hW hcnd _
  have hval : ∀ (j : Nat) t v, Try.f8.params[j]? = some t → args[j]? = some v → Value.okWide Try.prog W .any base t v := hval0
  have hW' := hW
  obtain ⟨p, q, hA0, hV, rfl, hfz, hnd⟩ := hW
  have hA : DataW.TrodAll enc Try.prog W 0 (fun _ => true) true Try.f8.params.toList args.toList ds p := hA0
  rw [Try.params8] at hA hval
  obtain ⟨v0, vs0, d0, ds0, p0, q0, hargs, rfl, rfl, h0, r0⟩ := trodAll_cons hA
  obtain ⟨rfl, rfl, rfl⟩ := trodAll_nil r0
  obtain rfl : args = #[v0] := by cases args; simp_all
  have post : ∀ W', Below W.heap.size W W' → Rows.permModesSpec.post enc Try.prog Try.f8 false true false false W #[v0] (.bool true) W' := fun W' hg =>
    law_post laidOut (by rw [Try.params8]; decide +kernel) rfl Try.underlying4 rfl hW' rfl hg
  have done : ∀ (e : Ending) W', (e = .returned (.bool true) ∧ Below W.heap.size W W') → ∃ v, e = .returned v ∧ Rows.permModesSpec.post enc Try.prog Try.f8 false true false false W #[v0] v W' := fun e W' ⟨he, hg⟩ => ⟨_, he, post W' hg⟩
  clear post
  obtain ⟨s, rfl, rfl, rfl, hs⟩ := open_string Try.underlying9 (hval 0 9 v0 rfl rfl) h0
  exact (walk s W hs).mono done


theorem over : Rows.permModesRow.holds Try.pinned (OpenSpec.ofChange Rows.permModesSpec) :=
  OpenClaim.holds_of_wide 8 Try.f8 rfl rfl rfl rfl rfl rfl rfl ⟨rfl, rfl, rfl, rfl, rfl⟩ rfl rfl rfl rfl rfl (by kernel_rfl) Try.func8 (by kernel_rfl)
    (of_decide_eq_true (by kernel_rfl)) (by unfold Func.isWrapper; first | (rw [if_pos (by decide +kernel)]; kernel_rfl) | (rw [if_neg (by decide +kernel)]; exact ⟨rfl, rfl⟩))
    (fun os started H enc _ => lifted os started H enc)

theorem proved : Rows.PermModesSaid := over

end Go.Proofs.Ytinhdabfiahjpaa.permModes
