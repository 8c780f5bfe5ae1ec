/- PROVED HERE: for every integer n, the law XdrPads returns true: Pad(n) is 0 where n is below 1, and otherwise the number below four that fills n up to a multiple of four. CONDITIONS: none. -/
import Derived.Test.YtbdjhkcpnkdbkaaXk
import Derived.Test.YtbdjhkcpnkdbkaaLaw
namespace Go.Proofs.Ytbdjhkcpnkdbkaa.xdrPads
open Go.ChangeShapes Go.WideShapes Go.ChangeAt Go.RowKit

theorem own : ownKnob Try.prog.godebug = none := by kernel_rfl
theorem laidOut : laidOutB Try.prog = true := by kernel_rfl

set_option maxRecDepth 100000 in
theorem walk (n : Int) (h1 : -9223372036854775808 ≤ n) (h2 : n ≤ 9223372036854775807) (w : World) :
    Calls Try.prog 4 #[.int .i64 n] w fun e w' => e = .returned (.bool true) ∧ Below w.heap.size w w' := by
  by_cases h : n < 1
  · go_enter Try.func4, Try.ntmps4
    go_wp2_with (first | (go_at_call 16; go_must (refine (Pad_small n h _).mono ?_); rintro e w1 ⟨rfl, rfl⟩) | (go_at_call 11; go_must (refine (xknown_any _).mono ?_); rintro e w1 ⟨rfl, hb⟩))
    go_ret
    exact ⟨rfl, hb⟩
  · have h3 : 0 ≤ (4 - n % 4) % 4 ∧ (4 - n % 4) % 4 < 4 := by omega
    have h4 : ((n % 4 + (4 - n % 4) % 4) % 4 == 0) = true := by rw [beq_iff_eq]; omega
    go_enter Try.func4, Try.ntmps4
    go_wp2_with (first | (go_at_call 16; go_must (refine (Pad_any n (by omega) _).mono ?_); rintro e w1 ⟨rfl, rfl⟩) | (go_at_call 11; go_must (refine (xknown_any _).mono ?_); rintro e w1 ⟨rfl, hb⟩))
    go_ret
    exact ⟨rfl, hb⟩

set_option maxRecDepth 100000 in
theorem lifted (os : Os) (started : os.Started) (H : Type) (enc : TypeId × Value → H) :
    ReturnsInHanded {} Try.checked os 4 .any (Rows.xdrPadsSpec.pre6 enc Try.prog Try.f4 Rows.xdrPadsRow.domain false) (Rows.xdrPadsSpec.post enc Try.prog Try.f4 false true false false) := by
  refine returnsInHanded_of_change (C := Try.checked) own started (by kernel_rfl) Try.func4
    (ChangeSpec.witness6 (enc := enc) (C := Try.checked) false ⟨#[], #[.int .i64 0], []⟩ 8 (by kernel_rfl) (by kernel_rfl) (by kernel_rfl) (by kernel_rfl)) ?_
  intro W base args ds gs before hval0 hW hcnd _
  have hval : ∀ (j : Nat) t v, Try.f4.params[j]? = some t → args[j]? = some v → Value.okWide Try.prog W .any base t v := hval0
  have hW' := hW
  obtain ⟨p, q, hA0, hV, rfl, hfz, hnd⟩ := hW
  have hA : DataW.TrodAll enc Try.prog W 0 (fun _ => true) true Try.f4.params.toList args.toList ds p := hA0
  rw [Try.params4] at hA hval
  obtain ⟨v0, vs0, d0, ds0, p0, q0, hargs, rfl, rfl, h0, r0⟩ := trodAll_cons hA
  obtain ⟨rfl, rfl, rfl⟩ := trodAll_nil r0
  obtain rfl : args = #[v0] := by cases args; simp_all
  obtain ⟨a0, rfl, rfl, rfl, w0⟩ := open_int Try.underlying3 (hval 0 3 v0 rfl rfl) h0
  have hwf := w0
  simp only [Lit.wf, Bool.and_eq_true, decide_eq_true_eq] at hwf
  refine (walk a0 hwf.1 hwf.2 W).mono fun e W' ⟨he, hg⟩ => ?_
  subst he
  exact ⟨_, rfl, law_post laidOut (by rw [Try.params4]; decide +kernel) rfl Try.underlying4 rfl hW' rfl hg⟩

theorem over : Rows.xdrPadsRow.holds Try.pinned (OpenSpec.ofChange Rows.xdrPadsSpec) :=
  OpenClaim.holds_of_wide 4 Try.f4 rfl rfl rfl rfl rfl rfl rfl ⟨rfl, rfl, rfl, rfl, rfl⟩ rfl rfl rfl rfl rfl (by kernel_rfl) Try.func4 (by kernel_rfl)
    (of_decide_eq_true (by kernel_rfl)) (by unfold Func.isWrapper; first | (rw [if_pos (by decide +kernel)]; kernel_rfl) | (rw [if_neg (by decide +kernel)]; exact ⟨rfl, rfl⟩))
    (fun os started H enc _ => lifted os started H enc)

theorem proved : Rows.XdrPadsSaid := over

end Go.Proofs.Ytbdjhkcpnkdbkaa.xdrPads
