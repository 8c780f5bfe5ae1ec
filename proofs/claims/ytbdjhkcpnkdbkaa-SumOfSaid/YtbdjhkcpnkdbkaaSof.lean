/- PROVED HERE: for every two texts, the law SumOf returns true: the sums of a summer and of the package are those of the definition, bit by bit. CONDITIONS: none. -/
import Derived.Test.YtbdjhkcpnkdbkaaSr
import Derived.Test.YtbdjhkcpnkdbkaaLaw
namespace Go.Proofs.Ytbdjhkcpnkdbkaa.sumOf
open Go.ChangeShapes Go.WideShapes Go.ChangeAt Go.RowKit
open Go.ChangeMaps (open_string shut_string)

theorem own : ownKnob Try.prog.godebug = none := by kernel_rfl
theorem laidOut : laidOutB Try.prog = true := by kernel_rfl

set_option maxRecDepth 100000 in
theorem walk (a b : ByteArray) (ha : a.size ≤ 9223372036854775807) (hb : b.size ≤ 9223372036854775807) (w : World) :
    Calls Try.prog 5 #[.string a, .string b] w fun e w' => e = .returned (.bool true) ∧ Below w.heap.size w w' := by
  by_cases h : 1000 < a.size
  · go_enter Try.func5, Try.ntmps5
    go_wp2_with (go_at_call 17; go_must (refine (sknown_any _).mono ?_); rintro e w1 ⟨rfl, hb⟩)
    go_ret
    exact ⟨rfl, hb⟩
  · by_cases h' : 1000 < b.size
    · go_enter Try.func5, Try.ntmps5
      go_wp2_with (go_at_call 17; go_must (refine (sknown_any _).mono ?_); rintro e w1 ⟨rfl, hb⟩)
      go_ret
      exact ⟨rfl, hb⟩
    · go_enter Try.func5, Try.ntmps5
      go_wp2_with fail
      go_must (refine (sNew_any _).mono ?_)
      rintro e w0 ⟨rfl, hw0⟩
      have h0 : Smr w.heap.size 0 w0 := (by rw [← hw0]; exact .inl (heap_alloc_new w _))
      have HW := Lib.hid hw0
      clear hw0
      go_wp2_with fail
      go_must (refine (sOfM_any w.heap.size 0 a _ (by decide) (by decide) ha h0).mono ?_)
      rintro e w1 ⟨rfl, h1, k1⟩
      go_wp2_with fail
      go_must (refine (refOf_any a _ ha).mono ?_)
      rintro e w1' ⟨rfl, rfl⟩
      unfold uv
      go_wp2_with fail
      go_must (refine (sOfM_any w.heap.size 1 b _ (by decide) (by decide) hb (.inr h1)).mono ?_)
      rintro e w2 ⟨rfl, h2, k2⟩
      go_wp2_with fail
      go_must (refine (refOf_any b _ hb).mono ?_)
      rintro e w2' ⟨rfl, rfl⟩
      unfold uv
      go_wp2_with fail
      go_must (refine (sOf_any b _ hb).mono ?_)
      rintro e w3 ⟨rfl, b3⟩
      go_wp2_with fail
      go_must (refine (refOf_any b _ hb).mono ?_)
      rintro e w3' ⟨rfl, rfl⟩
      unfold uv
      have h3 : St 79 w.heap.size (made 2) w3 := (b3.block _ h2.lt).trans h2
      go_wp2_with fail
      go_must (refine (sOfM_any w.heap.size 2 a _ (by decide) (by decide) ha (.inr h3)).mono ?_)
      rintro e w4 ⟨rfl, h4, k4⟩
      go_wp2_with fail
      go_must (refine (refOf_any a _ ha).mono ?_)
      rintro e w4' ⟨rfl, rfl⟩
      unfold uv
      go_wp2_with fail
      go_must (refine (sknown_any _).mono ?_)
      rintro e w5 ⟨rfl, b5⟩
      go_wp2
      go_ret
      refine ⟨rfl, ?_⟩
      have z0 : w0.heap.size = w.heap.size + 1 := by rw [← HW.out]; simp
      have b0 : Below w.heap.size w w0 := by rw [← HW.out]; exact (Below.refl _ _).alloc (Nat.le_refl _) _
      have c1 := k1.below (B := w.heap.size) (Nat.le_refl _) (by omega) (fun j hj => by cases hj)
      have c2 := k2.below (B := w.heap.size) (Nat.le_refl _) (by have := k1.size; omega) (fun j hj => by cases hj)
      have s2 := k2.size
      have s1 := k1.size
      have c4 := k4.below (B := w.heap.size) (Nat.le_refl _) (by have := b3.size; omega) (fun j hj => by cases hj)
      have s3 := b3.size
      have s4 := k4.size
      exact b0.trans (c1.trans (c2.trans ((b3.mono (by omega)).trans (c4.trans (b5.mono (by omega))))))

set_option maxRecDepth 100000 in
theorem lifted (os : Os) (started : os.Started) (H : Type) (enc : TypeId × Value → H) :
    ReturnsInHanded {} Try.checked os 5 .any (Rows.sumOfSpec.pre6 enc Try.prog Try.f5 Rows.sumOfRow.domain false) (Rows.sumOfSpec.post enc Try.prog Try.f5 false true false false) := by
  refine returnsInHanded_of_change (C := Try.checked) own started (by kernel_rfl) Try.func5
    (ChangeSpec.witness6 (enc := enc) (C := Try.checked) false ⟨#[], #[.string ⟨#[]⟩, .string ⟨#[]⟩], []⟩ 8 (by kernel_rfl) (by kernel_rfl) (by kernel_rfl) (by kernel_rfl)) ?_
  intro W base args ds gs before hval0 hW hcnd _
  have hval : ∀ (j : Nat) t v, Try.f5.params[j]? = some t → args[j]? = some v → Value.okWide Try.prog W .any base t v := hval0
  have hW' := hW
  obtain ⟨p, q, hA0, hV, rfl, hfz, hnd⟩ := hW
  have hA : DataW.TrodAll enc Try.prog W 0 (fun _ => true) true Try.f5.params.toList args.toList ds p := hA0
  rw [Try.params5] at hA hval
  obtain ⟨v0, vs0, d0, ds0, p0, q0, hargs, rfl, rfl, h0, r0⟩ := trodAll_cons hA
  obtain ⟨v1, vs1, d1, ds1, p1, q1, rfl, rfl, rfl, h1, r1⟩ := trodAll_cons r0
  obtain ⟨rfl, rfl, rfl⟩ := trodAll_nil r1
  obtain rfl : args = #[v0, v1] := by cases args; simp_all
  obtain ⟨s, rfl, rfl, rfl, hs⟩ := open_string Try.underlying9 (hval 0 9 v0 rfl rfl) h0
  obtain ⟨b, rfl, rfl, rfl, hb⟩ := open_string Try.underlying9 (hval 1 9 v1 rfl rfl) h1
  refine (walk s b hs hb W).mono fun e W' ⟨he, hg⟩ => ?_
  subst he
  exact ⟨_, rfl, law_post laidOut (by rw [Try.params5]; decide +kernel) rfl Try.underlying4 rfl hW' rfl hg⟩

theorem over : Rows.sumOfRow.holds Try.pinned (OpenSpec.ofChange Rows.sumOfSpec) :=
  OpenClaim.holds_of_wide 5 Try.f5 rfl rfl rfl rfl rfl rfl rfl ⟨rfl, rfl, rfl, rfl, rfl⟩ rfl rfl rfl rfl rfl (by kernel_rfl) Try.func5 (by kernel_rfl)
    (of_decide_eq_true (by kernel_rfl)) (by unfold Func.isWrapper; first | (rw [if_pos (by decide +kernel)]; kernel_rfl) | (rw [if_neg (by decide +kernel)]; exact ⟨rfl, rfl⟩))
    (fun os started H enc _ => lifted os started H enc)

theorem proved : Rows.SumOfSaid := over

end Go.Proofs.Ytbdjhkcpnkdbkaa.sumOf
