/- PROVED HERE: for all attributes, users and integers, the law PermLess returns true: who may do more may do each part of it. CONDITIONS: none. -/
import Derived.Test.YtinhdabfiahjpaaPg
import Derived.Test.YtinhdabfiahjpaaPf
import Derived.Test.YtinhdabfiahjpaaPn
import Derived.Test.YtinhdabfiahjpaaOb
import Derived.Test.YtinhdabfiahjpaaLaw
import Derived.Deep.RegionHeld3
namespace Go.Proofs.Ytinhdabfiahjpaa.permLess
open Go.ChangeShapes Go.WideShapes Go.ChangeAt Go.RowKit Go.Joins
open Go.ChangeMaps (open_string)

theorem own : ownKnob Try.prog.godebug = none := by kernel_rfl
theorem laidOut : laidOutB Try.prog = true := by kernel_rfl

set_option maxHeartbeats 4000000 in
set_option maxRecDepth 100000 in
theorem walk (a : Pa) (c : Pc) (want less : Int) (w : World) :
    Calls Try.prog 9 #[a.val, c.val, .int .i64 want, .int .i64 less] w fun e w' => e = .returned (.bool true) ∧ Below w.heap.size w w' := by
  have H1 := fun w => pMay_any a c want w
  have H2 := fun w => pMay_any a c (bits .and .i64 want less) w
  have H3 := fun w => pMay_any a c 0 w
  rw [pmMay_zero] at H3
  have hl := pmMay_and (pmOf a c) want less
  obtain ⟨q, hq⟩ : ∃ q, q = pmMay (pmOf a c) want := ⟨_, rfl⟩
  rw [← hq] at H1 hl
  cases q
  · clear hq hl H2
    obtain ⟨ty, mode, nlink, uid, gid, size, id, gen, change, time⟩ := a
    obtain ⟨cl, seq, cu, cg⟩ := c
    simp only [Pa.val, Pc.val, Pa.vs, Pc.vs] at H1 H3 ⊢
    replace H1 := Lib.hid H1
    replace H3 := Lib.hid H3
    go_enter Try.func9, Try.ntmps9
    go_wp2_with fail
    go_must (refine (H1.out _).mono ?_)
    rintro e w1 ⟨rfl, b1⟩
    have f1 := below_then2 b1
    have t1 := (Two.new ⟨ty, mode, nlink, uid, gid, size, id, gen, change, time⟩ ⟨cl, seq, cu, cg⟩ w).below b1
    clear b1
    obtain ⟨⟨c0, c1, c2, c3, c4, c5, c6, c7, c8, c9⟩, d0, d1, d2, d3⟩ := two_cells t1
    go_wp2_with fail
    go_must (refine (H3.out _).mono ?_)
    rintro e w2 ⟨rfl, b2⟩
    have f2 := f1.trans (b2.mono f1.size)
    have t2 := t1.below b2
    clear b2
    clear t1 c0 c1 c2 c3 c4 c5 c6 c7 c8 c9 d0 d1 d2 d3
    obtain ⟨⟨c0, c1, c2, c3, c4, c5, c6, c7, c8, c9⟩, d0, d1, d2, d3⟩ := two_cells t2
    go_wp2_with fail
    go_must (refine (pknown_any _).mono ?_)
    rintro e w3 ⟨rfl, b3⟩
    have f3 := f2.trans (b3.mono f2.size)
    have t3 := t2.below b3
    clear b3
    clear t2 c0 c1 c2 c3 c4 c5 c6 c7 c8 c9 d0 d1 d2 d3
    obtain ⟨⟨c0, c1, c2, c3, c4, c5, c6, c7, c8, c9⟩, d0, d1, d2, d3⟩ := two_cells t3
    go_wp2_with fail
    go_ret
    exact ⟨rfl, f3⟩
  · rw [hl rfl] at H2
    clear hq hl
    obtain ⟨ty, mode, nlink, uid, gid, size, id, gen, change, time⟩ := a
    obtain ⟨cl, seq, cu, cg⟩ := c
    simp only [Pa.val, Pc.val, Pa.vs, Pc.vs] at H1 H2 H3 ⊢
    replace H1 := Lib.hid H1
    replace H2 := Lib.hid H2
    replace H3 := Lib.hid H3
    go_enter Try.func9, Try.ntmps9
    go_wp2_with fail
    go_must (refine (H1.out _).mono ?_)
    rintro e w1 ⟨rfl, b1⟩
    have f1 := below_then2 b1
    have t1 := (Two.new ⟨ty, mode, nlink, uid, gid, size, id, gen, change, time⟩ ⟨cl, seq, cu, cg⟩ w).below b1
    clear b1
    obtain ⟨⟨c0, c1, c2, c3, c4, c5, c6, c7, c8, c9⟩, d0, d1, d2, d3⟩ := two_cells t1
    go_wp2_with fail
    go_must (refine (H2.out _).mono ?_)
    rintro e w2 ⟨rfl, b2⟩
    have f2 := f1.trans (b2.mono f1.size)
    have t2 := t1.below b2
    clear b2
    clear t1 c0 c1 c2 c3 c4 c5 c6 c7 c8 c9 d0 d1 d2 d3
    obtain ⟨⟨c0, c1, c2, c3, c4, c5, c6, c7, c8, c9⟩, d0, d1, d2, d3⟩ := two_cells t2
    go_wp2_with fail
    go_must (refine (H3.out _).mono ?_)
    rintro e w3 ⟨rfl, b3⟩
    have f3 := f2.trans (b3.mono f2.size)
    have t3 := t2.below b3
    clear b3
    clear t2 c0 c1 c2 c3 c4 c5 c6 c7 c8 c9 d0 d1 d2 d3
    obtain ⟨⟨c0, c1, c2, c3, c4, c5, c6, c7, c8, c9⟩, d0, d1, d2, d3⟩ := two_cells t3
    go_wp2_with fail
    go_must (refine (pknown_any _).mono ?_)
    rintro e w4 ⟨rfl, b4⟩
    have f4 := f3.trans (b4.mono f3.size)
    have t4 := t3.below b4
    clear b4
    clear t3 c0 c1 c2 c3 c4 c5 c6 c7 c8 c9 d0 d1 d2 d3
    obtain ⟨⟨c0, c1, c2, c3, c4, c5, c6, c7, c8, c9⟩, d0, d1, d2, d3⟩ := two_cells t4
    go_wp2_with fail
    go_ret
    exact ⟨rfl, f4⟩

set_option maxRecDepth 100000 in
theorem lifted (os : Os) (started : os.Started) (H : Type) (enc : TypeId × Value → H) :
    ReturnsInHanded {} Try.checked os 9 .any (Rows.permLessSpec.pre6 enc Try.prog Try.f9 Rows.permLessRow.domain false) (Rows.permLessSpec.post enc Try.prog Try.f9 false true false false) := by
  refine returnsInHanded_of_change (C := Try.checked) own started (by kernel_rfl) Try.func9
    (ChangeSpec.witness6 (enc := enc) (C := Try.checked) false ⟨#[], #[.agg #[.int .i64 0, .int .i64 0, .int .i64 0, .int .i64 0, .int .i64 0, .int .i64 0, .int .i64 0, .int .i64 0, .int .i64 0, .int .i64 0], .agg #[.int .i64 0, .int .i64 0, .int .i64 0, .int .i64 0], .int .i64 0, .int .i64 0], []⟩ 8 (by kernel_rfl) (by kernel_rfl) (by kernel_rfl) (by kernel_rfl)) ?_
  intro W base args ds gs before hval0 hW hcnd _
  have hval : ∀ (j : Nat) t v, Try.f9.params[j]? = some t → args[j]? = some v → Value.okWide Try.prog W .any base t v := hval0
  have hW' := hW
  obtain ⟨p, q, hA0, hV, rfl, hfz, hnd⟩ := hW
  have hA : DataW.TrodAll enc Try.prog W 0 (fun _ => true) true Try.f9.params.toList args.toList ds p := hA0
  rw [Try.params9] at hA hval
  obtain ⟨v0, vs0, d0, ds0, p0, q0, hargs, rfl, rfl, h0, r0⟩ := trodAll_cons hA
  obtain ⟨v1, vs1, d1, ds1, p1, q1, rfl, rfl, rfl, h1, r1⟩ := trodAll_cons r0
  obtain ⟨v2, vs2, d2, ds2, p2, q2, rfl, rfl, rfl, h2, r2⟩ := trodAll_cons r1
  obtain ⟨v3, vs3, d3, ds3, p3, q3, rfl, rfl, rfl, h3, r3⟩ := trodAll_cons r2
  obtain ⟨rfl, rfl, rfl⟩ := trodAll_nil r3
  obtain rfl : args = #[v0, v1, v2, v3] := by cases args; simp_all
  have post : ∀ W', Below W.heap.size W W' → Rows.permLessSpec.post enc Try.prog Try.f9 false true false false W #[v0, v1, v2, v3] (.bool true) W' := fun W' hg =>
    law_post laidOut (by rw [Try.params9]; decide +kernel) rfl Try.underlying4 rfl hW' rfl hg
  have done : ∀ (e : Ending) W', (e = .returned (.bool true) ∧ Below W.heap.size W W') → ∃ v, e = .returned v ∧ Rows.permLessSpec.post enc Try.prog Try.f9 false true false false W #[v0, v1, v2, v3] v W' := fun e W' ⟨he, hg⟩ => ⟨_, he, post W' hg⟩
  clear post
  obtain ⟨a, rfl, rfl, rfl, ha⟩ := open_attr (hval 0 40 v0 rfl rfl) h0
  obtain ⟨c, rfl, rfl, rfl, hc⟩ := open_cred (hval 1 44 v1 rfl rfl) h1
  obtain ⟨n, rfl, rfl, rfl, hn⟩ := open_int Try.underlying3 (hval 2 3 v2 rfl rfl) h2
  obtain ⟨m, rfl, rfl, rfl, hm⟩ := open_int Try.underlying3 (hval 3 3 v3 rfl rfl) h3
  exact (walk a c n m W).mono done


theorem over : Rows.permLessRow.holds Try.pinned (OpenSpec.ofChange Rows.permLessSpec) :=
  OpenClaim.holds_of_wide 9 Try.f9 rfl rfl rfl rfl rfl rfl rfl ⟨rfl, rfl, rfl, rfl, rfl⟩ rfl rfl rfl rfl rfl (by kernel_rfl) Try.func9 (by kernel_rfl)
    (of_decide_eq_true (by kernel_rfl)) (by unfold Func.isWrapper; first | (rw [if_pos (by decide +kernel)]; kernel_rfl) | (rw [if_neg (by decide +kernel)]; exact ⟨rfl, rfl⟩))
    (fun os started H enc _ => lifted os started H enc)

theorem proved : Rows.PermLessSaid := over

end Go.Proofs.Ytinhdabfiahjpaa.permLess
