/- PROVED HERE: for all attributes, changes and integers, the law AttrApplies returns true: any attributes become what the document says. CONDITIONS: none. -/
import Derived.Test.YtbiaeolgifoloaaAc
import Derived.Test.YtbiaeolgifoloaaAe
import Derived.Test.YtbiaeolgifoloaaOb
import Derived.Test.YtbiaeolgifoloaaLaw
import Derived.Deep.RegionHeld3
namespace Go.Proofs.Ytbiaeolgifoloaa.attrApplies
open Go.ChangeShapes Go.WideShapes Go.ChangeAt Go.RowKit Go.Joins

theorem own : ownKnob Try.prog.godebug = none := by kernel_rfl
theorem laidOut : laidOutB Try.prog = true := by kernel_rfl

set_option maxHeartbeats 4000000 in
set_option maxRecDepth 100000 in
theorem walk (a : Pa) (s : Ps) (now : Int) (w : World) :
    Calls Try.prog 4 #[a.val, s.val, .int .i64 now] w fun e w' => e = .returned (.bool true) ∧ Below w.heap.size w w' := by
  have H1 := fun w => aApply_any a s now w
  have H2 := fun w => afApply_any a s now w
  obtain ⟨p, hp⟩ : ∃ p, p = paApply a s now := ⟨_, rfl⟩
  rw [← hp] at H1 H2
  clear hp
  obtain ⟨ty, mode, nlink, uid, gid, size, id, gen, change, time⟩ := a
  obtain ⟨⟨i0, n0⟩, ⟨i1, n1⟩, ⟨i2, n2⟩, ⟨i3, n3⟩, ⟨i4, n4⟩⟩ := s
  obtain ⟨p0, p1, p2, p3, p4, p5, p6, p7, p8, p9⟩ := p
  simp only [Pa.val, Pa.vs, Ps.val, Ps.vs, Po.vs, List.cons_append, List.nil_append] at H1 H2 ⊢
  replace H1 := Lib.hid H1
  replace H2 := Lib.hid H2
  have T0 : St 40 w.heap.size #[.int .i64 ty, .int .i64 mode, .int .i64 nlink, .int .i64 uid, .int .i64 gid, .int .i64 size, .int .i64 id, .int .i64 gen, .int .i64 change, .int .i64 time] ((w.alloc (.cells #[.int .i64 ty, .int .i64 mode, .int .i64 nlink, .int .i64 uid, .int .i64 gid, .int .i64 size, .int .i64 id, .int .i64 gen, .int .i64 change, .int .i64 time] 40 (0, 0))).alloc (.cells #[.bool i0, .int .i64 n0, .bool i1, .int .i64 n1, .bool i2, .int .i64 n2, .bool i3, .int .i64 n3, .bool i4, .int .i64 n4] 25 (0, 0))).drew ∧ St 25 (w.heap.size + 1) #[.bool i0, .int .i64 n0, .bool i1, .int .i64 n1, .bool i2, .int .i64 n2, .bool i3, .int .i64 n3, .bool i4, .int .i64 n4] ((w.alloc (.cells #[.int .i64 ty, .int .i64 mode, .int .i64 nlink, .int .i64 uid, .int .i64 gid, .int .i64 size, .int .i64 id, .int .i64 gen, .int .i64 change, .int .i64 time] 40 (0, 0))).alloc (.cells #[.bool i0, .int .i64 n0, .bool i1, .int .i64 n1, .bool i2, .int .i64 n2, .bool i3, .int .i64 n3, .bool i4, .int .i64 n4] 25 (0, 0))).drew := ⟨(St.new w _ _).alloc _, St.new2 w _ _ _⟩
  have B0 : Below w.heap.size w ((w.alloc (.cells #[.int .i64 ty, .int .i64 mode, .int .i64 nlink, .int .i64 uid, .int .i64 gid, .int .i64 size, .int .i64 id, .int .i64 gen, .int .i64 change, .int .i64 time] 40 (0, 0))).alloc (.cells #[.bool i0, .int .i64 n0, .bool i1, .int .i64 n1, .bool i2, .int .i64 n2, .bool i3, .int .i64 n3, .bool i4, .int .i64 n4] 25 (0, 0))).drew := (below_alloc2 w _ _).drew
  go_enter Try.func4, Try.ntmps4
  go_wp2_with fail
  go_region_held3 (fun w' => (w'.cell? ⟨w.heap.size, 0, none⟩ = some (.int .i64 ty) ∧ w'.cell? ⟨w.heap.size, 1, none⟩ = some (.int .i64 mode) ∧ w'.cell? ⟨w.heap.size, 2, none⟩ = some (.int .i64 nlink) ∧ w'.cell? ⟨w.heap.size, 3, none⟩ = some (.int .i64 uid) ∧ w'.cell? ⟨w.heap.size, 4, none⟩ = some (.int .i64 gid) ∧ w'.cell? ⟨w.heap.size, 5, none⟩ = some (.int .i64 size) ∧ w'.cell? ⟨w.heap.size, 6, none⟩ = some (.int .i64 id) ∧ w'.cell? ⟨w.heap.size, 7, none⟩ = some (.int .i64 gen) ∧ w'.cell? ⟨w.heap.size, 8, none⟩ = some (.int .i64 change) ∧ w'.cell? ⟨w.heap.size, 9, none⟩ = some (.int .i64 time)) ∧ w'.cell? ⟨w.heap.size + 1, 0, none⟩ = some (.bool i0) ∧ w'.cell? ⟨w.heap.size + 1, 1, none⟩ = some (.int .i64 n0) ∧ w'.cell? ⟨w.heap.size + 1, 2, none⟩ = some (.bool i1) ∧ w'.cell? ⟨w.heap.size + 1, 3, none⟩ = some (.int .i64 n1) ∧ w'.cell? ⟨w.heap.size + 1, 4, none⟩ = some (.bool i2) ∧ w'.cell? ⟨w.heap.size + 1, 5, none⟩ = some (.int .i64 n2) ∧ w'.cell? ⟨w.heap.size + 1, 6, none⟩ = some (.bool i3) ∧ w'.cell? ⟨w.heap.size + 1, 7, none⟩ = some (.int .i64 n3) ∧ w'.cell? ⟨w.heap.size + 1, 8, none⟩ = some (.bool i4) ∧ w'.cell? ⟨w.heap.size + 1, 9, none⟩ = some (.int .i64 n4))
    (first | assumption | (simp; done))
    (first
      | (go_at_call 15; go_must (refine (H1.out _).mono ?_); rintro e ww ⟨rfl, bb⟩; have g := duo_step (k := w.heap.size) (av := #[.int .i64 ty, .int .i64 mode, .int .i64 nlink, .int .i64 uid, .int .i64 gid, .int .i64 size, .int .i64 id, .int .i64 gen, .int .i64 change, .int .i64 time]) (sv := #[.bool i0, .int .i64 n0, .bool i1, .int .i64 n1, .bool i2, .int .i64 n2, .bool i3, .int .i64 n3, .bool i4, .int .i64 n4]) (w := w) bb (by assumption) (by assumption); have tt := g.1; have qq := And.intro tt.1.cell10 tt.2.cell10; have ff := g.2; clear g)
      | (go_at_call 16; go_must (refine (H2.out _).mono ?_); rintro e ww ⟨rfl, bb⟩; have g := duo_step (k := w.heap.size) (av := #[.int .i64 ty, .int .i64 mode, .int .i64 nlink, .int .i64 uid, .int .i64 gid, .int .i64 size, .int .i64 id, .int .i64 gen, .int .i64 change, .int .i64 time]) (sv := #[.bool i0, .int .i64 n0, .bool i1, .int .i64 n1, .bool i2, .int .i64 n2, .bool i3, .int .i64 n3, .bool i4, .int .i64 n4]) (w := w) bb (by assumption) (by assumption); have tt := g.1; have qq := And.intro tt.1.cell10 tt.2.cell10; have ff := g.2; clear g)
      | (go_at_call 12; go_must (refine (aknown_any _).mono ?_); rintro e ww ⟨rfl, bb⟩; have g := duo_step (k := w.heap.size) (av := #[.int .i64 ty, .int .i64 mode, .int .i64 nlink, .int .i64 uid, .int .i64 gid, .int .i64 size, .int .i64 id, .int .i64 gen, .int .i64 change, .int .i64 time]) (sv := #[.bool i0, .int .i64 n0, .bool i1, .int .i64 n1, .bool i2, .int .i64 n2, .bool i3, .int .i64 n3, .bool i4, .int .i64 n4]) (w := w) bb (by assumption) (by assumption); have tt := g.1; have qq := And.intro tt.1.cell10 tt.2.cell10; have ff := g.2; clear g))
  go_wp2
  go_ret
  exact ⟨rfl, by assumption⟩

set_option maxRecDepth 100000 in
theorem lifted (os : Os) (started : os.Started) (H : Type) (enc : TypeId × Value → H) :
    ReturnsInHanded {} Try.checked os 4 .any (Rows.attrAppliesSpec.pre6 enc Try.prog Try.f4 Rows.attrAppliesRow.domain false) (Rows.attrAppliesSpec.post enc Try.prog Try.f4 false true false false) := by
  refine returnsInHanded_of_change (C := Try.checked) own started (by kernel_rfl) Try.func4
    (ChangeSpec.witness6 (enc := enc) (C := Try.checked) false ⟨#[], #[.agg #[.int .i64 0, .int .i64 0, .int .i64 0, .int .i64 0, .int .i64 0, .int .i64 0, .int .i64 0, .int .i64 0, .int .i64 0, .int .i64 0], .agg #[.bool false, .int .i64 0, .bool false, .int .i64 0, .bool false, .int .i64 0, .bool false, .int .i64 0, .bool false, .int .i64 0], .int .i64 0], []⟩ 8 (by kernel_rfl) (by kernel_rfl) (by kernel_rfl) (by kernel_rfl)) ?_
  intro W base args ds gs before hval0 hW hcnd _
  have hval : ∀ (j : Nat) t v, Try.f4.params[j]? = some t → args[j]? = some v → Value.okWide Try.prog W .any base t v := hval0
  have hW' := hW
  obtain ⟨p, q, hA0, hV, rfl, hfz, hnd⟩ := hW
  have hA : DataW.TrodAll enc Try.prog W 0 (fun _ => true) true Try.f4.params.toList args.toList ds p := hA0
  rw [Try.params4] at hA hval
  obtain ⟨v0, vs0, d0, ds0, p0, q0, hargs, rfl, rfl, h0, r0⟩ := trodAll_cons hA
  obtain ⟨v1, vs1, d1, ds1, p1, q1, rfl, rfl, rfl, h1, r1⟩ := trodAll_cons r0
  obtain ⟨v2, vs2, d2, ds2, p2, q2, rfl, rfl, rfl, h2, r2⟩ := trodAll_cons r1
  obtain ⟨rfl, rfl, rfl⟩ := trodAll_nil r2
  obtain rfl : args = #[v0, v1, v2] := by cases args; simp_all
  have post : ∀ W', Below W.heap.size W W' → Rows.attrAppliesSpec.post enc Try.prog Try.f4 false true false false W #[v0, v1, v2] (.bool true) W' := fun W' hg =>
    law_post laidOut (by rw [Try.params4]; decide +kernel) rfl Try.underlying4 rfl hW' rfl hg
  have done : ∀ (e : Ending) W', (e = .returned (.bool true) ∧ Below W.heap.size W W') → ∃ v, e = .returned v ∧ Rows.attrAppliesSpec.post enc Try.prog Try.f4 false true false false W #[v0, v1, v2] v W' := fun e W' ⟨he, hg⟩ => ⟨_, he, post W' hg⟩
  clear post
  obtain ⟨a, rfl, rfl, rfl, ha⟩ := open_attr (hval 0 40 v0 rfl rfl) h0
  obtain ⟨s, rfl, rfl, rfl, hs⟩ := open_set (hval 1 25 v1 rfl rfl) h1
  obtain ⟨n, rfl, rfl, rfl, hn⟩ := open_int Try.underlying3 (hval 2 3 v2 rfl rfl) h2
  exact (walk a s n W).mono done


theorem over : Rows.attrAppliesRow.holds Try.pinned (OpenSpec.ofChange Rows.attrAppliesSpec) :=
  OpenClaim.holds_of_wide 4 Try.f4 rfl rfl rfl rfl rfl rfl rfl ⟨rfl, rfl, rfl, rfl, rfl⟩ rfl rfl rfl rfl rfl (by kernel_rfl) Try.func4 (by kernel_rfl)
    (of_decide_eq_true (by kernel_rfl)) (by unfold Func.isWrapper; first | (rw [if_pos (by decide +kernel)]; kernel_rfl) | (rw [if_neg (by decide +kernel)]; exact ⟨rfl, rfl⟩))
    (fun os started H enc _ => lifted os started H enc)

theorem proved : Rows.AttrAppliesSaid := over

end Go.Proofs.Ytbiaeolgifoloaa.attrApplies
