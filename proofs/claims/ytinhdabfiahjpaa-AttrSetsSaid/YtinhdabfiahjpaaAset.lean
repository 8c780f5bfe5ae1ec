/- PROVED HERE: for every change, the law AttrSets returns true: whatever is to be set is laid as the document says, or refused. CONDITIONS: none. -/
import Derived.Test.YtinhdabfiahjpaaAf
import Derived.Test.YtinhdabfiahjpaaOb
import Derived.Test.YtinhdabfiahjpaaLaw
import Derived.Deep.RegionHeld3
namespace Go.Proofs.Ytinhdabfiahjpaa.attrSets
open Go.ChangeShapes Go.WideShapes Go.ChangeAt Go.RowKit Go.Joins

theorem own : ownKnob Try.prog.godebug = none := by kernel_rfl
theorem laidOut : laidOutB Try.prog = true := by kernel_rfl
theorem set_step {k k2 : Nat} {cs : Array Value} {r : Option Nat} {xs : List UInt8} {w W W' : World} (b : Below W.heap.size W W') (t : St 25 k cs W ∧ Wr 29 5 k2 r xs W) (f : Below w.heap.size w W) : (St 25 k cs W' ∧ Wr 29 5 k2 r xs W') ∧ Below w.heap.size w W' :=
  ⟨⟨t.1.below b, t.2.below b⟩, f.trans (b.mono f.size)⟩

set_option maxHeartbeats 4000000 in
set_option maxRecDepth 100000 in
theorem walk (s : Ps) (w : World) (hn : s.num) :
    Calls Try.prog 3 #[s.val] w fun e w' => e = .returned (.bool true) ∧ Below w.heap.size w w' := by
  have H1 := fun k w h => aPutSet_any k s w h
  have H2 := fun w => afSet_any s w
  have H4 := fun w => aCheckSet_any s w
  have H5 := fun w => aEmpty_any s w
  have H6 := fun w => afEmpty_any s w
  have H7 := fun (hs : okPs s = true) w => afSetBytes_any s w hs hn
  unfold psPut at H1
  obtain ⟨m, hm⟩ : ∃ m, m = psEmpty s := ⟨_, rfl⟩
  rw [← hm] at H5 H6
  obtain ⟨q, hq⟩ : ∃ q, q = okPs s := ⟨_, rfl⟩
  rw [← hq] at H1 H2 H4 H7
  obtain ⟨xs, hxs⟩ : ∃ x, x = psBytes s := ⟨_, rfl⟩
  rw [← hxs] at H1 H7
  clear hm hq hxs hn
  obtain ⟨⟨i0, n0⟩, ⟨i1, n1⟩, ⟨i2, n2⟩, ⟨i3, n3⟩, ⟨i4, n4⟩⟩ := s
  simp only [Ps.val, Ps.vs, Po.vs, List.cons_append, List.nil_append] at H1 H2 H4 H5 H6 H7 ⊢
  have st0 := Lib.hid ((St.new w 25 #[.bool i0, .int .i64 n0, .bool i1, .int .i64 n1, .bool i2, .int .i64 n2, .bool i3, .int .i64 n3, .bool i4, .int .i64 n4]).alloc (.cells #[.slice none 0 0] 29 (0, 0)))
  have wr0 := Lib.hid (show Wr 29 5 (w.heap.size + 1) none [] ((w.alloc (.cells #[.bool i0, .int .i64 n0, .bool i1, .int .i64 n1, .bool i2, .int .i64 n2, .bool i3, .int .i64 n3, .bool i4, .int .i64 n4] 25 (0, 0))).alloc (.cells #[.slice none 0 0] 29 (0, 0))) from by
    have := awr_new (T := 29) (E := 5) (w := w.alloc (.cells #[.bool i0, .int .i64 n0, .bool i1, .int .i64 n1, .bool i2, .int .i64 n2, .bool i3, .int .i64 n3, .bool i4, .int .i64 n4] 25 (0, 0)))
    simpa using this)
  have f0 := Lib.hid (below_alloc2 w (.cells #[.bool i0, .int .i64 n0, .bool i1, .int .i64 n1, .bool i2, .int .i64 n2, .bool i3, .int .i64 n3, .bool i4, .int .i64 n4] 25 (0, 0)) (.cells #[.slice none 0 0] 29 (0, 0)))
  cases q
  · simp only [Bool.false_eq_true, if_false] at H1 H4
    have H3 := fun w => aformed_any false w
    simp only [Bool.false_eq_true, if_false] at H3
    clear H7
    replace H1 := Lib.hid H1
    replace H2 := Lib.hid H2
    replace H3 := Lib.hid H3
    replace H4 := Lib.hid H4
    replace H5 := Lib.hid H5
    replace H6 := Lib.hid H6
    go_enter Try.func3, Try.ntmps3
    go_wp2_with fail
    go_must (refine (H1.out _ _ wr0.out).mono ?_)
    rintro e w1 ⟨rfl, r1, hw1, hk1, hr1⟩
    have tt : St 25 w.heap.size #[.bool i0, .int .i64 n0, .bool i1, .int .i64 n1, .bool i2, .int .i64 n2, .bool i3, .int .i64 n3, .bool i4, .int .i64 n4] w1.drew ∧ Wr 29 5 (w.heap.size + 1) r1 ([] : List UInt8) w1.drew := ⟨hk1.same st0.out (by omega) (by simp), hw1⟩
    have ff : Below w.heap.size w w1.drew := (f0.out.trans (hk1.below (B := w.heap.size) (by omega) (by simp; omega) (fun j hj => by cases hj))).drew
    have qq := tt.1.cell10
    clear hk1 hw1 hr1
    go_wp2_with fail
    go_region_held3 (fun w' => w'.cell? ⟨w.heap.size, 0, none⟩ = some (.bool i0) ∧ w'.cell? ⟨w.heap.size, 1, none⟩ = some (.int .i64 n0) ∧ w'.cell? ⟨w.heap.size, 2, none⟩ = some (.bool i1) ∧ w'.cell? ⟨w.heap.size, 3, none⟩ = some (.int .i64 n1) ∧ w'.cell? ⟨w.heap.size, 4, none⟩ = some (.bool i2) ∧ w'.cell? ⟨w.heap.size, 5, none⟩ = some (.int .i64 n2) ∧ w'.cell? ⟨w.heap.size, 6, none⟩ = some (.bool i3) ∧ w'.cell? ⟨w.heap.size, 7, none⟩ = some (.int .i64 n3) ∧ w'.cell? ⟨w.heap.size, 8, none⟩ = some (.bool i4) ∧ w'.cell? ⟨w.heap.size, 9, none⟩ = some (.int .i64 n4))
      (first | assumption | (simp; done))
      (first
        | (go_at_call 12; go_must (refine (H2.out _).mono ?_); rintro e ww ⟨rfl, bb⟩; have g := set_step (k := w.heap.size) (k2 := w.heap.size + 1) (cs := #[.bool i0, .int .i64 n0, .bool i1, .int .i64 n1, .bool i2, .int .i64 n2, .bool i3, .int .i64 n3, .bool i4, .int .i64 n4]) (r := r1) (xs := ([] : List UInt8)) (w := w) bb (by assumption) (by assumption); have tt := g.1; have qq := tt.1.cell10; have ff := g.2; clear g)
        | (go_at_call 11; go_must (refine (H3.out _).mono ?_); rintro e ww ⟨rfl, rfl⟩)
        | (go_at_call 13; go_must (refine (H4.out _).mono ?_); rintro e ww ⟨rfl, bb⟩; have g := set_step (k := w.heap.size) (k2 := w.heap.size + 1) (cs := #[.bool i0, .int .i64 n0, .bool i1, .int .i64 n1, .bool i2, .int .i64 n2, .bool i3, .int .i64 n3, .bool i4, .int .i64 n4]) (r := r1) (xs := ([] : List UInt8)) (w := w) bb (by assumption) (by assumption); have tt := g.1; have qq := tt.1.cell10; have ff := g.2; clear g)
        | (go_at_call 14; go_must (refine (H5.out _).mono ?_); rintro e ww ⟨rfl, bb⟩; have g := set_step (k := w.heap.size) (k2 := w.heap.size + 1) (cs := #[.bool i0, .int .i64 n0, .bool i1, .int .i64 n1, .bool i2, .int .i64 n2, .bool i3, .int .i64 n3, .bool i4, .int .i64 n4]) (r := r1) (xs := ([] : List UInt8)) (w := w) bb (by assumption) (by assumption); have tt := g.1; have qq := tt.1.cell10; have ff := g.2; clear g)
        | (go_at_call 15; go_must (refine (H6.out _).mono ?_); rintro e ww ⟨rfl, bb⟩; have g := set_step (k := w.heap.size) (k2 := w.heap.size + 1) (cs := #[.bool i0, .int .i64 n0, .bool i1, .int .i64 n1, .bool i2, .int .i64 n2, .bool i3, .int .i64 n3, .bool i4, .int .i64 n4]) (r := r1) (xs := ([] : List UInt8)) (w := w) bb (by assumption) (by assumption); have tt := g.1; have qq := tt.1.cell10; have ff := g.2; clear g))
    go_wp2_with fail
    go_must (refine (wLen_any (w.heap.size + 1) r1 [] _ tt.2).mono ?_)
    rintro e w3 ⟨rfl, rfl⟩
    go_wp2_with fail
    go_must (refine (aknown_any _).mono ?_)
    rintro e w4 ⟨rfl, b4⟩
    have f4 := ff.trans (b4.mono ff.size)
    go_wp2_with fail
    go_ret
    exact ⟨rfl, f4⟩
  · simp only [if_true] at H1 H4
    have H3 := fun w => aformed_any true w
    simp only [if_true] at H3
    replace H7 := H7 rfl
    obtain ⟨u, hu⟩ : ∃ u, u = str xs := ⟨_, rfl⟩
    rw [← hu] at H7
    have HU := Lib.hid hu
    clear hu
    replace H1 := Lib.hid H1
    replace H2 := Lib.hid H2
    replace H3 := Lib.hid H3
    replace H4 := Lib.hid H4
    replace H5 := Lib.hid H5
    replace H6 := Lib.hid H6
    replace H7 := Lib.hid H7
    go_enter Try.func3, Try.ntmps3
    go_wp2_with fail
    go_must (refine (H1.out _ _ wr0.out).mono ?_)
    rintro e w1 ⟨rfl, r1, hw1, hk1, hr1⟩
    have tt : St 25 w.heap.size #[.bool i0, .int .i64 n0, .bool i1, .int .i64 n1, .bool i2, .int .i64 n2, .bool i3, .int .i64 n3, .bool i4, .int .i64 n4] w1.drew ∧ Wr 29 5 (w.heap.size + 1) r1 xs w1.drew := ⟨hk1.same st0.out (by omega) (by simp), hw1⟩
    have ff : Below w.heap.size w w1.drew := (f0.out.trans (hk1.below (B := w.heap.size) (by omega) (by simp; omega) (fun j hj => by cases hj))).drew
    have qq := tt.1.cell10
    clear hk1 hw1 hr1
    go_wp2_with fail
    go_region_held3 (fun w' => w'.cell? ⟨w.heap.size, 0, none⟩ = some (.bool i0) ∧ w'.cell? ⟨w.heap.size, 1, none⟩ = some (.int .i64 n0) ∧ w'.cell? ⟨w.heap.size, 2, none⟩ = some (.bool i1) ∧ w'.cell? ⟨w.heap.size, 3, none⟩ = some (.int .i64 n1) ∧ w'.cell? ⟨w.heap.size, 4, none⟩ = some (.bool i2) ∧ w'.cell? ⟨w.heap.size, 5, none⟩ = some (.int .i64 n2) ∧ w'.cell? ⟨w.heap.size, 6, none⟩ = some (.bool i3) ∧ w'.cell? ⟨w.heap.size, 7, none⟩ = some (.int .i64 n3) ∧ w'.cell? ⟨w.heap.size, 8, none⟩ = some (.bool i4) ∧ w'.cell? ⟨w.heap.size, 9, none⟩ = some (.int .i64 n4))
      (first | assumption | (simp; done))
      (first
        | (go_at_call 12; go_must (refine (H2.out _).mono ?_); rintro e ww ⟨rfl, bb⟩; have g := set_step (k := w.heap.size) (k2 := w.heap.size + 1) (cs := #[.bool i0, .int .i64 n0, .bool i1, .int .i64 n1, .bool i2, .int .i64 n2, .bool i3, .int .i64 n3, .bool i4, .int .i64 n4]) (r := r1) (xs := xs) (w := w) bb (by assumption) (by assumption); have tt := g.1; have qq := tt.1.cell10; have ff := g.2; clear g)
        | (go_at_call 11; go_must (refine (H3.out _).mono ?_); rintro e ww ⟨rfl, rfl⟩)
        | (go_at_call 13; go_must (refine (H4.out _).mono ?_); rintro e ww ⟨rfl, bb⟩; have g := set_step (k := w.heap.size) (k2 := w.heap.size + 1) (cs := #[.bool i0, .int .i64 n0, .bool i1, .int .i64 n1, .bool i2, .int .i64 n2, .bool i3, .int .i64 n3, .bool i4, .int .i64 n4]) (r := r1) (xs := xs) (w := w) bb (by assumption) (by assumption); have tt := g.1; have qq := tt.1.cell10; have ff := g.2; clear g)
        | (go_at_call 14; go_must (refine (H5.out _).mono ?_); rintro e ww ⟨rfl, bb⟩; have g := set_step (k := w.heap.size) (k2 := w.heap.size + 1) (cs := #[.bool i0, .int .i64 n0, .bool i1, .int .i64 n1, .bool i2, .int .i64 n2, .bool i3, .int .i64 n3, .bool i4, .int .i64 n4]) (r := r1) (xs := xs) (w := w) bb (by assumption) (by assumption); have tt := g.1; have qq := tt.1.cell10; have ff := g.2; clear g)
        | (go_at_call 15; go_must (refine (H6.out _).mono ?_); rintro e ww ⟨rfl, bb⟩; have g := set_step (k := w.heap.size) (k2 := w.heap.size + 1) (cs := #[.bool i0, .int .i64 n0, .bool i1, .int .i64 n1, .bool i2, .int .i64 n2, .bool i3, .int .i64 n3, .bool i4, .int .i64 n4]) (r := r1) (xs := xs) (w := w) bb (by assumption) (by assumption); have tt := g.1; have qq := tt.1.cell10; have ff := g.2; clear g))
    go_wp2_with fail
    have tt : St 25 w.heap.size #[.bool i0, .int .i64 n0, .bool i1, .int .i64 n1, .bool i2, .int .i64 n2, .bool i3, .int .i64 n3, .bool i4, .int .i64 n4] ww.drew ∧ Wr 29 5 (w.heap.size + 1) r1 xs ww.drew := tt
    have ff : Below w.heap.size w ww.drew := ff.drew
    go_region_held3 (fun w' => w'.cell? ⟨w.heap.size, 0, none⟩ = some (.bool i0) ∧ w'.cell? ⟨w.heap.size, 1, none⟩ = some (.int .i64 n0) ∧ w'.cell? ⟨w.heap.size, 2, none⟩ = some (.bool i1) ∧ w'.cell? ⟨w.heap.size, 3, none⟩ = some (.int .i64 n1) ∧ w'.cell? ⟨w.heap.size, 4, none⟩ = some (.bool i2) ∧ w'.cell? ⟨w.heap.size, 5, none⟩ = some (.int .i64 n2) ∧ w'.cell? ⟨w.heap.size, 6, none⟩ = some (.bool i3) ∧ w'.cell? ⟨w.heap.size, 7, none⟩ = some (.int .i64 n3) ∧ w'.cell? ⟨w.heap.size, 8, none⟩ = some (.bool i4) ∧ w'.cell? ⟨w.heap.size, 9, none⟩ = some (.int .i64 n4))
      (first | assumption | (simp; done))
      (first
        | (go_at_call 18; go_must (refine (wText_any (w.heap.size + 1) r1 xs _ tt.2).mono ?_); rintro e w3 ⟨rfl, rfl⟩; rw [← HU.out])
        | (go_at_call 19; go_must (refine (H7.out _).mono ?_); rintro e ww ⟨rfl, bb⟩; have g := set_step (k := w.heap.size) (k2 := w.heap.size + 1) (cs := #[.bool i0, .int .i64 n0, .bool i1, .int .i64 n1, .bool i2, .int .i64 n2, .bool i3, .int .i64 n3, .bool i4, .int .i64 n4]) (r := r1) (xs := xs) (w := w) bb (by assumption) (by assumption); have tt := g.1; have qq := tt.1.cell10; have ff := g.2; clear g)
        | (go_at_call 17; go_must (refine (aknown_any _).mono ?_); rintro e ww ⟨rfl, bb⟩; have g := set_step (k := w.heap.size) (k2 := w.heap.size + 1) (cs := #[.bool i0, .int .i64 n0, .bool i1, .int .i64 n1, .bool i2, .int .i64 n2, .bool i3, .int .i64 n3, .bool i4, .int .i64 n4]) (r := r1) (xs := xs) (w := w) bb (by assumption) (by assumption); have tt := g.1; have qq := tt.1.cell10; have ff := g.2; clear g))
    go_wp2
    go_ret
    exact ⟨rfl, by assumption⟩

set_option maxRecDepth 100000 in
theorem lifted (os : Os) (started : os.Started) (H : Type) (enc : TypeId × Value → H) :
    ReturnsInHanded {} Try.checked os 3 .any (Rows.attrSetsSpec.pre6 enc Try.prog Try.f3 Rows.attrSetsRow.domain false) (Rows.attrSetsSpec.post enc Try.prog Try.f3 false true false false) := by
  refine returnsInHanded_of_change (C := Try.checked) own started (by kernel_rfl) Try.func3
    (ChangeSpec.witness6 (enc := enc) (C := Try.checked) false ⟨#[], #[.agg #[.bool false, .int .i64 0, .bool false, .int .i64 0, .bool false, .int .i64 0, .bool false, .int .i64 0, .bool false, .int .i64 0]], []⟩ 8 (by kernel_rfl) (by kernel_rfl) (by kernel_rfl) (by kernel_rfl)) ?_
  intro W base args ds gs before hval0 hW hcnd _
  have hval : ∀ (j : Nat) t v, Try.f3.params[j]? = some t → args[j]? = some v → Value.okWide Try.prog W .any base t v := hval0
  have hW' := hW
  obtain ⟨p, q, hA0, hV, rfl, hfz, hnd⟩ := hW
  have hA : DataW.TrodAll enc Try.prog W 0 (fun _ => true) true Try.f3.params.toList args.toList ds p := hA0
  rw [Try.params3] at hA hval
  obtain ⟨v0, vs0, d0, ds0, p0, q0, hargs, rfl, rfl, h0, r0⟩ := trodAll_cons hA
  obtain ⟨rfl, rfl, rfl⟩ := trodAll_nil r0
  obtain rfl : args = #[v0] := by cases args; simp_all
  have post : ∀ W', Below W.heap.size W W' → Rows.attrSetsSpec.post enc Try.prog Try.f3 false true false false W #[v0] (.bool true) W' := fun W' hg =>
    law_post laidOut (by rw [Try.params3]; decide +kernel) rfl Try.underlying4 rfl hW' rfl hg
  have done : ∀ (e : Ending) W', (e = .returned (.bool true) ∧ Below W.heap.size W W') → ∃ v, e = .returned v ∧ Rows.attrSetsSpec.post enc Try.prog Try.f3 false true false false W #[v0] v W' := fun e W' ⟨he, hg⟩ => ⟨_, he, post W' hg⟩
  clear post
  obtain ⟨s, rfl, rfl, rfl, hs⟩ := open_set (hval 0 25 v0 rfl rfl) h0
  exact (walk s W hs).mono done


theorem over : Rows.attrSetsRow.holds Try.pinned (OpenSpec.ofChange Rows.attrSetsSpec) :=
  OpenClaim.holds_of_wide 3 Try.f3 rfl rfl rfl rfl rfl rfl rfl ⟨rfl, rfl, rfl, rfl, rfl⟩ rfl rfl rfl rfl rfl (by kernel_rfl) Try.func3 (by kernel_rfl)
    (of_decide_eq_true (by kernel_rfl)) (by unfold Func.isWrapper; first | (rw [if_pos (by decide +kernel)]; kernel_rfl) | (rw [if_neg (by decide +kernel)]; exact ⟨rfl, rfl⟩))
    (fun os started H enc _ => lifted os started H enc)

theorem proved : Rows.AttrSetsSaid := over

end Go.Proofs.Ytinhdabfiahjpaa.attrSets
