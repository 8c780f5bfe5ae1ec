/- PROVED HERE: for all attributes, users and integers, the law PermAccess returns true: what access anybody has at any node is as the document says, and comes to the same, asked together and one by one. CONDITIONS: none. -/
import Derived.Test.YtinhdabfiahjpaaPg
import Derived.Test.YtinhdabfiahjpaaPf
import Derived.Test.YtinhdabfiahjpaaPn
import Derived.Test.YtinhdabfiahjpaaOb
import Derived.Test.YtinhdabfiahjpaaLaw
import Derived.Deep.RegionHeld3
namespace Go.Proofs.Ytinhdabfiahjpaa.permAccess
open Go.ChangeShapes Go.WideShapes Go.ChangeAt Go.RowKit Go.Joins
open Go.ChangeMaps (open_string)

theorem own : ownKnob Try.prog.godebug = none := by kernel_rfl
theorem laidOut : laidOutB Try.prog = true := by kernel_rfl

set_option maxHeartbeats 4000000 in
set_option maxRecDepth 100000 in
theorem walk (a : Pa) (c : Pc) (x y : Int) (w : World) :
    Calls Try.prog 6 #[a.val, c.val, .int .i64 x, .int .i64 y] w fun e w' => e = .returned (.bool true) ∧ Below w.heap.size w w' := by
  have H1 := fun w => pAccess_any a c x w
  have H2 := fun w => pfAccess_any a c x w
  have H3 := fun w => pAccess_any a c (bits .or .i64 x y) w
  have H4 := fun w => pAccess_any a c y w
  obtain ⟨h, hh⟩ : ∃ h, h = pmHas (a.ty == 2) (pmOf a c) := ⟨_, rfl⟩
  rw [← hh] at H1 H2 H3 H4
  rw [bits_and_comm h x] at H2
  rw [bits_and_comm (bits .or .i64 x y) h, bits_and_or h x y, bits_and_comm h x, bits_and_comm h y] at H3
  obtain ⟨vx, hx⟩ : ∃ v, v = bits .and .i64 x h := ⟨_, rfl⟩
  obtain ⟨vy, hy⟩ : ∃ v, v = bits .and .i64 y h := ⟨_, rfl⟩
  rw [← hx] at H1 H2 H3
  rw [← hy] at H3 H4
  clear hh hx hy
  obtain ⟨ty, mode, nlink, uid, gid, size, id, gen, change, time⟩ := a
  obtain ⟨cl, seq, cu, cg⟩ := c
  simp only [Pa.val, Pc.val, Pa.vs, Pc.vs] at H1 H2 H3 H4 ⊢
  replace H1 := Lib.hid H1
  replace H2 := Lib.hid H2
  replace H3 := Lib.hid H3
  replace H4 := Lib.hid H4
  have T0 : Two w.heap.size ⟨ty, mode, nlink, uid, gid, size, id, gen, change, time⟩ ⟨cl, seq, cu, cg⟩ ((w.alloc (.cells #[.int .i64 ty, .int .i64 mode, .int .i64 nlink, .int .i64 uid, .int .i64 gid, .int .i64 size, .int .i64 id, .int .i64 gen, .int .i64 change, .int .i64 time] 40 (0, 0))).alloc (.cells #[.int .i64 cl, .int .i64 seq, .int .i64 cu, .int .i64 cg] 44 (0, 0))).drew := Two.new ⟨ty, mode, nlink, uid, gid, size, id, gen, change, time⟩ ⟨cl, seq, cu, cg⟩ w
  have B0 : Below w.heap.size w ((w.alloc (.cells #[.int .i64 ty, .int .i64 mode, .int .i64 nlink, .int .i64 uid, .int .i64 gid, .int .i64 size, .int .i64 id, .int .i64 gen, .int .i64 change, .int .i64 time] 40 (0, 0))).alloc (.cells #[.int .i64 cl, .int .i64 seq, .int .i64 cu, .int .i64 cg] 44 (0, 0))).drew := (below_alloc2 w _ _).drew
  go_enter Try.func6, Try.ntmps6
  go_wp2_with fail
  go_region_held3 (fun w' => (w'.cell? ⟨w.heap.size, 0, none⟩ = some (.int .i64 ty) ∧ w'.cell? ⟨w.heap.size, 1, none⟩ = some (.int .i64 mode) ∧ w'.cell? ⟨w.heap.size, 2, none⟩ = some (.int .i64 nlink) ∧ w'.cell? ⟨w.heap.size, 3, none⟩ = some (.int .i64 uid) ∧ w'.cell? ⟨w.heap.size, 4, none⟩ = some (.int .i64 gid) ∧ w'.cell? ⟨w.heap.size, 5, none⟩ = some (.int .i64 size) ∧ w'.cell? ⟨w.heap.size, 6, none⟩ = some (.int .i64 id) ∧ w'.cell? ⟨w.heap.size, 7, none⟩ = some (.int .i64 gen) ∧ w'.cell? ⟨w.heap.size, 8, none⟩ = some (.int .i64 change) ∧ w'.cell? ⟨w.heap.size, 9, none⟩ = some (.int .i64 time)) ∧ w'.cell? ⟨w.heap.size + 1, 0, none⟩ = some (.int .i64 cl) ∧ w'.cell? ⟨w.heap.size + 1, 1, none⟩ = some (.int .i64 seq) ∧ w'.cell? ⟨w.heap.size + 1, 2, none⟩ = some (.int .i64 cu) ∧ w'.cell? ⟨w.heap.size + 1, 3, none⟩ = some (.int .i64 cg))
    (first | assumption | (simp; done))
    (first
      | (go_at_call 29; with_reducible refine (H2.out _).mono ?_; rintro e ww ⟨rfl, bb⟩; have g := two_step (k := w.heap.size) (a := ⟨ty, mode, nlink, uid, gid, size, id, gen, change, time⟩) (c := ⟨cl, seq, cu, cg⟩) (w := w) bb (by assumption) (by assumption); have tt := g.1; have qq := two_cells tt; have ff := g.2; clear g)
      | (go_at_call 28; with_reducible refine (H3.out _).mono ?_; rintro e ww ⟨rfl, bb⟩; have g := two_step (k := w.heap.size) (a := ⟨ty, mode, nlink, uid, gid, size, id, gen, change, time⟩) (c := ⟨cl, seq, cu, cg⟩) (w := w) bb (by assumption) (by assumption); have tt := g.1; have qq := two_cells tt; have ff := g.2; clear g)
      | (go_at_call 28; with_reducible refine (H1.out _).mono ?_; rintro e ww ⟨rfl, bb⟩; have g := two_step (k := w.heap.size) (a := ⟨ty, mode, nlink, uid, gid, size, id, gen, change, time⟩) (c := ⟨cl, seq, cu, cg⟩) (w := w) bb (by assumption) (by assumption); have tt := g.1; have qq := two_cells tt; have ff := g.2; clear g)
      | (go_at_call 28; with_reducible refine (H4.out _).mono ?_; rintro e ww ⟨rfl, bb⟩; have g := two_step (k := w.heap.size) (a := ⟨ty, mode, nlink, uid, gid, size, id, gen, change, time⟩) (c := ⟨cl, seq, cu, cg⟩) (w := w) bb (by assumption) (by assumption); have tt := g.1; have qq := two_cells tt; have ff := g.2; clear g)
      | (go_at_call 27; with_reducible refine (pknown_any _).mono ?_; rintro e ww ⟨rfl, bb⟩; have g := two_step (k := w.heap.size) (a := ⟨ty, mode, nlink, uid, gid, size, id, gen, change, time⟩) (c := ⟨cl, seq, cu, cg⟩) (w := w) bb (by assumption) (by assumption); have tt := g.1; have qq := two_cells tt; have ff := g.2; clear g))
  all_goals go_wp2
  all_goals go_ret
  all_goals exact ⟨rfl, by assumption⟩

set_option maxRecDepth 100000 in
theorem lifted (os : Os) (started : os.Started) (H : Type) (enc : TypeId × Value → H) :
    ReturnsInHanded {} Try.checked os 6 .any (Rows.permAccessSpec.pre6 enc Try.prog Try.f6 Rows.permAccessRow.domain false) (Rows.permAccessSpec.post enc Try.prog Try.f6 false true false false) := by
  refine returnsInHanded_of_change (C := Try.checked) own started (by kernel_rfl) Try.func6
    (ChangeSpec.witness6 (enc := enc) (C := Try.checked) false ⟨#[], #[.agg #[.int .i64 0, .int .i64 0, .int .i64 0, .int .i64 0, .int .i64 0, .int .i64 0, .int .i64 0, .int .i64 0, .int .i64 0, .int .i64 0], .agg #[.int .i64 0, .int .i64 0, .int .i64 0, .int .i64 0], .int .i64 0, .int .i64 0], []⟩ 8 (by kernel_rfl) (by kernel_rfl) (by kernel_rfl) (by kernel_rfl)) ?_
  intro W base args ds gs before hval0 hW hcnd _
  have hval : ∀ (j : Nat) t v, Try.f6.params[j]? = some t → args[j]? = some v → Value.okWide Try.prog W .any base t v := hval0
  have hW' := hW
  obtain ⟨p, q, hA0, hV, rfl, hfz, hnd⟩ := hW
  have hA : DataW.TrodAll enc Try.prog W 0 (fun _ => true) true Try.f6.params.toList args.toList ds p := hA0
  rw [Try.params6] at hA hval
  obtain ⟨v0, vs0, d0, ds0, p0, q0, hargs, rfl, rfl, h0, r0⟩ := trodAll_cons hA
  obtain ⟨v1, vs1, d1, ds1, p1, q1, rfl, rfl, rfl, h1, r1⟩ := trodAll_cons r0
  obtain ⟨v2, vs2, d2, ds2, p2, q2, rfl, rfl, rfl, h2, r2⟩ := trodAll_cons r1
  obtain ⟨v3, vs3, d3, ds3, p3, q3, rfl, rfl, rfl, h3, r3⟩ := trodAll_cons r2
  obtain ⟨rfl, rfl, rfl⟩ := trodAll_nil r3
  obtain rfl : args = #[v0, v1, v2, v3] := by cases args; simp_all
  have post : ∀ W', Below W.heap.size W W' → Rows.permAccessSpec.post enc Try.prog Try.f6 false true false false W #[v0, v1, v2, v3] (.bool true) W' := fun W' hg =>
    law_post laidOut (by rw [Try.params6]; decide +kernel) rfl Try.underlying4 rfl hW' rfl hg
  have done : ∀ (e : Ending) W', (e = .returned (.bool true) ∧ Below W.heap.size W W') → ∃ v, e = .returned v ∧ Rows.permAccessSpec.post enc Try.prog Try.f6 false true false false W #[v0, v1, v2, v3] v W' := fun e W' ⟨he, hg⟩ => ⟨_, he, post W' hg⟩
  clear post
  obtain ⟨a, rfl, rfl, rfl, ha⟩ := open_attr (hval 0 40 v0 rfl rfl) h0
  obtain ⟨c, rfl, rfl, rfl, hc⟩ := open_cred (hval 1 44 v1 rfl rfl) h1
  obtain ⟨n, rfl, rfl, rfl, hn⟩ := open_int Try.underlying3 (hval 2 3 v2 rfl rfl) h2
  obtain ⟨m, rfl, rfl, rfl, hm⟩ := open_int Try.underlying3 (hval 3 3 v3 rfl rfl) h3
  exact (walk a c n m W).mono done


theorem over : Rows.permAccessRow.holds Try.pinned (OpenSpec.ofChange Rows.permAccessSpec) :=
  OpenClaim.holds_of_wide 6 Try.f6 rfl rfl rfl rfl rfl rfl rfl ⟨rfl, rfl, rfl, rfl, rfl⟩ rfl rfl rfl rfl rfl (by kernel_rfl) Try.func6 (by kernel_rfl)
    (of_decide_eq_true (by kernel_rfl)) (by unfold Func.isWrapper; first | (rw [if_pos (by decide +kernel)]; kernel_rfl) | (rw [if_neg (by decide +kernel)]; exact ⟨rfl, rfl⟩))
    (fun os started H enc _ => lifted os started H enc)

theorem proved : Rows.PermAccessSaid := over

end Go.Proofs.Ytinhdabfiahjpaa.permAccess
