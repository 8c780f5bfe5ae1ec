/- Changes: held against each other; the reference's Same. -/
import Derived.Test.YtfobknppdjiniaaVb
import Derived.Test.YtfobknppdjiniaaEq
import Derived.Deep.QuietTactic
import Derived.BigQuiet
import Derived.Handy
import Derived.Deep.DeepMust
namespace Go.Proofs.Ytfobknppdjiniaa
open Go.Joins Go.ChangeShapes Go.WideShapes Go.RowKit Go.Deep

theorem wpQuiet_load_mid {P : Program} {ops : Array Oper} {C : World → Prop} {Q : Act → Prop} {o : Oper} {rest : List Oper} {a : Act} (hw : Region.wanted o (yielded ops a.tmps) = true) (ty : TypeId) (x : Operand) (ho : o.op = .load ty x)
    (b n : Nat) (hx : a.eval x = .pointer (some ⟨b, n, none⟩)) (cs : List Value) (d : TypeDesc) (hS : ∀ w, C w → w.rangeAt b n cs) (hu : P.underlying ty = some d) (hd : d.isRow = true) (hi : (P.info? ty).map (·.size) = some cs.length)
    (h : wpQuiet P ops C Q rest (a.put o.dst (.agg cs.toArray))) : wpQuiet P ops C Q (o :: rest) a := by
  unfold wpQuiet
  rw [if_pos hw]
  refine ⟨.agg cs.toArray, fun w hC => ?_, h⟩
  unfold Oper.quietAt execOp
  simp only [ho, hx, Instr.loadAt, Instr.sureAddr, Sem.run_bind, Sem.run_pure, Result.andThen_ok, run_loadVar_mid w b n ty cs d (hS w hC) hu hd hi]
  exact ⟨rfl, rfl⟩

set_option maxRecDepth 100000 in
theorem eq_at (a b : Pa) (d : Nat) (w : World) : (Op.equalIn (d + 2) 37 (.agg a.vs.toArray) (.agg b.vs.toArray)).run Try.prog w = .ok (decide (a = b)) w := by
  have hS : Try.prog.underlying 37 = some (.struct (Try.prog.fieldsOf 37)) := by kernel_rfl
  have hp : Try.prog.stoodInHeld 37 = false := by kernel_rfl
  rw [run_equalIn_struct w (d + 1) 37 _ _ hS hp]
  simp only [Program.fieldsOf, Try.underlying37]
  refine (eqFields_cons (by rfl) (by kernel_rfl) (by kernel_rfl) (eq_int a.ty b.ty d w) (eqFields_cons (by rfl) (by kernel_rfl) (by kernel_rfl) (eq_int a.mode b.mode d w) (eqFields_cons (by rfl) (by kernel_rfl) (by kernel_rfl) (eq_int a.nlink b.nlink d w) (eqFields_cons (by rfl) (by kernel_rfl) (by kernel_rfl) (eq_int a.uid b.uid d w) (eqFields_cons (by rfl) (by kernel_rfl) (by kernel_rfl) (eq_int a.gid b.gid d w) (eqFields_cons (by rfl) (by kernel_rfl) (by kernel_rfl) (eq_int a.size b.size d w) (eqFields_cons (by rfl) (by kernel_rfl) (by kernel_rfl) (eq_int a.id b.id d w) (eqFields_cons (by rfl) (by kernel_rfl) (by kernel_rfl) (eq_int a.gen b.gen d w) (eqFields_cons (by rfl) (by kernel_rfl) (by kernel_rfl) (eq_int a.change b.change d w) (eqFields_cons (by rfl) (by kernel_rfl) (by kernel_rfl) (eq_int a.time b.time d w) eqFields_nil)))))))))).trans ?_
  congr 1
  obtain ⟨a0, a1, a2, a3, a4, a5, a6, a7, a8, a9⟩ := a
  obtain ⟨b0, b1, b2, b3, b4, b5, b6, b7, b8, b9⟩ := b
  rw [Bool.eq_iff_iff]
  simp only [Bool.and_eq_true, decide_eq_true_eq, Pa.mk.injEq, and_true]
set_option maxRecDepth 100000 in
theorem eq_ch (a b : Ch) (d : Nat) (w : World) : (Op.equalIn (d + 3) 39 (.agg a.vs.toArray) (.agg b.vs.toArray)).run Try.prog w = .ok (decide (a = b)) w := by
  have hS : Try.prog.underlying 39 = some (.struct (Try.prog.fieldsOf 39)) := by kernel_rfl
  have hp : Try.prog.stoodInHeld 39 = false := by kernel_rfl
  rw [run_equalIn_struct w (d + 2) 39 _ _ hS hp]
  simp only [Program.fieldsOf, Try.underlying39]
  refine (eqFields_cons (by rfl) (by kernel_rfl) (by kernel_rfl) (eq_int a.kind b.kind (d + 1) w) (eqFields_cons (by rfl) (by kernel_rfl) (by kernel_rfl) (eq_int a.epoch b.epoch (d + 1) w) (eqFields_cons (by rfl) (by kernel_rfl) (by kernel_rfl) (eq_int a.serial b.serial (d + 1) w) (eqFields_cons (by rfl) (by kernel_rfl) (by kernel_rfl) (eq_str a.up b.up (d + 1) w) (eqFields_cons (by rfl) (by kernel_rfl) (by kernel_rfl) (eq_str a.name b.name (d + 1) w) (eqFields_cons (by rfl) (by kernel_rfl) (by kernel_rfl) (eq_str a.child b.child (d + 1) w) (eqFields_cons (by rfl) (by kernel_rfl) (by kernel_rfl) (eq_at a.attr b.attr d w) (eqFields_cons (by rfl) (by kernel_rfl) (by kernel_rfl) (eq_int a.no b.no (d + 1) w) (eqFields_cons (by rfl) (by kernel_rfl) (by kernel_rfl) (eq_int a.slot b.slot (d + 1) w) eqFields_nil))))))))).trans ?_
  congr 1
  obtain ⟨a0, a1, a2, a3, a4, a5, a6, a7, a8⟩ := a
  obtain ⟨b0, b1, b2, b3, b4, b5, b6, b7, b8⟩ := b
  rw [Bool.eq_iff_iff]
  simp only [Bool.and_eq_true, decide_eq_true_eq, Ch.mk.injEq, and_true]
set_option maxRecDepth 100000 in
theorem run_ne_ch (a b : Ch) (w : World) : (binOp .neq 39 (.agg a.vs.toArray) (.agg b.vs.toArray)).run Try.prog w = .ok (.bool (!decide (a = b))) w := by
  rw [run_neq_struct, show (10000 : Nat) = 9997 + 3 from rfl, eq_ch a b 9997 w]
  rfl
set_option maxRecDepth 100000 in
set_option maxHeartbeats 1000000 in
theorem rxSame_any {B B2 : Nat} (va vb : Value) (xs ys : List Ch) (w : World) (ha : RowsAt B 18 Ch.vs va xs w) (hb : RowsAt B2 18 Ch.vs vb ys w) :
    Calls Try.prog 5 #[va, vb] w fun e w' => e = .returned (.bool (decide (xs = ys))) ∧ Below w.heap.size w w' := by
  obtain ⟨ao, ac, ab, ai, rfl, hal, hao, hac⟩ := ha
  obtain ⟨bo, bc, bb, bi, rfl, hbl, hbo, hbc⟩ := hb
  by_cases hl : xs.length = ys.length
  · obtain ⟨n, hn⟩ : ∃ n, n = xs.length := ⟨_, rfl⟩
    have hm : ys.length = n := by omega
    have HD := Lib.hid (show xs = ys ↔ ∀ i, i < n → xs[i]? = ys[i]? from ⟨fun h i _ => by rw [h], fun h => List.ext_getElem? fun i => by
      by_cases hi : i < n
      · exact h i hi
      · rw [List.getElem?_eq_none (by omega), List.getElem?_eq_none (by omega)]⟩)
    have HA := Lib.hid (show ∀ i, i < n → ∃ x, xs[i]? = some x ∧ ao = some ⟨ab, ai, none⟩ ∧ w.rangeAt ab (ai + i * 18) x.vs from fun i hi => ⟨xs[i]'(by omega), List.getElem?_eq_getElem _, (hao (by omega)).1, hac i _ (List.getElem?_eq_getElem _)⟩)
    have HB := Lib.hid (show ∀ i, i < n → ∃ x, ys[i]? = some x ∧ bo = some ⟨bb, bi, none⟩ ∧ w.rangeAt bb (bi + i * 18) x.vs from fun i hi => ⟨ys[i]'(by omega), List.getElem?_eq_getElem _, (hbo (by omega)).1, hbc i _ (List.getElem?_eq_getElem _)⟩)
    rw [hm, ← hn]
    obtain ⟨d, hd⟩ : ∃ d, d = decide (xs = ys) := ⟨_, rfl⟩
    rw [← hd]
    have HE := Lib.hid hd
    have hnn : n ≤ 9223372036854775807 := by omega
    clear hd hal hao hac hbl hbo hbc hl hn hm
    go_enter Try.func5, Try.ntmps5
    go_wp2_with fail
    go_loopw [5] (fun v wr => ∃ i q : Nat, i ≤ n ∧ v = .int .i64 i ∧ (∀ j, j < i → xs[j]? = ys[j]?) ∧ wr = w.drewN q) (fun v _ => n - (intOf v).toNat)
    case atStart => exact ⟨0, 0, Nat.zero_le _, rfl, fun j h => absurd h (Nat.not_lt_zero _), rfl⟩
    case round =>
      obtain ⟨i, q, hi, rfl, heq, rfl⟩ := hrel
      have HQ := Lib.hid heq
      clear heq
      by_cases hlt : i < n
      · obtain ⟨x, hx, rfl, cx⟩ := HA.out i hlt
        obtain ⟨y, hy, rfl, cy⟩ := HB.out i hlt
        have hb0 : (0 : Int) ≤ (i : Int) := by omega
        have hb1 : (i : Int) < (n : Int) := by omega
        have hne := fun w => run_ne_ch x y w
        obtain ⟨r, hr⟩ : ∃ r, r = decide (x = y) := ⟨_, rfl⟩
        rw [← hr] at hne
        obtain ⟨ca, hca⟩ : ∃ ca, ca = x.vs.toArray := ⟨_, rfl⟩
        obtain ⟨cb, hcb⟩ : ∃ cb, cb = y.vs.toArray := ⟨_, rfl⟩
        rw [← hca, ← hcb] at hne
        have cx : w.rangeAt ab (ai + i * 18) ca.toList := by rw [hca]; exact cx
        have cy : w.rangeAt bb (bi + i * 18) cb.toList := by rw [hcb]; exact cy
        have HX := Lib.hid (And.intro hx (And.intro hy (And.intro hr (And.intro hca hcb))))
        have CX := Lib.hid cx
        have CY := Lib.hid cy
        clear hx hy hr hca hcb cx cy
        go_wp2_with fail
        refine wp_region_quiet_lit (by kernel_rfl) (by kernel_rfl) ?_
        quiet_step (fail)
        quiet_step (fail)
        quiet_step (fail)
        refine wpQuiet_load_mid (by rfl) 39 (.tmp 19) rfl ab (ai + i * 18) (by simp [Act.eval]) ca.toList _ (fun w' hw' => by obtain ⟨m, rfl⟩ := hw'; exact CX.out) Try.underlying39 rfl (by rw [HX.out.2.2.2.1]; kernel_rfl) ?_
        quiet_step (fail)
        quiet_step (fail)
        quiet_step (fail)
        refine wpQuiet_load_mid (by rfl) 39 (.tmp 23) rfl bb (bi + i * 18) (by simp [Act.eval]) cb.toList _ (fun w' hw' => by obtain ⟨m, rfl⟩ := hw'; exact CY.out) Try.underlying39 rfl (by rw [HX.out.2.2.2.2]; kernel_rfl) ?_
        quiet_step (fail)
        refine wpQuiet_nil ?_
        intro _ hw'
        obtain ⟨nq, hw''⟩ := hw'
        subst hw''
        cases r with
        | true =>
          go_wp2_with fail
          go_roundw
          case rel =>
            refine ⟨i + 1, _, by omega, by go_num, ?_, rfl⟩
            intro j hj
            by_cases hji : j = i
            · subst hji
              rw [HX.out.1, HX.out.2.1, of_decide_eq_true HX.out.2.2.1.symm]
            · exact HQ.out j (by omega)
          case measure => simp [intOf]; omega
        | false =>
          go_wp2_with fail
          go_ret
          refine ⟨?_, below_drewN (below_drewN (Below.refl _ _) _) _⟩
          have : d = false := by
            rw [HE.out]
            refine decide_eq_false fun h => of_decide_eq_false HX.out.2.2.1.symm ?_
            have h1 := HD.out.1 h i hlt
            rw [HX.out.1, HX.out.2.1] at h1
            exact Option.some.inj h1
          rw [this]; rfl
      · obtain rfl : i = n := by omega
        go_wp2_with fail
        go_ret
        refine ⟨?_, below_drewN (Below.refl _ _) _⟩
        have : d = true := by rw [HE.out]; exact decide_eq_true (HD.out.2 HQ.out)
        rw [this]; rfl
  · have hlb : (((xs.length : Int)) != (ys.length : Int)) = true := by rw [bne_iff_ne]; omega
    have hne : decide (xs = ys) = false := decide_eq_false fun h => hl (by rw [h])
    rw [hne]
    clear hne hao hac hbo hbc
    go_enter Try.func5, Try.ntmps5
    go_wp2_with fail
    go_ret
    exact ⟨rfl, Below.refl _ _⟩

end Go.Proofs.Ytfobknppdjiniaa
