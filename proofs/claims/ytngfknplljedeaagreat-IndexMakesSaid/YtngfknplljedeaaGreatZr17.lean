/- Lemmas for the laws of index. -/
import Derived.Test.YtngfknplljedeaaGreatZr16
import Derived.Test.YtngfknplljedeaaGreatZrHi
namespace Go.Proofs.YtngfknplljedeaaGreat
open Go.RowKit
theorem CA.changes_length (c : CA) : c.changes.length = c.helds.length + c.files.length + c.names.length + c.blocks.length := by simp [CA.changes]; omega
end Go.Proofs.YtngfknplljedeaaGreat
namespace Go.Proofs.YtngfknplljedeaaGreat
open Go.Joins Go.ChangeShapes Go.WideShapes Go.RowKit Go.Deep
set_option maxRecDepth 100000 in
theorem eq_hd (a b : Hd) (d : Nat) (w : World) : (Op.equalIn (d + 3) 49 (.agg a.vs.toArray) (.agg b.vs.toArray)).run Tryz.prog w = .ok (decide (a = b)) w := by
 have hS : Tryz.prog.underlying 49 = some (.struct (Tryz.prog.fieldsOf 49)) := by kernel_rfl
 have hp : Tryz.prog.stoodInHeld 49 = false := by kernel_rfl
 rw [run_equalIn_struct w (d + 2) 49 _ _ hS hp]
 simp only [Program.fieldsOf, Tryz.underlying49]
 refine (eqFields_cons (by rfl) (by kernel_rfl) (by kernel_rfl) (eq_int a.epoch b.epoch (d + 1) w) (eqFields_cons (by rfl) (by kernel_rfl) (by kernel_rfl) (eq_int a.serial b.serial (d + 1) w) (eqFields_cons (by rfl) (by kernel_rfl) (by kernel_rfl) (eq_str a.up b.up (d + 1) w) eqFields_nil))).trans ?_
 congr 1
 obtain ⟨a0, a1, a2⟩ := a
 obtain ⟨b0, b1, b2⟩ := b
 rw [Bool.eq_iff_iff]
 simp only [Bool.and_eq_true, decide_eq_true_eq, Hd.mk.injEq, and_true]
set_option maxRecDepth 100000 in
theorem run_ne_hd (a b : Hd) (w : World) : (binOp .neq 49 (.agg a.vs.toArray) (.agg b.vs.toArray)).run Tryz.prog w = .ok (.bool (!decide (a = b))) w := by
 rw [run_neq_struct, show (10000 : Nat) = 9997 + 3 from rfl, eq_hd a b 9997 w]
 rfl
set_option maxRecDepth 100000 in
set_option maxHeartbeats 1000000 in
theorem sxEqHeld_any {B B2 : Nat} (va vb : Value) (xs ys : List Hd) (w : World) (ha : RowsAt B 3 Hd.vs va xs w) (hb : RowsAt B2 3 Hd.vs vb ys w) :
 Calls Tryz.prog 70 #[va, vb] w fun e w' => e = .returned (.bool (decide (xs = ys))) ∧ Below w.heap.size w w' := by
 obtain ⟨ao, ac, ab, ai, rfl, hal, hao, hac⟩ := ha
 obtain ⟨bo, bc, bb, bi, rfl, hbl, hbo, hbc⟩ := hb
 by_cases hl : xs.length = ys.length
 · obtain ⟨n, hn⟩ : ∃ n, n = xs.length := ⟨_, rfl⟩
   have hm : ys.length = n := by omega
   have HD := hI (show xs = ys ↔ ∀ i, i < n → xs[i]? = ys[i]? from ⟨fun h i _ => by rw [h], fun h => List.ext_getElem? fun i => by
    by_cases hi : i < n
    · exact h i hi
    · rw [List.getElem?_eq_none (by omega), List.getElem?_eq_none (by omega)]⟩)
   have HA := hI (show ∀ i, i < n → ∃ x, xs[i]? = some x ∧ ao = some ⟨ab, ai, none⟩ ∧ w.rangeAt ab (ai + i * 3) x.vs from fun i hi => ⟨xs[i]'(by omega), List.getElem?_eq_getElem _, (hao (by omega)).1, hac i _ (List.getElem?_eq_getElem _)⟩)
   have HB := hI (show ∀ i, i < n → ∃ x, ys[i]? = some x ∧ bo = some ⟨bb, bi, none⟩ ∧ w.rangeAt bb (bi + i * 3) x.vs from fun i hi => ⟨ys[i]'(by omega), List.getElem?_eq_getElem _, (hbo (by omega)).1, hbc i _ (List.getElem?_eq_getElem _)⟩)
   rw [hm, ← hn]
   obtain ⟨d, hd⟩ : ∃ d, d = decide (xs = ys) := ⟨_, rfl⟩
   rw [← hd]
   have HE := hI hd
   have hnn : n ≤ 9223372036854775807 := by omega
   clear hd hal hao hac hbl hbo hbc hl hn hm
   go_enter Tryz.func70, Tryz.ntmps70
   go_wp2_with fail
   go_loopw [5, 13] (fun _ v wr => ∃ i q : Nat, i ≤ n ∧ v = .int .i64 i ∧ (∀ j, j < i → xs[j]? = ys[j]?) ∧ wr = w.drewN q) (fun _ v _ => n - (intOf v).toNat)
   case atStart => exact ⟨0, 0, Nat.zero_le _, rfl, fun j h => absurd h (Nat.not_lt_zero _), rfl⟩
   case round =>
    obtain ⟨i, q, hi, rfl, heq, rfl⟩ := hrel
    have HQ := hI heq
    clear heq
    by_cases hlt : i < n
    · obtain ⟨x, hx, rfl, cx⟩ := HA.out i hlt
      obtain ⟨y, hy, rfl, cy⟩ := HB.out i hlt
      have hb0 : (0 : Int) ≤ (i : Int) := by omega
      have hb1 : (i : Int) < (n : Int) := by omega
      have hne := fun w => run_ne_hd x y w
      obtain ⟨r, hr⟩ : ∃ r, r = decide (x = y) := ⟨_, rfl⟩
      rw [← hr] at hne
      obtain ⟨ca, hca⟩ : ∃ ca, ca = x.vs.toArray := ⟨_, rfl⟩
      obtain ⟨cb, hcb⟩ : ∃ cb, cb = y.vs.toArray := ⟨_, rfl⟩
      rw [← hca, ← hcb] at hne
      have cx : w.rangeAt ab (ai + i * 3) ca.toList := by rw [hca]; exact cx
      have cy : w.rangeAt bb (bi + i * 3) cb.toList := by rw [hcb]; exact cy
      have HX := hI (And.intro hx (And.intro hy (And.intro hr (And.intro hca hcb))))
      have CX := hI cx
      have CY := hI cy
      clear hx hy hr hca hcb cx cy
      go_wp2_with fail
      refine wp_region_quiet_lit (by kernel_rfl) (by kernel_rfl) ?_
      quiet_step (fail)
      quiet_step (fail)
      quiet_step (fail)
      refine wpQuiet_load_mid (by rfl) 49 (.tmp 18) rfl ab (ai + i * 3) (by simp [Act.eval]) ca.toList _ (fun w' hw' => by obtain ⟨m, rfl⟩ := hw'; exact CX.out) Tryz.underlying49 rfl (by rw [HX.out.2.2.2.1]; kernel_rfl) ?_
      quiet_step (fail)
      quiet_step (fail)
      quiet_step (fail)
      refine wpQuiet_load_mid (by rfl) 49 (.tmp 22) rfl bb (bi + i * 3) (by simp [Act.eval]) cb.toList _ (fun w' hw' => by obtain ⟨m, rfl⟩ := hw'; exact CY.out) Tryz.underlying49 rfl (by rw [HX.out.2.2.2.2]; kernel_rfl) ?_
      quiet_step (fail)
      refine wpQuiet_nil ?_
      intro _ hw'
      obtain ⟨nq, hw''⟩ := hw'
      subst hw''
      cases r with
      | true =>
       go_wp2_with fail
       go_roundw
       case rel =>
        refine ⟨i + 1, _, by omega, by go_num, ?_, rfl⟩
        intro j hj
        by_cases hji : j = i
        · subst hji
          rw [HX.out.1, HX.out.2.1, of_decide_eq_true HX.out.2.2.1.symm]
        · exact HQ.out j (by omega)
       case measure => simp [intOf]; omega
      | false =>
       go_wp2_with fail
       go_ret
       refine ⟨?_, below_drewN (below_drewN (Below.refl _ _) _) _⟩
       have : d = false := by
        rw [HE.out]
        refine decide_eq_false fun h => of_decide_eq_false HX.out.2.2.1.symm ?_
        have h1 := HD.out.1 h i hlt
        rw [HX.out.1, HX.out.2.1] at h1
        exact Option.some.inj h1
       rw [this]; rfl
    · obtain rfl : i = n := by omega
      go_wp2_with fail
      go_ret
      refine ⟨?_, below_drewN (Below.refl _ _) _⟩
      have : d = true := by rw [HE.out]; exact decide_eq_true (HD.out.2 HQ.out)
      rw [this]; rfl
 · have hlb : (((xs.length : Int)) != (ys.length : Int)) = true := by rw [bne_iff_ne]; omega
   have hne : decide (xs = ys) = false := decide_eq_false fun h => hl (by rw [h])
   rw [hne]
   clear hne hao hac hbo hbc
   go_enter Tryz.func70, Tryz.ntmps70
   go_wp2_with fail
   go_ret
   exact ⟨rfl, Below.refl _ _⟩
set_option maxRecDepth 100000 in
theorem eq_cd (a b : Cd) (d : Nat) (w : World) : (Op.equalIn (d + 3) 57 (.agg a.vs.toArray) (.agg b.vs.toArray)).run Tryz.prog w = .ok (decide (a = b)) w := by
 have hS : Tryz.prog.underlying 57 = some (.struct (Tryz.prog.fieldsOf 57)) := by kernel_rfl
 have hp : Tryz.prog.stoodInHeld 57 = false := by kernel_rfl
 rw [run_equalIn_struct w (d + 2) 57 _ _ hS hp]
 simp only [Program.fieldsOf, Tryz.underlying57]
 refine (eqFields_cons (by rfl) (by kernel_rfl) (by kernel_rfl) (eq_str a.up b.up (d + 1) w) (eqFields_cons (by rfl) (by kernel_rfl) (by kernel_rfl) (eq_at a.attr b.attr d w) eqFields_nil)).trans ?_
 congr 1
 obtain ⟨a0, a1⟩ := a
 obtain ⟨b0, b1⟩ := b
 rw [Bool.eq_iff_iff]
 simp only [Bool.and_eq_true, decide_eq_true_eq, Cd.mk.injEq, and_true]
set_option maxRecDepth 100000 in
theorem run_ne_cd (a b : Cd) (w : World) : (binOp .neq 57 (.agg a.vs.toArray) (.agg b.vs.toArray)).run Tryz.prog w = .ok (.bool (!decide (a = b))) w := by
 rw [run_neq_struct, show (10000 : Nat) = 9997 + 3 from rfl, eq_cd a b 9997 w]
 rfl
set_option maxRecDepth 100000 in
set_option maxHeartbeats 1000000 in
theorem sxEqCached_any {B B2 : Nat} (va vb : Value) (xs ys : List Cd) (w : World) (ha : RowsAt B 11 Cd.vs va xs w) (hb : RowsAt B2 11 Cd.vs vb ys w) :
 Calls Tryz.prog 71 #[va, vb] w fun e w' => e = .returned (.bool (decide (xs = ys))) ∧ Below w.heap.size w w' := by
 obtain ⟨ao, ac, ab, ai, rfl, hal, hao, hac⟩ := ha
 obtain ⟨bo, bc, bb, bi, rfl, hbl, hbo, hbc⟩ := hb
 by_cases hl : xs.length = ys.length
 · obtain ⟨n, hn⟩ : ∃ n, n = xs.length := ⟨_, rfl⟩
   have hm : ys.length = n := by omega
   have HD := hI (show xs = ys ↔ ∀ i, i < n → xs[i]? = ys[i]? from ⟨fun h i _ => by rw [h], fun h => List.ext_getElem? fun i => by
    by_cases hi : i < n
    · exact h i hi
    · rw [List.getElem?_eq_none (by omega), List.getElem?_eq_none (by omega)]⟩)
   have HA := hI (show ∀ i, i < n → ∃ x, xs[i]? = some x ∧ ao = some ⟨ab, ai, none⟩ ∧ w.rangeAt ab (ai + i * 11) x.vs from fun i hi => ⟨xs[i]'(by omega), List.getElem?_eq_getElem _, (hao (by omega)).1, hac i _ (List.getElem?_eq_getElem _)⟩)
   have HB := hI (show ∀ i, i < n → ∃ x, ys[i]? = some x ∧ bo = some ⟨bb, bi, none⟩ ∧ w.rangeAt bb (bi + i * 11) x.vs from fun i hi => ⟨ys[i]'(by omega), List.getElem?_eq_getElem _, (hbo (by omega)).1, hbc i _ (List.getElem?_eq_getElem _)⟩)
   rw [hm, ← hn]
   obtain ⟨d, hd⟩ : ∃ d, d = decide (xs = ys) := ⟨_, rfl⟩
   rw [← hd]
   have HE := hI hd
   have hnn : n ≤ 9223372036854775807 := by omega
   clear hd hal hao hac hbl hbo hbc hl hn hm
   go_enter Tryz.func71, Tryz.ntmps71
   go_wp2_with fail
   go_loopw [5, 13] (fun _ v wr => ∃ i q : Nat, i ≤ n ∧ v = .int .i64 i ∧ (∀ j, j < i → xs[j]? = ys[j]?) ∧ wr = w.drewN q) (fun _ v _ => n - (intOf v).toNat)
   case atStart => exact ⟨0, 0, Nat.zero_le _, rfl, fun j h => absurd h (Nat.not_lt_zero _), rfl⟩
   case round =>
    obtain ⟨i, q, hi, rfl, heq, rfl⟩ := hrel
    have HQ := hI heq
    clear heq
    by_cases hlt : i < n
    · obtain ⟨x, hx, rfl, cx⟩ := HA.out i hlt
      obtain ⟨y, hy, rfl, cy⟩ := HB.out i hlt
      have hb0 : (0 : Int) ≤ (i : Int) := by omega
      have hb1 : (i : Int) < (n : Int) := by omega
      have hne := fun w => run_ne_cd x y w
      obtain ⟨r, hr⟩ : ∃ r, r = decide (x = y) := ⟨_, rfl⟩
      rw [← hr] at hne
      obtain ⟨ca, hca⟩ : ∃ ca, ca = x.vs.toArray := ⟨_, rfl⟩
      obtain ⟨cb, hcb⟩ : ∃ cb, cb = y.vs.toArray := ⟨_, rfl⟩
      rw [← hca, ← hcb] at hne
      have cx : w.rangeAt ab (ai + i * 11) ca.toList := by rw [hca]; exact cx
      have cy : w.rangeAt bb (bi + i * 11) cb.toList := by rw [hcb]; exact cy
      have HX := hI (And.intro hx (And.intro hy (And.intro hr (And.intro hca hcb))))
      have CX := hI cx
      have CY := hI cy
      clear hx hy hr hca hcb cx cy
      go_wp2_with fail
      refine wp_region_quiet_lit (by kernel_rfl) (by kernel_rfl) ?_
      quiet_step (fail)
      quiet_step (fail)
      quiet_step (fail)
      refine wpQuiet_load_mid (by rfl) 57 (.tmp 18) rfl ab (ai + i * 11) (by simp [Act.eval]) ca.toList _ (fun w' hw' => by obtain ⟨m, rfl⟩ := hw'; exact CX.out) Tryz.underlying57 rfl (by rw [HX.out.2.2.2.1]; kernel_rfl) ?_
      quiet_step (fail)
      quiet_step (fail)
      quiet_step (fail)
      refine wpQuiet_load_mid (by rfl) 57 (.tmp 22) rfl bb (bi + i * 11) (by simp [Act.eval]) cb.toList _ (fun w' hw' => by obtain ⟨m, rfl⟩ := hw'; exact CY.out) Tryz.underlying57 rfl (by rw [HX.out.2.2.2.2]; kernel_rfl) ?_
      quiet_step (fail)
      refine wpQuiet_nil ?_
      intro _ hw'
      obtain ⟨nq, hw''⟩ := hw'
      subst hw''
      cases r with
      | true =>
       go_wp2_with fail
       go_roundw
       case rel =>
        refine ⟨i + 1, _, by omega, by go_num, ?_, rfl⟩
        intro j hj
        by_cases hji : j = i
        · subst hji
          rw [HX.out.1, HX.out.2.1, of_decide_eq_true HX.out.2.2.1.symm]
        · exact HQ.out j (by omega)
       case measure => simp [intOf]; omega
      | false =>
       go_wp2_with fail
       go_ret
       refine ⟨?_, below_drewN (below_drewN (Below.refl _ _) _) _⟩
       have : d = false := by
        rw [HE.out]
        refine decide_eq_false fun h => of_decide_eq_false HX.out.2.2.1.symm ?_
        have h1 := HD.out.1 h i hlt
        rw [HX.out.1, HX.out.2.1] at h1
        exact Option.some.inj h1
       rw [this]; rfl
    · obtain rfl : i = n := by omega
      go_wp2_with fail
      go_ret
      refine ⟨?_, below_drewN (Below.refl _ _) _⟩
      have : d = true := by rw [HE.out]; exact decide_eq_true (HD.out.2 HQ.out)
      rw [this]; rfl
 · have hlb : (((xs.length : Int)) != (ys.length : Int)) = true := by rw [bne_iff_ne]; omega
   have hne : decide (xs = ys) = false := decide_eq_false fun h => hl (by rw [h])
   rw [hne]
   clear hne hao hac hbo hbc
   go_enter Tryz.func71, Tryz.ntmps71
   go_wp2_with fail
   go_ret
   exact ⟨rfl, Below.refl _ _⟩
set_option maxRecDepth 100000 in
theorem eq_kn (a b : Kn) (d : Nat) (w : World) : (Op.equalIn (d + 3) 61 (.agg a.vs.toArray) (.agg b.vs.toArray)).run Tryz.prog w = .ok (decide (a = b)) w := by
 have hS : Tryz.prog.underlying 61 = some (.struct (Tryz.prog.fieldsOf 61)) := by kernel_rfl
 have hp : Tryz.prog.stoodInHeld 61 = false := by kernel_rfl
 rw [run_equalIn_struct w (d + 2) 61 _ _ hS hp]
 simp only [Program.fieldsOf, Tryz.underlying61]
 refine (eqFields_cons (by rfl) (by kernel_rfl) (by kernel_rfl) (eq_str a.dir b.dir (d + 1) w) (eqFields_cons (by rfl) (by kernel_rfl) (by kernel_rfl) (eq_str a.name b.name (d + 1) w) (eqFields_cons (by rfl) (by kernel_rfl) (by kernel_rfl) (eq_str a.up b.up (d + 1) w) eqFields_nil))).trans ?_
 congr 1
 obtain ⟨a0, a1, a2⟩ := a
 obtain ⟨b0, b1, b2⟩ := b
 rw [Bool.eq_iff_iff]
 simp only [Bool.and_eq_true, decide_eq_true_eq, Kn.mk.injEq, and_true]
set_option maxRecDepth 100000 in
theorem run_ne_kn (a b : Kn) (w : World) : (binOp .neq 61 (.agg a.vs.toArray) (.agg b.vs.toArray)).run Tryz.prog w = .ok (.bool (!decide (a = b))) w := by
 rw [run_neq_struct, show (10000 : Nat) = 9997 + 3 from rfl, eq_kn a b 9997 w]
 rfl
set_option maxRecDepth 100000 in
set_option maxHeartbeats 1000000 in
theorem sxEqKnown_any {B B2 : Nat} (va vb : Value) (xs ys : List Kn) (w : World) (ha : RowsAt B 3 Kn.vs va xs w) (hb : RowsAt B2 3 Kn.vs vb ys w) :
 Calls Tryz.prog 72 #[va, vb] w fun e w' => e = .returned (.bool (decide (xs = ys))) ∧ Below w.heap.size w w' := by
 obtain ⟨ao, ac, ab, ai, rfl, hal, hao, hac⟩ := ha
 obtain ⟨bo, bc, bb, bi, rfl, hbl, hbo, hbc⟩ := hb
 by_cases hl : xs.length = ys.length
 · obtain ⟨n, hn⟩ : ∃ n, n = xs.length := ⟨_, rfl⟩
   have hm : ys.length = n := by omega
   have HD := hI (show xs = ys ↔ ∀ i, i < n → xs[i]? = ys[i]? from ⟨fun h i _ => by rw [h], fun h => List.ext_getElem? fun i => by
    by_cases hi : i < n
    · exact h i hi
    · rw [List.getElem?_eq_none (by omega), List.getElem?_eq_none (by omega)]⟩)
   have HA := hI (show ∀ i, i < n → ∃ x, xs[i]? = some x ∧ ao = some ⟨ab, ai, none⟩ ∧ w.rangeAt ab (ai + i * 3) x.vs from fun i hi => ⟨xs[i]'(by omega), List.getElem?_eq_getElem _, (hao (by omega)).1, hac i _ (List.getElem?_eq_getElem _)⟩)
   have HB := hI (show ∀ i, i < n → ∃ x, ys[i]? = some x ∧ bo = some ⟨bb, bi, none⟩ ∧ w.rangeAt bb (bi + i * 3) x.vs from fun i hi => ⟨ys[i]'(by omega), List.getElem?_eq_getElem _, (hbo (by omega)).1, hbc i _ (List.getElem?_eq_getElem _)⟩)
   rw [hm, ← hn]
   obtain ⟨d, hd⟩ : ∃ d, d = decide (xs = ys) := ⟨_, rfl⟩
   rw [← hd]
   have HE := hI hd
   have hnn : n ≤ 9223372036854775807 := by omega
   clear hd hal hao hac hbl hbo hbc hl hn hm
   go_enter Tryz.func72, Tryz.ntmps72
   go_wp2_with fail
   go_loopw [5, 13] (fun _ v wr => ∃ i q : Nat, i ≤ n ∧ v = .int .i64 i ∧ (∀ j, j < i → xs[j]? = ys[j]?) ∧ wr = w.drewN q) (fun _ v _ => n - (intOf v).toNat)
   case atStart => exact ⟨0, 0, Nat.zero_le _, rfl, fun j h => absurd h (Nat.not_lt_zero _), rfl⟩
   case round =>
    obtain ⟨i, q, hi, rfl, heq, rfl⟩ := hrel
    have HQ := hI heq
    clear heq
    by_cases hlt : i < n
    · obtain ⟨x, hx, rfl, cx⟩ := HA.out i hlt
      obtain ⟨y, hy, rfl, cy⟩ := HB.out i hlt
      have hb0 : (0 : Int) ≤ (i : Int) := by omega
      have hb1 : (i : Int) < (n : Int) := by omega
      have hne := fun w => run_ne_kn x y w
      obtain ⟨r, hr⟩ : ∃ r, r = decide (x = y) := ⟨_, rfl⟩
      rw [← hr] at hne
      obtain ⟨ca, hca⟩ : ∃ ca, ca = x.vs.toArray := ⟨_, rfl⟩
      obtain ⟨cb, hcb⟩ : ∃ cb, cb = y.vs.toArray := ⟨_, rfl⟩
      rw [← hca, ← hcb] at hne
      have cx : w.rangeAt ab (ai + i * 3) ca.toList := by rw [hca]; exact cx
      have cy : w.rangeAt bb (bi + i * 3) cb.toList := by rw [hcb]; exact cy
      have HX := hI (And.intro hx (And.intro hy (And.intro hr (And.intro hca hcb))))
      have CX := hI cx
      have CY := hI cy
      clear hx hy hr hca hcb cx cy
      go_wp2_with fail
      refine wp_region_quiet_lit (by kernel_rfl) (by kernel_rfl) ?_
      quiet_step (fail)
      quiet_step (fail)
      quiet_step (fail)
      refine wpQuiet_load_mid (by rfl) 61 (.tmp 18) rfl ab (ai + i * 3) (by simp [Act.eval]) ca.toList _ (fun w' hw' => by obtain ⟨m, rfl⟩ := hw'; exact CX.out) Tryz.underlying61 rfl (by rw [HX.out.2.2.2.1]; kernel_rfl) ?_
      quiet_step (fail)
      quiet_step (fail)
      quiet_step (fail)
      refine wpQuiet_load_mid (by rfl) 61 (.tmp 22) rfl bb (bi + i * 3) (by simp [Act.eval]) cb.toList _ (fun w' hw' => by obtain ⟨m, rfl⟩ := hw'; exact CY.out) Tryz.underlying61 rfl (by rw [HX.out.2.2.2.2]; kernel_rfl) ?_
      quiet_step (fail)
      refine wpQuiet_nil ?_
      intro _ hw'
      obtain ⟨nq, hw''⟩ := hw'
      subst hw''
      cases r with
      | true =>
       go_wp2_with fail
       go_roundw
       case rel =>
        refine ⟨i + 1, _, by omega, by go_num, ?_, rfl⟩
        intro j hj
        by_cases hji : j = i
        · subst hji
          rw [HX.out.1, HX.out.2.1, of_decide_eq_true HX.out.2.2.1.symm]
        · exact HQ.out j (by omega)
       case measure => simp [intOf]; omega
      | false =>
       go_wp2_with fail
       go_ret
       refine ⟨?_, below_drewN (below_drewN (Below.refl _ _) _) _⟩
       have : d = false := by
        rw [HE.out]
        refine decide_eq_false fun h => of_decide_eq_false HX.out.2.2.1.symm ?_
        have h1 := HD.out.1 h i hlt
        rw [HX.out.1, HX.out.2.1] at h1
        exact Option.some.inj h1
       rw [this]; rfl
    · obtain rfl : i = n := by omega
      go_wp2_with fail
      go_ret
      refine ⟨?_, below_drewN (Below.refl _ _) _⟩
      have : d = true := by rw [HE.out]; exact decide_eq_true (HD.out.2 HQ.out)
      rw [this]; rfl
 · have hlb : (((xs.length : Int)) != (ys.length : Int)) = true := by rw [bne_iff_ne]; omega
   have hne : decide (xs = ys) = false := decide_eq_false fun h => hl (by rw [h])
   rw [hne]
   clear hne hao hac hbo hbc
   go_enter Tryz.func72, Tryz.ntmps72
   go_wp2_with fail
   go_ret
   exact ⟨rfl, Below.refl _ _⟩
set_option maxRecDepth 100000 in
theorem eq_bk (a b : Bk) (d : Nat) (w : World) : (Op.equalIn (d + 3) 66 (.agg a.vs.toArray) (.agg b.vs.toArray)).run Tryz.prog w = .ok (decide (a = b)) w := by
 have hS : Tryz.prog.underlying 66 = some (.struct (Tryz.prog.fieldsOf 66)) := by kernel_rfl
 have hp : Tryz.prog.stoodInHeld 66 = false := by kernel_rfl
 rw [run_equalIn_struct w (d + 2) 66 _ _ hS hp]
 simp only [Program.fieldsOf, Tryz.underlying66]
 refine (eqFields_cons (by rfl) (by kernel_rfl) (by kernel_rfl) (eq_str a.up b.up (d + 1) w) (eqFields_cons (by rfl) (by kernel_rfl) (by kernel_rfl) (eq_int a.no b.no (d + 1) w) (eqFields_cons (by rfl) (by kernel_rfl) (by kernel_rfl) (eq_int a.slot b.slot (d + 1) w) eqFields_nil))).trans ?_
 congr 1
 obtain ⟨a0, a1, a2⟩ := a
 obtain ⟨b0, b1, b2⟩ := b
 rw [Bool.eq_iff_iff]
 simp only [Bool.and_eq_true, decide_eq_true_eq, Bk.mk.injEq, and_true]
set_option maxRecDepth 100000 in
theorem run_ne_bk (a b : Bk) (w : World) : (binOp .neq 66 (.agg a.vs.toArray) (.agg b.vs.toArray)).run Tryz.prog w = .ok (.bool (!decide (a = b))) w := by
 rw [run_neq_struct, show (10000 : Nat) = 9997 + 3 from rfl, eq_bk a b 9997 w]
 rfl
set_option maxRecDepth 100000 in
set_option maxHeartbeats 1000000 in
theorem sxEqPlaced_any {B B2 : Nat} (va vb : Value) (xs ys : List Bk) (w : World) (ha : RowsAt B 3 Bk.vs va xs w) (hb : RowsAt B2 3 Bk.vs vb ys w) :
 Calls Tryz.prog 73 #[va, vb] w fun e w' => e = .returned (.bool (decide (xs = ys))) ∧ Below w.heap.size w w' := by
 obtain ⟨ao, ac, ab, ai, rfl, hal, hao, hac⟩ := ha
 obtain ⟨bo, bc, bb, bi, rfl, hbl, hbo, hbc⟩ := hb
 by_cases hl : xs.length = ys.length
 · obtain ⟨n, hn⟩ : ∃ n, n = xs.length := ⟨_, rfl⟩
   have hm : ys.length = n := by omega
   have HD := hI (show xs = ys ↔ ∀ i, i < n → xs[i]? = ys[i]? from ⟨fun h i _ => by rw [h], fun h => List.ext_getElem? fun i => by
    by_cases hi : i < n
    · exact h i hi
    · rw [List.getElem?_eq_none (by omega), List.getElem?_eq_none (by omega)]⟩)
   have HA := hI (show ∀ i, i < n → ∃ x, xs[i]? = some x ∧ ao = some ⟨ab, ai, none⟩ ∧ w.rangeAt ab (ai + i * 3) x.vs from fun i hi => ⟨xs[i]'(by omega), List.getElem?_eq_getElem _, (hao (by omega)).1, hac i _ (List.getElem?_eq_getElem _)⟩)
   have HB := hI (show ∀ i, i < n → ∃ x, ys[i]? = some x ∧ bo = some ⟨bb, bi, none⟩ ∧ w.rangeAt bb (bi + i * 3) x.vs from fun i hi => ⟨ys[i]'(by omega), List.getElem?_eq_getElem _, (hbo (by omega)).1, hbc i _ (List.getElem?_eq_getElem _)⟩)
   rw [hm, ← hn]
   obtain ⟨d, hd⟩ : ∃ d, d = decide (xs = ys) := ⟨_, rfl⟩
   rw [← hd]
   have HE := hI hd
   have hnn : n ≤ 9223372036854775807 := by omega
   clear hd hal hao hac hbl hbo hbc hl hn hm
   go_enter Tryz.func73, Tryz.ntmps73
   go_wp2_with fail
   go_loopw [5, 13] (fun _ v wr => ∃ i q : Nat, i ≤ n ∧ v = .int .i64 i ∧ (∀ j, j < i → xs[j]? = ys[j]?) ∧ wr = w.drewN q) (fun _ v _ => n - (intOf v).toNat)
   case atStart => exact ⟨0, 0, Nat.zero_le _, rfl, fun j h => absurd h (Nat.not_lt_zero _), rfl⟩
   case round =>
    obtain ⟨i, q, hi, rfl, heq, rfl⟩ := hrel
    have HQ := hI heq
    clear heq
    by_cases hlt : i < n
    · obtain ⟨x, hx, rfl, cx⟩ := HA.out i hlt
      obtain ⟨y, hy, rfl, cy⟩ := HB.out i hlt
      have hb0 : (0 : Int) ≤ (i : Int) := by omega
      have hb1 : (i : Int) < (n : Int) := by omega
      have hne := fun w => run_ne_bk x y w
      obtain ⟨r, hr⟩ : ∃ r, r = decide (x = y) := ⟨_, rfl⟩
      rw [← hr] at hne
      obtain ⟨ca, hca⟩ : ∃ ca, ca = x.vs.toArray := ⟨_, rfl⟩
      obtain ⟨cb, hcb⟩ : ∃ cb, cb = y.vs.toArray := ⟨_, rfl⟩
      rw [← hca, ← hcb] at hne
      have cx : w.rangeAt ab (ai + i * 3) ca.toList := by rw [hca]; exact cx
      have cy : w.rangeAt bb (bi + i * 3) cb.toList := by rw [hcb]; exact cy
      have HX := hI (And.intro hx (And.intro hy (And.intro hr (And.intro hca hcb))))
      have CX := hI cx
      have CY := hI cy
      clear hx hy hr hca hcb cx cy
      go_wp2_with fail
      refine wp_region_quiet_lit (by kernel_rfl) (by kernel_rfl) ?_
      quiet_step (fail)
      quiet_step (fail)
      quiet_step (fail)
      refine wpQuiet_load_mid (by rfl) 66 (.tmp 18) rfl ab (ai + i * 3) (by simp [Act.eval]) ca.toList _ (fun w' hw' => by obtain ⟨m, rfl⟩ := hw'; exact CX.out) Tryz.underlying66 rfl (by rw [HX.out.2.2.2.1]; kernel_rfl) ?_
      quiet_step (fail)
      quiet_step (fail)
      quiet_step (fail)
      refine wpQuiet_load_mid (by rfl) 66 (.tmp 22) rfl bb (bi + i * 3) (by simp [Act.eval]) cb.toList _ (fun w' hw' => by obtain ⟨m, rfl⟩ := hw'; exact CY.out) Tryz.underlying66 rfl (by rw [HX.out.2.2.2.2]; kernel_rfl) ?_
      quiet_step (fail)
      refine wpQuiet_nil ?_
      intro _ hw'
      obtain ⟨nq, hw''⟩ := hw'
      subst hw''
      cases r with
      | true =>
       go_wp2_with fail
       go_roundw
       case rel =>
        refine ⟨i + 1, _, by omega, by go_num, ?_, rfl⟩
        intro j hj
        by_cases hji : j = i
        · subst hji
          rw [HX.out.1, HX.out.2.1, of_decide_eq_true HX.out.2.2.1.symm]
        · exact HQ.out j (by omega)
       case measure => simp [intOf]; omega
      | false =>
       go_wp2_with fail
       go_ret
       refine ⟨?_, below_drewN (below_drewN (Below.refl _ _) _) _⟩
       have : d = false := by
        rw [HE.out]
        refine decide_eq_false fun h => of_decide_eq_false HX.out.2.2.1.symm ?_
        have h1 := HD.out.1 h i hlt
        rw [HX.out.1, HX.out.2.1] at h1
        exact Option.some.inj h1
       rw [this]; rfl
    · obtain rfl : i = n := by omega
      go_wp2_with fail
      go_ret
      refine ⟨?_, below_drewN (Below.refl _ _) _⟩
      have : d = true := by rw [HE.out]; exact decide_eq_true (HD.out.2 HQ.out)
      rw [this]; rfl
 · have hlb : (((xs.length : Int)) != (ys.length : Int)) = true := by rw [bne_iff_ne]; omega
   have hne : decide (xs = ys) = false := decide_eq_false fun h => hl (by rw [h])
   rw [hne]
   clear hne hao hac hbo hbc
   go_enter Tryz.func73, Tryz.ntmps73
   go_wp2_with fail
   go_ret
   exact ⟨rfl, Below.refl _ _⟩
end Go.Proofs.YtngfknplljedeaaGreat
