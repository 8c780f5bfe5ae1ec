/- Lemmas for the laws of index. -/
import Derived.Test.YtngfknplljedeaaGreatZr10
import Derived.Test.YtngfknplljedeaaGreatZrHi
namespace Go.Proofs.YtngfknplljedeaaGreat
open Go.Joins Go.ChangeShapes Go.WideShapes Go.RowKit Go.Deep
theorem wpQuiet_load_mid {P : Program} {ops : Array Oper} {C : World → Prop} {Q : Act → Prop} {o : Oper} {rest : List Oper} {a : Act} (hw : Region.wanted o (yielded ops a.tmps) = true) (ty : TypeId) (x : Operand) (ho : o.op = .load ty x)
 (b n : Nat) (hx : a.eval x = .pointer (some ⟨b, n, none⟩)) (cs : List Value) (d : TypeDesc) (hS : ∀ w, C w → w.rangeAt b n cs) (hu : P.underlying ty = some d) (hd : d.isRow = true) (hi : (P.info? ty).map (·.size) = some cs.length)
 (h : wpQuiet P ops C Q rest (a.put o.dst (.agg cs.toArray))) : wpQuiet P ops C Q (o :: rest) a := by
 unfold wpQuiet
 rw [if_pos hw]
 refine ⟨.agg cs.toArray, fun w hC => ?_, h⟩
 unfold Oper.quietAt execOp
 simp only [ho, hx, Instr.loadAt, Instr.sureAddr, Sem.run_bind, Sem.run_pure, Result.andThen_ok, run_loadVar_mid w b n ty cs d (hS w hC) hu hd hi]
 exact ⟨rfl, rfl⟩
set_option maxRecDepth 100000 in
set_option maxHeartbeats 1000000 in
theorem rxSame_any {B B2 : Nat} (va vb : Value) (xs ys : List Ch) (w : World) (ha : RowsAt B 18 Ch.vs va xs w) (hb : RowsAt B2 18 Ch.vs vb ys w) :
 Calls Tryz.prog 55 #[va, vb] w fun e w' => e = .returned (.bool (decide (xs = ys))) ∧ Below w.heap.size w w' := by
 obtain ⟨ao, ac, ab, ai, rfl, hal, hao, hac⟩ := ha
 obtain ⟨bo, bc, bb, bi, rfl, hbl, hbo, hbc⟩ := hb
 by_cases hl : xs.length = ys.length
 · obtain ⟨n, hn⟩ : ∃ n, n = xs.length := ⟨_, rfl⟩
   have hm : ys.length = n := by omega
   have HD := hI (show xs = ys ↔ ∀ i, i < n → xs[i]? = ys[i]? from ⟨fun h i _ => by rw [h], fun h => List.ext_getElem? fun i => by
    by_cases hi : i < n
    · exact h i hi
    · rw [List.getElem?_eq_none (by omega), List.getElem?_eq_none (by omega)]⟩)
   have HA := hI (show ∀ i, i < n → ∃ x, xs[i]? = some x ∧ ao = some ⟨ab, ai, none⟩ ∧ w.rangeAt ab (ai + i * 18) x.vs from fun i hi => ⟨xs[i]'(by omega), List.getElem?_eq_getElem _, (hao (by omega)).1, hac i _ (List.getElem?_eq_getElem _)⟩)
   have HB := hI (show ∀ i, i < n → ∃ x, ys[i]? = some x ∧ bo = some ⟨bb, bi, none⟩ ∧ w.rangeAt bb (bi + i * 18) x.vs from fun i hi => ⟨ys[i]'(by omega), List.getElem?_eq_getElem _, (hbo (by omega)).1, hbc i _ (List.getElem?_eq_getElem _)⟩)
   rw [hm, ← hn]
   obtain ⟨d, hd⟩ : ∃ d, d = decide (xs = ys) := ⟨_, rfl⟩
   rw [← hd]
   have HE := hI hd
   have hnn : n ≤ 9223372036854775807 := by omega
   clear hd hal hao hac hbl hbo hbc hl hn hm
   go_enter Tryz.func55, Tryz.ntmps55
   go_wp2_with fail
   go_loopw [5] (fun v wr => ∃ i q : Nat, i ≤ n ∧ v = .int .i64 i ∧ (∀ j, j < i → xs[j]? = ys[j]?) ∧ wr = w.drewN q) (fun v _ => n - (intOf v).toNat)
   case atStart => exact ⟨0, 0, Nat.zero_le _, rfl, fun j h => absurd h (Nat.not_lt_zero _), rfl⟩
   case round =>
    obtain ⟨i, q, hi, rfl, heq, rfl⟩ := hrel
    have HQ := hI heq
    clear heq
    by_cases hlt : i < n
    · obtain ⟨x, hx, rfl, cx⟩ := HA.out i hlt
      obtain ⟨y, hy, rfl, cy⟩ := HB.out i hlt
      have hb0 : (0 : Int) ≤ (i : Int) := by omega
      have hb1 : (i : Int) < (n : Int) := by omega
      have hne := fun w => run_ne_ch x y w
      obtain ⟨r, hr⟩ : ∃ r, r = decide (x = y) := ⟨_, rfl⟩
      rw [← hr] at hne
      obtain ⟨ca, hca⟩ : ∃ ca, ca = x.vs.toArray := ⟨_, rfl⟩
      obtain ⟨cb, hcb⟩ : ∃ cb, cb = y.vs.toArray := ⟨_, rfl⟩
      rw [← hca, ← hcb] at hne
      have cx : w.rangeAt ab (ai + i * 18) ca.toList := by rw [hca]; exact cx
      have cy : w.rangeAt bb (bi + i * 18) cb.toList := by rw [hcb]; exact cy
      have HX := hI (And.intro hx (And.intro hy (And.intro hr (And.intro hca hcb))))
      have CX := hI cx
      have CY := hI cy
      clear hx hy hr hca hcb cx cy
      go_wp2_with fail
      refine wp_region_quiet_lit (by kernel_rfl) (by kernel_rfl) ?_
      quiet_step (fail)
      quiet_step (fail)
      quiet_step (fail)
      refine wpQuiet_load_mid (by rfl) 40 (.tmp 19) rfl ab (ai + i * 18) (by simp [Act.eval]) ca.toList _ (fun w' hw' => by obtain ⟨m, rfl⟩ := hw'; exact CX.out) Tryz.underlying40 rfl (by rw [HX.out.2.2.2.1]; kernel_rfl) ?_
      quiet_step (fail)
      quiet_step (fail)
      quiet_step (fail)
      refine wpQuiet_load_mid (by rfl) 40 (.tmp 23) rfl bb (bi + i * 18) (by simp [Act.eval]) cb.toList _ (fun w' hw' => by obtain ⟨m, rfl⟩ := hw'; exact CY.out) Tryz.underlying40 rfl (by rw [HX.out.2.2.2.2]; kernel_rfl) ?_
      quiet_step (fail)
      refine wpQuiet_nil ?_
      intro _ hw'
      obtain ⟨nq, hw''⟩ := hw'
      subst hw''
      cases r with
      | true =>
       go_wp2_with fail
       go_roundw
       case rel =>
        refine ⟨i + 1, _, by omega, by go_num, ?_, rfl⟩
        intro j hj
        by_cases hji : j = i
        · subst hji
          rw [HX.out.1, HX.out.2.1, of_decide_eq_true HX.out.2.2.1.symm]
        · exact HQ.out j (by omega)
       case measure => simp [intOf]; omega
      | false =>
       go_wp2_with fail
       go_ret
       refine ⟨?_, below_drewN (below_drewN (Below.refl _ _) _) _⟩
       have : d = false := by
        rw [HE.out]
        refine decide_eq_false fun h => of_decide_eq_false HX.out.2.2.1.symm ?_
        have h1 := HD.out.1 h i hlt
        rw [HX.out.1, HX.out.2.1] at h1
        exact Option.some.inj h1
       rw [this]; rfl
    · obtain rfl : i = n := by omega
      go_wp2_with fail
      go_ret
      refine ⟨?_, below_drewN (Below.refl _ _) _⟩
      have : d = true := by rw [HE.out]; exact decide_eq_true (HD.out.2 HQ.out)
      rw [this]; rfl
 · have hlb : (((xs.length : Int)) != (ys.length : Int)) = true := by rw [bne_iff_ne]; omega
   have hne : decide (xs = ys) = false := decide_eq_false fun h => hl (by rw [h])
   rw [hne]
   clear hne hao hac hbo hbc
   go_enter Tryz.func55, Tryz.ntmps55
   go_wp2_with fail
   go_ret
   exact ⟨rfl, Below.refl _ _⟩
end Go.Proofs.YtngfknplljedeaaGreat
