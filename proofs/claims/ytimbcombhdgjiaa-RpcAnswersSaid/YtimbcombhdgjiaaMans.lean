/- PROVED HERE: for every message, number and text, the law RpcAnswers returns true: what answers any call has its Xid, and what it is told with. CONDITIONS: none. -/
import Derived.Test.YtimbcombhdgjiaaMq
import Derived.Test.YtimbcombhdgjiaaMra
import Derived.Test.YtimbcombhdgjiaaLaw
import Derived.ChangeMaps5
import Derived.Deep.RegionHeld
namespace Go.Proofs.Ytimbcombhdgjiaa.rpcAnswers
open Go.ChangeShapes Go.WideShapes Go.ChangeAt Go.RowKit
open Go.ChangeMaps (open_string shut_string)

theorem own : ownKnob Try.prog.godebug = none := by kernel_rfl
theorem laidOut : laidOutB Try.prog = true := by kernel_rfl
theorem step_load_rowg {P : Program} {ops : Array Oper} {o : Oper} {a : Act} {w : World} {K : Act → World → Prop} {Q : Exit → Act → World → Prop} {E : Prop} (hw : Region.wanted o (yielded ops a.tmps) = true) (ty : TypeId) (x : Operand) (ho : o.op = .load ty x)
    (g : Nat) (hx : a.eval x = .pointer (some ⟨g, 0, none⟩)) (t : TypeId) (cs : Array Value) (fr : Nat × Nat) (d : TypeDesc) (hg : w.heap[g]? = some (.cells cs t fr))
    (hu : P.underlying ty = some d) (hd : (match d with | .struct _ | .array _ _ => true | _ => false) = true) (hi : (P.info? ty).map (·.size) = some cs.size)
    (h : K (a.put o.dst (.agg cs)) w) : if Region.wanted o (yielded ops a.tmps) = true then Oper.wp P o a w K Q else E := by
  rw [if_pos hw]
  exact wp_load_row ty x ho g hx t cs fr d hg hu hd hi h

set_option maxRecDepth 100000 in
set_option maxHeartbeats 2000000 in
theorem walk_big (m : Mg) (k : Int) (b : ByteArray) (w : World) (hb : 3000 < b.size) : Calls Try.prog 3 #[.agg m.arr, .int .i64 k, .string b] w fun e w' => e = .returned (.bool true) ∧ Below w.heap.size w w' := by
  have d1 : decide ((b.size : Int) > 3000) = true := decide_eq_true (by omega)
  obtain ⟨cs, hcs⟩ : ∃ cs, cs = m.arr := ⟨_, rfl⟩
  rw [← hcs]
  have L0 := Lib.hid (below_one w (.cells cs 25 (0, 0)))
  clear hcs hb
  go_enter Try.func3, Try.ntmps3
  go_wp2_with (go_at_call 4; go_must (refine (mknown_any _).mono ?_); rintro e w9 ⟨rfl, b9⟩; have L9 := Lib.hid (L0.out.trans (b9.mono L0.out.size)); clear b9)
  go_ret
  exact ⟨rfl, L9.out⟩

set_option maxRecDepth 100000 in
set_option maxHeartbeats 4000000 in
theorem walk_good (m : Mg) (k : Int) (b : ByteArray) (w : World) (hb : b.size ≤ 3000) : Calls Try.prog 3 #[.agg m.arr, .int .i64 k, .string b] w fun e w' => e = .returned (.bool true) ∧ Below w.heap.size w w' := by
  have d1 : decide ((b.size : Int) > 3000) = false := decide_eq_false (by omega)
  obtain ⟨x, hx⟩ : ∃ x, x = m.xid := ⟨_, rfl⟩
  have HR : ∀ W, Calls Try.prog 5 #[.agg m.arr, .int .i64 k] W fun e w' => e = .returned (.agg #[.int .i64 x, .bool true, .bool false, .int .i64 0, .int .i64 0, .int .i64 0, .int .i64 0, .int .i64 0, .int .i64 k, .string ⟨#[]⟩]) ∧ Below W.heap.size W w' := fun W => by rw [hx]; exact mRefuse_any m k W
  have HA : ∀ W, Calls Try.prog 6 #[.agg m.arr, .string b] W fun e w' => e = .returned (.agg #[.int .i64 x, .bool true, .bool false, .int .i64 0, .int .i64 0, .int .i64 0, .int .i64 0, .int .i64 0, .int .i64 0, .string b]) ∧ Below W.heap.size W w' := fun W => by rw [hx]; exact mAnswer_any m b W
  have r0 : m.arr[0]? = some (.int .i64 x) := by rw [hx]; rfl
  have h3 : m.arr.size = 10 := rfl
  have he1 : ∀ W, (binOp .eql 25 (.agg #[.int .i64 x, .bool true, .bool false, .int .i64 0, .int .i64 0, .int .i64 0, .int .i64 0, .int .i64 0, .int .i64 k, .string ⟨#[]⟩]) (.agg #[.int .i64 x, .bool true, .bool false, .int .i64 0, .int .i64 0, .int .i64 0, .int .i64 0, .int .i64 0, .int .i64 k, .string ⟨#[]⟩])).run Try.prog W = .ok (.bool true) W := fun W => by
    have h := run_eq_msg { Mg.zero with xid := x, ans := true, accept := k } { Mg.zero with xid := x, ans := true, accept := k } W
    rw [decide_eq_true rfl] at h
    exact h
  have he2 : ∀ W, (binOp .eql 25 (.agg #[.int .i64 x, .bool true, .bool false, .int .i64 0, .int .i64 0, .int .i64 0, .int .i64 0, .int .i64 0, .int .i64 0, .string b]) (.agg #[.int .i64 x, .bool true, .bool false, .int .i64 0, .int .i64 0, .int .i64 0, .int .i64 0, .int .i64 0, .int .i64 0, .string b])).run Try.prog W = .ok (.bool true) W := fun W => by
    have h := run_eq_msg { Mg.zero with xid := x, ans := true, body := b } { Mg.zero with xid := x, ans := true, body := b } W
    rw [decide_eq_true rfl] at h
    exact h
  have hq1 : ∀ (W : World) (y z : Operand), (eqGuard .eql 25 y z (.agg #[.int .i64 x, .bool true, .bool false, .int .i64 0, .int .i64 0, .int .i64 0, .int .i64 0, .int .i64 0, .int .i64 k, .string ⟨#[]⟩]) (.agg #[.int .i64 x, .bool true, .bool false, .int .i64 0, .int .i64 0, .int .i64 0, .int .i64 0, .int .i64 0, .int .i64 k, .string ⟨#[]⟩])).run Try.prog W = .ok () W := fun W y z => run_eqGuard_agg W .eql 25 y z _ _ (by kernel_rfl)
  have hq2 : ∀ (W : World) (y z : Operand), (eqGuard .eql 25 y z (.agg #[.int .i64 x, .bool true, .bool false, .int .i64 0, .int .i64 0, .int .i64 0, .int .i64 0, .int .i64 0, .int .i64 0, .string b]) (.agg #[.int .i64 x, .bool true, .bool false, .int .i64 0, .int .i64 0, .int .i64 0, .int .i64 0, .int .i64 0, .int .i64 0, .string b])).run Try.prog W = .ok () W := fun W y z => run_eqGuard_agg W .eql 25 y z _ _ (by kernel_rfl)
  obtain ⟨row, hrow⟩ : ∃ row, row = m.arr := ⟨_, rfl⟩
  rw [← hrow] at HR HA r0 h3 ⊢
  have TD := Lib.hid (show St 25 w.heap.size row (w.alloc (.cells row 25 (0, 0))).drew from St.new w 25 row)
  have BD := Lib.hid (below_one w (.cells row 25 (0, 0))).drew
  have H3 := Lib.hid h3
  have R0 := Lib.hid r0
  replace HR := Lib.hid HR
  replace HA := Lib.hid HA
  clear hrow hx r0 h3 hb
  go_enter Try.func3, Try.ntmps3
  go_wp2_with fail
  refine wp_region_held (S := fun w' => St 25 w.heap.size row w') (by kernel_rfl) ?_
  change wpAnyH _ _ _ _ _ _ _ _ (World.drew _)
  generalize (World.drew (w.alloc (.cells row 25 (0, 0)))) = WD at TD BD ⊢
  refine wpAnyH_take (i := 1) (v := .int .i64 k) rfl (by kernel_rfl) (by kernel_rfl) (by kernel_rfl) (fun _ _ _ h => h) (Or.inl ⟨by rfl, fun w' hS => ?_⟩) TD.out ?_
  · clear hS; go_simp
  refine wpAnyH_take (i := 3) (v := .pointer (some ⟨w.heap.size, 0, none⟩)) rfl (by kernel_rfl) (by kernel_rfl) (by kernel_rfl) (fun _ _ _ h => h) (Or.inl ⟨by rfl, fun w' hS => ?_⟩) TD.out ?_
  · clear hS; go_simp
  refine wpAnyH_take (i := 4) (v := .int .i64 x) rfl (by kernel_rfl) (by kernel_rfl) (by kernel_rfl) (fun _ _ _ h => h) (Or.inl ⟨by rfl, fun w' hS => ?_⟩) TD.out ?_
  · have cc := hS.cell R0.out; clear hS; go_simp
  refine wpAnyH_take (i := 5) (v := .int .i64 k) rfl (by kernel_rfl) (by kernel_rfl) (by kernel_rfl) (fun _ _ _ h => h) (Or.inl ⟨by rfl, fun w' hS => ?_⟩) TD.out ?_
  · clear hS; go_simp
  refine wpAnyH_take (i := 6) (v := .agg #[.int .i64 x, .bool true, .bool false, .int .i64 0, .int .i64 0, .int .i64 0, .int .i64 0, .int .i64 0, .int .i64 k, .string ⟨#[]⟩]) rfl (by kernel_rfl) (by kernel_rfl) (by kernel_rfl) (fun _ _ _ h => h) (Or.inl ⟨by rfl, fun w' hS => ?_⟩) TD.out ?_
  · clear hS; go_simp
  refine wpAnyH_ready (rs := [0]) (by kernel_rfl) (by simp) ?_
  refine AllReadyH.cons rfl (fun K hK => ?_) AllReadyH.nil
  refine step_load_rowg (by rfl) 25 (.tmp 3) rfl w.heap.size rfl 25 row (0, 0) _ TD.out Try.underlying25 rfl (by rw [H3.out]; kernel_rfl) ?_
  go_simp
  refine hK.out _ _ TD.out (fun S1 => ?_)
  clear hK K S1
  refine wpAnyH_ready (rs := [2]) (by kernel_rfl) (by simp) ?_
  refine AllReadyH.cons rfl (fun K hK => ?_) AllReadyH.nil
  go_simp
  refine (HR.out _).mono ?_
  rintro e w1 ⟨rfl, b1⟩
  have B1 := Lib.hid (BD.out.trans (b1.mono BD.out.size))
  have T1 := Lib.hid (TD.out.below b1)
  go_simp
  refine hK.out _ _ T1.out (fun S1 => ?_)
  clear hK K S1 b1
  refine wpAnyH_ready (rs := [7]) (by kernel_rfl) (by simp) ?_
  refine AllReadyH.cons rfl (fun K hK => ?_) AllReadyH.nil
  go_simp
  refine hK.out _ _ T1.out (fun S1 => ?_)
  clear hK K S1
  refine wpAnyH_ready (rs := [8]) (by kernel_rfl) (by simp) ?_
  refine AllReadyH.cons rfl (fun K hK => ?_) AllReadyH.nil
  go_simp
  refine hK.out _ _ T1.out (fun S1 => ?_)
  clear hK K S1
  refine wpAnyH_take (i := 10) (v := .string b) rfl (by kernel_rfl) (by kernel_rfl) (by kernel_rfl) (fun _ _ _ h => h) (Or.inl ⟨by rfl, fun w' hS => ?_⟩) T1.out ?_
  · clear hS; go_simp
  refine wpAnyH_take (i := 12) (v := .pointer (some ⟨w.heap.size, 0, none⟩)) rfl (by kernel_rfl) (by kernel_rfl) (by kernel_rfl) (fun _ _ _ h => h) (Or.inl ⟨by rfl, fun w' hS => ?_⟩) T1.out ?_
  · clear hS; go_simp
  refine wpAnyH_take (i := 13) (v := .int .i64 x) rfl (by kernel_rfl) (by kernel_rfl) (by kernel_rfl) (fun _ _ _ h => h) (Or.inl ⟨by rfl, fun w' hS => ?_⟩) T1.out ?_
  · have cc := hS.cell R0.out; clear hS; go_simp
  refine wpAnyH_take (i := 14) (v := .string b) rfl (by kernel_rfl) (by kernel_rfl) (by kernel_rfl) (fun _ _ _ h => h) (Or.inl ⟨by rfl, fun w' hS => ?_⟩) T1.out ?_
  · clear hS; go_simp
  refine wpAnyH_take (i := 15) (v := .agg #[.int .i64 x, .bool true, .bool false, .int .i64 0, .int .i64 0, .int .i64 0, .int .i64 0, .int .i64 0, .int .i64 0, .string b]) rfl (by kernel_rfl) (by kernel_rfl) (by kernel_rfl) (fun _ _ _ h => h) (Or.inl ⟨by rfl, fun w' hS => ?_⟩) T1.out ?_
  · clear hS; go_simp
  refine wpAnyH_ready (rs := [9]) (by kernel_rfl) (by simp) ?_
  refine AllReadyH.cons rfl (fun K hK => ?_) AllReadyH.nil
  refine step_load_rowg (by rfl) 25 (.tmp 3) rfl w.heap.size rfl 25 row (0, 0) _ T1.out Try.underlying25 rfl (by rw [H3.out]; kernel_rfl) ?_
  go_simp
  refine hK.out _ _ T1.out (fun S1 => ?_)
  clear hK K S1
  refine wpAnyH_ready (rs := [11]) (by kernel_rfl) (by simp) ?_
  refine AllReadyH.cons rfl (fun K hK => ?_) AllReadyH.nil
  go_simp
  refine (HA.out _).mono ?_
  rintro e w2 ⟨rfl, b1⟩
  have B2 := Lib.hid (B1.out.trans (b1.mono B1.out.size))
  have T2 := Lib.hid (T1.out.below b1)
  go_simp
  refine hK.out _ _ T2.out (fun S1 => ?_)
  clear hK K S1 b1
  refine wpAnyH_ready (rs := [16]) (by kernel_rfl) (by simp) ?_
  refine AllReadyH.cons rfl (fun K hK => ?_) AllReadyH.nil
  go_simp
  refine hK.out _ _ T2.out (fun S1 => ?_)
  clear hK K S1
  refine wpAnyH_ready (rs := [17]) (by kernel_rfl) (by simp) ?_
  refine AllReadyH.cons rfl (fun K hK => ?_) AllReadyH.nil
  go_simp
  refine hK.out _ _ T2.out (fun S1 => ?_)
  clear hK K S1
  refine wpAnyH_ready (rs := [18]) (by kernel_rfl) (by simp) ?_
  refine AllReadyH.cons rfl (fun K hK => ?_) AllReadyH.nil
  go_simp
  refine hK.out _ _ T2.out (fun S1 => ?_)
  clear hK K S1
  refine wpAnyH_ready (rs := [19]) (by kernel_rfl) (by simp) ?_
  refine AllReadyH.cons rfl (fun K hK => ?_) AllReadyH.nil
  go_simp
  refine (mknown_any _).mono ?_
  rintro e w3 ⟨rfl, b1⟩
  have B3 := Lib.hid (B2.out.trans (b1.mono B2.out.size))
  have T3 := Lib.hid (T2.out.below b1)
  go_simp
  refine hK.out _ _ T3.out (fun S1 => ?_)
  clear hK K S1 b1
  refine wpAnyH_ready (rs := [20]) (by kernel_rfl) (by simp) ?_
  refine AllReadyH.cons rfl (fun K hK => ?_) AllReadyH.nil
  go_simp
  refine hK.out _ _ T3.out (fun S1 => ?_)
  clear hK K S1
  refine wpAnyH_ready (rs := [21]) (by kernel_rfl) (by simp) ?_
  refine AllReadyH.cons rfl (fun K hK => ?_) AllReadyH.nil
  go_simp
  refine hK.out _ _ T3.out (fun S1 => ?_)
  clear hK K S1
  refine wpAnyH_done (by kernel_rfl) ?_ _
  go_wp2_with fail
  go_ret
  exact ⟨rfl, B3.out⟩

theorem answers_any (m : Mg) (k : Int) (b : ByteArray) (w : World) : Calls Try.prog 3 #[.agg m.arr, .int .i64 k, .string b] w fun e w' => e = .returned (.bool true) ∧ Below w.heap.size w w' := by
  by_cases hb : 3000 < b.size
  · exact walk_big m k b w hb
  · exact walk_good m k b w (by omega)

set_option maxRecDepth 100000 in
theorem lifted (os : Os) (started : os.Started) (H : Type) (enc : TypeId × Value → H) :
    ReturnsInHanded {} Try.checked os 3 .any (Rows.rpcAnswersSpec.pre6 enc Try.prog Try.f3 Rows.rpcAnswersRow.domain false) (Rows.rpcAnswersSpec.post enc Try.prog Try.f3 false true false false) := by
  refine returnsInHanded_of_change (C := Try.checked) own started (by kernel_rfl) Try.func3
    (ChangeSpec.witness6 (enc := enc) (C := Try.checked) false ⟨#[], #[.agg #[.int .i64 0, .bool false, .bool false, .int .i64 0, .int .i64 0, .int .i64 0, .int .i64 0, .int .i64 0, .int .i64 0, .string ⟨#[]⟩], .int .i64 0, .string ⟨#[]⟩], []⟩ 8 (by kernel_rfl) (by kernel_rfl) (by kernel_rfl) (by kernel_rfl)) ?_
  intro W base args ds gs before hval0 hW hcnd _
  have hval : ∀ (j : Nat) t v, Try.f3.params[j]? = some t → args[j]? = some v → Value.okWide Try.prog W .any base t v := hval0
  have hW' := hW
  obtain ⟨p, q, hA0, hV, rfl, hfz, hnd⟩ := hW
  have hA : DataW.TrodAll enc Try.prog W 0 (fun _ => true) true Try.f3.params.toList args.toList ds p := hA0
  rw [Try.params3] at hA hval
  obtain ⟨v0, vs0, d0, ds0, p0, q0, hargs, rfl, rfl, h0, r0⟩ := trodAll_cons hA
  obtain ⟨v1, vs1, d1, ds1, p1, q1, rfl, rfl, rfl, h1, r1⟩ := trodAll_cons r0
  obtain ⟨v2, vs2, d2, ds2, p2, q2, rfl, rfl, rfl, h2, r2⟩ := trodAll_cons r1
  obtain ⟨rfl, rfl, rfl⟩ := trodAll_nil r2
  obtain rfl : args = #[v0, v1, v2] := by cases args; simp_all
  have post : ∀ W', Below W.heap.size W W' → Rows.rpcAnswersSpec.post enc Try.prog Try.f3 false true false false W #[v0, v1, v2] (.bool true) W' := fun W' hg =>
    law_post laidOut (by rw [Try.params3]; decide +kernel) rfl Try.underlying4 rfl hW' rfl hg
  have done : ∀ (e : Ending) W', (e = .returned (.bool true) ∧ Below W.heap.size W W') → ∃ v, e = .returned v ∧ Rows.rpcAnswersSpec.post enc Try.prog Try.f3 false true false false W #[v0, v1, v2] v W' := fun e W' ⟨he, hg⟩ => ⟨_, he, post W' hg⟩
  clear post
  obtain ⟨m, rfl, rfl, rfl, hm⟩ := open_msg (hval 0 25 v0 rfl rfl) h0
  obtain ⟨k, rfl, rfl, rfl, hk⟩ := open_int Try.underlying3 (hval 1 3 v1 rfl rfl) h1
  obtain ⟨b, rfl, rfl, rfl, hb⟩ := open_string Try.underlying9 (hval 2 9 v2 rfl rfl) h2
  exact (answers_any m k b W).mono done


theorem over : Rows.rpcAnswersRow.holds Try.pinned (OpenSpec.ofChange Rows.rpcAnswersSpec) :=
  OpenClaim.holds_of_wide 3 Try.f3 rfl rfl rfl rfl rfl rfl rfl ⟨rfl, rfl, rfl, rfl, rfl⟩ rfl rfl rfl rfl rfl (by kernel_rfl) Try.func3 (by kernel_rfl)
    (of_decide_eq_true (by kernel_rfl)) (by unfold Func.isWrapper; first | (rw [if_pos (by decide +kernel)]; kernel_rfl) | (rw [if_neg (by decide +kernel)]; exact ⟨rfl, rfl⟩))
    (fun os started H enc _ => lifted os started H enc)

theorem proved : Rows.RpcAnswersSaid := over

end Go.Proofs.Ytimbcombhdgjiaa.rpcAnswers
