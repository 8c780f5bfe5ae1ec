/- PROVED HERE: for every message, the law RpcPuts returns true: any message is laid as the document says, and comes back; or it is refused. CONDITIONS: the tables that the row lists read as laid; the walks never read them. -/
import Derived.Test.YtimbcombhdgjiaaDoorMc
import Derived.Test.YtimbcombhdgjiaaDoorMq
import Derived.Test.YtimbcombhdgjiaaDoorMs
import Derived.Test.YtimbcombhdgjiaaDoorLaw
import Derived.Test.YtimbcombhdgjiaaDoorLw
import Derived.ChangeMaps5
namespace Go.Proofs.YtimbcombhdgjiaaDoor.rpcPuts
open Go.ChangeShapes Go.WideShapes Go.ChangeAt Go.RowKit
open Go.ChangeMaps (open_string shut_string)
set_option linter.unusedSimpArgs false
set_option linter.unusedVariables false

theorem own : ownKnob Tryd.prog.godebug = none := by kernel_rfl

set_option maxRecDepth 100000 in
set_option maxHeartbeats 2000000 in
theorem walk_big (m : Mg) (w : World) (hb : 3000 < m.body.size) : Calls Tryd.prog 3 #[.agg m.arr] w fun e w' => e = .returned (.bool true) ∧ Below w.heap.size w w' := by
  have h3 : m.arr.size = 10 := rfl
  have h4 : m.arr.all (·.oneCell') = true := Mg.arr_one _
  have st := St.new w 25 m.arr
  have cb : (w.alloc (.cells m.arr 25 (0, 0))).cell? ⟨w.heap.size, 9, none⟩ = some (.string m.body) := st.cell rfl
  obtain ⟨bd, hbd⟩ : ∃ b, b = m.body := ⟨_, rfl⟩
  rw [← hbd] at cb
  rw [← hbd] at hb
  have d1 : decide ((bd.size : Int) > 3000) = true := decide_eq_true (by omega)
  clear hb hbd
  obtain ⟨cs, hcs⟩ : ∃ cs, cs = m.arr := ⟨_, rfl⟩
  rw [← hcs] at h3 h4 st cb ⊢
  have S0 := Lib.hid st
  have L0 := Lib.hid (below_one w (.cells cs 25 (0, 0)))
  have H3 := Lib.hid h3
  have H4 := Lib.hid h4
  clear hcs st h3 h4
  go_enter Tryd.func3, Tryd.ntmps3
  go_wp2_with (first
    | (go_at_call 6; go_must (refine (mknown_any _).mono ?_); rintro e w9 ⟨rfl, b9⟩; have L9 := Lib.hid (L0.out.trans (b9.mono L0.out.size)); clear b9))
  all_goals (try go_ret)
  all_goals exact ⟨rfl, L9.out⟩

set_option maxRecDepth 100000 in
set_option maxHeartbeats 2000000 in
theorem walk_not (m : Mg) (w : World) (hb : m.body.size ≤ 3000) (hk : okMg m = false) : Calls Tryd.prog 3 #[.agg m.arr] w fun e w' => e = .returned (.bool true) ∧ Below w.heap.size w w' := by
  have h3 : m.arr.size = 10 := rfl
  have h4 : m.arr.all (·.oneCell') = true := Mg.arr_one _
  have st := St.new w 25 m.arr
  have cb : (w.alloc (.cells m.arr 25 (0, 0))).cell? ⟨w.heap.size, 9, none⟩ = some (.string m.body) := st.cell rfl
  obtain ⟨bd, hbd⟩ : ∃ b, b = m.body := ⟨_, rfl⟩
  rw [← hbd] at cb
  have HP := fun w => mPut_any m w hb
  have HK := fun w => mfCheck_any m w
  have HC := fun w => rcCheck_any m w hb
  have d1 : decide ((bd.size : Int) > 3000) = false := decide_eq_false (by rw [hbd]; omega)
  rw [hk] at HP HK HC
  simp only [if_true, Bool.false_eq_true, if_false] at HP HC
  clear hb hbd hk
  obtain ⟨cs, hcs⟩ : ∃ cs, cs = m.arr := ⟨_, rfl⟩
  rw [← hcs] at h3 h4 st cb HP HK HC ⊢
  have S0 := Lib.hid st
  have L0 := Lib.hid (below_one w (.cells cs 25 (0, 0)))
  have H3 := Lib.hid h3
  have H4 := Lib.hid h4
  replace HP := Lib.hid HP
  replace HK := Lib.hid HK
  replace HC := Lib.hid HC
  clear hcs st h3 h4
  go_enter Tryd.func3, Tryd.ntmps3
  go_wp2_with (first
    | ((with_reducible show wpList _ _ _ ({ dst := _, op := .load 25 (.tmp 1), type := _, pos := _, after := _, guard := _ } :: _) _ _); refine wpList_load_stg (by rfl) 25 _ rfl w.heap.size rfl 25 cs (by first | exact S3.out | exact S2.out | exact S1.out | exact S0.out) _ Tryd.underlying25 rfl (by rw [H3.out]; kernel_rfl) ?_)
    | (go_at_call 7; go_must (refine (HP.out _).mono ?_); rintro e w1 ⟨rfl, b1⟩; have S1 := Lib.hid (S0.out.below b1); have L1 := Lib.hid (L0.out.trans (b1.mono L0.out.size)); clear b1)
    | (go_at_call 8; go_must (refine (HK.out _).mono ?_); rintro e w2 ⟨rfl, b2⟩; have S2 := Lib.hid (S1.out.below b2); have L2 := Lib.hid (L1.out.trans (b2.mono L1.out.size)); clear b2)
    | (go_at_call 9; go_must (refine (HC.out _).mono ?_); rintro e w3 ⟨rfl, b3⟩; have S3 := Lib.hid (S2.out.below b3); have L3 := Lib.hid (L2.out.trans (b3.mono L2.out.size)); clear b3)
    | (go_at_call 6; go_must (refine (mknown_any _).mono ?_); rintro e w9 ⟨rfl, b9⟩; have L9 := Lib.hid (L3.out.trans (b9.mono L3.out.size)); clear b9))
  all_goals (try go_ret)
  all_goals exact ⟨rfl, L9.out⟩

set_option maxRecDepth 100000 in
set_option maxHeartbeats 2000000 in
theorem walk_good (m : Mg) (w : World) (hb : m.body.size ≤ 3000) (hk : okMg m = true) : Calls Tryd.prog 3 #[.agg m.arr] w fun e w' => e = .returned (.bool true) ∧ Below w.heap.size w w' := by
  have h3 : m.arr.size = 10 := rfl
  have h4 : m.arr.all (·.oneCell') = true := Mg.arr_one _
  have st := St.new w 25 m.arr
  have cb : (w.alloc (.cells m.arr 25 (0, 0))).cell? ⟨w.heap.size, 9, none⟩ = some (.string m.body) := st.cell rfl
  obtain ⟨bd, hbd⟩ : ∃ b, b = m.body := ⟨_, rfl⟩
  rw [← hbd] at cb
  have HP := fun w => mPut_any m w hb
  have HK := fun w => mfCheck_any m w
  have HC := fun w => rcCheck_any m w hb
  have d1 : decide ((bd.size : Int) > 3000) = false := decide_eq_false (by rw [hbd]; omega)
  rw [hk] at HP HK HC
  simp only [if_true, Bool.false_eq_true, if_false] at HP HC
  have hl : (str (mgBytes m)).size ≤ 1073741824 := by
    rw [str_size, mgBytes_len]
    split <;> omega
  have HG := fun w => mGet_any (str (mgBytes m)) w hl
  rw [mgGet_bytes hk] at HG
  dsimp only at HG
  have HB := fun w => mfBytes_any m w hk
  have hne := fun W => run_eq_msg m m W
  have hqg : ∀ (W : World) (x y : Operand), (eqGuard .eql 25 x y (.agg m.arr) (.agg m.arr)).run Tryd.prog W = .ok () W := fun W x y => run_eqGuard_agg W .eql 25 x y _ _ (by kernel_rfl)
  simp only [decide_true] at hne
  obtain ⟨bs, hbs⟩ : ∃ b, b = str (mgBytes m) := ⟨_, rfl⟩
  rw [← hbs] at HP HG HB
  clear hbs hl hb hbd hk
  obtain ⟨cs, hcs⟩ : ∃ cs, cs = m.arr := ⟨_, rfl⟩
  rw [← hcs] at h3 h4 st cb HP HK HC HG HB hne hqg ⊢
  have S0 := Lib.hid st
  have L0 := Lib.hid (below_one w (.cells cs 25 (0, 0)))
  have H3 := Lib.hid h3
  have H4 := Lib.hid h4
  replace HP := Lib.hid HP
  replace HK := Lib.hid HK
  replace HC := Lib.hid HC
  replace HG := Lib.hid HG
  replace HB := Lib.hid HB
  clear hcs st h3 h4
  go_enter Tryd.func3, Tryd.ntmps3
  go_wp2_with (first
    | ((with_reducible show wpList _ _ _ ({ dst := _, op := .load 25 (.tmp 1), type := _, pos := _, after := _, guard := _ } :: _) _ _); refine wpList_load_stg (by rfl) 25 _ rfl w.heap.size rfl 25 cs (by first | exact S6.out | exact S5.out | exact S4.out | exact S3.out | exact S2.out | exact S1.out | exact S0.out) _ Tryd.underlying25 rfl (by rw [H3.out]; kernel_rfl) ?_)
    | (go_at_call 7; go_must (refine (HP.out _).mono ?_); rintro e w1 ⟨rfl, b1⟩; have S1 := Lib.hid (S0.out.below b1); have L1 := Lib.hid (L0.out.trans (b1.mono L0.out.size)); clear b1)
    | (go_at_call 8; go_must (refine (HK.out _).mono ?_); rintro e w2 ⟨rfl, b2⟩; have S2 := Lib.hid (S1.out.below b2); have L2 := Lib.hid (L1.out.trans (b2.mono L1.out.size)); clear b2)
    | (go_at_call 10; go_must (refine (HG.out _).mono ?_); rintro e w4 ⟨rfl, b4⟩; have S4 := Lib.hid ((S2.out.below b4).alloc (.cells cs 25 (0, 0))); have D4 := Lib.hid (St.new w4 25 cs); have L4 := Lib.hid ((L2.out.trans (b4.mono L2.out.size)).alloc (Nat.le_trans L2.out.size b4.size) (.cells cs 25 (0, 0))); clear b4)
    | ((with_reducible show wpList _ _ _ ({ dst := _, op := .store _ (.tmp 5) _, type := _, pos := _, after := _, guard := _ } :: _) _ _); refine wpList_store_st rfl 25 _ _ rfl w4.heap.size cs rfl rfl _ (St.new w4 25 _) (by rw [H3.out]; kernel_rfl) (by rw [H3.out]; rfl) H4.out ?_; rw [alloc_row]; intro wz hz hst; subst hz; clear hst)
    | (go_at_call 11; go_must (refine (HB.out _).mono ?_); rintro e w5 ⟨rfl, b5⟩; have S5 := Lib.hid (S4.out.below b5); have D5 := Lib.hid (D4.out.below b5); have L5 := Lib.hid (L4.out.trans (b5.mono L4.out.size)); clear b5)
    | (go_at_call 9; go_must (refine (HC.out _).mono ?_); rintro e w6 ⟨rfl, b6⟩; have S6 := Lib.hid (S5.out.below b6); have D6 := Lib.hid (D5.out.below b6); have L6 := Lib.hid (L5.out.trans (b6.mono L5.out.size)); clear b6)
    | ((with_reducible show wpList _ _ _ ({ dst := _, op := .load 25 (.tmp 5), type := _, pos := _, after := _, guard := _ } :: _) _ _); refine wpList_load_stg (by rfl) 25 _ rfl w4.heap.size rfl 25 cs (by first | exact D6.out | exact D5.out | exact D4.out) _ Tryd.underlying25 rfl (by rw [H3.out]; kernel_rfl) ?_)
    | (go_at_call 6; go_must (refine (mknown_any _).mono ?_); rintro e w9 ⟨rfl, b9⟩; have L9 := Lib.hid (L6.out.trans (b9.mono L6.out.size)); clear b9))
  all_goals (try go_ret)
  all_goals exact ⟨rfl, L9.out⟩

theorem puts_any (m : Mg) (w : World) : Calls Tryd.prog 3 #[.agg m.arr] w fun e w' => e = .returned (.bool true) ∧ Below w.heap.size w w' := by
  by_cases h : 3000 < m.body.size
  · exact walk_big m w h
  · cases hk : okMg m with
    | false => exact walk_not m w (by omega) hk
    | true => exact walk_good m w (by omega) hk

theorem laidOut : laidOutB Tryd.prog = true := by kernel_rfl
theorem laid_met (os : Os) : laidMet Tryd.prog Rows.rpcPutsRow.laid ((laidWorld os).forCall (fun _ _ => 0) ⟨#[], #[.agg #[.int .i64 0, .bool false, .bool false, .int .i64 0, .int .i64 0, .int .i64 0, .int .i64 0, .int .i64 0, .int .i64 0, .string ⟨#[]⟩]], []⟩).memory :=
  laidMet_of_run' 8 (by kernel_rfl) (by kernel_rfl)
theorem reads (os : Os) {H : Type} (enc : TypeId × Value → H) : ∃ places, DataW.whole enc Tryd.prog ((laidWorld os).forCall (fun _ _ => 0) ⟨#[], #[.agg #[.int .i64 0, .bool false, .bool false, .int .i64 0, .int .i64 0, .int .i64 0, .int .i64 0, .int .i64 0, .int .i64 0, .string ⟨#[]⟩]], []⟩).memory Tryd.f3.params.toList Rows.rpcPutsSpec.vars false (#[.agg #[.int .i64 0, .bool false, .bool false, .int .i64 0, .int .i64 0, .int .i64 0, .int .i64 0, .int .i64 0, .int .i64 0, .string ⟨#[]⟩]] : Array Value).toList 8 = some ([.agg [.lit (.int .i64 0), .lit (.bool false), .lit (.bool false), .lit (.int .i64 0), .agg [.lit (.int .i64 0), .lit (.int .i64 0), .lit (.int .i64 0), .lit (.int .i64 0)], .lit (.int .i64 0), .lit (.string [])]], [], places) :=
  ⟨[], by kernel_rfl⟩

set_option maxRecDepth 100000 in
theorem contract (H : Type) (enc : TypeId × Value → H) (W : World) (base : Nat) (args : Array Value) (ds gs : List (DataW H)) (before : List MemPlace)
    (hval : ∀ (j : Nat) t v, Tryd.f3.params[j]? = some t → args[j]? = some v → Value.okWide Tryd.prog W .any base t v)
    (hW : DataW.Whole enc Tryd.prog Tryd.f3.params.toList Rows.rpcPutsSpec.vars false W args.toList ds gs before) :
    Calls Tryd.prog 3 args W fun e W' => ∃ v, e = .returned v ∧ Rows.rpcPutsSpec.post enc Tryd.prog Tryd.f3 false true false false W args v W' := by
  have hW' := hW
  obtain ⟨p, q, hA0, hV, rfl, hfz, hnd⟩ := hW
  have hA : DataW.TrodAll enc Tryd.prog W 0 (fun _ => true) true Tryd.f3.params.toList args.toList ds p := hA0
  rw [Tryd.params3] at hA hval
  obtain ⟨v0, vs0, d0, ds0, p0, q0, hargs, rfl, rfl, h0, r0⟩ := trodAll_cons hA
  obtain ⟨rfl, rfl, rfl⟩ := trodAll_nil r0
  obtain rfl : args = #[v0] := by cases args; simp_all
  have post : ∀ W', Below W.heap.size W W' → Rows.rpcPutsSpec.post enc Tryd.prog Tryd.f3 false true false false W #[v0] (.bool true) W' := fun W' hg =>
    law_post laidOut (by rw [Tryd.params3]; decide +kernel) rfl Tryd.underlying4 rfl hW' rfl hg
  have done : ∀ (e : Ending) W', (e = .returned (.bool true) ∧ Below W.heap.size W W') → ∃ v, e = .returned v ∧ Rows.rpcPutsSpec.post enc Tryd.prog Tryd.f3 false true false false W #[v0] v W' := fun e W' ⟨he, hg⟩ => ⟨_, he, post W' hg⟩
  clear post
  obtain ⟨m, rfl, rfl, rfl, hm⟩ := open_msg (hval 0 25 v0 rfl rfl) h0
  exact (puts_any m W).mono done


set_option maxRecDepth 100000 in
theorem lifted (os : Os) (started : os.Started) (H : Type) (enc : TypeId × Value → H) (F : Stop.Interp) :
    ReturnsInHanded {} Tryd.checked os 3 .any ((OpenSpec.ofChange Rows.rpcPutsSpec).preRow enc Tryd.prog Tryd.f3 Rows.rpcPutsRow.domain false Rows.rpcPutsRow.laid) (((OpenSpec.ofChange Rows.rpcPutsSpec).at F).post enc Tryd.prog Tryd.f3 false true false false) := by
  obtain ⟨places, hx⟩ := reads os enc
  refine returnsInHanded_of_row (C := Tryd.checked) (s := OpenSpec.ofChange Rows.rpcPutsSpec) own started (by kernel_rfl) Tryd.func3
    (witness_row_at (enc := enc) (C := Tryd.checked) false (laidWorld os) #[.agg #[.int .i64 0, .bool false, .bool false, .int .i64 0, .int .i64 0, .int .i64 0, .int .i64 0, .int .i64 0, .int .i64 0, .string ⟨#[]⟩]] rfl (by kernel_rfl) (by kernel_rfl) (by kernel_rfl)
      (OpenSpec.preRow_of_cond 8 hx (by kernel_rfl) (fun k hk => by cases hk) (by kernel_rfl) (laid_met os))) ?_
  intro W base args ds gs before hval hW _ _ _ hL _ _
  exact contract H enc W base args ds gs before hval hW

theorem said : Rows.RpcPutsSaid :=
  OpenClaim.holds_of_cond 3 Tryd.f3 rfl rfl rfl rfl rfl rfl rfl ⟨rfl, rfl, rfl, rfl, rfl⟩ rfl rfl rfl rfl rfl (by kernel_rfl) Tryd.func3 (by kernel_rfl)
    (of_decide_eq_true (by kernel_rfl)) (by unfold Func.isWrapper; first | (rw [if_pos (by decide +kernel)]; kernel_rfl) | (rw [if_neg (by decide +kernel)]; exact ⟨rfl, rfl⟩))
    (fun os started H enc _ F => by rw [OpenClaim.pre_eq_preRow]; exact lifted os started H enc F)

theorem plain (f : FuncId) (fn : Func) (hf : Tryd.pinned.checked.prog.funcNamed Rows.rpcPutsRow.func = some f) (hfn : Tryd.pinned.checked.prog.funcs[f]? = some fn) :
    true = Tryd.pinned.checked.prog.looks [] ∧ ∀ (j : Nat) t, fn.params[j]? = some t → Tryd.pinned.checked.prog.wantsStandIn t = false := by
  obtain rfl : f = 3 := Option.some.inj ((show Tryd.prog.funcNamed Rows.rpcPutsRow.func = some 3 by kernel_rfl).symm.trans hf) |>.symm
  obtain rfl : fn = Tryd.f3 := (Option.some.inj (Tryd.func3.symm.trans hfn)).symm
  refine ⟨by kernel_rfl, fun j t ht => ?_⟩
  have hall : Tryd.f3.params.all (fun t => Tryd.prog.wantsStandIn t == false) = true := by kernel_rfl
  have := Array.all_eq_true.1 hall j (Array.getElem?_eq_some_iff.1 ht).1
  rw [(Array.getElem?_eq_some_iff.1 ht).2] at this
  have h2 : Tryd.prog.wantsStandIn t = false := by simpa using this
  exact h2

theorem card : Rows.RpcPutsCardSaid :=
  Claim7.holds_tied_plain_at .later [] _ _ _ _ said (fun _ h => by cases h) (by kernel_rfl) (fun _ h => by cases h) rpcPuts_row_tie rfl ⟨rfl, rfl⟩ (by kernel_rfl) rfl plain (by kernel_rfl)

end Go.Proofs.YtimbcombhdgjiaaDoor.rpcPuts
