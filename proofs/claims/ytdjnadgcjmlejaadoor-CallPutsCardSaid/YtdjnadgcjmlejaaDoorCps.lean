/- PROVED HERE: for every call, the law CallPuts returns true: any call is laid as the document says, and comes back; or it is refused. CONDITIONS: the two tables that the row lists read as laid; the walks never read them. -/
import Derived.Test.YtdjnadgcjmlejaaDoorCs
import Derived.Test.YtdjnadgcjmlejaaDoorCp
import Derived.Test.YtdjnadgcjmlejaaDoorCz
import Derived.Test.YtdjnadgcjmlejaaDoorCv
import Derived.Test.YtdjnadgcjmlejaaDoorLaw
import Derived.Test.YtdjnadgcjmlejaaDoorLw
namespace Go.Proofs.YtdjnadgcjmlejaaDoor.callPuts
open Go.ChangeShapes Go.WideShapes Go.ChangeAt Go.RowKit

theorem putR_nil {c : Cl} (h : (putR c).2 ≠ 0) : (putR c).1 = [] := by
  unfold putR at h ⊢
  split
  · rename_i h1
    rw [if_pos h1] at h
    split
    · rename_i h2
      rw [if_pos h2] at h
      exact absurd rfl h
    · rfl
  · rfl
theorem putR_ok {c : Cl} (h : (putR c).2 = 0) : there c.proc = true ∧ okB c = true ∧ (putR c).1 = clBytes c := by
  unfold putR at h ⊢
  split
  · rename_i h1
    rw [if_pos h1] at h
    split
    · rename_i h2
      exact ⟨h1, h2, rfl⟩
    · rename_i h2
      rw [if_neg h2] at h
      cases h
  · rename_i h1
    rw [if_neg h1] at h
    cases h

set_option maxRecDepth 100000 in
set_option maxHeartbeats 4000000 in
theorem walk_large (c : Cl) (w : World) (hl : c.large = true) : Calls Tryd.prog 4 #[.agg c.arr] w fun e w' => e = .returned (.bool true) ∧ Below w.heap.size w w' := by
  have h3 : c.arr.size = 24 := rfl
  have h4 : c.arr.all (·.oneCell') = true := Cl.arr_one _
  have st := St.new w 30 c.arr
  have HG := fun w => cfLarge_any c w
  rw [hl] at HG
  obtain ⟨cs, hcs⟩ : ∃ cs, cs = c.arr := ⟨_, rfl⟩
  rw [← hcs] at h3 h4 st HG ⊢
  have S0 := Lib.hid st
  have L0 := Lib.hid (below_alloc1 w (.cells cs 30 (0, 0)))
  have H3 := Lib.hid h3
  have H4 := Lib.hid h4
  replace HG := Lib.hid HG
  clear hl
  clear hcs st h3 h4
  go_enter Tryd.func4, Tryd.ntmps4
  go_wp2_with (first
    | ((with_reducible show wpList _ _ _ ({ dst := _, op := .load _ (.tmp 1), type := _, pos := _, after := _, guard := _ } :: _) _ _); refine wpList_load_stg (by kernel_rfl) 30 _ rfl w.heap.size rfl 30 cs (by first | exact S0.out) _ Tryd.underlying30 rfl (by rw [H3.out]; kernel_rfl) ?_)
    | (go_at_call 12; go_must (refine (HG.out _).mono ?_); rintro e w1 ⟨rfl, b1⟩; have S1 := Lib.hid (S0.out.below b1); have L1 := Lib.hid (L0.out.trans (b1.mono L0.out.size)); clear b1)
    | (go_at_call 11; go_must (refine (cknown_any _).mono ?_); rintro e w9 ⟨rfl, b9⟩; have L9 := Lib.hid (L1.out.trans (b9.mono L1.out.size)); clear b9))
  all_goals go_ret
  all_goals exact ⟨rfl, L9.out⟩

set_option maxRecDepth 100000 in
set_option maxHeartbeats 4000000 in
theorem walk_bad (c : Cl) (w : World) (hl : c.large = false) (hx : (putR c).2 ≠ 0) : Calls Tryd.prog 4 #[.agg c.arr] w fun e w' => e = .returned (.bool true) ∧ Below w.heap.size w w' := by
  have h3 : c.arr.size = 24 := rfl
  have h4 : c.arr.all (·.oneCell') = true := Cl.arr_one _
  have st := St.new w 30 c.arr
  have HG := fun w => cfLarge_any c w
  rw [hl] at HG
  have hs := Cl.small_of hl
  have HP := fun w => cPut_any c w hs
  have HW := fun w => cwants_any c w
  have HC := fun w => cCheck_any c w hs
  rw [putR_nil hx] at HP
  have hn : (str []) = (⟨#[]⟩ : ByteArray) := rfl
  rw [hn] at HP
  obtain ⟨x, hxx⟩ : ∃ x, x = (putR c).2 := ⟨_, rfl⟩
  rw [← hxx] at HP HW HC hx
  have d1 : (x == 0) = false := by simpa using hx
  have d2 : (x != 0) = true := by simpa using hx
  clear hxx hx hl hs hn
  obtain ⟨cs, hcs⟩ : ∃ cs, cs = c.arr := ⟨_, rfl⟩
  rw [← hcs] at h3 h4 st HG HP HW HC ⊢
  have S0 := Lib.hid st
  have L0 := Lib.hid (below_alloc1 w (.cells cs 30 (0, 0)))
  have H3 := Lib.hid h3
  have H4 := Lib.hid h4
  replace HG := Lib.hid HG
  replace HP := Lib.hid HP
  replace HW := Lib.hid HW
  replace HC := Lib.hid HC
  clear hcs st h3 h4
  go_enter Tryd.func4, Tryd.ntmps4
  go_wp2_with (first
    | ((with_reducible show wpList _ _ _ ({ dst := _, op := .load _ (.tmp 1), type := _, pos := _, after := _, guard := _ } :: _) _ _); refine wpList_load_stg (by kernel_rfl) 30 _ rfl w.heap.size rfl 30 cs (by first | exact S5.out | exact S4.out | exact S3.out | exact S2.out | exact S1.out | exact S0.out) _ Tryd.underlying30 rfl (by rw [H3.out]; kernel_rfl) ?_)
    | (go_at_call 12; go_must (refine (HG.out _).mono ?_); rintro e w1 ⟨rfl, b1⟩; have S1 := Lib.hid (S0.out.below b1); have L1 := Lib.hid (L0.out.trans (b1.mono L0.out.size)); clear b1)
    | (go_at_call 13; go_must (refine (HP.out _).mono ?_); rintro e w2 ⟨rfl, b2⟩; have S2 := Lib.hid (S1.out.below b2); have L2 := Lib.hid (L1.out.trans (b2.mono L1.out.size)); clear b2)
    | (go_at_call 14; go_must (refine (HW.out _).mono ?_); rintro e w3 ⟨rfl, b3⟩; have S3 := Lib.hid (S2.out.below b3); have L3 := Lib.hid (L2.out.trans (b3.mono L2.out.size)); clear b3)
    | (go_at_call 15; go_must (refine (HC.out _).mono ?_); rintro e w4 ⟨rfl, b4⟩; have S4 := Lib.hid (S3.out.below b4); have L4 := Lib.hid (L3.out.trans (b4.mono L3.out.size)); clear b4)
    | (go_at_call 11; go_must (refine (cknown_any _).mono ?_); rintro e w9 ⟨rfl, b9⟩; have L9 := Lib.hid (L4.out.trans (b9.mono L4.out.size)); clear b9))
  all_goals go_ret
  all_goals exact ⟨rfl, L9.out⟩

set_option maxRecDepth 100000 in
set_option maxHeartbeats 4000000 in
theorem walk_good (c : Cl) (w : World) (hl : c.large = false) (hx : (putR c).2 = 0) : Calls Tryd.prog 4 #[.agg c.arr] w fun e w' => e = .returned (.bool true) ∧ Below w.heap.size w w' := by
  have h3 : c.arr.size = 24 := rfl
  have h4 : c.arr.all (·.oneCell') = true := Cl.arr_one _
  have st := St.new w 30 c.arr
  have HG := fun w => cfLarge_any c w
  rw [hl] at HG
  have hs := Cl.small_of hl
  have HP := fun w => cPut_any c w hs
  have HW := fun w => cwants_any c w
  have HC := fun w => cCheck_any c w hs
  obtain ⟨ht, hok, hby⟩ := putR_ok hx
  rw [hby, hx] at HP
  rw [hx] at HW HC
  have hz : (str (clBytes c)).size ≤ 1073741824 := by
    have h1 := wrs_len c hs (flds c.proc)
    have h2 := flds_len c.proc
    rw [str_size]
    unfold clBytes
    omega
  have HGt := fun w => cGet_any c.proc (str (clBytes c)) w hz
  rw [get_ok ht hok] at HGt
  dsimp only at HGt
  have HB := fun w => cfBytes_any c w ((okB_iff c).1 hok).1 hs
  have hne := fun W => run_eq_call c c W
  have hqg : ∀ (W : World) (x y : Operand), (eqGuard .eql 30 x y (.agg c.arr) (.agg c.arr)).run Tryd.prog W = .ok () W := fun W x y => run_eqGuard_agg W .eql 30 x y _ _ (by kernel_rfl)
  simp only [decide_true] at hne
  have c0 : ∀ W : World, St 30 w.heap.size c.arr W → W.cell? ⟨w.heap.size, 0, none⟩ = some (.int .i64 c.proc) := fun W h => h.cell rfl
  obtain ⟨bs, hbs⟩ : ∃ b, b = str (clBytes c) := ⟨_, rfl⟩
  rw [← hbs] at HP HGt HB
  clear hbs hz hby hok ht hx hl hs
  obtain ⟨cs, hcs⟩ : ∃ cs, cs = c.arr := ⟨_, rfl⟩
  rw [← hcs] at h3 h4 st HG HP HW HC HGt HB hne hqg c0 ⊢
  have S0 := Lib.hid st
  have L0 := Lib.hid (below_alloc1 w (.cells cs 30 (0, 0)))
  have H3 := Lib.hid h3
  have H4 := Lib.hid h4
  replace HG := Lib.hid HG
  replace HP := Lib.hid HP
  replace HW := Lib.hid HW
  replace HC := Lib.hid HC
  replace HGt := Lib.hid HGt
  replace HB := Lib.hid HB
  have C0 := Lib.hid c0
  clear c0
  clear hcs st h3 h4
  go_enter Tryd.func4, Tryd.ntmps4
  go_wp2_with (first
    | ((with_reducible show wpList _ _ _ ({ dst := _, op := .load _ (.tmp 1), type := _, pos := _, after := _, guard := _ } :: _) _ _); refine wpList_load_stg (by kernel_rfl) 30 _ rfl w.heap.size rfl 30 cs (by first | exact S6.out | exact S5.out | exact S4.out | exact S3.out | exact S2.out | exact S1.out | exact S0.out) _ Tryd.underlying30 rfl (by rw [H3.out]; kernel_rfl) ?_)
    | (go_at_call 12; go_must (refine (HG.out _).mono ?_); rintro e w1 ⟨rfl, b1⟩; have S1 := Lib.hid (S0.out.below b1); have L1 := Lib.hid (L0.out.trans (b1.mono L0.out.size)); clear b1)
    | (go_at_call 13; go_must (refine (HP.out _).mono ?_); rintro e w2 ⟨rfl, b2⟩; have S2 := Lib.hid (S1.out.below b2); have L2 := Lib.hid (L1.out.trans (b2.mono L1.out.size)); clear b2)
    | (go_at_call 14; go_must (refine (HW.out _).mono ?_); rintro e w3 ⟨rfl, b3⟩; have S3 := Lib.hid (S2.out.below b3); have L3 := Lib.hid (L2.out.trans (b3.mono L2.out.size)); clear b3)
    | (go_at_call 15; go_must (refine (HC.out _).mono ?_); rintro e w4 ⟨rfl, b4⟩; have S4 := Lib.hid (S3.out.below b4); have L4 := Lib.hid (L3.out.trans (b4.mono L3.out.size)); have cp := C0.out _ S4.out; clear b4)
    | (go_at_call 16; go_must (refine (HGt.out _).mono ?_); rintro e w5 ⟨rfl, b5⟩; have S5 := Lib.hid ((S4.out.below b5).alloc (.cells cs 30 (0, 0))); have D5 := Lib.hid (St.new w5 30 cs); have L5 := Lib.hid ((L4.out.trans (b5.mono L4.out.size)).alloc (Nat.le_trans L4.out.size b5.size) (.cells cs 30 (0, 0))); clear b5 cp)
    | ((with_reducible show wpList _ _ _ ({ dst := _, op := .store _ (.tmp 6) _, type := _, pos := _, after := _, guard := _ } :: _) _ _); refine wpList_store_st rfl 30 _ _ rfl w5.heap.size cs rfl rfl _ (St.new w5 30 _) (by rw [H3.out]; kernel_rfl) (by rw [H3.out]; rfl) H4.out ?_; rw [alloc_row]; intro wz hz hst; subst hz; clear hst)
    | (go_at_call 17; go_must (refine (HB.out _).mono ?_); rintro e w6 ⟨rfl, b6⟩; have S6 := Lib.hid (S5.out.below b6); have D6 := Lib.hid (D5.out.below b6); have L6 := Lib.hid (L5.out.trans (b6.mono L5.out.size)); clear b6)
    | ((with_reducible show wpList _ _ _ ({ dst := _, op := .load _ (.tmp 6), type := _, pos := _, after := _, guard := _ } :: _) _ _); refine wpList_load_stg (by kernel_rfl) 30 _ rfl w5.heap.size rfl 30 cs (by first | exact D6.out | exact D5.out) _ Tryd.underlying30 rfl (by rw [H3.out]; kernel_rfl) ?_)
    | (go_at_call 11; go_must (refine (cknown_any _).mono ?_); rintro e w9 ⟨rfl, b9⟩; have L9 := Lib.hid (L6.out.trans (b9.mono L6.out.size)); clear b9))
  all_goals go_ret
  all_goals exact ⟨rfl, L9.out⟩

theorem puts_any (c : Cl) (w : World) : Calls Tryd.prog 4 #[.agg c.arr] w fun e w' => e = .returned (.bool true) ∧ Below w.heap.size w w' := by
  cases hl : c.large with
  | true => exact walk_large c w hl
  | false =>
    by_cases hx : (putR c).2 = 0
    · exact walk_good c w hl hx
    · exact walk_bad c w hl hx

theorem laidOut : laidOutB Tryd.prog = true := by kernel_rfl
theorem laid_met (os : Os) : laidMet Tryd.prog Rows.callPutsRow.laid ((laidWorld os).forCall (fun _ _ => 0) ⟨#[], #[.agg #[.int .i64 0, .string ⟨#[]⟩, .string ⟨#[]⟩, .string ⟨#[]⟩, .string ⟨#[]⟩, .int .i64 0, .int .i64 0, .int .i64 0, .string ⟨#[]⟩, .bool false, .int .i64 0, .bool false, .int .i64 0, .bool false, .int .i64 0, .bool false, .int .i64 0, .bool false, .int .i64 0, .bool false, .int .i64 0, .int .i64 0, .int .i64 0, .string ⟨#[]⟩]], []⟩).memory :=
  laidMet_of_run' 8 (by kernel_rfl) (by kernel_rfl)
theorem reads (os : Os) {H : Type} (enc : TypeId × Value → H) : ∃ places, DataW.whole enc Tryd.prog ((laidWorld os).forCall (fun _ _ => 0) ⟨#[], #[.agg #[.int .i64 0, .string ⟨#[]⟩, .string ⟨#[]⟩, .string ⟨#[]⟩, .string ⟨#[]⟩, .int .i64 0, .int .i64 0, .int .i64 0, .string ⟨#[]⟩, .bool false, .int .i64 0, .bool false, .int .i64 0, .bool false, .int .i64 0, .bool false, .int .i64 0, .bool false, .int .i64 0, .bool false, .int .i64 0, .int .i64 0, .int .i64 0, .string ⟨#[]⟩]], []⟩).memory Tryd.f4.params.toList Rows.callPutsSpec.vars false (#[.agg #[.int .i64 0, .string ⟨#[]⟩, .string ⟨#[]⟩, .string ⟨#[]⟩, .string ⟨#[]⟩, .int .i64 0, .int .i64 0, .int .i64 0, .string ⟨#[]⟩, .bool false, .int .i64 0, .bool false, .int .i64 0, .bool false, .int .i64 0, .bool false, .int .i64 0, .bool false, .int .i64 0, .bool false, .int .i64 0, .int .i64 0, .int .i64 0, .string ⟨#[]⟩]] : Array Value).toList 8 = some ([.agg [.lit (.int .i64 0), .lit (.string []), .lit (.string []), .lit (.string []), .lit (.string []), .lit (.int .i64 0), .lit (.int .i64 0), .lit (.int .i64 0), .lit (.string []), .agg [.agg [.lit (.bool false), .lit (.int .i64 0)], .agg [.lit (.bool false), .lit (.int .i64 0)], .agg [.lit (.bool false), .lit (.int .i64 0)], .agg [.lit (.bool false), .lit (.int .i64 0)], .agg [.lit (.bool false), .lit (.int .i64 0)]], .agg [.lit (.bool false), .lit (.int .i64 0)], .lit (.int .i64 0), .lit (.int .i64 0), .lit (.string [])]], [], places) :=
  ⟨[], by kernel_rfl⟩

set_option maxRecDepth 100000 in
theorem contract (H : Type) (enc : TypeId × Value → H) (W : World) (base : Nat) (args : Array Value) (ds gs : List (DataW H)) (before : List MemPlace)
    (hval : ∀ (j : Nat) t v, Tryd.f4.params[j]? = some t → args[j]? = some v → Value.okWide Tryd.prog W .any base t v)
    (hW : DataW.Whole enc Tryd.prog Tryd.f4.params.toList Rows.callPutsSpec.vars false W args.toList ds gs before) :
    Calls Tryd.prog 4 args W fun e W' => ∃ v, e = .returned v ∧ Rows.callPutsSpec.post enc Tryd.prog Tryd.f4 false true false false W args v W' := by
  have hW' := hW
  obtain ⟨p, q, hA0, hV, rfl, hfz, hnd⟩ := hW
  have hA : DataW.TrodAll enc Tryd.prog W 0 (fun _ => true) true Tryd.f4.params.toList args.toList ds p := hA0
  rw [Tryd.params4] at hA hval
  obtain ⟨v0, vs0, d0, ds0, p0, q0, hargs, rfl, rfl, h0, r0⟩ := trodAll_cons hA
  obtain ⟨rfl, rfl, rfl⟩ := trodAll_nil r0
  obtain rfl : args = #[v0] := by cases args; simp_all
  have post : ∀ W', Below W.heap.size W W' → Rows.callPutsSpec.post enc Tryd.prog Tryd.f4 false true false false W #[v0] (.bool true) W' := fun W' hg =>
    law_post laidOut (by rw [Tryd.params4]; decide +kernel) rfl Tryd.underlying4 rfl hW' rfl hg
  have done : ∀ (e : Ending) W', (e = .returned (.bool true) ∧ Below W.heap.size W W') → ∃ v, e = .returned v ∧ Rows.callPutsSpec.post enc Tryd.prog Tryd.f4 false true false false W #[v0] v W' := fun e W' ⟨he, hg⟩ => ⟨_, he, post W' hg⟩
  clear post
  obtain ⟨c, rfl, rfl, rfl, hc⟩ := open_call (hval 0 30 v0 rfl rfl) h0
  exact (puts_any c W).mono fun e W' h => done e W' h


set_option maxRecDepth 100000 in
theorem lifted (os : Os) (started : os.Started) (H : Type) (enc : TypeId × Value → H) (F : Stop.Interp) :
    ReturnsInHanded {} Tryd.checked os 4 .any ((OpenSpec.ofChange Rows.callPutsSpec).preRow enc Tryd.prog Tryd.f4 Rows.callPutsRow.domain false Rows.callPutsRow.laid) (((OpenSpec.ofChange Rows.callPutsSpec).at F).post enc Tryd.prog Tryd.f4 false true false false) := by
  obtain ⟨places, hx⟩ := reads os enc
  refine returnsInHanded_of_row (C := Tryd.checked) (s := OpenSpec.ofChange Rows.callPutsSpec) own started (by kernel_rfl) Tryd.func4
    (witness_row_at (enc := enc) (C := Tryd.checked) false (laidWorld os) #[.agg #[.int .i64 0, .string ⟨#[]⟩, .string ⟨#[]⟩, .string ⟨#[]⟩, .string ⟨#[]⟩, .int .i64 0, .int .i64 0, .int .i64 0, .string ⟨#[]⟩, .bool false, .int .i64 0, .bool false, .int .i64 0, .bool false, .int .i64 0, .bool false, .int .i64 0, .bool false, .int .i64 0, .bool false, .int .i64 0, .int .i64 0, .int .i64 0, .string ⟨#[]⟩]] rfl (by kernel_rfl) (by kernel_rfl) (by kernel_rfl)
      (OpenSpec.preRow_of_cond 8 hx (by kernel_rfl) (fun k hk => by cases hk) (by kernel_rfl) (laid_met os))) ?_
  intro W base args ds gs before hval hW _ _ _ hL _ _
  exact contract H enc W base args ds gs before hval hW

theorem said : Rows.CallPutsSaid :=
  OpenClaim.holds_of_cond 4 Tryd.f4 rfl rfl rfl rfl rfl rfl rfl ⟨rfl, rfl, rfl, rfl, rfl⟩ rfl rfl rfl rfl rfl (by kernel_rfl) Tryd.func4 (by kernel_rfl)
    (of_decide_eq_true (by kernel_rfl)) (by unfold Func.isWrapper; first | (rw [if_pos (by decide +kernel)]; kernel_rfl) | (rw [if_neg (by decide +kernel)]; exact ⟨rfl, rfl⟩))
    (fun os started H enc _ F => by rw [OpenClaim.pre_eq_preRow]; exact lifted os started H enc F)

theorem plain (f : FuncId) (fn : Func) (hf : Tryd.pinned.checked.prog.funcNamed Rows.callPutsRow.func = some f) (hfn : Tryd.pinned.checked.prog.funcs[f]? = some fn) :
    false = Tryd.pinned.checked.prog.looks [] ∧ ∀ (j : Nat) t, fn.params[j]? = some t → Tryd.pinned.checked.prog.wantsStandIn t = false := by
  obtain rfl : f = 4 := Option.some.inj ((show Tryd.prog.funcNamed Rows.callPutsRow.func = some 4 by kernel_rfl).symm.trans hf) |>.symm
  obtain rfl : fn = Tryd.f4 := (Option.some.inj (Tryd.func4.symm.trans hfn)).symm
  refine ⟨by kernel_rfl, fun j t ht => ?_⟩
  have hall : Tryd.f4.params.all (fun t => Tryd.prog.wantsStandIn t == false) = true := by kernel_rfl
  have := Array.all_eq_true.1 hall j (Array.getElem?_eq_some_iff.1 ht).1
  rw [(Array.getElem?_eq_some_iff.1 ht).2] at this
  have h2 : Tryd.prog.wantsStandIn t = false := by simpa using this
  exact h2

theorem card : Rows.CallPutsCardSaid :=
  Claim7.holds_tied_plain_at .later [] _ _ _ _ said (fun _ h => by cases h) (by kernel_rfl) (fun _ h => by cases h) callPuts_row_tie rfl ⟨rfl, rfl⟩ (by kernel_rfl) rfl plain (by kernel_rfl)

end Go.Proofs.YtdjnadgcjmlejaaDoor.callPuts
