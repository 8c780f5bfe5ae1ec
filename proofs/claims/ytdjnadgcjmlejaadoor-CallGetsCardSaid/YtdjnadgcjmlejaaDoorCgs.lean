/- PROVED HERE: for every procedure's number and text, the law CallGets returns true: any bytes are the call of any procedure that the document says, or none. CONDITIONS: the two tables that the row lists read as laid; the walks never read them. -/
import Derived.Test.YtdjnadgcjmlejaaDoorCt
import Derived.Test.YtdjnadgcjmlejaaDoorCs
import Derived.Test.YtdjnadgcjmlejaaDoorLaw
import Derived.Test.YtdjnadgcjmlejaaDoorLw
import Derived.ChangeMaps5
namespace Go.Proofs.YtdjnadgcjmlejaaDoor.callGets
open Go.ChangeShapes Go.WideShapes Go.ChangeAt Go.RowKit
open Go.ChangeMaps (open_string shut_string)

theorem wpList_load_stg {P : Program} {ops : Array Oper} {rest : List Oper} {o : Oper} {a : Act} {w : World} {Q : Exit → Act → World → Prop} (hw : Region.wanted o (yielded ops a.tmps) = true) (ty : TypeId) (x : Operand) (ho : o.op = .load ty x)
    (k : Nat) (hx : a.eval x = .pointer (some ⟨k, 0, none⟩)) (T : TypeId) (cs : Array Value) (hst : St T k cs w) (d : TypeDesc)
    (hu : P.underlying ty = some d) (hd : (match d with | .struct _ | .array _ _ => true | _ => false) = true) (hi : (P.info? ty).map (·.size) = some cs.size)
    (h : wpList P ops Q rest (a.put o.dst (.agg cs)) w) : wpList P ops Q (o :: rest) a w :=
  wpList_step fun K hK => by rw [if_pos hw]; exact wp_load_row ty x ho k hx T cs (0, 0) d hst hu hd hi (hK _ _ h)
theorem okB_small {c : Cl} (h : okB c = true) : c.small := by
  have hl := okB_iff c |>.1 h
  have hz : ∀ l, okL l c = true ∨ eqL l c (Cl.new 0) := fun l => by
    by_cases hm : l ∈ flds c.proc
    · exact .inl (hl.1 l hm)
    · exact .inr (hl.2 l hm)
  have T : ∀ (t : ByteArray) (m : Nat), m ≤ 300 → (decide (t.size ≤ m) = true ∨ t = (⟨#[]⟩ : ByteArray)) → t.size ≤ 300 := by
    intro t m hm h
    rcases h with h | h
    · simp only [decide_eq_true_eq] at h; omega
    · subst h; exact Nat.zero_le _
  exact ⟨T _ 64 (by decide) (hz .f), T _ 255 (by decide) (hz .n), T _ 64 (by decide) (hz .F), T _ 255 (by decide) (hz .N), T _ 256 (by decide) (hz .d), T _ 255 (by decide) (hz .t)⟩

set_option maxRecDepth 100000 in
set_option maxHeartbeats 1000000 in
theorem walk_long (p : Int) (s : ByteArray) (w : World) (h : 1500 < s.size) : Calls Tryd.prog 5 #[.int .i64 p, .string s] w fun e w' => e = .returned (.bool true) ∧ Below w.heap.size w w' := by
  have d1 : decide ((s.size : Int) > 1500) = true := by simp; omega
  go_enter Tryd.func5, Tryd.ntmps5
  go_wp2_with (go_at_call 11; go_must (refine (cknown_any _).mono ?_); rintro e w5 ⟨rfl, b5⟩)
  go_ret
  exact ⟨rfl, b5⟩

set_option maxRecDepth 100000 in
set_option maxHeartbeats 1000000 in
theorem walk_not (p : Int) (s : ByteArray) (w : World) (h : s.size ≤ 1500) (ht : there p = false) : Calls Tryd.prog 5 #[.int .i64 p, .string s] w fun e w' => e = .returned (.bool true) ∧ Below w.heap.size w w' := by
  have d1 : decide ((s.size : Int) > 1500) = false := by simp; omega
  have HT := fun w => cfThere_any p w
  have HG := fun w => cGet_any p s w (by omega)
  have hzb := zero_built
  rw [← zero_arr] at hzb
  have e : getR p s = (Cl.new 0, 22) := by unfold getR; rw [ht]; rfl
  rw [e] at HG
  rw [ht] at HT
  dsimp only at HG
  have hne := fun W => run_eq_call (Cl.new 0) (Cl.new 0) W
  have hqg : ∀ (W : World) (x y : Operand), (eqGuard .eql 30 x y (.agg (Cl.new 0).arr) (.agg (Cl.new 0).arr)).run Tryd.prog W = .ok () W := fun W x y => run_eqGuard_agg W .eql 30 x y _ _ (by kernel_rfl)
  simp only [decide_true] at hne
  have h3 : (Cl.new 0).arr.size = 24 := rfl
  have h4 : (Cl.new 0).arr.all (·.oneCell') = true := Cl.arr_one _
  obtain ⟨zs, hzs⟩ : ∃ z, z = (Cl.new 0).arr := ⟨_, rfl⟩
  rw [← hzs] at HG hzb hne hqg h3 h4
  have HZB := Lib.hid hzb
  have H3 := Lib.hid h3
  have H4 := Lib.hid h4
  replace HT := Lib.hid HT
  replace HG := Lib.hid HG
  clear e ht hzs hzb h3 h4
  go_enter Tryd.func5, Tryd.ntmps5
  go_wp2_with (first
    | (go_at_call 16; go_must (refine (HG.out _).mono ?_); rintro e w1 ⟨rfl, b1⟩; have C1 := Lib.hid (St.new w1 30 zs); have L1 := Lib.hid (b1.alloc b1.size (.cells zs 30 (0, 0))); clear b1)
    | ((with_reducible show wpList _ _ _ ({ dst := _, op := .store _ (.tmp 5) _, type := _, pos := _, after := _, guard := _ } :: _) _ _); refine wpList_store_st rfl 30 _ _ rfl w1.heap.size zs rfl rfl _ (St.new w1 30 _) (by rw [H3.out]; kernel_rfl) (by rw [H3.out]; rfl) H4.out ?_; rw [alloc_row]; intro wz hz hst; subst hz; clear hst)
    | (go_at_call 18; go_must (refine (HT.out _).mono ?_); rintro e w2 ⟨rfl, rfl⟩)
    | ((with_reducible show wpList _ _ _ ({ dst := _, op := .load _ (.tmp 5), type := _, pos := _, after := _, guard := _ } :: _) _ _); refine wpList_load_stg (by kernel_rfl) 30 _ rfl w1.heap.size rfl 30 zs C1.out _ Tryd.underlying30 rfl (by rw [H3.out]; kernel_rfl) ?_)
    | ((with_reducible show wpList _ _ _ ({ dst := _, op := .build 30 _, type := _, pos := _, after := _, guard := _ } :: _) _ _); refine wpList_build_as rfl 30 _ rfl zs HZB.out ?_)
    | (go_at_call 11; go_must (refine (cknown_any _).mono ?_); rintro e w5 ⟨rfl, b5⟩))
  all_goals go_ret
  all_goals exact ⟨rfl, L1.out.trans (b5.mono L1.out.size)⟩

set_option maxRecDepth 100000 in
set_option maxHeartbeats 2000000 in
theorem walk_bad (p : Int) (s : ByteArray) (w : World) (h : s.size ≤ 1500) (ht : there p = true) (hg : good (getX p s) = false) : Calls Tryd.prog 5 #[.int .i64 p, .string s] w fun e w' => e = .returned (.bool true) ∧ Below w.heap.size w w' := by
  have d1 : decide ((s.size : Int) > 1500) = false := by simp; omega
  have HT := fun w => cfThere_any p w
  have HG := fun w => cGet_any p s w (by omega)
  have hzb := zero_built
  rw [← zero_arr] at hzb
  have HR := fun w => cfGet_any p s w (by omega)
  have e : getR p s = (Cl.new 0, 14) := by unfold getR; rw [ht, hg]; rfl
  have e2 : getF p s = (Cl.new 0, false) := by unfold getF; rw [hg]; rfl
  rw [e] at HG
  rw [e2] at HR
  rw [ht] at HT
  obtain ⟨c, hc⟩ : ∃ c, c = Cl.new 0 := ⟨_, rfl⟩
  rw [← hc] at HG HR hzb
  dsimp only at HG HR
  have hne := fun W => run_eq_call c c W
  have hqg : ∀ (W : World) (x y : Operand), (eqGuard .eql 30 x y (.agg c.arr) (.agg c.arr)).run Tryd.prog W = .ok () W := fun W x y => run_eqGuard_agg W .eql 30 x y _ _ (by kernel_rfl)
  simp only [decide_true] at hne
  have h3 : c.arr.size = 24 := rfl
  have h4 : c.arr.all (·.oneCell') = true := Cl.arr_one _
  obtain ⟨zs, hzs⟩ : ∃ z, z = c.arr := ⟨_, rfl⟩
  rw [← hzs] at HG HR hne hqg h3 h4 hzb
  have HZB := Lib.hid hzb
  have H3 := Lib.hid h3
  have H4 := Lib.hid h4
  replace HT := Lib.hid HT
  replace HG := Lib.hid HG
  replace HR := Lib.hid HR
  clear e e2 ht hg hzs hzb h3 h4 hc
  go_enter Tryd.func5, Tryd.ntmps5
  go_wp2_with (first
    | (go_at_call 16; go_must (refine (HG.out _).mono ?_); rintro e w1 ⟨rfl, b1⟩; have C1 := Lib.hid (St.new w1 30 zs); have L1 := Lib.hid (b1.alloc b1.size (.cells zs 30 (0, 0))); clear b1)
    | ((with_reducible show wpList _ _ _ ({ dst := _, op := .store _ (.tmp 5) _, type := _, pos := _, after := _, guard := _ } :: _) _ _); refine wpList_store_st rfl 30 _ _ rfl w1.heap.size zs rfl rfl _ (St.new w1 30 _) (by rw [H3.out]; kernel_rfl) (by rw [H3.out]; rfl) H4.out ?_; rw [alloc_row]; intro wz hz hst; subst hz; clear hst)
    | (go_at_call 18; go_must (refine (HT.out _).mono ?_); rintro e w2 ⟨rfl, rfl⟩)
    | (go_at_call 19; go_must (refine (HR.out _).mono ?_); rintro e w3 ⟨rfl, b3⟩; have C3 := Lib.hid ((C1.out.below b3).alloc (.cells zs 30 (0, 0))); have D3 := Lib.hid (St.new w3 30 zs); have L3 := Lib.hid ((L1.out.trans (b3.mono L1.out.size)).alloc (Nat.le_trans L1.out.size b3.size) (.cells zs 30 (0, 0))); clear b3)
    | ((with_reducible show wpList _ _ _ ({ dst := _, op := .store _ (.tmp 7) _, type := _, pos := _, after := _, guard := _ } :: _) _ _); refine wpList_store_st rfl 30 _ _ rfl w3.heap.size zs rfl rfl _ (St.new w3 30 _) (by rw [H3.out]; kernel_rfl) (by rw [H3.out]; rfl) H4.out ?_; rw [alloc_row]; intro wz hz hst; subst hz; clear hst)
    | ((with_reducible show wpList _ _ _ ({ dst := _, op := .load _ (.tmp 5), type := _, pos := _, after := _, guard := _ } :: _) _ _); refine wpList_load_stg (by kernel_rfl) 30 _ rfl w1.heap.size rfl 30 zs C3.out _ Tryd.underlying30 rfl (by rw [H3.out]; kernel_rfl) ?_)
    | ((with_reducible show wpList _ _ _ ({ dst := _, op := .build 30 _, type := _, pos := _, after := _, guard := _ } :: _) _ _); refine wpList_build_as rfl 30 _ rfl zs HZB.out ?_)
    | (go_at_call 11; go_must (refine (cknown_any _).mono ?_); rintro e w5 ⟨rfl, b5⟩))
  all_goals go_ret
  all_goals exact ⟨rfl, L3.out.trans (b5.mono L3.out.size)⟩

set_option maxRecDepth 100000 in
set_option maxHeartbeats 2000000 in
theorem walk_good (p : Int) (s : ByteArray) (w : World) (h : s.size ≤ 1500) (ht : there p = true) (hg : good (getX p s) = true) : Calls Tryd.prog 5 #[.int .i64 p, .string s] w fun e w' => e = .returned (.bool true) ∧ Below w.heap.size w w' := by
  have d1 : decide ((s.size : Int) > 1500) = false := by simp; omega
  have HT := fun w => cfThere_any p w
  have HG := fun w => cGet_any p s w (by omega)
  have hzb := zero_built
  rw [← zero_arr] at hzb
  have HR := fun w => cfGet_any p s w (by omega)
  have e : getR p s = ((getX p s).c, 0) := by unfold getR; rw [ht, hg]; rfl
  have e2 : getF p s = ((getX p s).c, true) := by unfold getF; rw [hg]; rfl
  rw [e] at HG
  rw [e2] at HR
  rw [ht] at HT
  obtain ⟨hok, hby⟩ := get_good hg
  obtain ⟨c, hc⟩ : ∃ c, c = (getX p s).c := ⟨_, rfl⟩
  rw [← hc] at HG HR hok hby
  have HBY := fun w => cfBytes_any c w ((okB_iff c).1 hok).1 (okB_small hok)
  rw [hby, str_data] at HBY
  dsimp only at HG HR
  have hne := fun W => run_eq_call c c W
  have hqg : ∀ (W : World) (x y : Operand), (eqGuard .eql 30 x y (.agg c.arr) (.agg c.arr)).run Tryd.prog W = .ok () W := fun W x y => run_eqGuard_agg W .eql 30 x y _ _ (by kernel_rfl)
  simp only [decide_true] at hne
  have h3 : c.arr.size = 24 := rfl
  have h4 : c.arr.all (·.oneCell') = true := Cl.arr_one _
  obtain ⟨zs, hzs⟩ : ∃ z, z = c.arr := ⟨_, rfl⟩
  rw [← hzs] at HG HR hne hqg h3 h4 HBY
  have H3 := Lib.hid h3
  have H4 := Lib.hid h4
  replace HT := Lib.hid HT
  replace HG := Lib.hid HG
  replace HR := Lib.hid HR
  replace HBY := Lib.hid HBY
  clear e e2 ht hg hzs hzb h3 h4 hc hok hby
  go_enter Tryd.func5, Tryd.ntmps5
  go_wp2_with (first
    | (go_at_call 16; go_must (refine (HG.out _).mono ?_); rintro e w1 ⟨rfl, b1⟩; have C1 := Lib.hid (St.new w1 30 zs); have L1 := Lib.hid (b1.alloc b1.size (.cells zs 30 (0, 0))); clear b1)
    | ((with_reducible show wpList _ _ _ ({ dst := _, op := .store _ (.tmp 5) _, type := _, pos := _, after := _, guard := _ } :: _) _ _); refine wpList_store_st rfl 30 _ _ rfl w1.heap.size zs rfl rfl _ (St.new w1 30 _) (by rw [H3.out]; kernel_rfl) (by rw [H3.out]; rfl) H4.out ?_; rw [alloc_row]; intro wz hz hst; subst hz; clear hst)
    | (go_at_call 18; go_must (refine (HT.out _).mono ?_); rintro e w2 ⟨rfl, rfl⟩)
    | (go_at_call 19; go_must (refine (HR.out _).mono ?_); rintro e w3 ⟨rfl, b3⟩; have C3 := Lib.hid ((C1.out.below b3).alloc (.cells zs 30 (0, 0))); have D3 := Lib.hid (St.new w3 30 zs); have L3 := Lib.hid ((L1.out.trans (b3.mono L1.out.size)).alloc (Nat.le_trans L1.out.size b3.size) (.cells zs 30 (0, 0))); clear b3)
    | ((with_reducible show wpList _ _ _ ({ dst := _, op := .store _ (.tmp 7) _, type := _, pos := _, after := _, guard := _ } :: _) _ _); refine wpList_store_st rfl 30 _ _ rfl w3.heap.size zs rfl rfl _ (St.new w3 30 _) (by rw [H3.out]; kernel_rfl) (by rw [H3.out]; rfl) H4.out ?_; rw [alloc_row]; intro wz hz hst; subst hz; clear hst)
    | ((with_reducible show wpList _ _ _ ({ dst := _, op := .load _ (.tmp 5), type := _, pos := _, after := _, guard := _ } :: _) _ _); refine wpList_load_stg (by kernel_rfl) 30 _ rfl w1.heap.size rfl 30 zs C3.out _ Tryd.underlying30 rfl (by rw [H3.out]; kernel_rfl) ?_)
    | ((with_reducible show wpList _ _ _ ({ dst := _, op := .load _ (.tmp 7), type := _, pos := _, after := _, guard := _ } :: _) _ _); refine wpList_load_stg (by kernel_rfl) 30 _ rfl w3.heap.size rfl 30 zs D3.out _ Tryd.underlying30 rfl (by rw [H3.out]; kernel_rfl) ?_)
    | (go_at_call 17; go_must (refine (HBY.out _).mono ?_); rintro e w4 ⟨rfl, b4⟩; have L4 := Lib.hid (L3.out.trans (b4.mono L3.out.size)); clear b4)
    | (go_at_call 11; go_must (refine (cknown_any _).mono ?_); rintro e w5 ⟨rfl, b5⟩))
  all_goals go_ret
  all_goals exact ⟨rfl, L4.out.trans (b5.mono L4.out.size)⟩

theorem gets_any (p : Int) (s : ByteArray) (w : World) : Calls Tryd.prog 5 #[.int .i64 p, .string s] w fun e w' => e = .returned (.bool true) ∧ Below w.heap.size w w' := by
  by_cases h : 1500 < s.size
  · exact walk_long p s w h
  · cases ht : there p with
    | false => exact walk_not p s w (by omega) ht
    | true =>
      cases hg : good (getX p s) with
      | false => exact walk_bad p s w (by omega) ht hg
      | true => exact walk_good p s w (by omega) ht hg

theorem laidOut : laidOutB Tryd.prog = true := by kernel_rfl
theorem laid_met (os : Os) : laidMet Tryd.prog Rows.callGetsRow.laid ((laidWorld os).forCall (fun _ _ => 0) ⟨#[], #[.int .i64 0, .string ⟨#[]⟩], []⟩).memory :=
  laidMet_of_run' 8 (by kernel_rfl) (by kernel_rfl)
theorem reads (os : Os) {H : Type} (enc : TypeId × Value → H) : ∃ places, DataW.whole enc Tryd.prog ((laidWorld os).forCall (fun _ _ => 0) ⟨#[], #[.int .i64 0, .string ⟨#[]⟩], []⟩).memory Tryd.f5.params.toList Rows.callGetsSpec.vars false (#[.int .i64 0, .string ⟨#[]⟩] : Array Value).toList 8 = some ([.lit (.int .i64 0), .lit (.string [])], [], places) :=
  ⟨[], by kernel_rfl⟩

set_option maxRecDepth 100000 in
theorem contract (H : Type) (enc : TypeId × Value → H) (W : World) (base : Nat) (args : Array Value) (ds gs : List (DataW H)) (before : List MemPlace)
    (hval : ∀ (j : Nat) t v, Tryd.f5.params[j]? = some t → args[j]? = some v → Value.okWide Tryd.prog W .any base t v)
    (hW : DataW.Whole enc Tryd.prog Tryd.f5.params.toList Rows.callGetsSpec.vars false W args.toList ds gs before) :
    Calls Tryd.prog 5 args W fun e W' => ∃ v, e = .returned v ∧ Rows.callGetsSpec.post enc Tryd.prog Tryd.f5 false true false false W args v W' := by
  have hW' := hW
  obtain ⟨p, q, hA0, hV, rfl, hfz, hnd⟩ := hW
  have hA : DataW.TrodAll enc Tryd.prog W 0 (fun _ => true) true Tryd.f5.params.toList args.toList ds p := hA0
  rw [Tryd.params5] at hA hval
  obtain ⟨v0, vs0, d0, ds0, p0, q0, hargs, rfl, rfl, h0, r0⟩ := trodAll_cons hA
  obtain ⟨v1, vs1, d1, ds1, p1, q1, rfl, rfl, rfl, h1, r1⟩ := trodAll_cons r0
  obtain ⟨rfl, rfl, rfl⟩ := trodAll_nil r1
  obtain rfl : args = #[v0, v1] := by cases args; simp_all
  have post : ∀ W', Below W.heap.size W W' → Rows.callGetsSpec.post enc Tryd.prog Tryd.f5 false true false false W #[v0, v1] (.bool true) W' := fun W' hg =>
    law_post laidOut (by rw [Tryd.params5]; decide +kernel) rfl Tryd.underlying4 rfl hW' rfl hg
  have done : ∀ (e : Ending) W', (e = .returned (.bool true) ∧ Below W.heap.size W W') → ∃ v, e = .returned v ∧ Rows.callGetsSpec.post enc Tryd.prog Tryd.f5 false true false false W #[v0, v1] v W' := fun e W' ⟨he, hg⟩ => ⟨_, he, post W' hg⟩
  clear post
  obtain ⟨n, rfl, rfl, rfl, hn⟩ := open_int Tryd.underlying3 (hval 0 3 v0 rfl rfl) h0
  obtain ⟨s, rfl, rfl, rfl, hs⟩ := open_string Tryd.underlying9 (hval 1 9 v1 rfl rfl) h1
  exact (gets_any n s W).mono fun e W' h => done e W' h


set_option maxRecDepth 100000 in
theorem lifted (os : Os) (started : os.Started) (H : Type) (enc : TypeId × Value → H) (F : Stop.Interp) :
    ReturnsInHanded {} Tryd.checked os 5 .any ((OpenSpec.ofChange Rows.callGetsSpec).preRow enc Tryd.prog Tryd.f5 Rows.callGetsRow.domain false Rows.callGetsRow.laid) (((OpenSpec.ofChange Rows.callGetsSpec).at F).post enc Tryd.prog Tryd.f5 false true false false) := by
  obtain ⟨places, hx⟩ := reads os enc
  refine returnsInHanded_of_row (C := Tryd.checked) (s := OpenSpec.ofChange Rows.callGetsSpec) own started (by kernel_rfl) Tryd.func5
    (witness_row_at (enc := enc) (C := Tryd.checked) false (laidWorld os) #[.int .i64 0, .string ⟨#[]⟩] rfl (by kernel_rfl) (by kernel_rfl) (by kernel_rfl)
      (OpenSpec.preRow_of_cond 8 hx (by kernel_rfl) (fun k hk => by cases hk) (by kernel_rfl) (laid_met os))) ?_
  intro W base args ds gs before hval hW _ _ _ hL _ _
  exact contract H enc W base args ds gs before hval hW

theorem said : Rows.CallGetsSaid :=
  OpenClaim.holds_of_cond 5 Tryd.f5 rfl rfl rfl rfl rfl rfl rfl ⟨rfl, rfl, rfl, rfl, rfl⟩ rfl rfl rfl rfl rfl (by kernel_rfl) Tryd.func5 (by kernel_rfl)
    (of_decide_eq_true (by kernel_rfl)) (by unfold Func.isWrapper; first | (rw [if_pos (by decide +kernel)]; kernel_rfl) | (rw [if_neg (by decide +kernel)]; exact ⟨rfl, rfl⟩))
    (fun os started H enc _ F => by rw [OpenClaim.pre_eq_preRow]; exact lifted os started H enc F)

theorem plain (f : FuncId) (fn : Func) (hf : Tryd.pinned.checked.prog.funcNamed Rows.callGetsRow.func = some f) (hfn : Tryd.pinned.checked.prog.funcs[f]? = some fn) :
    false = Tryd.pinned.checked.prog.looks [] ∧ ∀ (j : Nat) t, fn.params[j]? = some t → Tryd.pinned.checked.prog.wantsStandIn t = false := by
  obtain rfl : f = 5 := Option.some.inj ((show Tryd.prog.funcNamed Rows.callGetsRow.func = some 5 by kernel_rfl).symm.trans hf) |>.symm
  obtain rfl : fn = Tryd.f5 := (Option.some.inj (Tryd.func5.symm.trans hfn)).symm
  refine ⟨by kernel_rfl, fun j t ht => ?_⟩
  have hall : Tryd.f5.params.all (fun t => Tryd.prog.wantsStandIn t == false) = true := by kernel_rfl
  have := Array.all_eq_true.1 hall j (Array.getElem?_eq_some_iff.1 ht).1
  rw [(Array.getElem?_eq_some_iff.1 ht).2] at this
  have h2 : Tryd.prog.wantsStandIn t = false := by simpa using this
  exact h2

theorem card : Rows.CallGetsCardSaid :=
  Claim7.holds_tied_plain_at .later [] _ _ _ _ said (fun _ h => by cases h) (by kernel_rfl) (fun _ h => by cases h) callGets_row_tie rfl ⟨rfl, rfl⟩ (by kernel_rfl) rfl plain (by kernel_rfl)

end Go.Proofs.YtdjnadgcjmlejaaDoor.callGets
