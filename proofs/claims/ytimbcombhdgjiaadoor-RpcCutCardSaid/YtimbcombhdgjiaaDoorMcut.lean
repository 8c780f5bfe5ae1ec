/- PROVED HERE: for every message and number, the law RpcCut returns true: of any message's bytes no beginning is that message. CONDITIONS: the tables that the row lists read as laid; the walks never read them. -/
import Derived.Test.YtimbcombhdgjiaaDoorMc
import Derived.Test.YtimbcombhdgjiaaDoorMq
import Derived.Test.YtimbcombhdgjiaaDoorMs
import Derived.Test.YtimbcombhdgjiaaDoorLaw
import Derived.Test.YtimbcombhdgjiaaDoorLw
import Derived.ChangeMaps5
namespace Go.Proofs.YtimbcombhdgjiaaDoor.rpcCut
open Go.ChangeShapes Go.WideShapes Go.ChangeAt Go.RowKit
open Go.ChangeMaps (open_string shut_string)
set_option linter.unusedSimpArgs false
set_option linter.unusedVariables false

theorem own : ownKnob Tryd.prog.godebug = none := by kernel_rfl

set_option maxRecDepth 100000 in
set_option maxHeartbeats 2000000 in
theorem walk_big (m : Mg) (n : Int) (w : World) (hb : 3000 < m.body.size) : Calls Tryd.prog 5 #[.agg m.arr, .int .i64 n] w fun e w' => e = .returned (.bool true) ∧ Below w.heap.size w w' := by
  have h3 : m.arr.size = 10 := rfl
  have h4 : m.arr.all (·.oneCell') = true := Mg.arr_one _
  have st := St.new w 25 m.arr
  have cb : (w.alloc (.cells m.arr 25 (0, 0))).cell? ⟨w.heap.size, 9, none⟩ = some (.string m.body) := st.cell rfl
  obtain ⟨bd, hbd⟩ : ∃ b, b = m.body := ⟨_, rfl⟩
  rw [← hbd] at cb
  rw [← hbd] at hb
  have d1 : decide ((bd.size : Int) > 3000) = true := decide_eq_true (by omega)
  clear hb hbd
  obtain ⟨cs, hcs⟩ : ∃ cs, cs = m.arr := ⟨_, rfl⟩
  rw [← hcs] at h3 h4 st cb ⊢
  have S0 := Lib.hid st
  have L0 := Lib.hid (below_one w (.cells cs 25 (0, 0)))
  have H3 := Lib.hid h3
  have H4 := Lib.hid h4
  clear hcs st h3 h4
  go_enter Tryd.func5, Tryd.ntmps5
  go_wp2_with (first
    | (go_at_call 6; go_must (refine (mknown_any _).mono ?_); rintro e w9 ⟨rfl, b9⟩; have L9 := Lib.hid (L0.out.trans (b9.mono L0.out.size)); clear b9))
  all_goals (try go_ret)
  all_goals exact ⟨rfl, L9.out⟩

set_option maxRecDepth 100000 in
set_option maxHeartbeats 2000000 in
theorem walk_not (m : Mg) (n : Int) (w : World) (hb : m.body.size ≤ 3000) (hk : okMg m = false) : Calls Tryd.prog 5 #[.agg m.arr, .int .i64 n] w fun e w' => e = .returned (.bool true) ∧ Below w.heap.size w w' := by
  have h3 : m.arr.size = 10 := rfl
  have h4 : m.arr.all (·.oneCell') = true := Mg.arr_one _
  have st := St.new w 25 m.arr
  have cb : (w.alloc (.cells m.arr 25 (0, 0))).cell? ⟨w.heap.size, 9, none⟩ = some (.string m.body) := st.cell rfl
  obtain ⟨bd, hbd⟩ : ∃ b, b = m.body := ⟨_, rfl⟩
  rw [← hbd] at cb
  have HK := fun w => mfCheck_any m w
  have d1 : decide ((bd.size : Int) > 3000) = false := decide_eq_false (by rw [hbd]; omega)
  rw [hk] at HK
  clear hb hbd hk
  obtain ⟨cs, hcs⟩ : ∃ cs, cs = m.arr := ⟨_, rfl⟩
  rw [← hcs] at h3 h4 st cb HK ⊢
  have S0 := Lib.hid st
  have L0 := Lib.hid (below_one w (.cells cs 25 (0, 0)))
  have H3 := Lib.hid h3
  have H4 := Lib.hid h4
  replace HK := Lib.hid HK
  clear hcs st h3 h4
  go_enter Tryd.func5, Tryd.ntmps5
  go_wp2_with (first
    | ((with_reducible show wpList _ _ _ ({ dst := _, op := .load 25 (.tmp 2), type := _, pos := _, after := _, guard := _ } :: _) _ _); refine wpList_load_stg (by rfl) 25 _ rfl w.heap.size rfl 25 cs (by first | exact S0.out) _ Tryd.underlying25 rfl (by rw [H3.out]; kernel_rfl) ?_)
    | (go_at_call 8; go_must (refine (HK.out _).mono ?_); rintro e w1 ⟨rfl, b1⟩; have S1 := Lib.hid (S0.out.below b1); have L1 := Lib.hid (L0.out.trans (b1.mono L0.out.size)); clear b1)
    | (go_at_call 6; go_must (refine (mknown_any _).mono ?_); rintro e w9 ⟨rfl, b9⟩; have L9 := Lib.hid (L1.out.trans (b9.mono L1.out.size)); clear b9))
  all_goals (try go_ret)
  all_goals exact ⟨rfl, L9.out⟩

set_option maxRecDepth 100000 in
set_option maxHeartbeats 2000000 in
theorem walk_low (m : Mg) (n : Int) (w : World) (hb : m.body.size ≤ 3000) (hk : okMg m = true) (hn : n < 0) : Calls Tryd.prog 5 #[.agg m.arr, .int .i64 n] w fun e w' => e = .returned (.bool true) ∧ Below w.heap.size w w' := by
  have h3 : m.arr.size = 10 := rfl
  have h4 : m.arr.all (·.oneCell') = true := Mg.arr_one _
  have st := St.new w 25 m.arr
  have cb : (w.alloc (.cells m.arr 25 (0, 0))).cell? ⟨w.heap.size, 9, none⟩ = some (.string m.body) := st.cell rfl
  obtain ⟨bd, hbd⟩ : ∃ b, b = m.body := ⟨_, rfl⟩
  rw [← hbd] at cb
  have HK := fun w => mfCheck_any m w
  have d1 : decide ((bd.size : Int) > 3000) = false := decide_eq_false (by rw [hbd]; omega)
  rw [hk] at HK
  have HB := fun w => mfBytes_any m w hk
  obtain ⟨bs, hbs⟩ : ∃ b, b = str (mgBytes m) := ⟨_, rfl⟩
  rw [← hbs] at HB
  have d3 : decide (n < 0) = true := decide_eq_true hn
  clear hbs hb hbd hk hn
  obtain ⟨cs, hcs⟩ : ∃ cs, cs = m.arr := ⟨_, rfl⟩
  rw [← hcs] at h3 h4 st cb HK HB ⊢
  have S0 := Lib.hid st
  have L0 := Lib.hid (below_one w (.cells cs 25 (0, 0)))
  have H3 := Lib.hid h3
  have H4 := Lib.hid h4
  replace HK := Lib.hid HK
  replace HB := Lib.hid HB
  clear hcs st h3 h4
  go_enter Tryd.func5, Tryd.ntmps5
  go_wp2_with (first
    | ((with_reducible show wpList _ _ _ ({ dst := _, op := .load 25 (.tmp 2), type := _, pos := _, after := _, guard := _ } :: _) _ _); refine wpList_load_stg (by rfl) 25 _ rfl w.heap.size rfl 25 cs (by first | exact S1.out | exact S0.out) _ Tryd.underlying25 rfl (by rw [H3.out]; kernel_rfl) ?_)
    | (go_at_call 8; go_must (refine (HK.out _).mono ?_); rintro e w1 ⟨rfl, b1⟩; have S1 := Lib.hid (S0.out.below b1); have L1 := Lib.hid (L0.out.trans (b1.mono L0.out.size)); clear b1)
    | (go_at_call 11; go_must (refine (HB.out _).mono ?_); rintro e w2 ⟨rfl, b2⟩; have S2 := Lib.hid (S1.out.below b2); have L2 := Lib.hid (L1.out.trans (b2.mono L1.out.size)); clear b2)
    | (go_at_call 6; go_must (refine (mknown_any _).mono ?_); rintro e w9 ⟨rfl, b9⟩; have L9 := Lib.hid (L2.out.trans (b9.mono L2.out.size)); clear b9))
  all_goals (try go_ret)
  all_goals exact ⟨rfl, L9.out⟩

set_option maxRecDepth 100000 in
set_option maxHeartbeats 2000000 in
theorem walk_high (m : Mg) (n : Int) (w : World) (hb : m.body.size ≤ 3000) (hk : okMg m = true) (h0 : 0 ≤ n) (hn : ((str (mgBytes m)).size : Int) ≤ n) : Calls Tryd.prog 5 #[.agg m.arr, .int .i64 n] w fun e w' => e = .returned (.bool true) ∧ Below w.heap.size w w' := by
  have h3 : m.arr.size = 10 := rfl
  have h4 : m.arr.all (·.oneCell') = true := Mg.arr_one _
  have st := St.new w 25 m.arr
  have cb : (w.alloc (.cells m.arr 25 (0, 0))).cell? ⟨w.heap.size, 9, none⟩ = some (.string m.body) := st.cell rfl
  obtain ⟨bd, hbd⟩ : ∃ b, b = m.body := ⟨_, rfl⟩
  rw [← hbd] at cb
  have HK := fun w => mfCheck_any m w
  have d1 : decide ((bd.size : Int) > 3000) = false := decide_eq_false (by rw [hbd]; omega)
  rw [hk] at HK
  have HB := fun w => mfBytes_any m w hk
  obtain ⟨bs, hbs⟩ : ∃ b, b = str (mgBytes m) := ⟨_, rfl⟩
  rw [← hbs] at HB hn
  have d3 : decide (n < 0) = false := decide_eq_false (by omega)
  have d4 : decide (n ≥ (bs.size : Int)) = true := decide_eq_true hn
  clear hbs hb hbd hk hn h0
  obtain ⟨cs, hcs⟩ : ∃ cs, cs = m.arr := ⟨_, rfl⟩
  rw [← hcs] at h3 h4 st cb HK HB ⊢
  have S0 := Lib.hid st
  have L0 := Lib.hid (below_one w (.cells cs 25 (0, 0)))
  have H3 := Lib.hid h3
  have H4 := Lib.hid h4
  replace HK := Lib.hid HK
  replace HB := Lib.hid HB
  clear hcs st h3 h4
  go_enter Tryd.func5, Tryd.ntmps5
  go_wp2_with (first
    | ((with_reducible show wpList _ _ _ ({ dst := _, op := .load 25 (.tmp 2), type := _, pos := _, after := _, guard := _ } :: _) _ _); refine wpList_load_stg (by rfl) 25 _ rfl w.heap.size rfl 25 cs (by first | exact S1.out | exact S0.out) _ Tryd.underlying25 rfl (by rw [H3.out]; kernel_rfl) ?_)
    | (go_at_call 8; go_must (refine (HK.out _).mono ?_); rintro e w1 ⟨rfl, b1⟩; have S1 := Lib.hid (S0.out.below b1); have L1 := Lib.hid (L0.out.trans (b1.mono L0.out.size)); clear b1)
    | (go_at_call 11; go_must (refine (HB.out _).mono ?_); rintro e w2 ⟨rfl, b2⟩; have S2 := Lib.hid (S1.out.below b2); have L2 := Lib.hid (L1.out.trans (b2.mono L1.out.size)); clear b2)
    | (go_at_call 6; go_must (refine (mknown_any _).mono ?_); rintro e w9 ⟨rfl, b9⟩; have L9 := Lib.hid (L2.out.trans (b9.mono L2.out.size)); clear b9))
  all_goals (try go_ret)
  all_goals exact ⟨rfl, L9.out⟩

set_option maxRecDepth 100000 in
set_option maxHeartbeats 2000000 in
theorem walk_err (m : Mg) (k : Nat) (w : World) (hb : m.body.size ≤ 3000) (hk : okMg m = true) (hn : k < (str (mgBytes m)).size) (hx : (mgGet ((str (mgBytes m)).extract 0 k)).2 ≠ 0) : Calls Tryd.prog 5 #[.agg m.arr, .int .i64 k] w fun e w' => e = .returned (.bool true) ∧ Below w.heap.size w w' := by
  have h3 : m.arr.size = 10 := rfl
  have h4 : m.arr.all (·.oneCell') = true := Mg.arr_one _
  have st := St.new w 25 m.arr
  have cb : (w.alloc (.cells m.arr 25 (0, 0))).cell? ⟨w.heap.size, 9, none⟩ = some (.string m.body) := st.cell rfl
  obtain ⟨bd, hbd⟩ : ∃ b, b = m.body := ⟨_, rfl⟩
  rw [← hbd] at cb
  have HK := fun w => mfCheck_any m w
  have d1 : decide ((bd.size : Int) > 3000) = false := decide_eq_false (by rw [hbd]; omega)
  rw [hk] at HK
  have HB := fun w => mfBytes_any m w hk
  have hl : (str (mgBytes m)).size ≤ 1073741824 := by
    rw [str_size, mgBytes_len]
    split <;> omega
  have hex : (str (mgBytes m)).extract 0 k = str ((mgBytes m).take k) := by
    apply ByteArray.ext
    apply Array.toList_inj.1
    rw [ByteArray.data_extract, Array.toList_extract]
    simp [str_toList, List.extract]
  have hcut := mgGet_cut hk k (by rw [str_size] at hn; exact hn)
  rw [← hex] at hcut
  have HG := fun w => mGet_any ((str (mgBytes m)).extract 0 k) w (by rw [ByteArray.size_extract]; omega)
  obtain ⟨q, hq⟩ : ∃ q, q = mgGet ((str (mgBytes m)).extract 0 k) := ⟨_, rfl⟩
  rw [← hq] at HG hcut hx
  obtain ⟨m2, x⟩ := q
  dsimp only at HG hx
  obtain ⟨bs, hbs⟩ : ∃ b, b = str (mgBytes m) := ⟨_, rfl⟩
  rw [← hbs] at HB HG hn
  have e1 : (x == 0) = false := by simpa using hx
  have e2 : (x != 0) = true := by simpa using hx
  clear hx
  have d3 : decide ((k : Int) < 0) = false := decide_eq_false (by omega)
  have d4 : decide ((k : Int) ≥ (bs.size : Int)) = false := decide_eq_false (by omega)
  have d5 : (k : Int) ≤ (bs.size : Int) := by omega
  have d6 : k ≤ bs.size := by omega
  have d7 : ¬ bs.size < k := by omega
  have d9 : decide (bs.size ≤ k) = false := decide_eq_false (by omega)
  have d10 : ¬ bs.size ≤ k := by omega
  have d8 : (0 : Int) ≤ (k : Int) := by omega
  have z3 : m2.arr.size = 10 := rfl
  have z4 : m2.arr.all (·.oneCell') = true := Mg.arr_one _
  obtain ⟨zs, hzs⟩ : ∃ z, z = m2.arr := ⟨_, rfl⟩
  rw [← hzs] at HG z3 z4
  have Z3 := Lib.hid z3
  have Z4 := Lib.hid z4
  clear hzs z3 z4 hq hex hbs hb hbd hk hn hl hcut
  obtain ⟨cs, hcs⟩ : ∃ cs, cs = m.arr := ⟨_, rfl⟩
  rw [← hcs] at h3 h4 st cb HK HB ⊢
  have S0 := Lib.hid st
  have L0 := Lib.hid (below_one w (.cells cs 25 (0, 0)))
  have H3 := Lib.hid h3
  have H4 := Lib.hid h4
  replace HK := Lib.hid HK
  replace HB := Lib.hid HB
  replace HG := Lib.hid HG
  clear hcs st h3 h4
  go_enter Tryd.func5, Tryd.ntmps5
  go_wp2_with (first
    | ((with_reducible show wpList _ _ _ ({ dst := _, op := .load 25 (.tmp 2), type := _, pos := _, after := _, guard := _ } :: _) _ _); refine wpList_load_stg (by rfl) 25 _ rfl w.heap.size rfl 25 cs (by first | exact S4.out | exact S2.out | exact S1.out | exact S0.out) _ Tryd.underlying25 rfl (by rw [H3.out]; kernel_rfl) ?_)
    | (go_at_call 8; go_must (refine (HK.out _).mono ?_); rintro e w1 ⟨rfl, b1⟩; have S1 := Lib.hid (S0.out.below b1); have L1 := Lib.hid (L0.out.trans (b1.mono L0.out.size)); clear b1)
    | (go_at_call 11; go_must (refine (HB.out _).mono ?_); rintro e w2 ⟨rfl, b2⟩; have S2 := Lib.hid (S1.out.below b2); have L2 := Lib.hid (L1.out.trans (b2.mono L1.out.size)); clear b2)
    | (go_at_call 10; go_must (refine (HG.out _).mono ?_); rintro e w4 ⟨rfl, b4⟩; have S4 := Lib.hid ((S2.out.below b4).alloc (.cells zs 25 (0, 0))); have D4 := Lib.hid (St.new w4 25 zs); have L4 := Lib.hid ((L2.out.trans (b4.mono L2.out.size)).alloc (Nat.le_trans L2.out.size b4.size) (.cells zs 25 (0, 0))); clear b4)
    | ((with_reducible show wpList _ _ _ ({ dst := _, op := .store _ (.tmp 6) _, type := _, pos := _, after := _, guard := _ } :: _) _ _); refine wpList_store_st rfl 25 _ _ rfl w4.heap.size zs rfl rfl _ (St.new w4 25 _) (by rw [Z3.out]; kernel_rfl) (by rw [Z3.out]; rfl) Z4.out ?_; rw [alloc_row]; intro wz hz hst; subst hz; clear hst)
    | ((with_reducible show wpList _ _ _ ({ dst := _, op := .load 25 (.tmp 6), type := _, pos := _, after := _, guard := _ } :: _) _ _); refine wpList_load_stg (by rfl) 25 _ rfl w4.heap.size rfl 25 zs (by first | exact D4.out) _ Tryd.underlying25 rfl (by rw [Z3.out]; kernel_rfl) ?_)
    | (go_at_call 6; go_must (refine (mknown_any _).mono ?_); rintro e w9 ⟨rfl, b9⟩; have L9 := Lib.hid (L4.out.trans (b9.mono L4.out.size)); clear b9))
  all_goals (try go_ret)
  all_goals exact ⟨rfl, L9.out⟩

set_option maxRecDepth 100000 in
set_option maxHeartbeats 2000000 in
theorem walk_other (m : Mg) (k : Nat) (w : World) (hb : m.body.size ≤ 3000) (hk : okMg m = true) (hn : k < (str (mgBytes m)).size) (hx : (mgGet ((str (mgBytes m)).extract 0 k)).2 = 0) : Calls Tryd.prog 5 #[.agg m.arr, .int .i64 k] w fun e w' => e = .returned (.bool true) ∧ Below w.heap.size w w' := by
  have h3 : m.arr.size = 10 := rfl
  have h4 : m.arr.all (·.oneCell') = true := Mg.arr_one _
  have st := St.new w 25 m.arr
  have cb : (w.alloc (.cells m.arr 25 (0, 0))).cell? ⟨w.heap.size, 9, none⟩ = some (.string m.body) := st.cell rfl
  obtain ⟨bd, hbd⟩ : ∃ b, b = m.body := ⟨_, rfl⟩
  rw [← hbd] at cb
  have HK := fun w => mfCheck_any m w
  have d1 : decide ((bd.size : Int) > 3000) = false := decide_eq_false (by rw [hbd]; omega)
  rw [hk] at HK
  have HB := fun w => mfBytes_any m w hk
  have hl : (str (mgBytes m)).size ≤ 1073741824 := by
    rw [str_size, mgBytes_len]
    split <;> omega
  have hex : (str (mgBytes m)).extract 0 k = str ((mgBytes m).take k) := by
    apply ByteArray.ext
    apply Array.toList_inj.1
    rw [ByteArray.data_extract, Array.toList_extract]
    simp [str_toList, List.extract]
  have hcut := mgGet_cut hk k (by rw [str_size] at hn; exact hn)
  rw [← hex] at hcut
  have HG := fun w => mGet_any ((str (mgBytes m)).extract 0 k) w (by rw [ByteArray.size_extract]; omega)
  obtain ⟨q, hq⟩ : ∃ q, q = mgGet ((str (mgBytes m)).extract 0 k) := ⟨_, rfl⟩
  rw [← hq] at HG hcut hx
  obtain ⟨m2, x⟩ := q
  dsimp only at HG hx
  obtain ⟨bs, hbs⟩ : ∃ b, b = str (mgBytes m) := ⟨_, rfl⟩
  rw [← hbs] at HB HG hn
  subst hx
  have hm2 : ¬ m2 = m := fun e => hcut (by rw [e])
  have hne := fun W => run_ne_msg m2 m W
  have hqg : ∀ (W : World) (x y : Operand), (eqGuard .neq 25 x y (.agg m2.arr) (.agg m.arr)).run Tryd.prog W = .ok () W := fun W x y => run_eqGuard_agg W .neq 25 x y _ _ (by kernel_rfl)
  simp only [hm2, decide_false, Bool.not_false] at hne
  clear hm2
  have d3 : decide ((k : Int) < 0) = false := decide_eq_false (by omega)
  have d4 : decide ((k : Int) ≥ (bs.size : Int)) = false := decide_eq_false (by omega)
  have d5 : (k : Int) ≤ (bs.size : Int) := by omega
  have d6 : k ≤ bs.size := by omega
  have d7 : ¬ bs.size < k := by omega
  have d9 : decide (bs.size ≤ k) = false := decide_eq_false (by omega)
  have d10 : ¬ bs.size ≤ k := by omega
  have d8 : (0 : Int) ≤ (k : Int) := by omega
  have z3 : m2.arr.size = 10 := rfl
  have z4 : m2.arr.all (·.oneCell') = true := Mg.arr_one _
  obtain ⟨zs, hzs⟩ : ∃ z, z = m2.arr := ⟨_, rfl⟩
  rw [← hzs] at HG z3 z4 hne hqg
  have Z3 := Lib.hid z3
  have Z4 := Lib.hid z4
  clear hzs z3 z4 hq hex hbs hb hbd hk hn hl hcut
  obtain ⟨cs, hcs⟩ : ∃ cs, cs = m.arr := ⟨_, rfl⟩
  rw [← hcs] at h3 h4 st cb HK HB hne hqg ⊢
  have S0 := Lib.hid st
  have L0 := Lib.hid (below_one w (.cells cs 25 (0, 0)))
  have H3 := Lib.hid h3
  have H4 := Lib.hid h4
  replace HK := Lib.hid HK
  replace HB := Lib.hid HB
  replace HG := Lib.hid HG
  clear hcs st h3 h4
  go_enter Tryd.func5, Tryd.ntmps5
  go_wp2_with (first
    | ((with_reducible show wpList _ _ _ ({ dst := _, op := .load 25 (.tmp 2), type := _, pos := _, after := _, guard := _ } :: _) _ _); refine wpList_load_stg (by rfl) 25 _ rfl w.heap.size rfl 25 cs (by first | exact S4.out | exact S2.out | exact S1.out | exact S0.out) _ Tryd.underlying25 rfl (by rw [H3.out]; kernel_rfl) ?_)
    | (go_at_call 8; go_must (refine (HK.out _).mono ?_); rintro e w1 ⟨rfl, b1⟩; have S1 := Lib.hid (S0.out.below b1); have L1 := Lib.hid (L0.out.trans (b1.mono L0.out.size)); clear b1)
    | (go_at_call 11; go_must (refine (HB.out _).mono ?_); rintro e w2 ⟨rfl, b2⟩; have S2 := Lib.hid (S1.out.below b2); have L2 := Lib.hid (L1.out.trans (b2.mono L1.out.size)); clear b2)
    | (go_at_call 10; go_must (refine (HG.out _).mono ?_); rintro e w4 ⟨rfl, b4⟩; have S4 := Lib.hid ((S2.out.below b4).alloc (.cells zs 25 (0, 0))); have D4 := Lib.hid (St.new w4 25 zs); have L4 := Lib.hid ((L2.out.trans (b4.mono L2.out.size)).alloc (Nat.le_trans L2.out.size b4.size) (.cells zs 25 (0, 0))); clear b4)
    | ((with_reducible show wpList _ _ _ ({ dst := _, op := .store _ (.tmp 6) _, type := _, pos := _, after := _, guard := _ } :: _) _ _); refine wpList_store_st rfl 25 _ _ rfl w4.heap.size zs rfl rfl _ (St.new w4 25 _) (by rw [Z3.out]; kernel_rfl) (by rw [Z3.out]; rfl) Z4.out ?_; rw [alloc_row]; intro wz hz hst; subst hz; clear hst)
    | ((with_reducible show wpList _ _ _ ({ dst := _, op := .load 25 (.tmp 6), type := _, pos := _, after := _, guard := _ } :: _) _ _); refine wpList_load_stg (by rfl) 25 _ rfl w4.heap.size rfl 25 zs (by first | exact D4.out) _ Tryd.underlying25 rfl (by rw [Z3.out]; kernel_rfl) ?_)
    | (go_at_call 6; go_must (refine (mknown_any _).mono ?_); rintro e w9 ⟨rfl, b9⟩; have L9 := Lib.hid (L4.out.trans (b9.mono L4.out.size)); clear b9))
  all_goals (try go_ret)
  all_goals exact ⟨rfl, L9.out⟩

theorem cut_any (m : Mg) (n : Int) (w : World) : Calls Tryd.prog 5 #[.agg m.arr, .int .i64 n] w fun e w' => e = .returned (.bool true) ∧ Below w.heap.size w w' := by
  by_cases h : 3000 < m.body.size
  · exact walk_big m n w h
  · cases hk : okMg m with
    | false => exact walk_not m n w (by omega) hk
    | true =>
      by_cases h0 : n < 0
      · exact walk_low m n w (by omega) hk h0
      · by_cases hn : ((str (mgBytes m)).size : Int) ≤ n
        · exact walk_high m n w (by omega) hk (by omega) hn
        · obtain ⟨k, rfl⟩ := Int.eq_ofNat_of_zero_le (Int.not_lt.1 h0)
          by_cases hx : (mgGet ((str (mgBytes m)).extract 0 k)).2 = 0
          · exact walk_other m k w (by omega) hk (by omega) hx
          · exact walk_err m k w (by omega) hk (by omega) hx

theorem laidOut : laidOutB Tryd.prog = true := by kernel_rfl
theorem laid_met (os : Os) : laidMet Tryd.prog Rows.rpcCutRow.laid ((laidWorld os).forCall (fun _ _ => 0) ⟨#[], #[.agg #[.int .i64 0, .bool false, .bool false, .int .i64 0, .int .i64 0, .int .i64 0, .int .i64 0, .int .i64 0, .int .i64 0, .string ⟨#[]⟩], .int .i64 0], []⟩).memory :=
  laidMet_of_run' 8 (by kernel_rfl) (by kernel_rfl)
theorem reads (os : Os) {H : Type} (enc : TypeId × Value → H) : ∃ places, DataW.whole enc Tryd.prog ((laidWorld os).forCall (fun _ _ => 0) ⟨#[], #[.agg #[.int .i64 0, .bool false, .bool false, .int .i64 0, .int .i64 0, .int .i64 0, .int .i64 0, .int .i64 0, .int .i64 0, .string ⟨#[]⟩], .int .i64 0], []⟩).memory Tryd.f5.params.toList Rows.rpcCutSpec.vars false (#[.agg #[.int .i64 0, .bool false, .bool false, .int .i64 0, .int .i64 0, .int .i64 0, .int .i64 0, .int .i64 0, .int .i64 0, .string ⟨#[]⟩], .int .i64 0] : Array Value).toList 8 = some ([.agg [.lit (.int .i64 0), .lit (.bool false), .lit (.bool false), .lit (.int .i64 0), .agg [.lit (.int .i64 0), .lit (.int .i64 0), .lit (.int .i64 0), .lit (.int .i64 0)], .lit (.int .i64 0), .lit (.string [])], .lit (.int .i64 0)], [], places) :=
  ⟨[], by kernel_rfl⟩

set_option maxRecDepth 100000 in
theorem contract (H : Type) (enc : TypeId × Value → H) (W : World) (base : Nat) (args : Array Value) (ds gs : List (DataW H)) (before : List MemPlace)
    (hval : ∀ (j : Nat) t v, Tryd.f5.params[j]? = some t → args[j]? = some v → Value.okWide Tryd.prog W .any base t v)
    (hW : DataW.Whole enc Tryd.prog Tryd.f5.params.toList Rows.rpcCutSpec.vars false W args.toList ds gs before) :
    Calls Tryd.prog 5 args W fun e W' => ∃ v, e = .returned v ∧ Rows.rpcCutSpec.post enc Tryd.prog Tryd.f5 false true false false W args v W' := by
  have hW' := hW
  obtain ⟨p, q, hA0, hV, rfl, hfz, hnd⟩ := hW
  have hA : DataW.TrodAll enc Tryd.prog W 0 (fun _ => true) true Tryd.f5.params.toList args.toList ds p := hA0
  rw [Tryd.params5] at hA hval
  obtain ⟨v0, vs0, d0, ds0, p0, q0, hargs, rfl, rfl, h0, r0⟩ := trodAll_cons hA
  obtain ⟨v1, vs1, d1, ds1, p1, q1, rfl, rfl, rfl, h1, r1⟩ := trodAll_cons r0
  obtain ⟨rfl, rfl, rfl⟩ := trodAll_nil r1
  obtain rfl : args = #[v0, v1] := by cases args; simp_all
  have post : ∀ W', Below W.heap.size W W' → Rows.rpcCutSpec.post enc Tryd.prog Tryd.f5 false true false false W #[v0, v1] (.bool true) W' := fun W' hg =>
    law_post laidOut (by rw [Tryd.params5]; decide +kernel) rfl Tryd.underlying4 rfl hW' rfl hg
  have done : ∀ (e : Ending) W', (e = .returned (.bool true) ∧ Below W.heap.size W W') → ∃ v, e = .returned v ∧ Rows.rpcCutSpec.post enc Tryd.prog Tryd.f5 false true false false W #[v0, v1] v W' := fun e W' ⟨he, hg⟩ => ⟨_, he, post W' hg⟩
  clear post
  obtain ⟨m, rfl, rfl, rfl, hm⟩ := open_msg (hval 0 25 v0 rfl rfl) h0
  obtain ⟨n, rfl, rfl, rfl, hn⟩ := open_int Tryd.underlying3 (hval 1 3 v1 rfl rfl) h1
  exact (cut_any m n W).mono done


set_option maxRecDepth 100000 in
theorem lifted (os : Os) (started : os.Started) (H : Type) (enc : TypeId × Value → H) (F : Stop.Interp) :
    ReturnsInHanded {} Tryd.checked os 5 .any ((OpenSpec.ofChange Rows.rpcCutSpec).preRow enc Tryd.prog Tryd.f5 Rows.rpcCutRow.domain false Rows.rpcCutRow.laid) (((OpenSpec.ofChange Rows.rpcCutSpec).at F).post enc Tryd.prog Tryd.f5 false true false false) := by
  obtain ⟨places, hx⟩ := reads os enc
  refine returnsInHanded_of_row (C := Tryd.checked) (s := OpenSpec.ofChange Rows.rpcCutSpec) own started (by kernel_rfl) Tryd.func5
    (witness_row_at (enc := enc) (C := Tryd.checked) false (laidWorld os) #[.agg #[.int .i64 0, .bool false, .bool false, .int .i64 0, .int .i64 0, .int .i64 0, .int .i64 0, .int .i64 0, .int .i64 0, .string ⟨#[]⟩], .int .i64 0] rfl (by kernel_rfl) (by kernel_rfl) (by kernel_rfl)
      (OpenSpec.preRow_of_cond 8 hx (by kernel_rfl) (fun k hk => by cases hk) (by kernel_rfl) (laid_met os))) ?_
  intro W base args ds gs before hval hW _ _ _ hL _ _
  exact contract H enc W base args ds gs before hval hW

theorem said : Rows.RpcCutSaid :=
  OpenClaim.holds_of_cond 5 Tryd.f5 rfl rfl rfl rfl rfl rfl rfl ⟨rfl, rfl, rfl, rfl, rfl⟩ rfl rfl rfl rfl rfl (by kernel_rfl) Tryd.func5 (by kernel_rfl)
    (of_decide_eq_true (by kernel_rfl)) (by unfold Func.isWrapper; first | (rw [if_pos (by decide +kernel)]; kernel_rfl) | (rw [if_neg (by decide +kernel)]; exact ⟨rfl, rfl⟩))
    (fun os started H enc _ F => by rw [OpenClaim.pre_eq_preRow]; exact lifted os started H enc F)

theorem plain (f : FuncId) (fn : Func) (hf : Tryd.pinned.checked.prog.funcNamed Rows.rpcCutRow.func = some f) (hfn : Tryd.pinned.checked.prog.funcs[f]? = some fn) :
    true = Tryd.pinned.checked.prog.looks [] ∧ ∀ (j : Nat) t, fn.params[j]? = some t → Tryd.pinned.checked.prog.wantsStandIn t = false := by
  obtain rfl : f = 5 := Option.some.inj ((show Tryd.prog.funcNamed Rows.rpcCutRow.func = some 5 by kernel_rfl).symm.trans hf) |>.symm
  obtain rfl : fn = Tryd.f5 := (Option.some.inj (Tryd.func5.symm.trans hfn)).symm
  refine ⟨by kernel_rfl, fun j t ht => ?_⟩
  have hall : Tryd.f5.params.all (fun t => Tryd.prog.wantsStandIn t == false) = true := by kernel_rfl
  have := Array.all_eq_true.1 hall j (Array.getElem?_eq_some_iff.1 ht).1
  rw [(Array.getElem?_eq_some_iff.1 ht).2] at this
  have h2 : Tryd.prog.wantsStandIn t = false := by simpa using this
  exact h2

theorem card : Rows.RpcCutCardSaid :=
  Claim7.holds_tied_plain_at .later [] _ _ _ _ said (fun _ h => by cases h) (by kernel_rfl) (fun _ h => by cases h) rpcCut_row_tie rfl ⟨rfl, rfl⟩ (by kernel_rfl) rfl plain (by kernel_rfl)

end Go.Proofs.YtimbcombhdgjiaaDoor.rpcCut
