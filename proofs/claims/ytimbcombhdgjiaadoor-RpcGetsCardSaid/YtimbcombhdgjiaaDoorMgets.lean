/- PROVED HERE: for every text, the law RpcGets returns true: any bytes are the message that the document says, or what is told of it, or none. CONDITIONS: the tables that the row lists read as laid; the walks never read them. -/
import Derived.Test.YtimbcombhdgjiaaDoorMc
import Derived.Test.YtimbcombhdgjiaaDoorMq
import Derived.Test.YtimbcombhdgjiaaDoorMs
import Derived.Test.YtimbcombhdgjiaaDoorLaw
import Derived.Test.YtimbcombhdgjiaaDoorLw
import Derived.ChangeMaps5
namespace Go.Proofs.YtimbcombhdgjiaaDoor.rpcGets
open Go.ChangeShapes Go.WideShapes Go.ChangeAt Go.RowKit
open Go.ChangeMaps (open_string shut_string)
set_option linter.unusedSimpArgs false
set_option linter.unusedVariables false

theorem own : ownKnob Tryd.prog.godebug = none := by kernel_rfl

set_option maxRecDepth 100000 in
set_option maxHeartbeats 1000000 in
theorem walk_long (s : ByteArray) (w : World) (h : 3000 < s.size) : Calls Tryd.prog 4 #[.string s] w fun e w' => e = .returned (.bool true) ∧ Below w.heap.size w w' := by
  have d1 : decide ((s.size : Int) > 3000) = true := decide_eq_true (by omega)
  go_enter Tryd.func4, Tryd.ntmps4
  go_wp2_with (go_at_call 6; go_must (refine (mknown_any _).mono ?_); rintro e w5 ⟨rfl, b5⟩)
  go_ret
  exact ⟨rfl, b5⟩

set_option maxRecDepth 100000 in
set_option maxHeartbeats 2000000 in
theorem walk_err (s : ByteArray) (w : World) (h : s.size ≤ 3000) (hx : (mgGet s).2 ≠ 0) : Calls Tryd.prog 4 #[.string s] w fun e w' => e = .returned (.bool true) ∧ Below w.heap.size w w' := by
  have d1 : decide ((s.size : Int) > 3000) = false := decide_eq_false (by omega)
  have HG := fun w => mGet_any s w (by omega)
  have HR := fun w => mfGet_any s w (by omega)
  obtain ⟨q, hq⟩ : ∃ q, q = mgGet s := ⟨_, rfl⟩
  rw [← hq] at HG HR hx
  obtain ⟨m, x⟩ := q
  dsimp only at HG HR hx
  have d2 : (x == 0) = false := by simpa using hx
  have d3 : (x != 0) = true := by simpa using hx
  clear hx
  have hne := fun W => run_ne_msg m m W
  have hqg : ∀ (W : World) (x y : Operand), (eqGuard .neq 25 x y (.agg m.arr) (.agg m.arr)).run Tryd.prog W = .ok () W := fun W x y => run_eqGuard_agg W .neq 25 x y _ _ (by kernel_rfl)
  simp only [decide_true, Bool.not_true] at hne
  have h3 : m.arr.size = 10 := rfl
  have h4 : m.arr.all (·.oneCell') = true := Mg.arr_one _
  have cA : ∀ (k : Nat) (W : World), St 25 k m.arr W → W.cell? ⟨k, 1, none⟩ = some (.bool m.ans) := fun k W h => h.cell rfl
  have cB : ∀ (k : Nat) (W : World), St 25 k m.arr W → W.cell? ⟨k, 8, none⟩ = some (.int .i64 m.accept) := fun k W h => h.cell rfl
  obtain ⟨ma, hma⟩ : ∃ a, a = m.ans := ⟨_, rfl⟩
  obtain ⟨mc, hmc⟩ : ∃ a, a = m.accept := ⟨_, rfl⟩
  rw [← hma] at cA
  rw [← hmc] at cB
  obtain ⟨zs, hzs⟩ : ∃ z, z = m.arr := ⟨_, rfl⟩
  rw [← hzs] at HG HR hne hqg h3 h4 cA cB
  have H3 := Lib.hid h3
  have H4 := Lib.hid h4
  have CA := Lib.hid cA
  have CB := Lib.hid cB
  replace HG := Lib.hid HG
  replace HR := Lib.hid HR
  clear hq hma hmc hzs h3 h4 cA cB
  go_enter Tryd.func4, Tryd.ntmps4
  go_wp2_with (first
    | (go_at_call 10; go_must (refine (HG.out _).mono ?_); rintro e w1 ⟨rfl, b1⟩; have C1 := Lib.hid (St.new w1 25 zs); have L1 := Lib.hid (b1.alloc b1.size (.cells zs 25 (0, 0))); clear b1)
    | ((with_reducible show wpList _ _ _ ({ dst := _, op := .store _ (.tmp 3) _, type := _, pos := _, after := _, guard := _ } :: _) _ _); refine wpList_store_st rfl 25 _ _ rfl w1.heap.size zs rfl rfl _ (St.new w1 25 _) (by rw [H3.out]; kernel_rfl) (by rw [H3.out]; rfl) H4.out ?_; rw [alloc_row]; intro wz hz hst; subst hz; clear hst)
    | (go_at_call 12; go_must (refine (HR.out _).mono ?_); rintro e w3 ⟨rfl, b3⟩; have C3 := Lib.hid ((C1.out.below b3).alloc (.cells zs 25 (0, 0))); have D3 := Lib.hid (St.new w3 25 zs); have L3 := Lib.hid ((L1.out.trans (b3.mono L1.out.size)).alloc (Nat.le_trans L1.out.size b3.size) (.cells zs 25 (0, 0))); have q1 := CA.out _ _ C3.out; have q8 := CB.out _ _ C3.out; clear b3)
    | ((with_reducible show wpList _ _ _ ({ dst := _, op := .store _ (.tmp 5) _, type := _, pos := _, after := _, guard := _ } :: _) _ _); refine wpList_store_st rfl 25 _ _ rfl w3.heap.size zs rfl rfl _ (St.new w3 25 _) (by rw [H3.out]; kernel_rfl) (by rw [H3.out]; rfl) H4.out ?_; rw [alloc_row]; intro wz hz hst; subst hz; clear hst)
    | ((with_reducible show wpList _ _ _ ({ dst := _, op := .load 25 (.tmp 3), type := _, pos := _, after := _, guard := _ } :: _) _ _); refine wpList_load_stg (by rfl) 25 _ rfl w1.heap.size rfl 25 zs (by first | exact C3.out) _ Tryd.underlying25 rfl (by rw [H3.out]; kernel_rfl) ?_)
    | ((with_reducible show wpList _ _ _ ({ dst := _, op := .load 25 (.tmp 5), type := _, pos := _, after := _, guard := _ } :: _) _ _); refine wpList_load_stg (by rfl) 25 _ rfl w3.heap.size rfl 25 zs (by first | exact D3.out) _ Tryd.underlying25 rfl (by rw [H3.out]; kernel_rfl) ?_)
    | (go_at_call 6; go_must (refine (mknown_any _).mono ?_); rintro e w5 ⟨rfl, b5⟩))
  all_goals go_ret
  all_goals exact ⟨rfl, L3.out.trans (b5.mono L3.out.size)⟩

set_option maxRecDepth 100000 in
set_option maxHeartbeats 2000000 in
theorem walk_told (s : ByteArray) (w : World) (h : s.size ≤ 3000) (hx : (mgGet s).2 = 0) (ha : (mgGet s).1.ans = false) (hc : (mgGet s).1.accept ≠ 0) : Calls Tryd.prog 4 #[.string s] w fun e w' => e = .returned (.bool true) ∧ Below w.heap.size w w' := by
  have d1 : decide ((s.size : Int) > 3000) = false := decide_eq_false (by omega)
  have HG := fun w => mGet_any s w (by omega)
  have HR := fun w => mfGet_any s w (by omega)
  obtain ⟨q, hq⟩ : ∃ q, q = mgGet s := ⟨_, rfl⟩
  rw [← hq] at HG HR hx ha hc
  obtain ⟨m, x⟩ := q
  dsimp only at HG HR hx ha hc
  subst hx
  have hne := fun W => run_ne_msg m m W
  have hqg : ∀ (W : World) (x y : Operand), (eqGuard .neq 25 x y (.agg m.arr) (.agg m.arr)).run Tryd.prog W = .ok () W := fun W x y => run_eqGuard_agg W .neq 25 x y _ _ (by kernel_rfl)
  simp only [decide_true, Bool.not_true] at hne
  have h3 : m.arr.size = 10 := rfl
  have h4 : m.arr.all (·.oneCell') = true := Mg.arr_one _
  have cA : ∀ (k : Nat) (W : World), St 25 k m.arr W → W.cell? ⟨k, 1, none⟩ = some (.bool m.ans) := fun k W h => h.cell rfl
  have cB : ∀ (k : Nat) (W : World), St 25 k m.arr W → W.cell? ⟨k, 8, none⟩ = some (.int .i64 m.accept) := fun k W h => h.cell rfl
  obtain ⟨ma, hma⟩ : ∃ a, a = m.ans := ⟨_, rfl⟩
  obtain ⟨mc, hmc⟩ : ∃ a, a = m.accept := ⟨_, rfl⟩
  rw [← hma] at cA ha
  rw [← hmc] at cB hc
  obtain ⟨zs, hzs⟩ : ∃ z, z = m.arr := ⟨_, rfl⟩
  rw [← hzs] at HG HR hne hqg h3 h4 cA cB
  have H3 := Lib.hid h3
  have H4 := Lib.hid h4
  have CA := Lib.hid cA
  have CB := Lib.hid cB
  replace HG := Lib.hid HG
  replace HR := Lib.hid HR
  subst ha
  have d2 : (mc == 0) = false := by simpa using hc
  clear hc
  clear hq hma hmc hzs h3 h4 cA cB
  go_enter Tryd.func4, Tryd.ntmps4
  go_wp2_with (first
    | (go_at_call 10; go_must (refine (HG.out _).mono ?_); rintro e w1 ⟨rfl, b1⟩; have C1 := Lib.hid (St.new w1 25 zs); have L1 := Lib.hid (b1.alloc b1.size (.cells zs 25 (0, 0))); clear b1)
    | ((with_reducible show wpList _ _ _ ({ dst := _, op := .store _ (.tmp 3) _, type := _, pos := _, after := _, guard := _ } :: _) _ _); refine wpList_store_st rfl 25 _ _ rfl w1.heap.size zs rfl rfl _ (St.new w1 25 _) (by rw [H3.out]; kernel_rfl) (by rw [H3.out]; rfl) H4.out ?_; rw [alloc_row]; intro wz hz hst; subst hz; clear hst)
    | (go_at_call 12; go_must (refine (HR.out _).mono ?_); rintro e w3 ⟨rfl, b3⟩; have C3 := Lib.hid ((C1.out.below b3).alloc (.cells zs 25 (0, 0))); have D3 := Lib.hid (St.new w3 25 zs); have L3 := Lib.hid ((L1.out.trans (b3.mono L1.out.size)).alloc (Nat.le_trans L1.out.size b3.size) (.cells zs 25 (0, 0))); have q1 := CA.out _ _ C3.out; have q8 := CB.out _ _ C3.out; clear b3)
    | ((with_reducible show wpList _ _ _ ({ dst := _, op := .store _ (.tmp 5) _, type := _, pos := _, after := _, guard := _ } :: _) _ _); refine wpList_store_st rfl 25 _ _ rfl w3.heap.size zs rfl rfl _ (St.new w3 25 _) (by rw [H3.out]; kernel_rfl) (by rw [H3.out]; rfl) H4.out ?_; rw [alloc_row]; intro wz hz hst; subst hz; clear hst)
    | ((with_reducible show wpList _ _ _ ({ dst := _, op := .load 25 (.tmp 3), type := _, pos := _, after := _, guard := _ } :: _) _ _); refine wpList_load_stg (by rfl) 25 _ rfl w1.heap.size rfl 25 zs (by first | exact C3.out) _ Tryd.underlying25 rfl (by rw [H3.out]; kernel_rfl) ?_)
    | ((with_reducible show wpList _ _ _ ({ dst := _, op := .load 25 (.tmp 5), type := _, pos := _, after := _, guard := _ } :: _) _ _); refine wpList_load_stg (by rfl) 25 _ rfl w3.heap.size rfl 25 zs (by first | exact D3.out) _ Tryd.underlying25 rfl (by rw [H3.out]; kernel_rfl) ?_)
    | (go_at_call 6; go_must (refine (mknown_any _).mono ?_); rintro e w5 ⟨rfl, b5⟩))
  all_goals go_ret
  all_goals exact ⟨rfl, L3.out.trans (b5.mono L3.out.size)⟩

set_option maxRecDepth 100000 in
set_option maxHeartbeats 2000000 in
theorem walk_ans (s : ByteArray) (w : World) (h : s.size ≤ 3000) (hx : (mgGet s).2 = 0) (ha : (mgGet s).1.ans = true) : Calls Tryd.prog 4 #[.string s] w fun e w' => e = .returned (.bool true) ∧ Below w.heap.size w w' := by
  have d1 : decide ((s.size : Int) > 3000) = false := decide_eq_false (by omega)
  have HG := fun w => mGet_any s w (by omega)
  have HR := fun w => mfGet_any s w (by omega)
  have hok := mgGet_ok hx (.inl ha)
  have hby := mgBytes_get hx (.inl ha)
  obtain ⟨q, hq⟩ : ∃ q, q = mgGet s := ⟨_, rfl⟩
  rw [← hq] at HG HR hx ha hok hby
  obtain ⟨m, x⟩ := q
  dsimp only at HG HR hx ha hok hby
  subst hx
  have HBY := fun w => mfBytes_any m w hok
  rw [hby, str_data] at HBY
  clear hok hby
  have hne := fun W => run_ne_msg m m W
  have hqg : ∀ (W : World) (x y : Operand), (eqGuard .neq 25 x y (.agg m.arr) (.agg m.arr)).run Tryd.prog W = .ok () W := fun W x y => run_eqGuard_agg W .neq 25 x y _ _ (by kernel_rfl)
  simp only [decide_true, Bool.not_true] at hne
  have h3 : m.arr.size = 10 := rfl
  have h4 : m.arr.all (·.oneCell') = true := Mg.arr_one _
  have cA : ∀ (k : Nat) (W : World), St 25 k m.arr W → W.cell? ⟨k, 1, none⟩ = some (.bool m.ans) := fun k W h => h.cell rfl
  have cB : ∀ (k : Nat) (W : World), St 25 k m.arr W → W.cell? ⟨k, 8, none⟩ = some (.int .i64 m.accept) := fun k W h => h.cell rfl
  obtain ⟨ma, hma⟩ : ∃ a, a = m.ans := ⟨_, rfl⟩
  obtain ⟨mc, hmc⟩ : ∃ a, a = m.accept := ⟨_, rfl⟩
  rw [← hma] at cA ha
  rw [← hmc] at cB
  obtain ⟨zs, hzs⟩ : ∃ z, z = m.arr := ⟨_, rfl⟩
  rw [← hzs] at HG HR hne hqg h3 h4 cA cB HBY
  have H3 := Lib.hid h3
  have H4 := Lib.hid h4
  have CA := Lib.hid cA
  have CB := Lib.hid cB
  replace HG := Lib.hid HG
  replace HR := Lib.hid HR
  subst ha
  replace HBY := Lib.hid HBY
  clear hq hma hmc hzs h3 h4 cA cB
  go_enter Tryd.func4, Tryd.ntmps4
  go_wp2_with (first
    | (go_at_call 10; go_must (refine (HG.out _).mono ?_); rintro e w1 ⟨rfl, b1⟩; have C1 := Lib.hid (St.new w1 25 zs); have L1 := Lib.hid (b1.alloc b1.size (.cells zs 25 (0, 0))); clear b1)
    | ((with_reducible show wpList _ _ _ ({ dst := _, op := .store _ (.tmp 3) _, type := _, pos := _, after := _, guard := _ } :: _) _ _); refine wpList_store_st rfl 25 _ _ rfl w1.heap.size zs rfl rfl _ (St.new w1 25 _) (by rw [H3.out]; kernel_rfl) (by rw [H3.out]; rfl) H4.out ?_; rw [alloc_row]; intro wz hz hst; subst hz; clear hst)
    | (go_at_call 12; go_must (refine (HR.out _).mono ?_); rintro e w3 ⟨rfl, b3⟩; have C3 := Lib.hid ((C1.out.below b3).alloc (.cells zs 25 (0, 0))); have D3 := Lib.hid (St.new w3 25 zs); have L3 := Lib.hid ((L1.out.trans (b3.mono L1.out.size)).alloc (Nat.le_trans L1.out.size b3.size) (.cells zs 25 (0, 0))); have q1 := CA.out _ _ C3.out; have q8 := CB.out _ _ C3.out; clear b3)
    | ((with_reducible show wpList _ _ _ ({ dst := _, op := .store _ (.tmp 5) _, type := _, pos := _, after := _, guard := _ } :: _) _ _); refine wpList_store_st rfl 25 _ _ rfl w3.heap.size zs rfl rfl _ (St.new w3 25 _) (by rw [H3.out]; kernel_rfl) (by rw [H3.out]; rfl) H4.out ?_; rw [alloc_row]; intro wz hz hst; subst hz; clear hst)
    | ((with_reducible show wpList _ _ _ ({ dst := _, op := .load 25 (.tmp 3), type := _, pos := _, after := _, guard := _ } :: _) _ _); refine wpList_load_stg (by rfl) 25 _ rfl w1.heap.size rfl 25 zs (by first | exact C3.out) _ Tryd.underlying25 rfl (by rw [H3.out]; kernel_rfl) ?_)
    | ((with_reducible show wpList _ _ _ ({ dst := _, op := .load 25 (.tmp 5), type := _, pos := _, after := _, guard := _ } :: _) _ _); refine wpList_load_stg (by rfl) 25 _ rfl w3.heap.size rfl 25 zs (by first | exact D3.out) _ Tryd.underlying25 rfl (by rw [H3.out]; kernel_rfl) ?_)
    | (go_at_call 11; go_must (refine (HBY.out _).mono ?_); rintro e w4 ⟨rfl, b4⟩; have L4 := Lib.hid (L3.out.trans (b4.mono L3.out.size)); clear b4)
    | (go_at_call 6; go_must (refine (mknown_any _).mono ?_); rintro e w5 ⟨rfl, b5⟩))
  all_goals go_ret
  all_goals exact ⟨rfl, L4.out.trans (b5.mono L4.out.size)⟩

set_option maxRecDepth 100000 in
set_option maxHeartbeats 2000000 in
theorem walk_call (s : ByteArray) (w : World) (h : s.size ≤ 3000) (hx : (mgGet s).2 = 0) (ha : (mgGet s).1.ans = false) (hc : (mgGet s).1.accept = 0) : Calls Tryd.prog 4 #[.string s] w fun e w' => e = .returned (.bool true) ∧ Below w.heap.size w w' := by
  have d1 : decide ((s.size : Int) > 3000) = false := decide_eq_false (by omega)
  have HG := fun w => mGet_any s w (by omega)
  have HR := fun w => mfGet_any s w (by omega)
  have hok := mgGet_ok hx (.inr hc)
  have hby := mgBytes_get hx (.inr hc)
  obtain ⟨q, hq⟩ : ∃ q, q = mgGet s := ⟨_, rfl⟩
  rw [← hq] at HG HR hx ha hc hok hby
  obtain ⟨m, x⟩ := q
  dsimp only at HG HR hx ha hc hok hby
  subst hx
  have HBY := fun w => mfBytes_any m w hok
  rw [hby, str_data] at HBY
  clear hok hby
  have hne := fun W => run_ne_msg m m W
  have hqg : ∀ (W : World) (x y : Operand), (eqGuard .neq 25 x y (.agg m.arr) (.agg m.arr)).run Tryd.prog W = .ok () W := fun W x y => run_eqGuard_agg W .neq 25 x y _ _ (by kernel_rfl)
  simp only [decide_true, Bool.not_true] at hne
  have h3 : m.arr.size = 10 := rfl
  have h4 : m.arr.all (·.oneCell') = true := Mg.arr_one _
  have cA : ∀ (k : Nat) (W : World), St 25 k m.arr W → W.cell? ⟨k, 1, none⟩ = some (.bool m.ans) := fun k W h => h.cell rfl
  have cB : ∀ (k : Nat) (W : World), St 25 k m.arr W → W.cell? ⟨k, 8, none⟩ = some (.int .i64 m.accept) := fun k W h => h.cell rfl
  obtain ⟨ma, hma⟩ : ∃ a, a = m.ans := ⟨_, rfl⟩
  obtain ⟨mc, hmc⟩ : ∃ a, a = m.accept := ⟨_, rfl⟩
  rw [← hma] at cA ha
  rw [← hmc] at cB hc
  obtain ⟨zs, hzs⟩ : ∃ z, z = m.arr := ⟨_, rfl⟩
  rw [← hzs] at HG HR hne hqg h3 h4 cA cB HBY
  have H3 := Lib.hid h3
  have H4 := Lib.hid h4
  have CA := Lib.hid cA
  have CB := Lib.hid cB
  replace HG := Lib.hid HG
  replace HR := Lib.hid HR
  subst ha
  subst hc
  replace HBY := Lib.hid HBY
  clear hq hma hmc hzs h3 h4 cA cB
  go_enter Tryd.func4, Tryd.ntmps4
  go_wp2_with (first
    | (go_at_call 10; go_must (refine (HG.out _).mono ?_); rintro e w1 ⟨rfl, b1⟩; have C1 := Lib.hid (St.new w1 25 zs); have L1 := Lib.hid (b1.alloc b1.size (.cells zs 25 (0, 0))); clear b1)
    | ((with_reducible show wpList _ _ _ ({ dst := _, op := .store _ (.tmp 3) _, type := _, pos := _, after := _, guard := _ } :: _) _ _); refine wpList_store_st rfl 25 _ _ rfl w1.heap.size zs rfl rfl _ (St.new w1 25 _) (by rw [H3.out]; kernel_rfl) (by rw [H3.out]; rfl) H4.out ?_; rw [alloc_row]; intro wz hz hst; subst hz; clear hst)
    | (go_at_call 12; go_must (refine (HR.out _).mono ?_); rintro e w3 ⟨rfl, b3⟩; have C3 := Lib.hid ((C1.out.below b3).alloc (.cells zs 25 (0, 0))); have D3 := Lib.hid (St.new w3 25 zs); have L3 := Lib.hid ((L1.out.trans (b3.mono L1.out.size)).alloc (Nat.le_trans L1.out.size b3.size) (.cells zs 25 (0, 0))); have q1 := CA.out _ _ C3.out; have q8 := CB.out _ _ C3.out; clear b3)
    | ((with_reducible show wpList _ _ _ ({ dst := _, op := .store _ (.tmp 5) _, type := _, pos := _, after := _, guard := _ } :: _) _ _); refine wpList_store_st rfl 25 _ _ rfl w3.heap.size zs rfl rfl _ (St.new w3 25 _) (by rw [H3.out]; kernel_rfl) (by rw [H3.out]; rfl) H4.out ?_; rw [alloc_row]; intro wz hz hst; subst hz; clear hst)
    | ((with_reducible show wpList _ _ _ ({ dst := _, op := .load 25 (.tmp 3), type := _, pos := _, after := _, guard := _ } :: _) _ _); refine wpList_load_stg (by rfl) 25 _ rfl w1.heap.size rfl 25 zs (by first | exact C3.out) _ Tryd.underlying25 rfl (by rw [H3.out]; kernel_rfl) ?_)
    | ((with_reducible show wpList _ _ _ ({ dst := _, op := .load 25 (.tmp 5), type := _, pos := _, after := _, guard := _ } :: _) _ _); refine wpList_load_stg (by rfl) 25 _ rfl w3.heap.size rfl 25 zs (by first | exact D3.out) _ Tryd.underlying25 rfl (by rw [H3.out]; kernel_rfl) ?_)
    | (go_at_call 11; go_must (refine (HBY.out _).mono ?_); rintro e w4 ⟨rfl, b4⟩; have L4 := Lib.hid (L3.out.trans (b4.mono L3.out.size)); clear b4)
    | (go_at_call 6; go_must (refine (mknown_any _).mono ?_); rintro e w5 ⟨rfl, b5⟩))
  all_goals go_ret
  all_goals exact ⟨rfl, L4.out.trans (b5.mono L4.out.size)⟩

theorem gets_any (s : ByteArray) (w : World) : Calls Tryd.prog 4 #[.string s] w fun e w' => e = .returned (.bool true) ∧ Below w.heap.size w w' := by
  by_cases h : 3000 < s.size
  · exact walk_long s w h
  · by_cases hx : (mgGet s).2 = 0
    · cases ha : (mgGet s).1.ans with
      | true => exact walk_ans s w (by omega) hx ha
      | false =>
        by_cases hc : (mgGet s).1.accept = 0
        · exact walk_call s w (by omega) hx ha hc
        · exact walk_told s w (by omega) hx ha hc
    · exact walk_err s w (by omega) hx

theorem laidOut : laidOutB Tryd.prog = true := by kernel_rfl
theorem laid_met (os : Os) : laidMet Tryd.prog Rows.rpcGetsRow.laid ((laidWorld os).forCall (fun _ _ => 0) ⟨#[], #[.string ⟨#[]⟩], []⟩).memory :=
  laidMet_of_run' 8 (by kernel_rfl) (by kernel_rfl)
theorem reads (os : Os) {H : Type} (enc : TypeId × Value → H) : ∃ places, DataW.whole enc Tryd.prog ((laidWorld os).forCall (fun _ _ => 0) ⟨#[], #[.string ⟨#[]⟩], []⟩).memory Tryd.f4.params.toList Rows.rpcGetsSpec.vars false (#[.string ⟨#[]⟩] : Array Value).toList 8 = some ([.lit (.string [])], [], places) :=
  ⟨[], by kernel_rfl⟩

set_option maxRecDepth 100000 in
theorem contract (H : Type) (enc : TypeId × Value → H) (W : World) (base : Nat) (args : Array Value) (ds gs : List (DataW H)) (before : List MemPlace)
    (hval : ∀ (j : Nat) t v, Tryd.f4.params[j]? = some t → args[j]? = some v → Value.okWide Tryd.prog W .any base t v)
    (hW : DataW.Whole enc Tryd.prog Tryd.f4.params.toList Rows.rpcGetsSpec.vars false W args.toList ds gs before) :
    Calls Tryd.prog 4 args W fun e W' => ∃ v, e = .returned v ∧ Rows.rpcGetsSpec.post enc Tryd.prog Tryd.f4 false true false false W args v W' := by
  have hW' := hW
  obtain ⟨p, q, hA0, hV, rfl, hfz, hnd⟩ := hW
  have hA : DataW.TrodAll enc Tryd.prog W 0 (fun _ => true) true Tryd.f4.params.toList args.toList ds p := hA0
  rw [Tryd.params4] at hA hval
  obtain ⟨v0, vs0, d0, ds0, p0, q0, hargs, rfl, rfl, h0, r0⟩ := trodAll_cons hA
  obtain ⟨rfl, rfl, rfl⟩ := trodAll_nil r0
  obtain rfl : args = #[v0] := by cases args; simp_all
  have post : ∀ W', Below W.heap.size W W' → Rows.rpcGetsSpec.post enc Tryd.prog Tryd.f4 false true false false W #[v0] (.bool true) W' := fun W' hg =>
    law_post laidOut (by rw [Tryd.params4]; decide +kernel) rfl Tryd.underlying4 rfl hW' rfl hg
  have done : ∀ (e : Ending) W', (e = .returned (.bool true) ∧ Below W.heap.size W W') → ∃ v, e = .returned v ∧ Rows.rpcGetsSpec.post enc Tryd.prog Tryd.f4 false true false false W #[v0] v W' := fun e W' ⟨he, hg⟩ => ⟨_, he, post W' hg⟩
  clear post
  obtain ⟨s, rfl, rfl, rfl, hs⟩ := open_string Tryd.underlying9 (hval 0 9 v0 rfl rfl) h0
  exact (gets_any s W).mono done


set_option maxRecDepth 100000 in
theorem lifted (os : Os) (started : os.Started) (H : Type) (enc : TypeId × Value → H) (F : Stop.Interp) :
    ReturnsInHanded {} Tryd.checked os 4 .any ((OpenSpec.ofChange Rows.rpcGetsSpec).preRow enc Tryd.prog Tryd.f4 Rows.rpcGetsRow.domain false Rows.rpcGetsRow.laid) (((OpenSpec.ofChange Rows.rpcGetsSpec).at F).post enc Tryd.prog Tryd.f4 false true false false) := by
  obtain ⟨places, hx⟩ := reads os enc
  refine returnsInHanded_of_row (C := Tryd.checked) (s := OpenSpec.ofChange Rows.rpcGetsSpec) own started (by kernel_rfl) Tryd.func4
    (witness_row_at (enc := enc) (C := Tryd.checked) false (laidWorld os) #[.string ⟨#[]⟩] rfl (by kernel_rfl) (by kernel_rfl) (by kernel_rfl)
      (OpenSpec.preRow_of_cond 8 hx (by kernel_rfl) (fun k hk => by cases hk) (by kernel_rfl) (laid_met os))) ?_
  intro W base args ds gs before hval hW _ _ _ hL _ _
  exact contract H enc W base args ds gs before hval hW

theorem said : Rows.RpcGetsSaid :=
  OpenClaim.holds_of_cond 4 Tryd.f4 rfl rfl rfl rfl rfl rfl rfl ⟨rfl, rfl, rfl, rfl, rfl⟩ rfl rfl rfl rfl rfl (by kernel_rfl) Tryd.func4 (by kernel_rfl)
    (of_decide_eq_true (by kernel_rfl)) (by unfold Func.isWrapper; first | (rw [if_pos (by decide +kernel)]; kernel_rfl) | (rw [if_neg (by decide +kernel)]; exact ⟨rfl, rfl⟩))
    (fun os started H enc _ F => by rw [OpenClaim.pre_eq_preRow]; exact lifted os started H enc F)

theorem plain (f : FuncId) (fn : Func) (hf : Tryd.pinned.checked.prog.funcNamed Rows.rpcGetsRow.func = some f) (hfn : Tryd.pinned.checked.prog.funcs[f]? = some fn) :
    true = Tryd.pinned.checked.prog.looks [] ∧ ∀ (j : Nat) t, fn.params[j]? = some t → Tryd.pinned.checked.prog.wantsStandIn t = false := by
  obtain rfl : f = 4 := Option.some.inj ((show Tryd.prog.funcNamed Rows.rpcGetsRow.func = some 4 by kernel_rfl).symm.trans hf) |>.symm
  obtain rfl : fn = Tryd.f4 := (Option.some.inj (Tryd.func4.symm.trans hfn)).symm
  refine ⟨by kernel_rfl, fun j t ht => ?_⟩
  have hall : Tryd.f4.params.all (fun t => Tryd.prog.wantsStandIn t == false) = true := by kernel_rfl
  have := Array.all_eq_true.1 hall j (Array.getElem?_eq_some_iff.1 ht).1
  rw [(Array.getElem?_eq_some_iff.1 ht).2] at this
  have h2 : Tryd.prog.wantsStandIn t = false := by simpa using this
  exact h2

theorem card : Rows.RpcGetsCardSaid :=
  Claim7.holds_tied_plain_at .later [] _ _ _ _ said (fun _ h => by cases h) (by kernel_rfl) (fun _ h => by cases h) rpcGets_row_tie rfl ⟨rfl, rfl⟩ (by kernel_rfl) rfl plain (by kernel_rfl)

end Go.Proofs.YtimbcombhdgjiaaDoor.rpcGets
