/- Calls: the program's Get, Put, Check, and the fixed calls. -/
import Derived.Test.YtdjnadgcjmlejaaDoorCn
import Derived.Test.YtdjnadgcjmlejaaDoorCm
namespace Go.Proofs.YtdjnadgcjmlejaaDoor
open Go.RowKit

theorem zero_built : Tryd.prog.built 30 [] = some #[.int .i64 0, .string ⟨#[]⟩, .string ⟨#[]⟩, .string ⟨#[]⟩, .string ⟨#[]⟩, .int .i64 0, .int .i64 0, .int .i64 0, .string ⟨#[]⟩, .bool false, .int .i64 0, .bool false, .int .i64 0, .bool false, .int .i64 0, .bool false, .int .i64 0, .bool false, .int .i64 0, .bool false, .int .i64 0, .int .i64 0, .int .i64 0, .string ⟨#[]⟩] := by kernel_rfl
theorem zero_arr : (Cl.new 0).arr = #[.int .i64 0, .string ⟨#[]⟩, .string ⟨#[]⟩, .string ⟨#[]⟩, .string ⟨#[]⟩, .int .i64 0, .int .i64 0, .int .i64 0, .string ⟨#[]⟩, .bool false, .int .i64 0, .bool false, .int .i64 0, .bool false, .int .i64 0, .bool false, .int .i64 0, .bool false, .int .i64 0, .bool false, .int .i64 0, .int .i64 0, .int .i64 0, .string ⟨#[]⟩] := rfl
set_option maxRecDepth 100000 in
set_option maxHeartbeats 2000000 in
theorem cGet_not (p : Int) (S : ByteArray) (w : World) (hS : S.size ≤ 1073741824) (ht : there p = false) : Calls Tryd.prog 16 #[.int .i64 p, .string S] w fun e w' => e = .returned (.tuple #[.agg (getR p S).1.arr, .int .i64 (getR p S).2]) ∧ Below w.heap.size w w' := by
  have e : getR p S = (Cl.new 0, 22) := by unfold getR; rw [ht]; rfl
  rw [e]
  have HX := fun w => cexists_any p w
  rw [ht] at HX
  replace HX := Lib.hid HX
  have A0 := Lib.hid (St.new w 30 #[.int .i64 0, .string ⟨#[]⟩, .string ⟨#[]⟩, .string ⟨#[]⟩, .string ⟨#[]⟩, .int .i64 0, .int .i64 0, .int .i64 0, .string ⟨#[]⟩, .bool false, .int .i64 0, .bool false, .int .i64 0, .bool false, .int .i64 0, .bool false, .int .i64 0, .bool false, .int .i64 0, .bool false, .int .i64 0, .int .i64 0, .int .i64 0, .string ⟨#[]⟩])
  have LB := Lib.hid (below_alloc1 w (.cells #[.int .i64 0, .string ⟨#[]⟩, .string ⟨#[]⟩, .string ⟨#[]⟩, .string ⟨#[]⟩, .int .i64 0, .int .i64 0, .int .i64 0, .string ⟨#[]⟩, .bool false, .int .i64 0, .bool false, .int .i64 0, .bool false, .int .i64 0, .bool false, .int .i64 0, .bool false, .int .i64 0, .bool false, .int .i64 0, .int .i64 0, .int .i64 0, .string ⟨#[]⟩] 30 (0, 0)))
  clear e ht
  dsimp only
  rw [zero_arr]
  go_enter Tryd.func16, Tryd.ntmps16
  go_wp2_with (first
    | (go_at_call 20; go_must (refine (HX.out _).mono ?_); rintro e w1 ⟨rfl, rfl⟩)
    | ((with_reducible show wpList _ _ _ ({ dst := _, op := .build _ _, type := _, pos := _, after := _, guard := _ } :: _) _ _); refine wpList_build_as rfl 30 _ rfl #[.int .i64 0, .string ⟨#[]⟩, .string ⟨#[]⟩, .string ⟨#[]⟩, .string ⟨#[]⟩, .int .i64 0, .int .i64 0, .int .i64 0, .string ⟨#[]⟩, .bool false, .int .i64 0, .bool false, .int .i64 0, .bool false, .int .i64 0, .bool false, .int .i64 0, .bool false, .int .i64 0, .bool false, .int .i64 0, .int .i64 0, .int .i64 0, .string ⟨#[]⟩] zero_built ?_)
    | ((with_reducible show wpList _ _ _ ({ dst := _, op := .store _ (.tmp 4) _, type := _, pos := _, after := _, guard := _ } :: _) _ _); refine wpList_store_st rfl 30 _ _ rfl w.heap.size #[.int .i64 0, .string ⟨#[]⟩, .string ⟨#[]⟩, .string ⟨#[]⟩, .string ⟨#[]⟩, .int .i64 0, .int .i64 0, .int .i64 0, .string ⟨#[]⟩, .bool false, .int .i64 0, .bool false, .int .i64 0, .bool false, .int .i64 0, .bool false, .int .i64 0, .bool false, .int .i64 0, .bool false, .int .i64 0, .int .i64 0, .int .i64 0, .string ⟨#[]⟩] rfl rfl _ A0.out (by kernel_rfl) rfl (by kernel_rfl) ?_; intro wz hz hst; have HQ := Lib.hid hz; have HR := Lib.hid hst; clear hz hst))
  refine ret_cell2 (r := 4) (t := 5) (k := w.heap.size) (T := 30) Tryd.results16 rfl rfl HR.out Tryd.underlying30 rfl (by kernel_rfl) rfl ?_
  have e0 := HQ.out
  subst e0
  exact ⟨rfl, below_row LB.out (Nat.le_refl _) _⟩
set_option maxRecDepth 100000 in
set_option maxHeartbeats 2000000 in
theorem cGet_bad (p : Int) (S : ByteArray) (w : World) (hS : S.size ≤ 1073741824) (ht : there p = true) (hg : good (getX p S) = false) : Calls Tryd.prog 16 #[.int .i64 p, .string S] w fun e w' => e = .returned (.tuple #[.agg (getR p S).1.arr, .int .i64 (getR p S).2]) ∧ Below w.heap.size w w' := by
  have e : getR p S = (Cl.new 0, 14) := by unfold getR; rw [ht, hg]; rfl
  rw [e]
  have HX := fun w => cexists_any p w
  rw [ht] at HX
  replace HX := Lib.hid HX
  have HD := fun w => cread_any p S w hS
  rw [hg] at HD
  obtain ⟨c, hc⟩ : ∃ c, c = (getX p S).c := ⟨_, rfl⟩
  rw [← hc] at HD
  dsimp only
  have h3 : c.arr.size = 24 := rfl
  have h4 : c.arr.all (·.oneCell') = true := Cl.arr_one _
  obtain ⟨cs, hcs⟩ : ∃ cs, cs = c.arr := ⟨_, rfl⟩
  rw [← hcs] at HD h3 h4
  replace HD := Lib.hid HD
  have H3 := Lib.hid h3
  have H4 := Lib.hid h4
  have A0 := Lib.hid (St.new w 30 #[.int .i64 0, .string ⟨#[]⟩, .string ⟨#[]⟩, .string ⟨#[]⟩, .string ⟨#[]⟩, .int .i64 0, .int .i64 0, .int .i64 0, .string ⟨#[]⟩, .bool false, .int .i64 0, .bool false, .int .i64 0, .bool false, .int .i64 0, .bool false, .int .i64 0, .bool false, .int .i64 0, .bool false, .int .i64 0, .int .i64 0, .int .i64 0, .string ⟨#[]⟩])
  have L0 := Lib.hid (below_alloc1 w (.cells #[.int .i64 0, .string ⟨#[]⟩, .string ⟨#[]⟩, .string ⟨#[]⟩, .string ⟨#[]⟩, .int .i64 0, .int .i64 0, .int .i64 0, .string ⟨#[]⟩, .bool false, .int .i64 0, .bool false, .int .i64 0, .bool false, .int .i64 0, .bool false, .int .i64 0, .bool false, .int .i64 0, .bool false, .int .i64 0, .int .i64 0, .int .i64 0, .string ⟨#[]⟩] 30 (0, 0)))
  clear e ht hg hc hcs h3 h4
  rw [zero_arr]
  go_enter Tryd.func16, Tryd.ntmps16
  go_wp2_with (first
    | (go_at_call 20; go_must (refine (HX.out _).mono ?_); rintro e w1 ⟨rfl, rfl⟩)
    | (go_at_call 23; go_must (refine (HD.out _).mono ?_); rintro e w1 ⟨rfl, b1⟩; have A1 := Lib.hid ((A0.out.below b1).alloc (.cells cs 30 (0, 0))); have LB := Lib.hid ((L0.out.trans (b1.mono (by simp))).alloc (Nat.le_trans (by simp) b1.size) (.cells cs 30 (0, 0))); have C1 := Lib.hid (St.new w1 30 cs); clear b1)
    | ((with_reducible show wpList _ _ _ ({ dst := _, op := .store _ (.tmp 6) _, type := _, pos := _, after := _, guard := _ } :: _) _ _); refine wpList_store_st rfl 30 _ _ rfl w1.heap.size cs rfl rfl _ (St.new w1 30 _) (by rw [H3.out]; kernel_rfl) (by rw [H3.out]; rfl) H4.out ?_; rw [alloc_row]; intro wz hz hst; subst hz; clear hst)
    | ((with_reducible show wpList _ _ _ ({ dst := _, op := .build _ _, type := _, pos := _, after := _, guard := _ } :: _) _ _); refine wpList_build_as rfl 30 _ rfl #[.int .i64 0, .string ⟨#[]⟩, .string ⟨#[]⟩, .string ⟨#[]⟩, .string ⟨#[]⟩, .int .i64 0, .int .i64 0, .int .i64 0, .string ⟨#[]⟩, .bool false, .int .i64 0, .bool false, .int .i64 0, .bool false, .int .i64 0, .bool false, .int .i64 0, .bool false, .int .i64 0, .bool false, .int .i64 0, .int .i64 0, .int .i64 0, .string ⟨#[]⟩] zero_built ?_)
    | ((with_reducible show wpList _ _ _ ({ dst := _, op := .store _ (.tmp 4) _, type := _, pos := _, after := _, guard := _ } :: _) _ _); refine wpList_store_st rfl 30 _ _ rfl w.heap.size #[.int .i64 0, .string ⟨#[]⟩, .string ⟨#[]⟩, .string ⟨#[]⟩, .string ⟨#[]⟩, .int .i64 0, .int .i64 0, .int .i64 0, .string ⟨#[]⟩, .bool false, .int .i64 0, .bool false, .int .i64 0, .bool false, .int .i64 0, .bool false, .int .i64 0, .bool false, .int .i64 0, .bool false, .int .i64 0, .int .i64 0, .int .i64 0, .string ⟨#[]⟩] rfl rfl _ A1.out (by kernel_rfl) rfl (by kernel_rfl) ?_; intro wz hz hst; have HQ := Lib.hid hz; have HR := Lib.hid hst; clear hz hst))
  refine ret_cell2 (r := 4) (t := 5) (k := w.heap.size) (T := 30) Tryd.results16 rfl rfl HR.out Tryd.underlying30 rfl (by kernel_rfl) rfl ?_
  have e0 := HQ.out
  subst e0
  exact ⟨rfl, below_row LB.out (Nat.le_refl _) _⟩
set_option maxRecDepth 100000 in
set_option maxHeartbeats 2000000 in
theorem cGet_good (p : Int) (S : ByteArray) (w : World) (hS : S.size ≤ 1073741824) (ht : there p = true) (hg : good (getX p S) = true) : Calls Tryd.prog 16 #[.int .i64 p, .string S] w fun e w' => e = .returned (.tuple #[.agg (getR p S).1.arr, .int .i64 (getR p S).2]) ∧ Below w.heap.size w w' := by
  have e : getR p S = ((getX p S).c, 0) := by unfold getR; rw [ht, hg]; rfl
  rw [e]
  have HX := fun w => cexists_any p w
  rw [ht] at HX
  replace HX := Lib.hid HX
  have HD := fun w => cread_any p S w hS
  rw [hg] at HD
  obtain ⟨c, hc⟩ : ∃ c, c = (getX p S).c := ⟨_, rfl⟩
  rw [← hc] at HD ⊢
  dsimp only
  have h3 : c.arr.size = 24 := rfl
  have h4 : c.arr.all (·.oneCell') = true := Cl.arr_one _
  obtain ⟨cs, hcs⟩ : ∃ cs, cs = c.arr := ⟨_, rfl⟩
  rw [← hcs] at HD h3 h4 ⊢
  replace HD := Lib.hid HD
  have H3 := Lib.hid h3
  have H4 := Lib.hid h4
  have A0 := Lib.hid (St.new w 30 #[.int .i64 0, .string ⟨#[]⟩, .string ⟨#[]⟩, .string ⟨#[]⟩, .string ⟨#[]⟩, .int .i64 0, .int .i64 0, .int .i64 0, .string ⟨#[]⟩, .bool false, .int .i64 0, .bool false, .int .i64 0, .bool false, .int .i64 0, .bool false, .int .i64 0, .bool false, .int .i64 0, .bool false, .int .i64 0, .int .i64 0, .int .i64 0, .string ⟨#[]⟩])
  have L0 := Lib.hid (below_alloc1 w (.cells #[.int .i64 0, .string ⟨#[]⟩, .string ⟨#[]⟩, .string ⟨#[]⟩, .string ⟨#[]⟩, .int .i64 0, .int .i64 0, .int .i64 0, .string ⟨#[]⟩, .bool false, .int .i64 0, .bool false, .int .i64 0, .bool false, .int .i64 0, .bool false, .int .i64 0, .bool false, .int .i64 0, .bool false, .int .i64 0, .int .i64 0, .int .i64 0, .string ⟨#[]⟩] 30 (0, 0)))
  clear e ht hg hc hcs h3 h4
  go_enter Tryd.func16, Tryd.ntmps16
  go_wp2_with (first
    | (go_at_call 20; go_must (refine (HX.out _).mono ?_); rintro e w1 ⟨rfl, rfl⟩)
    | (go_at_call 23; go_must (refine (HD.out _).mono ?_); rintro e w1 ⟨rfl, b1⟩; have A1 := Lib.hid ((A0.out.below b1).alloc (.cells cs 30 (0, 0))); have LB := Lib.hid ((L0.out.trans (b1.mono (by simp))).alloc (Nat.le_trans (by simp) b1.size) (.cells cs 30 (0, 0))); have C1 := Lib.hid (St.new w1 30 cs); clear b1)
    | ((with_reducible show wpList _ _ _ ({ dst := _, op := .store _ (.tmp 6) _, type := _, pos := _, after := _, guard := _ } :: _) _ _); refine wpList_store_st rfl 30 _ _ rfl w1.heap.size cs rfl rfl _ (St.new w1 30 _) (by rw [H3.out]; kernel_rfl) (by rw [H3.out]; rfl) H4.out ?_; rw [alloc_row]; intro wz hz hst; subst hz; clear hst)
    | ((with_reducible show wpList _ _ _ ({ dst := _, op := .load _ (.tmp 6), type := _, pos := _, after := _, guard := _ } :: _) _ _); refine wpList_load_st rfl 30 _ rfl w1.heap.size rfl 30 cs C1.out _ Tryd.underlying30 rfl (by rw [H3.out]; kernel_rfl) ?_)
    | ((with_reducible show wpList _ _ _ ({ dst := _, op := .store _ (.tmp 4) _, type := _, pos := _, after := _, guard := _ } :: _) _ _); refine wpList_store_st rfl 30 _ _ rfl w.heap.size cs rfl rfl _ A1.out (by rw [H3.out]; kernel_rfl) (by rw [H3.out]; rfl) H4.out ?_; intro wz hz hst; have HQ := Lib.hid hz; have HR := Lib.hid hst; clear hz hst))
  refine ret_cell2 (r := 4) (t := 5) (k := w.heap.size) (T := 30) Tryd.results16 rfl rfl HR.out Tryd.underlying30 rfl (by rw [H3.out]; kernel_rfl) rfl ?_
  have e0 := HQ.out
  subst e0
  exact ⟨rfl, below_row LB.out (Nat.le_refl _) _⟩
theorem cGet_any (p : Int) (S : ByteArray) (w : World) (hS : S.size ≤ 1073741824) : Calls Tryd.prog 16 #[.int .i64 p, .string S] w fun e w' => e = .returned (.tuple #[.agg (getR p S).1.arr, .int .i64 (getR p S).2]) ∧ Below w.heap.size w w' := by
  cases ht : there p with
  | false => exact cGet_not p S w hS ht
  | true =>
    cases hg : good (getX p S) with
    | false => exact cGet_bad p S w hS ht hg
    | true => exact cGet_good p S w hS ht hg
set_option maxRecDepth 100000 in
set_option maxHeartbeats 2000000 in
theorem cPut_err (c : Cl) (w : World) (hc : c.small) (hx : (getR c.proc (str (clBytes c))).2 ≠ 0) : Calls Tryd.prog 13 #[.agg c.arr] w fun e w' => e = .returned (.tuple #[.string (str (putR c).1), .int .i64 (putR c).2]) ∧ Below w.heap.size w w' := by
  have HW := fun w => cwrite_any c w hc
  have hz : (str (clBytes c)).size ≤ 1073741824 := by
    have h1 := wrs_len c hc (flds c.proc)
    have h2 := flds_len c.proc
    rw [str_size]
    unfold clBytes
    omega
  have HG := fun w => cGet_any c.proc (str (clBytes c)) w hz
  have he := put_eq c
  rw [← he]
  obtain ⟨d, x, hq⟩ : ∃ d x, getR c.proc (str (clBytes c)) = (d, x) := ⟨_, _, rfl⟩
  rw [hq] at HG hx ⊢
  dsimp only at HG hx ⊢
  rw [if_pos hx]
  have d1 : (x == 0) = false := by simpa using hx
  have d2 : (x != 0) = true := by simpa using hx
  clear hx
  have g3 : c.arr.size = 24 := rfl
  have h3 : d.arr.size = 24 := rfl
  have h4 : d.arr.all (·.oneCell') = true := Cl.arr_one _
  have st0 := St.new w 30 c.arr
  have c0 : (w.alloc (.cells c.arr 30 (0, 0))).cell? ⟨w.heap.size, 0, none⟩ = some (.int .i64 c.proc) := st0.cell rfl
  have hne := fun W => run_ne_call d c W
  have hqg : ∀ (W : World) (x y : Operand), (eqGuard .neq 30 x y (.agg d.arr) (.agg c.arr)).run Tryd.prog W = .ok () W := fun W x y => run_eqGuard_agg W .neq 30 x y _ _ (by kernel_rfl)
  have hp : ∀ W : World, St 30 w.heap.size c.arr W → W.cell? ⟨w.heap.size, 0, none⟩ = some (.int .i64 c.proc) := fun W h => h.cell rfl
  obtain ⟨bs, hbs⟩ : ∃ b, b = str (clBytes c) := ⟨_, rfl⟩
  rw [← hbs] at HW HG
  obtain ⟨cs, hcs⟩ : ∃ cs, cs = c.arr := ⟨_, rfl⟩
  obtain ⟨ds, hds⟩ : ∃ ds, ds = d.arr := ⟨_, rfl⟩
  rw [← hcs] at HW g3 st0 c0 hne hqg hp ⊢
  rw [← hds] at HG h3 h4 hne hqg
  replace HW := Lib.hid HW
  replace HG := Lib.hid HG
  have HBS := Lib.hid hbs
  have G3 := Lib.hid g3
  have H3 := Lib.hid h3
  have H4 := Lib.hid h4
  have ST0 := Lib.hid st0
  have HP := Lib.hid hp
  have L0 := Lib.hid (below_alloc1 w (.cells cs 30 (0, 0)))
  clear hbs hcs hds g3 h3 h4 st0 hp hq he hz
  clear hne hqg
  go_enter Tryd.func13, Tryd.ntmps13
  go_wp2_with (first
    | (go_at_call 21; go_must (refine (HW.out _).mono ?_); rintro e w1 ⟨rfl, b1⟩; have ST1 := Lib.hid (ST0.out.below b1); have L1 := Lib.hid (L0.out.trans (b1.mono (by simp))); have cp := HP.out _ ST1.out; clear b1)
    | (go_at_call 16; go_must (refine (HG.out _).mono ?_); rintro e w2 ⟨rfl, b2⟩; have ST2 := Lib.hid ((ST1.out.below b2).alloc (.cells ds 30 (0, 0))); have D2 := Lib.hid (St.new w2 30 ds); have L2 := Lib.hid ((L1.out.trans (b2.mono L1.out.size)).alloc (Nat.le_trans L1.out.size b2.size) (.cells ds 30 (0, 0))); clear b2 cp)
    | ((with_reducible show wpList _ _ _ ({ dst := _, op := .store _ (.tmp 5) _, type := _, pos := _, after := _, guard := _ } :: _) _ _); refine wpList_store_st rfl 30 _ _ rfl w2.heap.size ds rfl rfl _ (St.new w2 30 _) (by rw [H3.out]; kernel_rfl) (by rw [H3.out]; rfl) H4.out ?_; rw [alloc_row]; intro wz hz hst; subst hz; clear hst)
    | ((with_reducible show wpList _ _ _ ({ dst := _, op := .load _ (.tmp 1), type := _, pos := _, after := _, guard := _ } :: _) _ _); refine wpList_load_st rfl 30 _ rfl w.heap.size rfl 30 cs (by first | exact ST2.out | exact ST0.out) _ Tryd.underlying30 rfl (by rw [G3.out]; kernel_rfl) ?_)
    | ((with_reducible show wpList _ _ _ ({ dst := _, op := .load _ (.tmp 5), type := _, pos := _, after := _, guard := _ } :: _) _ _); refine wpList_load_st rfl 30 _ rfl w2.heap.size rfl 30 ds D2.out _ Tryd.underlying30 rfl (by rw [H3.out]; kernel_rfl) ?_))
  go_ret2
  exact ⟨rfl, L2.out⟩
set_option maxRecDepth 100000 in
set_option maxHeartbeats 2000000 in
theorem cPut_other (c : Cl) (w : World) (hc : c.small) (hx : (getR c.proc (str (clBytes c))).2 = 0) (hd : (getR c.proc (str (clBytes c))).1 ≠ c) : Calls Tryd.prog 13 #[.agg c.arr] w fun e w' => e = .returned (.tuple #[.string (str (putR c).1), .int .i64 (putR c).2]) ∧ Below w.heap.size w w' := by
  have HW := fun w => cwrite_any c w hc
  have hz : (str (clBytes c)).size ≤ 1073741824 := by
    have h1 := wrs_len c hc (flds c.proc)
    have h2 := flds_len c.proc
    rw [str_size]
    unfold clBytes
    omega
  have HG := fun w => cGet_any c.proc (str (clBytes c)) w hz
  have he := put_eq c
  rw [← he]
  obtain ⟨d, x, hq⟩ : ∃ d x, getR c.proc (str (clBytes c)) = (d, x) := ⟨_, _, rfl⟩
  rw [hq] at HG hx hd ⊢
  dsimp only at HG hx hd ⊢
  rw [if_neg (by rw [hx]; simp), if_pos hd]
  subst hx
  have g3 : c.arr.size = 24 := rfl
  have h3 : d.arr.size = 24 := rfl
  have h4 : d.arr.all (·.oneCell') = true := Cl.arr_one _
  have st0 := St.new w 30 c.arr
  have c0 : (w.alloc (.cells c.arr 30 (0, 0))).cell? ⟨w.heap.size, 0, none⟩ = some (.int .i64 c.proc) := st0.cell rfl
  have hne := fun W => run_ne_call d c W
  have hqg : ∀ (W : World) (x y : Operand), (eqGuard .neq 30 x y (.agg d.arr) (.agg c.arr)).run Tryd.prog W = .ok () W := fun W x y => run_eqGuard_agg W .neq 30 x y _ _ (by kernel_rfl)
  have hp : ∀ W : World, St 30 w.heap.size c.arr W → W.cell? ⟨w.heap.size, 0, none⟩ = some (.int .i64 c.proc) := fun W h => h.cell rfl
  obtain ⟨bs, hbs⟩ : ∃ b, b = str (clBytes c) := ⟨_, rfl⟩
  rw [← hbs] at HW HG
  obtain ⟨cs, hcs⟩ : ∃ cs, cs = c.arr := ⟨_, rfl⟩
  obtain ⟨ds, hds⟩ : ∃ ds, ds = d.arr := ⟨_, rfl⟩
  rw [← hcs] at HW g3 st0 c0 hne hqg hp ⊢
  rw [← hds] at HG h3 h4 hne hqg
  replace HW := Lib.hid HW
  replace HG := Lib.hid HG
  have HBS := Lib.hid hbs
  have G3 := Lib.hid g3
  have H3 := Lib.hid h3
  have H4 := Lib.hid h4
  have ST0 := Lib.hid st0
  have HP := Lib.hid hp
  have L0 := Lib.hid (below_alloc1 w (.cells cs 30 (0, 0)))
  clear hbs hcs hds g3 h3 h4 st0 hp hq he hz
  have hdd : (!decide (d = c)) = true := by simpa using hd
  rw [hdd] at hne
  clear hd hdd
  go_enter Tryd.func13, Tryd.ntmps13
  go_wp2_with (first
    | (go_at_call 21; go_must (refine (HW.out _).mono ?_); rintro e w1 ⟨rfl, b1⟩; have ST1 := Lib.hid (ST0.out.below b1); have L1 := Lib.hid (L0.out.trans (b1.mono (by simp))); have cp := HP.out _ ST1.out; clear b1)
    | (go_at_call 16; go_must (refine (HG.out _).mono ?_); rintro e w2 ⟨rfl, b2⟩; have ST2 := Lib.hid ((ST1.out.below b2).alloc (.cells ds 30 (0, 0))); have D2 := Lib.hid (St.new w2 30 ds); have L2 := Lib.hid ((L1.out.trans (b2.mono L1.out.size)).alloc (Nat.le_trans L1.out.size b2.size) (.cells ds 30 (0, 0))); clear b2 cp)
    | ((with_reducible show wpList _ _ _ ({ dst := _, op := .store _ (.tmp 5) _, type := _, pos := _, after := _, guard := _ } :: _) _ _); refine wpList_store_st rfl 30 _ _ rfl w2.heap.size ds rfl rfl _ (St.new w2 30 _) (by rw [H3.out]; kernel_rfl) (by rw [H3.out]; rfl) H4.out ?_; rw [alloc_row]; intro wz hz hst; subst hz; clear hst)
    | ((with_reducible show wpList _ _ _ ({ dst := _, op := .load _ (.tmp 1), type := _, pos := _, after := _, guard := _ } :: _) _ _); refine wpList_load_st rfl 30 _ rfl w.heap.size rfl 30 cs (by first | exact ST2.out | exact ST0.out) _ Tryd.underlying30 rfl (by rw [G3.out]; kernel_rfl) ?_)
    | ((with_reducible show wpList _ _ _ ({ dst := _, op := .load _ (.tmp 5), type := _, pos := _, after := _, guard := _ } :: _) _ _); refine wpList_load_st rfl 30 _ rfl w2.heap.size rfl 30 ds D2.out _ Tryd.underlying30 rfl (by rw [H3.out]; kernel_rfl) ?_))
  go_ret2
  exact ⟨rfl, L2.out⟩
set_option maxRecDepth 100000 in
set_option maxHeartbeats 2000000 in
theorem cPut_same (c : Cl) (w : World) (hc : c.small) (hx : (getR c.proc (str (clBytes c))).2 = 0) (hd : (getR c.proc (str (clBytes c))).1 = c) : Calls Tryd.prog 13 #[.agg c.arr] w fun e w' => e = .returned (.tuple #[.string (str (putR c).1), .int .i64 (putR c).2]) ∧ Below w.heap.size w w' := by
  have HW := fun w => cwrite_any c w hc
  have hz : (str (clBytes c)).size ≤ 1073741824 := by
    have h1 := wrs_len c hc (flds c.proc)
    have h2 := flds_len c.proc
    rw [str_size]
    unfold clBytes
    omega
  have HG := fun w => cGet_any c.proc (str (clBytes c)) w hz
  have he := put_eq c
  rw [← he]
  obtain ⟨d, x, hq⟩ : ∃ d x, getR c.proc (str (clBytes c)) = (d, x) := ⟨_, _, rfl⟩
  rw [hq] at HG hx hd ⊢
  dsimp only at HG hx hd ⊢
  rw [if_neg (by rw [hx]; simp), if_neg (by rw [hd]; simp)]
  subst hx
  have g3 : c.arr.size = 24 := rfl
  have h3 : d.arr.size = 24 := rfl
  have h4 : d.arr.all (·.oneCell') = true := Cl.arr_one _
  have st0 := St.new w 30 c.arr
  have c0 : (w.alloc (.cells c.arr 30 (0, 0))).cell? ⟨w.heap.size, 0, none⟩ = some (.int .i64 c.proc) := st0.cell rfl
  have hne := fun W => run_ne_call d c W
  have hqg : ∀ (W : World) (x y : Operand), (eqGuard .neq 30 x y (.agg d.arr) (.agg c.arr)).run Tryd.prog W = .ok () W := fun W x y => run_eqGuard_agg W .neq 30 x y _ _ (by kernel_rfl)
  have hp : ∀ W : World, St 30 w.heap.size c.arr W → W.cell? ⟨w.heap.size, 0, none⟩ = some (.int .i64 c.proc) := fun W h => h.cell rfl
  obtain ⟨bs, hbs⟩ : ∃ b, b = str (clBytes c) := ⟨_, rfl⟩
  rw [← hbs] at HW HG
  obtain ⟨cs, hcs⟩ : ∃ cs, cs = c.arr := ⟨_, rfl⟩
  obtain ⟨ds, hds⟩ : ∃ ds, ds = d.arr := ⟨_, rfl⟩
  rw [← hcs] at HW g3 st0 c0 hne hqg hp ⊢
  rw [← hds] at HG h3 h4 hne hqg
  replace HW := Lib.hid HW
  replace HG := Lib.hid HG
  have HBS := Lib.hid hbs
  have G3 := Lib.hid g3
  have H3 := Lib.hid h3
  have H4 := Lib.hid h4
  have ST0 := Lib.hid st0
  have HP := Lib.hid hp
  have L0 := Lib.hid (below_alloc1 w (.cells cs 30 (0, 0)))
  clear hbs hcs hds g3 h3 h4 st0 hp hq he hz
  have hdd : (!decide (d = c)) = false := by simpa using hd
  rw [hdd] at hne
  clear hd hdd
  go_enter Tryd.func13, Tryd.ntmps13
  go_wp2_with (first
    | (go_at_call 21; go_must (refine (HW.out _).mono ?_); rintro e w1 ⟨rfl, b1⟩; have ST1 := Lib.hid (ST0.out.below b1); have L1 := Lib.hid (L0.out.trans (b1.mono (by simp))); have cp := HP.out _ ST1.out; clear b1)
    | (go_at_call 16; go_must (refine (HG.out _).mono ?_); rintro e w2 ⟨rfl, b2⟩; have ST2 := Lib.hid ((ST1.out.below b2).alloc (.cells ds 30 (0, 0))); have D2 := Lib.hid (St.new w2 30 ds); have L2 := Lib.hid ((L1.out.trans (b2.mono L1.out.size)).alloc (Nat.le_trans L1.out.size b2.size) (.cells ds 30 (0, 0))); clear b2 cp)
    | ((with_reducible show wpList _ _ _ ({ dst := _, op := .store _ (.tmp 5) _, type := _, pos := _, after := _, guard := _ } :: _) _ _); refine wpList_store_st rfl 30 _ _ rfl w2.heap.size ds rfl rfl _ (St.new w2 30 _) (by rw [H3.out]; kernel_rfl) (by rw [H3.out]; rfl) H4.out ?_; rw [alloc_row]; intro wz hz hst; subst hz; clear hst)
    | ((with_reducible show wpList _ _ _ ({ dst := _, op := .load _ (.tmp 1), type := _, pos := _, after := _, guard := _ } :: _) _ _); refine wpList_load_st rfl 30 _ rfl w.heap.size rfl 30 cs (by first | exact ST2.out | exact ST0.out) _ Tryd.underlying30 rfl (by rw [G3.out]; kernel_rfl) ?_)
    | ((with_reducible show wpList _ _ _ ({ dst := _, op := .load _ (.tmp 5), type := _, pos := _, after := _, guard := _ } :: _) _ _); refine wpList_load_st rfl 30 _ rfl w2.heap.size rfl 30 ds D2.out _ Tryd.underlying30 rfl (by rw [H3.out]; kernel_rfl) ?_))
  go_ret2
  exact ⟨congrArg (fun b => Ending.returned (.tuple #[.string b, .int .i64 0])) HBS.out, L2.out⟩
theorem cPut_any (c : Cl) (w : World) (hc : c.small) : Calls Tryd.prog 13 #[.agg c.arr] w fun e w' => e = .returned (.tuple #[.string (str (putR c).1), .int .i64 (putR c).2]) ∧ Below w.heap.size w w' := by
  by_cases hx : (getR c.proc (str (clBytes c))).2 = 0
  · by_cases hd : (getR c.proc (str (clBytes c))).1 = c
    · exact cPut_same c w hc hx hd
    · exact cPut_other c w hc hx hd
  · exact cPut_err c w hc hx
end Go.Proofs.YtdjnadgcjmlejaaDoor
