/- Messages: the program's Get: a missing number is thrown and caught. -/
import Derived.Test.YtimbcombhdgjiaaDoorMe
import Derived.Defers
import Derived.Recover
namespace Go.Proofs.YtimbcombhdgjiaaDoor
open Go.RowKit

theorem mz_lit : mz = #[.int .i64 0, .bool false, .bool false, .int .i64 0, .int .i64 0, .int .i64 0, .int .i64 0, .int .i64 0, .int .i64 0, .string ⟨#[]⟩] := rfl
theorem below_set {B b : Nat} {a w : World} (h : Below B a w) (hb : B ≤ b) (j : Nat) (v : Value) : Below B a (w.setCell ⟨b, j, none⟩ v) :=
  h.setCell (p := ⟨b, j, none⟩) hb v
set_option maxRecDepth 100000 in
set_option maxHeartbeats 2000000 in
/-- The deferred closure, behind a panic of that kind. -/
theorem mGetc_thrown (a b B : Nat) (w : World) (ha : St 25 a mz w) (hb : St 27 b #[.int .i64 0] w) (hab : a ≠ b) (hBa : B ≤ a) (hBb : B ≤ b) (hBw : B ≤ w.heap.size) :
    CallsD Tryd.prog 23 #[.pointer (some ⟨a, 0, none⟩), .pointer (some ⟨b, 0, none⟩)] (.panicking thrown) w fun e u' w' =>
      e = .returned (.tuple #[]) ∧ u' = .panicking [{ v := .iface 51 (.agg #[]), recovered := true }] ∧ St 25 a mz w' ∧ St 27 b #[.int .i64 14] w' ∧ Below B w w' := by
  unfold thrown
  refine callsD_of_wpS Tryd.func23 rfl fun c₀ cs hu => ?_
  apply wpS_seq
  apply wpS_region
  have hta : ∀ w : World, (Instr.typeAssert (.iface 51 (.agg #[])) 20 51 true).run Tryd.prog w = .ok (.tuple #[.agg #[], .bool true]) w := fun w => by kernel_rfl
  simp [wpOpsS, go_sem, recoverD, hu, Tryd.ntmps23, Exit.thenS, hta]
  have hfl : (#[Value.pointer (some ⟨a, 0, none⟩), Value.pointer (some ⟨b, 0, none⟩)] ++ (((((((Array.replicate 9 undef).setIfInBounds 3 (Value.iface 51 (.agg #[]))).setIfInBounds 4 (.tuple #[.agg #[], .bool true])).setIfInBounds 2 (.tuple #[.agg #[], .bool true])).setIfInBounds 5 (.agg #[])).setIfInBounds 6 (.bool true)).setIfInBounds 0 (.pointer (some ⟨w.heap.size, 0, none⟩))).setIfInBounds 1 (.bool true)) =
      #[.pointer (some ⟨a, 0, none⟩), .pointer (some ⟨b, 0, none⟩), .pointer (some ⟨w.heap.size, 0, none⟩), .bool true, .tuple #[.agg #[], .bool true], .iface 51 (.agg #[]), .tuple #[.agg #[], .bool true], .agg #[], .bool true, undef, undef] := rfl
  rw [hfl]
  have HA := Lib.hid (ha.alloc (.cells #[] 51 (0, 0)))
  have HB := Lib.hid (hb.alloc (.cells #[] 51 (0, 0)))
  have LW := Lib.hid ((Below.refl B w).alloc hBw (.cells #[] 51 (0, 0)))
  have HAB := Lib.hid hab
  have HBA := Lib.hid hBa
  have HBB := Lib.hid hBb
  clear ha hb hfl hab hBa hBb hBw hta
  refine wpS_of_wp ?_
  go_wp2_with (first
    | ((with_reducible show wpList _ _ _ ({ dst := _, op := .build 25 #[], type := _, pos := _, after := _, guard := _ } :: _) _ _); refine wpList_build_as rfl 25 _ rfl mz (by kernel_rfl) ?_)
    | ((with_reducible show wpList _ _ _ ({ dst := _, op := .store 25 (.tmp 0) _, type := _, pos := _, after := _, guard := _ } :: _) _ _); refine wpList_store_st rfl 25 _ _ rfl a mz rfl rfl mz HA.out (by kernel_rfl) rfl (by kernel_rfl) ?_; intro wz hz hst; have HS := Lib.hid hst; have hb2 := HB.out.setRow_other (fun e => HAB.out e.symm) mz; have lw2 := below_row LW.out HBA.out mz; rw [← hz] at hb2 lw2; have cb := hb2.cell (j := 0) (v := .int .i64 0) rfl; have fb := hb2.free 0; have HB2 := Lib.hid hb2; have LW2 := Lib.hid lw2; clear hz hst hb2 lw2))
  exact ⟨rfl, _, rfl, .tuple #[], results_none Tryd.results23 _ _ _, rfl, rfl, HS.out.other b 0 _ (fun e => HAB.out e.symm), HB2.out.set 0 _, below_set LW2.out HBB.out 0 _⟩
set_option maxRecDepth 100000 in
set_option maxHeartbeats 2000000 in
/-- The deferred closure, where nothing was thrown. -/
theorem mGetc_calm (a b : Nat) (w : World) :
    CallsD Tryd.prog 23 #[.pointer (some ⟨a, 0, none⟩), .pointer (some ⟨b, 0, none⟩)] .returning w fun e u' w' =>
      e = .returned (.tuple #[]) ∧ u' = .returning ∧ Below w.heap.size w w' := by
  refine callsD_of_wpS Tryd.func23 rfl fun c₀ cs hu => ?_
  apply wpS_seq
  apply wpS_region
  have hta : ∀ w : World, (Instr.typeAssert .nilIface 20 51 true).run Tryd.prog w = .ok (.tuple #[.agg #[], .bool false]) w := fun w => by kernel_rfl
  simp [wpOpsS, go_sem, recoverD, hu, Tryd.ntmps23, Exit.thenS, hta]
  have LW := Lib.hid (below_one w (.cells #[] 51 (0, 0)))
  have hfl : (#[Value.pointer (some ⟨a, 0, none⟩), Value.pointer (some ⟨b, 0, none⟩)] ++ (((((((Array.replicate 9 undef).setIfInBounds 3 .nilIface).setIfInBounds 4 (.tuple #[.agg #[], .bool false])).setIfInBounds 2 (.tuple #[.agg #[], .bool false])).setIfInBounds 5 (.agg #[])).setIfInBounds 6 (.bool false)).setIfInBounds 0 (.pointer (some ⟨w.heap.size, 0, none⟩))).setIfInBounds 1 (.bool false)) =
      #[.pointer (some ⟨a, 0, none⟩), .pointer (some ⟨b, 0, none⟩), .pointer (some ⟨w.heap.size, 0, none⟩), .bool false, .tuple #[.agg #[], .bool false], .nilIface, .tuple #[.agg #[], .bool false], .agg #[], .bool false, undef, undef] := rfl
  rw [hfl]
  have HU := Lib.hid hu
  clear hfl hta hu
  refine wpS_of_wp ?_
  go_wp2
  exact ⟨rfl, .returning, by rw [← HU.out], .tuple #[], results_none Tryd.results23 _ _ _, rfl, rfl, LW.out⟩

/-- The results of Get, out of their cells. -/
theorem get_results {a b : Nat} {cs : Array Value} {er : Int} {tmps : Array Value} {w : World} (h2 : tmps.getD 2 undef = .pointer (some ⟨a, 0, none⟩)) (h3 : tmps.getD 3 undef = .pointer (some ⟨b, 0, none⟩)) (ha : St 25 a cs w) (hb : St 27 b #[.int .i64 er] w) (hc : cs.size = 10) :
    (results Tryd.f10 tmps).run Tryd.prog w = .ok (.tuple #[.agg cs, .int .i64 er]) w := by
  have h1 := ha.load (P := Tryd.prog) (ty := 25) Tryd.underlying25 rfl (by rw [hc]; kernel_rfl)
  have hcb := hb.cell (j := 0) (v := .int .i64 er) rfl
  have hp : ∀ (x : Addr) (w : World), (asAddr (.pointer (some x))).run Tryd.prog w = .ok x w := fun _ _ => rfl
  rw [Array.getD_eq_getD_getElem?] at h2 h3
  unfold results
  rw [Tryd.results10]
  simp [Sem.run_bind, hp, h1, h2, h3, Result.andThen]
  simp [go_sem, hcb]
/-- The two result cells, made anew. -/
theorem get_cells (w : World) : St 25 w.heap.size mz ((w.alloc (.cells #[.int .i64 0, .bool false, .bool false, .int .i64 0, .int .i64 0, .int .i64 0, .int .i64 0, .int .i64 0, .int .i64 0, .string ⟨#[]⟩] 25 (0, 0))).alloc (.cells #[.int .i64 0] 27 (0, 0))) ∧ St 27 (w.heap.size + 1) #[.int .i64 0] ((w.alloc (.cells #[.int .i64 0, .bool false, .bool false, .int .i64 0, .int .i64 0, .int .i64 0, .int .i64 0, .int .i64 0, .int .i64 0, .string ⟨#[]⟩] 25 (0, 0))).alloc (.cells #[.int .i64 0] 27 (0, 0))) ∧ Below w.heap.size w ((w.alloc (.cells #[.int .i64 0, .bool false, .bool false, .int .i64 0, .int .i64 0, .int .i64 0, .int .i64 0, .int .i64 0, .int .i64 0, .string ⟨#[]⟩] 25 (0, 0))).alloc (.cells #[.int .i64 0] 27 (0, 0))) :=
  ⟨(St.new w 25 mz).alloc _, St.new1 w _ 27 _, (below_one w _).alloc (by simp) _⟩

set_option maxRecDepth 100000 in
set_option maxHeartbeats 2000000 in
theorem mGet_long (s : ByteArray) (w : World) (hz : 2048 < s.size) : Calls Tryd.prog 10 #[.string s] w fun e w' => Told s e ∧ Below w.heap.size w w' := by
  have e0 : mgGet s = (Mg.zero, 4) := by unfold mgGet; rw [if_pos hz]
  unfold Told
  rw [e0, mz_zero]
  have d0 : decide ((s.size : Int) > 2048) = true := decide_eq_true (by omega)
  obtain ⟨ha, hb, hl⟩ := get_cells w
  have HA := Lib.hid ha
  have HB := Lib.hid hb
  have HL := Lib.hid hl
  clear ha hb hl e0 hz
  go_enter_defers Tryd.func10, Tryd.ntmps10
  go_wp2_with (first
    | ((with_reducible show wpList _ _ _ ({ dst := _, op := .build 25 #[], type := _, pos := _, after := _, guard := _ } :: _) _ _); refine wpList_build_as rfl 25 _ rfl mz (by kernel_rfl) ?_)
    | ((with_reducible show wpList _ _ _ ({ dst := _, op := .store 25 (.tmp 2) (.tmp 7), type := _, pos := _, after := _, guard := _ } :: _) _ _); refine wpList_store_st rfl 25 _ _ rfl w.heap.size mz rfl rfl mz HA.out (by kernel_rfl) rfl (by kernel_rfl) ?_; intro wz hz hst; have HS := Lib.hid hst; have hb2 := HB.out.setRow_other (g := w.heap.size) (by omega) mz; have lw2 := below_row HL.out (Nat.le_refl _) mz; rw [← hz] at hb2 lw2; have cb := hb2.cell (j := 0) (v := .int .i64 0) rfl; have fb := hb2.free 0; have HB2 := Lib.hid hb2; have LW2 := Lib.hid lw2; clear hz hst hb2 lw2))
  refine ⟨_, get_results (a := w.heap.size) (b := w.heap.size + 1) rfl rfl (HS.out.other (w.heap.size + 1) 0 _ (by omega)) (HB2.out.set 0 (.int .i64 4)) rfl, rfl, below_set LW2.out (by omega) 0 _⟩

set_option maxRecDepth 100000 in
set_option maxHeartbeats 2000000 in
theorem mGet_gone (s : ByteArray) (w : World) (hz : s.size ≤ 2048) (hg : goneAll s) : Calls Tryd.prog 10 #[.string s] w fun e w' => Told s e ∧ Below w.heap.size w w' := by
  have hmf : ∀ (fn : Fn) (first cap : Array Value) (w : World), (Instr.makeFunc fn first cap).run Tryd.prog w = .ok (.func fn first cap) w := fun _ _ _ _ => rfl
  unfold Told
  rw [goneAll_get hz hg, mz_zero]
  have d0 : decide ((s.size : Int) > 2048) = false := decide_eq_false (by omega)
  have HG := Lib.hid (fun W => rcread_gone s W hg)
  obtain ⟨ha, hb, hl⟩ := get_cells w
  have HA := Lib.hid ha
  have HB := Lib.hid hb
  have HL := Lib.hid hl
  clear ha hb hl hz hg
  go_enter_defers Tryd.func10, Tryd.ntmps10
  go_wp2_with (go_at_call 24; go_must (refine (HG.out _).mono ?_); rintro e w1 ⟨rfl, b1⟩; have A1 := Lib.hid (HA.out.below b1); have B1 := Lib.hid (HB.out.below b1); have L1 := Lib.hid (HL.out.trans (b1.mono HL.out.size)); clear b1)
  refine leaves_cons (f := 23) (args := #[.pointer (some ⟨w.heap.size, 0, none⟩), .pointer (some ⟨w.heap.size + 1, 0, none⟩)]) (by simp) (by simp [go_sem]) ?_
  refine (mGetc_thrown w.heap.size (w.heap.size + 1) w.heap.size _ A1.out B1.out (by omega) (by omega) (by omega) L1.out.size).mono ?_
  rintro e u' w3 ⟨rfl, rfl, h1, h2, h3⟩
  exact ⟨_, get_results (a := w.heap.size) (b := w.heap.size + 1) rfl rfl h1 h2 rfl, rfl, L1.out.trans h3⟩

set_option maxRecDepth 100000 in
set_option maxHeartbeats 2000000 in
theorem mGet_told (s : ByteArray) (w : World) (hz : s.size ≤ 2048) (hg : ¬ goneAll s) : Calls Tryd.prog 10 #[.string s] w fun e w' => Told s e ∧ Below w.heap.size w w' := by
  have hmf : ∀ (fn : Fn) (first cap : Array Value) (w : World), (Instr.makeFunc fn first cap).run Tryd.prog w = .ok (.func fn first cap) w := fun _ _ _ _ => rfl
  have d0 : decide ((s.size : Int) > 2048) = false := decide_eq_false (by omega)
  have HT := fun W => rcread_told s W hz hg
  unfold Told at HT ⊢
  have hc : (mgGet s).1.arr.size = 10 := rfl
  have ho := Mg.arr_one (mgGet s).1
  obtain ⟨row, hrow⟩ : ∃ row, row = (mgGet s).1.arr := ⟨_, rfl⟩
  obtain ⟨er, her⟩ : ∃ er, er = (mgGet s).2 := ⟨_, rfl⟩
  rw [← hrow] at hc ho
  rw [← hrow, ← her] at HT ⊢
  replace HT := Lib.hid HT
  have HC := Lib.hid hc
  have HO := Lib.hid ho
  obtain ⟨ha, hb, hl⟩ := get_cells w
  have HA := Lib.hid ha
  have HB := Lib.hid hb
  have HL := Lib.hid hl
  clear ha hb hl hz hg hc ho hrow her
  go_enter_defers Tryd.func10, Tryd.ntmps10
  go_wp2_with (first
    | (go_at_call 24; go_must (refine (HT.out _).mono ?_); rintro e w1 ⟨rfl, b1⟩; have A1 := Lib.hid (HA.out.below b1); have B1 := Lib.hid (HB.out.below b1); have L1 := Lib.hid (HL.out.trans (b1.mono HL.out.size)); clear b1)
    | ((with_reducible show wpList _ _ _ ({ dst := _, op := .store 25 (.tmp 2) (.tmp 11), type := _, pos := _, after := _, guard := _ } :: _) _ _); refine wpList_store_st rfl 25 _ _ rfl w.heap.size row rfl rfl mz A1.out (by rw [HC.out]; kernel_rfl) (by rw [HC.out]; rfl) HO.out ?_; intro wz hz hst; have HS := Lib.hid hst; have hb2 := B1.out.setRow_other (g := w.heap.size) (by omega) row; have lw2 := below_row L1.out (Nat.le_refl _) row; rw [← hz] at hb2 lw2; have cb := hb2.cell (j := 0) (v := .int .i64 0) rfl; have fb := hb2.free 0; have HB2 := Lib.hid hb2; have LW2 := Lib.hid lw2; clear hz hst hb2 lw2))
  have S2 := Lib.hid (HS.out.other (w.heap.size + 1) 0 (.int .i64 er) (by omega))
  have B2 := Lib.hid (HB2.out.set 0 (.int .i64 er))
  have L2 := Lib.hid (below_set LW2.out (b := w.heap.size + 1) (by omega) 0 (.int .i64 er))
  refine leaves_cons (f := 23) (args := #[.pointer (some ⟨w.heap.size, 0, none⟩), .pointer (some ⟨w.heap.size + 1, 0, none⟩)]) (by simp) (by simp [go_sem]) ?_
  refine (mGetc_calm w.heap.size (w.heap.size + 1) _).mono ?_
  rintro e u' w3 ⟨rfl, rfl, h3⟩
  exact ⟨_, get_results (a := w.heap.size) (b := w.heap.size + 1) rfl rfl (S2.out.below h3) (B2.out.below h3) HC.out, rfl, L2.out.trans (h3.mono L2.out.size)⟩

theorem mGet_any (s : ByteArray) (w : World) (hs : s.size ≤ 1073741824) : Calls Tryd.prog 10 #[.string s] w fun e w' => e = .returned (.tuple #[.agg (mgGet s).1.arr, .int .i64 (mgGet s).2]) ∧ Below w.heap.size w w' := by
  by_cases hz : 2048 < s.size
  · exact mGet_long s w hz
  by_cases hg : goneAll s
  · exact mGet_gone s w (by omega) hg
  · exact mGet_told s w (by omega) hg
end Go.Proofs.YtimbcombhdgjiaaDoor
