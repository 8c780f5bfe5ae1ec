/- Messages: the reference's Get, calls. -/
import Derived.Test.YtimbcombhdgjiaaDoorMg
namespace Go.Proofs.YtimbcombhdgjiaaDoor
open Go.RowKit

set_option maxRecDepth 100000 in
set_option maxHeartbeats 4000000 in
theorem mfGet_c2 (s : ByteArray) (w : World) (hs : s.size ≤ 2048)(h1 : atW s 1 = 0) (g2 : atW s 2 ≠ 2) : Calls Tryd.prog 12 #[.string s] w fun e w' => e = .returned (.tuple #[.agg (mgGet s).1.arr, .int .i64 (mgGet s).2]) ∧ Below w.heap.size w w' := by
  have e : mgGet s = (Mg.zero, 14) := by
    unfold mgGet
    rw [if_neg (by omega), if_neg (by omega), if_neg (by omega), if_pos (by omega)]
  rw [e]
  clear e
  have A0 : ∀ W, Calls Tryd.prog 26 #[.string s, .int .i64 0] W fun e w' => e = .returned (.int .i64 (atW s 0)) ∧ Below W.heap.size W w' := fun W => mfat_any s 0 W (by omega) (by decide)
  have A1 : ∀ W, Calls Tryd.prog 26 #[.string s, .int .i64 1] W fun e w' => e = .returned (.int .i64 (atW s 1)) ∧ Below W.heap.size W w' := fun W => mfat_any s 1 W (by omega) (by decide)
  have A2 : ∀ W, Calls Tryd.prog 26 #[.string s, .int .i64 2] W fun e w' => e = .returned (.int .i64 (atW s 2)) ∧ Below W.heap.size W w' := fun W => mfat_any s 2 W (by omega) (by decide)
  have A3 : ∀ W, Calls Tryd.prog 26 #[.string s, .int .i64 3] W fun e w' => e = .returned (.int .i64 (atW s 3)) ∧ Below W.heap.size W w' := fun W => mfat_any s 3 W (by omega) (by decide)
  have A4 : ∀ W, Calls Tryd.prog 26 #[.string s, .int .i64 4] W fun e w' => e = .returned (.int .i64 (atW s 4)) ∧ Below W.heap.size W w' := fun W => mfat_any s 4 W (by omega) (by decide)
  have A5 : ∀ W, Calls Tryd.prog 26 #[.string s, .int .i64 5] W fun e w' => e = .returned (.int .i64 (atW s 5)) ∧ Below W.heap.size W w' := fun W => mfat_any s 5 W (by omega) (by decide)
  have A6 : ∀ W, Calls Tryd.prog 26 #[.string s, .int .i64 6] W fun e w' => e = .returned (.int .i64 (atW s 6)) ∧ Below W.heap.size W w' := fun W => mfat_any s 6 W (by omega) (by decide)
  have A7 : ∀ W, Calls Tryd.prog 26 #[.string s, .int .i64 7] W fun e w' => e = .returned (.int .i64 (atW s 7)) ∧ Below W.heap.size W w' := fun W => mfat_any s 7 W (by omega) (by decide)
  have A8 : ∀ W, Calls Tryd.prog 26 #[.string s, .int .i64 8] W fun e w' => e = .returned (.int .i64 (atW s 8)) ∧ Below W.heap.size W w' := fun W => mfat_any s 8 W (by omega) (by decide)
  have A9 : ∀ W, Calls Tryd.prog 26 #[.string s, .int .i64 9] W fun e w' => e = .returned (.int .i64 (atW s 9)) ∧ Below W.heap.size W w' := fun W => mfat_any s 9 W (by omega) (by decide)
  have A10 : ∀ W, Calls Tryd.prog 26 #[.string s, .int .i64 10] W fun e w' => e = .returned (.int .i64 (atW s 10)) ∧ Below W.heap.size W w' := fun W => mfat_any s 10 W (by omega) (by decide)
  have A11 : ∀ W, Calls Tryd.prog 26 #[.string s, .int .i64 11] W fun e w' => e = .returned (.int .i64 (atW s 11)) ∧ Below W.heap.size W w' := fun W => mfat_any s 11 W (by omega) (by decide)
  have A12 : ∀ W, Calls Tryd.prog 26 #[.string s, .int .i64 12] W fun e w' => e = .returned (.int .i64 (atW s 12)) ∧ Below W.heap.size W w' := fun W => mfat_any s 12 W (by omega) (by decide)
  have A13 : ∀ W, Calls Tryd.prog 26 #[.string s, .int .i64 13] W fun e w' => e = .returned (.int .i64 (atW s 13)) ∧ Below W.heap.size W w' := fun W => mfat_any s 13 W (by omega) (by decide)
  obtain ⟨a0, ha0⟩ : ∃ a, a = atW s 0 := ⟨_, rfl⟩
  rw [← ha0] at A0
  rw [h1] at A1
  obtain ⟨a2, ha2⟩ : ∃ a, a = atW s 2 := ⟨_, rfl⟩
  rw [← ha2] at A2
  obtain ⟨a3, ha3⟩ : ∃ a, a = atW s 3 := ⟨_, rfl⟩
  rw [← ha3] at A3
  obtain ⟨a4, ha4⟩ : ∃ a, a = atW s 4 := ⟨_, rfl⟩
  rw [← ha4] at A4
  obtain ⟨a5, ha5⟩ : ∃ a, a = atW s 5 := ⟨_, rfl⟩
  rw [← ha5] at A5
  obtain ⟨a6, ha6⟩ : ∃ a, a = atW s 6 := ⟨_, rfl⟩
  rw [← ha6] at A6
  obtain ⟨a7, ha7⟩ : ∃ a, a = atW s 7 := ⟨_, rfl⟩
  rw [← ha7] at A7
  obtain ⟨a8, ha8⟩ : ∃ a, a = atW s 8 := ⟨_, rfl⟩
  rw [← ha8] at A8
  obtain ⟨a9, ha9⟩ : ∃ a, a = atW s 9 := ⟨_, rfl⟩
  rw [← ha9] at A9
  obtain ⟨a10, ha10⟩ : ∃ a, a = atW s 10 := ⟨_, rfl⟩
  rw [← ha10] at A10
  obtain ⟨a11, ha11⟩ : ∃ a, a = atW s 11 := ⟨_, rfl⟩
  rw [← ha11] at A11
  obtain ⟨a12, ha12⟩ : ∃ a, a = atW s 12 := ⟨_, rfl⟩
  rw [← ha12] at A12
  obtain ⟨a13, ha13⟩ : ∃ a, a = atW s 13 := ⟨_, rfl⟩
  rw [← ha13] at A13
  rw [← ha2] at g2
  have d0 : decide ((s.size : Int) > 2048) = false := decide_eq_false (by omega)
  have na21 : (a2 == 2) = false := by simpa using g2
  have na22 : (a2 != 2) = true := by simpa using g2
  replace A0 := Lib.hid A0
  replace A1 := Lib.hid A1
  replace A2 := Lib.hid A2
  replace A3 := Lib.hid A3
  replace A4 := Lib.hid A4
  replace A5 := Lib.hid A5
  replace A6 := Lib.hid A6
  replace A7 := Lib.hid A7
  replace A8 := Lib.hid A8
  replace A9 := Lib.hid A9
  replace A10 := Lib.hid A10
  replace A11 := Lib.hid A11
  replace A12 := Lib.hid A12
  replace A13 := Lib.hid A13
  clear ha0 ha2 ha3 ha4 ha5 ha6 ha7 ha8 ha9 ha10 ha11 ha12 ha13
  clear hs g2
  have A00 := Lib.hid (show St 25 w.heap.size #[.int .i64 0, .bool false, .bool false, .int .i64 0, .int .i64 0, .int .i64 0, .int .i64 0, .int .i64 0, .int .i64 0, .string ⟨#[]⟩] ((w.alloc (.cells #[.int .i64 0, .bool false, .bool false, .int .i64 0, .int .i64 0, .int .i64 0, .int .i64 0, .int .i64 0, .int .i64 0, .string ⟨#[]⟩] 25 (0, 0))).alloc (.cells #[.int .i64 0, .bool false, .bool false, .int .i64 0, .int .i64 0, .int .i64 0, .int .i64 0, .int .i64 0, .int .i64 0, .string ⟨#[]⟩] 25 (0, 0))) from (St.new w 25 _).alloc _)
  have K0 := Lib.hid (show St 25 (w.heap.size + 1) #[.int .i64 0, .bool false, .bool false, .int .i64 0, .int .i64 0, .int .i64 0, .int .i64 0, .int .i64 0, .int .i64 0, .string ⟨#[]⟩] ((w.alloc (.cells #[.int .i64 0, .bool false, .bool false, .int .i64 0, .int .i64 0, .int .i64 0, .int .i64 0, .int .i64 0, .int .i64 0, .string ⟨#[]⟩] 25 (0, 0))).alloc (.cells #[.int .i64 0, .bool false, .bool false, .int .i64 0, .int .i64 0, .int .i64 0, .int .i64 0, .int .i64 0, .int .i64 0, .string ⟨#[]⟩] 25 (0, 0))) from by have := St.new (w.alloc (.cells #[.int .i64 0, .bool false, .bool false, .int .i64 0, .int .i64 0, .int .i64 0, .int .i64 0, .int .i64 0, .int .i64 0, .string ⟨#[]⟩] 25 (0, 0))) 25 #[.int .i64 0, .bool false, .bool false, .int .i64 0, .int .i64 0, .int .i64 0, .int .i64 0, .int .i64 0, .int .i64 0, .string ⟨#[]⟩]; simpa using this)
  have L0 := Lib.hid (show Below w.heap.size w ((w.alloc (.cells #[.int .i64 0, .bool false, .bool false, .int .i64 0, .int .i64 0, .int .i64 0, .int .i64 0, .int .i64 0, .int .i64 0, .string ⟨#[]⟩] 25 (0, 0))).alloc (.cells #[.int .i64 0, .bool false, .bool false, .int .i64 0, .int .i64 0, .int .i64 0, .int .i64 0, .int .i64 0, .int .i64 0, .string ⟨#[]⟩] 25 (0, 0))) from (below_one w _).alloc (by simp) _)
  dsimp only [Mg.arr, Mg.zero]
  go_enter Tryd.func12, Tryd.ntmps12
  go_wp2_with (first
    | (go_at_call 26; (first | (with_reducible refine (A0.out _).mono ?_) | (with_reducible refine (A1.out _).mono ?_) | (with_reducible refine (A2.out _).mono ?_) | (with_reducible refine (A3.out _).mono ?_) | (with_reducible refine (A4.out _).mono ?_) | (with_reducible refine (A5.out _).mono ?_) | (with_reducible refine (A6.out _).mono ?_) | (with_reducible refine (A7.out _).mono ?_) | (with_reducible refine (A8.out _).mono ?_) | (with_reducible refine (A9.out _).mono ?_) | (with_reducible refine (A10.out _).mono ?_) | (with_reducible refine (A11.out _).mono ?_) | (with_reducible refine (A12.out _).mono ?_) | (with_reducible refine (A13.out _).mono ?_)); rintro e w3 ⟨rfl, b3⟩; (first | (have V4 := Lib.hid (VC.below V4.out b3); have cc := V4.out.b.msg.cell (j := 8) rfl; have ff := V4.out.b.msg.free 8; have cc3 := V4.out.b.msg.cell (j := 3) rfl; have ff3 := V4.out.b.msg.free 3; have cc9 := V4.out.b.msg.cell (j := 9) rfl; have ff9 := V4.out.b.msg.free 9) | (have V3 := Lib.hid (VB.below (V3.out.set 2 _) b3); have cc := V3.out.msg.cell (j := 8) rfl; have ff := V3.out.msg.free 8; have cc9 := V3.out.msg.cell (j := 9) rfl; have ff9 := V3.out.msg.free 9) | (have V3 := Lib.hid (VB.below V3.out b3); have cc := V3.out.msg.cell (j := 8) rfl; have ff := V3.out.msg.free 8; have cc2 := V3.out.msg.cell (j := 2) rfl; have ff2 := V3.out.msg.free 2) | (have V := Lib.hid (VA.below V.out b3))); clear b3)
    | (go_at_call 19; go_must (refine (HO.out _).mono ?_); rintro e w3 ⟨rfl, b3⟩; (first | (have V4 := Lib.hid (VC.below V4.out b3); have cc := V4.out.b.msg.cell (j := 8) rfl; have ff := V4.out.b.msg.free 8; have cc3 := V4.out.b.msg.cell (j := 3) rfl; have ff3 := V4.out.b.msg.free 3; have cc9 := V4.out.b.msg.cell (j := 9) rfl; have ff9 := V4.out.b.msg.free 9) | (have V3 := Lib.hid (VB.below (V3.out.set 2 _) b3); have cc := V3.out.msg.cell (j := 8) rfl; have ff := V3.out.msg.free 8; have cc9 := V3.out.msg.cell (j := 9) rfl; have ff9 := V3.out.msg.free 9) | (have V3 := Lib.hid (VB.below V3.out b3); have cc := V3.out.msg.cell (j := 8) rfl; have ff := V3.out.msg.free 8; have cc2 := V3.out.msg.cell (j := 2) rfl; have ff2 := V3.out.msg.free 2) | (have V := Lib.hid (VA.below V.out b3))); clear b3)
    | (go_at_call 8; go_must (refine (HC.out _).mono ?_); rintro e w3 ⟨rfl, b3⟩; have V3 := Lib.hid (VB.below ((V3.out.set 8 _).set 9 _) b3); clear b3)
    | ((with_reducible show wpList _ _ _ ({ dst := _, op := .build 25 #[], type := _, pos := _, after := _, guard := _ } :: _) _ _); refine wpList_build_as rfl 25 _ rfl #[.int .i64 0, .bool false, .bool false, .int .i64 0, .int .i64 0, .int .i64 0, .int .i64 0, .int .i64 0, .int .i64 0, .string ⟨#[]⟩] mzero_built ?_)
    | ((with_reducible show wpList _ _ _ ({ dst := _, op := .build 25 _, type := _, pos := _, after := _, guard := _ } :: _) _ _); refine wpList_build_as rfl 25 _ rfl #[.int .i64 a0, .bool false, .bool false, .int .i64 0, .int .i64 0, .int .i64 0, .int .i64 0, .int .i64 0, .int .i64 0, .string ⟨#[]⟩] (mnew_built _ _) ?_)
    | ((with_reducible show wpList _ _ _ ({ dst := _, op := .build 23 _, type := _, pos := _, after := _, guard := _ } :: _) _ _); refine wpList_build_as rfl 23 _ rfl #[.int .i64 a8, .int .i64 a9, .int .i64 a10, .int .i64 a11] (cred_built _ _ _ _) ?_)
    | ((with_reducible show wpList _ _ _ ({ dst := _, op := .store _ (.tmp 4) _, type := _, pos := _, after := _, guard := _ } :: _) _ _); refine wpList_store_st rfl 25 _ _ rfl (w.heap.size + 1) #[.int .i64 0, .bool false, .bool false, .int .i64 0, .int .i64 0, .int .i64 0, .int .i64 0, .int .i64 0, .int .i64 0, .string ⟨#[]⟩] rfl rfl _ K0.out (by kernel_rfl) rfl (by kernel_rfl) ?_; intro wz hz hst; have V := Lib.hid (show VA w wz from ⟨by rw [hz]; exact A00.out.setRow_other (by omega) _, hst, by rw [hz]; exact below_row L0.out (by omega) _⟩); clear hz hst)
    | ((with_reducible show wpList _ _ _ ({ dst := _, op := .store _ (.tmp 6) _, type := _, pos := _, after := _, guard := _ } :: _) _ _); refine wpList_store_st rfl 25 _ _ rfl _ #[.int .i64 a0, .bool false, .bool false, .int .i64 0, .int .i64 0, .int .i64 0, .int .i64 0, .int .i64 0, .int .i64 0, .string ⟨#[]⟩] rfl rfl _ (St.new w3 25 _) (by kernel_rfl) rfl (by kernel_rfl) ?_; rw [alloc_row]; intro wz hz hst; subst hz; have V3 := Lib.hid (V.out.toB #[.int .i64 a0, .bool false, .bool false, .int .i64 0, .int .i64 0, .int .i64 0, .int .i64 0, .int .i64 0, .int .i64 0, .string ⟨#[]⟩]); clear hst)
    | ((with_reducible show wpList _ _ _ ({ dst := _, op := .store _ (.tmp 7) _, type := _, pos := _, after := _, guard := _ } :: _) _ _); refine wpList_store_st rfl 23 _ _ rfl _ #[.int .i64 a8, .int .i64 a9, .int .i64 a10, .int .i64 a11] rfl rfl _ (St.new w3 23 _) (by kernel_rfl) rfl (by kernel_rfl) ?_; rw [alloc_row]; intro wz hz hst; subst hz; have V4 := Lib.hid (V3.out.toC #[.int .i64 a8, .int .i64 a9, .int .i64 a10, .int .i64 a11]); clear hst)
    | ((with_reducible show wpList _ _ _ ({ dst := _, op := .load _ (.tmp 4), type := _, pos := _, after := _, guard := _ } :: _) _ _); refine wpList_load_st rfl 25 _ rfl _ rfl 25 #[.int .i64 0, .bool false, .bool false, .int .i64 0, .int .i64 0, .int .i64 0, .int .i64 0, .int .i64 0, .int .i64 0, .string ⟨#[]⟩] (by first | exact V3.out.a.non | exact V.out.non) _ Tryd.underlying25 rfl (by kernel_rfl) ?_)
    | ((with_reducible show wpList _ _ _ ({ dst := _, op := .store _ (.tmp 2) _, type := _, pos := _, after := _, guard := _ } :: _) _ _); refine wpList_store_st rfl 25 _ _ rfl w.heap.size #[.int .i64 0, .bool false, .bool false, .int .i64 0, .int .i64 0, .int .i64 0, .int .i64 0, .int .i64 0, .int .i64 0, .string ⟨#[]⟩] rfl rfl _ (V3.out.a.res) (by kernel_rfl) rfl (by kernel_rfl) ?_; intro wz hz hst; have HQ := Lib.hid hz; have HR := Lib.hid hst; clear hz hst))
  refine ret_cell2 (r := 2) (t := 3) (k := w.heap.size) (T := 25) Tryd.results12 rfl rfl HR.out Tryd.underlying25 rfl (by kernel_rfl) rfl ?_
  have e0 := HQ.out
  subst e0
  exact ⟨rfl, below_row V3.out.a.low (Nat.le_refl _) _⟩

set_option maxRecDepth 100000 in
set_option maxHeartbeats 4000000 in
theorem mfGet_c3 (s : ByteArray) (w : World) (hs : s.size ≤ 2048)(h1 : atW s 1 = 0) (h2 : atW s 2 = 2) (g3 : atW s 3 < 0) : Calls Tryd.prog 12 #[.string s] w fun e w' => e = .returned (.tuple #[.agg (mgGet s).1.arr, .int .i64 (mgGet s).2]) ∧ Below w.heap.size w w' := by
  have e : mgGet s = (Mg.zero, 14) := by
    unfold mgGet
    rw [if_neg (by omega), if_neg (by omega), if_neg (by omega), if_pos (by omega)]
  rw [e]
  clear e
  have A0 : ∀ W, Calls Tryd.prog 26 #[.string s, .int .i64 0] W fun e w' => e = .returned (.int .i64 (atW s 0)) ∧ Below W.heap.size W w' := fun W => mfat_any s 0 W (by omega) (by decide)
  have A1 : ∀ W, Calls Tryd.prog 26 #[.string s, .int .i64 1] W fun e w' => e = .returned (.int .i64 (atW s 1)) ∧ Below W.heap.size W w' := fun W => mfat_any s 1 W (by omega) (by decide)
  have A2 : ∀ W, Calls Tryd.prog 26 #[.string s, .int .i64 2] W fun e w' => e = .returned (.int .i64 (atW s 2)) ∧ Below W.heap.size W w' := fun W => mfat_any s 2 W (by omega) (by decide)
  have A3 : ∀ W, Calls Tryd.prog 26 #[.string s, .int .i64 3] W fun e w' => e = .returned (.int .i64 (atW s 3)) ∧ Below W.heap.size W w' := fun W => mfat_any s 3 W (by omega) (by decide)
  have A4 : ∀ W, Calls Tryd.prog 26 #[.string s, .int .i64 4] W fun e w' => e = .returned (.int .i64 (atW s 4)) ∧ Below W.heap.size W w' := fun W => mfat_any s 4 W (by omega) (by decide)
  have A5 : ∀ W, Calls Tryd.prog 26 #[.string s, .int .i64 5] W fun e w' => e = .returned (.int .i64 (atW s 5)) ∧ Below W.heap.size W w' := fun W => mfat_any s 5 W (by omega) (by decide)
  have A6 : ∀ W, Calls Tryd.prog 26 #[.string s, .int .i64 6] W fun e w' => e = .returned (.int .i64 (atW s 6)) ∧ Below W.heap.size W w' := fun W => mfat_any s 6 W (by omega) (by decide)
  have A7 : ∀ W, Calls Tryd.prog 26 #[.string s, .int .i64 7] W fun e w' => e = .returned (.int .i64 (atW s 7)) ∧ Below W.heap.size W w' := fun W => mfat_any s 7 W (by omega) (by decide)
  have A8 : ∀ W, Calls Tryd.prog 26 #[.string s, .int .i64 8] W fun e w' => e = .returned (.int .i64 (atW s 8)) ∧ Below W.heap.size W w' := fun W => mfat_any s 8 W (by omega) (by decide)
  have A9 : ∀ W, Calls Tryd.prog 26 #[.string s, .int .i64 9] W fun e w' => e = .returned (.int .i64 (atW s 9)) ∧ Below W.heap.size W w' := fun W => mfat_any s 9 W (by omega) (by decide)
  have A10 : ∀ W, Calls Tryd.prog 26 #[.string s, .int .i64 10] W fun e w' => e = .returned (.int .i64 (atW s 10)) ∧ Below W.heap.size W w' := fun W => mfat_any s 10 W (by omega) (by decide)
  have A11 : ∀ W, Calls Tryd.prog 26 #[.string s, .int .i64 11] W fun e w' => e = .returned (.int .i64 (atW s 11)) ∧ Below W.heap.size W w' := fun W => mfat_any s 11 W (by omega) (by decide)
  have A12 : ∀ W, Calls Tryd.prog 26 #[.string s, .int .i64 12] W fun e w' => e = .returned (.int .i64 (atW s 12)) ∧ Below W.heap.size W w' := fun W => mfat_any s 12 W (by omega) (by decide)
  have A13 : ∀ W, Calls Tryd.prog 26 #[.string s, .int .i64 13] W fun e w' => e = .returned (.int .i64 (atW s 13)) ∧ Below W.heap.size W w' := fun W => mfat_any s 13 W (by omega) (by decide)
  obtain ⟨a0, ha0⟩ : ∃ a, a = atW s 0 := ⟨_, rfl⟩
  rw [← ha0] at A0
  rw [h1] at A1
  rw [h2] at A2
  obtain ⟨a3, ha3⟩ : ∃ a, a = atW s 3 := ⟨_, rfl⟩
  rw [← ha3] at A3
  obtain ⟨a4, ha4⟩ : ∃ a, a = atW s 4 := ⟨_, rfl⟩
  rw [← ha4] at A4
  obtain ⟨a5, ha5⟩ : ∃ a, a = atW s 5 := ⟨_, rfl⟩
  rw [← ha5] at A5
  obtain ⟨a6, ha6⟩ : ∃ a, a = atW s 6 := ⟨_, rfl⟩
  rw [← ha6] at A6
  obtain ⟨a7, ha7⟩ : ∃ a, a = atW s 7 := ⟨_, rfl⟩
  rw [← ha7] at A7
  obtain ⟨a8, ha8⟩ : ∃ a, a = atW s 8 := ⟨_, rfl⟩
  rw [← ha8] at A8
  obtain ⟨a9, ha9⟩ : ∃ a, a = atW s 9 := ⟨_, rfl⟩
  rw [← ha9] at A9
  obtain ⟨a10, ha10⟩ : ∃ a, a = atW s 10 := ⟨_, rfl⟩
  rw [← ha10] at A10
  obtain ⟨a11, ha11⟩ : ∃ a, a = atW s 11 := ⟨_, rfl⟩
  rw [← ha11] at A11
  obtain ⟨a12, ha12⟩ : ∃ a, a = atW s 12 := ⟨_, rfl⟩
  rw [← ha12] at A12
  obtain ⟨a13, ha13⟩ : ∃ a, a = atW s 13 := ⟨_, rfl⟩
  rw [← ha13] at A13
  rw [← ha3] at g3
  have d0 : decide ((s.size : Int) > 2048) = false := decide_eq_false (by omega)
  have d3 : decide (a3 < 0) = true := decide_eq_true g3
  replace A0 := Lib.hid A0
  replace A1 := Lib.hid A1
  replace A2 := Lib.hid A2
  replace A3 := Lib.hid A3
  replace A4 := Lib.hid A4
  replace A5 := Lib.hid A5
  replace A6 := Lib.hid A6
  replace A7 := Lib.hid A7
  replace A8 := Lib.hid A8
  replace A9 := Lib.hid A9
  replace A10 := Lib.hid A10
  replace A11 := Lib.hid A11
  replace A12 := Lib.hid A12
  replace A13 := Lib.hid A13
  clear ha0 ha3 ha4 ha5 ha6 ha7 ha8 ha9 ha10 ha11 ha12 ha13
  clear hs g3
  have A00 := Lib.hid (show St 25 w.heap.size #[.int .i64 0, .bool false, .bool false, .int .i64 0, .int .i64 0, .int .i64 0, .int .i64 0, .int .i64 0, .int .i64 0, .string ⟨#[]⟩] ((w.alloc (.cells #[.int .i64 0, .bool false, .bool false, .int .i64 0, .int .i64 0, .int .i64 0, .int .i64 0, .int .i64 0, .int .i64 0, .string ⟨#[]⟩] 25 (0, 0))).alloc (.cells #[.int .i64 0, .bool false, .bool false, .int .i64 0, .int .i64 0, .int .i64 0, .int .i64 0, .int .i64 0, .int .i64 0, .string ⟨#[]⟩] 25 (0, 0))) from (St.new w 25 _).alloc _)
  have K0 := Lib.hid (show St 25 (w.heap.size + 1) #[.int .i64 0, .bool false, .bool false, .int .i64 0, .int .i64 0, .int .i64 0, .int .i64 0, .int .i64 0, .int .i64 0, .string ⟨#[]⟩] ((w.alloc (.cells #[.int .i64 0, .bool false, .bool false, .int .i64 0, .int .i64 0, .int .i64 0, .int .i64 0, .int .i64 0, .int .i64 0, .string ⟨#[]⟩] 25 (0, 0))).alloc (.cells #[.int .i64 0, .bool false, .bool false, .int .i64 0, .int .i64 0, .int .i64 0, .int .i64 0, .int .i64 0, .int .i64 0, .string ⟨#[]⟩] 25 (0, 0))) from by have := St.new (w.alloc (.cells #[.int .i64 0, .bool false, .bool false, .int .i64 0, .int .i64 0, .int .i64 0, .int .i64 0, .int .i64 0, .int .i64 0, .string ⟨#[]⟩] 25 (0, 0))) 25 #[.int .i64 0, .bool false, .bool false, .int .i64 0, .int .i64 0, .int .i64 0, .int .i64 0, .int .i64 0, .int .i64 0, .string ⟨#[]⟩]; simpa using this)
  have L0 := Lib.hid (show Below w.heap.size w ((w.alloc (.cells #[.int .i64 0, .bool false, .bool false, .int .i64 0, .int .i64 0, .int .i64 0, .int .i64 0, .int .i64 0, .int .i64 0, .string ⟨#[]⟩] 25 (0, 0))).alloc (.cells #[.int .i64 0, .bool false, .bool false, .int .i64 0, .int .i64 0, .int .i64 0, .int .i64 0, .int .i64 0, .int .i64 0, .string ⟨#[]⟩] 25 (0, 0))) from (below_one w _).alloc (by simp) _)
  dsimp only [Mg.arr, Mg.zero]
  go_enter Tryd.func12, Tryd.ntmps12
  go_wp2_with (first
    | (go_at_call 26; (first | (with_reducible refine (A0.out _).mono ?_) | (with_reducible refine (A1.out _).mono ?_) | (with_reducible refine (A2.out _).mono ?_) | (with_reducible refine (A3.out _).mono ?_) | (with_reducible refine (A4.out _).mono ?_) | (with_reducible refine (A5.out _).mono ?_) | (with_reducible refine (A6.out _).mono ?_) | (with_reducible refine (A7.out _).mono ?_) | (with_reducible refine (A8.out _).mono ?_) | (with_reducible refine (A9.out _).mono ?_) | (with_reducible refine (A10.out _).mono ?_) | (with_reducible refine (A11.out _).mono ?_) | (with_reducible refine (A12.out _).mono ?_) | (with_reducible refine (A13.out _).mono ?_)); rintro e w3 ⟨rfl, b3⟩; (first | (have V4 := Lib.hid (VC.below V4.out b3); have cc := V4.out.b.msg.cell (j := 8) rfl; have ff := V4.out.b.msg.free 8; have cc3 := V4.out.b.msg.cell (j := 3) rfl; have ff3 := V4.out.b.msg.free 3; have cc9 := V4.out.b.msg.cell (j := 9) rfl; have ff9 := V4.out.b.msg.free 9) | (have V3 := Lib.hid (VB.below (V3.out.set 2 _) b3); have cc := V3.out.msg.cell (j := 8) rfl; have ff := V3.out.msg.free 8; have cc9 := V3.out.msg.cell (j := 9) rfl; have ff9 := V3.out.msg.free 9) | (have V3 := Lib.hid (VB.below V3.out b3); have cc := V3.out.msg.cell (j := 8) rfl; have ff := V3.out.msg.free 8; have cc2 := V3.out.msg.cell (j := 2) rfl; have ff2 := V3.out.msg.free 2) | (have V := Lib.hid (VA.below V.out b3))); clear b3)
    | (go_at_call 19; go_must (refine (HO.out _).mono ?_); rintro e w3 ⟨rfl, b3⟩; (first | (have V4 := Lib.hid (VC.below V4.out b3); have cc := V4.out.b.msg.cell (j := 8) rfl; have ff := V4.out.b.msg.free 8; have cc3 := V4.out.b.msg.cell (j := 3) rfl; have ff3 := V4.out.b.msg.free 3; have cc9 := V4.out.b.msg.cell (j := 9) rfl; have ff9 := V4.out.b.msg.free 9) | (have V3 := Lib.hid (VB.below (V3.out.set 2 _) b3); have cc := V3.out.msg.cell (j := 8) rfl; have ff := V3.out.msg.free 8; have cc9 := V3.out.msg.cell (j := 9) rfl; have ff9 := V3.out.msg.free 9) | (have V3 := Lib.hid (VB.below V3.out b3); have cc := V3.out.msg.cell (j := 8) rfl; have ff := V3.out.msg.free 8; have cc2 := V3.out.msg.cell (j := 2) rfl; have ff2 := V3.out.msg.free 2) | (have V := Lib.hid (VA.below V.out b3))); clear b3)
    | (go_at_call 8; go_must (refine (HC.out _).mono ?_); rintro e w3 ⟨rfl, b3⟩; have V3 := Lib.hid (VB.below ((V3.out.set 8 _).set 9 _) b3); clear b3)
    | ((with_reducible show wpList _ _ _ ({ dst := _, op := .build 25 #[], type := _, pos := _, after := _, guard := _ } :: _) _ _); refine wpList_build_as rfl 25 _ rfl #[.int .i64 0, .bool false, .bool false, .int .i64 0, .int .i64 0, .int .i64 0, .int .i64 0, .int .i64 0, .int .i64 0, .string ⟨#[]⟩] mzero_built ?_)
    | ((with_reducible show wpList _ _ _ ({ dst := _, op := .build 25 _, type := _, pos := _, after := _, guard := _ } :: _) _ _); refine wpList_build_as rfl 25 _ rfl #[.int .i64 a0, .bool false, .bool false, .int .i64 0, .int .i64 0, .int .i64 0, .int .i64 0, .int .i64 0, .int .i64 0, .string ⟨#[]⟩] (mnew_built _ _) ?_)
    | ((with_reducible show wpList _ _ _ ({ dst := _, op := .build 23 _, type := _, pos := _, after := _, guard := _ } :: _) _ _); refine wpList_build_as rfl 23 _ rfl #[.int .i64 a8, .int .i64 a9, .int .i64 a10, .int .i64 a11] (cred_built _ _ _ _) ?_)
    | ((with_reducible show wpList _ _ _ ({ dst := _, op := .store _ (.tmp 4) _, type := _, pos := _, after := _, guard := _ } :: _) _ _); refine wpList_store_st rfl 25 _ _ rfl (w.heap.size + 1) #[.int .i64 0, .bool false, .bool false, .int .i64 0, .int .i64 0, .int .i64 0, .int .i64 0, .int .i64 0, .int .i64 0, .string ⟨#[]⟩] rfl rfl _ K0.out (by kernel_rfl) rfl (by kernel_rfl) ?_; intro wz hz hst; have V := Lib.hid (show VA w wz from ⟨by rw [hz]; exact A00.out.setRow_other (by omega) _, hst, by rw [hz]; exact below_row L0.out (by omega) _⟩); clear hz hst)
    | ((with_reducible show wpList _ _ _ ({ dst := _, op := .store _ (.tmp 6) _, type := _, pos := _, after := _, guard := _ } :: _) _ _); refine wpList_store_st rfl 25 _ _ rfl _ #[.int .i64 a0, .bool false, .bool false, .int .i64 0, .int .i64 0, .int .i64 0, .int .i64 0, .int .i64 0, .int .i64 0, .string ⟨#[]⟩] rfl rfl _ (St.new w3 25 _) (by kernel_rfl) rfl (by kernel_rfl) ?_; rw [alloc_row]; intro wz hz hst; subst hz; have V3 := Lib.hid (V.out.toB #[.int .i64 a0, .bool false, .bool false, .int .i64 0, .int .i64 0, .int .i64 0, .int .i64 0, .int .i64 0, .int .i64 0, .string ⟨#[]⟩]); clear hst)
    | ((with_reducible show wpList _ _ _ ({ dst := _, op := .store _ (.tmp 7) _, type := _, pos := _, after := _, guard := _ } :: _) _ _); refine wpList_store_st rfl 23 _ _ rfl _ #[.int .i64 a8, .int .i64 a9, .int .i64 a10, .int .i64 a11] rfl rfl _ (St.new w3 23 _) (by kernel_rfl) rfl (by kernel_rfl) ?_; rw [alloc_row]; intro wz hz hst; subst hz; have V4 := Lib.hid (V3.out.toC #[.int .i64 a8, .int .i64 a9, .int .i64 a10, .int .i64 a11]); clear hst)
    | ((with_reducible show wpList _ _ _ ({ dst := _, op := .load _ (.tmp 4), type := _, pos := _, after := _, guard := _ } :: _) _ _); refine wpList_load_st rfl 25 _ rfl _ rfl 25 #[.int .i64 0, .bool false, .bool false, .int .i64 0, .int .i64 0, .int .i64 0, .int .i64 0, .int .i64 0, .int .i64 0, .string ⟨#[]⟩] (by first | exact V3.out.a.non | exact V.out.non) _ Tryd.underlying25 rfl (by kernel_rfl) ?_)
    | ((with_reducible show wpList _ _ _ ({ dst := _, op := .store _ (.tmp 2) _, type := _, pos := _, after := _, guard := _ } :: _) _ _); refine wpList_store_st rfl 25 _ _ rfl w.heap.size #[.int .i64 0, .bool false, .bool false, .int .i64 0, .int .i64 0, .int .i64 0, .int .i64 0, .int .i64 0, .int .i64 0, .string ⟨#[]⟩] rfl rfl _ (V3.out.a.res) (by kernel_rfl) rfl (by kernel_rfl) ?_; intro wz hz hst; have HQ := Lib.hid hz; have HR := Lib.hid hst; clear hz hst))
  refine ret_cell2 (r := 2) (t := 3) (k := w.heap.size) (T := 25) Tryd.results12 rfl rfl HR.out Tryd.underlying25 rfl (by kernel_rfl) rfl ?_
  have e0 := HQ.out
  subst e0
  exact ⟨rfl, below_row V3.out.a.low (Nat.le_refl _) _⟩

set_option maxRecDepth 100000 in
set_option maxHeartbeats 4000000 in
theorem mfGet_c4 (s : ByteArray) (w : World) (hs : s.size ≤ 2048)(h1 : atW s 1 = 0) (h2 : atW s 2 = 2) (g3 : 0 ≤ atW s 3) (g3b : atW s 3 ≠ 100003) : Calls Tryd.prog 12 #[.string s] w fun e w' => e = .returned (.tuple #[.agg (mgGet s).1.arr, .int .i64 (mgGet s).2]) ∧ Below w.heap.size w w' := by
  have e : mgGet s = ({ Mg.zero with xid := atW s 0, accept := 1 }, 0) := by
    unfold mgGet
    rw [if_neg (by omega), if_neg (by omega), if_neg (by omega), if_neg (by omega), if_pos g3b]
  rw [e]
  clear e
  have A0 : ∀ W, Calls Tryd.prog 26 #[.string s, .int .i64 0] W fun e w' => e = .returned (.int .i64 (atW s 0)) ∧ Below W.heap.size W w' := fun W => mfat_any s 0 W (by omega) (by decide)
  have A1 : ∀ W, Calls Tryd.prog 26 #[.string s, .int .i64 1] W fun e w' => e = .returned (.int .i64 (atW s 1)) ∧ Below W.heap.size W w' := fun W => mfat_any s 1 W (by omega) (by decide)
  have A2 : ∀ W, Calls Tryd.prog 26 #[.string s, .int .i64 2] W fun e w' => e = .returned (.int .i64 (atW s 2)) ∧ Below W.heap.size W w' := fun W => mfat_any s 2 W (by omega) (by decide)
  have A3 : ∀ W, Calls Tryd.prog 26 #[.string s, .int .i64 3] W fun e w' => e = .returned (.int .i64 (atW s 3)) ∧ Below W.heap.size W w' := fun W => mfat_any s 3 W (by omega) (by decide)
  have A4 : ∀ W, Calls Tryd.prog 26 #[.string s, .int .i64 4] W fun e w' => e = .returned (.int .i64 (atW s 4)) ∧ Below W.heap.size W w' := fun W => mfat_any s 4 W (by omega) (by decide)
  have A5 : ∀ W, Calls Tryd.prog 26 #[.string s, .int .i64 5] W fun e w' => e = .returned (.int .i64 (atW s 5)) ∧ Below W.heap.size W w' := fun W => mfat_any s 5 W (by omega) (by decide)
  have A6 : ∀ W, Calls Tryd.prog 26 #[.string s, .int .i64 6] W fun e w' => e = .returned (.int .i64 (atW s 6)) ∧ Below W.heap.size W w' := fun W => mfat_any s 6 W (by omega) (by decide)
  have A7 : ∀ W, Calls Tryd.prog 26 #[.string s, .int .i64 7] W fun e w' => e = .returned (.int .i64 (atW s 7)) ∧ Below W.heap.size W w' := fun W => mfat_any s 7 W (by omega) (by decide)
  have A8 : ∀ W, Calls Tryd.prog 26 #[.string s, .int .i64 8] W fun e w' => e = .returned (.int .i64 (atW s 8)) ∧ Below W.heap.size W w' := fun W => mfat_any s 8 W (by omega) (by decide)
  have A9 : ∀ W, Calls Tryd.prog 26 #[.string s, .int .i64 9] W fun e w' => e = .returned (.int .i64 (atW s 9)) ∧ Below W.heap.size W w' := fun W => mfat_any s 9 W (by omega) (by decide)
  have A10 : ∀ W, Calls Tryd.prog 26 #[.string s, .int .i64 10] W fun e w' => e = .returned (.int .i64 (atW s 10)) ∧ Below W.heap.size W w' := fun W => mfat_any s 10 W (by omega) (by decide)
  have A11 : ∀ W, Calls Tryd.prog 26 #[.string s, .int .i64 11] W fun e w' => e = .returned (.int .i64 (atW s 11)) ∧ Below W.heap.size W w' := fun W => mfat_any s 11 W (by omega) (by decide)
  have A12 : ∀ W, Calls Tryd.prog 26 #[.string s, .int .i64 12] W fun e w' => e = .returned (.int .i64 (atW s 12)) ∧ Below W.heap.size W w' := fun W => mfat_any s 12 W (by omega) (by decide)
  have A13 : ∀ W, Calls Tryd.prog 26 #[.string s, .int .i64 13] W fun e w' => e = .returned (.int .i64 (atW s 13)) ∧ Below W.heap.size W w' := fun W => mfat_any s 13 W (by omega) (by decide)
  obtain ⟨a0, ha0⟩ : ∃ a, a = atW s 0 := ⟨_, rfl⟩
  rw [← ha0] at A0
  rw [h1] at A1
  rw [h2] at A2
  obtain ⟨a3, ha3⟩ : ∃ a, a = atW s 3 := ⟨_, rfl⟩
  rw [← ha3] at A3
  obtain ⟨a4, ha4⟩ : ∃ a, a = atW s 4 := ⟨_, rfl⟩
  rw [← ha4] at A4
  obtain ⟨a5, ha5⟩ : ∃ a, a = atW s 5 := ⟨_, rfl⟩
  rw [← ha5] at A5
  obtain ⟨a6, ha6⟩ : ∃ a, a = atW s 6 := ⟨_, rfl⟩
  rw [← ha6] at A6
  obtain ⟨a7, ha7⟩ : ∃ a, a = atW s 7 := ⟨_, rfl⟩
  rw [← ha7] at A7
  obtain ⟨a8, ha8⟩ : ∃ a, a = atW s 8 := ⟨_, rfl⟩
  rw [← ha8] at A8
  obtain ⟨a9, ha9⟩ : ∃ a, a = atW s 9 := ⟨_, rfl⟩
  rw [← ha9] at A9
  obtain ⟨a10, ha10⟩ : ∃ a, a = atW s 10 := ⟨_, rfl⟩
  rw [← ha10] at A10
  obtain ⟨a11, ha11⟩ : ∃ a, a = atW s 11 := ⟨_, rfl⟩
  rw [← ha11] at A11
  obtain ⟨a12, ha12⟩ : ∃ a, a = atW s 12 := ⟨_, rfl⟩
  rw [← ha12] at A12
  obtain ⟨a13, ha13⟩ : ∃ a, a = atW s 13 := ⟨_, rfl⟩
  rw [← ha13] at A13
  rw [← ha3] at g3 g3b
  have d0 : decide ((s.size : Int) > 2048) = false := decide_eq_false (by omega)
  have d3 : decide (a3 < 0) = false := decide_eq_false (by omega)
  have na31 : (a3 == 100003) = false := by simpa using g3b
  have na32 : (a3 != 100003) = true := by simpa using g3b
  rw [← ha0]
  replace A0 := Lib.hid A0
  replace A1 := Lib.hid A1
  replace A2 := Lib.hid A2
  replace A3 := Lib.hid A3
  replace A4 := Lib.hid A4
  replace A5 := Lib.hid A5
  replace A6 := Lib.hid A6
  replace A7 := Lib.hid A7
  replace A8 := Lib.hid A8
  replace A9 := Lib.hid A9
  replace A10 := Lib.hid A10
  replace A11 := Lib.hid A11
  replace A12 := Lib.hid A12
  replace A13 := Lib.hid A13
  clear ha0 ha3 ha4 ha5 ha6 ha7 ha8 ha9 ha10 ha11 ha12 ha13
  clear hs g3 g3b
  have A00 := Lib.hid (show St 25 w.heap.size #[.int .i64 0, .bool false, .bool false, .int .i64 0, .int .i64 0, .int .i64 0, .int .i64 0, .int .i64 0, .int .i64 0, .string ⟨#[]⟩] ((w.alloc (.cells #[.int .i64 0, .bool false, .bool false, .int .i64 0, .int .i64 0, .int .i64 0, .int .i64 0, .int .i64 0, .int .i64 0, .string ⟨#[]⟩] 25 (0, 0))).alloc (.cells #[.int .i64 0, .bool false, .bool false, .int .i64 0, .int .i64 0, .int .i64 0, .int .i64 0, .int .i64 0, .int .i64 0, .string ⟨#[]⟩] 25 (0, 0))) from (St.new w 25 _).alloc _)
  have K0 := Lib.hid (show St 25 (w.heap.size + 1) #[.int .i64 0, .bool false, .bool false, .int .i64 0, .int .i64 0, .int .i64 0, .int .i64 0, .int .i64 0, .int .i64 0, .string ⟨#[]⟩] ((w.alloc (.cells #[.int .i64 0, .bool false, .bool false, .int .i64 0, .int .i64 0, .int .i64 0, .int .i64 0, .int .i64 0, .int .i64 0, .string ⟨#[]⟩] 25 (0, 0))).alloc (.cells #[.int .i64 0, .bool false, .bool false, .int .i64 0, .int .i64 0, .int .i64 0, .int .i64 0, .int .i64 0, .int .i64 0, .string ⟨#[]⟩] 25 (0, 0))) from by have := St.new (w.alloc (.cells #[.int .i64 0, .bool false, .bool false, .int .i64 0, .int .i64 0, .int .i64 0, .int .i64 0, .int .i64 0, .int .i64 0, .string ⟨#[]⟩] 25 (0, 0))) 25 #[.int .i64 0, .bool false, .bool false, .int .i64 0, .int .i64 0, .int .i64 0, .int .i64 0, .int .i64 0, .int .i64 0, .string ⟨#[]⟩]; simpa using this)
  have L0 := Lib.hid (show Below w.heap.size w ((w.alloc (.cells #[.int .i64 0, .bool false, .bool false, .int .i64 0, .int .i64 0, .int .i64 0, .int .i64 0, .int .i64 0, .int .i64 0, .string ⟨#[]⟩] 25 (0, 0))).alloc (.cells #[.int .i64 0, .bool false, .bool false, .int .i64 0, .int .i64 0, .int .i64 0, .int .i64 0, .int .i64 0, .int .i64 0, .string ⟨#[]⟩] 25 (0, 0))) from (below_one w _).alloc (by simp) _)
  dsimp only [Mg.arr, Mg.zero]
  go_enter Tryd.func12, Tryd.ntmps12
  go_wp2_with (first
    | (go_at_call 26; (first | (with_reducible refine (A0.out _).mono ?_) | (with_reducible refine (A1.out _).mono ?_) | (with_reducible refine (A2.out _).mono ?_) | (with_reducible refine (A3.out _).mono ?_) | (with_reducible refine (A4.out _).mono ?_) | (with_reducible refine (A5.out _).mono ?_) | (with_reducible refine (A6.out _).mono ?_) | (with_reducible refine (A7.out _).mono ?_) | (with_reducible refine (A8.out _).mono ?_) | (with_reducible refine (A9.out _).mono ?_) | (with_reducible refine (A10.out _).mono ?_) | (with_reducible refine (A11.out _).mono ?_) | (with_reducible refine (A12.out _).mono ?_) | (with_reducible refine (A13.out _).mono ?_)); rintro e w3 ⟨rfl, b3⟩; (first | (have V4 := Lib.hid (VC.below V4.out b3); have cc := V4.out.b.msg.cell (j := 8) rfl; have ff := V4.out.b.msg.free 8; have cc3 := V4.out.b.msg.cell (j := 3) rfl; have ff3 := V4.out.b.msg.free 3; have cc9 := V4.out.b.msg.cell (j := 9) rfl; have ff9 := V4.out.b.msg.free 9) | (have V3 := Lib.hid (VB.below (V3.out.set 2 _) b3); have cc := V3.out.msg.cell (j := 8) rfl; have ff := V3.out.msg.free 8; have cc9 := V3.out.msg.cell (j := 9) rfl; have ff9 := V3.out.msg.free 9) | (have V3 := Lib.hid (VB.below V3.out b3); have cc := V3.out.msg.cell (j := 8) rfl; have ff := V3.out.msg.free 8; have cc2 := V3.out.msg.cell (j := 2) rfl; have ff2 := V3.out.msg.free 2) | (have V := Lib.hid (VA.below V.out b3))); clear b3)
    | (go_at_call 19; go_must (refine (HO.out _).mono ?_); rintro e w3 ⟨rfl, b3⟩; (first | (have V4 := Lib.hid (VC.below V4.out b3); have cc := V4.out.b.msg.cell (j := 8) rfl; have ff := V4.out.b.msg.free 8; have cc3 := V4.out.b.msg.cell (j := 3) rfl; have ff3 := V4.out.b.msg.free 3; have cc9 := V4.out.b.msg.cell (j := 9) rfl; have ff9 := V4.out.b.msg.free 9) | (have V3 := Lib.hid (VB.below (V3.out.set 2 _) b3); have cc := V3.out.msg.cell (j := 8) rfl; have ff := V3.out.msg.free 8; have cc9 := V3.out.msg.cell (j := 9) rfl; have ff9 := V3.out.msg.free 9) | (have V3 := Lib.hid (VB.below V3.out b3); have cc := V3.out.msg.cell (j := 8) rfl; have ff := V3.out.msg.free 8; have cc2 := V3.out.msg.cell (j := 2) rfl; have ff2 := V3.out.msg.free 2) | (have V := Lib.hid (VA.below V.out b3))); clear b3)
    | (go_at_call 8; go_must (refine (HC.out _).mono ?_); rintro e w3 ⟨rfl, b3⟩; have V3 := Lib.hid (VB.below ((V3.out.set 8 _).set 9 _) b3); clear b3)
    | ((with_reducible show wpList _ _ _ ({ dst := _, op := .build 25 #[], type := _, pos := _, after := _, guard := _ } :: _) _ _); refine wpList_build_as rfl 25 _ rfl #[.int .i64 0, .bool false, .bool false, .int .i64 0, .int .i64 0, .int .i64 0, .int .i64 0, .int .i64 0, .int .i64 0, .string ⟨#[]⟩] mzero_built ?_)
    | ((with_reducible show wpList _ _ _ ({ dst := _, op := .build 25 _, type := _, pos := _, after := _, guard := _ } :: _) _ _); refine wpList_build_as rfl 25 _ rfl #[.int .i64 a0, .bool false, .bool false, .int .i64 0, .int .i64 0, .int .i64 0, .int .i64 0, .int .i64 0, .int .i64 0, .string ⟨#[]⟩] (mnew_built _ _) ?_)
    | ((with_reducible show wpList _ _ _ ({ dst := _, op := .build 23 _, type := _, pos := _, after := _, guard := _ } :: _) _ _); refine wpList_build_as rfl 23 _ rfl #[.int .i64 a8, .int .i64 a9, .int .i64 a10, .int .i64 a11] (cred_built _ _ _ _) ?_)
    | ((with_reducible show wpList _ _ _ ({ dst := _, op := .store _ (.tmp 4) _, type := _, pos := _, after := _, guard := _ } :: _) _ _); refine wpList_store_st rfl 25 _ _ rfl (w.heap.size + 1) #[.int .i64 0, .bool false, .bool false, .int .i64 0, .int .i64 0, .int .i64 0, .int .i64 0, .int .i64 0, .int .i64 0, .string ⟨#[]⟩] rfl rfl _ K0.out (by kernel_rfl) rfl (by kernel_rfl) ?_; intro wz hz hst; have V := Lib.hid (show VA w wz from ⟨by rw [hz]; exact A00.out.setRow_other (by omega) _, hst, by rw [hz]; exact below_row L0.out (by omega) _⟩); clear hz hst)
    | ((with_reducible show wpList _ _ _ ({ dst := _, op := .store _ (.tmp 6) _, type := _, pos := _, after := _, guard := _ } :: _) _ _); refine wpList_store_st rfl 25 _ _ rfl _ #[.int .i64 a0, .bool false, .bool false, .int .i64 0, .int .i64 0, .int .i64 0, .int .i64 0, .int .i64 0, .int .i64 0, .string ⟨#[]⟩] rfl rfl _ (St.new w3 25 _) (by kernel_rfl) rfl (by kernel_rfl) ?_; rw [alloc_row]; intro wz hz hst; subst hz; have V3 := Lib.hid (V.out.toB #[.int .i64 a0, .bool false, .bool false, .int .i64 0, .int .i64 0, .int .i64 0, .int .i64 0, .int .i64 0, .int .i64 0, .string ⟨#[]⟩]); clear hst)
    | ((with_reducible show wpList _ _ _ ({ dst := _, op := .store _ (.tmp 7) _, type := _, pos := _, after := _, guard := _ } :: _) _ _); refine wpList_store_st rfl 23 _ _ rfl _ #[.int .i64 a8, .int .i64 a9, .int .i64 a10, .int .i64 a11] rfl rfl _ (St.new w3 23 _) (by kernel_rfl) rfl (by kernel_rfl) ?_; rw [alloc_row]; intro wz hz hst; subst hz; have V4 := Lib.hid (V3.out.toC #[.int .i64 a8, .int .i64 a9, .int .i64 a10, .int .i64 a11]); clear hst)
    | ((with_reducible show wpList _ _ _ ({ dst := _, op := .load _ (.tmp 4), type := _, pos := _, after := _, guard := _ } :: _) _ _); refine wpList_load_st rfl 25 _ rfl _ rfl 25 #[.int .i64 0, .bool false, .bool false, .int .i64 0, .int .i64 0, .int .i64 0, .int .i64 0, .int .i64 0, .int .i64 0, .string ⟨#[]⟩] (by first | exact V3.out.a.non | exact V.out.non) _ Tryd.underlying25 rfl (by kernel_rfl) ?_)
    | ((with_reducible show wpList _ _ _ ({ dst := _, op := .load _ (.tmp 7), type := _, pos := _, after := _, guard := _ } :: _) _ _); refine wpList_load_stg (by rfl) 23 _ rfl _ rfl 23 #[.int .i64 a8, .int .i64 a9, .int .i64 a10, .int .i64 a11] V4.out.own _ Tryd.underlying23 rfl (by kernel_rfl) ?_)
    | ((with_reducible show wpList _ _ _ ({ dst := _, op := .load _ (.tmp 6), type := _, pos := _, after := _, guard := _ } :: _) _ _); refine wpList_load_st rfl 25 _ rfl _ rfl 25 #[.int .i64 a0, .bool false, .bool false, .int .i64 0, .int .i64 0, .int .i64 0, .int .i64 0, .int .i64 0, .int .i64 1, .string ⟨#[]⟩] (by exact (V3.out.set 8 _).msg) _ Tryd.underlying25 rfl (by kernel_rfl) ?_)
    | ((with_reducible show wpList _ _ _ ({ dst := _, op := .store _ (.tmp 2) _, type := _, pos := _, after := _, guard := _ } :: _) _ _); refine wpList_store_st rfl 25 _ _ rfl w.heap.size #[.int .i64 a0, .bool false, .bool false, .int .i64 0, .int .i64 0, .int .i64 0, .int .i64 0, .int .i64 0, .int .i64 1, .string ⟨#[]⟩] rfl rfl _ ((V3.out.set 8 _).a.res) (by kernel_rfl) rfl (by kernel_rfl) ?_; intro wz hz hst; have HQ := Lib.hid hz; have HR := Lib.hid hst; clear hz hst))
  refine ret_cell2 (r := 2) (t := 3) (k := w.heap.size) (T := 25) Tryd.results12 rfl rfl HR.out Tryd.underlying25 rfl (by kernel_rfl) rfl ?_
  have e0 := HQ.out
  subst e0
  exact ⟨rfl, below_row (V3.out.set 8 _).a.low (Nat.le_refl _) _⟩

set_option maxRecDepth 100000 in
set_option maxHeartbeats 4000000 in
theorem mfGet_c5 (s : ByteArray) (w : World) (hs : s.size ≤ 2048)(h1 : atW s 1 = 0) (h2 : atW s 2 = 2) (h3 : atW s 3 = 100003) (g4 : atW s 4 < 0) : Calls Tryd.prog 12 #[.string s] w fun e w' => e = .returned (.tuple #[.agg (mgGet s).1.arr, .int .i64 (mgGet s).2]) ∧ Below w.heap.size w w' := by
  have e : mgGet s = (Mg.zero, 14) := by
    unfold mgGet
    rw [if_neg (by omega), if_neg (by omega), if_neg (by omega), if_neg (by omega), if_neg (by omega), if_pos g4]
  rw [e]
  clear e
  have A0 : ∀ W, Calls Tryd.prog 26 #[.string s, .int .i64 0] W fun e w' => e = .returned (.int .i64 (atW s 0)) ∧ Below W.heap.size W w' := fun W => mfat_any s 0 W (by omega) (by decide)
  have A1 : ∀ W, Calls Tryd.prog 26 #[.string s, .int .i64 1] W fun e w' => e = .returned (.int .i64 (atW s 1)) ∧ Below W.heap.size W w' := fun W => mfat_any s 1 W (by omega) (by decide)
  have A2 : ∀ W, Calls Tryd.prog 26 #[.string s, .int .i64 2] W fun e w' => e = .returned (.int .i64 (atW s 2)) ∧ Below W.heap.size W w' := fun W => mfat_any s 2 W (by omega) (by decide)
  have A3 : ∀ W, Calls Tryd.prog 26 #[.string s, .int .i64 3] W fun e w' => e = .returned (.int .i64 (atW s 3)) ∧ Below W.heap.size W w' := fun W => mfat_any s 3 W (by omega) (by decide)
  have A4 : ∀ W, Calls Tryd.prog 26 #[.string s, .int .i64 4] W fun e w' => e = .returned (.int .i64 (atW s 4)) ∧ Below W.heap.size W w' := fun W => mfat_any s 4 W (by omega) (by decide)
  have A5 : ∀ W, Calls Tryd.prog 26 #[.string s, .int .i64 5] W fun e w' => e = .returned (.int .i64 (atW s 5)) ∧ Below W.heap.size W w' := fun W => mfat_any s 5 W (by omega) (by decide)
  have A6 : ∀ W, Calls Tryd.prog 26 #[.string s, .int .i64 6] W fun e w' => e = .returned (.int .i64 (atW s 6)) ∧ Below W.heap.size W w' := fun W => mfat_any s 6 W (by omega) (by decide)
  have A7 : ∀ W, Calls Tryd.prog 26 #[.string s, .int .i64 7] W fun e w' => e = .returned (.int .i64 (atW s 7)) ∧ Below W.heap.size W w' := fun W => mfat_any s 7 W (by omega) (by decide)
  have A8 : ∀ W, Calls Tryd.prog 26 #[.string s, .int .i64 8] W fun e w' => e = .returned (.int .i64 (atW s 8)) ∧ Below W.heap.size W w' := fun W => mfat_any s 8 W (by omega) (by decide)
  have A9 : ∀ W, Calls Tryd.prog 26 #[.string s, .int .i64 9] W fun e w' => e = .returned (.int .i64 (atW s 9)) ∧ Below W.heap.size W w' := fun W => mfat_any s 9 W (by omega) (by decide)
  have A10 : ∀ W, Calls Tryd.prog 26 #[.string s, .int .i64 10] W fun e w' => e = .returned (.int .i64 (atW s 10)) ∧ Below W.heap.size W w' := fun W => mfat_any s 10 W (by omega) (by decide)
  have A11 : ∀ W, Calls Tryd.prog 26 #[.string s, .int .i64 11] W fun e w' => e = .returned (.int .i64 (atW s 11)) ∧ Below W.heap.size W w' := fun W => mfat_any s 11 W (by omega) (by decide)
  have A12 : ∀ W, Calls Tryd.prog 26 #[.string s, .int .i64 12] W fun e w' => e = .returned (.int .i64 (atW s 12)) ∧ Below W.heap.size W w' := fun W => mfat_any s 12 W (by omega) (by decide)
  have A13 : ∀ W, Calls Tryd.prog 26 #[.string s, .int .i64 13] W fun e w' => e = .returned (.int .i64 (atW s 13)) ∧ Below W.heap.size W w' := fun W => mfat_any s 13 W (by omega) (by decide)
  obtain ⟨a0, ha0⟩ : ∃ a, a = atW s 0 := ⟨_, rfl⟩
  rw [← ha0] at A0
  rw [h1] at A1
  rw [h2] at A2
  rw [h3] at A3
  obtain ⟨a4, ha4⟩ : ∃ a, a = atW s 4 := ⟨_, rfl⟩
  rw [← ha4] at A4
  obtain ⟨a5, ha5⟩ : ∃ a, a = atW s 5 := ⟨_, rfl⟩
  rw [← ha5] at A5
  obtain ⟨a6, ha6⟩ : ∃ a, a = atW s 6 := ⟨_, rfl⟩
  rw [← ha6] at A6
  obtain ⟨a7, ha7⟩ : ∃ a, a = atW s 7 := ⟨_, rfl⟩
  rw [← ha7] at A7
  obtain ⟨a8, ha8⟩ : ∃ a, a = atW s 8 := ⟨_, rfl⟩
  rw [← ha8] at A8
  obtain ⟨a9, ha9⟩ : ∃ a, a = atW s 9 := ⟨_, rfl⟩
  rw [← ha9] at A9
  obtain ⟨a10, ha10⟩ : ∃ a, a = atW s 10 := ⟨_, rfl⟩
  rw [← ha10] at A10
  obtain ⟨a11, ha11⟩ : ∃ a, a = atW s 11 := ⟨_, rfl⟩
  rw [← ha11] at A11
  obtain ⟨a12, ha12⟩ : ∃ a, a = atW s 12 := ⟨_, rfl⟩
  rw [← ha12] at A12
  obtain ⟨a13, ha13⟩ : ∃ a, a = atW s 13 := ⟨_, rfl⟩
  rw [← ha13] at A13
  rw [← ha4] at g4
  have d0 : decide ((s.size : Int) > 2048) = false := decide_eq_false (by omega)
  have d4 : decide (a4 < 0) = true := decide_eq_true g4
  replace A0 := Lib.hid A0
  replace A1 := Lib.hid A1
  replace A2 := Lib.hid A2
  replace A3 := Lib.hid A3
  replace A4 := Lib.hid A4
  replace A5 := Lib.hid A5
  replace A6 := Lib.hid A6
  replace A7 := Lib.hid A7
  replace A8 := Lib.hid A8
  replace A9 := Lib.hid A9
  replace A10 := Lib.hid A10
  replace A11 := Lib.hid A11
  replace A12 := Lib.hid A12
  replace A13 := Lib.hid A13
  clear ha0 ha4 ha5 ha6 ha7 ha8 ha9 ha10 ha11 ha12 ha13
  clear hs g4
  have A00 := Lib.hid (show St 25 w.heap.size #[.int .i64 0, .bool false, .bool false, .int .i64 0, .int .i64 0, .int .i64 0, .int .i64 0, .int .i64 0, .int .i64 0, .string ⟨#[]⟩] ((w.alloc (.cells #[.int .i64 0, .bool false, .bool false, .int .i64 0, .int .i64 0, .int .i64 0, .int .i64 0, .int .i64 0, .int .i64 0, .string ⟨#[]⟩] 25 (0, 0))).alloc (.cells #[.int .i64 0, .bool false, .bool false, .int .i64 0, .int .i64 0, .int .i64 0, .int .i64 0, .int .i64 0, .int .i64 0, .string ⟨#[]⟩] 25 (0, 0))) from (St.new w 25 _).alloc _)
  have K0 := Lib.hid (show St 25 (w.heap.size + 1) #[.int .i64 0, .bool false, .bool false, .int .i64 0, .int .i64 0, .int .i64 0, .int .i64 0, .int .i64 0, .int .i64 0, .string ⟨#[]⟩] ((w.alloc (.cells #[.int .i64 0, .bool false, .bool false, .int .i64 0, .int .i64 0, .int .i64 0, .int .i64 0, .int .i64 0, .int .i64 0, .string ⟨#[]⟩] 25 (0, 0))).alloc (.cells #[.int .i64 0, .bool false, .bool false, .int .i64 0, .int .i64 0, .int .i64 0, .int .i64 0, .int .i64 0, .int .i64 0, .string ⟨#[]⟩] 25 (0, 0))) from by have := St.new (w.alloc (.cells #[.int .i64 0, .bool false, .bool false, .int .i64 0, .int .i64 0, .int .i64 0, .int .i64 0, .int .i64 0, .int .i64 0, .string ⟨#[]⟩] 25 (0, 0))) 25 #[.int .i64 0, .bool false, .bool false, .int .i64 0, .int .i64 0, .int .i64 0, .int .i64 0, .int .i64 0, .int .i64 0, .string ⟨#[]⟩]; simpa using this)
  have L0 := Lib.hid (show Below w.heap.size w ((w.alloc (.cells #[.int .i64 0, .bool false, .bool false, .int .i64 0, .int .i64 0, .int .i64 0, .int .i64 0, .int .i64 0, .int .i64 0, .string ⟨#[]⟩] 25 (0, 0))).alloc (.cells #[.int .i64 0, .bool false, .bool false, .int .i64 0, .int .i64 0, .int .i64 0, .int .i64 0, .int .i64 0, .int .i64 0, .string ⟨#[]⟩] 25 (0, 0))) from (below_one w _).alloc (by simp) _)
  dsimp only [Mg.arr, Mg.zero]
  go_enter Tryd.func12, Tryd.ntmps12
  go_wp2_with (first
    | (go_at_call 26; (first | (with_reducible refine (A0.out _).mono ?_) | (with_reducible refine (A1.out _).mono ?_) | (with_reducible refine (A2.out _).mono ?_) | (with_reducible refine (A3.out _).mono ?_) | (with_reducible refine (A4.out _).mono ?_) | (with_reducible refine (A5.out _).mono ?_) | (with_reducible refine (A6.out _).mono ?_) | (with_reducible refine (A7.out _).mono ?_) | (with_reducible refine (A8.out _).mono ?_) | (with_reducible refine (A9.out _).mono ?_) | (with_reducible refine (A10.out _).mono ?_) | (with_reducible refine (A11.out _).mono ?_) | (with_reducible refine (A12.out _).mono ?_) | (with_reducible refine (A13.out _).mono ?_)); rintro e w3 ⟨rfl, b3⟩; (first | (have V4 := Lib.hid (VC.below V4.out b3); have cc := V4.out.b.msg.cell (j := 8) rfl; have ff := V4.out.b.msg.free 8; have cc3 := V4.out.b.msg.cell (j := 3) rfl; have ff3 := V4.out.b.msg.free 3; have cc9 := V4.out.b.msg.cell (j := 9) rfl; have ff9 := V4.out.b.msg.free 9) | (have V3 := Lib.hid (VB.below (V3.out.set 2 _) b3); have cc := V3.out.msg.cell (j := 8) rfl; have ff := V3.out.msg.free 8; have cc9 := V3.out.msg.cell (j := 9) rfl; have ff9 := V3.out.msg.free 9) | (have V3 := Lib.hid (VB.below V3.out b3); have cc := V3.out.msg.cell (j := 8) rfl; have ff := V3.out.msg.free 8; have cc2 := V3.out.msg.cell (j := 2) rfl; have ff2 := V3.out.msg.free 2) | (have V := Lib.hid (VA.below V.out b3))); clear b3)
    | (go_at_call 19; go_must (refine (HO.out _).mono ?_); rintro e w3 ⟨rfl, b3⟩; (first | (have V4 := Lib.hid (VC.below V4.out b3); have cc := V4.out.b.msg.cell (j := 8) rfl; have ff := V4.out.b.msg.free 8; have cc3 := V4.out.b.msg.cell (j := 3) rfl; have ff3 := V4.out.b.msg.free 3; have cc9 := V4.out.b.msg.cell (j := 9) rfl; have ff9 := V4.out.b.msg.free 9) | (have V3 := Lib.hid (VB.below (V3.out.set 2 _) b3); have cc := V3.out.msg.cell (j := 8) rfl; have ff := V3.out.msg.free 8; have cc9 := V3.out.msg.cell (j := 9) rfl; have ff9 := V3.out.msg.free 9) | (have V3 := Lib.hid (VB.below V3.out b3); have cc := V3.out.msg.cell (j := 8) rfl; have ff := V3.out.msg.free 8; have cc2 := V3.out.msg.cell (j := 2) rfl; have ff2 := V3.out.msg.free 2) | (have V := Lib.hid (VA.below V.out b3))); clear b3)
    | (go_at_call 8; go_must (refine (HC.out _).mono ?_); rintro e w3 ⟨rfl, b3⟩; have V3 := Lib.hid (VB.below ((V3.out.set 8 _).set 9 _) b3); clear b3)
    | ((with_reducible show wpList _ _ _ ({ dst := _, op := .build 25 #[], type := _, pos := _, after := _, guard := _ } :: _) _ _); refine wpList_build_as rfl 25 _ rfl #[.int .i64 0, .bool false, .bool false, .int .i64 0, .int .i64 0, .int .i64 0, .int .i64 0, .int .i64 0, .int .i64 0, .string ⟨#[]⟩] mzero_built ?_)
    | ((with_reducible show wpList _ _ _ ({ dst := _, op := .build 25 _, type := _, pos := _, after := _, guard := _ } :: _) _ _); refine wpList_build_as rfl 25 _ rfl #[.int .i64 a0, .bool false, .bool false, .int .i64 0, .int .i64 0, .int .i64 0, .int .i64 0, .int .i64 0, .int .i64 0, .string ⟨#[]⟩] (mnew_built _ _) ?_)
    | ((with_reducible show wpList _ _ _ ({ dst := _, op := .build 23 _, type := _, pos := _, after := _, guard := _ } :: _) _ _); refine wpList_build_as rfl 23 _ rfl #[.int .i64 a8, .int .i64 a9, .int .i64 a10, .int .i64 a11] (cred_built _ _ _ _) ?_)
    | ((with_reducible show wpList _ _ _ ({ dst := _, op := .store _ (.tmp 4) _, type := _, pos := _, after := _, guard := _ } :: _) _ _); refine wpList_store_st rfl 25 _ _ rfl (w.heap.size + 1) #[.int .i64 0, .bool false, .bool false, .int .i64 0, .int .i64 0, .int .i64 0, .int .i64 0, .int .i64 0, .int .i64 0, .string ⟨#[]⟩] rfl rfl _ K0.out (by kernel_rfl) rfl (by kernel_rfl) ?_; intro wz hz hst; have V := Lib.hid (show VA w wz from ⟨by rw [hz]; exact A00.out.setRow_other (by omega) _, hst, by rw [hz]; exact below_row L0.out (by omega) _⟩); clear hz hst)
    | ((with_reducible show wpList _ _ _ ({ dst := _, op := .store _ (.tmp 6) _, type := _, pos := _, after := _, guard := _ } :: _) _ _); refine wpList_store_st rfl 25 _ _ rfl _ #[.int .i64 a0, .bool false, .bool false, .int .i64 0, .int .i64 0, .int .i64 0, .int .i64 0, .int .i64 0, .int .i64 0, .string ⟨#[]⟩] rfl rfl _ (St.new w3 25 _) (by kernel_rfl) rfl (by kernel_rfl) ?_; rw [alloc_row]; intro wz hz hst; subst hz; have V3 := Lib.hid (V.out.toB #[.int .i64 a0, .bool false, .bool false, .int .i64 0, .int .i64 0, .int .i64 0, .int .i64 0, .int .i64 0, .int .i64 0, .string ⟨#[]⟩]); clear hst)
    | ((with_reducible show wpList _ _ _ ({ dst := _, op := .store _ (.tmp 7) _, type := _, pos := _, after := _, guard := _ } :: _) _ _); refine wpList_store_st rfl 23 _ _ rfl _ #[.int .i64 a8, .int .i64 a9, .int .i64 a10, .int .i64 a11] rfl rfl _ (St.new w3 23 _) (by kernel_rfl) rfl (by kernel_rfl) ?_; rw [alloc_row]; intro wz hz hst; subst hz; have V4 := Lib.hid (V3.out.toC #[.int .i64 a8, .int .i64 a9, .int .i64 a10, .int .i64 a11]); clear hst)
    | ((with_reducible show wpList _ _ _ ({ dst := _, op := .load _ (.tmp 4), type := _, pos := _, after := _, guard := _ } :: _) _ _); refine wpList_load_st rfl 25 _ rfl _ rfl 25 #[.int .i64 0, .bool false, .bool false, .int .i64 0, .int .i64 0, .int .i64 0, .int .i64 0, .int .i64 0, .int .i64 0, .string ⟨#[]⟩] (by first | exact V3.out.a.non | exact V.out.non) _ Tryd.underlying25 rfl (by kernel_rfl) ?_)
    | ((with_reducible show wpList _ _ _ ({ dst := _, op := .store _ (.tmp 2) _, type := _, pos := _, after := _, guard := _ } :: _) _ _); refine wpList_store_st rfl 25 _ _ rfl w.heap.size #[.int .i64 0, .bool false, .bool false, .int .i64 0, .int .i64 0, .int .i64 0, .int .i64 0, .int .i64 0, .int .i64 0, .string ⟨#[]⟩] rfl rfl _ (V3.out.a.res) (by kernel_rfl) rfl (by kernel_rfl) ?_; intro wz hz hst; have HQ := Lib.hid hz; have HR := Lib.hid hst; clear hz hst))
  refine ret_cell2 (r := 2) (t := 3) (k := w.heap.size) (T := 25) Tryd.results12 rfl rfl HR.out Tryd.underlying25 rfl (by kernel_rfl) rfl ?_
  have e0 := HQ.out
  subst e0
  exact ⟨rfl, below_row V3.out.a.low (Nat.le_refl _) _⟩

set_option maxRecDepth 100000 in
set_option maxHeartbeats 4000000 in
theorem mfGet_c6 (s : ByteArray) (w : World) (hs : s.size ≤ 2048)(h1 : atW s 1 = 0) (h2 : atW s 2 = 2) (h3 : atW s 3 = 100003) (g4 : 0 ≤ atW s 4) (g4b : atW s 4 ≠ 3) : Calls Tryd.prog 12 #[.string s] w fun e w' => e = .returned (.tuple #[.agg (mgGet s).1.arr, .int .i64 (mgGet s).2]) ∧ Below w.heap.size w w' := by
  have e : mgGet s = ({ Mg.zero with xid := atW s 0, accept := 2 }, 0) := by
    unfold mgGet
    rw [if_neg (by omega), if_neg (by omega), if_neg (by omega), if_neg (by omega), if_neg (by omega), if_neg (by omega), if_pos g4b]
  rw [e]
  clear e
  have A0 : ∀ W, Calls Tryd.prog 26 #[.string s, .int .i64 0] W fun e w' => e = .returned (.int .i64 (atW s 0)) ∧ Below W.heap.size W w' := fun W => mfat_any s 0 W (by omega) (by decide)
  have A1 : ∀ W, Calls Tryd.prog 26 #[.string s, .int .i64 1] W fun e w' => e = .returned (.int .i64 (atW s 1)) ∧ Below W.heap.size W w' := fun W => mfat_any s 1 W (by omega) (by decide)
  have A2 : ∀ W, Calls Tryd.prog 26 #[.string s, .int .i64 2] W fun e w' => e = .returned (.int .i64 (atW s 2)) ∧ Below W.heap.size W w' := fun W => mfat_any s 2 W (by omega) (by decide)
  have A3 : ∀ W, Calls Tryd.prog 26 #[.string s, .int .i64 3] W fun e w' => e = .returned (.int .i64 (atW s 3)) ∧ Below W.heap.size W w' := fun W => mfat_any s 3 W (by omega) (by decide)
  have A4 : ∀ W, Calls Tryd.prog 26 #[.string s, .int .i64 4] W fun e w' => e = .returned (.int .i64 (atW s 4)) ∧ Below W.heap.size W w' := fun W => mfat_any s 4 W (by omega) (by decide)
  have A5 : ∀ W, Calls Tryd.prog 26 #[.string s, .int .i64 5] W fun e w' => e = .returned (.int .i64 (atW s 5)) ∧ Below W.heap.size W w' := fun W => mfat_any s 5 W (by omega) (by decide)
  have A6 : ∀ W, Calls Tryd.prog 26 #[.string s, .int .i64 6] W fun e w' => e = .returned (.int .i64 (atW s 6)) ∧ Below W.heap.size W w' := fun W => mfat_any s 6 W (by omega) (by decide)
  have A7 : ∀ W, Calls Tryd.prog 26 #[.string s, .int .i64 7] W fun e w' => e = .returned (.int .i64 (atW s 7)) ∧ Below W.heap.size W w' := fun W => mfat_any s 7 W (by omega) (by decide)
  have A8 : ∀ W, Calls Tryd.prog 26 #[.string s, .int .i64 8] W fun e w' => e = .returned (.int .i64 (atW s 8)) ∧ Below W.heap.size W w' := fun W => mfat_any s 8 W (by omega) (by decide)
  have A9 : ∀ W, Calls Tryd.prog 26 #[.string s, .int .i64 9] W fun e w' => e = .returned (.int .i64 (atW s 9)) ∧ Below W.heap.size W w' := fun W => mfat_any s 9 W (by omega) (by decide)
  have A10 : ∀ W, Calls Tryd.prog 26 #[.string s, .int .i64 10] W fun e w' => e = .returned (.int .i64 (atW s 10)) ∧ Below W.heap.size W w' := fun W => mfat_any s 10 W (by omega) (by decide)
  have A11 : ∀ W, Calls Tryd.prog 26 #[.string s, .int .i64 11] W fun e w' => e = .returned (.int .i64 (atW s 11)) ∧ Below W.heap.size W w' := fun W => mfat_any s 11 W (by omega) (by decide)
  have A12 : ∀ W, Calls Tryd.prog 26 #[.string s, .int .i64 12] W fun e w' => e = .returned (.int .i64 (atW s 12)) ∧ Below W.heap.size W w' := fun W => mfat_any s 12 W (by omega) (by decide)
  have A13 : ∀ W, Calls Tryd.prog 26 #[.string s, .int .i64 13] W fun e w' => e = .returned (.int .i64 (atW s 13)) ∧ Below W.heap.size W w' := fun W => mfat_any s 13 W (by omega) (by decide)
  obtain ⟨a0, ha0⟩ : ∃ a, a = atW s 0 := ⟨_, rfl⟩
  rw [← ha0] at A0
  rw [h1] at A1
  rw [h2] at A2
  rw [h3] at A3
  obtain ⟨a4, ha4⟩ : ∃ a, a = atW s 4 := ⟨_, rfl⟩
  rw [← ha4] at A4
  obtain ⟨a5, ha5⟩ : ∃ a, a = atW s 5 := ⟨_, rfl⟩
  rw [← ha5] at A5
  obtain ⟨a6, ha6⟩ : ∃ a, a = atW s 6 := ⟨_, rfl⟩
  rw [← ha6] at A6
  obtain ⟨a7, ha7⟩ : ∃ a, a = atW s 7 := ⟨_, rfl⟩
  rw [← ha7] at A7
  obtain ⟨a8, ha8⟩ : ∃ a, a = atW s 8 := ⟨_, rfl⟩
  rw [← ha8] at A8
  obtain ⟨a9, ha9⟩ : ∃ a, a = atW s 9 := ⟨_, rfl⟩
  rw [← ha9] at A9
  obtain ⟨a10, ha10⟩ : ∃ a, a = atW s 10 := ⟨_, rfl⟩
  rw [← ha10] at A10
  obtain ⟨a11, ha11⟩ : ∃ a, a = atW s 11 := ⟨_, rfl⟩
  rw [← ha11] at A11
  obtain ⟨a12, ha12⟩ : ∃ a, a = atW s 12 := ⟨_, rfl⟩
  rw [← ha12] at A12
  obtain ⟨a13, ha13⟩ : ∃ a, a = atW s 13 := ⟨_, rfl⟩
  rw [← ha13] at A13
  rw [← ha4] at g4 g4b
  have d0 : decide ((s.size : Int) > 2048) = false := decide_eq_false (by omega)
  have d4 : decide (a4 < 0) = false := decide_eq_false (by omega)
  have na41 : (a4 == 3) = false := by simpa using g4b
  have na42 : (a4 != 3) = true := by simpa using g4b
  rw [← ha0]
  replace A0 := Lib.hid A0
  replace A1 := Lib.hid A1
  replace A2 := Lib.hid A2
  replace A3 := Lib.hid A3
  replace A4 := Lib.hid A4
  replace A5 := Lib.hid A5
  replace A6 := Lib.hid A6
  replace A7 := Lib.hid A7
  replace A8 := Lib.hid A8
  replace A9 := Lib.hid A9
  replace A10 := Lib.hid A10
  replace A11 := Lib.hid A11
  replace A12 := Lib.hid A12
  replace A13 := Lib.hid A13
  clear ha0 ha4 ha5 ha6 ha7 ha8 ha9 ha10 ha11 ha12 ha13
  clear hs g4 g4b
  have A00 := Lib.hid (show St 25 w.heap.size #[.int .i64 0, .bool false, .bool false, .int .i64 0, .int .i64 0, .int .i64 0, .int .i64 0, .int .i64 0, .int .i64 0, .string ⟨#[]⟩] ((w.alloc (.cells #[.int .i64 0, .bool false, .bool false, .int .i64 0, .int .i64 0, .int .i64 0, .int .i64 0, .int .i64 0, .int .i64 0, .string ⟨#[]⟩] 25 (0, 0))).alloc (.cells #[.int .i64 0, .bool false, .bool false, .int .i64 0, .int .i64 0, .int .i64 0, .int .i64 0, .int .i64 0, .int .i64 0, .string ⟨#[]⟩] 25 (0, 0))) from (St.new w 25 _).alloc _)
  have K0 := Lib.hid (show St 25 (w.heap.size + 1) #[.int .i64 0, .bool false, .bool false, .int .i64 0, .int .i64 0, .int .i64 0, .int .i64 0, .int .i64 0, .int .i64 0, .string ⟨#[]⟩] ((w.alloc (.cells #[.int .i64 0, .bool false, .bool false, .int .i64 0, .int .i64 0, .int .i64 0, .int .i64 0, .int .i64 0, .int .i64 0, .string ⟨#[]⟩] 25 (0, 0))).alloc (.cells #[.int .i64 0, .bool false, .bool false, .int .i64 0, .int .i64 0, .int .i64 0, .int .i64 0, .int .i64 0, .int .i64 0, .string ⟨#[]⟩] 25 (0, 0))) from by have := St.new (w.alloc (.cells #[.int .i64 0, .bool false, .bool false, .int .i64 0, .int .i64 0, .int .i64 0, .int .i64 0, .int .i64 0, .int .i64 0, .string ⟨#[]⟩] 25 (0, 0))) 25 #[.int .i64 0, .bool false, .bool false, .int .i64 0, .int .i64 0, .int .i64 0, .int .i64 0, .int .i64 0, .int .i64 0, .string ⟨#[]⟩]; simpa using this)
  have L0 := Lib.hid (show Below w.heap.size w ((w.alloc (.cells #[.int .i64 0, .bool false, .bool false, .int .i64 0, .int .i64 0, .int .i64 0, .int .i64 0, .int .i64 0, .int .i64 0, .string ⟨#[]⟩] 25 (0, 0))).alloc (.cells #[.int .i64 0, .bool false, .bool false, .int .i64 0, .int .i64 0, .int .i64 0, .int .i64 0, .int .i64 0, .int .i64 0, .string ⟨#[]⟩] 25 (0, 0))) from (below_one w _).alloc (by simp) _)
  dsimp only [Mg.arr, Mg.zero]
  go_enter Tryd.func12, Tryd.ntmps12
  go_wp2_with (first
    | (go_at_call 26; (first | (with_reducible refine (A0.out _).mono ?_) | (with_reducible refine (A1.out _).mono ?_) | (with_reducible refine (A2.out _).mono ?_) | (with_reducible refine (A3.out _).mono ?_) | (with_reducible refine (A4.out _).mono ?_) | (with_reducible refine (A5.out _).mono ?_) | (with_reducible refine (A6.out _).mono ?_) | (with_reducible refine (A7.out _).mono ?_) | (with_reducible refine (A8.out _).mono ?_) | (with_reducible refine (A9.out _).mono ?_) | (with_reducible refine (A10.out _).mono ?_) | (with_reducible refine (A11.out _).mono ?_) | (with_reducible refine (A12.out _).mono ?_) | (with_reducible refine (A13.out _).mono ?_)); rintro e w3 ⟨rfl, b3⟩; (first | (have V4 := Lib.hid (VC.below V4.out b3); have cc := V4.out.b.msg.cell (j := 8) rfl; have ff := V4.out.b.msg.free 8; have cc3 := V4.out.b.msg.cell (j := 3) rfl; have ff3 := V4.out.b.msg.free 3; have cc9 := V4.out.b.msg.cell (j := 9) rfl; have ff9 := V4.out.b.msg.free 9) | (have V3 := Lib.hid (VB.below (V3.out.set 2 _) b3); have cc := V3.out.msg.cell (j := 8) rfl; have ff := V3.out.msg.free 8; have cc9 := V3.out.msg.cell (j := 9) rfl; have ff9 := V3.out.msg.free 9) | (have V3 := Lib.hid (VB.below V3.out b3); have cc := V3.out.msg.cell (j := 8) rfl; have ff := V3.out.msg.free 8; have cc2 := V3.out.msg.cell (j := 2) rfl; have ff2 := V3.out.msg.free 2) | (have V := Lib.hid (VA.below V.out b3))); clear b3)
    | (go_at_call 19; go_must (refine (HO.out _).mono ?_); rintro e w3 ⟨rfl, b3⟩; (first | (have V4 := Lib.hid (VC.below V4.out b3); have cc := V4.out.b.msg.cell (j := 8) rfl; have ff := V4.out.b.msg.free 8; have cc3 := V4.out.b.msg.cell (j := 3) rfl; have ff3 := V4.out.b.msg.free 3; have cc9 := V4.out.b.msg.cell (j := 9) rfl; have ff9 := V4.out.b.msg.free 9) | (have V3 := Lib.hid (VB.below (V3.out.set 2 _) b3); have cc := V3.out.msg.cell (j := 8) rfl; have ff := V3.out.msg.free 8; have cc9 := V3.out.msg.cell (j := 9) rfl; have ff9 := V3.out.msg.free 9) | (have V3 := Lib.hid (VB.below V3.out b3); have cc := V3.out.msg.cell (j := 8) rfl; have ff := V3.out.msg.free 8; have cc2 := V3.out.msg.cell (j := 2) rfl; have ff2 := V3.out.msg.free 2) | (have V := Lib.hid (VA.below V.out b3))); clear b3)
    | (go_at_call 8; go_must (refine (HC.out _).mono ?_); rintro e w3 ⟨rfl, b3⟩; have V3 := Lib.hid (VB.below ((V3.out.set 8 _).set 9 _) b3); clear b3)
    | ((with_reducible show wpList _ _ _ ({ dst := _, op := .build 25 #[], type := _, pos := _, after := _, guard := _ } :: _) _ _); refine wpList_build_as rfl 25 _ rfl #[.int .i64 0, .bool false, .bool false, .int .i64 0, .int .i64 0, .int .i64 0, .int .i64 0, .int .i64 0, .int .i64 0, .string ⟨#[]⟩] mzero_built ?_)
    | ((with_reducible show wpList _ _ _ ({ dst := _, op := .build 25 _, type := _, pos := _, after := _, guard := _ } :: _) _ _); refine wpList_build_as rfl 25 _ rfl #[.int .i64 a0, .bool false, .bool false, .int .i64 0, .int .i64 0, .int .i64 0, .int .i64 0, .int .i64 0, .int .i64 0, .string ⟨#[]⟩] (mnew_built _ _) ?_)
    | ((with_reducible show wpList _ _ _ ({ dst := _, op := .build 23 _, type := _, pos := _, after := _, guard := _ } :: _) _ _); refine wpList_build_as rfl 23 _ rfl #[.int .i64 a8, .int .i64 a9, .int .i64 a10, .int .i64 a11] (cred_built _ _ _ _) ?_)
    | ((with_reducible show wpList _ _ _ ({ dst := _, op := .store _ (.tmp 4) _, type := _, pos := _, after := _, guard := _ } :: _) _ _); refine wpList_store_st rfl 25 _ _ rfl (w.heap.size + 1) #[.int .i64 0, .bool false, .bool false, .int .i64 0, .int .i64 0, .int .i64 0, .int .i64 0, .int .i64 0, .int .i64 0, .string ⟨#[]⟩] rfl rfl _ K0.out (by kernel_rfl) rfl (by kernel_rfl) ?_; intro wz hz hst; have V := Lib.hid (show VA w wz from ⟨by rw [hz]; exact A00.out.setRow_other (by omega) _, hst, by rw [hz]; exact below_row L0.out (by omega) _⟩); clear hz hst)
    | ((with_reducible show wpList _ _ _ ({ dst := _, op := .store _ (.tmp 6) _, type := _, pos := _, after := _, guard := _ } :: _) _ _); refine wpList_store_st rfl 25 _ _ rfl _ #[.int .i64 a0, .bool false, .bool false, .int .i64 0, .int .i64 0, .int .i64 0, .int .i64 0, .int .i64 0, .int .i64 0, .string ⟨#[]⟩] rfl rfl _ (St.new w3 25 _) (by kernel_rfl) rfl (by kernel_rfl) ?_; rw [alloc_row]; intro wz hz hst; subst hz; have V3 := Lib.hid (V.out.toB #[.int .i64 a0, .bool false, .bool false, .int .i64 0, .int .i64 0, .int .i64 0, .int .i64 0, .int .i64 0, .int .i64 0, .string ⟨#[]⟩]); clear hst)
    | ((with_reducible show wpList _ _ _ ({ dst := _, op := .store _ (.tmp 7) _, type := _, pos := _, after := _, guard := _ } :: _) _ _); refine wpList_store_st rfl 23 _ _ rfl _ #[.int .i64 a8, .int .i64 a9, .int .i64 a10, .int .i64 a11] rfl rfl _ (St.new w3 23 _) (by kernel_rfl) rfl (by kernel_rfl) ?_; rw [alloc_row]; intro wz hz hst; subst hz; have V4 := Lib.hid (V3.out.toC #[.int .i64 a8, .int .i64 a9, .int .i64 a10, .int .i64 a11]); clear hst)
    | ((with_reducible show wpList _ _ _ ({ dst := _, op := .load _ (.tmp 4), type := _, pos := _, after := _, guard := _ } :: _) _ _); refine wpList_load_st rfl 25 _ rfl _ rfl 25 #[.int .i64 0, .bool false, .bool false, .int .i64 0, .int .i64 0, .int .i64 0, .int .i64 0, .int .i64 0, .int .i64 0, .string ⟨#[]⟩] (by first | exact V3.out.a.non | exact V.out.non) _ Tryd.underlying25 rfl (by kernel_rfl) ?_)
    | ((with_reducible show wpList _ _ _ ({ dst := _, op := .load _ (.tmp 7), type := _, pos := _, after := _, guard := _ } :: _) _ _); refine wpList_load_stg (by rfl) 23 _ rfl _ rfl 23 #[.int .i64 a8, .int .i64 a9, .int .i64 a10, .int .i64 a11] V4.out.own _ Tryd.underlying23 rfl (by kernel_rfl) ?_)
    | ((with_reducible show wpList _ _ _ ({ dst := _, op := .load _ (.tmp 6), type := _, pos := _, after := _, guard := _ } :: _) _ _); refine wpList_load_st rfl 25 _ rfl _ rfl 25 #[.int .i64 a0, .bool false, .bool false, .int .i64 0, .int .i64 0, .int .i64 0, .int .i64 0, .int .i64 0, .int .i64 2, .string ⟨#[]⟩] (by exact (V3.out.set 8 _).msg) _ Tryd.underlying25 rfl (by kernel_rfl) ?_)
    | ((with_reducible show wpList _ _ _ ({ dst := _, op := .store _ (.tmp 2) _, type := _, pos := _, after := _, guard := _ } :: _) _ _); refine wpList_store_st rfl 25 _ _ rfl w.heap.size #[.int .i64 a0, .bool false, .bool false, .int .i64 0, .int .i64 0, .int .i64 0, .int .i64 0, .int .i64 0, .int .i64 2, .string ⟨#[]⟩] rfl rfl _ ((V3.out.set 8 _).a.res) (by kernel_rfl) rfl (by kernel_rfl) ?_; intro wz hz hst; have HQ := Lib.hid hz; have HR := Lib.hid hst; clear hz hst))
  refine ret_cell2 (r := 2) (t := 3) (k := w.heap.size) (T := 25) Tryd.results12 rfl rfl HR.out Tryd.underlying25 rfl (by kernel_rfl) rfl ?_
  have e0 := HQ.out
  subst e0
  exact ⟨rfl, below_row (V3.out.set 8 _).a.low (Nat.le_refl _) _⟩

set_option maxRecDepth 100000 in
set_option maxHeartbeats 4000000 in
theorem mfGet_c7 (s : ByteArray) (w : World) (hs : s.size ≤ 2048)(h1 : atW s 1 = 0) (h2 : atW s 2 = 2) (h3 : atW s 3 = 100003) (h4 : atW s 4 = 3) (g13 : atW s 13 < 0) : Calls Tryd.prog 12 #[.string s] w fun e w' => e = .returned (.tuple #[.agg (mgGet s).1.arr, .int .i64 (mgGet s).2]) ∧ Below w.heap.size w w' := by
  have e : mgGet s = (Mg.zero, 14) := by
    unfold mgGet
    rw [if_neg (by omega), if_neg (by omega), if_neg (by omega), if_neg (by omega), if_neg (by omega), if_neg (by omega), if_neg (by omega), if_pos g13]
  rw [e]
  clear e
  have A0 : ∀ W, Calls Tryd.prog 26 #[.string s, .int .i64 0] W fun e w' => e = .returned (.int .i64 (atW s 0)) ∧ Below W.heap.size W w' := fun W => mfat_any s 0 W (by omega) (by decide)
  have A1 : ∀ W, Calls Tryd.prog 26 #[.string s, .int .i64 1] W fun e w' => e = .returned (.int .i64 (atW s 1)) ∧ Below W.heap.size W w' := fun W => mfat_any s 1 W (by omega) (by decide)
  have A2 : ∀ W, Calls Tryd.prog 26 #[.string s, .int .i64 2] W fun e w' => e = .returned (.int .i64 (atW s 2)) ∧ Below W.heap.size W w' := fun W => mfat_any s 2 W (by omega) (by decide)
  have A3 : ∀ W, Calls Tryd.prog 26 #[.string s, .int .i64 3] W fun e w' => e = .returned (.int .i64 (atW s 3)) ∧ Below W.heap.size W w' := fun W => mfat_any s 3 W (by omega) (by decide)
  have A4 : ∀ W, Calls Tryd.prog 26 #[.string s, .int .i64 4] W fun e w' => e = .returned (.int .i64 (atW s 4)) ∧ Below W.heap.size W w' := fun W => mfat_any s 4 W (by omega) (by decide)
  have A5 : ∀ W, Calls Tryd.prog 26 #[.string s, .int .i64 5] W fun e w' => e = .returned (.int .i64 (atW s 5)) ∧ Below W.heap.size W w' := fun W => mfat_any s 5 W (by omega) (by decide)
  have A6 : ∀ W, Calls Tryd.prog 26 #[.string s, .int .i64 6] W fun e w' => e = .returned (.int .i64 (atW s 6)) ∧ Below W.heap.size W w' := fun W => mfat_any s 6 W (by omega) (by decide)
  have A7 : ∀ W, Calls Tryd.prog 26 #[.string s, .int .i64 7] W fun e w' => e = .returned (.int .i64 (atW s 7)) ∧ Below W.heap.size W w' := fun W => mfat_any s 7 W (by omega) (by decide)
  have A8 : ∀ W, Calls Tryd.prog 26 #[.string s, .int .i64 8] W fun e w' => e = .returned (.int .i64 (atW s 8)) ∧ Below W.heap.size W w' := fun W => mfat_any s 8 W (by omega) (by decide)
  have A9 : ∀ W, Calls Tryd.prog 26 #[.string s, .int .i64 9] W fun e w' => e = .returned (.int .i64 (atW s 9)) ∧ Below W.heap.size W w' := fun W => mfat_any s 9 W (by omega) (by decide)
  have A10 : ∀ W, Calls Tryd.prog 26 #[.string s, .int .i64 10] W fun e w' => e = .returned (.int .i64 (atW s 10)) ∧ Below W.heap.size W w' := fun W => mfat_any s 10 W (by omega) (by decide)
  have A11 : ∀ W, Calls Tryd.prog 26 #[.string s, .int .i64 11] W fun e w' => e = .returned (.int .i64 (atW s 11)) ∧ Below W.heap.size W w' := fun W => mfat_any s 11 W (by omega) (by decide)
  have A12 : ∀ W, Calls Tryd.prog 26 #[.string s, .int .i64 12] W fun e w' => e = .returned (.int .i64 (atW s 12)) ∧ Below W.heap.size W w' := fun W => mfat_any s 12 W (by omega) (by decide)
  have A13 : ∀ W, Calls Tryd.prog 26 #[.string s, .int .i64 13] W fun e w' => e = .returned (.int .i64 (atW s 13)) ∧ Below W.heap.size W w' := fun W => mfat_any s 13 W (by omega) (by decide)
  obtain ⟨a0, ha0⟩ : ∃ a, a = atW s 0 := ⟨_, rfl⟩
  rw [← ha0] at A0
  rw [h1] at A1
  rw [h2] at A2
  rw [h3] at A3
  rw [h4] at A4
  obtain ⟨a5, ha5⟩ : ∃ a, a = atW s 5 := ⟨_, rfl⟩
  rw [← ha5] at A5
  obtain ⟨a6, ha6⟩ : ∃ a, a = atW s 6 := ⟨_, rfl⟩
  rw [← ha6] at A6
  obtain ⟨a7, ha7⟩ : ∃ a, a = atW s 7 := ⟨_, rfl⟩
  rw [← ha7] at A7
  obtain ⟨a8, ha8⟩ : ∃ a, a = atW s 8 := ⟨_, rfl⟩
  rw [← ha8] at A8
  obtain ⟨a9, ha9⟩ : ∃ a, a = atW s 9 := ⟨_, rfl⟩
  rw [← ha9] at A9
  obtain ⟨a10, ha10⟩ : ∃ a, a = atW s 10 := ⟨_, rfl⟩
  rw [← ha10] at A10
  obtain ⟨a11, ha11⟩ : ∃ a, a = atW s 11 := ⟨_, rfl⟩
  rw [← ha11] at A11
  obtain ⟨a12, ha12⟩ : ∃ a, a = atW s 12 := ⟨_, rfl⟩
  rw [← ha12] at A12
  obtain ⟨a13, ha13⟩ : ∃ a, a = atW s 13 := ⟨_, rfl⟩
  rw [← ha13] at A13
  rw [← ha13] at g13
  have d0 : decide ((s.size : Int) > 2048) = false := decide_eq_false (by omega)
  have d13 : decide (a13 < 0) = true := decide_eq_true g13
  replace A0 := Lib.hid A0
  replace A1 := Lib.hid A1
  replace A2 := Lib.hid A2
  replace A3 := Lib.hid A3
  replace A4 := Lib.hid A4
  replace A5 := Lib.hid A5
  replace A6 := Lib.hid A6
  replace A7 := Lib.hid A7
  replace A8 := Lib.hid A8
  replace A9 := Lib.hid A9
  replace A10 := Lib.hid A10
  replace A11 := Lib.hid A11
  replace A12 := Lib.hid A12
  replace A13 := Lib.hid A13
  clear ha0 ha5 ha6 ha7 ha8 ha9 ha10 ha11 ha12 ha13
  clear hs g13
  have A00 := Lib.hid (show St 25 w.heap.size #[.int .i64 0, .bool false, .bool false, .int .i64 0, .int .i64 0, .int .i64 0, .int .i64 0, .int .i64 0, .int .i64 0, .string ⟨#[]⟩] ((w.alloc (.cells #[.int .i64 0, .bool false, .bool false, .int .i64 0, .int .i64 0, .int .i64 0, .int .i64 0, .int .i64 0, .int .i64 0, .string ⟨#[]⟩] 25 (0, 0))).alloc (.cells #[.int .i64 0, .bool false, .bool false, .int .i64 0, .int .i64 0, .int .i64 0, .int .i64 0, .int .i64 0, .int .i64 0, .string ⟨#[]⟩] 25 (0, 0))) from (St.new w 25 _).alloc _)
  have K0 := Lib.hid (show St 25 (w.heap.size + 1) #[.int .i64 0, .bool false, .bool false, .int .i64 0, .int .i64 0, .int .i64 0, .int .i64 0, .int .i64 0, .int .i64 0, .string ⟨#[]⟩] ((w.alloc (.cells #[.int .i64 0, .bool false, .bool false, .int .i64 0, .int .i64 0, .int .i64 0, .int .i64 0, .int .i64 0, .int .i64 0, .string ⟨#[]⟩] 25 (0, 0))).alloc (.cells #[.int .i64 0, .bool false, .bool false, .int .i64 0, .int .i64 0, .int .i64 0, .int .i64 0, .int .i64 0, .int .i64 0, .string ⟨#[]⟩] 25 (0, 0))) from by have := St.new (w.alloc (.cells #[.int .i64 0, .bool false, .bool false, .int .i64 0, .int .i64 0, .int .i64 0, .int .i64 0, .int .i64 0, .int .i64 0, .string ⟨#[]⟩] 25 (0, 0))) 25 #[.int .i64 0, .bool false, .bool false, .int .i64 0, .int .i64 0, .int .i64 0, .int .i64 0, .int .i64 0, .int .i64 0, .string ⟨#[]⟩]; simpa using this)
  have L0 := Lib.hid (show Below w.heap.size w ((w.alloc (.cells #[.int .i64 0, .bool false, .bool false, .int .i64 0, .int .i64 0, .int .i64 0, .int .i64 0, .int .i64 0, .int .i64 0, .string ⟨#[]⟩] 25 (0, 0))).alloc (.cells #[.int .i64 0, .bool false, .bool false, .int .i64 0, .int .i64 0, .int .i64 0, .int .i64 0, .int .i64 0, .int .i64 0, .string ⟨#[]⟩] 25 (0, 0))) from (below_one w _).alloc (by simp) _)
  dsimp only [Mg.arr, Mg.zero]
  go_enter Tryd.func12, Tryd.ntmps12
  go_wp2_with (first
    | (go_at_call 26; (first | (with_reducible refine (A0.out _).mono ?_) | (with_reducible refine (A1.out _).mono ?_) | (with_reducible refine (A2.out _).mono ?_) | (with_reducible refine (A3.out _).mono ?_) | (with_reducible refine (A4.out _).mono ?_) | (with_reducible refine (A5.out _).mono ?_) | (with_reducible refine (A6.out _).mono ?_) | (with_reducible refine (A7.out _).mono ?_) | (with_reducible refine (A8.out _).mono ?_) | (with_reducible refine (A9.out _).mono ?_) | (with_reducible refine (A10.out _).mono ?_) | (with_reducible refine (A11.out _).mono ?_) | (with_reducible refine (A12.out _).mono ?_) | (with_reducible refine (A13.out _).mono ?_)); rintro e w3 ⟨rfl, b3⟩; (first | (have V4 := Lib.hid (VC.below V4.out b3); have cc := V4.out.b.msg.cell (j := 8) rfl; have ff := V4.out.b.msg.free 8; have cc3 := V4.out.b.msg.cell (j := 3) rfl; have ff3 := V4.out.b.msg.free 3; have cc9 := V4.out.b.msg.cell (j := 9) rfl; have ff9 := V4.out.b.msg.free 9) | (have V3 := Lib.hid (VB.below (V3.out.set 2 _) b3); have cc := V3.out.msg.cell (j := 8) rfl; have ff := V3.out.msg.free 8; have cc9 := V3.out.msg.cell (j := 9) rfl; have ff9 := V3.out.msg.free 9) | (have V3 := Lib.hid (VB.below V3.out b3); have cc := V3.out.msg.cell (j := 8) rfl; have ff := V3.out.msg.free 8; have cc2 := V3.out.msg.cell (j := 2) rfl; have ff2 := V3.out.msg.free 2) | (have V := Lib.hid (VA.below V.out b3))); clear b3)
    | (go_at_call 19; go_must (refine (HO.out _).mono ?_); rintro e w3 ⟨rfl, b3⟩; (first | (have V4 := Lib.hid (VC.below V4.out b3); have cc := V4.out.b.msg.cell (j := 8) rfl; have ff := V4.out.b.msg.free 8; have cc3 := V4.out.b.msg.cell (j := 3) rfl; have ff3 := V4.out.b.msg.free 3; have cc9 := V4.out.b.msg.cell (j := 9) rfl; have ff9 := V4.out.b.msg.free 9) | (have V3 := Lib.hid (VB.below (V3.out.set 2 _) b3); have cc := V3.out.msg.cell (j := 8) rfl; have ff := V3.out.msg.free 8; have cc9 := V3.out.msg.cell (j := 9) rfl; have ff9 := V3.out.msg.free 9) | (have V3 := Lib.hid (VB.below V3.out b3); have cc := V3.out.msg.cell (j := 8) rfl; have ff := V3.out.msg.free 8; have cc2 := V3.out.msg.cell (j := 2) rfl; have ff2 := V3.out.msg.free 2) | (have V := Lib.hid (VA.below V.out b3))); clear b3)
    | (go_at_call 8; go_must (refine (HC.out _).mono ?_); rintro e w3 ⟨rfl, b3⟩; have V3 := Lib.hid (VB.below ((V3.out.set 8 _).set 9 _) b3); clear b3)
    | ((with_reducible show wpList _ _ _ ({ dst := _, op := .build 25 #[], type := _, pos := _, after := _, guard := _ } :: _) _ _); refine wpList_build_as rfl 25 _ rfl #[.int .i64 0, .bool false, .bool false, .int .i64 0, .int .i64 0, .int .i64 0, .int .i64 0, .int .i64 0, .int .i64 0, .string ⟨#[]⟩] mzero_built ?_)
    | ((with_reducible show wpList _ _ _ ({ dst := _, op := .build 25 _, type := _, pos := _, after := _, guard := _ } :: _) _ _); refine wpList_build_as rfl 25 _ rfl #[.int .i64 a0, .bool false, .bool false, .int .i64 0, .int .i64 0, .int .i64 0, .int .i64 0, .int .i64 0, .int .i64 0, .string ⟨#[]⟩] (mnew_built _ _) ?_)
    | ((with_reducible show wpList _ _ _ ({ dst := _, op := .build 23 _, type := _, pos := _, after := _, guard := _ } :: _) _ _); refine wpList_build_as rfl 23 _ rfl #[.int .i64 a8, .int .i64 a9, .int .i64 a10, .int .i64 a11] (cred_built _ _ _ _) ?_)
    | ((with_reducible show wpList _ _ _ ({ dst := _, op := .store _ (.tmp 4) _, type := _, pos := _, after := _, guard := _ } :: _) _ _); refine wpList_store_st rfl 25 _ _ rfl (w.heap.size + 1) #[.int .i64 0, .bool false, .bool false, .int .i64 0, .int .i64 0, .int .i64 0, .int .i64 0, .int .i64 0, .int .i64 0, .string ⟨#[]⟩] rfl rfl _ K0.out (by kernel_rfl) rfl (by kernel_rfl) ?_; intro wz hz hst; have V := Lib.hid (show VA w wz from ⟨by rw [hz]; exact A00.out.setRow_other (by omega) _, hst, by rw [hz]; exact below_row L0.out (by omega) _⟩); clear hz hst)
    | ((with_reducible show wpList _ _ _ ({ dst := _, op := .store _ (.tmp 6) _, type := _, pos := _, after := _, guard := _ } :: _) _ _); refine wpList_store_st rfl 25 _ _ rfl _ #[.int .i64 a0, .bool false, .bool false, .int .i64 0, .int .i64 0, .int .i64 0, .int .i64 0, .int .i64 0, .int .i64 0, .string ⟨#[]⟩] rfl rfl _ (St.new w3 25 _) (by kernel_rfl) rfl (by kernel_rfl) ?_; rw [alloc_row]; intro wz hz hst; subst hz; have V3 := Lib.hid (V.out.toB #[.int .i64 a0, .bool false, .bool false, .int .i64 0, .int .i64 0, .int .i64 0, .int .i64 0, .int .i64 0, .int .i64 0, .string ⟨#[]⟩]); clear hst)
    | ((with_reducible show wpList _ _ _ ({ dst := _, op := .store _ (.tmp 7) _, type := _, pos := _, after := _, guard := _ } :: _) _ _); refine wpList_store_st rfl 23 _ _ rfl _ #[.int .i64 a8, .int .i64 a9, .int .i64 a10, .int .i64 a11] rfl rfl _ (St.new w3 23 _) (by kernel_rfl) rfl (by kernel_rfl) ?_; rw [alloc_row]; intro wz hz hst; subst hz; have V4 := Lib.hid (V3.out.toC #[.int .i64 a8, .int .i64 a9, .int .i64 a10, .int .i64 a11]); clear hst)
    | ((with_reducible show wpList _ _ _ ({ dst := _, op := .load _ (.tmp 4), type := _, pos := _, after := _, guard := _ } :: _) _ _); refine wpList_load_st rfl 25 _ rfl _ rfl 25 #[.int .i64 0, .bool false, .bool false, .int .i64 0, .int .i64 0, .int .i64 0, .int .i64 0, .int .i64 0, .int .i64 0, .string ⟨#[]⟩] (by first | exact V3.out.a.non | exact V.out.non) _ Tryd.underlying25 rfl (by kernel_rfl) ?_)
    | ((with_reducible show wpList _ _ _ ({ dst := _, op := .store _ (.tmp 2) _, type := _, pos := _, after := _, guard := _ } :: _) _ _); refine wpList_store_st rfl 25 _ _ rfl w.heap.size #[.int .i64 0, .bool false, .bool false, .int .i64 0, .int .i64 0, .int .i64 0, .int .i64 0, .int .i64 0, .int .i64 0, .string ⟨#[]⟩] rfl rfl _ (V3.out.a.res) (by kernel_rfl) rfl (by kernel_rfl) ?_; intro wz hz hst; have HQ := Lib.hid hz; have HR := Lib.hid hst; clear hz hst))
  refine ret_cell2 (r := 2) (t := 3) (k := w.heap.size) (T := 25) Tryd.results12 rfl rfl HR.out Tryd.underlying25 rfl (by kernel_rfl) rfl ?_
  have e0 := HQ.out
  subst e0
  exact ⟨rfl, below_row V3.out.a.low (Nat.le_refl _) _⟩

set_option maxRecDepth 100000 in
set_option maxHeartbeats 4000000 in
theorem mfGet_c8 (s : ByteArray) (w : World) (hs : s.size ≤ 2048)(h1 : atW s 1 = 0) (h2 : atW s 2 = 2) (h3 : atW s 3 = 100003) (h4 : atW s 4 = 3) (g13 : 0 ≤ atW s 13) (g5 : 21 < atW s 5) : Calls Tryd.prog 12 #[.string s] w fun e w' => e = .returned (.tuple #[.agg (mgGet s).1.arr, .int .i64 (mgGet s).2]) ∧ Below w.heap.size w w' := by
  have e : mgGet s = ({ Mg.zero with xid := atW s 0, accept := 3 }, 0) := by
    unfold mgGet
    rw [if_neg (by omega), if_neg (by omega), if_neg (by omega), if_neg (by omega), if_neg (by omega), if_neg (by omega), if_neg (by omega), if_neg (by omega), if_pos g5]
  rw [e]
  clear e
  have A0 : ∀ W, Calls Tryd.prog 26 #[.string s, .int .i64 0] W fun e w' => e = .returned (.int .i64 (atW s 0)) ∧ Below W.heap.size W w' := fun W => mfat_any s 0 W (by omega) (by decide)
  have A1 : ∀ W, Calls Tryd.prog 26 #[.string s, .int .i64 1] W fun e w' => e = .returned (.int .i64 (atW s 1)) ∧ Below W.heap.size W w' := fun W => mfat_any s 1 W (by omega) (by decide)
  have A2 : ∀ W, Calls Tryd.prog 26 #[.string s, .int .i64 2] W fun e w' => e = .returned (.int .i64 (atW s 2)) ∧ Below W.heap.size W w' := fun W => mfat_any s 2 W (by omega) (by decide)
  have A3 : ∀ W, Calls Tryd.prog 26 #[.string s, .int .i64 3] W fun e w' => e = .returned (.int .i64 (atW s 3)) ∧ Below W.heap.size W w' := fun W => mfat_any s 3 W (by omega) (by decide)
  have A4 : ∀ W, Calls Tryd.prog 26 #[.string s, .int .i64 4] W fun e w' => e = .returned (.int .i64 (atW s 4)) ∧ Below W.heap.size W w' := fun W => mfat_any s 4 W (by omega) (by decide)
  have A5 : ∀ W, Calls Tryd.prog 26 #[.string s, .int .i64 5] W fun e w' => e = .returned (.int .i64 (atW s 5)) ∧ Below W.heap.size W w' := fun W => mfat_any s 5 W (by omega) (by decide)
  have A6 : ∀ W, Calls Tryd.prog 26 #[.string s, .int .i64 6] W fun e w' => e = .returned (.int .i64 (atW s 6)) ∧ Below W.heap.size W w' := fun W => mfat_any s 6 W (by omega) (by decide)
  have A7 : ∀ W, Calls Tryd.prog 26 #[.string s, .int .i64 7] W fun e w' => e = .returned (.int .i64 (atW s 7)) ∧ Below W.heap.size W w' := fun W => mfat_any s 7 W (by omega) (by decide)
  have A8 : ∀ W, Calls Tryd.prog 26 #[.string s, .int .i64 8] W fun e w' => e = .returned (.int .i64 (atW s 8)) ∧ Below W.heap.size W w' := fun W => mfat_any s 8 W (by omega) (by decide)
  have A9 : ∀ W, Calls Tryd.prog 26 #[.string s, .int .i64 9] W fun e w' => e = .returned (.int .i64 (atW s 9)) ∧ Below W.heap.size W w' := fun W => mfat_any s 9 W (by omega) (by decide)
  have A10 : ∀ W, Calls Tryd.prog 26 #[.string s, .int .i64 10] W fun e w' => e = .returned (.int .i64 (atW s 10)) ∧ Below W.heap.size W w' := fun W => mfat_any s 10 W (by omega) (by decide)
  have A11 : ∀ W, Calls Tryd.prog 26 #[.string s, .int .i64 11] W fun e w' => e = .returned (.int .i64 (atW s 11)) ∧ Below W.heap.size W w' := fun W => mfat_any s 11 W (by omega) (by decide)
  have A12 : ∀ W, Calls Tryd.prog 26 #[.string s, .int .i64 12] W fun e w' => e = .returned (.int .i64 (atW s 12)) ∧ Below W.heap.size W w' := fun W => mfat_any s 12 W (by omega) (by decide)
  have A13 : ∀ W, Calls Tryd.prog 26 #[.string s, .int .i64 13] W fun e w' => e = .returned (.int .i64 (atW s 13)) ∧ Below W.heap.size W w' := fun W => mfat_any s 13 W (by omega) (by decide)
  obtain ⟨a0, ha0⟩ : ∃ a, a = atW s 0 := ⟨_, rfl⟩
  rw [← ha0] at A0
  rw [h1] at A1
  rw [h2] at A2
  rw [h3] at A3
  rw [h4] at A4
  obtain ⟨a5, ha5⟩ : ∃ a, a = atW s 5 := ⟨_, rfl⟩
  rw [← ha5] at A5
  obtain ⟨a6, ha6⟩ : ∃ a, a = atW s 6 := ⟨_, rfl⟩
  rw [← ha6] at A6
  obtain ⟨a7, ha7⟩ : ∃ a, a = atW s 7 := ⟨_, rfl⟩
  rw [← ha7] at A7
  obtain ⟨a8, ha8⟩ : ∃ a, a = atW s 8 := ⟨_, rfl⟩
  rw [← ha8] at A8
  obtain ⟨a9, ha9⟩ : ∃ a, a = atW s 9 := ⟨_, rfl⟩
  rw [← ha9] at A9
  obtain ⟨a10, ha10⟩ : ∃ a, a = atW s 10 := ⟨_, rfl⟩
  rw [← ha10] at A10
  obtain ⟨a11, ha11⟩ : ∃ a, a = atW s 11 := ⟨_, rfl⟩
  rw [← ha11] at A11
  obtain ⟨a12, ha12⟩ : ∃ a, a = atW s 12 := ⟨_, rfl⟩
  rw [← ha12] at A12
  obtain ⟨a13, ha13⟩ : ∃ a, a = atW s 13 := ⟨_, rfl⟩
  rw [← ha13] at A13
  rw [← ha13] at g13
  rw [← ha5] at g5
  have d0 : decide ((s.size : Int) > 2048) = false := decide_eq_false (by omega)
  have d13 : decide (a13 < 0) = false := decide_eq_false (by omega)
  have d5 : decide (a5 > 21) = true := decide_eq_true g5
  rw [← ha0]
  replace A0 := Lib.hid A0
  replace A1 := Lib.hid A1
  replace A2 := Lib.hid A2
  replace A3 := Lib.hid A3
  replace A4 := Lib.hid A4
  replace A5 := Lib.hid A5
  replace A6 := Lib.hid A6
  replace A7 := Lib.hid A7
  replace A8 := Lib.hid A8
  replace A9 := Lib.hid A9
  replace A10 := Lib.hid A10
  replace A11 := Lib.hid A11
  replace A12 := Lib.hid A12
  replace A13 := Lib.hid A13
  clear ha0 ha5 ha6 ha7 ha8 ha9 ha10 ha11 ha12 ha13
  clear hs g13 g5
  have A00 := Lib.hid (show St 25 w.heap.size #[.int .i64 0, .bool false, .bool false, .int .i64 0, .int .i64 0, .int .i64 0, .int .i64 0, .int .i64 0, .int .i64 0, .string ⟨#[]⟩] ((w.alloc (.cells #[.int .i64 0, .bool false, .bool false, .int .i64 0, .int .i64 0, .int .i64 0, .int .i64 0, .int .i64 0, .int .i64 0, .string ⟨#[]⟩] 25 (0, 0))).alloc (.cells #[.int .i64 0, .bool false, .bool false, .int .i64 0, .int .i64 0, .int .i64 0, .int .i64 0, .int .i64 0, .int .i64 0, .string ⟨#[]⟩] 25 (0, 0))) from (St.new w 25 _).alloc _)
  have K0 := Lib.hid (show St 25 (w.heap.size + 1) #[.int .i64 0, .bool false, .bool false, .int .i64 0, .int .i64 0, .int .i64 0, .int .i64 0, .int .i64 0, .int .i64 0, .string ⟨#[]⟩] ((w.alloc (.cells #[.int .i64 0, .bool false, .bool false, .int .i64 0, .int .i64 0, .int .i64 0, .int .i64 0, .int .i64 0, .int .i64 0, .string ⟨#[]⟩] 25 (0, 0))).alloc (.cells #[.int .i64 0, .bool false, .bool false, .int .i64 0, .int .i64 0, .int .i64 0, .int .i64 0, .int .i64 0, .int .i64 0, .string ⟨#[]⟩] 25 (0, 0))) from by have := St.new (w.alloc (.cells #[.int .i64 0, .bool false, .bool false, .int .i64 0, .int .i64 0, .int .i64 0, .int .i64 0, .int .i64 0, .int .i64 0, .string ⟨#[]⟩] 25 (0, 0))) 25 #[.int .i64 0, .bool false, .bool false, .int .i64 0, .int .i64 0, .int .i64 0, .int .i64 0, .int .i64 0, .int .i64 0, .string ⟨#[]⟩]; simpa using this)
  have L0 := Lib.hid (show Below w.heap.size w ((w.alloc (.cells #[.int .i64 0, .bool false, .bool false, .int .i64 0, .int .i64 0, .int .i64 0, .int .i64 0, .int .i64 0, .int .i64 0, .string ⟨#[]⟩] 25 (0, 0))).alloc (.cells #[.int .i64 0, .bool false, .bool false, .int .i64 0, .int .i64 0, .int .i64 0, .int .i64 0, .int .i64 0, .int .i64 0, .string ⟨#[]⟩] 25 (0, 0))) from (below_one w _).alloc (by simp) _)
  dsimp only [Mg.arr, Mg.zero]
  go_enter Tryd.func12, Tryd.ntmps12
  go_wp2_with (first
    | (go_at_call 26; (first | (with_reducible refine (A0.out _).mono ?_) | (with_reducible refine (A1.out _).mono ?_) | (with_reducible refine (A2.out _).mono ?_) | (with_reducible refine (A3.out _).mono ?_) | (with_reducible refine (A4.out _).mono ?_) | (with_reducible refine (A5.out _).mono ?_) | (with_reducible refine (A6.out _).mono ?_) | (with_reducible refine (A7.out _).mono ?_) | (with_reducible refine (A8.out _).mono ?_) | (with_reducible refine (A9.out _).mono ?_) | (with_reducible refine (A10.out _).mono ?_) | (with_reducible refine (A11.out _).mono ?_) | (with_reducible refine (A12.out _).mono ?_) | (with_reducible refine (A13.out _).mono ?_)); rintro e w3 ⟨rfl, b3⟩; (first | (have V4 := Lib.hid (VC.below V4.out b3); have cc := V4.out.b.msg.cell (j := 8) rfl; have ff := V4.out.b.msg.free 8; have cc3 := V4.out.b.msg.cell (j := 3) rfl; have ff3 := V4.out.b.msg.free 3; have cc9 := V4.out.b.msg.cell (j := 9) rfl; have ff9 := V4.out.b.msg.free 9) | (have V3 := Lib.hid (VB.below (V3.out.set 2 _) b3); have cc := V3.out.msg.cell (j := 8) rfl; have ff := V3.out.msg.free 8; have cc9 := V3.out.msg.cell (j := 9) rfl; have ff9 := V3.out.msg.free 9) | (have V3 := Lib.hid (VB.below V3.out b3); have cc := V3.out.msg.cell (j := 8) rfl; have ff := V3.out.msg.free 8; have cc2 := V3.out.msg.cell (j := 2) rfl; have ff2 := V3.out.msg.free 2) | (have V := Lib.hid (VA.below V.out b3))); clear b3)
    | (go_at_call 19; go_must (refine (HO.out _).mono ?_); rintro e w3 ⟨rfl, b3⟩; (first | (have V4 := Lib.hid (VC.below V4.out b3); have cc := V4.out.b.msg.cell (j := 8) rfl; have ff := V4.out.b.msg.free 8; have cc3 := V4.out.b.msg.cell (j := 3) rfl; have ff3 := V4.out.b.msg.free 3; have cc9 := V4.out.b.msg.cell (j := 9) rfl; have ff9 := V4.out.b.msg.free 9) | (have V3 := Lib.hid (VB.below (V3.out.set 2 _) b3); have cc := V3.out.msg.cell (j := 8) rfl; have ff := V3.out.msg.free 8; have cc9 := V3.out.msg.cell (j := 9) rfl; have ff9 := V3.out.msg.free 9) | (have V3 := Lib.hid (VB.below V3.out b3); have cc := V3.out.msg.cell (j := 8) rfl; have ff := V3.out.msg.free 8; have cc2 := V3.out.msg.cell (j := 2) rfl; have ff2 := V3.out.msg.free 2) | (have V := Lib.hid (VA.below V.out b3))); clear b3)
    | (go_at_call 8; go_must (refine (HC.out _).mono ?_); rintro e w3 ⟨rfl, b3⟩; have V3 := Lib.hid (VB.below ((V3.out.set 8 _).set 9 _) b3); clear b3)
    | ((with_reducible show wpList _ _ _ ({ dst := _, op := .build 25 #[], type := _, pos := _, after := _, guard := _ } :: _) _ _); refine wpList_build_as rfl 25 _ rfl #[.int .i64 0, .bool false, .bool false, .int .i64 0, .int .i64 0, .int .i64 0, .int .i64 0, .int .i64 0, .int .i64 0, .string ⟨#[]⟩] mzero_built ?_)
    | ((with_reducible show wpList _ _ _ ({ dst := _, op := .build 25 _, type := _, pos := _, after := _, guard := _ } :: _) _ _); refine wpList_build_as rfl 25 _ rfl #[.int .i64 a0, .bool false, .bool false, .int .i64 0, .int .i64 0, .int .i64 0, .int .i64 0, .int .i64 0, .int .i64 0, .string ⟨#[]⟩] (mnew_built _ _) ?_)
    | ((with_reducible show wpList _ _ _ ({ dst := _, op := .build 23 _, type := _, pos := _, after := _, guard := _ } :: _) _ _); refine wpList_build_as rfl 23 _ rfl #[.int .i64 a8, .int .i64 a9, .int .i64 a10, .int .i64 a11] (cred_built _ _ _ _) ?_)
    | ((with_reducible show wpList _ _ _ ({ dst := _, op := .store _ (.tmp 4) _, type := _, pos := _, after := _, guard := _ } :: _) _ _); refine wpList_store_st rfl 25 _ _ rfl (w.heap.size + 1) #[.int .i64 0, .bool false, .bool false, .int .i64 0, .int .i64 0, .int .i64 0, .int .i64 0, .int .i64 0, .int .i64 0, .string ⟨#[]⟩] rfl rfl _ K0.out (by kernel_rfl) rfl (by kernel_rfl) ?_; intro wz hz hst; have V := Lib.hid (show VA w wz from ⟨by rw [hz]; exact A00.out.setRow_other (by omega) _, hst, by rw [hz]; exact below_row L0.out (by omega) _⟩); clear hz hst)
    | ((with_reducible show wpList _ _ _ ({ dst := _, op := .store _ (.tmp 6) _, type := _, pos := _, after := _, guard := _ } :: _) _ _); refine wpList_store_st rfl 25 _ _ rfl _ #[.int .i64 a0, .bool false, .bool false, .int .i64 0, .int .i64 0, .int .i64 0, .int .i64 0, .int .i64 0, .int .i64 0, .string ⟨#[]⟩] rfl rfl _ (St.new w3 25 _) (by kernel_rfl) rfl (by kernel_rfl) ?_; rw [alloc_row]; intro wz hz hst; subst hz; have V3 := Lib.hid (V.out.toB #[.int .i64 a0, .bool false, .bool false, .int .i64 0, .int .i64 0, .int .i64 0, .int .i64 0, .int .i64 0, .int .i64 0, .string ⟨#[]⟩]); clear hst)
    | ((with_reducible show wpList _ _ _ ({ dst := _, op := .store _ (.tmp 7) _, type := _, pos := _, after := _, guard := _ } :: _) _ _); refine wpList_store_st rfl 23 _ _ rfl _ #[.int .i64 a8, .int .i64 a9, .int .i64 a10, .int .i64 a11] rfl rfl _ (St.new w3 23 _) (by kernel_rfl) rfl (by kernel_rfl) ?_; rw [alloc_row]; intro wz hz hst; subst hz; have V4 := Lib.hid (V3.out.toC #[.int .i64 a8, .int .i64 a9, .int .i64 a10, .int .i64 a11]); clear hst)
    | ((with_reducible show wpList _ _ _ ({ dst := _, op := .load _ (.tmp 4), type := _, pos := _, after := _, guard := _ } :: _) _ _); refine wpList_load_st rfl 25 _ rfl _ rfl 25 #[.int .i64 0, .bool false, .bool false, .int .i64 0, .int .i64 0, .int .i64 0, .int .i64 0, .int .i64 0, .int .i64 0, .string ⟨#[]⟩] (by first | exact V3.out.a.non | exact V.out.non) _ Tryd.underlying25 rfl (by kernel_rfl) ?_)
    | ((with_reducible show wpList _ _ _ ({ dst := _, op := .load _ (.tmp 7), type := _, pos := _, after := _, guard := _ } :: _) _ _); refine wpList_load_stg (by rfl) 23 _ rfl _ rfl 23 #[.int .i64 a8, .int .i64 a9, .int .i64 a10, .int .i64 a11] V4.out.own _ Tryd.underlying23 rfl (by kernel_rfl) ?_)
    | ((with_reducible show wpList _ _ _ ({ dst := _, op := .load _ (.tmp 6), type := _, pos := _, after := _, guard := _ } :: _) _ _); refine wpList_load_st rfl 25 _ rfl _ rfl 25 #[.int .i64 a0, .bool false, .bool false, .int .i64 0, .int .i64 0, .int .i64 0, .int .i64 0, .int .i64 0, .int .i64 3, .string ⟨#[]⟩] (by exact (V3.out.set 8 _).msg) _ Tryd.underlying25 rfl (by kernel_rfl) ?_)
    | ((with_reducible show wpList _ _ _ ({ dst := _, op := .store _ (.tmp 2) _, type := _, pos := _, after := _, guard := _ } :: _) _ _); refine wpList_store_st rfl 25 _ _ rfl w.heap.size #[.int .i64 a0, .bool false, .bool false, .int .i64 0, .int .i64 0, .int .i64 0, .int .i64 0, .int .i64 0, .int .i64 3, .string ⟨#[]⟩] rfl rfl _ ((V3.out.set 8 _).a.res) (by kernel_rfl) rfl (by kernel_rfl) ?_; intro wz hz hst; have HQ := Lib.hid hz; have HR := Lib.hid hst; clear hz hst))
  refine ret_cell2 (r := 2) (t := 3) (k := w.heap.size) (T := 25) Tryd.results12 rfl rfl HR.out Tryd.underlying25 rfl (by kernel_rfl) rfl ?_
  have e0 := HQ.out
  subst e0
  exact ⟨rfl, below_row (V3.out.set 8 _).a.low (Nat.le_refl _) _⟩

set_option maxRecDepth 100000 in
set_option maxHeartbeats 4000000 in
theorem mfGet_c9a (s : ByteArray) (w : World) (hs : s.size ≤ 2048)(h1 : atW s 1 = 0) (h2 : atW s 2 = 2) (h3 : atW s 3 = 100003) (h4 : atW s 4 = 3) (g13 : 0 ≤ atW s 13) (g5 : atW s 5 ≤ 21) (g6 : atW s 6 ≠ 1) : Calls Tryd.prog 12 #[.string s] w fun e w' => e = .returned (.tuple #[.agg (mgGet s).1.arr, .int .i64 (mgGet s).2]) ∧ Below w.heap.size w w' := by
  have e : mgGet s = ({ Mg.zero with xid := atW s 0, accept := 4 }, 0) := by
    unfold mgGet
    rw [if_neg (by omega), if_neg (by omega), if_neg (by omega), if_neg (by omega), if_neg (by omega), if_neg (by omega), if_neg (by omega), if_neg (by omega), if_neg (by omega), if_pos (Or.inl g6)]
  rw [e]
  clear e
  have A0 : ∀ W, Calls Tryd.prog 26 #[.string s, .int .i64 0] W fun e w' => e = .returned (.int .i64 (atW s 0)) ∧ Below W.heap.size W w' := fun W => mfat_any s 0 W (by omega) (by decide)
  have A1 : ∀ W, Calls Tryd.prog 26 #[.string s, .int .i64 1] W fun e w' => e = .returned (.int .i64 (atW s 1)) ∧ Below W.heap.size W w' := fun W => mfat_any s 1 W (by omega) (by decide)
  have A2 : ∀ W, Calls Tryd.prog 26 #[.string s, .int .i64 2] W fun e w' => e = .returned (.int .i64 (atW s 2)) ∧ Below W.heap.size W w' := fun W => mfat_any s 2 W (by omega) (by decide)
  have A3 : ∀ W, Calls Tryd.prog 26 #[.string s, .int .i64 3] W fun e w' => e = .returned (.int .i64 (atW s 3)) ∧ Below W.heap.size W w' := fun W => mfat_any s 3 W (by omega) (by decide)
  have A4 : ∀ W, Calls Tryd.prog 26 #[.string s, .int .i64 4] W fun e w' => e = .returned (.int .i64 (atW s 4)) ∧ Below W.heap.size W w' := fun W => mfat_any s 4 W (by omega) (by decide)
  have A5 : ∀ W, Calls Tryd.prog 26 #[.string s, .int .i64 5] W fun e w' => e = .returned (.int .i64 (atW s 5)) ∧ Below W.heap.size W w' := fun W => mfat_any s 5 W (by omega) (by decide)
  have A6 : ∀ W, Calls Tryd.prog 26 #[.string s, .int .i64 6] W fun e w' => e = .returned (.int .i64 (atW s 6)) ∧ Below W.heap.size W w' := fun W => mfat_any s 6 W (by omega) (by decide)
  have A7 : ∀ W, Calls Tryd.prog 26 #[.string s, .int .i64 7] W fun e w' => e = .returned (.int .i64 (atW s 7)) ∧ Below W.heap.size W w' := fun W => mfat_any s 7 W (by omega) (by decide)
  have A8 : ∀ W, Calls Tryd.prog 26 #[.string s, .int .i64 8] W fun e w' => e = .returned (.int .i64 (atW s 8)) ∧ Below W.heap.size W w' := fun W => mfat_any s 8 W (by omega) (by decide)
  have A9 : ∀ W, Calls Tryd.prog 26 #[.string s, .int .i64 9] W fun e w' => e = .returned (.int .i64 (atW s 9)) ∧ Below W.heap.size W w' := fun W => mfat_any s 9 W (by omega) (by decide)
  have A10 : ∀ W, Calls Tryd.prog 26 #[.string s, .int .i64 10] W fun e w' => e = .returned (.int .i64 (atW s 10)) ∧ Below W.heap.size W w' := fun W => mfat_any s 10 W (by omega) (by decide)
  have A11 : ∀ W, Calls Tryd.prog 26 #[.string s, .int .i64 11] W fun e w' => e = .returned (.int .i64 (atW s 11)) ∧ Below W.heap.size W w' := fun W => mfat_any s 11 W (by omega) (by decide)
  have A12 : ∀ W, Calls Tryd.prog 26 #[.string s, .int .i64 12] W fun e w' => e = .returned (.int .i64 (atW s 12)) ∧ Below W.heap.size W w' := fun W => mfat_any s 12 W (by omega) (by decide)
  have A13 : ∀ W, Calls Tryd.prog 26 #[.string s, .int .i64 13] W fun e w' => e = .returned (.int .i64 (atW s 13)) ∧ Below W.heap.size W w' := fun W => mfat_any s 13 W (by omega) (by decide)
  obtain ⟨a0, ha0⟩ : ∃ a, a = atW s 0 := ⟨_, rfl⟩
  rw [← ha0] at A0
  rw [h1] at A1
  rw [h2] at A2
  rw [h3] at A3
  rw [h4] at A4
  obtain ⟨a5, ha5⟩ : ∃ a, a = atW s 5 := ⟨_, rfl⟩
  rw [← ha5] at A5
  obtain ⟨a6, ha6⟩ : ∃ a, a = atW s 6 := ⟨_, rfl⟩
  rw [← ha6] at A6
  obtain ⟨a7, ha7⟩ : ∃ a, a = atW s 7 := ⟨_, rfl⟩
  rw [← ha7] at A7
  obtain ⟨a8, ha8⟩ : ∃ a, a = atW s 8 := ⟨_, rfl⟩
  rw [← ha8] at A8
  obtain ⟨a9, ha9⟩ : ∃ a, a = atW s 9 := ⟨_, rfl⟩
  rw [← ha9] at A9
  obtain ⟨a10, ha10⟩ : ∃ a, a = atW s 10 := ⟨_, rfl⟩
  rw [← ha10] at A10
  obtain ⟨a11, ha11⟩ : ∃ a, a = atW s 11 := ⟨_, rfl⟩
  rw [← ha11] at A11
  obtain ⟨a12, ha12⟩ : ∃ a, a = atW s 12 := ⟨_, rfl⟩
  rw [← ha12] at A12
  obtain ⟨a13, ha13⟩ : ∃ a, a = atW s 13 := ⟨_, rfl⟩
  rw [← ha13] at A13
  rw [← ha13] at g13
  rw [← ha5] at g5
  rw [← ha6] at g6
  have d0 : decide ((s.size : Int) > 2048) = false := decide_eq_false (by omega)
  have d13 : decide (a13 < 0) = false := decide_eq_false (by omega)
  have d5 : decide (a5 > 21) = false := decide_eq_false (by omega)
  have na61 : (a6 == 1) = false := by simpa using g6
  have na62 : (a6 != 1) = true := by simpa using g6
  rw [← ha0]
  replace A0 := Lib.hid A0
  replace A1 := Lib.hid A1
  replace A2 := Lib.hid A2
  replace A3 := Lib.hid A3
  replace A4 := Lib.hid A4
  replace A5 := Lib.hid A5
  replace A6 := Lib.hid A6
  replace A7 := Lib.hid A7
  replace A8 := Lib.hid A8
  replace A9 := Lib.hid A9
  replace A10 := Lib.hid A10
  replace A11 := Lib.hid A11
  replace A12 := Lib.hid A12
  replace A13 := Lib.hid A13
  clear ha0 ha5 ha6 ha7 ha8 ha9 ha10 ha11 ha12 ha13
  clear hs g13 g5 g6
  have A00 := Lib.hid (show St 25 w.heap.size #[.int .i64 0, .bool false, .bool false, .int .i64 0, .int .i64 0, .int .i64 0, .int .i64 0, .int .i64 0, .int .i64 0, .string ⟨#[]⟩] ((w.alloc (.cells #[.int .i64 0, .bool false, .bool false, .int .i64 0, .int .i64 0, .int .i64 0, .int .i64 0, .int .i64 0, .int .i64 0, .string ⟨#[]⟩] 25 (0, 0))).alloc (.cells #[.int .i64 0, .bool false, .bool false, .int .i64 0, .int .i64 0, .int .i64 0, .int .i64 0, .int .i64 0, .int .i64 0, .string ⟨#[]⟩] 25 (0, 0))) from (St.new w 25 _).alloc _)
  have K0 := Lib.hid (show St 25 (w.heap.size + 1) #[.int .i64 0, .bool false, .bool false, .int .i64 0, .int .i64 0, .int .i64 0, .int .i64 0, .int .i64 0, .int .i64 0, .string ⟨#[]⟩] ((w.alloc (.cells #[.int .i64 0, .bool false, .bool false, .int .i64 0, .int .i64 0, .int .i64 0, .int .i64 0, .int .i64 0, .int .i64 0, .string ⟨#[]⟩] 25 (0, 0))).alloc (.cells #[.int .i64 0, .bool false, .bool false, .int .i64 0, .int .i64 0, .int .i64 0, .int .i64 0, .int .i64 0, .int .i64 0, .string ⟨#[]⟩] 25 (0, 0))) from by have := St.new (w.alloc (.cells #[.int .i64 0, .bool false, .bool false, .int .i64 0, .int .i64 0, .int .i64 0, .int .i64 0, .int .i64 0, .int .i64 0, .string ⟨#[]⟩] 25 (0, 0))) 25 #[.int .i64 0, .bool false, .bool false, .int .i64 0, .int .i64 0, .int .i64 0, .int .i64 0, .int .i64 0, .int .i64 0, .string ⟨#[]⟩]; simpa using this)
  have L0 := Lib.hid (show Below w.heap.size w ((w.alloc (.cells #[.int .i64 0, .bool false, .bool false, .int .i64 0, .int .i64 0, .int .i64 0, .int .i64 0, .int .i64 0, .int .i64 0, .string ⟨#[]⟩] 25 (0, 0))).alloc (.cells #[.int .i64 0, .bool false, .bool false, .int .i64 0, .int .i64 0, .int .i64 0, .int .i64 0, .int .i64 0, .int .i64 0, .string ⟨#[]⟩] 25 (0, 0))) from (below_one w _).alloc (by simp) _)
  dsimp only [Mg.arr, Mg.zero]
  go_enter Tryd.func12, Tryd.ntmps12
  go_wp2_with (first
    | (go_at_call 26; (first | (with_reducible refine (A0.out _).mono ?_) | (with_reducible refine (A1.out _).mono ?_) | (with_reducible refine (A2.out _).mono ?_) | (with_reducible refine (A3.out _).mono ?_) | (with_reducible refine (A4.out _).mono ?_) | (with_reducible refine (A5.out _).mono ?_) | (with_reducible refine (A6.out _).mono ?_) | (with_reducible refine (A7.out _).mono ?_) | (with_reducible refine (A8.out _).mono ?_) | (with_reducible refine (A9.out _).mono ?_) | (with_reducible refine (A10.out _).mono ?_) | (with_reducible refine (A11.out _).mono ?_) | (with_reducible refine (A12.out _).mono ?_) | (with_reducible refine (A13.out _).mono ?_)); rintro e w3 ⟨rfl, b3⟩; (first | (have V4 := Lib.hid (VC.below V4.out b3); have cc := V4.out.b.msg.cell (j := 8) rfl; have ff := V4.out.b.msg.free 8; have cc3 := V4.out.b.msg.cell (j := 3) rfl; have ff3 := V4.out.b.msg.free 3; have cc9 := V4.out.b.msg.cell (j := 9) rfl; have ff9 := V4.out.b.msg.free 9) | (have V3 := Lib.hid (VB.below (V3.out.set 2 _) b3); have cc := V3.out.msg.cell (j := 8) rfl; have ff := V3.out.msg.free 8; have cc9 := V3.out.msg.cell (j := 9) rfl; have ff9 := V3.out.msg.free 9) | (have V3 := Lib.hid (VB.below V3.out b3); have cc := V3.out.msg.cell (j := 8) rfl; have ff := V3.out.msg.free 8; have cc2 := V3.out.msg.cell (j := 2) rfl; have ff2 := V3.out.msg.free 2) | (have V := Lib.hid (VA.below V.out b3))); clear b3)
    | (go_at_call 19; go_must (refine (HO.out _).mono ?_); rintro e w3 ⟨rfl, b3⟩; (first | (have V4 := Lib.hid (VC.below V4.out b3); have cc := V4.out.b.msg.cell (j := 8) rfl; have ff := V4.out.b.msg.free 8; have cc3 := V4.out.b.msg.cell (j := 3) rfl; have ff3 := V4.out.b.msg.free 3; have cc9 := V4.out.b.msg.cell (j := 9) rfl; have ff9 := V4.out.b.msg.free 9) | (have V3 := Lib.hid (VB.below (V3.out.set 2 _) b3); have cc := V3.out.msg.cell (j := 8) rfl; have ff := V3.out.msg.free 8; have cc9 := V3.out.msg.cell (j := 9) rfl; have ff9 := V3.out.msg.free 9) | (have V3 := Lib.hid (VB.below V3.out b3); have cc := V3.out.msg.cell (j := 8) rfl; have ff := V3.out.msg.free 8; have cc2 := V3.out.msg.cell (j := 2) rfl; have ff2 := V3.out.msg.free 2) | (have V := Lib.hid (VA.below V.out b3))); clear b3)
    | (go_at_call 8; go_must (refine (HC.out _).mono ?_); rintro e w3 ⟨rfl, b3⟩; have V3 := Lib.hid (VB.below ((V3.out.set 8 _).set 9 _) b3); clear b3)
    | ((with_reducible show wpList _ _ _ ({ dst := _, op := .build 25 #[], type := _, pos := _, after := _, guard := _ } :: _) _ _); refine wpList_build_as rfl 25 _ rfl #[.int .i64 0, .bool false, .bool false, .int .i64 0, .int .i64 0, .int .i64 0, .int .i64 0, .int .i64 0, .int .i64 0, .string ⟨#[]⟩] mzero_built ?_)
    | ((with_reducible show wpList _ _ _ ({ dst := _, op := .build 25 _, type := _, pos := _, after := _, guard := _ } :: _) _ _); refine wpList_build_as rfl 25 _ rfl #[.int .i64 a0, .bool false, .bool false, .int .i64 0, .int .i64 0, .int .i64 0, .int .i64 0, .int .i64 0, .int .i64 0, .string ⟨#[]⟩] (mnew_built _ _) ?_)
    | ((with_reducible show wpList _ _ _ ({ dst := _, op := .build 23 _, type := _, pos := _, after := _, guard := _ } :: _) _ _); refine wpList_build_as rfl 23 _ rfl #[.int .i64 a8, .int .i64 a9, .int .i64 a10, .int .i64 a11] (cred_built _ _ _ _) ?_)
    | ((with_reducible show wpList _ _ _ ({ dst := _, op := .store _ (.tmp 4) _, type := _, pos := _, after := _, guard := _ } :: _) _ _); refine wpList_store_st rfl 25 _ _ rfl (w.heap.size + 1) #[.int .i64 0, .bool false, .bool false, .int .i64 0, .int .i64 0, .int .i64 0, .int .i64 0, .int .i64 0, .int .i64 0, .string ⟨#[]⟩] rfl rfl _ K0.out (by kernel_rfl) rfl (by kernel_rfl) ?_; intro wz hz hst; have V := Lib.hid (show VA w wz from ⟨by rw [hz]; exact A00.out.setRow_other (by omega) _, hst, by rw [hz]; exact below_row L0.out (by omega) _⟩); clear hz hst)
    | ((with_reducible show wpList _ _ _ ({ dst := _, op := .store _ (.tmp 6) _, type := _, pos := _, after := _, guard := _ } :: _) _ _); refine wpList_store_st rfl 25 _ _ rfl _ #[.int .i64 a0, .bool false, .bool false, .int .i64 0, .int .i64 0, .int .i64 0, .int .i64 0, .int .i64 0, .int .i64 0, .string ⟨#[]⟩] rfl rfl _ (St.new w3 25 _) (by kernel_rfl) rfl (by kernel_rfl) ?_; rw [alloc_row]; intro wz hz hst; subst hz; have V3 := Lib.hid (V.out.toB #[.int .i64 a0, .bool false, .bool false, .int .i64 0, .int .i64 0, .int .i64 0, .int .i64 0, .int .i64 0, .int .i64 0, .string ⟨#[]⟩]); clear hst)
    | ((with_reducible show wpList _ _ _ ({ dst := _, op := .store _ (.tmp 7) _, type := _, pos := _, after := _, guard := _ } :: _) _ _); refine wpList_store_st rfl 23 _ _ rfl _ #[.int .i64 a8, .int .i64 a9, .int .i64 a10, .int .i64 a11] rfl rfl _ (St.new w3 23 _) (by kernel_rfl) rfl (by kernel_rfl) ?_; rw [alloc_row]; intro wz hz hst; subst hz; have V4 := Lib.hid (V3.out.toC #[.int .i64 a8, .int .i64 a9, .int .i64 a10, .int .i64 a11]); clear hst)
    | ((with_reducible show wpList _ _ _ ({ dst := _, op := .load _ (.tmp 4), type := _, pos := _, after := _, guard := _ } :: _) _ _); refine wpList_load_st rfl 25 _ rfl _ rfl 25 #[.int .i64 0, .bool false, .bool false, .int .i64 0, .int .i64 0, .int .i64 0, .int .i64 0, .int .i64 0, .int .i64 0, .string ⟨#[]⟩] (by first | exact V3.out.a.non | exact V.out.non) _ Tryd.underlying25 rfl (by kernel_rfl) ?_)
    | ((with_reducible show wpList _ _ _ ({ dst := _, op := .load _ (.tmp 7), type := _, pos := _, after := _, guard := _ } :: _) _ _); refine wpList_load_stg (by rfl) 23 _ rfl _ rfl 23 #[.int .i64 a8, .int .i64 a9, .int .i64 a10, .int .i64 a11] V4.out.own _ Tryd.underlying23 rfl (by kernel_rfl) ?_)
    | ((with_reducible show wpList _ _ _ ({ dst := _, op := .load _ (.tmp 6), type := _, pos := _, after := _, guard := _ } :: _) _ _); refine wpList_load_st rfl 25 _ rfl _ rfl 25 #[.int .i64 a0, .bool false, .bool false, .int .i64 0, .int .i64 0, .int .i64 0, .int .i64 0, .int .i64 0, .int .i64 4, .string ⟨#[]⟩] (by exact (V4.out.set 8 _).b.msg) _ Tryd.underlying25 rfl (by kernel_rfl) ?_)
    | ((with_reducible show wpList _ _ _ ({ dst := _, op := .store _ (.tmp 2) _, type := _, pos := _, after := _, guard := _ } :: _) _ _); refine wpList_store_st rfl 25 _ _ rfl w.heap.size #[.int .i64 a0, .bool false, .bool false, .int .i64 0, .int .i64 0, .int .i64 0, .int .i64 0, .int .i64 0, .int .i64 4, .string ⟨#[]⟩] rfl rfl _ ((V4.out.set 8 _).b.a.res) (by kernel_rfl) rfl (by kernel_rfl) ?_; intro wz hz hst; have HQ := Lib.hid hz; have HR := Lib.hid hst; clear hz hst))
  refine ret_cell2 (r := 2) (t := 3) (k := w.heap.size) (T := 25) Tryd.results12 rfl rfl HR.out Tryd.underlying25 rfl (by kernel_rfl) rfl ?_
  have e0 := HQ.out
  subst e0
  exact ⟨rfl, below_row (V4.out.set 8 _).b.a.low (Nat.le_refl _) _⟩

set_option maxRecDepth 100000 in
set_option maxHeartbeats 4000000 in
theorem mfGet_c9b (s : ByteArray) (w : World) (hs : s.size ≤ 2048)(h1 : atW s 1 = 0) (h2 : atW s 2 = 2) (h3 : atW s 3 = 100003) (h4 : atW s 4 = 3) (g13 : 0 ≤ atW s 13) (g5 : atW s 5 ≤ 21) (h6 : atW s 6 = 1) (g7 : atW s 7 ≠ 16) : Calls Tryd.prog 12 #[.string s] w fun e w' => e = .returned (.tuple #[.agg (mgGet s).1.arr, .int .i64 (mgGet s).2]) ∧ Below w.heap.size w w' := by
  have e : mgGet s = ({ Mg.zero with xid := atW s 0, accept := 4 }, 0) := by
    unfold mgGet
    rw [if_neg (by omega), if_neg (by omega), if_neg (by omega), if_neg (by omega), if_neg (by omega), if_neg (by omega), if_neg (by omega), if_neg (by omega), if_neg (by omega), if_pos (Or.inr (Or.inl g7))]
  rw [e]
  clear e
  have A0 : ∀ W, Calls Tryd.prog 26 #[.string s, .int .i64 0] W fun e w' => e = .returned (.int .i64 (atW s 0)) ∧ Below W.heap.size W w' := fun W => mfat_any s 0 W (by omega) (by decide)
  have A1 : ∀ W, Calls Tryd.prog 26 #[.string s, .int .i64 1] W fun e w' => e = .returned (.int .i64 (atW s 1)) ∧ Below W.heap.size W w' := fun W => mfat_any s 1 W (by omega) (by decide)
  have A2 : ∀ W, Calls Tryd.prog 26 #[.string s, .int .i64 2] W fun e w' => e = .returned (.int .i64 (atW s 2)) ∧ Below W.heap.size W w' := fun W => mfat_any s 2 W (by omega) (by decide)
  have A3 : ∀ W, Calls Tryd.prog 26 #[.string s, .int .i64 3] W fun e w' => e = .returned (.int .i64 (atW s 3)) ∧ Below W.heap.size W w' := fun W => mfat_any s 3 W (by omega) (by decide)
  have A4 : ∀ W, Calls Tryd.prog 26 #[.string s, .int .i64 4] W fun e w' => e = .returned (.int .i64 (atW s 4)) ∧ Below W.heap.size W w' := fun W => mfat_any s 4 W (by omega) (by decide)
  have A5 : ∀ W, Calls Tryd.prog 26 #[.string s, .int .i64 5] W fun e w' => e = .returned (.int .i64 (atW s 5)) ∧ Below W.heap.size W w' := fun W => mfat_any s 5 W (by omega) (by decide)
  have A6 : ∀ W, Calls Tryd.prog 26 #[.string s, .int .i64 6] W fun e w' => e = .returned (.int .i64 (atW s 6)) ∧ Below W.heap.size W w' := fun W => mfat_any s 6 W (by omega) (by decide)
  have A7 : ∀ W, Calls Tryd.prog 26 #[.string s, .int .i64 7] W fun e w' => e = .returned (.int .i64 (atW s 7)) ∧ Below W.heap.size W w' := fun W => mfat_any s 7 W (by omega) (by decide)
  have A8 : ∀ W, Calls Tryd.prog 26 #[.string s, .int .i64 8] W fun e w' => e = .returned (.int .i64 (atW s 8)) ∧ Below W.heap.size W w' := fun W => mfat_any s 8 W (by omega) (by decide)
  have A9 : ∀ W, Calls Tryd.prog 26 #[.string s, .int .i64 9] W fun e w' => e = .returned (.int .i64 (atW s 9)) ∧ Below W.heap.size W w' := fun W => mfat_any s 9 W (by omega) (by decide)
  have A10 : ∀ W, Calls Tryd.prog 26 #[.string s, .int .i64 10] W fun e w' => e = .returned (.int .i64 (atW s 10)) ∧ Below W.heap.size W w' := fun W => mfat_any s 10 W (by omega) (by decide)
  have A11 : ∀ W, Calls Tryd.prog 26 #[.string s, .int .i64 11] W fun e w' => e = .returned (.int .i64 (atW s 11)) ∧ Below W.heap.size W w' := fun W => mfat_any s 11 W (by omega) (by decide)
  have A12 : ∀ W, Calls Tryd.prog 26 #[.string s, .int .i64 12] W fun e w' => e = .returned (.int .i64 (atW s 12)) ∧ Below W.heap.size W w' := fun W => mfat_any s 12 W (by omega) (by decide)
  have A13 : ∀ W, Calls Tryd.prog 26 #[.string s, .int .i64 13] W fun e w' => e = .returned (.int .i64 (atW s 13)) ∧ Below W.heap.size W w' := fun W => mfat_any s 13 W (by omega) (by decide)
  obtain ⟨a0, ha0⟩ : ∃ a, a = atW s 0 := ⟨_, rfl⟩
  rw [← ha0] at A0
  rw [h1] at A1
  rw [h2] at A2
  rw [h3] at A3
  rw [h4] at A4
  obtain ⟨a5, ha5⟩ : ∃ a, a = atW s 5 := ⟨_, rfl⟩
  rw [← ha5] at A5
  rw [h6] at A6
  obtain ⟨a7, ha7⟩ : ∃ a, a = atW s 7 := ⟨_, rfl⟩
  rw [← ha7] at A7
  obtain ⟨a8, ha8⟩ : ∃ a, a = atW s 8 := ⟨_, rfl⟩
  rw [← ha8] at A8
  obtain ⟨a9, ha9⟩ : ∃ a, a = atW s 9 := ⟨_, rfl⟩
  rw [← ha9] at A9
  obtain ⟨a10, ha10⟩ : ∃ a, a = atW s 10 := ⟨_, rfl⟩
  rw [← ha10] at A10
  obtain ⟨a11, ha11⟩ : ∃ a, a = atW s 11 := ⟨_, rfl⟩
  rw [← ha11] at A11
  obtain ⟨a12, ha12⟩ : ∃ a, a = atW s 12 := ⟨_, rfl⟩
  rw [← ha12] at A12
  obtain ⟨a13, ha13⟩ : ∃ a, a = atW s 13 := ⟨_, rfl⟩
  rw [← ha13] at A13
  rw [← ha13] at g13
  rw [← ha5] at g5
  rw [← ha7] at g7
  have d0 : decide ((s.size : Int) > 2048) = false := decide_eq_false (by omega)
  have d13 : decide (a13 < 0) = false := decide_eq_false (by omega)
  have d5 : decide (a5 > 21) = false := decide_eq_false (by omega)
  have na71 : (a7 == 16) = false := by simpa using g7
  have na72 : (a7 != 16) = true := by simpa using g7
  rw [← ha0]
  replace A0 := Lib.hid A0
  replace A1 := Lib.hid A1
  replace A2 := Lib.hid A2
  replace A3 := Lib.hid A3
  replace A4 := Lib.hid A4
  replace A5 := Lib.hid A5
  replace A6 := Lib.hid A6
  replace A7 := Lib.hid A7
  replace A8 := Lib.hid A8
  replace A9 := Lib.hid A9
  replace A10 := Lib.hid A10
  replace A11 := Lib.hid A11
  replace A12 := Lib.hid A12
  replace A13 := Lib.hid A13
  clear ha0 ha5 ha7 ha8 ha9 ha10 ha11 ha12 ha13
  clear hs g13 g5 g7
  have A00 := Lib.hid (show St 25 w.heap.size #[.int .i64 0, .bool false, .bool false, .int .i64 0, .int .i64 0, .int .i64 0, .int .i64 0, .int .i64 0, .int .i64 0, .string ⟨#[]⟩] ((w.alloc (.cells #[.int .i64 0, .bool false, .bool false, .int .i64 0, .int .i64 0, .int .i64 0, .int .i64 0, .int .i64 0, .int .i64 0, .string ⟨#[]⟩] 25 (0, 0))).alloc (.cells #[.int .i64 0, .bool false, .bool false, .int .i64 0, .int .i64 0, .int .i64 0, .int .i64 0, .int .i64 0, .int .i64 0, .string ⟨#[]⟩] 25 (0, 0))) from (St.new w 25 _).alloc _)
  have K0 := Lib.hid (show St 25 (w.heap.size + 1) #[.int .i64 0, .bool false, .bool false, .int .i64 0, .int .i64 0, .int .i64 0, .int .i64 0, .int .i64 0, .int .i64 0, .string ⟨#[]⟩] ((w.alloc (.cells #[.int .i64 0, .bool false, .bool false, .int .i64 0, .int .i64 0, .int .i64 0, .int .i64 0, .int .i64 0, .int .i64 0, .string ⟨#[]⟩] 25 (0, 0))).alloc (.cells #[.int .i64 0, .bool false, .bool false, .int .i64 0, .int .i64 0, .int .i64 0, .int .i64 0, .int .i64 0, .int .i64 0, .string ⟨#[]⟩] 25 (0, 0))) from by have := St.new (w.alloc (.cells #[.int .i64 0, .bool false, .bool false, .int .i64 0, .int .i64 0, .int .i64 0, .int .i64 0, .int .i64 0, .int .i64 0, .string ⟨#[]⟩] 25 (0, 0))) 25 #[.int .i64 0, .bool false, .bool false, .int .i64 0, .int .i64 0, .int .i64 0, .int .i64 0, .int .i64 0, .int .i64 0, .string ⟨#[]⟩]; simpa using this)
  have L0 := Lib.hid (show Below w.heap.size w ((w.alloc (.cells #[.int .i64 0, .bool false, .bool false, .int .i64 0, .int .i64 0, .int .i64 0, .int .i64 0, .int .i64 0, .int .i64 0, .string ⟨#[]⟩] 25 (0, 0))).alloc (.cells #[.int .i64 0, .bool false, .bool false, .int .i64 0, .int .i64 0, .int .i64 0, .int .i64 0, .int .i64 0, .int .i64 0, .string ⟨#[]⟩] 25 (0, 0))) from (below_one w _).alloc (by simp) _)
  dsimp only [Mg.arr, Mg.zero]
  go_enter Tryd.func12, Tryd.ntmps12
  go_wp2_with (first
    | (go_at_call 26; (first | (with_reducible refine (A0.out _).mono ?_) | (with_reducible refine (A1.out _).mono ?_) | (with_reducible refine (A2.out _).mono ?_) | (with_reducible refine (A3.out _).mono ?_) | (with_reducible refine (A4.out _).mono ?_) | (with_reducible refine (A5.out _).mono ?_) | (with_reducible refine (A6.out _).mono ?_) | (with_reducible refine (A7.out _).mono ?_) | (with_reducible refine (A8.out _).mono ?_) | (with_reducible refine (A9.out _).mono ?_) | (with_reducible refine (A10.out _).mono ?_) | (with_reducible refine (A11.out _).mono ?_) | (with_reducible refine (A12.out _).mono ?_) | (with_reducible refine (A13.out _).mono ?_)); rintro e w3 ⟨rfl, b3⟩; (first | (have V4 := Lib.hid (VC.below V4.out b3); have cc := V4.out.b.msg.cell (j := 8) rfl; have ff := V4.out.b.msg.free 8; have cc3 := V4.out.b.msg.cell (j := 3) rfl; have ff3 := V4.out.b.msg.free 3; have cc9 := V4.out.b.msg.cell (j := 9) rfl; have ff9 := V4.out.b.msg.free 9) | (have V3 := Lib.hid (VB.below (V3.out.set 2 _) b3); have cc := V3.out.msg.cell (j := 8) rfl; have ff := V3.out.msg.free 8; have cc9 := V3.out.msg.cell (j := 9) rfl; have ff9 := V3.out.msg.free 9) | (have V3 := Lib.hid (VB.below V3.out b3); have cc := V3.out.msg.cell (j := 8) rfl; have ff := V3.out.msg.free 8; have cc2 := V3.out.msg.cell (j := 2) rfl; have ff2 := V3.out.msg.free 2) | (have V := Lib.hid (VA.below V.out b3))); clear b3)
    | (go_at_call 19; go_must (refine (HO.out _).mono ?_); rintro e w3 ⟨rfl, b3⟩; (first | (have V4 := Lib.hid (VC.below V4.out b3); have cc := V4.out.b.msg.cell (j := 8) rfl; have ff := V4.out.b.msg.free 8; have cc3 := V4.out.b.msg.cell (j := 3) rfl; have ff3 := V4.out.b.msg.free 3; have cc9 := V4.out.b.msg.cell (j := 9) rfl; have ff9 := V4.out.b.msg.free 9) | (have V3 := Lib.hid (VB.below (V3.out.set 2 _) b3); have cc := V3.out.msg.cell (j := 8) rfl; have ff := V3.out.msg.free 8; have cc9 := V3.out.msg.cell (j := 9) rfl; have ff9 := V3.out.msg.free 9) | (have V3 := Lib.hid (VB.below V3.out b3); have cc := V3.out.msg.cell (j := 8) rfl; have ff := V3.out.msg.free 8; have cc2 := V3.out.msg.cell (j := 2) rfl; have ff2 := V3.out.msg.free 2) | (have V := Lib.hid (VA.below V.out b3))); clear b3)
    | (go_at_call 8; go_must (refine (HC.out _).mono ?_); rintro e w3 ⟨rfl, b3⟩; have V3 := Lib.hid (VB.below ((V3.out.set 8 _).set 9 _) b3); clear b3)
    | ((with_reducible show wpList _ _ _ ({ dst := _, op := .build 25 #[], type := _, pos := _, after := _, guard := _ } :: _) _ _); refine wpList_build_as rfl 25 _ rfl #[.int .i64 0, .bool false, .bool false, .int .i64 0, .int .i64 0, .int .i64 0, .int .i64 0, .int .i64 0, .int .i64 0, .string ⟨#[]⟩] mzero_built ?_)
    | ((with_reducible show wpList _ _ _ ({ dst := _, op := .build 25 _, type := _, pos := _, after := _, guard := _ } :: _) _ _); refine wpList_build_as rfl 25 _ rfl #[.int .i64 a0, .bool false, .bool false, .int .i64 0, .int .i64 0, .int .i64 0, .int .i64 0, .int .i64 0, .int .i64 0, .string ⟨#[]⟩] (mnew_built _ _) ?_)
    | ((with_reducible show wpList _ _ _ ({ dst := _, op := .build 23 _, type := _, pos := _, after := _, guard := _ } :: _) _ _); refine wpList_build_as rfl 23 _ rfl #[.int .i64 a8, .int .i64 a9, .int .i64 a10, .int .i64 a11] (cred_built _ _ _ _) ?_)
    | ((with_reducible show wpList _ _ _ ({ dst := _, op := .store _ (.tmp 4) _, type := _, pos := _, after := _, guard := _ } :: _) _ _); refine wpList_store_st rfl 25 _ _ rfl (w.heap.size + 1) #[.int .i64 0, .bool false, .bool false, .int .i64 0, .int .i64 0, .int .i64 0, .int .i64 0, .int .i64 0, .int .i64 0, .string ⟨#[]⟩] rfl rfl _ K0.out (by kernel_rfl) rfl (by kernel_rfl) ?_; intro wz hz hst; have V := Lib.hid (show VA w wz from ⟨by rw [hz]; exact A00.out.setRow_other (by omega) _, hst, by rw [hz]; exact below_row L0.out (by omega) _⟩); clear hz hst)
    | ((with_reducible show wpList _ _ _ ({ dst := _, op := .store _ (.tmp 6) _, type := _, pos := _, after := _, guard := _ } :: _) _ _); refine wpList_store_st rfl 25 _ _ rfl _ #[.int .i64 a0, .bool false, .bool false, .int .i64 0, .int .i64 0, .int .i64 0, .int .i64 0, .int .i64 0, .int .i64 0, .string ⟨#[]⟩] rfl rfl _ (St.new w3 25 _) (by kernel_rfl) rfl (by kernel_rfl) ?_; rw [alloc_row]; intro wz hz hst; subst hz; have V3 := Lib.hid (V.out.toB #[.int .i64 a0, .bool false, .bool false, .int .i64 0, .int .i64 0, .int .i64 0, .int .i64 0, .int .i64 0, .int .i64 0, .string ⟨#[]⟩]); clear hst)
    | ((with_reducible show wpList _ _ _ ({ dst := _, op := .store _ (.tmp 7) _, type := _, pos := _, after := _, guard := _ } :: _) _ _); refine wpList_store_st rfl 23 _ _ rfl _ #[.int .i64 a8, .int .i64 a9, .int .i64 a10, .int .i64 a11] rfl rfl _ (St.new w3 23 _) (by kernel_rfl) rfl (by kernel_rfl) ?_; rw [alloc_row]; intro wz hz hst; subst hz; have V4 := Lib.hid (V3.out.toC #[.int .i64 a8, .int .i64 a9, .int .i64 a10, .int .i64 a11]); clear hst)
    | ((with_reducible show wpList _ _ _ ({ dst := _, op := .load _ (.tmp 4), type := _, pos := _, after := _, guard := _ } :: _) _ _); refine wpList_load_st rfl 25 _ rfl _ rfl 25 #[.int .i64 0, .bool false, .bool false, .int .i64 0, .int .i64 0, .int .i64 0, .int .i64 0, .int .i64 0, .int .i64 0, .string ⟨#[]⟩] (by first | exact V3.out.a.non | exact V.out.non) _ Tryd.underlying25 rfl (by kernel_rfl) ?_)
    | ((with_reducible show wpList _ _ _ ({ dst := _, op := .load _ (.tmp 7), type := _, pos := _, after := _, guard := _ } :: _) _ _); refine wpList_load_stg (by rfl) 23 _ rfl _ rfl 23 #[.int .i64 a8, .int .i64 a9, .int .i64 a10, .int .i64 a11] V4.out.own _ Tryd.underlying23 rfl (by kernel_rfl) ?_)
    | ((with_reducible show wpList _ _ _ ({ dst := _, op := .load _ (.tmp 6), type := _, pos := _, after := _, guard := _ } :: _) _ _); refine wpList_load_st rfl 25 _ rfl _ rfl 25 #[.int .i64 a0, .bool false, .bool false, .int .i64 0, .int .i64 0, .int .i64 0, .int .i64 0, .int .i64 0, .int .i64 4, .string ⟨#[]⟩] (by exact (V4.out.set 8 _).b.msg) _ Tryd.underlying25 rfl (by kernel_rfl) ?_)
    | ((with_reducible show wpList _ _ _ ({ dst := _, op := .store _ (.tmp 2) _, type := _, pos := _, after := _, guard := _ } :: _) _ _); refine wpList_store_st rfl 25 _ _ rfl w.heap.size #[.int .i64 a0, .bool false, .bool false, .int .i64 0, .int .i64 0, .int .i64 0, .int .i64 0, .int .i64 0, .int .i64 4, .string ⟨#[]⟩] rfl rfl _ ((V4.out.set 8 _).b.a.res) (by kernel_rfl) rfl (by kernel_rfl) ?_; intro wz hz hst; have HQ := Lib.hid hz; have HR := Lib.hid hst; clear hz hst))
  refine ret_cell2 (r := 2) (t := 3) (k := w.heap.size) (T := 25) Tryd.results12 rfl rfl HR.out Tryd.underlying25 rfl (by kernel_rfl) rfl ?_
  have e0 := HQ.out
  subst e0
  exact ⟨rfl, below_row (V4.out.set 8 _).b.a.low (Nat.le_refl _) _⟩

set_option maxRecDepth 100000 in
set_option maxHeartbeats 4000000 in
theorem mfGet_c9c (s : ByteArray) (w : World) (hs : s.size ≤ 2048)(h1 : atW s 1 = 0) (h2 : atW s 2 = 2) (h3 : atW s 3 = 100003) (h4 : atW s 4 = 3) (g13 : 0 ≤ atW s 13) (g5 : atW s 5 ≤ 21) (h6 : atW s 6 = 1) (h7 : atW s 7 = 16) (g12 : atW s 12 ≠ 0) : Calls Tryd.prog 12 #[.string s] w fun e w' => e = .returned (.tuple #[.agg (mgGet s).1.arr, .int .i64 (mgGet s).2]) ∧ Below w.heap.size w w' := by
  have e : mgGet s = ({ Mg.zero with xid := atW s 0, accept := 4 }, 0) := by
    unfold mgGet
    rw [if_neg (by omega), if_neg (by omega), if_neg (by omega), if_neg (by omega), if_neg (by omega), if_neg (by omega), if_neg (by omega), if_neg (by omega), if_neg (by omega), if_pos (Or.inr (Or.inr (Or.inl g12)))]
  rw [e]
  clear e
  have A0 : ∀ W, Calls Tryd.prog 26 #[.string s, .int .i64 0] W fun e w' => e = .returned (.int .i64 (atW s 0)) ∧ Below W.heap.size W w' := fun W => mfat_any s 0 W (by omega) (by decide)
  have A1 : ∀ W, Calls Tryd.prog 26 #[.string s, .int .i64 1] W fun e w' => e = .returned (.int .i64 (atW s 1)) ∧ Below W.heap.size W w' := fun W => mfat_any s 1 W (by omega) (by decide)
  have A2 : ∀ W, Calls Tryd.prog 26 #[.string s, .int .i64 2] W fun e w' => e = .returned (.int .i64 (atW s 2)) ∧ Below W.heap.size W w' := fun W => mfat_any s 2 W (by omega) (by decide)
  have A3 : ∀ W, Calls Tryd.prog 26 #[.string s, .int .i64 3] W fun e w' => e = .returned (.int .i64 (atW s 3)) ∧ Below W.heap.size W w' := fun W => mfat_any s 3 W (by omega) (by decide)
  have A4 : ∀ W, Calls Tryd.prog 26 #[.string s, .int .i64 4] W fun e w' => e = .returned (.int .i64 (atW s 4)) ∧ Below W.heap.size W w' := fun W => mfat_any s 4 W (by omega) (by decide)
  have A5 : ∀ W, Calls Tryd.prog 26 #[.string s, .int .i64 5] W fun e w' => e = .returned (.int .i64 (atW s 5)) ∧ Below W.heap.size W w' := fun W => mfat_any s 5 W (by omega) (by decide)
  have A6 : ∀ W, Calls Tryd.prog 26 #[.string s, .int .i64 6] W fun e w' => e = .returned (.int .i64 (atW s 6)) ∧ Below W.heap.size W w' := fun W => mfat_any s 6 W (by omega) (by decide)
  have A7 : ∀ W, Calls Tryd.prog 26 #[.string s, .int .i64 7] W fun e w' => e = .returned (.int .i64 (atW s 7)) ∧ Below W.heap.size W w' := fun W => mfat_any s 7 W (by omega) (by decide)
  have A8 : ∀ W, Calls Tryd.prog 26 #[.string s, .int .i64 8] W fun e w' => e = .returned (.int .i64 (atW s 8)) ∧ Below W.heap.size W w' := fun W => mfat_any s 8 W (by omega) (by decide)
  have A9 : ∀ W, Calls Tryd.prog 26 #[.string s, .int .i64 9] W fun e w' => e = .returned (.int .i64 (atW s 9)) ∧ Below W.heap.size W w' := fun W => mfat_any s 9 W (by omega) (by decide)
  have A10 : ∀ W, Calls Tryd.prog 26 #[.string s, .int .i64 10] W fun e w' => e = .returned (.int .i64 (atW s 10)) ∧ Below W.heap.size W w' := fun W => mfat_any s 10 W (by omega) (by decide)
  have A11 : ∀ W, Calls Tryd.prog 26 #[.string s, .int .i64 11] W fun e w' => e = .returned (.int .i64 (atW s 11)) ∧ Below W.heap.size W w' := fun W => mfat_any s 11 W (by omega) (by decide)
  have A12 : ∀ W, Calls Tryd.prog 26 #[.string s, .int .i64 12] W fun e w' => e = .returned (.int .i64 (atW s 12)) ∧ Below W.heap.size W w' := fun W => mfat_any s 12 W (by omega) (by decide)
  have A13 : ∀ W, Calls Tryd.prog 26 #[.string s, .int .i64 13] W fun e w' => e = .returned (.int .i64 (atW s 13)) ∧ Below W.heap.size W w' := fun W => mfat_any s 13 W (by omega) (by decide)
  obtain ⟨a0, ha0⟩ : ∃ a, a = atW s 0 := ⟨_, rfl⟩
  rw [← ha0] at A0
  rw [h1] at A1
  rw [h2] at A2
  rw [h3] at A3
  rw [h4] at A4
  obtain ⟨a5, ha5⟩ : ∃ a, a = atW s 5 := ⟨_, rfl⟩
  rw [← ha5] at A5
  rw [h6] at A6
  rw [h7] at A7
  obtain ⟨a8, ha8⟩ : ∃ a, a = atW s 8 := ⟨_, rfl⟩
  rw [← ha8] at A8
  obtain ⟨a9, ha9⟩ : ∃ a, a = atW s 9 := ⟨_, rfl⟩
  rw [← ha9] at A9
  obtain ⟨a10, ha10⟩ : ∃ a, a = atW s 10 := ⟨_, rfl⟩
  rw [← ha10] at A10
  obtain ⟨a11, ha11⟩ : ∃ a, a = atW s 11 := ⟨_, rfl⟩
  rw [← ha11] at A11
  obtain ⟨a12, ha12⟩ : ∃ a, a = atW s 12 := ⟨_, rfl⟩
  rw [← ha12] at A12
  obtain ⟨a13, ha13⟩ : ∃ a, a = atW s 13 := ⟨_, rfl⟩
  rw [← ha13] at A13
  rw [← ha13] at g13
  rw [← ha5] at g5
  rw [← ha12] at g12
  have d0 : decide ((s.size : Int) > 2048) = false := decide_eq_false (by omega)
  have d13 : decide (a13 < 0) = false := decide_eq_false (by omega)
  have d5 : decide (a5 > 21) = false := decide_eq_false (by omega)
  have na121 : (a12 == 0) = false := by simpa using g12
  have na122 : (a12 != 0) = true := by simpa using g12
  rw [← ha0]
  replace A0 := Lib.hid A0
  replace A1 := Lib.hid A1
  replace A2 := Lib.hid A2
  replace A3 := Lib.hid A3
  replace A4 := Lib.hid A4
  replace A5 := Lib.hid A5
  replace A6 := Lib.hid A6
  replace A7 := Lib.hid A7
  replace A8 := Lib.hid A8
  replace A9 := Lib.hid A9
  replace A10 := Lib.hid A10
  replace A11 := Lib.hid A11
  replace A12 := Lib.hid A12
  replace A13 := Lib.hid A13
  clear ha0 ha5 ha8 ha9 ha10 ha11 ha12 ha13
  clear hs g13 g5 g12
  have A00 := Lib.hid (show St 25 w.heap.size #[.int .i64 0, .bool false, .bool false, .int .i64 0, .int .i64 0, .int .i64 0, .int .i64 0, .int .i64 0, .int .i64 0, .string ⟨#[]⟩] ((w.alloc (.cells #[.int .i64 0, .bool false, .bool false, .int .i64 0, .int .i64 0, .int .i64 0, .int .i64 0, .int .i64 0, .int .i64 0, .string ⟨#[]⟩] 25 (0, 0))).alloc (.cells #[.int .i64 0, .bool false, .bool false, .int .i64 0, .int .i64 0, .int .i64 0, .int .i64 0, .int .i64 0, .int .i64 0, .string ⟨#[]⟩] 25 (0, 0))) from (St.new w 25 _).alloc _)
  have K0 := Lib.hid (show St 25 (w.heap.size + 1) #[.int .i64 0, .bool false, .bool false, .int .i64 0, .int .i64 0, .int .i64 0, .int .i64 0, .int .i64 0, .int .i64 0, .string ⟨#[]⟩] ((w.alloc (.cells #[.int .i64 0, .bool false, .bool false, .int .i64 0, .int .i64 0, .int .i64 0, .int .i64 0, .int .i64 0, .int .i64 0, .string ⟨#[]⟩] 25 (0, 0))).alloc (.cells #[.int .i64 0, .bool false, .bool false, .int .i64 0, .int .i64 0, .int .i64 0, .int .i64 0, .int .i64 0, .int .i64 0, .string ⟨#[]⟩] 25 (0, 0))) from by have := St.new (w.alloc (.cells #[.int .i64 0, .bool false, .bool false, .int .i64 0, .int .i64 0, .int .i64 0, .int .i64 0, .int .i64 0, .int .i64 0, .string ⟨#[]⟩] 25 (0, 0))) 25 #[.int .i64 0, .bool false, .bool false, .int .i64 0, .int .i64 0, .int .i64 0, .int .i64 0, .int .i64 0, .int .i64 0, .string ⟨#[]⟩]; simpa using this)
  have L0 := Lib.hid (show Below w.heap.size w ((w.alloc (.cells #[.int .i64 0, .bool false, .bool false, .int .i64 0, .int .i64 0, .int .i64 0, .int .i64 0, .int .i64 0, .int .i64 0, .string ⟨#[]⟩] 25 (0, 0))).alloc (.cells #[.int .i64 0, .bool false, .bool false, .int .i64 0, .int .i64 0, .int .i64 0, .int .i64 0, .int .i64 0, .int .i64 0, .string ⟨#[]⟩] 25 (0, 0))) from (below_one w _).alloc (by simp) _)
  dsimp only [Mg.arr, Mg.zero]
  go_enter Tryd.func12, Tryd.ntmps12
  go_wp2_with (first
    | (go_at_call 26; (first | (with_reducible refine (A0.out _).mono ?_) | (with_reducible refine (A1.out _).mono ?_) | (with_reducible refine (A2.out _).mono ?_) | (with_reducible refine (A3.out _).mono ?_) | (with_reducible refine (A4.out _).mono ?_) | (with_reducible refine (A5.out _).mono ?_) | (with_reducible refine (A6.out _).mono ?_) | (with_reducible refine (A7.out _).mono ?_) | (with_reducible refine (A8.out _).mono ?_) | (with_reducible refine (A9.out _).mono ?_) | (with_reducible refine (A10.out _).mono ?_) | (with_reducible refine (A11.out _).mono ?_) | (with_reducible refine (A12.out _).mono ?_) | (with_reducible refine (A13.out _).mono ?_)); rintro e w3 ⟨rfl, b3⟩; (first | (have V4 := Lib.hid (VC.below V4.out b3); have cc := V4.out.b.msg.cell (j := 8) rfl; have ff := V4.out.b.msg.free 8; have cc3 := V4.out.b.msg.cell (j := 3) rfl; have ff3 := V4.out.b.msg.free 3; have cc9 := V4.out.b.msg.cell (j := 9) rfl; have ff9 := V4.out.b.msg.free 9) | (have V3 := Lib.hid (VB.below (V3.out.set 2 _) b3); have cc := V3.out.msg.cell (j := 8) rfl; have ff := V3.out.msg.free 8; have cc9 := V3.out.msg.cell (j := 9) rfl; have ff9 := V3.out.msg.free 9) | (have V3 := Lib.hid (VB.below V3.out b3); have cc := V3.out.msg.cell (j := 8) rfl; have ff := V3.out.msg.free 8; have cc2 := V3.out.msg.cell (j := 2) rfl; have ff2 := V3.out.msg.free 2) | (have V := Lib.hid (VA.below V.out b3))); clear b3)
    | (go_at_call 19; go_must (refine (HO.out _).mono ?_); rintro e w3 ⟨rfl, b3⟩; (first | (have V4 := Lib.hid (VC.below V4.out b3); have cc := V4.out.b.msg.cell (j := 8) rfl; have ff := V4.out.b.msg.free 8; have cc3 := V4.out.b.msg.cell (j := 3) rfl; have ff3 := V4.out.b.msg.free 3; have cc9 := V4.out.b.msg.cell (j := 9) rfl; have ff9 := V4.out.b.msg.free 9) | (have V3 := Lib.hid (VB.below (V3.out.set 2 _) b3); have cc := V3.out.msg.cell (j := 8) rfl; have ff := V3.out.msg.free 8; have cc9 := V3.out.msg.cell (j := 9) rfl; have ff9 := V3.out.msg.free 9) | (have V3 := Lib.hid (VB.below V3.out b3); have cc := V3.out.msg.cell (j := 8) rfl; have ff := V3.out.msg.free 8; have cc2 := V3.out.msg.cell (j := 2) rfl; have ff2 := V3.out.msg.free 2) | (have V := Lib.hid (VA.below V.out b3))); clear b3)
    | (go_at_call 8; go_must (refine (HC.out _).mono ?_); rintro e w3 ⟨rfl, b3⟩; have V3 := Lib.hid (VB.below ((V3.out.set 8 _).set 9 _) b3); clear b3)
    | ((with_reducible show wpList _ _ _ ({ dst := _, op := .build 25 #[], type := _, pos := _, after := _, guard := _ } :: _) _ _); refine wpList_build_as rfl 25 _ rfl #[.int .i64 0, .bool false, .bool false, .int .i64 0, .int .i64 0, .int .i64 0, .int .i64 0, .int .i64 0, .int .i64 0, .string ⟨#[]⟩] mzero_built ?_)
    | ((with_reducible show wpList _ _ _ ({ dst := _, op := .build 25 _, type := _, pos := _, after := _, guard := _ } :: _) _ _); refine wpList_build_as rfl 25 _ rfl #[.int .i64 a0, .bool false, .bool false, .int .i64 0, .int .i64 0, .int .i64 0, .int .i64 0, .int .i64 0, .int .i64 0, .string ⟨#[]⟩] (mnew_built _ _) ?_)
    | ((with_reducible show wpList _ _ _ ({ dst := _, op := .build 23 _, type := _, pos := _, after := _, guard := _ } :: _) _ _); refine wpList_build_as rfl 23 _ rfl #[.int .i64 a8, .int .i64 a9, .int .i64 a10, .int .i64 a11] (cred_built _ _ _ _) ?_)
    | ((with_reducible show wpList _ _ _ ({ dst := _, op := .store _ (.tmp 4) _, type := _, pos := _, after := _, guard := _ } :: _) _ _); refine wpList_store_st rfl 25 _ _ rfl (w.heap.size + 1) #[.int .i64 0, .bool false, .bool false, .int .i64 0, .int .i64 0, .int .i64 0, .int .i64 0, .int .i64 0, .int .i64 0, .string ⟨#[]⟩] rfl rfl _ K0.out (by kernel_rfl) rfl (by kernel_rfl) ?_; intro wz hz hst; have V := Lib.hid (show VA w wz from ⟨by rw [hz]; exact A00.out.setRow_other (by omega) _, hst, by rw [hz]; exact below_row L0.out (by omega) _⟩); clear hz hst)
    | ((with_reducible show wpList _ _ _ ({ dst := _, op := .store _ (.tmp 6) _, type := _, pos := _, after := _, guard := _ } :: _) _ _); refine wpList_store_st rfl 25 _ _ rfl _ #[.int .i64 a0, .bool false, .bool false, .int .i64 0, .int .i64 0, .int .i64 0, .int .i64 0, .int .i64 0, .int .i64 0, .string ⟨#[]⟩] rfl rfl _ (St.new w3 25 _) (by kernel_rfl) rfl (by kernel_rfl) ?_; rw [alloc_row]; intro wz hz hst; subst hz; have V3 := Lib.hid (V.out.toB #[.int .i64 a0, .bool false, .bool false, .int .i64 0, .int .i64 0, .int .i64 0, .int .i64 0, .int .i64 0, .int .i64 0, .string ⟨#[]⟩]); clear hst)
    | ((with_reducible show wpList _ _ _ ({ dst := _, op := .store _ (.tmp 7) _, type := _, pos := _, after := _, guard := _ } :: _) _ _); refine wpList_store_st rfl 23 _ _ rfl _ #[.int .i64 a8, .int .i64 a9, .int .i64 a10, .int .i64 a11] rfl rfl _ (St.new w3 23 _) (by kernel_rfl) rfl (by kernel_rfl) ?_; rw [alloc_row]; intro wz hz hst; subst hz; have V4 := Lib.hid (V3.out.toC #[.int .i64 a8, .int .i64 a9, .int .i64 a10, .int .i64 a11]); clear hst)
    | ((with_reducible show wpList _ _ _ ({ dst := _, op := .load _ (.tmp 4), type := _, pos := _, after := _, guard := _ } :: _) _ _); refine wpList_load_st rfl 25 _ rfl _ rfl 25 #[.int .i64 0, .bool false, .bool false, .int .i64 0, .int .i64 0, .int .i64 0, .int .i64 0, .int .i64 0, .int .i64 0, .string ⟨#[]⟩] (by first | exact V3.out.a.non | exact V.out.non) _ Tryd.underlying25 rfl (by kernel_rfl) ?_)
    | ((with_reducible show wpList _ _ _ ({ dst := _, op := .load _ (.tmp 7), type := _, pos := _, after := _, guard := _ } :: _) _ _); refine wpList_load_stg (by rfl) 23 _ rfl _ rfl 23 #[.int .i64 a8, .int .i64 a9, .int .i64 a10, .int .i64 a11] V4.out.own _ Tryd.underlying23 rfl (by kernel_rfl) ?_)
    | ((with_reducible show wpList _ _ _ ({ dst := _, op := .load _ (.tmp 6), type := _, pos := _, after := _, guard := _ } :: _) _ _); refine wpList_load_st rfl 25 _ rfl _ rfl 25 #[.int .i64 a0, .bool false, .bool false, .int .i64 0, .int .i64 0, .int .i64 0, .int .i64 0, .int .i64 0, .int .i64 4, .string ⟨#[]⟩] (by exact (V4.out.set 8 _).b.msg) _ Tryd.underlying25 rfl (by kernel_rfl) ?_)
    | ((with_reducible show wpList _ _ _ ({ dst := _, op := .store _ (.tmp 2) _, type := _, pos := _, after := _, guard := _ } :: _) _ _); refine wpList_store_st rfl 25 _ _ rfl w.heap.size #[.int .i64 a0, .bool false, .bool false, .int .i64 0, .int .i64 0, .int .i64 0, .int .i64 0, .int .i64 0, .int .i64 4, .string ⟨#[]⟩] rfl rfl _ ((V4.out.set 8 _).b.a.res) (by kernel_rfl) rfl (by kernel_rfl) ?_; intro wz hz hst; have HQ := Lib.hid hz; have HR := Lib.hid hst; clear hz hst))
  refine ret_cell2 (r := 2) (t := 3) (k := w.heap.size) (T := 25) Tryd.results12 rfl rfl HR.out Tryd.underlying25 rfl (by kernel_rfl) rfl ?_
  have e0 := HQ.out
  subst e0
  exact ⟨rfl, below_row (V4.out.set 8 _).b.a.low (Nat.le_refl _) _⟩

set_option maxRecDepth 100000 in
set_option maxHeartbeats 4000000 in
theorem mfGet_c9d (s : ByteArray) (w : World) (hs : s.size ≤ 2048)(h1 : atW s 1 = 0) (h2 : atW s 2 = 2) (h3 : atW s 3 = 100003) (h4 : atW s 4 = 3) (g13 : 0 ≤ atW s 13) (g5 : atW s 5 ≤ 21) (h6 : atW s 6 = 1) (h7 : atW s 7 = 16) (h12 : atW s 12 = 0) (g13b : atW s 13 ≠ 0) : Calls Tryd.prog 12 #[.string s] w fun e w' => e = .returned (.tuple #[.agg (mgGet s).1.arr, .int .i64 (mgGet s).2]) ∧ Below w.heap.size w w' := by
  have e : mgGet s = ({ Mg.zero with xid := atW s 0, accept := 4 }, 0) := by
    unfold mgGet
    rw [if_neg (by omega), if_neg (by omega), if_neg (by omega), if_neg (by omega), if_neg (by omega), if_neg (by omega), if_neg (by omega), if_neg (by omega), if_neg (by omega), if_pos (Or.inr (Or.inr (Or.inr (Or.inl g13b))))]
  rw [e]
  clear e
  have A0 : ∀ W, Calls Tryd.prog 26 #[.string s, .int .i64 0] W fun e w' => e = .returned (.int .i64 (atW s 0)) ∧ Below W.heap.size W w' := fun W => mfat_any s 0 W (by omega) (by decide)
  have A1 : ∀ W, Calls Tryd.prog 26 #[.string s, .int .i64 1] W fun e w' => e = .returned (.int .i64 (atW s 1)) ∧ Below W.heap.size W w' := fun W => mfat_any s 1 W (by omega) (by decide)
  have A2 : ∀ W, Calls Tryd.prog 26 #[.string s, .int .i64 2] W fun e w' => e = .returned (.int .i64 (atW s 2)) ∧ Below W.heap.size W w' := fun W => mfat_any s 2 W (by omega) (by decide)
  have A3 : ∀ W, Calls Tryd.prog 26 #[.string s, .int .i64 3] W fun e w' => e = .returned (.int .i64 (atW s 3)) ∧ Below W.heap.size W w' := fun W => mfat_any s 3 W (by omega) (by decide)
  have A4 : ∀ W, Calls Tryd.prog 26 #[.string s, .int .i64 4] W fun e w' => e = .returned (.int .i64 (atW s 4)) ∧ Below W.heap.size W w' := fun W => mfat_any s 4 W (by omega) (by decide)
  have A5 : ∀ W, Calls Tryd.prog 26 #[.string s, .int .i64 5] W fun e w' => e = .returned (.int .i64 (atW s 5)) ∧ Below W.heap.size W w' := fun W => mfat_any s 5 W (by omega) (by decide)
  have A6 : ∀ W, Calls Tryd.prog 26 #[.string s, .int .i64 6] W fun e w' => e = .returned (.int .i64 (atW s 6)) ∧ Below W.heap.size W w' := fun W => mfat_any s 6 W (by omega) (by decide)
  have A7 : ∀ W, Calls Tryd.prog 26 #[.string s, .int .i64 7] W fun e w' => e = .returned (.int .i64 (atW s 7)) ∧ Below W.heap.size W w' := fun W => mfat_any s 7 W (by omega) (by decide)
  have A8 : ∀ W, Calls Tryd.prog 26 #[.string s, .int .i64 8] W fun e w' => e = .returned (.int .i64 (atW s 8)) ∧ Below W.heap.size W w' := fun W => mfat_any s 8 W (by omega) (by decide)
  have A9 : ∀ W, Calls Tryd.prog 26 #[.string s, .int .i64 9] W fun e w' => e = .returned (.int .i64 (atW s 9)) ∧ Below W.heap.size W w' := fun W => mfat_any s 9 W (by omega) (by decide)
  have A10 : ∀ W, Calls Tryd.prog 26 #[.string s, .int .i64 10] W fun e w' => e = .returned (.int .i64 (atW s 10)) ∧ Below W.heap.size W w' := fun W => mfat_any s 10 W (by omega) (by decide)
  have A11 : ∀ W, Calls Tryd.prog 26 #[.string s, .int .i64 11] W fun e w' => e = .returned (.int .i64 (atW s 11)) ∧ Below W.heap.size W w' := fun W => mfat_any s 11 W (by omega) (by decide)
  have A12 : ∀ W, Calls Tryd.prog 26 #[.string s, .int .i64 12] W fun e w' => e = .returned (.int .i64 (atW s 12)) ∧ Below W.heap.size W w' := fun W => mfat_any s 12 W (by omega) (by decide)
  have A13 : ∀ W, Calls Tryd.prog 26 #[.string s, .int .i64 13] W fun e w' => e = .returned (.int .i64 (atW s 13)) ∧ Below W.heap.size W w' := fun W => mfat_any s 13 W (by omega) (by decide)
  obtain ⟨a0, ha0⟩ : ∃ a, a = atW s 0 := ⟨_, rfl⟩
  rw [← ha0] at A0
  rw [h1] at A1
  rw [h2] at A2
  rw [h3] at A3
  rw [h4] at A4
  obtain ⟨a5, ha5⟩ : ∃ a, a = atW s 5 := ⟨_, rfl⟩
  rw [← ha5] at A5
  rw [h6] at A6
  rw [h7] at A7
  obtain ⟨a8, ha8⟩ : ∃ a, a = atW s 8 := ⟨_, rfl⟩
  rw [← ha8] at A8
  obtain ⟨a9, ha9⟩ : ∃ a, a = atW s 9 := ⟨_, rfl⟩
  rw [← ha9] at A9
  obtain ⟨a10, ha10⟩ : ∃ a, a = atW s 10 := ⟨_, rfl⟩
  rw [← ha10] at A10
  obtain ⟨a11, ha11⟩ : ∃ a, a = atW s 11 := ⟨_, rfl⟩
  rw [← ha11] at A11
  rw [h12] at A12
  obtain ⟨a13, ha13⟩ : ∃ a, a = atW s 13 := ⟨_, rfl⟩
  rw [← ha13] at A13
  rw [← ha13] at g13 g13b
  rw [← ha5] at g5
  have d0 : decide ((s.size : Int) > 2048) = false := decide_eq_false (by omega)
  have d13 : decide (a13 < 0) = false := decide_eq_false (by omega)
  have d5 : decide (a5 > 21) = false := decide_eq_false (by omega)
  have na131 : (a13 == 0) = false := by simpa using g13b
  have na132 : (a13 != 0) = true := by simpa using g13b
  rw [← ha0]
  replace A0 := Lib.hid A0
  replace A1 := Lib.hid A1
  replace A2 := Lib.hid A2
  replace A3 := Lib.hid A3
  replace A4 := Lib.hid A4
  replace A5 := Lib.hid A5
  replace A6 := Lib.hid A6
  replace A7 := Lib.hid A7
  replace A8 := Lib.hid A8
  replace A9 := Lib.hid A9
  replace A10 := Lib.hid A10
  replace A11 := Lib.hid A11
  replace A12 := Lib.hid A12
  replace A13 := Lib.hid A13
  clear ha0 ha5 ha8 ha9 ha10 ha11 ha13
  clear hs g13 g5 g13b
  have A00 := Lib.hid (show St 25 w.heap.size #[.int .i64 0, .bool false, .bool false, .int .i64 0, .int .i64 0, .int .i64 0, .int .i64 0, .int .i64 0, .int .i64 0, .string ⟨#[]⟩] ((w.alloc (.cells #[.int .i64 0, .bool false, .bool false, .int .i64 0, .int .i64 0, .int .i64 0, .int .i64 0, .int .i64 0, .int .i64 0, .string ⟨#[]⟩] 25 (0, 0))).alloc (.cells #[.int .i64 0, .bool false, .bool false, .int .i64 0, .int .i64 0, .int .i64 0, .int .i64 0, .int .i64 0, .int .i64 0, .string ⟨#[]⟩] 25 (0, 0))) from (St.new w 25 _).alloc _)
  have K0 := Lib.hid (show St 25 (w.heap.size + 1) #[.int .i64 0, .bool false, .bool false, .int .i64 0, .int .i64 0, .int .i64 0, .int .i64 0, .int .i64 0, .int .i64 0, .string ⟨#[]⟩] ((w.alloc (.cells #[.int .i64 0, .bool false, .bool false, .int .i64 0, .int .i64 0, .int .i64 0, .int .i64 0, .int .i64 0, .int .i64 0, .string ⟨#[]⟩] 25 (0, 0))).alloc (.cells #[.int .i64 0, .bool false, .bool false, .int .i64 0, .int .i64 0, .int .i64 0, .int .i64 0, .int .i64 0, .int .i64 0, .string ⟨#[]⟩] 25 (0, 0))) from by have := St.new (w.alloc (.cells #[.int .i64 0, .bool false, .bool false, .int .i64 0, .int .i64 0, .int .i64 0, .int .i64 0, .int .i64 0, .int .i64 0, .string ⟨#[]⟩] 25 (0, 0))) 25 #[.int .i64 0, .bool false, .bool false, .int .i64 0, .int .i64 0, .int .i64 0, .int .i64 0, .int .i64 0, .int .i64 0, .string ⟨#[]⟩]; simpa using this)
  have L0 := Lib.hid (show Below w.heap.size w ((w.alloc (.cells #[.int .i64 0, .bool false, .bool false, .int .i64 0, .int .i64 0, .int .i64 0, .int .i64 0, .int .i64 0, .int .i64 0, .string ⟨#[]⟩] 25 (0, 0))).alloc (.cells #[.int .i64 0, .bool false, .bool false, .int .i64 0, .int .i64 0, .int .i64 0, .int .i64 0, .int .i64 0, .int .i64 0, .string ⟨#[]⟩] 25 (0, 0))) from (below_one w _).alloc (by simp) _)
  dsimp only [Mg.arr, Mg.zero]
  go_enter Tryd.func12, Tryd.ntmps12
  go_wp2_with (first
    | (go_at_call 26; (first | (with_reducible refine (A0.out _).mono ?_) | (with_reducible refine (A1.out _).mono ?_) | (with_reducible refine (A2.out _).mono ?_) | (with_reducible refine (A3.out _).mono ?_) | (with_reducible refine (A4.out _).mono ?_) | (with_reducible refine (A5.out _).mono ?_) | (with_reducible refine (A6.out _).mono ?_) | (with_reducible refine (A7.out _).mono ?_) | (with_reducible refine (A8.out _).mono ?_) | (with_reducible refine (A9.out _).mono ?_) | (with_reducible refine (A10.out _).mono ?_) | (with_reducible refine (A11.out _).mono ?_) | (with_reducible refine (A12.out _).mono ?_) | (with_reducible refine (A13.out _).mono ?_)); rintro e w3 ⟨rfl, b3⟩; (first | (have V4 := Lib.hid (VC.below V4.out b3); have cc := V4.out.b.msg.cell (j := 8) rfl; have ff := V4.out.b.msg.free 8; have cc3 := V4.out.b.msg.cell (j := 3) rfl; have ff3 := V4.out.b.msg.free 3; have cc9 := V4.out.b.msg.cell (j := 9) rfl; have ff9 := V4.out.b.msg.free 9) | (have V3 := Lib.hid (VB.below (V3.out.set 2 _) b3); have cc := V3.out.msg.cell (j := 8) rfl; have ff := V3.out.msg.free 8; have cc9 := V3.out.msg.cell (j := 9) rfl; have ff9 := V3.out.msg.free 9) | (have V3 := Lib.hid (VB.below V3.out b3); have cc := V3.out.msg.cell (j := 8) rfl; have ff := V3.out.msg.free 8; have cc2 := V3.out.msg.cell (j := 2) rfl; have ff2 := V3.out.msg.free 2) | (have V := Lib.hid (VA.below V.out b3))); clear b3)
    | (go_at_call 19; go_must (refine (HO.out _).mono ?_); rintro e w3 ⟨rfl, b3⟩; (first | (have V4 := Lib.hid (VC.below V4.out b3); have cc := V4.out.b.msg.cell (j := 8) rfl; have ff := V4.out.b.msg.free 8; have cc3 := V4.out.b.msg.cell (j := 3) rfl; have ff3 := V4.out.b.msg.free 3; have cc9 := V4.out.b.msg.cell (j := 9) rfl; have ff9 := V4.out.b.msg.free 9) | (have V3 := Lib.hid (VB.below (V3.out.set 2 _) b3); have cc := V3.out.msg.cell (j := 8) rfl; have ff := V3.out.msg.free 8; have cc9 := V3.out.msg.cell (j := 9) rfl; have ff9 := V3.out.msg.free 9) | (have V3 := Lib.hid (VB.below V3.out b3); have cc := V3.out.msg.cell (j := 8) rfl; have ff := V3.out.msg.free 8; have cc2 := V3.out.msg.cell (j := 2) rfl; have ff2 := V3.out.msg.free 2) | (have V := Lib.hid (VA.below V.out b3))); clear b3)
    | (go_at_call 8; go_must (refine (HC.out _).mono ?_); rintro e w3 ⟨rfl, b3⟩; have V3 := Lib.hid (VB.below ((V3.out.set 8 _).set 9 _) b3); clear b3)
    | ((with_reducible show wpList _ _ _ ({ dst := _, op := .build 25 #[], type := _, pos := _, after := _, guard := _ } :: _) _ _); refine wpList_build_as rfl 25 _ rfl #[.int .i64 0, .bool false, .bool false, .int .i64 0, .int .i64 0, .int .i64 0, .int .i64 0, .int .i64 0, .int .i64 0, .string ⟨#[]⟩] mzero_built ?_)
    | ((with_reducible show wpList _ _ _ ({ dst := _, op := .build 25 _, type := _, pos := _, after := _, guard := _ } :: _) _ _); refine wpList_build_as rfl 25 _ rfl #[.int .i64 a0, .bool false, .bool false, .int .i64 0, .int .i64 0, .int .i64 0, .int .i64 0, .int .i64 0, .int .i64 0, .string ⟨#[]⟩] (mnew_built _ _) ?_)
    | ((with_reducible show wpList _ _ _ ({ dst := _, op := .build 23 _, type := _, pos := _, after := _, guard := _ } :: _) _ _); refine wpList_build_as rfl 23 _ rfl #[.int .i64 a8, .int .i64 a9, .int .i64 a10, .int .i64 a11] (cred_built _ _ _ _) ?_)
    | ((with_reducible show wpList _ _ _ ({ dst := _, op := .store _ (.tmp 4) _, type := _, pos := _, after := _, guard := _ } :: _) _ _); refine wpList_store_st rfl 25 _ _ rfl (w.heap.size + 1) #[.int .i64 0, .bool false, .bool false, .int .i64 0, .int .i64 0, .int .i64 0, .int .i64 0, .int .i64 0, .int .i64 0, .string ⟨#[]⟩] rfl rfl _ K0.out (by kernel_rfl) rfl (by kernel_rfl) ?_; intro wz hz hst; have V := Lib.hid (show VA w wz from ⟨by rw [hz]; exact A00.out.setRow_other (by omega) _, hst, by rw [hz]; exact below_row L0.out (by omega) _⟩); clear hz hst)
    | ((with_reducible show wpList _ _ _ ({ dst := _, op := .store _ (.tmp 6) _, type := _, pos := _, after := _, guard := _ } :: _) _ _); refine wpList_store_st rfl 25 _ _ rfl _ #[.int .i64 a0, .bool false, .bool false, .int .i64 0, .int .i64 0, .int .i64 0, .int .i64 0, .int .i64 0, .int .i64 0, .string ⟨#[]⟩] rfl rfl _ (St.new w3 25 _) (by kernel_rfl) rfl (by kernel_rfl) ?_; rw [alloc_row]; intro wz hz hst; subst hz; have V3 := Lib.hid (V.out.toB #[.int .i64 a0, .bool false, .bool false, .int .i64 0, .int .i64 0, .int .i64 0, .int .i64 0, .int .i64 0, .int .i64 0, .string ⟨#[]⟩]); clear hst)
    | ((with_reducible show wpList _ _ _ ({ dst := _, op := .store _ (.tmp 7) _, type := _, pos := _, after := _, guard := _ } :: _) _ _); refine wpList_store_st rfl 23 _ _ rfl _ #[.int .i64 a8, .int .i64 a9, .int .i64 a10, .int .i64 a11] rfl rfl _ (St.new w3 23 _) (by kernel_rfl) rfl (by kernel_rfl) ?_; rw [alloc_row]; intro wz hz hst; subst hz; have V4 := Lib.hid (V3.out.toC #[.int .i64 a8, .int .i64 a9, .int .i64 a10, .int .i64 a11]); clear hst)
    | ((with_reducible show wpList _ _ _ ({ dst := _, op := .load _ (.tmp 4), type := _, pos := _, after := _, guard := _ } :: _) _ _); refine wpList_load_st rfl 25 _ rfl _ rfl 25 #[.int .i64 0, .bool false, .bool false, .int .i64 0, .int .i64 0, .int .i64 0, .int .i64 0, .int .i64 0, .int .i64 0, .string ⟨#[]⟩] (by first | exact V3.out.a.non | exact V.out.non) _ Tryd.underlying25 rfl (by kernel_rfl) ?_)
    | ((with_reducible show wpList _ _ _ ({ dst := _, op := .load _ (.tmp 7), type := _, pos := _, after := _, guard := _ } :: _) _ _); refine wpList_load_stg (by rfl) 23 _ rfl _ rfl 23 #[.int .i64 a8, .int .i64 a9, .int .i64 a10, .int .i64 a11] V4.out.own _ Tryd.underlying23 rfl (by kernel_rfl) ?_)
    | ((with_reducible show wpList _ _ _ ({ dst := _, op := .load _ (.tmp 6), type := _, pos := _, after := _, guard := _ } :: _) _ _); refine wpList_load_st rfl 25 _ rfl _ rfl 25 #[.int .i64 a0, .bool false, .bool false, .int .i64 0, .int .i64 0, .int .i64 0, .int .i64 0, .int .i64 0, .int .i64 4, .string ⟨#[]⟩] (by exact (V4.out.set 8 _).b.msg) _ Tryd.underlying25 rfl (by kernel_rfl) ?_)
    | ((with_reducible show wpList _ _ _ ({ dst := _, op := .store _ (.tmp 2) _, type := _, pos := _, after := _, guard := _ } :: _) _ _); refine wpList_store_st rfl 25 _ _ rfl w.heap.size #[.int .i64 a0, .bool false, .bool false, .int .i64 0, .int .i64 0, .int .i64 0, .int .i64 0, .int .i64 0, .int .i64 4, .string ⟨#[]⟩] rfl rfl _ ((V4.out.set 8 _).b.a.res) (by kernel_rfl) rfl (by kernel_rfl) ?_; intro wz hz hst; have HQ := Lib.hid hz; have HR := Lib.hid hst; clear hz hst))
  refine ret_cell2 (r := 2) (t := 3) (k := w.heap.size) (T := 25) Tryd.results12 rfl rfl HR.out Tryd.underlying25 rfl (by kernel_rfl) rfl ?_
  have e0 := HQ.out
  subst e0
  exact ⟨rfl, below_row (V4.out.set 8 _).b.a.low (Nat.le_refl _) _⟩

set_option maxRecDepth 100000 in
set_option maxHeartbeats 4000000 in
theorem mfGet_c9e (s : ByteArray) (w : World) (hs : s.size ≤ 2048)(h1 : atW s 1 = 0) (h2 : atW s 2 = 2) (h3 : atW s 3 = 100003) (h4 : atW s 4 = 3) (h13 : atW s 13 = 0) (g5 : atW s 5 ≤ 21) (h6 : atW s 6 = 1) (h7 : atW s 7 = 16) (h12 : atW s 12 = 0) (go : okOwner (atW s 8) (atW s 9) (atW s 10) (atW s 11) = false) : Calls Tryd.prog 12 #[.string s] w fun e w' => e = .returned (.tuple #[.agg (mgGet s).1.arr, .int .i64 (mgGet s).2]) ∧ Below w.heap.size w w' := by
  have e : mgGet s = ({ Mg.zero with xid := atW s 0, accept := 4 }, 0) := by
    unfold mgGet
    rw [if_neg (by omega), if_neg (by omega), if_neg (by omega), if_neg (by omega), if_neg (by omega), if_neg (by omega), if_neg (by omega), if_neg (by omega), if_neg (by omega), if_pos (Or.inr (Or.inr (Or.inr (Or.inr (Or.inl go)))))]
  rw [e]
  clear e
  have A0 : ∀ W, Calls Tryd.prog 26 #[.string s, .int .i64 0] W fun e w' => e = .returned (.int .i64 (atW s 0)) ∧ Below W.heap.size W w' := fun W => mfat_any s 0 W (by omega) (by decide)
  have A1 : ∀ W, Calls Tryd.prog 26 #[.string s, .int .i64 1] W fun e w' => e = .returned (.int .i64 (atW s 1)) ∧ Below W.heap.size W w' := fun W => mfat_any s 1 W (by omega) (by decide)
  have A2 : ∀ W, Calls Tryd.prog 26 #[.string s, .int .i64 2] W fun e w' => e = .returned (.int .i64 (atW s 2)) ∧ Below W.heap.size W w' := fun W => mfat_any s 2 W (by omega) (by decide)
  have A3 : ∀ W, Calls Tryd.prog 26 #[.string s, .int .i64 3] W fun e w' => e = .returned (.int .i64 (atW s 3)) ∧ Below W.heap.size W w' := fun W => mfat_any s 3 W (by omega) (by decide)
  have A4 : ∀ W, Calls Tryd.prog 26 #[.string s, .int .i64 4] W fun e w' => e = .returned (.int .i64 (atW s 4)) ∧ Below W.heap.size W w' := fun W => mfat_any s 4 W (by omega) (by decide)
  have A5 : ∀ W, Calls Tryd.prog 26 #[.string s, .int .i64 5] W fun e w' => e = .returned (.int .i64 (atW s 5)) ∧ Below W.heap.size W w' := fun W => mfat_any s 5 W (by omega) (by decide)
  have A6 : ∀ W, Calls Tryd.prog 26 #[.string s, .int .i64 6] W fun e w' => e = .returned (.int .i64 (atW s 6)) ∧ Below W.heap.size W w' := fun W => mfat_any s 6 W (by omega) (by decide)
  have A7 : ∀ W, Calls Tryd.prog 26 #[.string s, .int .i64 7] W fun e w' => e = .returned (.int .i64 (atW s 7)) ∧ Below W.heap.size W w' := fun W => mfat_any s 7 W (by omega) (by decide)
  have A8 : ∀ W, Calls Tryd.prog 26 #[.string s, .int .i64 8] W fun e w' => e = .returned (.int .i64 (atW s 8)) ∧ Below W.heap.size W w' := fun W => mfat_any s 8 W (by omega) (by decide)
  have A9 : ∀ W, Calls Tryd.prog 26 #[.string s, .int .i64 9] W fun e w' => e = .returned (.int .i64 (atW s 9)) ∧ Below W.heap.size W w' := fun W => mfat_any s 9 W (by omega) (by decide)
  have A10 : ∀ W, Calls Tryd.prog 26 #[.string s, .int .i64 10] W fun e w' => e = .returned (.int .i64 (atW s 10)) ∧ Below W.heap.size W w' := fun W => mfat_any s 10 W (by omega) (by decide)
  have A11 : ∀ W, Calls Tryd.prog 26 #[.string s, .int .i64 11] W fun e w' => e = .returned (.int .i64 (atW s 11)) ∧ Below W.heap.size W w' := fun W => mfat_any s 11 W (by omega) (by decide)
  have A12 : ∀ W, Calls Tryd.prog 26 #[.string s, .int .i64 12] W fun e w' => e = .returned (.int .i64 (atW s 12)) ∧ Below W.heap.size W w' := fun W => mfat_any s 12 W (by omega) (by decide)
  have A13 : ∀ W, Calls Tryd.prog 26 #[.string s, .int .i64 13] W fun e w' => e = .returned (.int .i64 (atW s 13)) ∧ Below W.heap.size W w' := fun W => mfat_any s 13 W (by omega) (by decide)
  obtain ⟨a0, ha0⟩ : ∃ a, a = atW s 0 := ⟨_, rfl⟩
  rw [← ha0] at A0
  rw [h1] at A1
  rw [h2] at A2
  rw [h3] at A3
  rw [h4] at A4
  obtain ⟨a5, ha5⟩ : ∃ a, a = atW s 5 := ⟨_, rfl⟩
  rw [← ha5] at A5
  rw [h6] at A6
  rw [h7] at A7
  obtain ⟨a8, ha8⟩ : ∃ a, a = atW s 8 := ⟨_, rfl⟩
  rw [← ha8] at A8
  obtain ⟨a9, ha9⟩ : ∃ a, a = atW s 9 := ⟨_, rfl⟩
  rw [← ha9] at A9
  obtain ⟨a10, ha10⟩ : ∃ a, a = atW s 10 := ⟨_, rfl⟩
  rw [← ha10] at A10
  obtain ⟨a11, ha11⟩ : ∃ a, a = atW s 11 := ⟨_, rfl⟩
  rw [← ha11] at A11
  rw [h12] at A12
  rw [h13] at A13
  rw [← ha5] at g5
  have d0 : decide ((s.size : Int) > 2048) = false := decide_eq_false (by omega)
  have d5 : decide (a5 > 21) = false := decide_eq_false (by omega)
  rw [← ha0]
  rw [← ha8, ← ha9, ← ha10, ← ha11] at go
  have HO := Lib.hid (fun W => mfOwner_any a8 a9 a10 a11 W)
  rw [go] at HO
  clear go
  replace A0 := Lib.hid A0
  replace A1 := Lib.hid A1
  replace A2 := Lib.hid A2
  replace A3 := Lib.hid A3
  replace A4 := Lib.hid A4
  replace A5 := Lib.hid A5
  replace A6 := Lib.hid A6
  replace A7 := Lib.hid A7
  replace A8 := Lib.hid A8
  replace A9 := Lib.hid A9
  replace A10 := Lib.hid A10
  replace A11 := Lib.hid A11
  replace A12 := Lib.hid A12
  replace A13 := Lib.hid A13
  clear ha0 ha5 ha8 ha9 ha10 ha11
  clear hs g5
  have A00 := Lib.hid (show St 25 w.heap.size #[.int .i64 0, .bool false, .bool false, .int .i64 0, .int .i64 0, .int .i64 0, .int .i64 0, .int .i64 0, .int .i64 0, .string ⟨#[]⟩] ((w.alloc (.cells #[.int .i64 0, .bool false, .bool false, .int .i64 0, .int .i64 0, .int .i64 0, .int .i64 0, .int .i64 0, .int .i64 0, .string ⟨#[]⟩] 25 (0, 0))).alloc (.cells #[.int .i64 0, .bool false, .bool false, .int .i64 0, .int .i64 0, .int .i64 0, .int .i64 0, .int .i64 0, .int .i64 0, .string ⟨#[]⟩] 25 (0, 0))) from (St.new w 25 _).alloc _)
  have K0 := Lib.hid (show St 25 (w.heap.size + 1) #[.int .i64 0, .bool false, .bool false, .int .i64 0, .int .i64 0, .int .i64 0, .int .i64 0, .int .i64 0, .int .i64 0, .string ⟨#[]⟩] ((w.alloc (.cells #[.int .i64 0, .bool false, .bool false, .int .i64 0, .int .i64 0, .int .i64 0, .int .i64 0, .int .i64 0, .int .i64 0, .string ⟨#[]⟩] 25 (0, 0))).alloc (.cells #[.int .i64 0, .bool false, .bool false, .int .i64 0, .int .i64 0, .int .i64 0, .int .i64 0, .int .i64 0, .int .i64 0, .string ⟨#[]⟩] 25 (0, 0))) from by have := St.new (w.alloc (.cells #[.int .i64 0, .bool false, .bool false, .int .i64 0, .int .i64 0, .int .i64 0, .int .i64 0, .int .i64 0, .int .i64 0, .string ⟨#[]⟩] 25 (0, 0))) 25 #[.int .i64 0, .bool false, .bool false, .int .i64 0, .int .i64 0, .int .i64 0, .int .i64 0, .int .i64 0, .int .i64 0, .string ⟨#[]⟩]; simpa using this)
  have L0 := Lib.hid (show Below w.heap.size w ((w.alloc (.cells #[.int .i64 0, .bool false, .bool false, .int .i64 0, .int .i64 0, .int .i64 0, .int .i64 0, .int .i64 0, .int .i64 0, .string ⟨#[]⟩] 25 (0, 0))).alloc (.cells #[.int .i64 0, .bool false, .bool false, .int .i64 0, .int .i64 0, .int .i64 0, .int .i64 0, .int .i64 0, .int .i64 0, .string ⟨#[]⟩] 25 (0, 0))) from (below_one w _).alloc (by simp) _)
  dsimp only [Mg.arr, Mg.zero]
  go_enter Tryd.func12, Tryd.ntmps12
  go_wp2_with (first
    | (go_at_call 26; (first | (with_reducible refine (A0.out _).mono ?_) | (with_reducible refine (A1.out _).mono ?_) | (with_reducible refine (A2.out _).mono ?_) | (with_reducible refine (A3.out _).mono ?_) | (with_reducible refine (A4.out _).mono ?_) | (with_reducible refine (A5.out _).mono ?_) | (with_reducible refine (A6.out _).mono ?_) | (with_reducible refine (A7.out _).mono ?_) | (with_reducible refine (A8.out _).mono ?_) | (with_reducible refine (A9.out _).mono ?_) | (with_reducible refine (A10.out _).mono ?_) | (with_reducible refine (A11.out _).mono ?_) | (with_reducible refine (A12.out _).mono ?_) | (with_reducible refine (A13.out _).mono ?_)); rintro e w3 ⟨rfl, b3⟩; (first | (have V4 := Lib.hid (VC.below V4.out b3); have cc := V4.out.b.msg.cell (j := 8) rfl; have ff := V4.out.b.msg.free 8; have cc3 := V4.out.b.msg.cell (j := 3) rfl; have ff3 := V4.out.b.msg.free 3; have cc9 := V4.out.b.msg.cell (j := 9) rfl; have ff9 := V4.out.b.msg.free 9) | (have V3 := Lib.hid (VB.below (V3.out.set 2 _) b3); have cc := V3.out.msg.cell (j := 8) rfl; have ff := V3.out.msg.free 8; have cc9 := V3.out.msg.cell (j := 9) rfl; have ff9 := V3.out.msg.free 9) | (have V3 := Lib.hid (VB.below V3.out b3); have cc := V3.out.msg.cell (j := 8) rfl; have ff := V3.out.msg.free 8; have cc2 := V3.out.msg.cell (j := 2) rfl; have ff2 := V3.out.msg.free 2) | (have V := Lib.hid (VA.below V.out b3))); clear b3)
    | (go_at_call 19; go_must (refine (HO.out _).mono ?_); rintro e w3 ⟨rfl, b3⟩; (first | (have V4 := Lib.hid (VC.below V4.out b3); have cc := V4.out.b.msg.cell (j := 8) rfl; have ff := V4.out.b.msg.free 8; have cc3 := V4.out.b.msg.cell (j := 3) rfl; have ff3 := V4.out.b.msg.free 3; have cc9 := V4.out.b.msg.cell (j := 9) rfl; have ff9 := V4.out.b.msg.free 9) | (have V3 := Lib.hid (VB.below (V3.out.set 2 _) b3); have cc := V3.out.msg.cell (j := 8) rfl; have ff := V3.out.msg.free 8; have cc9 := V3.out.msg.cell (j := 9) rfl; have ff9 := V3.out.msg.free 9) | (have V3 := Lib.hid (VB.below V3.out b3); have cc := V3.out.msg.cell (j := 8) rfl; have ff := V3.out.msg.free 8; have cc2 := V3.out.msg.cell (j := 2) rfl; have ff2 := V3.out.msg.free 2) | (have V := Lib.hid (VA.below V.out b3))); clear b3)
    | (go_at_call 8; go_must (refine (HC.out _).mono ?_); rintro e w3 ⟨rfl, b3⟩; have V3 := Lib.hid (VB.below ((V3.out.set 8 _).set 9 _) b3); clear b3)
    | ((with_reducible show wpList _ _ _ ({ dst := _, op := .build 25 #[], type := _, pos := _, after := _, guard := _ } :: _) _ _); refine wpList_build_as rfl 25 _ rfl #[.int .i64 0, .bool false, .bool false, .int .i64 0, .int .i64 0, .int .i64 0, .int .i64 0, .int .i64 0, .int .i64 0, .string ⟨#[]⟩] mzero_built ?_)
    | ((with_reducible show wpList _ _ _ ({ dst := _, op := .build 25 _, type := _, pos := _, after := _, guard := _ } :: _) _ _); refine wpList_build_as rfl 25 _ rfl #[.int .i64 a0, .bool false, .bool false, .int .i64 0, .int .i64 0, .int .i64 0, .int .i64 0, .int .i64 0, .int .i64 0, .string ⟨#[]⟩] (mnew_built _ _) ?_)
    | ((with_reducible show wpList _ _ _ ({ dst := _, op := .build 23 _, type := _, pos := _, after := _, guard := _ } :: _) _ _); refine wpList_build_as rfl 23 _ rfl #[.int .i64 a8, .int .i64 a9, .int .i64 a10, .int .i64 a11] (cred_built _ _ _ _) ?_)
    | ((with_reducible show wpList _ _ _ ({ dst := _, op := .store _ (.tmp 4) _, type := _, pos := _, after := _, guard := _ } :: _) _ _); refine wpList_store_st rfl 25 _ _ rfl (w.heap.size + 1) #[.int .i64 0, .bool false, .bool false, .int .i64 0, .int .i64 0, .int .i64 0, .int .i64 0, .int .i64 0, .int .i64 0, .string ⟨#[]⟩] rfl rfl _ K0.out (by kernel_rfl) rfl (by kernel_rfl) ?_; intro wz hz hst; have V := Lib.hid (show VA w wz from ⟨by rw [hz]; exact A00.out.setRow_other (by omega) _, hst, by rw [hz]; exact below_row L0.out (by omega) _⟩); clear hz hst)
    | ((with_reducible show wpList _ _ _ ({ dst := _, op := .store _ (.tmp 6) _, type := _, pos := _, after := _, guard := _ } :: _) _ _); refine wpList_store_st rfl 25 _ _ rfl _ #[.int .i64 a0, .bool false, .bool false, .int .i64 0, .int .i64 0, .int .i64 0, .int .i64 0, .int .i64 0, .int .i64 0, .string ⟨#[]⟩] rfl rfl _ (St.new w3 25 _) (by kernel_rfl) rfl (by kernel_rfl) ?_; rw [alloc_row]; intro wz hz hst; subst hz; have V3 := Lib.hid (V.out.toB #[.int .i64 a0, .bool false, .bool false, .int .i64 0, .int .i64 0, .int .i64 0, .int .i64 0, .int .i64 0, .int .i64 0, .string ⟨#[]⟩]); clear hst)
    | ((with_reducible show wpList _ _ _ ({ dst := _, op := .store _ (.tmp 7) _, type := _, pos := _, after := _, guard := _ } :: _) _ _); refine wpList_store_st rfl 23 _ _ rfl _ #[.int .i64 a8, .int .i64 a9, .int .i64 a10, .int .i64 a11] rfl rfl _ (St.new w3 23 _) (by kernel_rfl) rfl (by kernel_rfl) ?_; rw [alloc_row]; intro wz hz hst; subst hz; have V4 := Lib.hid (V3.out.toC #[.int .i64 a8, .int .i64 a9, .int .i64 a10, .int .i64 a11]); clear hst)
    | ((with_reducible show wpList _ _ _ ({ dst := _, op := .load _ (.tmp 4), type := _, pos := _, after := _, guard := _ } :: _) _ _); refine wpList_load_st rfl 25 _ rfl _ rfl 25 #[.int .i64 0, .bool false, .bool false, .int .i64 0, .int .i64 0, .int .i64 0, .int .i64 0, .int .i64 0, .int .i64 0, .string ⟨#[]⟩] (by first | exact V3.out.a.non | exact V.out.non) _ Tryd.underlying25 rfl (by kernel_rfl) ?_)
    | ((with_reducible show wpList _ _ _ ({ dst := _, op := .load _ (.tmp 7), type := _, pos := _, after := _, guard := _ } :: _) _ _); refine wpList_load_stg (by rfl) 23 _ rfl _ rfl 23 #[.int .i64 a8, .int .i64 a9, .int .i64 a10, .int .i64 a11] V4.out.own _ Tryd.underlying23 rfl (by kernel_rfl) ?_)
    | ((with_reducible show wpList _ _ _ ({ dst := _, op := .load _ (.tmp 6), type := _, pos := _, after := _, guard := _ } :: _) _ _); refine wpList_load_st rfl 25 _ rfl _ rfl 25 #[.int .i64 a0, .bool false, .bool false, .int .i64 0, .int .i64 0, .int .i64 0, .int .i64 0, .int .i64 0, .int .i64 4, .string ⟨#[]⟩] (by exact (V4.out.set 8 _).b.msg) _ Tryd.underlying25 rfl (by kernel_rfl) ?_)
    | ((with_reducible show wpList _ _ _ ({ dst := _, op := .store _ (.tmp 2) _, type := _, pos := _, after := _, guard := _ } :: _) _ _); refine wpList_store_st rfl 25 _ _ rfl w.heap.size #[.int .i64 a0, .bool false, .bool false, .int .i64 0, .int .i64 0, .int .i64 0, .int .i64 0, .int .i64 0, .int .i64 4, .string ⟨#[]⟩] rfl rfl _ ((V4.out.set 8 _).b.a.res) (by kernel_rfl) rfl (by kernel_rfl) ?_; intro wz hz hst; have HQ := Lib.hid hz; have HR := Lib.hid hst; clear hz hst))
  refine ret_cell2 (r := 2) (t := 3) (k := w.heap.size) (T := 25) Tryd.results12 rfl rfl HR.out Tryd.underlying25 rfl (by kernel_rfl) rfl ?_
  have e0 := HQ.out
  subst e0
  exact ⟨rfl, below_row (V4.out.set 8 _).b.a.low (Nat.le_refl _) _⟩

set_option maxRecDepth 100000 in
set_option maxHeartbeats 4000000 in
theorem mfGet_c9f (s : ByteArray) (w : World) (hs : s.size ≤ 2048)(h1 : atW s 1 = 0) (h2 : atW s 2 = 2) (h3 : atW s 3 = 100003) (h4 : atW s 4 = 3) (h13 : atW s 13 = 0) (g5 : atW s 5 ≤ 21) (h6 : atW s 6 = 1) (h7 : atW s 7 = 16) (h12 : atW s 12 = 0) (go : okOwner (atW s 8) (atW s 9) (atW s 10) (atW s 11) = true) (gm : s.size % 4 ≠ 0) : Calls Tryd.prog 12 #[.string s] w fun e w' => e = .returned (.tuple #[.agg (mgGet s).1.arr, .int .i64 (mgGet s).2]) ∧ Below w.heap.size w w' := by
  have e : mgGet s = ({ Mg.zero with xid := atW s 0, accept := 4 }, 0) := by
    unfold mgGet
    rw [if_neg (by omega), if_neg (by omega), if_neg (by omega), if_neg (by omega), if_neg (by omega), if_neg (by omega), if_neg (by omega), if_neg (by omega), if_neg (by omega), if_pos (Or.inr (Or.inr (Or.inr (Or.inr (Or.inr gm)))))]
  rw [e]
  clear e
  have A0 : ∀ W, Calls Tryd.prog 26 #[.string s, .int .i64 0] W fun e w' => e = .returned (.int .i64 (atW s 0)) ∧ Below W.heap.size W w' := fun W => mfat_any s 0 W (by omega) (by decide)
  have A1 : ∀ W, Calls Tryd.prog 26 #[.string s, .int .i64 1] W fun e w' => e = .returned (.int .i64 (atW s 1)) ∧ Below W.heap.size W w' := fun W => mfat_any s 1 W (by omega) (by decide)
  have A2 : ∀ W, Calls Tryd.prog 26 #[.string s, .int .i64 2] W fun e w' => e = .returned (.int .i64 (atW s 2)) ∧ Below W.heap.size W w' := fun W => mfat_any s 2 W (by omega) (by decide)
  have A3 : ∀ W, Calls Tryd.prog 26 #[.string s, .int .i64 3] W fun e w' => e = .returned (.int .i64 (atW s 3)) ∧ Below W.heap.size W w' := fun W => mfat_any s 3 W (by omega) (by decide)
  have A4 : ∀ W, Calls Tryd.prog 26 #[.string s, .int .i64 4] W fun e w' => e = .returned (.int .i64 (atW s 4)) ∧ Below W.heap.size W w' := fun W => mfat_any s 4 W (by omega) (by decide)
  have A5 : ∀ W, Calls Tryd.prog 26 #[.string s, .int .i64 5] W fun e w' => e = .returned (.int .i64 (atW s 5)) ∧ Below W.heap.size W w' := fun W => mfat_any s 5 W (by omega) (by decide)
  have A6 : ∀ W, Calls Tryd.prog 26 #[.string s, .int .i64 6] W fun e w' => e = .returned (.int .i64 (atW s 6)) ∧ Below W.heap.size W w' := fun W => mfat_any s 6 W (by omega) (by decide)
  have A7 : ∀ W, Calls Tryd.prog 26 #[.string s, .int .i64 7] W fun e w' => e = .returned (.int .i64 (atW s 7)) ∧ Below W.heap.size W w' := fun W => mfat_any s 7 W (by omega) (by decide)
  have A8 : ∀ W, Calls Tryd.prog 26 #[.string s, .int .i64 8] W fun e w' => e = .returned (.int .i64 (atW s 8)) ∧ Below W.heap.size W w' := fun W => mfat_any s 8 W (by omega) (by decide)
  have A9 : ∀ W, Calls Tryd.prog 26 #[.string s, .int .i64 9] W fun e w' => e = .returned (.int .i64 (atW s 9)) ∧ Below W.heap.size W w' := fun W => mfat_any s 9 W (by omega) (by decide)
  have A10 : ∀ W, Calls Tryd.prog 26 #[.string s, .int .i64 10] W fun e w' => e = .returned (.int .i64 (atW s 10)) ∧ Below W.heap.size W w' := fun W => mfat_any s 10 W (by omega) (by decide)
  have A11 : ∀ W, Calls Tryd.prog 26 #[.string s, .int .i64 11] W fun e w' => e = .returned (.int .i64 (atW s 11)) ∧ Below W.heap.size W w' := fun W => mfat_any s 11 W (by omega) (by decide)
  have A12 : ∀ W, Calls Tryd.prog 26 #[.string s, .int .i64 12] W fun e w' => e = .returned (.int .i64 (atW s 12)) ∧ Below W.heap.size W w' := fun W => mfat_any s 12 W (by omega) (by decide)
  have A13 : ∀ W, Calls Tryd.prog 26 #[.string s, .int .i64 13] W fun e w' => e = .returned (.int .i64 (atW s 13)) ∧ Below W.heap.size W w' := fun W => mfat_any s 13 W (by omega) (by decide)
  obtain ⟨a0, ha0⟩ : ∃ a, a = atW s 0 := ⟨_, rfl⟩
  rw [← ha0] at A0
  rw [h1] at A1
  rw [h2] at A2
  rw [h3] at A3
  rw [h4] at A4
  obtain ⟨a5, ha5⟩ : ∃ a, a = atW s 5 := ⟨_, rfl⟩
  rw [← ha5] at A5
  rw [h6] at A6
  rw [h7] at A7
  obtain ⟨a8, ha8⟩ : ∃ a, a = atW s 8 := ⟨_, rfl⟩
  rw [← ha8] at A8
  obtain ⟨a9, ha9⟩ : ∃ a, a = atW s 9 := ⟨_, rfl⟩
  rw [← ha9] at A9
  obtain ⟨a10, ha10⟩ : ∃ a, a = atW s 10 := ⟨_, rfl⟩
  rw [← ha10] at A10
  obtain ⟨a11, ha11⟩ : ∃ a, a = atW s 11 := ⟨_, rfl⟩
  rw [← ha11] at A11
  rw [h12] at A12
  rw [h13] at A13
  rw [← ha5] at g5
  have d0 : decide ((s.size : Int) > 2048) = false := decide_eq_false (by omega)
  have d5 : decide (a5 > 21) = false := decide_eq_false (by omega)
  have m4 : (((s.size : Int) % 4) != 0) = true := by simp; omega
  rw [← ha0]
  rw [← ha8, ← ha9, ← ha10, ← ha11] at go
  have HO := Lib.hid (fun W => mfOwner_any a8 a9 a10 a11 W)
  rw [go] at HO
  clear go
  replace A0 := Lib.hid A0
  replace A1 := Lib.hid A1
  replace A2 := Lib.hid A2
  replace A3 := Lib.hid A3
  replace A4 := Lib.hid A4
  replace A5 := Lib.hid A5
  replace A6 := Lib.hid A6
  replace A7 := Lib.hid A7
  replace A8 := Lib.hid A8
  replace A9 := Lib.hid A9
  replace A10 := Lib.hid A10
  replace A11 := Lib.hid A11
  replace A12 := Lib.hid A12
  replace A13 := Lib.hid A13
  clear ha0 ha5 ha8 ha9 ha10 ha11
  clear hs g5 gm
  have A00 := Lib.hid (show St 25 w.heap.size #[.int .i64 0, .bool false, .bool false, .int .i64 0, .int .i64 0, .int .i64 0, .int .i64 0, .int .i64 0, .int .i64 0, .string ⟨#[]⟩] ((w.alloc (.cells #[.int .i64 0, .bool false, .bool false, .int .i64 0, .int .i64 0, .int .i64 0, .int .i64 0, .int .i64 0, .int .i64 0, .string ⟨#[]⟩] 25 (0, 0))).alloc (.cells #[.int .i64 0, .bool false, .bool false, .int .i64 0, .int .i64 0, .int .i64 0, .int .i64 0, .int .i64 0, .int .i64 0, .string ⟨#[]⟩] 25 (0, 0))) from (St.new w 25 _).alloc _)
  have K0 := Lib.hid (show St 25 (w.heap.size + 1) #[.int .i64 0, .bool false, .bool false, .int .i64 0, .int .i64 0, .int .i64 0, .int .i64 0, .int .i64 0, .int .i64 0, .string ⟨#[]⟩] ((w.alloc (.cells #[.int .i64 0, .bool false, .bool false, .int .i64 0, .int .i64 0, .int .i64 0, .int .i64 0, .int .i64 0, .int .i64 0, .string ⟨#[]⟩] 25 (0, 0))).alloc (.cells #[.int .i64 0, .bool false, .bool false, .int .i64 0, .int .i64 0, .int .i64 0, .int .i64 0, .int .i64 0, .int .i64 0, .string ⟨#[]⟩] 25 (0, 0))) from by have := St.new (w.alloc (.cells #[.int .i64 0, .bool false, .bool false, .int .i64 0, .int .i64 0, .int .i64 0, .int .i64 0, .int .i64 0, .int .i64 0, .string ⟨#[]⟩] 25 (0, 0))) 25 #[.int .i64 0, .bool false, .bool false, .int .i64 0, .int .i64 0, .int .i64 0, .int .i64 0, .int .i64 0, .int .i64 0, .string ⟨#[]⟩]; simpa using this)
  have L0 := Lib.hid (show Below w.heap.size w ((w.alloc (.cells #[.int .i64 0, .bool false, .bool false, .int .i64 0, .int .i64 0, .int .i64 0, .int .i64 0, .int .i64 0, .int .i64 0, .string ⟨#[]⟩] 25 (0, 0))).alloc (.cells #[.int .i64 0, .bool false, .bool false, .int .i64 0, .int .i64 0, .int .i64 0, .int .i64 0, .int .i64 0, .int .i64 0, .string ⟨#[]⟩] 25 (0, 0))) from (below_one w _).alloc (by simp) _)
  dsimp only [Mg.arr, Mg.zero]
  go_enter Tryd.func12, Tryd.ntmps12
  go_wp2_with (first
    | (go_at_call 26; (first | (with_reducible refine (A0.out _).mono ?_) | (with_reducible refine (A1.out _).mono ?_) | (with_reducible refine (A2.out _).mono ?_) | (with_reducible refine (A3.out _).mono ?_) | (with_reducible refine (A4.out _).mono ?_) | (with_reducible refine (A5.out _).mono ?_) | (with_reducible refine (A6.out _).mono ?_) | (with_reducible refine (A7.out _).mono ?_) | (with_reducible refine (A8.out _).mono ?_) | (with_reducible refine (A9.out _).mono ?_) | (with_reducible refine (A10.out _).mono ?_) | (with_reducible refine (A11.out _).mono ?_) | (with_reducible refine (A12.out _).mono ?_) | (with_reducible refine (A13.out _).mono ?_)); rintro e w3 ⟨rfl, b3⟩; (first | (have V4 := Lib.hid (VC.below V4.out b3); have cc := V4.out.b.msg.cell (j := 8) rfl; have ff := V4.out.b.msg.free 8; have cc3 := V4.out.b.msg.cell (j := 3) rfl; have ff3 := V4.out.b.msg.free 3; have cc9 := V4.out.b.msg.cell (j := 9) rfl; have ff9 := V4.out.b.msg.free 9) | (have V3 := Lib.hid (VB.below (V3.out.set 2 _) b3); have cc := V3.out.msg.cell (j := 8) rfl; have ff := V3.out.msg.free 8; have cc9 := V3.out.msg.cell (j := 9) rfl; have ff9 := V3.out.msg.free 9) | (have V3 := Lib.hid (VB.below V3.out b3); have cc := V3.out.msg.cell (j := 8) rfl; have ff := V3.out.msg.free 8; have cc2 := V3.out.msg.cell (j := 2) rfl; have ff2 := V3.out.msg.free 2) | (have V := Lib.hid (VA.below V.out b3))); clear b3)
    | (go_at_call 19; go_must (refine (HO.out _).mono ?_); rintro e w3 ⟨rfl, b3⟩; (first | (have V4 := Lib.hid (VC.below V4.out b3); have cc := V4.out.b.msg.cell (j := 8) rfl; have ff := V4.out.b.msg.free 8; have cc3 := V4.out.b.msg.cell (j := 3) rfl; have ff3 := V4.out.b.msg.free 3; have cc9 := V4.out.b.msg.cell (j := 9) rfl; have ff9 := V4.out.b.msg.free 9) | (have V3 := Lib.hid (VB.below (V3.out.set 2 _) b3); have cc := V3.out.msg.cell (j := 8) rfl; have ff := V3.out.msg.free 8; have cc9 := V3.out.msg.cell (j := 9) rfl; have ff9 := V3.out.msg.free 9) | (have V3 := Lib.hid (VB.below V3.out b3); have cc := V3.out.msg.cell (j := 8) rfl; have ff := V3.out.msg.free 8; have cc2 := V3.out.msg.cell (j := 2) rfl; have ff2 := V3.out.msg.free 2) | (have V := Lib.hid (VA.below V.out b3))); clear b3)
    | (go_at_call 8; go_must (refine (HC.out _).mono ?_); rintro e w3 ⟨rfl, b3⟩; have V3 := Lib.hid (VB.below ((V3.out.set 8 _).set 9 _) b3); clear b3)
    | ((with_reducible show wpList _ _ _ ({ dst := _, op := .build 25 #[], type := _, pos := _, after := _, guard := _ } :: _) _ _); refine wpList_build_as rfl 25 _ rfl #[.int .i64 0, .bool false, .bool false, .int .i64 0, .int .i64 0, .int .i64 0, .int .i64 0, .int .i64 0, .int .i64 0, .string ⟨#[]⟩] mzero_built ?_)
    | ((with_reducible show wpList _ _ _ ({ dst := _, op := .build 25 _, type := _, pos := _, after := _, guard := _ } :: _) _ _); refine wpList_build_as rfl 25 _ rfl #[.int .i64 a0, .bool false, .bool false, .int .i64 0, .int .i64 0, .int .i64 0, .int .i64 0, .int .i64 0, .int .i64 0, .string ⟨#[]⟩] (mnew_built _ _) ?_)
    | ((with_reducible show wpList _ _ _ ({ dst := _, op := .build 23 _, type := _, pos := _, after := _, guard := _ } :: _) _ _); refine wpList_build_as rfl 23 _ rfl #[.int .i64 a8, .int .i64 a9, .int .i64 a10, .int .i64 a11] (cred_built _ _ _ _) ?_)
    | ((with_reducible show wpList _ _ _ ({ dst := _, op := .store _ (.tmp 4) _, type := _, pos := _, after := _, guard := _ } :: _) _ _); refine wpList_store_st rfl 25 _ _ rfl (w.heap.size + 1) #[.int .i64 0, .bool false, .bool false, .int .i64 0, .int .i64 0, .int .i64 0, .int .i64 0, .int .i64 0, .int .i64 0, .string ⟨#[]⟩] rfl rfl _ K0.out (by kernel_rfl) rfl (by kernel_rfl) ?_; intro wz hz hst; have V := Lib.hid (show VA w wz from ⟨by rw [hz]; exact A00.out.setRow_other (by omega) _, hst, by rw [hz]; exact below_row L0.out (by omega) _⟩); clear hz hst)
    | ((with_reducible show wpList _ _ _ ({ dst := _, op := .store _ (.tmp 6) _, type := _, pos := _, after := _, guard := _ } :: _) _ _); refine wpList_store_st rfl 25 _ _ rfl _ #[.int .i64 a0, .bool false, .bool false, .int .i64 0, .int .i64 0, .int .i64 0, .int .i64 0, .int .i64 0, .int .i64 0, .string ⟨#[]⟩] rfl rfl _ (St.new w3 25 _) (by kernel_rfl) rfl (by kernel_rfl) ?_; rw [alloc_row]; intro wz hz hst; subst hz; have V3 := Lib.hid (V.out.toB #[.int .i64 a0, .bool false, .bool false, .int .i64 0, .int .i64 0, .int .i64 0, .int .i64 0, .int .i64 0, .int .i64 0, .string ⟨#[]⟩]); clear hst)
    | ((with_reducible show wpList _ _ _ ({ dst := _, op := .store _ (.tmp 7) _, type := _, pos := _, after := _, guard := _ } :: _) _ _); refine wpList_store_st rfl 23 _ _ rfl _ #[.int .i64 a8, .int .i64 a9, .int .i64 a10, .int .i64 a11] rfl rfl _ (St.new w3 23 _) (by kernel_rfl) rfl (by kernel_rfl) ?_; rw [alloc_row]; intro wz hz hst; subst hz; have V4 := Lib.hid (V3.out.toC #[.int .i64 a8, .int .i64 a9, .int .i64 a10, .int .i64 a11]); clear hst)
    | ((with_reducible show wpList _ _ _ ({ dst := _, op := .load _ (.tmp 4), type := _, pos := _, after := _, guard := _ } :: _) _ _); refine wpList_load_st rfl 25 _ rfl _ rfl 25 #[.int .i64 0, .bool false, .bool false, .int .i64 0, .int .i64 0, .int .i64 0, .int .i64 0, .int .i64 0, .int .i64 0, .string ⟨#[]⟩] (by first | exact V3.out.a.non | exact V.out.non) _ Tryd.underlying25 rfl (by kernel_rfl) ?_)
    | ((with_reducible show wpList _ _ _ ({ dst := _, op := .load _ (.tmp 7), type := _, pos := _, after := _, guard := _ } :: _) _ _); refine wpList_load_stg (by rfl) 23 _ rfl _ rfl 23 #[.int .i64 a8, .int .i64 a9, .int .i64 a10, .int .i64 a11] V4.out.own _ Tryd.underlying23 rfl (by kernel_rfl) ?_)
    | ((with_reducible show wpList _ _ _ ({ dst := _, op := .load _ (.tmp 6), type := _, pos := _, after := _, guard := _ } :: _) _ _); refine wpList_load_st rfl 25 _ rfl _ rfl 25 #[.int .i64 a0, .bool false, .bool false, .int .i64 0, .int .i64 0, .int .i64 0, .int .i64 0, .int .i64 0, .int .i64 4, .string ⟨#[]⟩] (by exact (V4.out.set 8 _).b.msg) _ Tryd.underlying25 rfl (by kernel_rfl) ?_)
    | ((with_reducible show wpList _ _ _ ({ dst := _, op := .store _ (.tmp 2) _, type := _, pos := _, after := _, guard := _ } :: _) _ _); refine wpList_store_st rfl 25 _ _ rfl w.heap.size #[.int .i64 a0, .bool false, .bool false, .int .i64 0, .int .i64 0, .int .i64 0, .int .i64 0, .int .i64 0, .int .i64 4, .string ⟨#[]⟩] rfl rfl _ ((V4.out.set 8 _).b.a.res) (by kernel_rfl) rfl (by kernel_rfl) ?_; intro wz hz hst; have HQ := Lib.hid hz; have HR := Lib.hid hst; clear hz hst))
  refine ret_cell2 (r := 2) (t := 3) (k := w.heap.size) (T := 25) Tryd.results12 rfl rfl HR.out Tryd.underlying25 rfl (by kernel_rfl) rfl ?_
  have e0 := HQ.out
  subst e0
  exact ⟨rfl, below_row (V4.out.set 8 _).b.a.low (Nat.le_refl _) _⟩

set_option maxRecDepth 100000 in
set_option maxHeartbeats 4000000 in
theorem mfGet_call (s : ByteArray) (w : World) (hs : s.size ≤ 2048)(h1 : atW s 1 = 0) (h2 : atW s 2 = 2) (h3 : atW s 3 = 100003) (h4 : atW s 4 = 3) (h13 : atW s 13 = 0) (g5 : atW s 5 ≤ 21) (h6 : atW s 6 = 1) (h7 : atW s 7 = 16) (h12 : atW s 12 = 0) (go : okOwner (atW s 8) (atW s 9) (atW s 10) (atW s 11) = true) (gm : s.size % 4 = 0) : Calls Tryd.prog 12 #[.string s] w fun e w' => e = .returned (.tuple #[.agg (mgGet s).1.arr, .int .i64 (mgGet s).2]) ∧ Below w.heap.size w w' := by
  have e : mgGet s = (⟨atW s 0, false, false, atW s 5, atW s 8, atW s 9, atW s 10, atW s 11, 0, s.extract 56 s.size⟩, 0) := by
    unfold mgGet
    rw [if_neg (by omega), if_neg (by omega), if_neg (by omega), if_neg (by omega), if_neg (by omega), if_neg (by omega), if_neg (by omega), if_neg (by omega), if_neg (by omega), if_neg (by simp [h6, h7, h12, h13, go, gm])]
  rw [e]
  clear e
  have A0 : ∀ W, Calls Tryd.prog 26 #[.string s, .int .i64 0] W fun e w' => e = .returned (.int .i64 (atW s 0)) ∧ Below W.heap.size W w' := fun W => mfat_any s 0 W (by omega) (by decide)
  have A1 : ∀ W, Calls Tryd.prog 26 #[.string s, .int .i64 1] W fun e w' => e = .returned (.int .i64 (atW s 1)) ∧ Below W.heap.size W w' := fun W => mfat_any s 1 W (by omega) (by decide)
  have A2 : ∀ W, Calls Tryd.prog 26 #[.string s, .int .i64 2] W fun e w' => e = .returned (.int .i64 (atW s 2)) ∧ Below W.heap.size W w' := fun W => mfat_any s 2 W (by omega) (by decide)
  have A3 : ∀ W, Calls Tryd.prog 26 #[.string s, .int .i64 3] W fun e w' => e = .returned (.int .i64 (atW s 3)) ∧ Below W.heap.size W w' := fun W => mfat_any s 3 W (by omega) (by decide)
  have A4 : ∀ W, Calls Tryd.prog 26 #[.string s, .int .i64 4] W fun e w' => e = .returned (.int .i64 (atW s 4)) ∧ Below W.heap.size W w' := fun W => mfat_any s 4 W (by omega) (by decide)
  have A5 : ∀ W, Calls Tryd.prog 26 #[.string s, .int .i64 5] W fun e w' => e = .returned (.int .i64 (atW s 5)) ∧ Below W.heap.size W w' := fun W => mfat_any s 5 W (by omega) (by decide)
  have A6 : ∀ W, Calls Tryd.prog 26 #[.string s, .int .i64 6] W fun e w' => e = .returned (.int .i64 (atW s 6)) ∧ Below W.heap.size W w' := fun W => mfat_any s 6 W (by omega) (by decide)
  have A7 : ∀ W, Calls Tryd.prog 26 #[.string s, .int .i64 7] W fun e w' => e = .returned (.int .i64 (atW s 7)) ∧ Below W.heap.size W w' := fun W => mfat_any s 7 W (by omega) (by decide)
  have A8 : ∀ W, Calls Tryd.prog 26 #[.string s, .int .i64 8] W fun e w' => e = .returned (.int .i64 (atW s 8)) ∧ Below W.heap.size W w' := fun W => mfat_any s 8 W (by omega) (by decide)
  have A9 : ∀ W, Calls Tryd.prog 26 #[.string s, .int .i64 9] W fun e w' => e = .returned (.int .i64 (atW s 9)) ∧ Below W.heap.size W w' := fun W => mfat_any s 9 W (by omega) (by decide)
  have A10 : ∀ W, Calls Tryd.prog 26 #[.string s, .int .i64 10] W fun e w' => e = .returned (.int .i64 (atW s 10)) ∧ Below W.heap.size W w' := fun W => mfat_any s 10 W (by omega) (by decide)
  have A11 : ∀ W, Calls Tryd.prog 26 #[.string s, .int .i64 11] W fun e w' => e = .returned (.int .i64 (atW s 11)) ∧ Below W.heap.size W w' := fun W => mfat_any s 11 W (by omega) (by decide)
  have A12 : ∀ W, Calls Tryd.prog 26 #[.string s, .int .i64 12] W fun e w' => e = .returned (.int .i64 (atW s 12)) ∧ Below W.heap.size W w' := fun W => mfat_any s 12 W (by omega) (by decide)
  have A13 : ∀ W, Calls Tryd.prog 26 #[.string s, .int .i64 13] W fun e w' => e = .returned (.int .i64 (atW s 13)) ∧ Below W.heap.size W w' := fun W => mfat_any s 13 W (by omega) (by decide)
  obtain ⟨a0, ha0⟩ : ∃ a, a = atW s 0 := ⟨_, rfl⟩
  rw [← ha0] at A0
  rw [h1] at A1
  rw [h2] at A2
  rw [h3] at A3
  rw [h4] at A4
  obtain ⟨a5, ha5⟩ : ∃ a, a = atW s 5 := ⟨_, rfl⟩
  rw [← ha5] at A5
  rw [h6] at A6
  rw [h7] at A7
  obtain ⟨a8, ha8⟩ : ∃ a, a = atW s 8 := ⟨_, rfl⟩
  rw [← ha8] at A8
  obtain ⟨a9, ha9⟩ : ∃ a, a = atW s 9 := ⟨_, rfl⟩
  rw [← ha9] at A9
  obtain ⟨a10, ha10⟩ : ∃ a, a = atW s 10 := ⟨_, rfl⟩
  rw [← ha10] at A10
  obtain ⟨a11, ha11⟩ : ∃ a, a = atW s 11 := ⟨_, rfl⟩
  rw [← ha11] at A11
  rw [h12] at A12
  rw [h13] at A13
  rw [← ha5] at g5
  have d0 : decide ((s.size : Int) > 2048) = false := decide_eq_false (by omega)
  have d5 : decide (a5 > 21) = false := decide_eq_false (by omega)
  have m4 : (((s.size : Int) % 4) != 0) = false := by simp; omega
  rw [← ha0]
  rw [← ha5, ← ha8, ← ha9, ← ha10, ← ha11]
  rw [← ha8, ← ha9, ← ha10, ← ha11] at go
  have HO := Lib.hid (fun W => mfOwner_any a8 a9 a10 a11 W)
  rw [go] at HO
  clear go
  have hl : 56 ≤ s.size := by have := atW_there (s := s) (i := 13) (by omega); omega
  obtain ⟨bd, hbd⟩ : ∃ b, b = s.extract 56 s.size := ⟨_, rfl⟩
  rw [← hbd]
  have z56 : (56 : Int) ≤ (s.size : Int) := by omega
  have z56n : 56 ≤ s.size := hl
  have z56d : decide ((56 : Int) ≤ (s.size : Int)) = true := decide_eq_true z56
  have hbx := hbd.symm
  clear hbd hl gm g5 hs
  replace A0 := Lib.hid A0
  replace A1 := Lib.hid A1
  replace A2 := Lib.hid A2
  replace A3 := Lib.hid A3
  replace A4 := Lib.hid A4
  replace A5 := Lib.hid A5
  replace A6 := Lib.hid A6
  replace A7 := Lib.hid A7
  replace A8 := Lib.hid A8
  replace A9 := Lib.hid A9
  replace A10 := Lib.hid A10
  replace A11 := Lib.hid A11
  replace A12 := Lib.hid A12
  replace A13 := Lib.hid A13
  clear ha0 ha5 ha8 ha9 ha10 ha11
  have A00 := Lib.hid (show St 25 w.heap.size #[.int .i64 0, .bool false, .bool false, .int .i64 0, .int .i64 0, .int .i64 0, .int .i64 0, .int .i64 0, .int .i64 0, .string ⟨#[]⟩] ((w.alloc (.cells #[.int .i64 0, .bool false, .bool false, .int .i64 0, .int .i64 0, .int .i64 0, .int .i64 0, .int .i64 0, .int .i64 0, .string ⟨#[]⟩] 25 (0, 0))).alloc (.cells #[.int .i64 0, .bool false, .bool false, .int .i64 0, .int .i64 0, .int .i64 0, .int .i64 0, .int .i64 0, .int .i64 0, .string ⟨#[]⟩] 25 (0, 0))) from (St.new w 25 _).alloc _)
  have K0 := Lib.hid (show St 25 (w.heap.size + 1) #[.int .i64 0, .bool false, .bool false, .int .i64 0, .int .i64 0, .int .i64 0, .int .i64 0, .int .i64 0, .int .i64 0, .string ⟨#[]⟩] ((w.alloc (.cells #[.int .i64 0, .bool false, .bool false, .int .i64 0, .int .i64 0, .int .i64 0, .int .i64 0, .int .i64 0, .int .i64 0, .string ⟨#[]⟩] 25 (0, 0))).alloc (.cells #[.int .i64 0, .bool false, .bool false, .int .i64 0, .int .i64 0, .int .i64 0, .int .i64 0, .int .i64 0, .int .i64 0, .string ⟨#[]⟩] 25 (0, 0))) from by have := St.new (w.alloc (.cells #[.int .i64 0, .bool false, .bool false, .int .i64 0, .int .i64 0, .int .i64 0, .int .i64 0, .int .i64 0, .int .i64 0, .string ⟨#[]⟩] 25 (0, 0))) 25 #[.int .i64 0, .bool false, .bool false, .int .i64 0, .int .i64 0, .int .i64 0, .int .i64 0, .int .i64 0, .int .i64 0, .string ⟨#[]⟩]; simpa using this)
  have L0 := Lib.hid (show Below w.heap.size w ((w.alloc (.cells #[.int .i64 0, .bool false, .bool false, .int .i64 0, .int .i64 0, .int .i64 0, .int .i64 0, .int .i64 0, .int .i64 0, .string ⟨#[]⟩] 25 (0, 0))).alloc (.cells #[.int .i64 0, .bool false, .bool false, .int .i64 0, .int .i64 0, .int .i64 0, .int .i64 0, .int .i64 0, .int .i64 0, .string ⟨#[]⟩] 25 (0, 0))) from (below_one w _).alloc (by simp) _)
  dsimp only [Mg.arr, Mg.zero]
  go_enter Tryd.func12, Tryd.ntmps12
  go_wp2_with (first
    | (go_at_call 26; (first | (with_reducible refine (A0.out _).mono ?_) | (with_reducible refine (A1.out _).mono ?_) | (with_reducible refine (A2.out _).mono ?_) | (with_reducible refine (A3.out _).mono ?_) | (with_reducible refine (A4.out _).mono ?_) | (with_reducible refine (A5.out _).mono ?_) | (with_reducible refine (A6.out _).mono ?_) | (with_reducible refine (A7.out _).mono ?_) | (with_reducible refine (A8.out _).mono ?_) | (with_reducible refine (A9.out _).mono ?_) | (with_reducible refine (A10.out _).mono ?_) | (with_reducible refine (A11.out _).mono ?_) | (with_reducible refine (A12.out _).mono ?_) | (with_reducible refine (A13.out _).mono ?_)); rintro e w3 ⟨rfl, b3⟩; (first | (have V4 := Lib.hid (VC.below V4.out b3); have cc := V4.out.b.msg.cell (j := 8) rfl; have ff := V4.out.b.msg.free 8; have cc3 := V4.out.b.msg.cell (j := 3) rfl; have ff3 := V4.out.b.msg.free 3; have cc9 := V4.out.b.msg.cell (j := 9) rfl; have ff9 := V4.out.b.msg.free 9) | (have V3 := Lib.hid (VB.below (V3.out.set 2 _) b3); have cc := V3.out.msg.cell (j := 8) rfl; have ff := V3.out.msg.free 8; have cc9 := V3.out.msg.cell (j := 9) rfl; have ff9 := V3.out.msg.free 9) | (have V3 := Lib.hid (VB.below V3.out b3); have cc := V3.out.msg.cell (j := 8) rfl; have ff := V3.out.msg.free 8; have cc2 := V3.out.msg.cell (j := 2) rfl; have ff2 := V3.out.msg.free 2) | (have V := Lib.hid (VA.below V.out b3))); clear b3)
    | (go_at_call 19; go_must (refine (HO.out _).mono ?_); rintro e w3 ⟨rfl, b3⟩; (first | (have V4 := Lib.hid (VC.below V4.out b3); have cc := V4.out.b.msg.cell (j := 8) rfl; have ff := V4.out.b.msg.free 8; have cc3 := V4.out.b.msg.cell (j := 3) rfl; have ff3 := V4.out.b.msg.free 3; have cc9 := V4.out.b.msg.cell (j := 9) rfl; have ff9 := V4.out.b.msg.free 9) | (have V3 := Lib.hid (VB.below (V3.out.set 2 _) b3); have cc := V3.out.msg.cell (j := 8) rfl; have ff := V3.out.msg.free 8; have cc9 := V3.out.msg.cell (j := 9) rfl; have ff9 := V3.out.msg.free 9) | (have V3 := Lib.hid (VB.below V3.out b3); have cc := V3.out.msg.cell (j := 8) rfl; have ff := V3.out.msg.free 8; have cc2 := V3.out.msg.cell (j := 2) rfl; have ff2 := V3.out.msg.free 2) | (have V := Lib.hid (VA.below V.out b3))); clear b3)
    | (go_at_call 8; go_must (refine (HC.out _).mono ?_); rintro e w3 ⟨rfl, b3⟩; have V3 := Lib.hid (VB.below ((V3.out.set 8 _).set 9 _) b3); clear b3)
    | ((with_reducible show wpList _ _ _ ({ dst := _, op := .build 25 #[], type := _, pos := _, after := _, guard := _ } :: _) _ _); refine wpList_build_as rfl 25 _ rfl #[.int .i64 0, .bool false, .bool false, .int .i64 0, .int .i64 0, .int .i64 0, .int .i64 0, .int .i64 0, .int .i64 0, .string ⟨#[]⟩] mzero_built ?_)
    | ((with_reducible show wpList _ _ _ ({ dst := _, op := .build 25 _, type := _, pos := _, after := _, guard := _ } :: _) _ _); refine wpList_build_as rfl 25 _ rfl #[.int .i64 a0, .bool false, .bool false, .int .i64 0, .int .i64 0, .int .i64 0, .int .i64 0, .int .i64 0, .int .i64 0, .string ⟨#[]⟩] (mnew_built _ _) ?_)
    | ((with_reducible show wpList _ _ _ ({ dst := _, op := .build 23 _, type := _, pos := _, after := _, guard := _ } :: _) _ _); refine wpList_build_as rfl 23 _ rfl #[.int .i64 a8, .int .i64 a9, .int .i64 a10, .int .i64 a11] (cred_built _ _ _ _) ?_)
    | ((with_reducible show wpList _ _ _ ({ dst := _, op := .store _ (.tmp 4) _, type := _, pos := _, after := _, guard := _ } :: _) _ _); refine wpList_store_st rfl 25 _ _ rfl (w.heap.size + 1) #[.int .i64 0, .bool false, .bool false, .int .i64 0, .int .i64 0, .int .i64 0, .int .i64 0, .int .i64 0, .int .i64 0, .string ⟨#[]⟩] rfl rfl _ K0.out (by kernel_rfl) rfl (by kernel_rfl) ?_; intro wz hz hst; have V := Lib.hid (show VA w wz from ⟨by rw [hz]; exact A00.out.setRow_other (by omega) _, hst, by rw [hz]; exact below_row L0.out (by omega) _⟩); clear hz hst)
    | ((with_reducible show wpList _ _ _ ({ dst := _, op := .store _ (.tmp 6) _, type := _, pos := _, after := _, guard := _ } :: _) _ _); refine wpList_store_st rfl 25 _ _ rfl _ #[.int .i64 a0, .bool false, .bool false, .int .i64 0, .int .i64 0, .int .i64 0, .int .i64 0, .int .i64 0, .int .i64 0, .string ⟨#[]⟩] rfl rfl _ (St.new w3 25 _) (by kernel_rfl) rfl (by kernel_rfl) ?_; rw [alloc_row]; intro wz hz hst; subst hz; have V3 := Lib.hid (V.out.toB #[.int .i64 a0, .bool false, .bool false, .int .i64 0, .int .i64 0, .int .i64 0, .int .i64 0, .int .i64 0, .int .i64 0, .string ⟨#[]⟩]); clear hst)
    | ((with_reducible show wpList _ _ _ ({ dst := _, op := .store _ (.tmp 7) _, type := _, pos := _, after := _, guard := _ } :: _) _ _); refine wpList_store_st rfl 23 _ _ rfl _ #[.int .i64 a8, .int .i64 a9, .int .i64 a10, .int .i64 a11] rfl rfl _ (St.new w3 23 _) (by kernel_rfl) rfl (by kernel_rfl) ?_; rw [alloc_row]; intro wz hz hst; subst hz; have V4 := Lib.hid (V3.out.toC #[.int .i64 a8, .int .i64 a9, .int .i64 a10, .int .i64 a11]); clear hst)
    | ((with_reducible show wpList _ _ _ ({ dst := _, op := .load _ (.tmp 4), type := _, pos := _, after := _, guard := _ } :: _) _ _); refine wpList_load_st rfl 25 _ rfl _ rfl 25 #[.int .i64 0, .bool false, .bool false, .int .i64 0, .int .i64 0, .int .i64 0, .int .i64 0, .int .i64 0, .int .i64 0, .string ⟨#[]⟩] (by first | exact V3.out.a.non | exact V.out.non) _ Tryd.underlying25 rfl (by kernel_rfl) ?_)
    | ((with_reducible show wpList _ _ _ ({ dst := _, op := .load _ (.tmp 7), type := _, pos := _, after := _, guard := _ } :: _) _ _); refine wpList_load_stg (by rfl) 23 _ rfl _ rfl 23 #[.int .i64 a8, .int .i64 a9, .int .i64 a10, .int .i64 a11] (by first | exact V4.out.own | exact (V4.out.set 3 _).own) _ Tryd.underlying23 rfl (by kernel_rfl) ?_)
    | ((with_reducible show wpList _ _ _ ({ dst := _, op := .store _ (.tmp 144) _, type := _, pos := _, after := _, guard := _ } :: _) _ _); refine wpList_store_cred rfl 23 _ _ rfl rfl _ _ _ _ rfl (V4.out.set 3 _) (by simp) (by kernel_rfl) ?_; intro w5 v5; have V5 := Lib.hid (show VC w _ #[.int .i64 a0, .bool false, .bool false, .int .i64 a5, .int .i64 a8, .int .i64 a9, .int .i64 a10, .int .i64 a11, .int .i64 0, .string ⟨#[]⟩] _ _ w5 from v5); have cc9 := V5.out.b.msg.cell (j := 9) rfl; have ff9 := V5.out.b.msg.free 9; clear v5)
    | ((with_reducible show wpList _ _ _ ({ dst := _, op := .load _ (.tmp 6), type := _, pos := _, after := _, guard := _ } :: _) _ _); refine wpList_load_st rfl 25 _ rfl _ rfl 25 #[.int .i64 a0, .bool false, .bool false, .int .i64 a5, .int .i64 a8, .int .i64 a9, .int .i64 a10, .int .i64 a11, .int .i64 0, .string bd] (by exact (V5.out.set 9 _).b.msg) _ Tryd.underlying25 rfl (by kernel_rfl) ?_)
    | ((with_reducible show wpList _ _ _ ({ dst := _, op := .store _ (.tmp 2) _, type := _, pos := _, after := _, guard := _ } :: _) _ _); refine wpList_store_st rfl 25 _ _ rfl w.heap.size #[.int .i64 a0, .bool false, .bool false, .int .i64 a5, .int .i64 a8, .int .i64 a9, .int .i64 a10, .int .i64 a11, .int .i64 0, .string bd] rfl rfl _ ((V5.out.set 9 _).b.a.res) (by kernel_rfl) rfl (by kernel_rfl) ?_; intro wz hz hst; have HQ := Lib.hid hz; have HR := Lib.hid hst; clear hz hst))
  refine ret_cell2 (r := 2) (t := 3) (k := w.heap.size) (T := 25) Tryd.results12 rfl rfl HR.out Tryd.underlying25 rfl (by kernel_rfl) rfl ?_
  have e0 := HQ.out
  subst e0
  exact ⟨rfl, below_row (V5.out.set 9 _).b.a.low (Nat.le_refl _) _⟩

theorem mfGet_any (s : ByteArray) (w : World) (hs : s.size ≤ 1073741824) : Calls Tryd.prog 12 #[.string s] w fun e w' => e = .returned (.tuple #[.agg (mgGet s).1.arr, .int .i64 (mgGet s).2]) ∧ Below w.heap.size w w' := by
  by_cases hb : 2048 < s.size
  · exact mfGet_long s w hs hb
  have h : s.size ≤ 2048 := by omega
  by_cases h1 : atW s 1 = 1
  · by_cases h2 : atW s 2 = 0
    · by_cases g3 : atW s 3 < 0
      · exact mfGet_r3 s w h h1 h2 g3
      by_cases g3b : 1 < atW s 3
      · exact mfGet_r3b s w h h1 h2 g3b
      by_cases h4 : atW s 4 = 0
      · by_cases g5 : atW s 5 < 0
        · exact mfGet_r5 s w h h1 h2 (by omega) (by omega) h4 g5
        have h3 : atW s 3 = 0 ∨ atW s 3 = 1 := by omega
        rcases h3 with h3 | h3
        · cases gk : okMg { Mg.zero with xid := atW s 0, ans := true, again := decide (atW s 3 = 1), accept := atW s 5, body := s.extract 24 s.size } with
          | false => exact mfGet_rno0 s w h h1 h2 h3 h4 (by omega) gk
          | true => exact mfGet_rok0 s w h h1 h2 h3 h4 (by omega) gk
        · cases gk : okMg { Mg.zero with xid := atW s 0, ans := true, again := decide (atW s 3 = 1), accept := atW s 5, body := s.extract 24 s.size } with
          | false => exact mfGet_rno1 s w h h1 h2 h3 h4 (by omega) gk
          | true => exact mfGet_rok1 s w h h1 h2 h3 h4 (by omega) gk
      · exact mfGet_r4 s w h h1 h2 (by omega) (by omega) h4
    · exact mfGet_r2 s w h h1 h2
  by_cases h0 : atW s 1 = 0
  · by_cases h2 : atW s 2 = 2
    · by_cases g3 : atW s 3 < 0
      · exact mfGet_c3 s w h h0 h2 g3
      by_cases h3 : atW s 3 = 100003
      · by_cases g4 : atW s 4 < 0
        · exact mfGet_c5 s w h h0 h2 h3 g4
        by_cases h4 : atW s 4 = 3
        · by_cases g13 : atW s 13 < 0
          · exact mfGet_c7 s w h h0 h2 h3 h4 g13
          by_cases g5 : 21 < atW s 5
          · exact mfGet_c8 s w h h0 h2 h3 h4 (by omega) g5
          by_cases h6 : atW s 6 = 1
          · by_cases h7 : atW s 7 = 16
            · by_cases h12 : atW s 12 = 0
              · by_cases h13 : atW s 13 = 0
                · cases go : okOwner (atW s 8) (atW s 9) (atW s 10) (atW s 11) with
                  | false => exact mfGet_c9e s w h h0 h2 h3 h4 h13 (by omega) h6 h7 h12 go
                  | true =>
                    by_cases gm : s.size % 4 = 0
                    · exact mfGet_call s w h h0 h2 h3 h4 h13 (by omega) h6 h7 h12 go gm
                    · exact mfGet_c9f s w h h0 h2 h3 h4 h13 (by omega) h6 h7 h12 go gm
                · exact mfGet_c9d s w h h0 h2 h3 h4 (by omega) (by omega) h6 h7 h12 h13
              · exact mfGet_c9c s w h h0 h2 h3 h4 (by omega) (by omega) h6 h7 h12
            · exact mfGet_c9b s w h h0 h2 h3 h4 (by omega) (by omega) h6 h7
          · exact mfGet_c9a s w h h0 h2 h3 h4 (by omega) (by omega) h6
        · exact mfGet_c6 s w h h0 h2 h3 (by omega) h4
      · exact mfGet_c4 s w h h0 h2 (by omega) h3
    · exact mfGet_c2 s w h h0 h2
  · exact mfGet_kind s w h h0 h1
end Go.Proofs.YtimbcombhdgjiaaDoor
