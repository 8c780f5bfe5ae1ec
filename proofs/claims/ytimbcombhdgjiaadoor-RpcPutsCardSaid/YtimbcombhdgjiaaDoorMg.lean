/- Messages: the reference's Get. -/
import Derived.Test.YtimbcombhdgjiaaDoorMk
import Derived.Test.YtimbcombhdgjiaaDoorCw
namespace Go.Proofs.YtimbcombhdgjiaaDoor
open Go.RowKit

theorem mzero_built : Tryd.prog.built 25 [] = some #[.int .i64 0, .bool false, .bool false, .int .i64 0, .int .i64 0, .int .i64 0, .int .i64 0, .int .i64 0, .int .i64 0, .string ⟨#[]⟩] := by kernel_rfl
theorem mnew_built (x : Int) (a : Bool) : Tryd.prog.built 25 [(0, .int .i64 x), (1, .bool a)] = some #[.int .i64 x, .bool a, .bool false, .int .i64 0, .int .i64 0, .int .i64 0, .int .i64 0, .int .i64 0, .int .i64 0, .string ⟨#[]⟩] := by kernel_rfl
theorem cred_built (c s u g : Int) : Tryd.prog.built 23 [(0, .int .i64 c), (1, .int .i64 s), (2, .int .i64 u), (3, .int .i64 g)] = some #[.int .i64 c, .int .i64 s, .int .i64 u, .int .i64 g] := by kernel_rfl
/-- The result's block, and the one of no message. -/
structure VA (w W : World) : Prop where
  res : St 25 w.heap.size #[.int .i64 0, .bool false, .bool false, .int .i64 0, .int .i64 0, .int .i64 0, .int .i64 0, .int .i64 0, .int .i64 0, .string ⟨#[]⟩] W
  non : St 25 (w.heap.size + 1) #[.int .i64 0, .bool false, .bool false, .int .i64 0, .int .i64 0, .int .i64 0, .int .i64 0, .int .i64 0, .int .i64 0, .string ⟨#[]⟩] W
  low : Below w.heap.size w W
/-- .. and the message's. -/
structure VB (w : World) (k : Nat) (cs : Array Value) (W : World) : Prop where
  a : VA w W
  msg : St 25 k cs W
  hk : w.heap.size + 1 < k
/-- .. and its owner's. -/
structure VC (w : World) (k : Nat) (cs : Array Value) (j : Nat) (ds : Array Value) (W : World) : Prop where
  b : VB w k cs W
  own : St 23 j ds W
  hj : k < j
theorem VA.lt {w W : World} (h : VA w W) : w.heap.size + 1 < W.heap.size := h.non.lt
theorem VA.below {w W W' : World} (h : VA w W) (b : Below W.heap.size W W') : VA w W' := ⟨h.res.below b, h.non.below b, h.low.trans (b.mono h.low.size)⟩
theorem VB.below {w W W' : World} {k : Nat} {cs : Array Value} (h : VB w k cs W) (b : Below W.heap.size W W') : VB w k cs W' := ⟨h.a.below b, h.msg.below b, h.hk⟩
theorem VC.below {w W W' : World} {k j : Nat} {cs ds : Array Value} (h : VC w k cs j ds W) (b : Below W.heap.size W W') : VC w k cs j ds W' := ⟨h.b.below b, h.own.below b, h.hj⟩
theorem VA.toB {w W : World} (h : VA w W) (cs : Array Value) : VB w W.heap.size cs (W.alloc (.cells cs 25 (0, 0))) := ⟨⟨h.res.alloc _, h.non.alloc _, h.low.alloc h.low.size _⟩, St.new W 25 cs, h.lt⟩
theorem VB.toC {w W : World} {k : Nat} {cs : Array Value} (h : VB w k cs W) (ds : Array Value) : VC w k cs W.heap.size ds (W.alloc (.cells ds 23 (0, 0))) := ⟨⟨⟨h.a.res.alloc _, h.a.non.alloc _, h.a.low.alloc h.a.low.size _⟩, h.msg.alloc _, h.hk⟩, St.new W 23 ds, h.msg.lt⟩
theorem VB.set {w W : World} {k : Nat} {cs : Array Value} (h : VB w k cs W) (o : Nat) (v : Value) : VB w k (cs.setIfInBounds o v) (W.setCell ⟨k, o, none⟩ v) :=
  ⟨⟨h.a.res.other k o v (by have := h.hk; omega), h.a.non.other k o v (by have := h.hk; omega), h.a.low.setCell (by show w.heap.size ≤ k; have := h.hk; omega) v⟩, h.msg.set o v, h.hk⟩
theorem VC.set {w W : World} {k j : Nat} {cs ds : Array Value} (h : VC w k cs j ds W) (o : Nat) (v : Value) : VC w k (cs.setIfInBounds o v) j ds (W.setCell ⟨k, o, none⟩ v) :=
  ⟨h.b.set o v, h.own.other k o v (by have := h.hj; omega), h.hj⟩
theorem St.thereM {T : TypeId} {k : Nat} {cs : Array Value} {w : World} (h : St T k cs w) (o n : Nat) (hn : o + n ≤ cs.size) : w.there k o n := fun j hj =>
  ⟨by rw [h.cell (v := cs[o + j]'(by omega)) (Array.getElem?_eq_getElem _)]; rfl, h.free _⟩
theorem VC.set4 {w W : World} {k j : Nat} {cs ds : Array Value} (h : VC w k cs j ds W) (v4 v5 v6 v7 : Value) : VC w k ((((cs.setIfInBounds 4 v4).setIfInBounds 5 v5).setIfInBounds 6 v6).setIfInBounds 7 v7) j ds (W.setCells k 4 [v4, v5, v6, v7]) :=
  (((h.set 4 v4).set 5 v5).set 6 v6).set 7 v7
theorem wpList_store_cred {P : Program} {ops : Array Oper} {rest : List Oper} {o : Oper} {a : Act} {w W : World} {Q : Exit → Act → World → Prop} {k j : Nat} {cs ds : Array Value} (hgd : o.guard = none) (ty : TypeId) (x y : Operand) (ho : o.op = .store ty x y)
    (hx : a.eval x = .pointer (some ⟨k, 4, none⟩)) (c s u g : Int) (hy : a.eval y = .agg #[.int .i64 c, .int .i64 s, .int .i64 u, .int .i64 g]) (hV : VC w k cs j ds W) (hcs : 8 ≤ cs.size) (hi : (P.info? ty).map (·.size) = some 4)
    (h : ∀ w', VC w k ((((cs.setIfInBounds 4 (.int .i64 c)).setIfInBounds 5 (.int .i64 s)).setIfInBounds 6 (.int .i64 u)).setIfInBounds 7 (.int .i64 g)) j ds w' → wpList P ops Q rest (a.put o.dst undef) w') : wpList P ops Q (o :: rest) a W :=
  wpList_store_mid hgd ty x y ho k 4 #[.int .i64 c, .int .i64 s, .int .i64 u, .int .i64 g] hx hy (hV.b.msg.thereM 4 4 hcs) hi (by kernel_rfl) (h _ (hV.set4 _ _ _ _))

set_option maxRecDepth 100000 in
set_option maxHeartbeats 4000000 in
theorem mfGet_long (s : ByteArray) (w : World) (hs : s.size ≤ 1073741824) (hb : 2048 < s.size) : Calls Tryd.prog 12 #[.string s] w fun e w' => e = .returned (.tuple #[.agg (mgGet s).1.arr, .int .i64 (mgGet s).2]) ∧ Below w.heap.size w w' := by
  have e : mgGet s = (Mg.zero, 4) := by
    unfold mgGet
    rw [if_pos hb]
  rw [e]
  clear e
  have A0 : ∀ W, Calls Tryd.prog 26 #[.string s, .int .i64 0] W fun e w' => e = .returned (.int .i64 (atW s 0)) ∧ Below W.heap.size W w' := fun W => mfat_any s 0 W (by omega) (by decide)
  have A1 : ∀ W, Calls Tryd.prog 26 #[.string s, .int .i64 1] W fun e w' => e = .returned (.int .i64 (atW s 1)) ∧ Below W.heap.size W w' := fun W => mfat_any s 1 W (by omega) (by decide)
  have A2 : ∀ W, Calls Tryd.prog 26 #[.string s, .int .i64 2] W fun e w' => e = .returned (.int .i64 (atW s 2)) ∧ Below W.heap.size W w' := fun W => mfat_any s 2 W (by omega) (by decide)
  have A3 : ∀ W, Calls Tryd.prog 26 #[.string s, .int .i64 3] W fun e w' => e = .returned (.int .i64 (atW s 3)) ∧ Below W.heap.size W w' := fun W => mfat_any s 3 W (by omega) (by decide)
  have A4 : ∀ W, Calls Tryd.prog 26 #[.string s, .int .i64 4] W fun e w' => e = .returned (.int .i64 (atW s 4)) ∧ Below W.heap.size W w' := fun W => mfat_any s 4 W (by omega) (by decide)
  have A5 : ∀ W, Calls Tryd.prog 26 #[.string s, .int .i64 5] W fun e w' => e = .returned (.int .i64 (atW s 5)) ∧ Below W.heap.size W w' := fun W => mfat_any s 5 W (by omega) (by decide)
  have A6 : ∀ W, Calls Tryd.prog 26 #[.string s, .int .i64 6] W fun e w' => e = .returned (.int .i64 (atW s 6)) ∧ Below W.heap.size W w' := fun W => mfat_any s 6 W (by omega) (by decide)
  have A7 : ∀ W, Calls Tryd.prog 26 #[.string s, .int .i64 7] W fun e w' => e = .returned (.int .i64 (atW s 7)) ∧ Below W.heap.size W w' := fun W => mfat_any s 7 W (by omega) (by decide)
  have A8 : ∀ W, Calls Tryd.prog 26 #[.string s, .int .i64 8] W fun e w' => e = .returned (.int .i64 (atW s 8)) ∧ Below W.heap.size W w' := fun W => mfat_any s 8 W (by omega) (by decide)
  have A9 : ∀ W, Calls Tryd.prog 26 #[.string s, .int .i64 9] W fun e w' => e = .returned (.int .i64 (atW s 9)) ∧ Below W.heap.size W w' := fun W => mfat_any s 9 W (by omega) (by decide)
  have A10 : ∀ W, Calls Tryd.prog 26 #[.string s, .int .i64 10] W fun e w' => e = .returned (.int .i64 (atW s 10)) ∧ Below W.heap.size W w' := fun W => mfat_any s 10 W (by omega) (by decide)
  have A11 : ∀ W, Calls Tryd.prog 26 #[.string s, .int .i64 11] W fun e w' => e = .returned (.int .i64 (atW s 11)) ∧ Below W.heap.size W w' := fun W => mfat_any s 11 W (by omega) (by decide)
  have A12 : ∀ W, Calls Tryd.prog 26 #[.string s, .int .i64 12] W fun e w' => e = .returned (.int .i64 (atW s 12)) ∧ Below W.heap.size W w' := fun W => mfat_any s 12 W (by omega) (by decide)
  have A13 : ∀ W, Calls Tryd.prog 26 #[.string s, .int .i64 13] W fun e w' => e = .returned (.int .i64 (atW s 13)) ∧ Below W.heap.size W w' := fun W => mfat_any s 13 W (by omega) (by decide)
  obtain ⟨a0, ha0⟩ : ∃ a, a = atW s 0 := ⟨_, rfl⟩
  rw [← ha0] at A0
  obtain ⟨a1, ha1⟩ : ∃ a, a = atW s 1 := ⟨_, rfl⟩
  rw [← ha1] at A1
  obtain ⟨a2, ha2⟩ : ∃ a, a = atW s 2 := ⟨_, rfl⟩
  rw [← ha2] at A2
  obtain ⟨a3, ha3⟩ : ∃ a, a = atW s 3 := ⟨_, rfl⟩
  rw [← ha3] at A3
  obtain ⟨a4, ha4⟩ : ∃ a, a = atW s 4 := ⟨_, rfl⟩
  rw [← ha4] at A4
  obtain ⟨a5, ha5⟩ : ∃ a, a = atW s 5 := ⟨_, rfl⟩
  rw [← ha5] at A5
  obtain ⟨a6, ha6⟩ : ∃ a, a = atW s 6 := ⟨_, rfl⟩
  rw [← ha6] at A6
  obtain ⟨a7, ha7⟩ : ∃ a, a = atW s 7 := ⟨_, rfl⟩
  rw [← ha7] at A7
  obtain ⟨a8, ha8⟩ : ∃ a, a = atW s 8 := ⟨_, rfl⟩
  rw [← ha8] at A8
  obtain ⟨a9, ha9⟩ : ∃ a, a = atW s 9 := ⟨_, rfl⟩
  rw [← ha9] at A9
  obtain ⟨a10, ha10⟩ : ∃ a, a = atW s 10 := ⟨_, rfl⟩
  rw [← ha10] at A10
  obtain ⟨a11, ha11⟩ : ∃ a, a = atW s 11 := ⟨_, rfl⟩
  rw [← ha11] at A11
  obtain ⟨a12, ha12⟩ : ∃ a, a = atW s 12 := ⟨_, rfl⟩
  rw [← ha12] at A12
  obtain ⟨a13, ha13⟩ : ∃ a, a = atW s 13 := ⟨_, rfl⟩
  rw [← ha13] at A13
  have d0 : decide ((s.size : Int) > 2048) = true := decide_eq_true (by omega)
  replace A0 := Lib.hid A0
  replace A1 := Lib.hid A1
  replace A2 := Lib.hid A2
  replace A3 := Lib.hid A3
  replace A4 := Lib.hid A4
  replace A5 := Lib.hid A5
  replace A6 := Lib.hid A6
  replace A7 := Lib.hid A7
  replace A8 := Lib.hid A8
  replace A9 := Lib.hid A9
  replace A10 := Lib.hid A10
  replace A11 := Lib.hid A11
  replace A12 := Lib.hid A12
  replace A13 := Lib.hid A13
  clear ha0 ha1 ha2 ha3 ha4 ha5 ha6 ha7 ha8 ha9 ha10 ha11 ha12 ha13
  clear hs hb
  have A00 := Lib.hid (show St 25 w.heap.size #[.int .i64 0, .bool false, .bool false, .int .i64 0, .int .i64 0, .int .i64 0, .int .i64 0, .int .i64 0, .int .i64 0, .string ⟨#[]⟩] ((w.alloc (.cells #[.int .i64 0, .bool false, .bool false, .int .i64 0, .int .i64 0, .int .i64 0, .int .i64 0, .int .i64 0, .int .i64 0, .string ⟨#[]⟩] 25 (0, 0))).alloc (.cells #[.int .i64 0, .bool false, .bool false, .int .i64 0, .int .i64 0, .int .i64 0, .int .i64 0, .int .i64 0, .int .i64 0, .string ⟨#[]⟩] 25 (0, 0))) from (St.new w 25 _).alloc _)
  have K0 := Lib.hid (show St 25 (w.heap.size + 1) #[.int .i64 0, .bool false, .bool false, .int .i64 0, .int .i64 0, .int .i64 0, .int .i64 0, .int .i64 0, .int .i64 0, .string ⟨#[]⟩] ((w.alloc (.cells #[.int .i64 0, .bool false, .bool false, .int .i64 0, .int .i64 0, .int .i64 0, .int .i64 0, .int .i64 0, .int .i64 0, .string ⟨#[]⟩] 25 (0, 0))).alloc (.cells #[.int .i64 0, .bool false, .bool false, .int .i64 0, .int .i64 0, .int .i64 0, .int .i64 0, .int .i64 0, .int .i64 0, .string ⟨#[]⟩] 25 (0, 0))) from by have := St.new (w.alloc (.cells #[.int .i64 0, .bool false, .bool false, .int .i64 0, .int .i64 0, .int .i64 0, .int .i64 0, .int .i64 0, .int .i64 0, .string ⟨#[]⟩] 25 (0, 0))) 25 #[.int .i64 0, .bool false, .bool false, .int .i64 0, .int .i64 0, .int .i64 0, .int .i64 0, .int .i64 0, .int .i64 0, .string ⟨#[]⟩]; simpa using this)
  have L0 := Lib.hid (show Below w.heap.size w ((w.alloc (.cells #[.int .i64 0, .bool false, .bool false, .int .i64 0, .int .i64 0, .int .i64 0, .int .i64 0, .int .i64 0, .int .i64 0, .string ⟨#[]⟩] 25 (0, 0))).alloc (.cells #[.int .i64 0, .bool false, .bool false, .int .i64 0, .int .i64 0, .int .i64 0, .int .i64 0, .int .i64 0, .int .i64 0, .string ⟨#[]⟩] 25 (0, 0))) from (below_one w _).alloc (by simp) _)
  dsimp only [Mg.arr, Mg.zero]
  go_enter Tryd.func12, Tryd.ntmps12
  go_wp2_with (first
    | (go_at_call 26; (first | (with_reducible refine (A0.out _).mono ?_) | (with_reducible refine (A1.out _).mono ?_) | (with_reducible refine (A2.out _).mono ?_) | (with_reducible refine (A3.out _).mono ?_) | (with_reducible refine (A4.out _).mono ?_) | (with_reducible refine (A5.out _).mono ?_) | (with_reducible refine (A6.out _).mono ?_) | (with_reducible refine (A7.out _).mono ?_) | (with_reducible refine (A8.out _).mono ?_) | (with_reducible refine (A9.out _).mono ?_) | (with_reducible refine (A10.out _).mono ?_) | (with_reducible refine (A11.out _).mono ?_) | (with_reducible refine (A12.out _).mono ?_) | (with_reducible refine (A13.out _).mono ?_)); rintro e w3 ⟨rfl, b3⟩; (first | (have V4 := Lib.hid (VC.below V4.out b3); have cc := V4.out.b.msg.cell (j := 8) rfl; have ff := V4.out.b.msg.free 8; have cc3 := V4.out.b.msg.cell (j := 3) rfl; have ff3 := V4.out.b.msg.free 3; have cc9 := V4.out.b.msg.cell (j := 9) rfl; have ff9 := V4.out.b.msg.free 9) | (have V3 := Lib.hid (VB.below (V3.out.set 2 _) b3); have cc := V3.out.msg.cell (j := 8) rfl; have ff := V3.out.msg.free 8; have cc9 := V3.out.msg.cell (j := 9) rfl; have ff9 := V3.out.msg.free 9) | (have V3 := Lib.hid (VB.below V3.out b3); have cc := V3.out.msg.cell (j := 8) rfl; have ff := V3.out.msg.free 8; have cc2 := V3.out.msg.cell (j := 2) rfl; have ff2 := V3.out.msg.free 2) | (have V := Lib.hid (VA.below V.out b3))); clear b3)
    | (go_at_call 19; go_must (refine (HO.out _).mono ?_); rintro e w3 ⟨rfl, b3⟩; (first | (have V4 := Lib.hid (VC.below V4.out b3); have cc := V4.out.b.msg.cell (j := 8) rfl; have ff := V4.out.b.msg.free 8; have cc3 := V4.out.b.msg.cell (j := 3) rfl; have ff3 := V4.out.b.msg.free 3; have cc9 := V4.out.b.msg.cell (j := 9) rfl; have ff9 := V4.out.b.msg.free 9) | (have V3 := Lib.hid (VB.below (V3.out.set 2 _) b3); have cc := V3.out.msg.cell (j := 8) rfl; have ff := V3.out.msg.free 8; have cc9 := V3.out.msg.cell (j := 9) rfl; have ff9 := V3.out.msg.free 9) | (have V3 := Lib.hid (VB.below V3.out b3); have cc := V3.out.msg.cell (j := 8) rfl; have ff := V3.out.msg.free 8; have cc2 := V3.out.msg.cell (j := 2) rfl; have ff2 := V3.out.msg.free 2) | (have V := Lib.hid (VA.below V.out b3))); clear b3)
    | (go_at_call 8; go_must (refine (HC.out _).mono ?_); rintro e w3 ⟨rfl, b3⟩; have V3 := Lib.hid (VB.below ((V3.out.set 8 _).set 9 _) b3); clear b3)
    | ((with_reducible show wpList _ _ _ ({ dst := _, op := .build 25 #[], type := _, pos := _, after := _, guard := _ } :: _) _ _); refine wpList_build_as rfl 25 _ rfl #[.int .i64 0, .bool false, .bool false, .int .i64 0, .int .i64 0, .int .i64 0, .int .i64 0, .int .i64 0, .int .i64 0, .string ⟨#[]⟩] mzero_built ?_)
    | ((with_reducible show wpList _ _ _ ({ dst := _, op := .build 25 _, type := _, pos := _, after := _, guard := _ } :: _) _ _); refine wpList_build_as rfl 25 _ rfl #[.int .i64 a0, .bool false, .bool false, .int .i64 0, .int .i64 0, .int .i64 0, .int .i64 0, .int .i64 0, .int .i64 0, .string ⟨#[]⟩] (mnew_built _ _) ?_)
    | ((with_reducible show wpList _ _ _ ({ dst := _, op := .build 23 _, type := _, pos := _, after := _, guard := _ } :: _) _ _); refine wpList_build_as rfl 23 _ rfl #[.int .i64 a8, .int .i64 a9, .int .i64 a10, .int .i64 a11] (cred_built _ _ _ _) ?_)
    | ((with_reducible show wpList _ _ _ ({ dst := _, op := .store _ (.tmp 4) _, type := _, pos := _, after := _, guard := _ } :: _) _ _); refine wpList_store_st rfl 25 _ _ rfl (w.heap.size + 1) #[.int .i64 0, .bool false, .bool false, .int .i64 0, .int .i64 0, .int .i64 0, .int .i64 0, .int .i64 0, .int .i64 0, .string ⟨#[]⟩] rfl rfl _ K0.out (by kernel_rfl) rfl (by kernel_rfl) ?_; intro wz hz hst; have V := Lib.hid (show VA w wz from ⟨by rw [hz]; exact A00.out.setRow_other (by omega) _, hst, by rw [hz]; exact below_row L0.out (by omega) _⟩); clear hz hst)
    | ((with_reducible show wpList _ _ _ ({ dst := _, op := .store _ (.tmp 6) _, type := _, pos := _, after := _, guard := _ } :: _) _ _); refine wpList_store_st rfl 25 _ _ rfl _ #[.int .i64 a0, .bool false, .bool false, .int .i64 0, .int .i64 0, .int .i64 0, .int .i64 0, .int .i64 0, .int .i64 0, .string ⟨#[]⟩] rfl rfl _ (St.new w3 25 _) (by kernel_rfl) rfl (by kernel_rfl) ?_; rw [alloc_row]; intro wz hz hst; subst hz; have V3 := Lib.hid (V.out.toB #[.int .i64 a0, .bool false, .bool false, .int .i64 0, .int .i64 0, .int .i64 0, .int .i64 0, .int .i64 0, .int .i64 0, .string ⟨#[]⟩]); clear hst)
    | ((with_reducible show wpList _ _ _ ({ dst := _, op := .store _ (.tmp 7) _, type := _, pos := _, after := _, guard := _ } :: _) _ _); refine wpList_store_st rfl 23 _ _ rfl _ #[.int .i64 a8, .int .i64 a9, .int .i64 a10, .int .i64 a11] rfl rfl _ (St.new w3 23 _) (by kernel_rfl) rfl (by kernel_rfl) ?_; rw [alloc_row]; intro wz hz hst; subst hz; have V4 := Lib.hid (V3.out.toC #[.int .i64 a8, .int .i64 a9, .int .i64 a10, .int .i64 a11]); clear hst)
    | ((with_reducible show wpList _ _ _ ({ dst := _, op := .load _ (.tmp 4), type := _, pos := _, after := _, guard := _ } :: _) _ _); refine wpList_load_st rfl 25 _ rfl _ rfl 25 #[.int .i64 0, .bool false, .bool false, .int .i64 0, .int .i64 0, .int .i64 0, .int .i64 0, .int .i64 0, .int .i64 0, .string ⟨#[]⟩] (by first | exact V3.out.a.non | exact V.out.non) _ Tryd.underlying25 rfl (by kernel_rfl) ?_)
    | ((with_reducible show wpList _ _ _ ({ dst := _, op := .store _ (.tmp 2) _, type := _, pos := _, after := _, guard := _ } :: _) _ _); refine wpList_store_st rfl 25 _ _ rfl w.heap.size #[.int .i64 0, .bool false, .bool false, .int .i64 0, .int .i64 0, .int .i64 0, .int .i64 0, .int .i64 0, .int .i64 0, .string ⟨#[]⟩] rfl rfl _ (V.out.res) (by kernel_rfl) rfl (by kernel_rfl) ?_; intro wz hz hst; have HQ := Lib.hid hz; have HR := Lib.hid hst; clear hz hst))
  refine ret_cell2 (r := 2) (t := 3) (k := w.heap.size) (T := 25) Tryd.results12 rfl rfl HR.out Tryd.underlying25 rfl (by kernel_rfl) rfl ?_
  have e0 := HQ.out
  subst e0
  exact ⟨rfl, below_row V.out.low (Nat.le_refl _) _⟩

set_option maxRecDepth 100000 in
set_option maxHeartbeats 4000000 in
theorem mfGet_kind (s : ByteArray) (w : World) (hs : s.size ≤ 2048) (h1a : atW s 1 ≠ 0) (h1b : atW s 1 ≠ 1) : Calls Tryd.prog 12 #[.string s] w fun e w' => e = .returned (.tuple #[.agg (mgGet s).1.arr, .int .i64 (mgGet s).2]) ∧ Below w.heap.size w w' := by
  have e : mgGet s = (Mg.zero, 14) := by
    unfold mgGet
    rw [if_neg (by omega), if_pos ⟨h1a, h1b⟩]
  rw [e]
  clear e
  have A0 : ∀ W, Calls Tryd.prog 26 #[.string s, .int .i64 0] W fun e w' => e = .returned (.int .i64 (atW s 0)) ∧ Below W.heap.size W w' := fun W => mfat_any s 0 W (by omega) (by decide)
  have A1 : ∀ W, Calls Tryd.prog 26 #[.string s, .int .i64 1] W fun e w' => e = .returned (.int .i64 (atW s 1)) ∧ Below W.heap.size W w' := fun W => mfat_any s 1 W (by omega) (by decide)
  have A2 : ∀ W, Calls Tryd.prog 26 #[.string s, .int .i64 2] W fun e w' => e = .returned (.int .i64 (atW s 2)) ∧ Below W.heap.size W w' := fun W => mfat_any s 2 W (by omega) (by decide)
  have A3 : ∀ W, Calls Tryd.prog 26 #[.string s, .int .i64 3] W fun e w' => e = .returned (.int .i64 (atW s 3)) ∧ Below W.heap.size W w' := fun W => mfat_any s 3 W (by omega) (by decide)
  have A4 : ∀ W, Calls Tryd.prog 26 #[.string s, .int .i64 4] W fun e w' => e = .returned (.int .i64 (atW s 4)) ∧ Below W.heap.size W w' := fun W => mfat_any s 4 W (by omega) (by decide)
  have A5 : ∀ W, Calls Tryd.prog 26 #[.string s, .int .i64 5] W fun e w' => e = .returned (.int .i64 (atW s 5)) ∧ Below W.heap.size W w' := fun W => mfat_any s 5 W (by omega) (by decide)
  have A6 : ∀ W, Calls Tryd.prog 26 #[.string s, .int .i64 6] W fun e w' => e = .returned (.int .i64 (atW s 6)) ∧ Below W.heap.size W w' := fun W => mfat_any s 6 W (by omega) (by decide)
  have A7 : ∀ W, Calls Tryd.prog 26 #[.string s, .int .i64 7] W fun e w' => e = .returned (.int .i64 (atW s 7)) ∧ Below W.heap.size W w' := fun W => mfat_any s 7 W (by omega) (by decide)
  have A8 : ∀ W, Calls Tryd.prog 26 #[.string s, .int .i64 8] W fun e w' => e = .returned (.int .i64 (atW s 8)) ∧ Below W.heap.size W w' := fun W => mfat_any s 8 W (by omega) (by decide)
  have A9 : ∀ W, Calls Tryd.prog 26 #[.string s, .int .i64 9] W fun e w' => e = .returned (.int .i64 (atW s 9)) ∧ Below W.heap.size W w' := fun W => mfat_any s 9 W (by omega) (by decide)
  have A10 : ∀ W, Calls Tryd.prog 26 #[.string s, .int .i64 10] W fun e w' => e = .returned (.int .i64 (atW s 10)) ∧ Below W.heap.size W w' := fun W => mfat_any s 10 W (by omega) (by decide)
  have A11 : ∀ W, Calls Tryd.prog 26 #[.string s, .int .i64 11] W fun e w' => e = .returned (.int .i64 (atW s 11)) ∧ Below W.heap.size W w' := fun W => mfat_any s 11 W (by omega) (by decide)
  have A12 : ∀ W, Calls Tryd.prog 26 #[.string s, .int .i64 12] W fun e w' => e = .returned (.int .i64 (atW s 12)) ∧ Below W.heap.size W w' := fun W => mfat_any s 12 W (by omega) (by decide)
  have A13 : ∀ W, Calls Tryd.prog 26 #[.string s, .int .i64 13] W fun e w' => e = .returned (.int .i64 (atW s 13)) ∧ Below W.heap.size W w' := fun W => mfat_any s 13 W (by omega) (by decide)
  obtain ⟨a0, ha0⟩ : ∃ a, a = atW s 0 := ⟨_, rfl⟩
  rw [← ha0] at A0
  obtain ⟨a1, ha1⟩ : ∃ a, a = atW s 1 := ⟨_, rfl⟩
  rw [← ha1] at A1
  obtain ⟨a2, ha2⟩ : ∃ a, a = atW s 2 := ⟨_, rfl⟩
  rw [← ha2] at A2
  obtain ⟨a3, ha3⟩ : ∃ a, a = atW s 3 := ⟨_, rfl⟩
  rw [← ha3] at A3
  obtain ⟨a4, ha4⟩ : ∃ a, a = atW s 4 := ⟨_, rfl⟩
  rw [← ha4] at A4
  obtain ⟨a5, ha5⟩ : ∃ a, a = atW s 5 := ⟨_, rfl⟩
  rw [← ha5] at A5
  obtain ⟨a6, ha6⟩ : ∃ a, a = atW s 6 := ⟨_, rfl⟩
  rw [← ha6] at A6
  obtain ⟨a7, ha7⟩ : ∃ a, a = atW s 7 := ⟨_, rfl⟩
  rw [← ha7] at A7
  obtain ⟨a8, ha8⟩ : ∃ a, a = atW s 8 := ⟨_, rfl⟩
  rw [← ha8] at A8
  obtain ⟨a9, ha9⟩ : ∃ a, a = atW s 9 := ⟨_, rfl⟩
  rw [← ha9] at A9
  obtain ⟨a10, ha10⟩ : ∃ a, a = atW s 10 := ⟨_, rfl⟩
  rw [← ha10] at A10
  obtain ⟨a11, ha11⟩ : ∃ a, a = atW s 11 := ⟨_, rfl⟩
  rw [← ha11] at A11
  obtain ⟨a12, ha12⟩ : ∃ a, a = atW s 12 := ⟨_, rfl⟩
  rw [← ha12] at A12
  obtain ⟨a13, ha13⟩ : ∃ a, a = atW s 13 := ⟨_, rfl⟩
  rw [← ha13] at A13
  rw [← ha1] at h1a h1b
  have d0 : decide ((s.size : Int) > 2048) = false := decide_eq_false (by omega)
  have e1 : (a1 == 0) = false := by simpa using h1a
  have e2 : (a1 != 0) = true := by simpa using h1a
  have e3 : (a1 == 1) = false := by simpa using h1b
  have e4 : (a1 != 1) = true := by simpa using h1b
  replace A0 := Lib.hid A0
  replace A1 := Lib.hid A1
  replace A2 := Lib.hid A2
  replace A3 := Lib.hid A3
  replace A4 := Lib.hid A4
  replace A5 := Lib.hid A5
  replace A6 := Lib.hid A6
  replace A7 := Lib.hid A7
  replace A8 := Lib.hid A8
  replace A9 := Lib.hid A9
  replace A10 := Lib.hid A10
  replace A11 := Lib.hid A11
  replace A12 := Lib.hid A12
  replace A13 := Lib.hid A13
  clear ha0 ha1 ha2 ha3 ha4 ha5 ha6 ha7 ha8 ha9 ha10 ha11 ha12 ha13
  clear hs h1a h1b
  have A00 := Lib.hid (show St 25 w.heap.size #[.int .i64 0, .bool false, .bool false, .int .i64 0, .int .i64 0, .int .i64 0, .int .i64 0, .int .i64 0, .int .i64 0, .string ⟨#[]⟩] ((w.alloc (.cells #[.int .i64 0, .bool false, .bool false, .int .i64 0, .int .i64 0, .int .i64 0, .int .i64 0, .int .i64 0, .int .i64 0, .string ⟨#[]⟩] 25 (0, 0))).alloc (.cells #[.int .i64 0, .bool false, .bool false, .int .i64 0, .int .i64 0, .int .i64 0, .int .i64 0, .int .i64 0, .int .i64 0, .string ⟨#[]⟩] 25 (0, 0))) from (St.new w 25 _).alloc _)
  have K0 := Lib.hid (show St 25 (w.heap.size + 1) #[.int .i64 0, .bool false, .bool false, .int .i64 0, .int .i64 0, .int .i64 0, .int .i64 0, .int .i64 0, .int .i64 0, .string ⟨#[]⟩] ((w.alloc (.cells #[.int .i64 0, .bool false, .bool false, .int .i64 0, .int .i64 0, .int .i64 0, .int .i64 0, .int .i64 0, .int .i64 0, .string ⟨#[]⟩] 25 (0, 0))).alloc (.cells #[.int .i64 0, .bool false, .bool false, .int .i64 0, .int .i64 0, .int .i64 0, .int .i64 0, .int .i64 0, .int .i64 0, .string ⟨#[]⟩] 25 (0, 0))) from by have := St.new (w.alloc (.cells #[.int .i64 0, .bool false, .bool false, .int .i64 0, .int .i64 0, .int .i64 0, .int .i64 0, .int .i64 0, .int .i64 0, .string ⟨#[]⟩] 25 (0, 0))) 25 #[.int .i64 0, .bool false, .bool false, .int .i64 0, .int .i64 0, .int .i64 0, .int .i64 0, .int .i64 0, .int .i64 0, .string ⟨#[]⟩]; simpa using this)
  have L0 := Lib.hid (show Below w.heap.size w ((w.alloc (.cells #[.int .i64 0, .bool false, .bool false, .int .i64 0, .int .i64 0, .int .i64 0, .int .i64 0, .int .i64 0, .int .i64 0, .string ⟨#[]⟩] 25 (0, 0))).alloc (.cells #[.int .i64 0, .bool false, .bool false, .int .i64 0, .int .i64 0, .int .i64 0, .int .i64 0, .int .i64 0, .int .i64 0, .string ⟨#[]⟩] 25 (0, 0))) from (below_one w _).alloc (by simp) _)
  dsimp only [Mg.arr, Mg.zero]
  go_enter Tryd.func12, Tryd.ntmps12
  go_wp2_with (first
    | (go_at_call 26; (first | (with_reducible refine (A0.out _).mono ?_) | (with_reducible refine (A1.out _).mono ?_) | (with_reducible refine (A2.out _).mono ?_) | (with_reducible refine (A3.out _).mono ?_) | (with_reducible refine (A4.out _).mono ?_) | (with_reducible refine (A5.out _).mono ?_) | (with_reducible refine (A6.out _).mono ?_) | (with_reducible refine (A7.out _).mono ?_) | (with_reducible refine (A8.out _).mono ?_) | (with_reducible refine (A9.out _).mono ?_) | (with_reducible refine (A10.out _).mono ?_) | (with_reducible refine (A11.out _).mono ?_) | (with_reducible refine (A12.out _).mono ?_) | (with_reducible refine (A13.out _).mono ?_)); rintro e w3 ⟨rfl, b3⟩; (first | (have V4 := Lib.hid (VC.below V4.out b3); have cc := V4.out.b.msg.cell (j := 8) rfl; have ff := V4.out.b.msg.free 8; have cc3 := V4.out.b.msg.cell (j := 3) rfl; have ff3 := V4.out.b.msg.free 3; have cc9 := V4.out.b.msg.cell (j := 9) rfl; have ff9 := V4.out.b.msg.free 9) | (have V3 := Lib.hid (VB.below (V3.out.set 2 _) b3); have cc := V3.out.msg.cell (j := 8) rfl; have ff := V3.out.msg.free 8; have cc9 := V3.out.msg.cell (j := 9) rfl; have ff9 := V3.out.msg.free 9) | (have V3 := Lib.hid (VB.below V3.out b3); have cc := V3.out.msg.cell (j := 8) rfl; have ff := V3.out.msg.free 8; have cc2 := V3.out.msg.cell (j := 2) rfl; have ff2 := V3.out.msg.free 2) | (have V := Lib.hid (VA.below V.out b3))); clear b3)
    | (go_at_call 19; go_must (refine (HO.out _).mono ?_); rintro e w3 ⟨rfl, b3⟩; (first | (have V4 := Lib.hid (VC.below V4.out b3); have cc := V4.out.b.msg.cell (j := 8) rfl; have ff := V4.out.b.msg.free 8; have cc3 := V4.out.b.msg.cell (j := 3) rfl; have ff3 := V4.out.b.msg.free 3; have cc9 := V4.out.b.msg.cell (j := 9) rfl; have ff9 := V4.out.b.msg.free 9) | (have V3 := Lib.hid (VB.below (V3.out.set 2 _) b3); have cc := V3.out.msg.cell (j := 8) rfl; have ff := V3.out.msg.free 8; have cc9 := V3.out.msg.cell (j := 9) rfl; have ff9 := V3.out.msg.free 9) | (have V3 := Lib.hid (VB.below V3.out b3); have cc := V3.out.msg.cell (j := 8) rfl; have ff := V3.out.msg.free 8; have cc2 := V3.out.msg.cell (j := 2) rfl; have ff2 := V3.out.msg.free 2) | (have V := Lib.hid (VA.below V.out b3))); clear b3)
    | (go_at_call 8; go_must (refine (HC.out _).mono ?_); rintro e w3 ⟨rfl, b3⟩; have V3 := Lib.hid (VB.below ((V3.out.set 8 _).set 9 _) b3); clear b3)
    | ((with_reducible show wpList _ _ _ ({ dst := _, op := .build 25 #[], type := _, pos := _, after := _, guard := _ } :: _) _ _); refine wpList_build_as rfl 25 _ rfl #[.int .i64 0, .bool false, .bool false, .int .i64 0, .int .i64 0, .int .i64 0, .int .i64 0, .int .i64 0, .int .i64 0, .string ⟨#[]⟩] mzero_built ?_)
    | ((with_reducible show wpList _ _ _ ({ dst := _, op := .build 25 _, type := _, pos := _, after := _, guard := _ } :: _) _ _); refine wpList_build_as rfl 25 _ rfl #[.int .i64 a0, .bool false, .bool false, .int .i64 0, .int .i64 0, .int .i64 0, .int .i64 0, .int .i64 0, .int .i64 0, .string ⟨#[]⟩] (mnew_built _ _) ?_)
    | ((with_reducible show wpList _ _ _ ({ dst := _, op := .build 23 _, type := _, pos := _, after := _, guard := _ } :: _) _ _); refine wpList_build_as rfl 23 _ rfl #[.int .i64 a8, .int .i64 a9, .int .i64 a10, .int .i64 a11] (cred_built _ _ _ _) ?_)
    | ((with_reducible show wpList _ _ _ ({ dst := _, op := .store _ (.tmp 4) _, type := _, pos := _, after := _, guard := _ } :: _) _ _); refine wpList_store_st rfl 25 _ _ rfl (w.heap.size + 1) #[.int .i64 0, .bool false, .bool false, .int .i64 0, .int .i64 0, .int .i64 0, .int .i64 0, .int .i64 0, .int .i64 0, .string ⟨#[]⟩] rfl rfl _ K0.out (by kernel_rfl) rfl (by kernel_rfl) ?_; intro wz hz hst; have V := Lib.hid (show VA w wz from ⟨by rw [hz]; exact A00.out.setRow_other (by omega) _, hst, by rw [hz]; exact below_row L0.out (by omega) _⟩); clear hz hst)
    | ((with_reducible show wpList _ _ _ ({ dst := _, op := .store _ (.tmp 6) _, type := _, pos := _, after := _, guard := _ } :: _) _ _); refine wpList_store_st rfl 25 _ _ rfl _ #[.int .i64 a0, .bool false, .bool false, .int .i64 0, .int .i64 0, .int .i64 0, .int .i64 0, .int .i64 0, .int .i64 0, .string ⟨#[]⟩] rfl rfl _ (St.new w3 25 _) (by kernel_rfl) rfl (by kernel_rfl) ?_; rw [alloc_row]; intro wz hz hst; subst hz; have V3 := Lib.hid (V.out.toB #[.int .i64 a0, .bool false, .bool false, .int .i64 0, .int .i64 0, .int .i64 0, .int .i64 0, .int .i64 0, .int .i64 0, .string ⟨#[]⟩]); clear hst)
    | ((with_reducible show wpList _ _ _ ({ dst := _, op := .store _ (.tmp 7) _, type := _, pos := _, after := _, guard := _ } :: _) _ _); refine wpList_store_st rfl 23 _ _ rfl _ #[.int .i64 a8, .int .i64 a9, .int .i64 a10, .int .i64 a11] rfl rfl _ (St.new w3 23 _) (by kernel_rfl) rfl (by kernel_rfl) ?_; rw [alloc_row]; intro wz hz hst; subst hz; have V4 := Lib.hid (V3.out.toC #[.int .i64 a8, .int .i64 a9, .int .i64 a10, .int .i64 a11]); clear hst)
    | ((with_reducible show wpList _ _ _ ({ dst := _, op := .load _ (.tmp 4), type := _, pos := _, after := _, guard := _ } :: _) _ _); refine wpList_load_st rfl 25 _ rfl _ rfl 25 #[.int .i64 0, .bool false, .bool false, .int .i64 0, .int .i64 0, .int .i64 0, .int .i64 0, .int .i64 0, .int .i64 0, .string ⟨#[]⟩] (by first | exact V3.out.a.non | exact V.out.non) _ Tryd.underlying25 rfl (by kernel_rfl) ?_)
    | ((with_reducible show wpList _ _ _ ({ dst := _, op := .store _ (.tmp 2) _, type := _, pos := _, after := _, guard := _ } :: _) _ _); refine wpList_store_st rfl 25 _ _ rfl w.heap.size #[.int .i64 0, .bool false, .bool false, .int .i64 0, .int .i64 0, .int .i64 0, .int .i64 0, .int .i64 0, .int .i64 0, .string ⟨#[]⟩] rfl rfl _ (V.out.res) (by kernel_rfl) rfl (by kernel_rfl) ?_; intro wz hz hst; have HQ := Lib.hid hz; have HR := Lib.hid hst; clear hz hst))
  refine ret_cell2 (r := 2) (t := 3) (k := w.heap.size) (T := 25) Tryd.results12 rfl rfl HR.out Tryd.underlying25 rfl (by kernel_rfl) rfl ?_
  have e0 := HQ.out
  subst e0
  exact ⟨rfl, below_row V.out.low (Nat.le_refl _) _⟩

set_option maxRecDepth 100000 in
set_option maxHeartbeats 4000000 in
theorem mfGet_r2 (s : ByteArray) (w : World) (hs : s.size ≤ 2048)(h1 : atW s 1 = 1) (g2 : atW s 2 ≠ 0) : Calls Tryd.prog 12 #[.string s] w fun e w' => e = .returned (.tuple #[.agg (mgGet s).1.arr, .int .i64 (mgGet s).2]) ∧ Below w.heap.size w w' := by
  have e : mgGet s = (Mg.zero, 14) := by
    unfold mgGet
    rw [if_neg (by omega), if_neg (by omega), if_pos h1, if_pos (Or.inl g2)]
  rw [e]
  clear e
  have A0 : ∀ W, Calls Tryd.prog 26 #[.string s, .int .i64 0] W fun e w' => e = .returned (.int .i64 (atW s 0)) ∧ Below W.heap.size W w' := fun W => mfat_any s 0 W (by omega) (by decide)
  have A1 : ∀ W, Calls Tryd.prog 26 #[.string s, .int .i64 1] W fun e w' => e = .returned (.int .i64 (atW s 1)) ∧ Below W.heap.size W w' := fun W => mfat_any s 1 W (by omega) (by decide)
  have A2 : ∀ W, Calls Tryd.prog 26 #[.string s, .int .i64 2] W fun e w' => e = .returned (.int .i64 (atW s 2)) ∧ Below W.heap.size W w' := fun W => mfat_any s 2 W (by omega) (by decide)
  have A3 : ∀ W, Calls Tryd.prog 26 #[.string s, .int .i64 3] W fun e w' => e = .returned (.int .i64 (atW s 3)) ∧ Below W.heap.size W w' := fun W => mfat_any s 3 W (by omega) (by decide)
  have A4 : ∀ W, Calls Tryd.prog 26 #[.string s, .int .i64 4] W fun e w' => e = .returned (.int .i64 (atW s 4)) ∧ Below W.heap.size W w' := fun W => mfat_any s 4 W (by omega) (by decide)
  have A5 : ∀ W, Calls Tryd.prog 26 #[.string s, .int .i64 5] W fun e w' => e = .returned (.int .i64 (atW s 5)) ∧ Below W.heap.size W w' := fun W => mfat_any s 5 W (by omega) (by decide)
  have A6 : ∀ W, Calls Tryd.prog 26 #[.string s, .int .i64 6] W fun e w' => e = .returned (.int .i64 (atW s 6)) ∧ Below W.heap.size W w' := fun W => mfat_any s 6 W (by omega) (by decide)
  have A7 : ∀ W, Calls Tryd.prog 26 #[.string s, .int .i64 7] W fun e w' => e = .returned (.int .i64 (atW s 7)) ∧ Below W.heap.size W w' := fun W => mfat_any s 7 W (by omega) (by decide)
  have A8 : ∀ W, Calls Tryd.prog 26 #[.string s, .int .i64 8] W fun e w' => e = .returned (.int .i64 (atW s 8)) ∧ Below W.heap.size W w' := fun W => mfat_any s 8 W (by omega) (by decide)
  have A9 : ∀ W, Calls Tryd.prog 26 #[.string s, .int .i64 9] W fun e w' => e = .returned (.int .i64 (atW s 9)) ∧ Below W.heap.size W w' := fun W => mfat_any s 9 W (by omega) (by decide)
  have A10 : ∀ W, Calls Tryd.prog 26 #[.string s, .int .i64 10] W fun e w' => e = .returned (.int .i64 (atW s 10)) ∧ Below W.heap.size W w' := fun W => mfat_any s 10 W (by omega) (by decide)
  have A11 : ∀ W, Calls Tryd.prog 26 #[.string s, .int .i64 11] W fun e w' => e = .returned (.int .i64 (atW s 11)) ∧ Below W.heap.size W w' := fun W => mfat_any s 11 W (by omega) (by decide)
  have A12 : ∀ W, Calls Tryd.prog 26 #[.string s, .int .i64 12] W fun e w' => e = .returned (.int .i64 (atW s 12)) ∧ Below W.heap.size W w' := fun W => mfat_any s 12 W (by omega) (by decide)
  have A13 : ∀ W, Calls Tryd.prog 26 #[.string s, .int .i64 13] W fun e w' => e = .returned (.int .i64 (atW s 13)) ∧ Below W.heap.size W w' := fun W => mfat_any s 13 W (by omega) (by decide)
  obtain ⟨a0, ha0⟩ : ∃ a, a = atW s 0 := ⟨_, rfl⟩
  rw [← ha0] at A0
  rw [h1] at A1
  obtain ⟨a2, ha2⟩ : ∃ a, a = atW s 2 := ⟨_, rfl⟩
  rw [← ha2] at A2
  obtain ⟨a3, ha3⟩ : ∃ a, a = atW s 3 := ⟨_, rfl⟩
  rw [← ha3] at A3
  obtain ⟨a4, ha4⟩ : ∃ a, a = atW s 4 := ⟨_, rfl⟩
  rw [← ha4] at A4
  obtain ⟨a5, ha5⟩ : ∃ a, a = atW s 5 := ⟨_, rfl⟩
  rw [← ha5] at A5
  obtain ⟨a6, ha6⟩ : ∃ a, a = atW s 6 := ⟨_, rfl⟩
  rw [← ha6] at A6
  obtain ⟨a7, ha7⟩ : ∃ a, a = atW s 7 := ⟨_, rfl⟩
  rw [← ha7] at A7
  obtain ⟨a8, ha8⟩ : ∃ a, a = atW s 8 := ⟨_, rfl⟩
  rw [← ha8] at A8
  obtain ⟨a9, ha9⟩ : ∃ a, a = atW s 9 := ⟨_, rfl⟩
  rw [← ha9] at A9
  obtain ⟨a10, ha10⟩ : ∃ a, a = atW s 10 := ⟨_, rfl⟩
  rw [← ha10] at A10
  obtain ⟨a11, ha11⟩ : ∃ a, a = atW s 11 := ⟨_, rfl⟩
  rw [← ha11] at A11
  obtain ⟨a12, ha12⟩ : ∃ a, a = atW s 12 := ⟨_, rfl⟩
  rw [← ha12] at A12
  obtain ⟨a13, ha13⟩ : ∃ a, a = atW s 13 := ⟨_, rfl⟩
  rw [← ha13] at A13
  rw [← ha2] at g2
  have d0 : decide ((s.size : Int) > 2048) = false := decide_eq_false (by omega)
  have na21 : (a2 == 0) = false := by simpa using g2
  have na22 : (a2 != 0) = true := by simpa using g2
  replace A0 := Lib.hid A0
  replace A1 := Lib.hid A1
  replace A2 := Lib.hid A2
  replace A3 := Lib.hid A3
  replace A4 := Lib.hid A4
  replace A5 := Lib.hid A5
  replace A6 := Lib.hid A6
  replace A7 := Lib.hid A7
  replace A8 := Lib.hid A8
  replace A9 := Lib.hid A9
  replace A10 := Lib.hid A10
  replace A11 := Lib.hid A11
  replace A12 := Lib.hid A12
  replace A13 := Lib.hid A13
  clear ha0 ha2 ha3 ha4 ha5 ha6 ha7 ha8 ha9 ha10 ha11 ha12 ha13
  clear hs g2
  have A00 := Lib.hid (show St 25 w.heap.size #[.int .i64 0, .bool false, .bool false, .int .i64 0, .int .i64 0, .int .i64 0, .int .i64 0, .int .i64 0, .int .i64 0, .string ⟨#[]⟩] ((w.alloc (.cells #[.int .i64 0, .bool false, .bool false, .int .i64 0, .int .i64 0, .int .i64 0, .int .i64 0, .int .i64 0, .int .i64 0, .string ⟨#[]⟩] 25 (0, 0))).alloc (.cells #[.int .i64 0, .bool false, .bool false, .int .i64 0, .int .i64 0, .int .i64 0, .int .i64 0, .int .i64 0, .int .i64 0, .string ⟨#[]⟩] 25 (0, 0))) from (St.new w 25 _).alloc _)
  have K0 := Lib.hid (show St 25 (w.heap.size + 1) #[.int .i64 0, .bool false, .bool false, .int .i64 0, .int .i64 0, .int .i64 0, .int .i64 0, .int .i64 0, .int .i64 0, .string ⟨#[]⟩] ((w.alloc (.cells #[.int .i64 0, .bool false, .bool false, .int .i64 0, .int .i64 0, .int .i64 0, .int .i64 0, .int .i64 0, .int .i64 0, .string ⟨#[]⟩] 25 (0, 0))).alloc (.cells #[.int .i64 0, .bool false, .bool false, .int .i64 0, .int .i64 0, .int .i64 0, .int .i64 0, .int .i64 0, .int .i64 0, .string ⟨#[]⟩] 25 (0, 0))) from by have := St.new (w.alloc (.cells #[.int .i64 0, .bool false, .bool false, .int .i64 0, .int .i64 0, .int .i64 0, .int .i64 0, .int .i64 0, .int .i64 0, .string ⟨#[]⟩] 25 (0, 0))) 25 #[.int .i64 0, .bool false, .bool false, .int .i64 0, .int .i64 0, .int .i64 0, .int .i64 0, .int .i64 0, .int .i64 0, .string ⟨#[]⟩]; simpa using this)
  have L0 := Lib.hid (show Below w.heap.size w ((w.alloc (.cells #[.int .i64 0, .bool false, .bool false, .int .i64 0, .int .i64 0, .int .i64 0, .int .i64 0, .int .i64 0, .int .i64 0, .string ⟨#[]⟩] 25 (0, 0))).alloc (.cells #[.int .i64 0, .bool false, .bool false, .int .i64 0, .int .i64 0, .int .i64 0, .int .i64 0, .int .i64 0, .int .i64 0, .string ⟨#[]⟩] 25 (0, 0))) from (below_one w _).alloc (by simp) _)
  dsimp only [Mg.arr, Mg.zero]
  go_enter Tryd.func12, Tryd.ntmps12
  go_wp2_with (first
    | (go_at_call 26; (first | (with_reducible refine (A0.out _).mono ?_) | (with_reducible refine (A1.out _).mono ?_) | (with_reducible refine (A2.out _).mono ?_) | (with_reducible refine (A3.out _).mono ?_) | (with_reducible refine (A4.out _).mono ?_) | (with_reducible refine (A5.out _).mono ?_) | (with_reducible refine (A6.out _).mono ?_) | (with_reducible refine (A7.out _).mono ?_) | (with_reducible refine (A8.out _).mono ?_) | (with_reducible refine (A9.out _).mono ?_) | (with_reducible refine (A10.out _).mono ?_) | (with_reducible refine (A11.out _).mono ?_) | (with_reducible refine (A12.out _).mono ?_) | (with_reducible refine (A13.out _).mono ?_)); rintro e w3 ⟨rfl, b3⟩; (first | (have V4 := Lib.hid (VC.below V4.out b3); have cc := V4.out.b.msg.cell (j := 8) rfl; have ff := V4.out.b.msg.free 8; have cc3 := V4.out.b.msg.cell (j := 3) rfl; have ff3 := V4.out.b.msg.free 3; have cc9 := V4.out.b.msg.cell (j := 9) rfl; have ff9 := V4.out.b.msg.free 9) | (have V3 := Lib.hid (VB.below (V3.out.set 2 _) b3); have cc := V3.out.msg.cell (j := 8) rfl; have ff := V3.out.msg.free 8; have cc9 := V3.out.msg.cell (j := 9) rfl; have ff9 := V3.out.msg.free 9) | (have V3 := Lib.hid (VB.below V3.out b3); have cc := V3.out.msg.cell (j := 8) rfl; have ff := V3.out.msg.free 8; have cc2 := V3.out.msg.cell (j := 2) rfl; have ff2 := V3.out.msg.free 2) | (have V := Lib.hid (VA.below V.out b3))); clear b3)
    | (go_at_call 19; go_must (refine (HO.out _).mono ?_); rintro e w3 ⟨rfl, b3⟩; (first | (have V4 := Lib.hid (VC.below V4.out b3); have cc := V4.out.b.msg.cell (j := 8) rfl; have ff := V4.out.b.msg.free 8; have cc3 := V4.out.b.msg.cell (j := 3) rfl; have ff3 := V4.out.b.msg.free 3; have cc9 := V4.out.b.msg.cell (j := 9) rfl; have ff9 := V4.out.b.msg.free 9) | (have V3 := Lib.hid (VB.below (V3.out.set 2 _) b3); have cc := V3.out.msg.cell (j := 8) rfl; have ff := V3.out.msg.free 8; have cc9 := V3.out.msg.cell (j := 9) rfl; have ff9 := V3.out.msg.free 9) | (have V3 := Lib.hid (VB.below V3.out b3); have cc := V3.out.msg.cell (j := 8) rfl; have ff := V3.out.msg.free 8; have cc2 := V3.out.msg.cell (j := 2) rfl; have ff2 := V3.out.msg.free 2) | (have V := Lib.hid (VA.below V.out b3))); clear b3)
    | (go_at_call 8; go_must (refine (HC.out _).mono ?_); rintro e w3 ⟨rfl, b3⟩; have V3 := Lib.hid (VB.below ((V3.out.set 8 _).set 9 _) b3); clear b3)
    | ((with_reducible show wpList _ _ _ ({ dst := _, op := .build 25 #[], type := _, pos := _, after := _, guard := _ } :: _) _ _); refine wpList_build_as rfl 25 _ rfl #[.int .i64 0, .bool false, .bool false, .int .i64 0, .int .i64 0, .int .i64 0, .int .i64 0, .int .i64 0, .int .i64 0, .string ⟨#[]⟩] mzero_built ?_)
    | ((with_reducible show wpList _ _ _ ({ dst := _, op := .build 25 _, type := _, pos := _, after := _, guard := _ } :: _) _ _); refine wpList_build_as rfl 25 _ rfl #[.int .i64 a0, .bool true, .bool false, .int .i64 0, .int .i64 0, .int .i64 0, .int .i64 0, .int .i64 0, .int .i64 0, .string ⟨#[]⟩] (mnew_built _ _) ?_)
    | ((with_reducible show wpList _ _ _ ({ dst := _, op := .build 23 _, type := _, pos := _, after := _, guard := _ } :: _) _ _); refine wpList_build_as rfl 23 _ rfl #[.int .i64 a8, .int .i64 a9, .int .i64 a10, .int .i64 a11] (cred_built _ _ _ _) ?_)
    | ((with_reducible show wpList _ _ _ ({ dst := _, op := .store _ (.tmp 4) _, type := _, pos := _, after := _, guard := _ } :: _) _ _); refine wpList_store_st rfl 25 _ _ rfl (w.heap.size + 1) #[.int .i64 0, .bool false, .bool false, .int .i64 0, .int .i64 0, .int .i64 0, .int .i64 0, .int .i64 0, .int .i64 0, .string ⟨#[]⟩] rfl rfl _ K0.out (by kernel_rfl) rfl (by kernel_rfl) ?_; intro wz hz hst; have V := Lib.hid (show VA w wz from ⟨by rw [hz]; exact A00.out.setRow_other (by omega) _, hst, by rw [hz]; exact below_row L0.out (by omega) _⟩); clear hz hst)
    | ((with_reducible show wpList _ _ _ ({ dst := _, op := .store _ (.tmp 6) _, type := _, pos := _, after := _, guard := _ } :: _) _ _); refine wpList_store_st rfl 25 _ _ rfl _ #[.int .i64 a0, .bool true, .bool false, .int .i64 0, .int .i64 0, .int .i64 0, .int .i64 0, .int .i64 0, .int .i64 0, .string ⟨#[]⟩] rfl rfl _ (St.new w3 25 _) (by kernel_rfl) rfl (by kernel_rfl) ?_; rw [alloc_row]; intro wz hz hst; subst hz; have V3 := Lib.hid (V.out.toB #[.int .i64 a0, .bool true, .bool false, .int .i64 0, .int .i64 0, .int .i64 0, .int .i64 0, .int .i64 0, .int .i64 0, .string ⟨#[]⟩]); clear hst)
    | ((with_reducible show wpList _ _ _ ({ dst := _, op := .store _ (.tmp 7) _, type := _, pos := _, after := _, guard := _ } :: _) _ _); refine wpList_store_st rfl 23 _ _ rfl _ #[.int .i64 a8, .int .i64 a9, .int .i64 a10, .int .i64 a11] rfl rfl _ (St.new w3 23 _) (by kernel_rfl) rfl (by kernel_rfl) ?_; rw [alloc_row]; intro wz hz hst; subst hz; have V4 := Lib.hid (V3.out.toC #[.int .i64 a8, .int .i64 a9, .int .i64 a10, .int .i64 a11]); clear hst)
    | ((with_reducible show wpList _ _ _ ({ dst := _, op := .load _ (.tmp 4), type := _, pos := _, after := _, guard := _ } :: _) _ _); refine wpList_load_st rfl 25 _ rfl _ rfl 25 #[.int .i64 0, .bool false, .bool false, .int .i64 0, .int .i64 0, .int .i64 0, .int .i64 0, .int .i64 0, .int .i64 0, .string ⟨#[]⟩] (by first | exact V3.out.a.non | exact V.out.non) _ Tryd.underlying25 rfl (by kernel_rfl) ?_)
    | ((with_reducible show wpList _ _ _ ({ dst := _, op := .store _ (.tmp 2) _, type := _, pos := _, after := _, guard := _ } :: _) _ _); refine wpList_store_st rfl 25 _ _ rfl w.heap.size #[.int .i64 0, .bool false, .bool false, .int .i64 0, .int .i64 0, .int .i64 0, .int .i64 0, .int .i64 0, .int .i64 0, .string ⟨#[]⟩] rfl rfl _ (V3.out.a.res) (by kernel_rfl) rfl (by kernel_rfl) ?_; intro wz hz hst; have HQ := Lib.hid hz; have HR := Lib.hid hst; clear hz hst))
  refine ret_cell2 (r := 2) (t := 3) (k := w.heap.size) (T := 25) Tryd.results12 rfl rfl HR.out Tryd.underlying25 rfl (by kernel_rfl) rfl ?_
  have e0 := HQ.out
  subst e0
  exact ⟨rfl, below_row V3.out.a.low (Nat.le_refl _) _⟩

set_option maxRecDepth 100000 in
set_option maxHeartbeats 4000000 in
theorem mfGet_r3 (s : ByteArray) (w : World) (hs : s.size ≤ 2048)(h1 : atW s 1 = 1) (h2 : atW s 2 = 0) (g3 : atW s 3 < 0) : Calls Tryd.prog 12 #[.string s] w fun e w' => e = .returned (.tuple #[.agg (mgGet s).1.arr, .int .i64 (mgGet s).2]) ∧ Below w.heap.size w w' := by
  have e : mgGet s = (Mg.zero, 14) := by
    unfold mgGet
    rw [if_neg (by omega), if_neg (by omega), if_pos h1, if_pos (by omega)]
  rw [e]
  clear e
  have A0 : ∀ W, Calls Tryd.prog 26 #[.string s, .int .i64 0] W fun e w' => e = .returned (.int .i64 (atW s 0)) ∧ Below W.heap.size W w' := fun W => mfat_any s 0 W (by omega) (by decide)
  have A1 : ∀ W, Calls Tryd.prog 26 #[.string s, .int .i64 1] W fun e w' => e = .returned (.int .i64 (atW s 1)) ∧ Below W.heap.size W w' := fun W => mfat_any s 1 W (by omega) (by decide)
  have A2 : ∀ W, Calls Tryd.prog 26 #[.string s, .int .i64 2] W fun e w' => e = .returned (.int .i64 (atW s 2)) ∧ Below W.heap.size W w' := fun W => mfat_any s 2 W (by omega) (by decide)
  have A3 : ∀ W, Calls Tryd.prog 26 #[.string s, .int .i64 3] W fun e w' => e = .returned (.int .i64 (atW s 3)) ∧ Below W.heap.size W w' := fun W => mfat_any s 3 W (by omega) (by decide)
  have A4 : ∀ W, Calls Tryd.prog 26 #[.string s, .int .i64 4] W fun e w' => e = .returned (.int .i64 (atW s 4)) ∧ Below W.heap.size W w' := fun W => mfat_any s 4 W (by omega) (by decide)
  have A5 : ∀ W, Calls Tryd.prog 26 #[.string s, .int .i64 5] W fun e w' => e = .returned (.int .i64 (atW s 5)) ∧ Below W.heap.size W w' := fun W => mfat_any s 5 W (by omega) (by decide)
  have A6 : ∀ W, Calls Tryd.prog 26 #[.string s, .int .i64 6] W fun e w' => e = .returned (.int .i64 (atW s 6)) ∧ Below W.heap.size W w' := fun W => mfat_any s 6 W (by omega) (by decide)
  have A7 : ∀ W, Calls Tryd.prog 26 #[.string s, .int .i64 7] W fun e w' => e = .returned (.int .i64 (atW s 7)) ∧ Below W.heap.size W w' := fun W => mfat_any s 7 W (by omega) (by decide)
  have A8 : ∀ W, Calls Tryd.prog 26 #[.string s, .int .i64 8] W fun e w' => e = .returned (.int .i64 (atW s 8)) ∧ Below W.heap.size W w' := fun W => mfat_any s 8 W (by omega) (by decide)
  have A9 : ∀ W, Calls Tryd.prog 26 #[.string s, .int .i64 9] W fun e w' => e = .returned (.int .i64 (atW s 9)) ∧ Below W.heap.size W w' := fun W => mfat_any s 9 W (by omega) (by decide)
  have A10 : ∀ W, Calls Tryd.prog 26 #[.string s, .int .i64 10] W fun e w' => e = .returned (.int .i64 (atW s 10)) ∧ Below W.heap.size W w' := fun W => mfat_any s 10 W (by omega) (by decide)
  have A11 : ∀ W, Calls Tryd.prog 26 #[.string s, .int .i64 11] W fun e w' => e = .returned (.int .i64 (atW s 11)) ∧ Below W.heap.size W w' := fun W => mfat_any s 11 W (by omega) (by decide)
  have A12 : ∀ W, Calls Tryd.prog 26 #[.string s, .int .i64 12] W fun e w' => e = .returned (.int .i64 (atW s 12)) ∧ Below W.heap.size W w' := fun W => mfat_any s 12 W (by omega) (by decide)
  have A13 : ∀ W, Calls Tryd.prog 26 #[.string s, .int .i64 13] W fun e w' => e = .returned (.int .i64 (atW s 13)) ∧ Below W.heap.size W w' := fun W => mfat_any s 13 W (by omega) (by decide)
  obtain ⟨a0, ha0⟩ : ∃ a, a = atW s 0 := ⟨_, rfl⟩
  rw [← ha0] at A0
  rw [h1] at A1
  rw [h2] at A2
  obtain ⟨a3, ha3⟩ : ∃ a, a = atW s 3 := ⟨_, rfl⟩
  rw [← ha3] at A3
  obtain ⟨a4, ha4⟩ : ∃ a, a = atW s 4 := ⟨_, rfl⟩
  rw [← ha4] at A4
  obtain ⟨a5, ha5⟩ : ∃ a, a = atW s 5 := ⟨_, rfl⟩
  rw [← ha5] at A5
  obtain ⟨a6, ha6⟩ : ∃ a, a = atW s 6 := ⟨_, rfl⟩
  rw [← ha6] at A6
  obtain ⟨a7, ha7⟩ : ∃ a, a = atW s 7 := ⟨_, rfl⟩
  rw [← ha7] at A7
  obtain ⟨a8, ha8⟩ : ∃ a, a = atW s 8 := ⟨_, rfl⟩
  rw [← ha8] at A8
  obtain ⟨a9, ha9⟩ : ∃ a, a = atW s 9 := ⟨_, rfl⟩
  rw [← ha9] at A9
  obtain ⟨a10, ha10⟩ : ∃ a, a = atW s 10 := ⟨_, rfl⟩
  rw [← ha10] at A10
  obtain ⟨a11, ha11⟩ : ∃ a, a = atW s 11 := ⟨_, rfl⟩
  rw [← ha11] at A11
  obtain ⟨a12, ha12⟩ : ∃ a, a = atW s 12 := ⟨_, rfl⟩
  rw [← ha12] at A12
  obtain ⟨a13, ha13⟩ : ∃ a, a = atW s 13 := ⟨_, rfl⟩
  rw [← ha13] at A13
  rw [← ha3] at g3
  have d0 : decide ((s.size : Int) > 2048) = false := decide_eq_false (by omega)
  have d3 : decide (a3 < 0) = true := decide_eq_true g3
  replace A0 := Lib.hid A0
  replace A1 := Lib.hid A1
  replace A2 := Lib.hid A2
  replace A3 := Lib.hid A3
  replace A4 := Lib.hid A4
  replace A5 := Lib.hid A5
  replace A6 := Lib.hid A6
  replace A7 := Lib.hid A7
  replace A8 := Lib.hid A8
  replace A9 := Lib.hid A9
  replace A10 := Lib.hid A10
  replace A11 := Lib.hid A11
  replace A12 := Lib.hid A12
  replace A13 := Lib.hid A13
  clear ha0 ha3 ha4 ha5 ha6 ha7 ha8 ha9 ha10 ha11 ha12 ha13
  clear hs g3
  have A00 := Lib.hid (show St 25 w.heap.size #[.int .i64 0, .bool false, .bool false, .int .i64 0, .int .i64 0, .int .i64 0, .int .i64 0, .int .i64 0, .int .i64 0, .string ⟨#[]⟩] ((w.alloc (.cells #[.int .i64 0, .bool false, .bool false, .int .i64 0, .int .i64 0, .int .i64 0, .int .i64 0, .int .i64 0, .int .i64 0, .string ⟨#[]⟩] 25 (0, 0))).alloc (.cells #[.int .i64 0, .bool false, .bool false, .int .i64 0, .int .i64 0, .int .i64 0, .int .i64 0, .int .i64 0, .int .i64 0, .string ⟨#[]⟩] 25 (0, 0))) from (St.new w 25 _).alloc _)
  have K0 := Lib.hid (show St 25 (w.heap.size + 1) #[.int .i64 0, .bool false, .bool false, .int .i64 0, .int .i64 0, .int .i64 0, .int .i64 0, .int .i64 0, .int .i64 0, .string ⟨#[]⟩] ((w.alloc (.cells #[.int .i64 0, .bool false, .bool false, .int .i64 0, .int .i64 0, .int .i64 0, .int .i64 0, .int .i64 0, .int .i64 0, .string ⟨#[]⟩] 25 (0, 0))).alloc (.cells #[.int .i64 0, .bool false, .bool false, .int .i64 0, .int .i64 0, .int .i64 0, .int .i64 0, .int .i64 0, .int .i64 0, .string ⟨#[]⟩] 25 (0, 0))) from by have := St.new (w.alloc (.cells #[.int .i64 0, .bool false, .bool false, .int .i64 0, .int .i64 0, .int .i64 0, .int .i64 0, .int .i64 0, .int .i64 0, .string ⟨#[]⟩] 25 (0, 0))) 25 #[.int .i64 0, .bool false, .bool false, .int .i64 0, .int .i64 0, .int .i64 0, .int .i64 0, .int .i64 0, .int .i64 0, .string ⟨#[]⟩]; simpa using this)
  have L0 := Lib.hid (show Below w.heap.size w ((w.alloc (.cells #[.int .i64 0, .bool false, .bool false, .int .i64 0, .int .i64 0, .int .i64 0, .int .i64 0, .int .i64 0, .int .i64 0, .string ⟨#[]⟩] 25 (0, 0))).alloc (.cells #[.int .i64 0, .bool false, .bool false, .int .i64 0, .int .i64 0, .int .i64 0, .int .i64 0, .int .i64 0, .int .i64 0, .string ⟨#[]⟩] 25 (0, 0))) from (below_one w _).alloc (by simp) _)
  dsimp only [Mg.arr, Mg.zero]
  go_enter Tryd.func12, Tryd.ntmps12
  go_wp2_with (first
    | (go_at_call 26; (first | (with_reducible refine (A0.out _).mono ?_) | (with_reducible refine (A1.out _).mono ?_) | (with_reducible refine (A2.out _).mono ?_) | (with_reducible refine (A3.out _).mono ?_) | (with_reducible refine (A4.out _).mono ?_) | (with_reducible refine (A5.out _).mono ?_) | (with_reducible refine (A6.out _).mono ?_) | (with_reducible refine (A7.out _).mono ?_) | (with_reducible refine (A8.out _).mono ?_) | (with_reducible refine (A9.out _).mono ?_) | (with_reducible refine (A10.out _).mono ?_) | (with_reducible refine (A11.out _).mono ?_) | (with_reducible refine (A12.out _).mono ?_) | (with_reducible refine (A13.out _).mono ?_)); rintro e w3 ⟨rfl, b3⟩; (first | (have V4 := Lib.hid (VC.below V4.out b3); have cc := V4.out.b.msg.cell (j := 8) rfl; have ff := V4.out.b.msg.free 8; have cc3 := V4.out.b.msg.cell (j := 3) rfl; have ff3 := V4.out.b.msg.free 3; have cc9 := V4.out.b.msg.cell (j := 9) rfl; have ff9 := V4.out.b.msg.free 9) | (have V3 := Lib.hid (VB.below (V3.out.set 2 _) b3); have cc := V3.out.msg.cell (j := 8) rfl; have ff := V3.out.msg.free 8; have cc9 := V3.out.msg.cell (j := 9) rfl; have ff9 := V3.out.msg.free 9) | (have V3 := Lib.hid (VB.below V3.out b3); have cc := V3.out.msg.cell (j := 8) rfl; have ff := V3.out.msg.free 8; have cc2 := V3.out.msg.cell (j := 2) rfl; have ff2 := V3.out.msg.free 2) | (have V := Lib.hid (VA.below V.out b3))); clear b3)
    | (go_at_call 19; go_must (refine (HO.out _).mono ?_); rintro e w3 ⟨rfl, b3⟩; (first | (have V4 := Lib.hid (VC.below V4.out b3); have cc := V4.out.b.msg.cell (j := 8) rfl; have ff := V4.out.b.msg.free 8; have cc3 := V4.out.b.msg.cell (j := 3) rfl; have ff3 := V4.out.b.msg.free 3; have cc9 := V4.out.b.msg.cell (j := 9) rfl; have ff9 := V4.out.b.msg.free 9) | (have V3 := Lib.hid (VB.below (V3.out.set 2 _) b3); have cc := V3.out.msg.cell (j := 8) rfl; have ff := V3.out.msg.free 8; have cc9 := V3.out.msg.cell (j := 9) rfl; have ff9 := V3.out.msg.free 9) | (have V3 := Lib.hid (VB.below V3.out b3); have cc := V3.out.msg.cell (j := 8) rfl; have ff := V3.out.msg.free 8; have cc2 := V3.out.msg.cell (j := 2) rfl; have ff2 := V3.out.msg.free 2) | (have V := Lib.hid (VA.below V.out b3))); clear b3)
    | (go_at_call 8; go_must (refine (HC.out _).mono ?_); rintro e w3 ⟨rfl, b3⟩; have V3 := Lib.hid (VB.below ((V3.out.set 8 _).set 9 _) b3); clear b3)
    | ((with_reducible show wpList _ _ _ ({ dst := _, op := .build 25 #[], type := _, pos := _, after := _, guard := _ } :: _) _ _); refine wpList_build_as rfl 25 _ rfl #[.int .i64 0, .bool false, .bool false, .int .i64 0, .int .i64 0, .int .i64 0, .int .i64 0, .int .i64 0, .int .i64 0, .string ⟨#[]⟩] mzero_built ?_)
    | ((with_reducible show wpList _ _ _ ({ dst := _, op := .build 25 _, type := _, pos := _, after := _, guard := _ } :: _) _ _); refine wpList_build_as rfl 25 _ rfl #[.int .i64 a0, .bool true, .bool false, .int .i64 0, .int .i64 0, .int .i64 0, .int .i64 0, .int .i64 0, .int .i64 0, .string ⟨#[]⟩] (mnew_built _ _) ?_)
    | ((with_reducible show wpList _ _ _ ({ dst := _, op := .build 23 _, type := _, pos := _, after := _, guard := _ } :: _) _ _); refine wpList_build_as rfl 23 _ rfl #[.int .i64 a8, .int .i64 a9, .int .i64 a10, .int .i64 a11] (cred_built _ _ _ _) ?_)
    | ((with_reducible show wpList _ _ _ ({ dst := _, op := .store _ (.tmp 4) _, type := _, pos := _, after := _, guard := _ } :: _) _ _); refine wpList_store_st rfl 25 _ _ rfl (w.heap.size + 1) #[.int .i64 0, .bool false, .bool false, .int .i64 0, .int .i64 0, .int .i64 0, .int .i64 0, .int .i64 0, .int .i64 0, .string ⟨#[]⟩] rfl rfl _ K0.out (by kernel_rfl) rfl (by kernel_rfl) ?_; intro wz hz hst; have V := Lib.hid (show VA w wz from ⟨by rw [hz]; exact A00.out.setRow_other (by omega) _, hst, by rw [hz]; exact below_row L0.out (by omega) _⟩); clear hz hst)
    | ((with_reducible show wpList _ _ _ ({ dst := _, op := .store _ (.tmp 6) _, type := _, pos := _, after := _, guard := _ } :: _) _ _); refine wpList_store_st rfl 25 _ _ rfl _ #[.int .i64 a0, .bool true, .bool false, .int .i64 0, .int .i64 0, .int .i64 0, .int .i64 0, .int .i64 0, .int .i64 0, .string ⟨#[]⟩] rfl rfl _ (St.new w3 25 _) (by kernel_rfl) rfl (by kernel_rfl) ?_; rw [alloc_row]; intro wz hz hst; subst hz; have V3 := Lib.hid (V.out.toB #[.int .i64 a0, .bool true, .bool false, .int .i64 0, .int .i64 0, .int .i64 0, .int .i64 0, .int .i64 0, .int .i64 0, .string ⟨#[]⟩]); clear hst)
    | ((with_reducible show wpList _ _ _ ({ dst := _, op := .store _ (.tmp 7) _, type := _, pos := _, after := _, guard := _ } :: _) _ _); refine wpList_store_st rfl 23 _ _ rfl _ #[.int .i64 a8, .int .i64 a9, .int .i64 a10, .int .i64 a11] rfl rfl _ (St.new w3 23 _) (by kernel_rfl) rfl (by kernel_rfl) ?_; rw [alloc_row]; intro wz hz hst; subst hz; have V4 := Lib.hid (V3.out.toC #[.int .i64 a8, .int .i64 a9, .int .i64 a10, .int .i64 a11]); clear hst)
    | ((with_reducible show wpList _ _ _ ({ dst := _, op := .load _ (.tmp 4), type := _, pos := _, after := _, guard := _ } :: _) _ _); refine wpList_load_st rfl 25 _ rfl _ rfl 25 #[.int .i64 0, .bool false, .bool false, .int .i64 0, .int .i64 0, .int .i64 0, .int .i64 0, .int .i64 0, .int .i64 0, .string ⟨#[]⟩] (by first | exact V3.out.a.non | exact V.out.non) _ Tryd.underlying25 rfl (by kernel_rfl) ?_)
    | ((with_reducible show wpList _ _ _ ({ dst := _, op := .store _ (.tmp 2) _, type := _, pos := _, after := _, guard := _ } :: _) _ _); refine wpList_store_st rfl 25 _ _ rfl w.heap.size #[.int .i64 0, .bool false, .bool false, .int .i64 0, .int .i64 0, .int .i64 0, .int .i64 0, .int .i64 0, .int .i64 0, .string ⟨#[]⟩] rfl rfl _ (V3.out.a.res) (by kernel_rfl) rfl (by kernel_rfl) ?_; intro wz hz hst; have HQ := Lib.hid hz; have HR := Lib.hid hst; clear hz hst))
  refine ret_cell2 (r := 2) (t := 3) (k := w.heap.size) (T := 25) Tryd.results12 rfl rfl HR.out Tryd.underlying25 rfl (by kernel_rfl) rfl ?_
  have e0 := HQ.out
  subst e0
  exact ⟨rfl, below_row V3.out.a.low (Nat.le_refl _) _⟩

set_option maxRecDepth 100000 in
set_option maxHeartbeats 4000000 in
theorem mfGet_r3b (s : ByteArray) (w : World) (hs : s.size ≤ 2048)(h1 : atW s 1 = 1) (h2 : atW s 2 = 0) (g3 : 1 < atW s 3) : Calls Tryd.prog 12 #[.string s] w fun e w' => e = .returned (.tuple #[.agg (mgGet s).1.arr, .int .i64 (mgGet s).2]) ∧ Below w.heap.size w w' := by
  have e : mgGet s = (Mg.zero, 14) := by
    unfold mgGet
    rw [if_neg (by omega), if_neg (by omega), if_pos h1, if_pos (by omega)]
  rw [e]
  clear e
  have A0 : ∀ W, Calls Tryd.prog 26 #[.string s, .int .i64 0] W fun e w' => e = .returned (.int .i64 (atW s 0)) ∧ Below W.heap.size W w' := fun W => mfat_any s 0 W (by omega) (by decide)
  have A1 : ∀ W, Calls Tryd.prog 26 #[.string s, .int .i64 1] W fun e w' => e = .returned (.int .i64 (atW s 1)) ∧ Below W.heap.size W w' := fun W => mfat_any s 1 W (by omega) (by decide)
  have A2 : ∀ W, Calls Tryd.prog 26 #[.string s, .int .i64 2] W fun e w' => e = .returned (.int .i64 (atW s 2)) ∧ Below W.heap.size W w' := fun W => mfat_any s 2 W (by omega) (by decide)
  have A3 : ∀ W, Calls Tryd.prog 26 #[.string s, .int .i64 3] W fun e w' => e = .returned (.int .i64 (atW s 3)) ∧ Below W.heap.size W w' := fun W => mfat_any s 3 W (by omega) (by decide)
  have A4 : ∀ W, Calls Tryd.prog 26 #[.string s, .int .i64 4] W fun e w' => e = .returned (.int .i64 (atW s 4)) ∧ Below W.heap.size W w' := fun W => mfat_any s 4 W (by omega) (by decide)
  have A5 : ∀ W, Calls Tryd.prog 26 #[.string s, .int .i64 5] W fun e w' => e = .returned (.int .i64 (atW s 5)) ∧ Below W.heap.size W w' := fun W => mfat_any s 5 W (by omega) (by decide)
  have A6 : ∀ W, Calls Tryd.prog 26 #[.string s, .int .i64 6] W fun e w' => e = .returned (.int .i64 (atW s 6)) ∧ Below W.heap.size W w' := fun W => mfat_any s 6 W (by omega) (by decide)
  have A7 : ∀ W, Calls Tryd.prog 26 #[.string s, .int .i64 7] W fun e w' => e = .returned (.int .i64 (atW s 7)) ∧ Below W.heap.size W w' := fun W => mfat_any s 7 W (by omega) (by decide)
  have A8 : ∀ W, Calls Tryd.prog 26 #[.string s, .int .i64 8] W fun e w' => e = .returned (.int .i64 (atW s 8)) ∧ Below W.heap.size W w' := fun W => mfat_any s 8 W (by omega) (by decide)
  have A9 : ∀ W, Calls Tryd.prog 26 #[.string s, .int .i64 9] W fun e w' => e = .returned (.int .i64 (atW s 9)) ∧ Below W.heap.size W w' := fun W => mfat_any s 9 W (by omega) (by decide)
  have A10 : ∀ W, Calls Tryd.prog 26 #[.string s, .int .i64 10] W fun e w' => e = .returned (.int .i64 (atW s 10)) ∧ Below W.heap.size W w' := fun W => mfat_any s 10 W (by omega) (by decide)
  have A11 : ∀ W, Calls Tryd.prog 26 #[.string s, .int .i64 11] W fun e w' => e = .returned (.int .i64 (atW s 11)) ∧ Below W.heap.size W w' := fun W => mfat_any s 11 W (by omega) (by decide)
  have A12 : ∀ W, Calls Tryd.prog 26 #[.string s, .int .i64 12] W fun e w' => e = .returned (.int .i64 (atW s 12)) ∧ Below W.heap.size W w' := fun W => mfat_any s 12 W (by omega) (by decide)
  have A13 : ∀ W, Calls Tryd.prog 26 #[.string s, .int .i64 13] W fun e w' => e = .returned (.int .i64 (atW s 13)) ∧ Below W.heap.size W w' := fun W => mfat_any s 13 W (by omega) (by decide)
  obtain ⟨a0, ha0⟩ : ∃ a, a = atW s 0 := ⟨_, rfl⟩
  rw [← ha0] at A0
  rw [h1] at A1
  rw [h2] at A2
  obtain ⟨a3, ha3⟩ : ∃ a, a = atW s 3 := ⟨_, rfl⟩
  rw [← ha3] at A3
  obtain ⟨a4, ha4⟩ : ∃ a, a = atW s 4 := ⟨_, rfl⟩
  rw [← ha4] at A4
  obtain ⟨a5, ha5⟩ : ∃ a, a = atW s 5 := ⟨_, rfl⟩
  rw [← ha5] at A5
  obtain ⟨a6, ha6⟩ : ∃ a, a = atW s 6 := ⟨_, rfl⟩
  rw [← ha6] at A6
  obtain ⟨a7, ha7⟩ : ∃ a, a = atW s 7 := ⟨_, rfl⟩
  rw [← ha7] at A7
  obtain ⟨a8, ha8⟩ : ∃ a, a = atW s 8 := ⟨_, rfl⟩
  rw [← ha8] at A8
  obtain ⟨a9, ha9⟩ : ∃ a, a = atW s 9 := ⟨_, rfl⟩
  rw [← ha9] at A9
  obtain ⟨a10, ha10⟩ : ∃ a, a = atW s 10 := ⟨_, rfl⟩
  rw [← ha10] at A10
  obtain ⟨a11, ha11⟩ : ∃ a, a = atW s 11 := ⟨_, rfl⟩
  rw [← ha11] at A11
  obtain ⟨a12, ha12⟩ : ∃ a, a = atW s 12 := ⟨_, rfl⟩
  rw [← ha12] at A12
  obtain ⟨a13, ha13⟩ : ∃ a, a = atW s 13 := ⟨_, rfl⟩
  rw [← ha13] at A13
  rw [← ha3] at g3
  have d0 : decide ((s.size : Int) > 2048) = false := decide_eq_false (by omega)
  have d3 : decide (a3 < 0) = false := decide_eq_false (by omega)
  have d4 : decide (a3 > 1) = true := decide_eq_true g3
  replace A0 := Lib.hid A0
  replace A1 := Lib.hid A1
  replace A2 := Lib.hid A2
  replace A3 := Lib.hid A3
  replace A4 := Lib.hid A4
  replace A5 := Lib.hid A5
  replace A6 := Lib.hid A6
  replace A7 := Lib.hid A7
  replace A8 := Lib.hid A8
  replace A9 := Lib.hid A9
  replace A10 := Lib.hid A10
  replace A11 := Lib.hid A11
  replace A12 := Lib.hid A12
  replace A13 := Lib.hid A13
  clear ha0 ha3 ha4 ha5 ha6 ha7 ha8 ha9 ha10 ha11 ha12 ha13
  clear hs g3
  have A00 := Lib.hid (show St 25 w.heap.size #[.int .i64 0, .bool false, .bool false, .int .i64 0, .int .i64 0, .int .i64 0, .int .i64 0, .int .i64 0, .int .i64 0, .string ⟨#[]⟩] ((w.alloc (.cells #[.int .i64 0, .bool false, .bool false, .int .i64 0, .int .i64 0, .int .i64 0, .int .i64 0, .int .i64 0, .int .i64 0, .string ⟨#[]⟩] 25 (0, 0))).alloc (.cells #[.int .i64 0, .bool false, .bool false, .int .i64 0, .int .i64 0, .int .i64 0, .int .i64 0, .int .i64 0, .int .i64 0, .string ⟨#[]⟩] 25 (0, 0))) from (St.new w 25 _).alloc _)
  have K0 := Lib.hid (show St 25 (w.heap.size + 1) #[.int .i64 0, .bool false, .bool false, .int .i64 0, .int .i64 0, .int .i64 0, .int .i64 0, .int .i64 0, .int .i64 0, .string ⟨#[]⟩] ((w.alloc (.cells #[.int .i64 0, .bool false, .bool false, .int .i64 0, .int .i64 0, .int .i64 0, .int .i64 0, .int .i64 0, .int .i64 0, .string ⟨#[]⟩] 25 (0, 0))).alloc (.cells #[.int .i64 0, .bool false, .bool false, .int .i64 0, .int .i64 0, .int .i64 0, .int .i64 0, .int .i64 0, .int .i64 0, .string ⟨#[]⟩] 25 (0, 0))) from by have := St.new (w.alloc (.cells #[.int .i64 0, .bool false, .bool false, .int .i64 0, .int .i64 0, .int .i64 0, .int .i64 0, .int .i64 0, .int .i64 0, .string ⟨#[]⟩] 25 (0, 0))) 25 #[.int .i64 0, .bool false, .bool false, .int .i64 0, .int .i64 0, .int .i64 0, .int .i64 0, .int .i64 0, .int .i64 0, .string ⟨#[]⟩]; simpa using this)
  have L0 := Lib.hid (show Below w.heap.size w ((w.alloc (.cells #[.int .i64 0, .bool false, .bool false, .int .i64 0, .int .i64 0, .int .i64 0, .int .i64 0, .int .i64 0, .int .i64 0, .string ⟨#[]⟩] 25 (0, 0))).alloc (.cells #[.int .i64 0, .bool false, .bool false, .int .i64 0, .int .i64 0, .int .i64 0, .int .i64 0, .int .i64 0, .int .i64 0, .string ⟨#[]⟩] 25 (0, 0))) from (below_one w _).alloc (by simp) _)
  dsimp only [Mg.arr, Mg.zero]
  go_enter Tryd.func12, Tryd.ntmps12
  go_wp2_with (first
    | (go_at_call 26; (first | (with_reducible refine (A0.out _).mono ?_) | (with_reducible refine (A1.out _).mono ?_) | (with_reducible refine (A2.out _).mono ?_) | (with_reducible refine (A3.out _).mono ?_) | (with_reducible refine (A4.out _).mono ?_) | (with_reducible refine (A5.out _).mono ?_) | (with_reducible refine (A6.out _).mono ?_) | (with_reducible refine (A7.out _).mono ?_) | (with_reducible refine (A8.out _).mono ?_) | (with_reducible refine (A9.out _).mono ?_) | (with_reducible refine (A10.out _).mono ?_) | (with_reducible refine (A11.out _).mono ?_) | (with_reducible refine (A12.out _).mono ?_) | (with_reducible refine (A13.out _).mono ?_)); rintro e w3 ⟨rfl, b3⟩; (first | (have V4 := Lib.hid (VC.below V4.out b3); have cc := V4.out.b.msg.cell (j := 8) rfl; have ff := V4.out.b.msg.free 8; have cc3 := V4.out.b.msg.cell (j := 3) rfl; have ff3 := V4.out.b.msg.free 3; have cc9 := V4.out.b.msg.cell (j := 9) rfl; have ff9 := V4.out.b.msg.free 9) | (have V3 := Lib.hid (VB.below (V3.out.set 2 _) b3); have cc := V3.out.msg.cell (j := 8) rfl; have ff := V3.out.msg.free 8; have cc9 := V3.out.msg.cell (j := 9) rfl; have ff9 := V3.out.msg.free 9) | (have V3 := Lib.hid (VB.below V3.out b3); have cc := V3.out.msg.cell (j := 8) rfl; have ff := V3.out.msg.free 8; have cc2 := V3.out.msg.cell (j := 2) rfl; have ff2 := V3.out.msg.free 2) | (have V := Lib.hid (VA.below V.out b3))); clear b3)
    | (go_at_call 19; go_must (refine (HO.out _).mono ?_); rintro e w3 ⟨rfl, b3⟩; (first | (have V4 := Lib.hid (VC.below V4.out b3); have cc := V4.out.b.msg.cell (j := 8) rfl; have ff := V4.out.b.msg.free 8; have cc3 := V4.out.b.msg.cell (j := 3) rfl; have ff3 := V4.out.b.msg.free 3; have cc9 := V4.out.b.msg.cell (j := 9) rfl; have ff9 := V4.out.b.msg.free 9) | (have V3 := Lib.hid (VB.below (V3.out.set 2 _) b3); have cc := V3.out.msg.cell (j := 8) rfl; have ff := V3.out.msg.free 8; have cc9 := V3.out.msg.cell (j := 9) rfl; have ff9 := V3.out.msg.free 9) | (have V3 := Lib.hid (VB.below V3.out b3); have cc := V3.out.msg.cell (j := 8) rfl; have ff := V3.out.msg.free 8; have cc2 := V3.out.msg.cell (j := 2) rfl; have ff2 := V3.out.msg.free 2) | (have V := Lib.hid (VA.below V.out b3))); clear b3)
    | (go_at_call 8; go_must (refine (HC.out _).mono ?_); rintro e w3 ⟨rfl, b3⟩; have V3 := Lib.hid (VB.below ((V3.out.set 8 _).set 9 _) b3); clear b3)
    | ((with_reducible show wpList _ _ _ ({ dst := _, op := .build 25 #[], type := _, pos := _, after := _, guard := _ } :: _) _ _); refine wpList_build_as rfl 25 _ rfl #[.int .i64 0, .bool false, .bool false, .int .i64 0, .int .i64 0, .int .i64 0, .int .i64 0, .int .i64 0, .int .i64 0, .string ⟨#[]⟩] mzero_built ?_)
    | ((with_reducible show wpList _ _ _ ({ dst := _, op := .build 25 _, type := _, pos := _, after := _, guard := _ } :: _) _ _); refine wpList_build_as rfl 25 _ rfl #[.int .i64 a0, .bool true, .bool false, .int .i64 0, .int .i64 0, .int .i64 0, .int .i64 0, .int .i64 0, .int .i64 0, .string ⟨#[]⟩] (mnew_built _ _) ?_)
    | ((with_reducible show wpList _ _ _ ({ dst := _, op := .build 23 _, type := _, pos := _, after := _, guard := _ } :: _) _ _); refine wpList_build_as rfl 23 _ rfl #[.int .i64 a8, .int .i64 a9, .int .i64 a10, .int .i64 a11] (cred_built _ _ _ _) ?_)
    | ((with_reducible show wpList _ _ _ ({ dst := _, op := .store _ (.tmp 4) _, type := _, pos := _, after := _, guard := _ } :: _) _ _); refine wpList_store_st rfl 25 _ _ rfl (w.heap.size + 1) #[.int .i64 0, .bool false, .bool false, .int .i64 0, .int .i64 0, .int .i64 0, .int .i64 0, .int .i64 0, .int .i64 0, .string ⟨#[]⟩] rfl rfl _ K0.out (by kernel_rfl) rfl (by kernel_rfl) ?_; intro wz hz hst; have V := Lib.hid (show VA w wz from ⟨by rw [hz]; exact A00.out.setRow_other (by omega) _, hst, by rw [hz]; exact below_row L0.out (by omega) _⟩); clear hz hst)
    | ((with_reducible show wpList _ _ _ ({ dst := _, op := .store _ (.tmp 6) _, type := _, pos := _, after := _, guard := _ } :: _) _ _); refine wpList_store_st rfl 25 _ _ rfl _ #[.int .i64 a0, .bool true, .bool false, .int .i64 0, .int .i64 0, .int .i64 0, .int .i64 0, .int .i64 0, .int .i64 0, .string ⟨#[]⟩] rfl rfl _ (St.new w3 25 _) (by kernel_rfl) rfl (by kernel_rfl) ?_; rw [alloc_row]; intro wz hz hst; subst hz; have V3 := Lib.hid (V.out.toB #[.int .i64 a0, .bool true, .bool false, .int .i64 0, .int .i64 0, .int .i64 0, .int .i64 0, .int .i64 0, .int .i64 0, .string ⟨#[]⟩]); clear hst)
    | ((with_reducible show wpList _ _ _ ({ dst := _, op := .store _ (.tmp 7) _, type := _, pos := _, after := _, guard := _ } :: _) _ _); refine wpList_store_st rfl 23 _ _ rfl _ #[.int .i64 a8, .int .i64 a9, .int .i64 a10, .int .i64 a11] rfl rfl _ (St.new w3 23 _) (by kernel_rfl) rfl (by kernel_rfl) ?_; rw [alloc_row]; intro wz hz hst; subst hz; have V4 := Lib.hid (V3.out.toC #[.int .i64 a8, .int .i64 a9, .int .i64 a10, .int .i64 a11]); clear hst)
    | ((with_reducible show wpList _ _ _ ({ dst := _, op := .load _ (.tmp 4), type := _, pos := _, after := _, guard := _ } :: _) _ _); refine wpList_load_st rfl 25 _ rfl _ rfl 25 #[.int .i64 0, .bool false, .bool false, .int .i64 0, .int .i64 0, .int .i64 0, .int .i64 0, .int .i64 0, .int .i64 0, .string ⟨#[]⟩] (by first | exact V3.out.a.non | exact V.out.non) _ Tryd.underlying25 rfl (by kernel_rfl) ?_)
    | ((with_reducible show wpList _ _ _ ({ dst := _, op := .store _ (.tmp 2) _, type := _, pos := _, after := _, guard := _ } :: _) _ _); refine wpList_store_st rfl 25 _ _ rfl w.heap.size #[.int .i64 0, .bool false, .bool false, .int .i64 0, .int .i64 0, .int .i64 0, .int .i64 0, .int .i64 0, .int .i64 0, .string ⟨#[]⟩] rfl rfl _ (V3.out.a.res) (by kernel_rfl) rfl (by kernel_rfl) ?_; intro wz hz hst; have HQ := Lib.hid hz; have HR := Lib.hid hst; clear hz hst))
  refine ret_cell2 (r := 2) (t := 3) (k := w.heap.size) (T := 25) Tryd.results12 rfl rfl HR.out Tryd.underlying25 rfl (by kernel_rfl) rfl ?_
  have e0 := HQ.out
  subst e0
  exact ⟨rfl, below_row V3.out.a.low (Nat.le_refl _) _⟩

set_option maxRecDepth 100000 in
set_option maxHeartbeats 4000000 in
theorem mfGet_r4 (s : ByteArray) (w : World) (hs : s.size ≤ 2048)(h1 : atW s 1 = 1) (h2 : atW s 2 = 0) (g3 : 0 ≤ atW s 3) (g3b : atW s 3 ≤ 1) (g4 : atW s 4 ≠ 0) : Calls Tryd.prog 12 #[.string s] w fun e w' => e = .returned (.tuple #[.agg (mgGet s).1.arr, .int .i64 (mgGet s).2]) ∧ Below w.heap.size w w' := by
  have e : mgGet s = (Mg.zero, 14) := by
    unfold mgGet
    rw [if_neg (by omega), if_neg (by omega), if_pos h1, if_pos (by omega)]
  rw [e]
  clear e
  have A0 : ∀ W, Calls Tryd.prog 26 #[.string s, .int .i64 0] W fun e w' => e = .returned (.int .i64 (atW s 0)) ∧ Below W.heap.size W w' := fun W => mfat_any s 0 W (by omega) (by decide)
  have A1 : ∀ W, Calls Tryd.prog 26 #[.string s, .int .i64 1] W fun e w' => e = .returned (.int .i64 (atW s 1)) ∧ Below W.heap.size W w' := fun W => mfat_any s 1 W (by omega) (by decide)
  have A2 : ∀ W, Calls Tryd.prog 26 #[.string s, .int .i64 2] W fun e w' => e = .returned (.int .i64 (atW s 2)) ∧ Below W.heap.size W w' := fun W => mfat_any s 2 W (by omega) (by decide)
  have A3 : ∀ W, Calls Tryd.prog 26 #[.string s, .int .i64 3] W fun e w' => e = .returned (.int .i64 (atW s 3)) ∧ Below W.heap.size W w' := fun W => mfat_any s 3 W (by omega) (by decide)
  have A4 : ∀ W, Calls Tryd.prog 26 #[.string s, .int .i64 4] W fun e w' => e = .returned (.int .i64 (atW s 4)) ∧ Below W.heap.size W w' := fun W => mfat_any s 4 W (by omega) (by decide)
  have A5 : ∀ W, Calls Tryd.prog 26 #[.string s, .int .i64 5] W fun e w' => e = .returned (.int .i64 (atW s 5)) ∧ Below W.heap.size W w' := fun W => mfat_any s 5 W (by omega) (by decide)
  have A6 : ∀ W, Calls Tryd.prog 26 #[.string s, .int .i64 6] W fun e w' => e = .returned (.int .i64 (atW s 6)) ∧ Below W.heap.size W w' := fun W => mfat_any s 6 W (by omega) (by decide)
  have A7 : ∀ W, Calls Tryd.prog 26 #[.string s, .int .i64 7] W fun e w' => e = .returned (.int .i64 (atW s 7)) ∧ Below W.heap.size W w' := fun W => mfat_any s 7 W (by omega) (by decide)
  have A8 : ∀ W, Calls Tryd.prog 26 #[.string s, .int .i64 8] W fun e w' => e = .returned (.int .i64 (atW s 8)) ∧ Below W.heap.size W w' := fun W => mfat_any s 8 W (by omega) (by decide)
  have A9 : ∀ W, Calls Tryd.prog 26 #[.string s, .int .i64 9] W fun e w' => e = .returned (.int .i64 (atW s 9)) ∧ Below W.heap.size W w' := fun W => mfat_any s 9 W (by omega) (by decide)
  have A10 : ∀ W, Calls Tryd.prog 26 #[.string s, .int .i64 10] W fun e w' => e = .returned (.int .i64 (atW s 10)) ∧ Below W.heap.size W w' := fun W => mfat_any s 10 W (by omega) (by decide)
  have A11 : ∀ W, Calls Tryd.prog 26 #[.string s, .int .i64 11] W fun e w' => e = .returned (.int .i64 (atW s 11)) ∧ Below W.heap.size W w' := fun W => mfat_any s 11 W (by omega) (by decide)
  have A12 : ∀ W, Calls Tryd.prog 26 #[.string s, .int .i64 12] W fun e w' => e = .returned (.int .i64 (atW s 12)) ∧ Below W.heap.size W w' := fun W => mfat_any s 12 W (by omega) (by decide)
  have A13 : ∀ W, Calls Tryd.prog 26 #[.string s, .int .i64 13] W fun e w' => e = .returned (.int .i64 (atW s 13)) ∧ Below W.heap.size W w' := fun W => mfat_any s 13 W (by omega) (by decide)
  obtain ⟨a0, ha0⟩ : ∃ a, a = atW s 0 := ⟨_, rfl⟩
  rw [← ha0] at A0
  rw [h1] at A1
  rw [h2] at A2
  obtain ⟨a3, ha3⟩ : ∃ a, a = atW s 3 := ⟨_, rfl⟩
  rw [← ha3] at A3
  obtain ⟨a4, ha4⟩ : ∃ a, a = atW s 4 := ⟨_, rfl⟩
  rw [← ha4] at A4
  obtain ⟨a5, ha5⟩ : ∃ a, a = atW s 5 := ⟨_, rfl⟩
  rw [← ha5] at A5
  obtain ⟨a6, ha6⟩ : ∃ a, a = atW s 6 := ⟨_, rfl⟩
  rw [← ha6] at A6
  obtain ⟨a7, ha7⟩ : ∃ a, a = atW s 7 := ⟨_, rfl⟩
  rw [← ha7] at A7
  obtain ⟨a8, ha8⟩ : ∃ a, a = atW s 8 := ⟨_, rfl⟩
  rw [← ha8] at A8
  obtain ⟨a9, ha9⟩ : ∃ a, a = atW s 9 := ⟨_, rfl⟩
  rw [← ha9] at A9
  obtain ⟨a10, ha10⟩ : ∃ a, a = atW s 10 := ⟨_, rfl⟩
  rw [← ha10] at A10
  obtain ⟨a11, ha11⟩ : ∃ a, a = atW s 11 := ⟨_, rfl⟩
  rw [← ha11] at A11
  obtain ⟨a12, ha12⟩ : ∃ a, a = atW s 12 := ⟨_, rfl⟩
  rw [← ha12] at A12
  obtain ⟨a13, ha13⟩ : ∃ a, a = atW s 13 := ⟨_, rfl⟩
  rw [← ha13] at A13
  rw [← ha3] at g3 g3b
  rw [← ha4] at g4
  have d0 : decide ((s.size : Int) > 2048) = false := decide_eq_false (by omega)
  have d3 : decide (a3 < 0) = false := decide_eq_false (by omega)
  have d4 : decide (a3 > 1) = false := decide_eq_false (by omega)
  have na41 : (a4 == 0) = false := by simpa using g4
  have na42 : (a4 != 0) = true := by simpa using g4
  replace A0 := Lib.hid A0
  replace A1 := Lib.hid A1
  replace A2 := Lib.hid A2
  replace A3 := Lib.hid A3
  replace A4 := Lib.hid A4
  replace A5 := Lib.hid A5
  replace A6 := Lib.hid A6
  replace A7 := Lib.hid A7
  replace A8 := Lib.hid A8
  replace A9 := Lib.hid A9
  replace A10 := Lib.hid A10
  replace A11 := Lib.hid A11
  replace A12 := Lib.hid A12
  replace A13 := Lib.hid A13
  clear ha0 ha3 ha4 ha5 ha6 ha7 ha8 ha9 ha10 ha11 ha12 ha13
  clear hs g3 g3b g4
  have A00 := Lib.hid (show St 25 w.heap.size #[.int .i64 0, .bool false, .bool false, .int .i64 0, .int .i64 0, .int .i64 0, .int .i64 0, .int .i64 0, .int .i64 0, .string ⟨#[]⟩] ((w.alloc (.cells #[.int .i64 0, .bool false, .bool false, .int .i64 0, .int .i64 0, .int .i64 0, .int .i64 0, .int .i64 0, .int .i64 0, .string ⟨#[]⟩] 25 (0, 0))).alloc (.cells #[.int .i64 0, .bool false, .bool false, .int .i64 0, .int .i64 0, .int .i64 0, .int .i64 0, .int .i64 0, .int .i64 0, .string ⟨#[]⟩] 25 (0, 0))) from (St.new w 25 _).alloc _)
  have K0 := Lib.hid (show St 25 (w.heap.size + 1) #[.int .i64 0, .bool false, .bool false, .int .i64 0, .int .i64 0, .int .i64 0, .int .i64 0, .int .i64 0, .int .i64 0, .string ⟨#[]⟩] ((w.alloc (.cells #[.int .i64 0, .bool false, .bool false, .int .i64 0, .int .i64 0, .int .i64 0, .int .i64 0, .int .i64 0, .int .i64 0, .string ⟨#[]⟩] 25 (0, 0))).alloc (.cells #[.int .i64 0, .bool false, .bool false, .int .i64 0, .int .i64 0, .int .i64 0, .int .i64 0, .int .i64 0, .int .i64 0, .string ⟨#[]⟩] 25 (0, 0))) from by have := St.new (w.alloc (.cells #[.int .i64 0, .bool false, .bool false, .int .i64 0, .int .i64 0, .int .i64 0, .int .i64 0, .int .i64 0, .int .i64 0, .string ⟨#[]⟩] 25 (0, 0))) 25 #[.int .i64 0, .bool false, .bool false, .int .i64 0, .int .i64 0, .int .i64 0, .int .i64 0, .int .i64 0, .int .i64 0, .string ⟨#[]⟩]; simpa using this)
  have L0 := Lib.hid (show Below w.heap.size w ((w.alloc (.cells #[.int .i64 0, .bool false, .bool false, .int .i64 0, .int .i64 0, .int .i64 0, .int .i64 0, .int .i64 0, .int .i64 0, .string ⟨#[]⟩] 25 (0, 0))).alloc (.cells #[.int .i64 0, .bool false, .bool false, .int .i64 0, .int .i64 0, .int .i64 0, .int .i64 0, .int .i64 0, .int .i64 0, .string ⟨#[]⟩] 25 (0, 0))) from (below_one w _).alloc (by simp) _)
  dsimp only [Mg.arr, Mg.zero]
  go_enter Tryd.func12, Tryd.ntmps12
  go_wp2_with (first
    | (go_at_call 26; (first | (with_reducible refine (A0.out _).mono ?_) | (with_reducible refine (A1.out _).mono ?_) | (with_reducible refine (A2.out _).mono ?_) | (with_reducible refine (A3.out _).mono ?_) | (with_reducible refine (A4.out _).mono ?_) | (with_reducible refine (A5.out _).mono ?_) | (with_reducible refine (A6.out _).mono ?_) | (with_reducible refine (A7.out _).mono ?_) | (with_reducible refine (A8.out _).mono ?_) | (with_reducible refine (A9.out _).mono ?_) | (with_reducible refine (A10.out _).mono ?_) | (with_reducible refine (A11.out _).mono ?_) | (with_reducible refine (A12.out _).mono ?_) | (with_reducible refine (A13.out _).mono ?_)); rintro e w3 ⟨rfl, b3⟩; (first | (have V4 := Lib.hid (VC.below V4.out b3); have cc := V4.out.b.msg.cell (j := 8) rfl; have ff := V4.out.b.msg.free 8; have cc3 := V4.out.b.msg.cell (j := 3) rfl; have ff3 := V4.out.b.msg.free 3; have cc9 := V4.out.b.msg.cell (j := 9) rfl; have ff9 := V4.out.b.msg.free 9) | (have V3 := Lib.hid (VB.below (V3.out.set 2 _) b3); have cc := V3.out.msg.cell (j := 8) rfl; have ff := V3.out.msg.free 8; have cc9 := V3.out.msg.cell (j := 9) rfl; have ff9 := V3.out.msg.free 9) | (have V3 := Lib.hid (VB.below V3.out b3); have cc := V3.out.msg.cell (j := 8) rfl; have ff := V3.out.msg.free 8; have cc2 := V3.out.msg.cell (j := 2) rfl; have ff2 := V3.out.msg.free 2) | (have V := Lib.hid (VA.below V.out b3))); clear b3)
    | (go_at_call 19; go_must (refine (HO.out _).mono ?_); rintro e w3 ⟨rfl, b3⟩; (first | (have V4 := Lib.hid (VC.below V4.out b3); have cc := V4.out.b.msg.cell (j := 8) rfl; have ff := V4.out.b.msg.free 8; have cc3 := V4.out.b.msg.cell (j := 3) rfl; have ff3 := V4.out.b.msg.free 3; have cc9 := V4.out.b.msg.cell (j := 9) rfl; have ff9 := V4.out.b.msg.free 9) | (have V3 := Lib.hid (VB.below (V3.out.set 2 _) b3); have cc := V3.out.msg.cell (j := 8) rfl; have ff := V3.out.msg.free 8; have cc9 := V3.out.msg.cell (j := 9) rfl; have ff9 := V3.out.msg.free 9) | (have V3 := Lib.hid (VB.below V3.out b3); have cc := V3.out.msg.cell (j := 8) rfl; have ff := V3.out.msg.free 8; have cc2 := V3.out.msg.cell (j := 2) rfl; have ff2 := V3.out.msg.free 2) | (have V := Lib.hid (VA.below V.out b3))); clear b3)
    | (go_at_call 8; go_must (refine (HC.out _).mono ?_); rintro e w3 ⟨rfl, b3⟩; have V3 := Lib.hid (VB.below ((V3.out.set 8 _).set 9 _) b3); clear b3)
    | ((with_reducible show wpList _ _ _ ({ dst := _, op := .build 25 #[], type := _, pos := _, after := _, guard := _ } :: _) _ _); refine wpList_build_as rfl 25 _ rfl #[.int .i64 0, .bool false, .bool false, .int .i64 0, .int .i64 0, .int .i64 0, .int .i64 0, .int .i64 0, .int .i64 0, .string ⟨#[]⟩] mzero_built ?_)
    | ((with_reducible show wpList _ _ _ ({ dst := _, op := .build 25 _, type := _, pos := _, after := _, guard := _ } :: _) _ _); refine wpList_build_as rfl 25 _ rfl #[.int .i64 a0, .bool true, .bool false, .int .i64 0, .int .i64 0, .int .i64 0, .int .i64 0, .int .i64 0, .int .i64 0, .string ⟨#[]⟩] (mnew_built _ _) ?_)
    | ((with_reducible show wpList _ _ _ ({ dst := _, op := .build 23 _, type := _, pos := _, after := _, guard := _ } :: _) _ _); refine wpList_build_as rfl 23 _ rfl #[.int .i64 a8, .int .i64 a9, .int .i64 a10, .int .i64 a11] (cred_built _ _ _ _) ?_)
    | ((with_reducible show wpList _ _ _ ({ dst := _, op := .store _ (.tmp 4) _, type := _, pos := _, after := _, guard := _ } :: _) _ _); refine wpList_store_st rfl 25 _ _ rfl (w.heap.size + 1) #[.int .i64 0, .bool false, .bool false, .int .i64 0, .int .i64 0, .int .i64 0, .int .i64 0, .int .i64 0, .int .i64 0, .string ⟨#[]⟩] rfl rfl _ K0.out (by kernel_rfl) rfl (by kernel_rfl) ?_; intro wz hz hst; have V := Lib.hid (show VA w wz from ⟨by rw [hz]; exact A00.out.setRow_other (by omega) _, hst, by rw [hz]; exact below_row L0.out (by omega) _⟩); clear hz hst)
    | ((with_reducible show wpList _ _ _ ({ dst := _, op := .store _ (.tmp 6) _, type := _, pos := _, after := _, guard := _ } :: _) _ _); refine wpList_store_st rfl 25 _ _ rfl _ #[.int .i64 a0, .bool true, .bool false, .int .i64 0, .int .i64 0, .int .i64 0, .int .i64 0, .int .i64 0, .int .i64 0, .string ⟨#[]⟩] rfl rfl _ (St.new w3 25 _) (by kernel_rfl) rfl (by kernel_rfl) ?_; rw [alloc_row]; intro wz hz hst; subst hz; have V3 := Lib.hid (V.out.toB #[.int .i64 a0, .bool true, .bool false, .int .i64 0, .int .i64 0, .int .i64 0, .int .i64 0, .int .i64 0, .int .i64 0, .string ⟨#[]⟩]); clear hst)
    | ((with_reducible show wpList _ _ _ ({ dst := _, op := .store _ (.tmp 7) _, type := _, pos := _, after := _, guard := _ } :: _) _ _); refine wpList_store_st rfl 23 _ _ rfl _ #[.int .i64 a8, .int .i64 a9, .int .i64 a10, .int .i64 a11] rfl rfl _ (St.new w3 23 _) (by kernel_rfl) rfl (by kernel_rfl) ?_; rw [alloc_row]; intro wz hz hst; subst hz; have V4 := Lib.hid (V3.out.toC #[.int .i64 a8, .int .i64 a9, .int .i64 a10, .int .i64 a11]); clear hst)
    | ((with_reducible show wpList _ _ _ ({ dst := _, op := .load _ (.tmp 4), type := _, pos := _, after := _, guard := _ } :: _) _ _); refine wpList_load_st rfl 25 _ rfl _ rfl 25 #[.int .i64 0, .bool false, .bool false, .int .i64 0, .int .i64 0, .int .i64 0, .int .i64 0, .int .i64 0, .int .i64 0, .string ⟨#[]⟩] (by first | exact V3.out.a.non | exact V.out.non) _ Tryd.underlying25 rfl (by kernel_rfl) ?_)
    | ((with_reducible show wpList _ _ _ ({ dst := _, op := .store _ (.tmp 2) _, type := _, pos := _, after := _, guard := _ } :: _) _ _); refine wpList_store_st rfl 25 _ _ rfl w.heap.size #[.int .i64 0, .bool false, .bool false, .int .i64 0, .int .i64 0, .int .i64 0, .int .i64 0, .int .i64 0, .int .i64 0, .string ⟨#[]⟩] rfl rfl _ (V3.out.a.res) (by kernel_rfl) rfl (by kernel_rfl) ?_; intro wz hz hst; have HQ := Lib.hid hz; have HR := Lib.hid hst; clear hz hst))
  refine ret_cell2 (r := 2) (t := 3) (k := w.heap.size) (T := 25) Tryd.results12 rfl rfl HR.out Tryd.underlying25 rfl (by kernel_rfl) rfl ?_
  have e0 := HQ.out
  subst e0
  exact ⟨rfl, below_row V3.out.a.low (Nat.le_refl _) _⟩

set_option maxRecDepth 100000 in
set_option maxHeartbeats 4000000 in
theorem mfGet_r5 (s : ByteArray) (w : World) (hs : s.size ≤ 2048)(h1 : atW s 1 = 1) (h2 : atW s 2 = 0) (g3 : 0 ≤ atW s 3) (g3b : atW s 3 ≤ 1) (h4 : atW s 4 = 0) (g5 : atW s 5 < 0) : Calls Tryd.prog 12 #[.string s] w fun e w' => e = .returned (.tuple #[.agg (mgGet s).1.arr, .int .i64 (mgGet s).2]) ∧ Below w.heap.size w w' := by
  have e : mgGet s = (Mg.zero, 14) := by
    unfold mgGet
    rw [if_neg (by omega), if_neg (by omega), if_pos h1, if_pos (by omega)]
  rw [e]
  clear e
  have A0 : ∀ W, Calls Tryd.prog 26 #[.string s, .int .i64 0] W fun e w' => e = .returned (.int .i64 (atW s 0)) ∧ Below W.heap.size W w' := fun W => mfat_any s 0 W (by omega) (by decide)
  have A1 : ∀ W, Calls Tryd.prog 26 #[.string s, .int .i64 1] W fun e w' => e = .returned (.int .i64 (atW s 1)) ∧ Below W.heap.size W w' := fun W => mfat_any s 1 W (by omega) (by decide)
  have A2 : ∀ W, Calls Tryd.prog 26 #[.string s, .int .i64 2] W fun e w' => e = .returned (.int .i64 (atW s 2)) ∧ Below W.heap.size W w' := fun W => mfat_any s 2 W (by omega) (by decide)
  have A3 : ∀ W, Calls Tryd.prog 26 #[.string s, .int .i64 3] W fun e w' => e = .returned (.int .i64 (atW s 3)) ∧ Below W.heap.size W w' := fun W => mfat_any s 3 W (by omega) (by decide)
  have A4 : ∀ W, Calls Tryd.prog 26 #[.string s, .int .i64 4] W fun e w' => e = .returned (.int .i64 (atW s 4)) ∧ Below W.heap.size W w' := fun W => mfat_any s 4 W (by omega) (by decide)
  have A5 : ∀ W, Calls Tryd.prog 26 #[.string s, .int .i64 5] W fun e w' => e = .returned (.int .i64 (atW s 5)) ∧ Below W.heap.size W w' := fun W => mfat_any s 5 W (by omega) (by decide)
  have A6 : ∀ W, Calls Tryd.prog 26 #[.string s, .int .i64 6] W fun e w' => e = .returned (.int .i64 (atW s 6)) ∧ Below W.heap.size W w' := fun W => mfat_any s 6 W (by omega) (by decide)
  have A7 : ∀ W, Calls Tryd.prog 26 #[.string s, .int .i64 7] W fun e w' => e = .returned (.int .i64 (atW s 7)) ∧ Below W.heap.size W w' := fun W => mfat_any s 7 W (by omega) (by decide)
  have A8 : ∀ W, Calls Tryd.prog 26 #[.string s, .int .i64 8] W fun e w' => e = .returned (.int .i64 (atW s 8)) ∧ Below W.heap.size W w' := fun W => mfat_any s 8 W (by omega) (by decide)
  have A9 : ∀ W, Calls Tryd.prog 26 #[.string s, .int .i64 9] W fun e w' => e = .returned (.int .i64 (atW s 9)) ∧ Below W.heap.size W w' := fun W => mfat_any s 9 W (by omega) (by decide)
  have A10 : ∀ W, Calls Tryd.prog 26 #[.string s, .int .i64 10] W fun e w' => e = .returned (.int .i64 (atW s 10)) ∧ Below W.heap.size W w' := fun W => mfat_any s 10 W (by omega) (by decide)
  have A11 : ∀ W, Calls Tryd.prog 26 #[.string s, .int .i64 11] W fun e w' => e = .returned (.int .i64 (atW s 11)) ∧ Below W.heap.size W w' := fun W => mfat_any s 11 W (by omega) (by decide)
  have A12 : ∀ W, Calls Tryd.prog 26 #[.string s, .int .i64 12] W fun e w' => e = .returned (.int .i64 (atW s 12)) ∧ Below W.heap.size W w' := fun W => mfat_any s 12 W (by omega) (by decide)
  have A13 : ∀ W, Calls Tryd.prog 26 #[.string s, .int .i64 13] W fun e w' => e = .returned (.int .i64 (atW s 13)) ∧ Below W.heap.size W w' := fun W => mfat_any s 13 W (by omega) (by decide)
  obtain ⟨a0, ha0⟩ : ∃ a, a = atW s 0 := ⟨_, rfl⟩
  rw [← ha0] at A0
  rw [h1] at A1
  rw [h2] at A2
  obtain ⟨a3, ha3⟩ : ∃ a, a = atW s 3 := ⟨_, rfl⟩
  rw [← ha3] at A3
  rw [h4] at A4
  obtain ⟨a5, ha5⟩ : ∃ a, a = atW s 5 := ⟨_, rfl⟩
  rw [← ha5] at A5
  obtain ⟨a6, ha6⟩ : ∃ a, a = atW s 6 := ⟨_, rfl⟩
  rw [← ha6] at A6
  obtain ⟨a7, ha7⟩ : ∃ a, a = atW s 7 := ⟨_, rfl⟩
  rw [← ha7] at A7
  obtain ⟨a8, ha8⟩ : ∃ a, a = atW s 8 := ⟨_, rfl⟩
  rw [← ha8] at A8
  obtain ⟨a9, ha9⟩ : ∃ a, a = atW s 9 := ⟨_, rfl⟩
  rw [← ha9] at A9
  obtain ⟨a10, ha10⟩ : ∃ a, a = atW s 10 := ⟨_, rfl⟩
  rw [← ha10] at A10
  obtain ⟨a11, ha11⟩ : ∃ a, a = atW s 11 := ⟨_, rfl⟩
  rw [← ha11] at A11
  obtain ⟨a12, ha12⟩ : ∃ a, a = atW s 12 := ⟨_, rfl⟩
  rw [← ha12] at A12
  obtain ⟨a13, ha13⟩ : ∃ a, a = atW s 13 := ⟨_, rfl⟩
  rw [← ha13] at A13
  rw [← ha3] at g3 g3b
  rw [← ha5] at g5
  have d0 : decide ((s.size : Int) > 2048) = false := decide_eq_false (by omega)
  have d3 : decide (a3 < 0) = false := decide_eq_false (by omega)
  have d4 : decide (a3 > 1) = false := decide_eq_false (by omega)
  have d5 : decide (a5 < 0) = true := decide_eq_true g5
  replace A0 := Lib.hid A0
  replace A1 := Lib.hid A1
  replace A2 := Lib.hid A2
  replace A3 := Lib.hid A3
  replace A4 := Lib.hid A4
  replace A5 := Lib.hid A5
  replace A6 := Lib.hid A6
  replace A7 := Lib.hid A7
  replace A8 := Lib.hid A8
  replace A9 := Lib.hid A9
  replace A10 := Lib.hid A10
  replace A11 := Lib.hid A11
  replace A12 := Lib.hid A12
  replace A13 := Lib.hid A13
  clear ha0 ha3 ha5 ha6 ha7 ha8 ha9 ha10 ha11 ha12 ha13
  clear hs g3 g3b g5
  have A00 := Lib.hid (show St 25 w.heap.size #[.int .i64 0, .bool false, .bool false, .int .i64 0, .int .i64 0, .int .i64 0, .int .i64 0, .int .i64 0, .int .i64 0, .string ⟨#[]⟩] ((w.alloc (.cells #[.int .i64 0, .bool false, .bool false, .int .i64 0, .int .i64 0, .int .i64 0, .int .i64 0, .int .i64 0, .int .i64 0, .string ⟨#[]⟩] 25 (0, 0))).alloc (.cells #[.int .i64 0, .bool false, .bool false, .int .i64 0, .int .i64 0, .int .i64 0, .int .i64 0, .int .i64 0, .int .i64 0, .string ⟨#[]⟩] 25 (0, 0))) from (St.new w 25 _).alloc _)
  have K0 := Lib.hid (show St 25 (w.heap.size + 1) #[.int .i64 0, .bool false, .bool false, .int .i64 0, .int .i64 0, .int .i64 0, .int .i64 0, .int .i64 0, .int .i64 0, .string ⟨#[]⟩] ((w.alloc (.cells #[.int .i64 0, .bool false, .bool false, .int .i64 0, .int .i64 0, .int .i64 0, .int .i64 0, .int .i64 0, .int .i64 0, .string ⟨#[]⟩] 25 (0, 0))).alloc (.cells #[.int .i64 0, .bool false, .bool false, .int .i64 0, .int .i64 0, .int .i64 0, .int .i64 0, .int .i64 0, .int .i64 0, .string ⟨#[]⟩] 25 (0, 0))) from by have := St.new (w.alloc (.cells #[.int .i64 0, .bool false, .bool false, .int .i64 0, .int .i64 0, .int .i64 0, .int .i64 0, .int .i64 0, .int .i64 0, .string ⟨#[]⟩] 25 (0, 0))) 25 #[.int .i64 0, .bool false, .bool false, .int .i64 0, .int .i64 0, .int .i64 0, .int .i64 0, .int .i64 0, .int .i64 0, .string ⟨#[]⟩]; simpa using this)
  have L0 := Lib.hid (show Below w.heap.size w ((w.alloc (.cells #[.int .i64 0, .bool false, .bool false, .int .i64 0, .int .i64 0, .int .i64 0, .int .i64 0, .int .i64 0, .int .i64 0, .string ⟨#[]⟩] 25 (0, 0))).alloc (.cells #[.int .i64 0, .bool false, .bool false, .int .i64 0, .int .i64 0, .int .i64 0, .int .i64 0, .int .i64 0, .int .i64 0, .string ⟨#[]⟩] 25 (0, 0))) from (below_one w _).alloc (by simp) _)
  dsimp only [Mg.arr, Mg.zero]
  go_enter Tryd.func12, Tryd.ntmps12
  go_wp2_with (first
    | (go_at_call 26; (first | (with_reducible refine (A0.out _).mono ?_) | (with_reducible refine (A1.out _).mono ?_) | (with_reducible refine (A2.out _).mono ?_) | (with_reducible refine (A3.out _).mono ?_) | (with_reducible refine (A4.out _).mono ?_) | (with_reducible refine (A5.out _).mono ?_) | (with_reducible refine (A6.out _).mono ?_) | (with_reducible refine (A7.out _).mono ?_) | (with_reducible refine (A8.out _).mono ?_) | (with_reducible refine (A9.out _).mono ?_) | (with_reducible refine (A10.out _).mono ?_) | (with_reducible refine (A11.out _).mono ?_) | (with_reducible refine (A12.out _).mono ?_) | (with_reducible refine (A13.out _).mono ?_)); rintro e w3 ⟨rfl, b3⟩; (first | (have V4 := Lib.hid (VC.below V4.out b3); have cc := V4.out.b.msg.cell (j := 8) rfl; have ff := V4.out.b.msg.free 8; have cc3 := V4.out.b.msg.cell (j := 3) rfl; have ff3 := V4.out.b.msg.free 3; have cc9 := V4.out.b.msg.cell (j := 9) rfl; have ff9 := V4.out.b.msg.free 9) | (have V3 := Lib.hid (VB.below (V3.out.set 2 _) b3); have cc := V3.out.msg.cell (j := 8) rfl; have ff := V3.out.msg.free 8; have cc9 := V3.out.msg.cell (j := 9) rfl; have ff9 := V3.out.msg.free 9) | (have V3 := Lib.hid (VB.below V3.out b3); have cc := V3.out.msg.cell (j := 8) rfl; have ff := V3.out.msg.free 8; have cc2 := V3.out.msg.cell (j := 2) rfl; have ff2 := V3.out.msg.free 2) | (have V := Lib.hid (VA.below V.out b3))); clear b3)
    | (go_at_call 19; go_must (refine (HO.out _).mono ?_); rintro e w3 ⟨rfl, b3⟩; (first | (have V4 := Lib.hid (VC.below V4.out b3); have cc := V4.out.b.msg.cell (j := 8) rfl; have ff := V4.out.b.msg.free 8; have cc3 := V4.out.b.msg.cell (j := 3) rfl; have ff3 := V4.out.b.msg.free 3; have cc9 := V4.out.b.msg.cell (j := 9) rfl; have ff9 := V4.out.b.msg.free 9) | (have V3 := Lib.hid (VB.below (V3.out.set 2 _) b3); have cc := V3.out.msg.cell (j := 8) rfl; have ff := V3.out.msg.free 8; have cc9 := V3.out.msg.cell (j := 9) rfl; have ff9 := V3.out.msg.free 9) | (have V3 := Lib.hid (VB.below V3.out b3); have cc := V3.out.msg.cell (j := 8) rfl; have ff := V3.out.msg.free 8; have cc2 := V3.out.msg.cell (j := 2) rfl; have ff2 := V3.out.msg.free 2) | (have V := Lib.hid (VA.below V.out b3))); clear b3)
    | (go_at_call 8; go_must (refine (HC.out _).mono ?_); rintro e w3 ⟨rfl, b3⟩; have V3 := Lib.hid (VB.below ((V3.out.set 8 _).set 9 _) b3); clear b3)
    | ((with_reducible show wpList _ _ _ ({ dst := _, op := .build 25 #[], type := _, pos := _, after := _, guard := _ } :: _) _ _); refine wpList_build_as rfl 25 _ rfl #[.int .i64 0, .bool false, .bool false, .int .i64 0, .int .i64 0, .int .i64 0, .int .i64 0, .int .i64 0, .int .i64 0, .string ⟨#[]⟩] mzero_built ?_)
    | ((with_reducible show wpList _ _ _ ({ dst := _, op := .build 25 _, type := _, pos := _, after := _, guard := _ } :: _) _ _); refine wpList_build_as rfl 25 _ rfl #[.int .i64 a0, .bool true, .bool false, .int .i64 0, .int .i64 0, .int .i64 0, .int .i64 0, .int .i64 0, .int .i64 0, .string ⟨#[]⟩] (mnew_built _ _) ?_)
    | ((with_reducible show wpList _ _ _ ({ dst := _, op := .build 23 _, type := _, pos := _, after := _, guard := _ } :: _) _ _); refine wpList_build_as rfl 23 _ rfl #[.int .i64 a8, .int .i64 a9, .int .i64 a10, .int .i64 a11] (cred_built _ _ _ _) ?_)
    | ((with_reducible show wpList _ _ _ ({ dst := _, op := .store _ (.tmp 4) _, type := _, pos := _, after := _, guard := _ } :: _) _ _); refine wpList_store_st rfl 25 _ _ rfl (w.heap.size + 1) #[.int .i64 0, .bool false, .bool false, .int .i64 0, .int .i64 0, .int .i64 0, .int .i64 0, .int .i64 0, .int .i64 0, .string ⟨#[]⟩] rfl rfl _ K0.out (by kernel_rfl) rfl (by kernel_rfl) ?_; intro wz hz hst; have V := Lib.hid (show VA w wz from ⟨by rw [hz]; exact A00.out.setRow_other (by omega) _, hst, by rw [hz]; exact below_row L0.out (by omega) _⟩); clear hz hst)
    | ((with_reducible show wpList _ _ _ ({ dst := _, op := .store _ (.tmp 6) _, type := _, pos := _, after := _, guard := _ } :: _) _ _); refine wpList_store_st rfl 25 _ _ rfl _ #[.int .i64 a0, .bool true, .bool false, .int .i64 0, .int .i64 0, .int .i64 0, .int .i64 0, .int .i64 0, .int .i64 0, .string ⟨#[]⟩] rfl rfl _ (St.new w3 25 _) (by kernel_rfl) rfl (by kernel_rfl) ?_; rw [alloc_row]; intro wz hz hst; subst hz; have V3 := Lib.hid (V.out.toB #[.int .i64 a0, .bool true, .bool false, .int .i64 0, .int .i64 0, .int .i64 0, .int .i64 0, .int .i64 0, .int .i64 0, .string ⟨#[]⟩]); clear hst)
    | ((with_reducible show wpList _ _ _ ({ dst := _, op := .store _ (.tmp 7) _, type := _, pos := _, after := _, guard := _ } :: _) _ _); refine wpList_store_st rfl 23 _ _ rfl _ #[.int .i64 a8, .int .i64 a9, .int .i64 a10, .int .i64 a11] rfl rfl _ (St.new w3 23 _) (by kernel_rfl) rfl (by kernel_rfl) ?_; rw [alloc_row]; intro wz hz hst; subst hz; have V4 := Lib.hid (V3.out.toC #[.int .i64 a8, .int .i64 a9, .int .i64 a10, .int .i64 a11]); clear hst)
    | ((with_reducible show wpList _ _ _ ({ dst := _, op := .load _ (.tmp 4), type := _, pos := _, after := _, guard := _ } :: _) _ _); refine wpList_load_st rfl 25 _ rfl _ rfl 25 #[.int .i64 0, .bool false, .bool false, .int .i64 0, .int .i64 0, .int .i64 0, .int .i64 0, .int .i64 0, .int .i64 0, .string ⟨#[]⟩] (by first | exact V3.out.a.non | exact V.out.non) _ Tryd.underlying25 rfl (by kernel_rfl) ?_)
    | ((with_reducible show wpList _ _ _ ({ dst := _, op := .store _ (.tmp 2) _, type := _, pos := _, after := _, guard := _ } :: _) _ _); refine wpList_store_st rfl 25 _ _ rfl w.heap.size #[.int .i64 0, .bool false, .bool false, .int .i64 0, .int .i64 0, .int .i64 0, .int .i64 0, .int .i64 0, .int .i64 0, .string ⟨#[]⟩] rfl rfl _ (V3.out.a.res) (by kernel_rfl) rfl (by kernel_rfl) ?_; intro wz hz hst; have HQ := Lib.hid hz; have HR := Lib.hid hst; clear hz hst))
  refine ret_cell2 (r := 2) (t := 3) (k := w.heap.size) (T := 25) Tryd.results12 rfl rfl HR.out Tryd.underlying25 rfl (by kernel_rfl) rfl ?_
  have e0 := HQ.out
  subst e0
  exact ⟨rfl, below_row V3.out.a.low (Nat.le_refl _) _⟩

set_option maxRecDepth 100000 in
set_option maxHeartbeats 4000000 in
theorem mfGet_rno0 (s : ByteArray) (w : World) (hs : s.size ≤ 2048)(h1 : atW s 1 = 1) (h2 : atW s 2 = 0) (h3 : atW s 3 = 0) (h4 : atW s 4 = 0) (g5 : 0 ≤ atW s 5) (gk : okMg { Mg.zero with xid := atW s 0, ans := true, again := decide (atW s 3 = 1), accept := atW s 5, body := s.extract 24 s.size } = false) : Calls Tryd.prog 12 #[.string s] w fun e w' => e = .returned (.tuple #[.agg (mgGet s).1.arr, .int .i64 (mgGet s).2]) ∧ Below w.heap.size w w' := by
  have e : mgGet s = (Mg.zero, 14) := by
    unfold mgGet
    rw [if_neg (by omega), if_neg (by omega), if_pos h1, if_neg (by omega), if_neg (by rw [gk]; decide)]
  rw [e]
  clear e
  have A0 : ∀ W, Calls Tryd.prog 26 #[.string s, .int .i64 0] W fun e w' => e = .returned (.int .i64 (atW s 0)) ∧ Below W.heap.size W w' := fun W => mfat_any s 0 W (by omega) (by decide)
  have A1 : ∀ W, Calls Tryd.prog 26 #[.string s, .int .i64 1] W fun e w' => e = .returned (.int .i64 (atW s 1)) ∧ Below W.heap.size W w' := fun W => mfat_any s 1 W (by omega) (by decide)
  have A2 : ∀ W, Calls Tryd.prog 26 #[.string s, .int .i64 2] W fun e w' => e = .returned (.int .i64 (atW s 2)) ∧ Below W.heap.size W w' := fun W => mfat_any s 2 W (by omega) (by decide)
  have A3 : ∀ W, Calls Tryd.prog 26 #[.string s, .int .i64 3] W fun e w' => e = .returned (.int .i64 (atW s 3)) ∧ Below W.heap.size W w' := fun W => mfat_any s 3 W (by omega) (by decide)
  have A4 : ∀ W, Calls Tryd.prog 26 #[.string s, .int .i64 4] W fun e w' => e = .returned (.int .i64 (atW s 4)) ∧ Below W.heap.size W w' := fun W => mfat_any s 4 W (by omega) (by decide)
  have A5 : ∀ W, Calls Tryd.prog 26 #[.string s, .int .i64 5] W fun e w' => e = .returned (.int .i64 (atW s 5)) ∧ Below W.heap.size W w' := fun W => mfat_any s 5 W (by omega) (by decide)
  have A6 : ∀ W, Calls Tryd.prog 26 #[.string s, .int .i64 6] W fun e w' => e = .returned (.int .i64 (atW s 6)) ∧ Below W.heap.size W w' := fun W => mfat_any s 6 W (by omega) (by decide)
  have A7 : ∀ W, Calls Tryd.prog 26 #[.string s, .int .i64 7] W fun e w' => e = .returned (.int .i64 (atW s 7)) ∧ Below W.heap.size W w' := fun W => mfat_any s 7 W (by omega) (by decide)
  have A8 : ∀ W, Calls Tryd.prog 26 #[.string s, .int .i64 8] W fun e w' => e = .returned (.int .i64 (atW s 8)) ∧ Below W.heap.size W w' := fun W => mfat_any s 8 W (by omega) (by decide)
  have A9 : ∀ W, Calls Tryd.prog 26 #[.string s, .int .i64 9] W fun e w' => e = .returned (.int .i64 (atW s 9)) ∧ Below W.heap.size W w' := fun W => mfat_any s 9 W (by omega) (by decide)
  have A10 : ∀ W, Calls Tryd.prog 26 #[.string s, .int .i64 10] W fun e w' => e = .returned (.int .i64 (atW s 10)) ∧ Below W.heap.size W w' := fun W => mfat_any s 10 W (by omega) (by decide)
  have A11 : ∀ W, Calls Tryd.prog 26 #[.string s, .int .i64 11] W fun e w' => e = .returned (.int .i64 (atW s 11)) ∧ Below W.heap.size W w' := fun W => mfat_any s 11 W (by omega) (by decide)
  have A12 : ∀ W, Calls Tryd.prog 26 #[.string s, .int .i64 12] W fun e w' => e = .returned (.int .i64 (atW s 12)) ∧ Below W.heap.size W w' := fun W => mfat_any s 12 W (by omega) (by decide)
  have A13 : ∀ W, Calls Tryd.prog 26 #[.string s, .int .i64 13] W fun e w' => e = .returned (.int .i64 (atW s 13)) ∧ Below W.heap.size W w' := fun W => mfat_any s 13 W (by omega) (by decide)
  obtain ⟨a0, ha0⟩ : ∃ a, a = atW s 0 := ⟨_, rfl⟩
  rw [← ha0] at A0
  rw [h1] at A1
  rw [h2] at A2
  rw [h3] at A3
  rw [h4] at A4
  obtain ⟨a5, ha5⟩ : ∃ a, a = atW s 5 := ⟨_, rfl⟩
  rw [← ha5] at A5
  obtain ⟨a6, ha6⟩ : ∃ a, a = atW s 6 := ⟨_, rfl⟩
  rw [← ha6] at A6
  obtain ⟨a7, ha7⟩ : ∃ a, a = atW s 7 := ⟨_, rfl⟩
  rw [← ha7] at A7
  obtain ⟨a8, ha8⟩ : ∃ a, a = atW s 8 := ⟨_, rfl⟩
  rw [← ha8] at A8
  obtain ⟨a9, ha9⟩ : ∃ a, a = atW s 9 := ⟨_, rfl⟩
  rw [← ha9] at A9
  obtain ⟨a10, ha10⟩ : ∃ a, a = atW s 10 := ⟨_, rfl⟩
  rw [← ha10] at A10
  obtain ⟨a11, ha11⟩ : ∃ a, a = atW s 11 := ⟨_, rfl⟩
  rw [← ha11] at A11
  obtain ⟨a12, ha12⟩ : ∃ a, a = atW s 12 := ⟨_, rfl⟩
  rw [← ha12] at A12
  obtain ⟨a13, ha13⟩ : ∃ a, a = atW s 13 := ⟨_, rfl⟩
  rw [← ha13] at A13
  have d0 : decide ((s.size : Int) > 2048) = false := decide_eq_false (by omega)
  have d5 : decide (a5 < 0) = false := decide_eq_false (by omega)
  have hl := atW_there g5
  have hag : decide (atW s 3 = 1) = false := by rw [h3]; rfl
  rw [ha0.symm, ha5.symm, hag] at gk
  have hmq : ({ Mg.zero with xid := atW s 0, ans := true, again := decide (atW s 3 = 1), accept := atW s 5, body := s.extract 24 s.size } : Mg) = (⟨a0, true, false, 0, 0, 0, 0, 0, a5, s.extract 24 s.size⟩ : Mg) := by rw [← ha0, ← ha5, hag]; rfl
  obtain ⟨bd, hbd⟩ : ∃ b, b = s.extract 24 s.size := ⟨_, rfl⟩
  rw [← hbd] at gk hmq
  have HC := Lib.hid (fun W => mfCheck_any (⟨a0, true, false, 0, 0, 0, 0, 0, a5, bd⟩ : Mg) W)
  rw [show okMg (⟨a0, true, false, 0, 0, 0, 0, 0, a5, bd⟩ : Mg) = false from gk] at HC
  have z24 : (24 : Int) ≤ (s.size : Int) := by omega
  have z24n : 24 ≤ s.size := by omega
  have z24d : decide ((24 : Int) ≤ (s.size : Int)) = true := decide_eq_true z24
  have hbx := hbd.symm
  clear hbd hl hag hmq gk hs h1 h2 h3 h4 g5
  replace A0 := Lib.hid A0
  replace A1 := Lib.hid A1
  replace A2 := Lib.hid A2
  replace A3 := Lib.hid A3
  replace A4 := Lib.hid A4
  replace A5 := Lib.hid A5
  replace A6 := Lib.hid A6
  replace A7 := Lib.hid A7
  replace A8 := Lib.hid A8
  replace A9 := Lib.hid A9
  replace A10 := Lib.hid A10
  replace A11 := Lib.hid A11
  replace A12 := Lib.hid A12
  replace A13 := Lib.hid A13
  clear ha0 ha5 ha6 ha7 ha8 ha9 ha10 ha11 ha12 ha13
  have A00 := Lib.hid (show St 25 w.heap.size #[.int .i64 0, .bool false, .bool false, .int .i64 0, .int .i64 0, .int .i64 0, .int .i64 0, .int .i64 0, .int .i64 0, .string ⟨#[]⟩] ((w.alloc (.cells #[.int .i64 0, .bool false, .bool false, .int .i64 0, .int .i64 0, .int .i64 0, .int .i64 0, .int .i64 0, .int .i64 0, .string ⟨#[]⟩] 25 (0, 0))).alloc (.cells #[.int .i64 0, .bool false, .bool false, .int .i64 0, .int .i64 0, .int .i64 0, .int .i64 0, .int .i64 0, .int .i64 0, .string ⟨#[]⟩] 25 (0, 0))) from (St.new w 25 _).alloc _)
  have K0 := Lib.hid (show St 25 (w.heap.size + 1) #[.int .i64 0, .bool false, .bool false, .int .i64 0, .int .i64 0, .int .i64 0, .int .i64 0, .int .i64 0, .int .i64 0, .string ⟨#[]⟩] ((w.alloc (.cells #[.int .i64 0, .bool false, .bool false, .int .i64 0, .int .i64 0, .int .i64 0, .int .i64 0, .int .i64 0, .int .i64 0, .string ⟨#[]⟩] 25 (0, 0))).alloc (.cells #[.int .i64 0, .bool false, .bool false, .int .i64 0, .int .i64 0, .int .i64 0, .int .i64 0, .int .i64 0, .int .i64 0, .string ⟨#[]⟩] 25 (0, 0))) from by have := St.new (w.alloc (.cells #[.int .i64 0, .bool false, .bool false, .int .i64 0, .int .i64 0, .int .i64 0, .int .i64 0, .int .i64 0, .int .i64 0, .string ⟨#[]⟩] 25 (0, 0))) 25 #[.int .i64 0, .bool false, .bool false, .int .i64 0, .int .i64 0, .int .i64 0, .int .i64 0, .int .i64 0, .int .i64 0, .string ⟨#[]⟩]; simpa using this)
  have L0 := Lib.hid (show Below w.heap.size w ((w.alloc (.cells #[.int .i64 0, .bool false, .bool false, .int .i64 0, .int .i64 0, .int .i64 0, .int .i64 0, .int .i64 0, .int .i64 0, .string ⟨#[]⟩] 25 (0, 0))).alloc (.cells #[.int .i64 0, .bool false, .bool false, .int .i64 0, .int .i64 0, .int .i64 0, .int .i64 0, .int .i64 0, .int .i64 0, .string ⟨#[]⟩] 25 (0, 0))) from (below_one w _).alloc (by simp) _)
  dsimp only [Mg.arr, Mg.zero]
  go_enter Tryd.func12, Tryd.ntmps12
  go_wp2_with (first
    | (go_at_call 26; (first | (with_reducible refine (A0.out _).mono ?_) | (with_reducible refine (A1.out _).mono ?_) | (with_reducible refine (A2.out _).mono ?_) | (with_reducible refine (A3.out _).mono ?_) | (with_reducible refine (A4.out _).mono ?_) | (with_reducible refine (A5.out _).mono ?_) | (with_reducible refine (A6.out _).mono ?_) | (with_reducible refine (A7.out _).mono ?_) | (with_reducible refine (A8.out _).mono ?_) | (with_reducible refine (A9.out _).mono ?_) | (with_reducible refine (A10.out _).mono ?_) | (with_reducible refine (A11.out _).mono ?_) | (with_reducible refine (A12.out _).mono ?_) | (with_reducible refine (A13.out _).mono ?_)); rintro e w3 ⟨rfl, b3⟩; (first | (have V4 := Lib.hid (VC.below V4.out b3); have cc := V4.out.b.msg.cell (j := 8) rfl; have ff := V4.out.b.msg.free 8; have cc3 := V4.out.b.msg.cell (j := 3) rfl; have ff3 := V4.out.b.msg.free 3; have cc9 := V4.out.b.msg.cell (j := 9) rfl; have ff9 := V4.out.b.msg.free 9) | (have V3 := Lib.hid (VB.below (V3.out.set 2 _) b3); have cc := V3.out.msg.cell (j := 8) rfl; have ff := V3.out.msg.free 8; have cc9 := V3.out.msg.cell (j := 9) rfl; have ff9 := V3.out.msg.free 9) | (have V3 := Lib.hid (VB.below V3.out b3); have cc := V3.out.msg.cell (j := 8) rfl; have ff := V3.out.msg.free 8; have cc2 := V3.out.msg.cell (j := 2) rfl; have ff2 := V3.out.msg.free 2) | (have V := Lib.hid (VA.below V.out b3))); clear b3)
    | (go_at_call 19; go_must (refine (HO.out _).mono ?_); rintro e w3 ⟨rfl, b3⟩; (first | (have V4 := Lib.hid (VC.below V4.out b3); have cc := V4.out.b.msg.cell (j := 8) rfl; have ff := V4.out.b.msg.free 8; have cc3 := V4.out.b.msg.cell (j := 3) rfl; have ff3 := V4.out.b.msg.free 3; have cc9 := V4.out.b.msg.cell (j := 9) rfl; have ff9 := V4.out.b.msg.free 9) | (have V3 := Lib.hid (VB.below (V3.out.set 2 _) b3); have cc := V3.out.msg.cell (j := 8) rfl; have ff := V3.out.msg.free 8; have cc9 := V3.out.msg.cell (j := 9) rfl; have ff9 := V3.out.msg.free 9) | (have V3 := Lib.hid (VB.below V3.out b3); have cc := V3.out.msg.cell (j := 8) rfl; have ff := V3.out.msg.free 8; have cc2 := V3.out.msg.cell (j := 2) rfl; have ff2 := V3.out.msg.free 2) | (have V := Lib.hid (VA.below V.out b3))); clear b3)
    | (go_at_call 8; go_must (refine (HC.out _).mono ?_); rintro e w3 ⟨rfl, b3⟩; have V3 := Lib.hid (VB.below ((V3.out.set 8 _).set 9 _) b3); clear b3)
    | ((with_reducible show wpList _ _ _ ({ dst := _, op := .build 25 #[], type := _, pos := _, after := _, guard := _ } :: _) _ _); refine wpList_build_as rfl 25 _ rfl #[.int .i64 0, .bool false, .bool false, .int .i64 0, .int .i64 0, .int .i64 0, .int .i64 0, .int .i64 0, .int .i64 0, .string ⟨#[]⟩] mzero_built ?_)
    | ((with_reducible show wpList _ _ _ ({ dst := _, op := .build 25 _, type := _, pos := _, after := _, guard := _ } :: _) _ _); refine wpList_build_as rfl 25 _ rfl #[.int .i64 a0, .bool true, .bool false, .int .i64 0, .int .i64 0, .int .i64 0, .int .i64 0, .int .i64 0, .int .i64 0, .string ⟨#[]⟩] (mnew_built _ _) ?_)
    | ((with_reducible show wpList _ _ _ ({ dst := _, op := .build 23 _, type := _, pos := _, after := _, guard := _ } :: _) _ _); refine wpList_build_as rfl 23 _ rfl #[.int .i64 a8, .int .i64 a9, .int .i64 a10, .int .i64 a11] (cred_built _ _ _ _) ?_)
    | ((with_reducible show wpList _ _ _ ({ dst := _, op := .store _ (.tmp 4) _, type := _, pos := _, after := _, guard := _ } :: _) _ _); refine wpList_store_st rfl 25 _ _ rfl (w.heap.size + 1) #[.int .i64 0, .bool false, .bool false, .int .i64 0, .int .i64 0, .int .i64 0, .int .i64 0, .int .i64 0, .int .i64 0, .string ⟨#[]⟩] rfl rfl _ K0.out (by kernel_rfl) rfl (by kernel_rfl) ?_; intro wz hz hst; have V := Lib.hid (show VA w wz from ⟨by rw [hz]; exact A00.out.setRow_other (by omega) _, hst, by rw [hz]; exact below_row L0.out (by omega) _⟩); clear hz hst)
    | ((with_reducible show wpList _ _ _ ({ dst := _, op := .store _ (.tmp 6) _, type := _, pos := _, after := _, guard := _ } :: _) _ _); refine wpList_store_st rfl 25 _ _ rfl _ #[.int .i64 a0, .bool true, .bool false, .int .i64 0, .int .i64 0, .int .i64 0, .int .i64 0, .int .i64 0, .int .i64 0, .string ⟨#[]⟩] rfl rfl _ (St.new w3 25 _) (by kernel_rfl) rfl (by kernel_rfl) ?_; rw [alloc_row]; intro wz hz hst; subst hz; have V3 := Lib.hid (V.out.toB #[.int .i64 a0, .bool true, .bool false, .int .i64 0, .int .i64 0, .int .i64 0, .int .i64 0, .int .i64 0, .int .i64 0, .string ⟨#[]⟩]); clear hst)
    | ((with_reducible show wpList _ _ _ ({ dst := _, op := .store _ (.tmp 7) _, type := _, pos := _, after := _, guard := _ } :: _) _ _); refine wpList_store_st rfl 23 _ _ rfl _ #[.int .i64 a8, .int .i64 a9, .int .i64 a10, .int .i64 a11] rfl rfl _ (St.new w3 23 _) (by kernel_rfl) rfl (by kernel_rfl) ?_; rw [alloc_row]; intro wz hz hst; subst hz; have V4 := Lib.hid (V3.out.toC #[.int .i64 a8, .int .i64 a9, .int .i64 a10, .int .i64 a11]); clear hst)
    | ((with_reducible show wpList _ _ _ ({ dst := _, op := .load _ (.tmp 4), type := _, pos := _, after := _, guard := _ } :: _) _ _); refine wpList_load_st rfl 25 _ rfl _ rfl 25 #[.int .i64 0, .bool false, .bool false, .int .i64 0, .int .i64 0, .int .i64 0, .int .i64 0, .int .i64 0, .int .i64 0, .string ⟨#[]⟩] (by first | exact V3.out.a.non | exact V.out.non) _ Tryd.underlying25 rfl (by kernel_rfl) ?_)
    | ((with_reducible show wpList _ _ _ ({ dst := _, op := .load _ (.tmp 6), type := _, pos := _, after := _, guard := _ } :: _) _ _); refine wpList_load_st rfl 25 _ rfl _ rfl 25 #[.int .i64 a0, .bool true, .bool false, .int .i64 0, .int .i64 0, .int .i64 0, .int .i64 0, .int .i64 0, .int .i64 a5, .string bd] (by first | exact V3.out.msg | exact ((V3.out.set 8 _).set 9 _).msg) _ Tryd.underlying25 rfl (by kernel_rfl) ?_)
    | ((with_reducible show wpList _ _ _ ({ dst := _, op := .store _ (.tmp 2) _, type := _, pos := _, after := _, guard := _ } :: _) _ _); refine wpList_store_st rfl 25 _ _ rfl w.heap.size #[.int .i64 0, .bool false, .bool false, .int .i64 0, .int .i64 0, .int .i64 0, .int .i64 0, .int .i64 0, .int .i64 0, .string ⟨#[]⟩] rfl rfl _ (V3.out.a.res) (by kernel_rfl) rfl (by kernel_rfl) ?_; intro wz hz hst; have HQ := Lib.hid hz; have HR := Lib.hid hst; clear hz hst))
  refine ret_cell2 (r := 2) (t := 3) (k := w.heap.size) (T := 25) Tryd.results12 rfl rfl HR.out Tryd.underlying25 rfl (by kernel_rfl) rfl ?_
  have e0 := HQ.out
  subst e0
  exact ⟨rfl, below_row V3.out.a.low (Nat.le_refl _) _⟩

set_option maxRecDepth 100000 in
set_option maxHeartbeats 4000000 in
theorem mfGet_rok0 (s : ByteArray) (w : World) (hs : s.size ≤ 2048)(h1 : atW s 1 = 1) (h2 : atW s 2 = 0) (h3 : atW s 3 = 0) (h4 : atW s 4 = 0) (g5 : 0 ≤ atW s 5) (gk : okMg { Mg.zero with xid := atW s 0, ans := true, again := decide (atW s 3 = 1), accept := atW s 5, body := s.extract 24 s.size } = true) : Calls Tryd.prog 12 #[.string s] w fun e w' => e = .returned (.tuple #[.agg (mgGet s).1.arr, .int .i64 (mgGet s).2]) ∧ Below w.heap.size w w' := by
  have e : mgGet s = ({ Mg.zero with xid := atW s 0, ans := true, again := decide (atW s 3 = 1), accept := atW s 5, body := s.extract 24 s.size }, 0) := by
    unfold mgGet
    rw [if_neg (by omega), if_neg (by omega), if_pos h1, if_neg (by omega), if_pos gk]
  rw [e]
  clear e
  have A0 : ∀ W, Calls Tryd.prog 26 #[.string s, .int .i64 0] W fun e w' => e = .returned (.int .i64 (atW s 0)) ∧ Below W.heap.size W w' := fun W => mfat_any s 0 W (by omega) (by decide)
  have A1 : ∀ W, Calls Tryd.prog 26 #[.string s, .int .i64 1] W fun e w' => e = .returned (.int .i64 (atW s 1)) ∧ Below W.heap.size W w' := fun W => mfat_any s 1 W (by omega) (by decide)
  have A2 : ∀ W, Calls Tryd.prog 26 #[.string s, .int .i64 2] W fun e w' => e = .returned (.int .i64 (atW s 2)) ∧ Below W.heap.size W w' := fun W => mfat_any s 2 W (by omega) (by decide)
  have A3 : ∀ W, Calls Tryd.prog 26 #[.string s, .int .i64 3] W fun e w' => e = .returned (.int .i64 (atW s 3)) ∧ Below W.heap.size W w' := fun W => mfat_any s 3 W (by omega) (by decide)
  have A4 : ∀ W, Calls Tryd.prog 26 #[.string s, .int .i64 4] W fun e w' => e = .returned (.int .i64 (atW s 4)) ∧ Below W.heap.size W w' := fun W => mfat_any s 4 W (by omega) (by decide)
  have A5 : ∀ W, Calls Tryd.prog 26 #[.string s, .int .i64 5] W fun e w' => e = .returned (.int .i64 (atW s 5)) ∧ Below W.heap.size W w' := fun W => mfat_any s 5 W (by omega) (by decide)
  have A6 : ∀ W, Calls Tryd.prog 26 #[.string s, .int .i64 6] W fun e w' => e = .returned (.int .i64 (atW s 6)) ∧ Below W.heap.size W w' := fun W => mfat_any s 6 W (by omega) (by decide)
  have A7 : ∀ W, Calls Tryd.prog 26 #[.string s, .int .i64 7] W fun e w' => e = .returned (.int .i64 (atW s 7)) ∧ Below W.heap.size W w' := fun W => mfat_any s 7 W (by omega) (by decide)
  have A8 : ∀ W, Calls Tryd.prog 26 #[.string s, .int .i64 8] W fun e w' => e = .returned (.int .i64 (atW s 8)) ∧ Below W.heap.size W w' := fun W => mfat_any s 8 W (by omega) (by decide)
  have A9 : ∀ W, Calls Tryd.prog 26 #[.string s, .int .i64 9] W fun e w' => e = .returned (.int .i64 (atW s 9)) ∧ Below W.heap.size W w' := fun W => mfat_any s 9 W (by omega) (by decide)
  have A10 : ∀ W, Calls Tryd.prog 26 #[.string s, .int .i64 10] W fun e w' => e = .returned (.int .i64 (atW s 10)) ∧ Below W.heap.size W w' := fun W => mfat_any s 10 W (by omega) (by decide)
  have A11 : ∀ W, Calls Tryd.prog 26 #[.string s, .int .i64 11] W fun e w' => e = .returned (.int .i64 (atW s 11)) ∧ Below W.heap.size W w' := fun W => mfat_any s 11 W (by omega) (by decide)
  have A12 : ∀ W, Calls Tryd.prog 26 #[.string s, .int .i64 12] W fun e w' => e = .returned (.int .i64 (atW s 12)) ∧ Below W.heap.size W w' := fun W => mfat_any s 12 W (by omega) (by decide)
  have A13 : ∀ W, Calls Tryd.prog 26 #[.string s, .int .i64 13] W fun e w' => e = .returned (.int .i64 (atW s 13)) ∧ Below W.heap.size W w' := fun W => mfat_any s 13 W (by omega) (by decide)
  obtain ⟨a0, ha0⟩ : ∃ a, a = atW s 0 := ⟨_, rfl⟩
  rw [← ha0] at A0
  rw [h1] at A1
  rw [h2] at A2
  rw [h3] at A3
  rw [h4] at A4
  obtain ⟨a5, ha5⟩ : ∃ a, a = atW s 5 := ⟨_, rfl⟩
  rw [← ha5] at A5
  obtain ⟨a6, ha6⟩ : ∃ a, a = atW s 6 := ⟨_, rfl⟩
  rw [← ha6] at A6
  obtain ⟨a7, ha7⟩ : ∃ a, a = atW s 7 := ⟨_, rfl⟩
  rw [← ha7] at A7
  obtain ⟨a8, ha8⟩ : ∃ a, a = atW s 8 := ⟨_, rfl⟩
  rw [← ha8] at A8
  obtain ⟨a9, ha9⟩ : ∃ a, a = atW s 9 := ⟨_, rfl⟩
  rw [← ha9] at A9
  obtain ⟨a10, ha10⟩ : ∃ a, a = atW s 10 := ⟨_, rfl⟩
  rw [← ha10] at A10
  obtain ⟨a11, ha11⟩ : ∃ a, a = atW s 11 := ⟨_, rfl⟩
  rw [← ha11] at A11
  obtain ⟨a12, ha12⟩ : ∃ a, a = atW s 12 := ⟨_, rfl⟩
  rw [← ha12] at A12
  obtain ⟨a13, ha13⟩ : ∃ a, a = atW s 13 := ⟨_, rfl⟩
  rw [← ha13] at A13
  have d0 : decide ((s.size : Int) > 2048) = false := decide_eq_false (by omega)
  have d5 : decide (a5 < 0) = false := decide_eq_false (by omega)
  have hl := atW_there g5
  have hag : decide (atW s 3 = 1) = false := by rw [h3]; rfl
  rw [ha0.symm, ha5.symm, hag] at gk
  have hmq : ({ Mg.zero with xid := atW s 0, ans := true, again := decide (atW s 3 = 1), accept := atW s 5, body := s.extract 24 s.size } : Mg) = (⟨a0, true, false, 0, 0, 0, 0, 0, a5, s.extract 24 s.size⟩ : Mg) := by rw [← ha0, ← ha5, hag]; rfl
  rw [hmq]
  obtain ⟨bd, hbd⟩ : ∃ b, b = s.extract 24 s.size := ⟨_, rfl⟩
  rw [← hbd] at gk hmq ⊢
  have HC := Lib.hid (fun W => mfCheck_any (⟨a0, true, false, 0, 0, 0, 0, 0, a5, bd⟩ : Mg) W)
  rw [show okMg (⟨a0, true, false, 0, 0, 0, 0, 0, a5, bd⟩ : Mg) = true from gk] at HC
  have z24 : (24 : Int) ≤ (s.size : Int) := by omega
  have z24n : 24 ≤ s.size := by omega
  have z24d : decide ((24 : Int) ≤ (s.size : Int)) = true := decide_eq_true z24
  have hbx := hbd.symm
  clear hbd hl hag hmq gk hs h1 h2 h3 h4 g5
  replace A0 := Lib.hid A0
  replace A1 := Lib.hid A1
  replace A2 := Lib.hid A2
  replace A3 := Lib.hid A3
  replace A4 := Lib.hid A4
  replace A5 := Lib.hid A5
  replace A6 := Lib.hid A6
  replace A7 := Lib.hid A7
  replace A8 := Lib.hid A8
  replace A9 := Lib.hid A9
  replace A10 := Lib.hid A10
  replace A11 := Lib.hid A11
  replace A12 := Lib.hid A12
  replace A13 := Lib.hid A13
  clear ha0 ha5 ha6 ha7 ha8 ha9 ha10 ha11 ha12 ha13
  have A00 := Lib.hid (show St 25 w.heap.size #[.int .i64 0, .bool false, .bool false, .int .i64 0, .int .i64 0, .int .i64 0, .int .i64 0, .int .i64 0, .int .i64 0, .string ⟨#[]⟩] ((w.alloc (.cells #[.int .i64 0, .bool false, .bool false, .int .i64 0, .int .i64 0, .int .i64 0, .int .i64 0, .int .i64 0, .int .i64 0, .string ⟨#[]⟩] 25 (0, 0))).alloc (.cells #[.int .i64 0, .bool false, .bool false, .int .i64 0, .int .i64 0, .int .i64 0, .int .i64 0, .int .i64 0, .int .i64 0, .string ⟨#[]⟩] 25 (0, 0))) from (St.new w 25 _).alloc _)
  have K0 := Lib.hid (show St 25 (w.heap.size + 1) #[.int .i64 0, .bool false, .bool false, .int .i64 0, .int .i64 0, .int .i64 0, .int .i64 0, .int .i64 0, .int .i64 0, .string ⟨#[]⟩] ((w.alloc (.cells #[.int .i64 0, .bool false, .bool false, .int .i64 0, .int .i64 0, .int .i64 0, .int .i64 0, .int .i64 0, .int .i64 0, .string ⟨#[]⟩] 25 (0, 0))).alloc (.cells #[.int .i64 0, .bool false, .bool false, .int .i64 0, .int .i64 0, .int .i64 0, .int .i64 0, .int .i64 0, .int .i64 0, .string ⟨#[]⟩] 25 (0, 0))) from by have := St.new (w.alloc (.cells #[.int .i64 0, .bool false, .bool false, .int .i64 0, .int .i64 0, .int .i64 0, .int .i64 0, .int .i64 0, .int .i64 0, .string ⟨#[]⟩] 25 (0, 0))) 25 #[.int .i64 0, .bool false, .bool false, .int .i64 0, .int .i64 0, .int .i64 0, .int .i64 0, .int .i64 0, .int .i64 0, .string ⟨#[]⟩]; simpa using this)
  have L0 := Lib.hid (show Below w.heap.size w ((w.alloc (.cells #[.int .i64 0, .bool false, .bool false, .int .i64 0, .int .i64 0, .int .i64 0, .int .i64 0, .int .i64 0, .int .i64 0, .string ⟨#[]⟩] 25 (0, 0))).alloc (.cells #[.int .i64 0, .bool false, .bool false, .int .i64 0, .int .i64 0, .int .i64 0, .int .i64 0, .int .i64 0, .int .i64 0, .string ⟨#[]⟩] 25 (0, 0))) from (below_one w _).alloc (by simp) _)
  dsimp only [Mg.arr, Mg.zero]
  go_enter Tryd.func12, Tryd.ntmps12
  go_wp2_with (first
    | (go_at_call 26; (first | (with_reducible refine (A0.out _).mono ?_) | (with_reducible refine (A1.out _).mono ?_) | (with_reducible refine (A2.out _).mono ?_) | (with_reducible refine (A3.out _).mono ?_) | (with_reducible refine (A4.out _).mono ?_) | (with_reducible refine (A5.out _).mono ?_) | (with_reducible refine (A6.out _).mono ?_) | (with_reducible refine (A7.out _).mono ?_) | (with_reducible refine (A8.out _).mono ?_) | (with_reducible refine (A9.out _).mono ?_) | (with_reducible refine (A10.out _).mono ?_) | (with_reducible refine (A11.out _).mono ?_) | (with_reducible refine (A12.out _).mono ?_) | (with_reducible refine (A13.out _).mono ?_)); rintro e w3 ⟨rfl, b3⟩; (first | (have V4 := Lib.hid (VC.below V4.out b3); have cc := V4.out.b.msg.cell (j := 8) rfl; have ff := V4.out.b.msg.free 8; have cc3 := V4.out.b.msg.cell (j := 3) rfl; have ff3 := V4.out.b.msg.free 3; have cc9 := V4.out.b.msg.cell (j := 9) rfl; have ff9 := V4.out.b.msg.free 9) | (have V3 := Lib.hid (VB.below (V3.out.set 2 _) b3); have cc := V3.out.msg.cell (j := 8) rfl; have ff := V3.out.msg.free 8; have cc9 := V3.out.msg.cell (j := 9) rfl; have ff9 := V3.out.msg.free 9) | (have V3 := Lib.hid (VB.below V3.out b3); have cc := V3.out.msg.cell (j := 8) rfl; have ff := V3.out.msg.free 8; have cc2 := V3.out.msg.cell (j := 2) rfl; have ff2 := V3.out.msg.free 2) | (have V := Lib.hid (VA.below V.out b3))); clear b3)
    | (go_at_call 19; go_must (refine (HO.out _).mono ?_); rintro e w3 ⟨rfl, b3⟩; (first | (have V4 := Lib.hid (VC.below V4.out b3); have cc := V4.out.b.msg.cell (j := 8) rfl; have ff := V4.out.b.msg.free 8; have cc3 := V4.out.b.msg.cell (j := 3) rfl; have ff3 := V4.out.b.msg.free 3; have cc9 := V4.out.b.msg.cell (j := 9) rfl; have ff9 := V4.out.b.msg.free 9) | (have V3 := Lib.hid (VB.below (V3.out.set 2 _) b3); have cc := V3.out.msg.cell (j := 8) rfl; have ff := V3.out.msg.free 8; have cc9 := V3.out.msg.cell (j := 9) rfl; have ff9 := V3.out.msg.free 9) | (have V3 := Lib.hid (VB.below V3.out b3); have cc := V3.out.msg.cell (j := 8) rfl; have ff := V3.out.msg.free 8; have cc2 := V3.out.msg.cell (j := 2) rfl; have ff2 := V3.out.msg.free 2) | (have V := Lib.hid (VA.below V.out b3))); clear b3)
    | (go_at_call 8; go_must (refine (HC.out _).mono ?_); rintro e w3 ⟨rfl, b3⟩; have V3 := Lib.hid (VB.below ((V3.out.set 8 _).set 9 _) b3); clear b3)
    | ((with_reducible show wpList _ _ _ ({ dst := _, op := .build 25 #[], type := _, pos := _, after := _, guard := _ } :: _) _ _); refine wpList_build_as rfl 25 _ rfl #[.int .i64 0, .bool false, .bool false, .int .i64 0, .int .i64 0, .int .i64 0, .int .i64 0, .int .i64 0, .int .i64 0, .string ⟨#[]⟩] mzero_built ?_)
    | ((with_reducible show wpList _ _ _ ({ dst := _, op := .build 25 _, type := _, pos := _, after := _, guard := _ } :: _) _ _); refine wpList_build_as rfl 25 _ rfl #[.int .i64 a0, .bool true, .bool false, .int .i64 0, .int .i64 0, .int .i64 0, .int .i64 0, .int .i64 0, .int .i64 0, .string ⟨#[]⟩] (mnew_built _ _) ?_)
    | ((with_reducible show wpList _ _ _ ({ dst := _, op := .build 23 _, type := _, pos := _, after := _, guard := _ } :: _) _ _); refine wpList_build_as rfl 23 _ rfl #[.int .i64 a8, .int .i64 a9, .int .i64 a10, .int .i64 a11] (cred_built _ _ _ _) ?_)
    | ((with_reducible show wpList _ _ _ ({ dst := _, op := .store _ (.tmp 4) _, type := _, pos := _, after := _, guard := _ } :: _) _ _); refine wpList_store_st rfl 25 _ _ rfl (w.heap.size + 1) #[.int .i64 0, .bool false, .bool false, .int .i64 0, .int .i64 0, .int .i64 0, .int .i64 0, .int .i64 0, .int .i64 0, .string ⟨#[]⟩] rfl rfl _ K0.out (by kernel_rfl) rfl (by kernel_rfl) ?_; intro wz hz hst; have V := Lib.hid (show VA w wz from ⟨by rw [hz]; exact A00.out.setRow_other (by omega) _, hst, by rw [hz]; exact below_row L0.out (by omega) _⟩); clear hz hst)
    | ((with_reducible show wpList _ _ _ ({ dst := _, op := .store _ (.tmp 6) _, type := _, pos := _, after := _, guard := _ } :: _) _ _); refine wpList_store_st rfl 25 _ _ rfl _ #[.int .i64 a0, .bool true, .bool false, .int .i64 0, .int .i64 0, .int .i64 0, .int .i64 0, .int .i64 0, .int .i64 0, .string ⟨#[]⟩] rfl rfl _ (St.new w3 25 _) (by kernel_rfl) rfl (by kernel_rfl) ?_; rw [alloc_row]; intro wz hz hst; subst hz; have V3 := Lib.hid (V.out.toB #[.int .i64 a0, .bool true, .bool false, .int .i64 0, .int .i64 0, .int .i64 0, .int .i64 0, .int .i64 0, .int .i64 0, .string ⟨#[]⟩]); clear hst)
    | ((with_reducible show wpList _ _ _ ({ dst := _, op := .store _ (.tmp 7) _, type := _, pos := _, after := _, guard := _ } :: _) _ _); refine wpList_store_st rfl 23 _ _ rfl _ #[.int .i64 a8, .int .i64 a9, .int .i64 a10, .int .i64 a11] rfl rfl _ (St.new w3 23 _) (by kernel_rfl) rfl (by kernel_rfl) ?_; rw [alloc_row]; intro wz hz hst; subst hz; have V4 := Lib.hid (V3.out.toC #[.int .i64 a8, .int .i64 a9, .int .i64 a10, .int .i64 a11]); clear hst)
    | ((with_reducible show wpList _ _ _ ({ dst := _, op := .load _ (.tmp 4), type := _, pos := _, after := _, guard := _ } :: _) _ _); refine wpList_load_st rfl 25 _ rfl _ rfl 25 #[.int .i64 0, .bool false, .bool false, .int .i64 0, .int .i64 0, .int .i64 0, .int .i64 0, .int .i64 0, .int .i64 0, .string ⟨#[]⟩] (by first | exact V3.out.a.non | exact V.out.non) _ Tryd.underlying25 rfl (by kernel_rfl) ?_)
    | ((with_reducible show wpList _ _ _ ({ dst := _, op := .load _ (.tmp 6), type := _, pos := _, after := _, guard := _ } :: _) _ _); refine wpList_load_st rfl 25 _ rfl _ rfl 25 #[.int .i64 a0, .bool true, .bool false, .int .i64 0, .int .i64 0, .int .i64 0, .int .i64 0, .int .i64 0, .int .i64 a5, .string bd] (by first | exact V3.out.msg | exact ((V3.out.set 8 _).set 9 _).msg) _ Tryd.underlying25 rfl (by kernel_rfl) ?_)
    | ((with_reducible show wpList _ _ _ ({ dst := _, op := .store _ (.tmp 2) _, type := _, pos := _, after := _, guard := _ } :: _) _ _); refine wpList_store_st rfl 25 _ _ rfl w.heap.size #[.int .i64 a0, .bool true, .bool false, .int .i64 0, .int .i64 0, .int .i64 0, .int .i64 0, .int .i64 0, .int .i64 a5, .string bd] rfl rfl _ (V3.out.a.res) (by kernel_rfl) rfl (by kernel_rfl) ?_; intro wz hz hst; have HQ := Lib.hid hz; have HR := Lib.hid hst; clear hz hst))
  refine ret_cell2 (r := 2) (t := 3) (k := w.heap.size) (T := 25) Tryd.results12 rfl rfl HR.out Tryd.underlying25 rfl (by kernel_rfl) rfl ?_
  have e0 := HQ.out
  subst e0
  exact ⟨rfl, below_row V3.out.a.low (Nat.le_refl _) _⟩

set_option maxRecDepth 100000 in
set_option maxHeartbeats 4000000 in
theorem mfGet_rno1 (s : ByteArray) (w : World) (hs : s.size ≤ 2048)(h1 : atW s 1 = 1) (h2 : atW s 2 = 0) (h3 : atW s 3 = 1) (h4 : atW s 4 = 0) (g5 : 0 ≤ atW s 5) (gk : okMg { Mg.zero with xid := atW s 0, ans := true, again := decide (atW s 3 = 1), accept := atW s 5, body := s.extract 24 s.size } = false) : Calls Tryd.prog 12 #[.string s] w fun e w' => e = .returned (.tuple #[.agg (mgGet s).1.arr, .int .i64 (mgGet s).2]) ∧ Below w.heap.size w w' := by
  have e : mgGet s = (Mg.zero, 14) := by
    unfold mgGet
    rw [if_neg (by omega), if_neg (by omega), if_pos h1, if_neg (by omega), if_neg (by rw [gk]; decide)]
  rw [e]
  clear e
  have A0 : ∀ W, Calls Tryd.prog 26 #[.string s, .int .i64 0] W fun e w' => e = .returned (.int .i64 (atW s 0)) ∧ Below W.heap.size W w' := fun W => mfat_any s 0 W (by omega) (by decide)
  have A1 : ∀ W, Calls Tryd.prog 26 #[.string s, .int .i64 1] W fun e w' => e = .returned (.int .i64 (atW s 1)) ∧ Below W.heap.size W w' := fun W => mfat_any s 1 W (by omega) (by decide)
  have A2 : ∀ W, Calls Tryd.prog 26 #[.string s, .int .i64 2] W fun e w' => e = .returned (.int .i64 (atW s 2)) ∧ Below W.heap.size W w' := fun W => mfat_any s 2 W (by omega) (by decide)
  have A3 : ∀ W, Calls Tryd.prog 26 #[.string s, .int .i64 3] W fun e w' => e = .returned (.int .i64 (atW s 3)) ∧ Below W.heap.size W w' := fun W => mfat_any s 3 W (by omega) (by decide)
  have A4 : ∀ W, Calls Tryd.prog 26 #[.string s, .int .i64 4] W fun e w' => e = .returned (.int .i64 (atW s 4)) ∧ Below W.heap.size W w' := fun W => mfat_any s 4 W (by omega) (by decide)
  have A5 : ∀ W, Calls Tryd.prog 26 #[.string s, .int .i64 5] W fun e w' => e = .returned (.int .i64 (atW s 5)) ∧ Below W.heap.size W w' := fun W => mfat_any s 5 W (by omega) (by decide)
  have A6 : ∀ W, Calls Tryd.prog 26 #[.string s, .int .i64 6] W fun e w' => e = .returned (.int .i64 (atW s 6)) ∧ Below W.heap.size W w' := fun W => mfat_any s 6 W (by omega) (by decide)
  have A7 : ∀ W, Calls Tryd.prog 26 #[.string s, .int .i64 7] W fun e w' => e = .returned (.int .i64 (atW s 7)) ∧ Below W.heap.size W w' := fun W => mfat_any s 7 W (by omega) (by decide)
  have A8 : ∀ W, Calls Tryd.prog 26 #[.string s, .int .i64 8] W fun e w' => e = .returned (.int .i64 (atW s 8)) ∧ Below W.heap.size W w' := fun W => mfat_any s 8 W (by omega) (by decide)
  have A9 : ∀ W, Calls Tryd.prog 26 #[.string s, .int .i64 9] W fun e w' => e = .returned (.int .i64 (atW s 9)) ∧ Below W.heap.size W w' := fun W => mfat_any s 9 W (by omega) (by decide)
  have A10 : ∀ W, Calls Tryd.prog 26 #[.string s, .int .i64 10] W fun e w' => e = .returned (.int .i64 (atW s 10)) ∧ Below W.heap.size W w' := fun W => mfat_any s 10 W (by omega) (by decide)
  have A11 : ∀ W, Calls Tryd.prog 26 #[.string s, .int .i64 11] W fun e w' => e = .returned (.int .i64 (atW s 11)) ∧ Below W.heap.size W w' := fun W => mfat_any s 11 W (by omega) (by decide)
  have A12 : ∀ W, Calls Tryd.prog 26 #[.string s, .int .i64 12] W fun e w' => e = .returned (.int .i64 (atW s 12)) ∧ Below W.heap.size W w' := fun W => mfat_any s 12 W (by omega) (by decide)
  have A13 : ∀ W, Calls Tryd.prog 26 #[.string s, .int .i64 13] W fun e w' => e = .returned (.int .i64 (atW s 13)) ∧ Below W.heap.size W w' := fun W => mfat_any s 13 W (by omega) (by decide)
  obtain ⟨a0, ha0⟩ : ∃ a, a = atW s 0 := ⟨_, rfl⟩
  rw [← ha0] at A0
  rw [h1] at A1
  rw [h2] at A2
  rw [h3] at A3
  rw [h4] at A4
  obtain ⟨a5, ha5⟩ : ∃ a, a = atW s 5 := ⟨_, rfl⟩
  rw [← ha5] at A5
  obtain ⟨a6, ha6⟩ : ∃ a, a = atW s 6 := ⟨_, rfl⟩
  rw [← ha6] at A6
  obtain ⟨a7, ha7⟩ : ∃ a, a = atW s 7 := ⟨_, rfl⟩
  rw [← ha7] at A7
  obtain ⟨a8, ha8⟩ : ∃ a, a = atW s 8 := ⟨_, rfl⟩
  rw [← ha8] at A8
  obtain ⟨a9, ha9⟩ : ∃ a, a = atW s 9 := ⟨_, rfl⟩
  rw [← ha9] at A9
  obtain ⟨a10, ha10⟩ : ∃ a, a = atW s 10 := ⟨_, rfl⟩
  rw [← ha10] at A10
  obtain ⟨a11, ha11⟩ : ∃ a, a = atW s 11 := ⟨_, rfl⟩
  rw [← ha11] at A11
  obtain ⟨a12, ha12⟩ : ∃ a, a = atW s 12 := ⟨_, rfl⟩
  rw [← ha12] at A12
  obtain ⟨a13, ha13⟩ : ∃ a, a = atW s 13 := ⟨_, rfl⟩
  rw [← ha13] at A13
  have d0 : decide ((s.size : Int) > 2048) = false := decide_eq_false (by omega)
  have d5 : decide (a5 < 0) = false := decide_eq_false (by omega)
  have hl := atW_there g5
  have hag : decide (atW s 3 = 1) = true := by rw [h3]; rfl
  rw [ha0.symm, ha5.symm, hag] at gk
  have hmq : ({ Mg.zero with xid := atW s 0, ans := true, again := decide (atW s 3 = 1), accept := atW s 5, body := s.extract 24 s.size } : Mg) = (⟨a0, true, true, 0, 0, 0, 0, 0, a5, s.extract 24 s.size⟩ : Mg) := by rw [← ha0, ← ha5, hag]; rfl
  obtain ⟨bd, hbd⟩ : ∃ b, b = s.extract 24 s.size := ⟨_, rfl⟩
  rw [← hbd] at gk hmq
  have HC := Lib.hid (fun W => mfCheck_any (⟨a0, true, true, 0, 0, 0, 0, 0, a5, bd⟩ : Mg) W)
  rw [show okMg (⟨a0, true, true, 0, 0, 0, 0, 0, a5, bd⟩ : Mg) = false from gk] at HC
  have z24 : (24 : Int) ≤ (s.size : Int) := by omega
  have z24n : 24 ≤ s.size := by omega
  have z24d : decide ((24 : Int) ≤ (s.size : Int)) = true := decide_eq_true z24
  have hbx := hbd.symm
  clear hbd hl hag hmq gk hs h1 h2 h3 h4 g5
  replace A0 := Lib.hid A0
  replace A1 := Lib.hid A1
  replace A2 := Lib.hid A2
  replace A3 := Lib.hid A3
  replace A4 := Lib.hid A4
  replace A5 := Lib.hid A5
  replace A6 := Lib.hid A6
  replace A7 := Lib.hid A7
  replace A8 := Lib.hid A8
  replace A9 := Lib.hid A9
  replace A10 := Lib.hid A10
  replace A11 := Lib.hid A11
  replace A12 := Lib.hid A12
  replace A13 := Lib.hid A13
  clear ha0 ha5 ha6 ha7 ha8 ha9 ha10 ha11 ha12 ha13
  have A00 := Lib.hid (show St 25 w.heap.size #[.int .i64 0, .bool false, .bool false, .int .i64 0, .int .i64 0, .int .i64 0, .int .i64 0, .int .i64 0, .int .i64 0, .string ⟨#[]⟩] ((w.alloc (.cells #[.int .i64 0, .bool false, .bool false, .int .i64 0, .int .i64 0, .int .i64 0, .int .i64 0, .int .i64 0, .int .i64 0, .string ⟨#[]⟩] 25 (0, 0))).alloc (.cells #[.int .i64 0, .bool false, .bool false, .int .i64 0, .int .i64 0, .int .i64 0, .int .i64 0, .int .i64 0, .int .i64 0, .string ⟨#[]⟩] 25 (0, 0))) from (St.new w 25 _).alloc _)
  have K0 := Lib.hid (show St 25 (w.heap.size + 1) #[.int .i64 0, .bool false, .bool false, .int .i64 0, .int .i64 0, .int .i64 0, .int .i64 0, .int .i64 0, .int .i64 0, .string ⟨#[]⟩] ((w.alloc (.cells #[.int .i64 0, .bool false, .bool false, .int .i64 0, .int .i64 0, .int .i64 0, .int .i64 0, .int .i64 0, .int .i64 0, .string ⟨#[]⟩] 25 (0, 0))).alloc (.cells #[.int .i64 0, .bool false, .bool false, .int .i64 0, .int .i64 0, .int .i64 0, .int .i64 0, .int .i64 0, .int .i64 0, .string ⟨#[]⟩] 25 (0, 0))) from by have := St.new (w.alloc (.cells #[.int .i64 0, .bool false, .bool false, .int .i64 0, .int .i64 0, .int .i64 0, .int .i64 0, .int .i64 0, .int .i64 0, .string ⟨#[]⟩] 25 (0, 0))) 25 #[.int .i64 0, .bool false, .bool false, .int .i64 0, .int .i64 0, .int .i64 0, .int .i64 0, .int .i64 0, .int .i64 0, .string ⟨#[]⟩]; simpa using this)
  have L0 := Lib.hid (show Below w.heap.size w ((w.alloc (.cells #[.int .i64 0, .bool false, .bool false, .int .i64 0, .int .i64 0, .int .i64 0, .int .i64 0, .int .i64 0, .int .i64 0, .string ⟨#[]⟩] 25 (0, 0))).alloc (.cells #[.int .i64 0, .bool false, .bool false, .int .i64 0, .int .i64 0, .int .i64 0, .int .i64 0, .int .i64 0, .int .i64 0, .string ⟨#[]⟩] 25 (0, 0))) from (below_one w _).alloc (by simp) _)
  dsimp only [Mg.arr, Mg.zero]
  go_enter Tryd.func12, Tryd.ntmps12
  go_wp2_with (first
    | (go_at_call 26; (first | (with_reducible refine (A0.out _).mono ?_) | (with_reducible refine (A1.out _).mono ?_) | (with_reducible refine (A2.out _).mono ?_) | (with_reducible refine (A3.out _).mono ?_) | (with_reducible refine (A4.out _).mono ?_) | (with_reducible refine (A5.out _).mono ?_) | (with_reducible refine (A6.out _).mono ?_) | (with_reducible refine (A7.out _).mono ?_) | (with_reducible refine (A8.out _).mono ?_) | (with_reducible refine (A9.out _).mono ?_) | (with_reducible refine (A10.out _).mono ?_) | (with_reducible refine (A11.out _).mono ?_) | (with_reducible refine (A12.out _).mono ?_) | (with_reducible refine (A13.out _).mono ?_)); rintro e w3 ⟨rfl, b3⟩; (first | (have V4 := Lib.hid (VC.below V4.out b3); have cc := V4.out.b.msg.cell (j := 8) rfl; have ff := V4.out.b.msg.free 8; have cc3 := V4.out.b.msg.cell (j := 3) rfl; have ff3 := V4.out.b.msg.free 3; have cc9 := V4.out.b.msg.cell (j := 9) rfl; have ff9 := V4.out.b.msg.free 9) | (have V3 := Lib.hid (VB.below (V3.out.set 2 _) b3); have cc := V3.out.msg.cell (j := 8) rfl; have ff := V3.out.msg.free 8; have cc9 := V3.out.msg.cell (j := 9) rfl; have ff9 := V3.out.msg.free 9) | (have V3 := Lib.hid (VB.below V3.out b3); have cc := V3.out.msg.cell (j := 8) rfl; have ff := V3.out.msg.free 8; have cc2 := V3.out.msg.cell (j := 2) rfl; have ff2 := V3.out.msg.free 2) | (have V := Lib.hid (VA.below V.out b3))); clear b3)
    | (go_at_call 19; go_must (refine (HO.out _).mono ?_); rintro e w3 ⟨rfl, b3⟩; (first | (have V4 := Lib.hid (VC.below V4.out b3); have cc := V4.out.b.msg.cell (j := 8) rfl; have ff := V4.out.b.msg.free 8; have cc3 := V4.out.b.msg.cell (j := 3) rfl; have ff3 := V4.out.b.msg.free 3; have cc9 := V4.out.b.msg.cell (j := 9) rfl; have ff9 := V4.out.b.msg.free 9) | (have V3 := Lib.hid (VB.below (V3.out.set 2 _) b3); have cc := V3.out.msg.cell (j := 8) rfl; have ff := V3.out.msg.free 8; have cc9 := V3.out.msg.cell (j := 9) rfl; have ff9 := V3.out.msg.free 9) | (have V3 := Lib.hid (VB.below V3.out b3); have cc := V3.out.msg.cell (j := 8) rfl; have ff := V3.out.msg.free 8; have cc2 := V3.out.msg.cell (j := 2) rfl; have ff2 := V3.out.msg.free 2) | (have V := Lib.hid (VA.below V.out b3))); clear b3)
    | (go_at_call 8; go_must (refine (HC.out _).mono ?_); rintro e w3 ⟨rfl, b3⟩; have V3 := Lib.hid (VB.below ((V3.out.set 8 _).set 9 _) b3); clear b3)
    | ((with_reducible show wpList _ _ _ ({ dst := _, op := .build 25 #[], type := _, pos := _, after := _, guard := _ } :: _) _ _); refine wpList_build_as rfl 25 _ rfl #[.int .i64 0, .bool false, .bool false, .int .i64 0, .int .i64 0, .int .i64 0, .int .i64 0, .int .i64 0, .int .i64 0, .string ⟨#[]⟩] mzero_built ?_)
    | ((with_reducible show wpList _ _ _ ({ dst := _, op := .build 25 _, type := _, pos := _, after := _, guard := _ } :: _) _ _); refine wpList_build_as rfl 25 _ rfl #[.int .i64 a0, .bool true, .bool false, .int .i64 0, .int .i64 0, .int .i64 0, .int .i64 0, .int .i64 0, .int .i64 0, .string ⟨#[]⟩] (mnew_built _ _) ?_)
    | ((with_reducible show wpList _ _ _ ({ dst := _, op := .build 23 _, type := _, pos := _, after := _, guard := _ } :: _) _ _); refine wpList_build_as rfl 23 _ rfl #[.int .i64 a8, .int .i64 a9, .int .i64 a10, .int .i64 a11] (cred_built _ _ _ _) ?_)
    | ((with_reducible show wpList _ _ _ ({ dst := _, op := .store _ (.tmp 4) _, type := _, pos := _, after := _, guard := _ } :: _) _ _); refine wpList_store_st rfl 25 _ _ rfl (w.heap.size + 1) #[.int .i64 0, .bool false, .bool false, .int .i64 0, .int .i64 0, .int .i64 0, .int .i64 0, .int .i64 0, .int .i64 0, .string ⟨#[]⟩] rfl rfl _ K0.out (by kernel_rfl) rfl (by kernel_rfl) ?_; intro wz hz hst; have V := Lib.hid (show VA w wz from ⟨by rw [hz]; exact A00.out.setRow_other (by omega) _, hst, by rw [hz]; exact below_row L0.out (by omega) _⟩); clear hz hst)
    | ((with_reducible show wpList _ _ _ ({ dst := _, op := .store _ (.tmp 6) _, type := _, pos := _, after := _, guard := _ } :: _) _ _); refine wpList_store_st rfl 25 _ _ rfl _ #[.int .i64 a0, .bool true, .bool false, .int .i64 0, .int .i64 0, .int .i64 0, .int .i64 0, .int .i64 0, .int .i64 0, .string ⟨#[]⟩] rfl rfl _ (St.new w3 25 _) (by kernel_rfl) rfl (by kernel_rfl) ?_; rw [alloc_row]; intro wz hz hst; subst hz; have V3 := Lib.hid (V.out.toB #[.int .i64 a0, .bool true, .bool false, .int .i64 0, .int .i64 0, .int .i64 0, .int .i64 0, .int .i64 0, .int .i64 0, .string ⟨#[]⟩]); clear hst)
    | ((with_reducible show wpList _ _ _ ({ dst := _, op := .store _ (.tmp 7) _, type := _, pos := _, after := _, guard := _ } :: _) _ _); refine wpList_store_st rfl 23 _ _ rfl _ #[.int .i64 a8, .int .i64 a9, .int .i64 a10, .int .i64 a11] rfl rfl _ (St.new w3 23 _) (by kernel_rfl) rfl (by kernel_rfl) ?_; rw [alloc_row]; intro wz hz hst; subst hz; have V4 := Lib.hid (V3.out.toC #[.int .i64 a8, .int .i64 a9, .int .i64 a10, .int .i64 a11]); clear hst)
    | ((with_reducible show wpList _ _ _ ({ dst := _, op := .load _ (.tmp 4), type := _, pos := _, after := _, guard := _ } :: _) _ _); refine wpList_load_st rfl 25 _ rfl _ rfl 25 #[.int .i64 0, .bool false, .bool false, .int .i64 0, .int .i64 0, .int .i64 0, .int .i64 0, .int .i64 0, .int .i64 0, .string ⟨#[]⟩] (by first | exact V3.out.a.non | exact V.out.non) _ Tryd.underlying25 rfl (by kernel_rfl) ?_)
    | ((with_reducible show wpList _ _ _ ({ dst := _, op := .load _ (.tmp 6), type := _, pos := _, after := _, guard := _ } :: _) _ _); refine wpList_load_st rfl 25 _ rfl _ rfl 25 #[.int .i64 a0, .bool true, .bool true, .int .i64 0, .int .i64 0, .int .i64 0, .int .i64 0, .int .i64 0, .int .i64 a5, .string bd] (by first | exact V3.out.msg | exact ((V3.out.set 8 _).set 9 _).msg) _ Tryd.underlying25 rfl (by kernel_rfl) ?_)
    | ((with_reducible show wpList _ _ _ ({ dst := _, op := .store _ (.tmp 2) _, type := _, pos := _, after := _, guard := _ } :: _) _ _); refine wpList_store_st rfl 25 _ _ rfl w.heap.size #[.int .i64 0, .bool false, .bool false, .int .i64 0, .int .i64 0, .int .i64 0, .int .i64 0, .int .i64 0, .int .i64 0, .string ⟨#[]⟩] rfl rfl _ (V3.out.a.res) (by kernel_rfl) rfl (by kernel_rfl) ?_; intro wz hz hst; have HQ := Lib.hid hz; have HR := Lib.hid hst; clear hz hst))
  refine ret_cell2 (r := 2) (t := 3) (k := w.heap.size) (T := 25) Tryd.results12 rfl rfl HR.out Tryd.underlying25 rfl (by kernel_rfl) rfl ?_
  have e0 := HQ.out
  subst e0
  exact ⟨rfl, below_row V3.out.a.low (Nat.le_refl _) _⟩

set_option maxRecDepth 100000 in
set_option maxHeartbeats 4000000 in
theorem mfGet_rok1 (s : ByteArray) (w : World) (hs : s.size ≤ 2048)(h1 : atW s 1 = 1) (h2 : atW s 2 = 0) (h3 : atW s 3 = 1) (h4 : atW s 4 = 0) (g5 : 0 ≤ atW s 5) (gk : okMg { Mg.zero with xid := atW s 0, ans := true, again := decide (atW s 3 = 1), accept := atW s 5, body := s.extract 24 s.size } = true) : Calls Tryd.prog 12 #[.string s] w fun e w' => e = .returned (.tuple #[.agg (mgGet s).1.arr, .int .i64 (mgGet s).2]) ∧ Below w.heap.size w w' := by
  have e : mgGet s = ({ Mg.zero with xid := atW s 0, ans := true, again := decide (atW s 3 = 1), accept := atW s 5, body := s.extract 24 s.size }, 0) := by
    unfold mgGet
    rw [if_neg (by omega), if_neg (by omega), if_pos h1, if_neg (by omega), if_pos gk]
  rw [e]
  clear e
  have A0 : ∀ W, Calls Tryd.prog 26 #[.string s, .int .i64 0] W fun e w' => e = .returned (.int .i64 (atW s 0)) ∧ Below W.heap.size W w' := fun W => mfat_any s 0 W (by omega) (by decide)
  have A1 : ∀ W, Calls Tryd.prog 26 #[.string s, .int .i64 1] W fun e w' => e = .returned (.int .i64 (atW s 1)) ∧ Below W.heap.size W w' := fun W => mfat_any s 1 W (by omega) (by decide)
  have A2 : ∀ W, Calls Tryd.prog 26 #[.string s, .int .i64 2] W fun e w' => e = .returned (.int .i64 (atW s 2)) ∧ Below W.heap.size W w' := fun W => mfat_any s 2 W (by omega) (by decide)
  have A3 : ∀ W, Calls Tryd.prog 26 #[.string s, .int .i64 3] W fun e w' => e = .returned (.int .i64 (atW s 3)) ∧ Below W.heap.size W w' := fun W => mfat_any s 3 W (by omega) (by decide)
  have A4 : ∀ W, Calls Tryd.prog 26 #[.string s, .int .i64 4] W fun e w' => e = .returned (.int .i64 (atW s 4)) ∧ Below W.heap.size W w' := fun W => mfat_any s 4 W (by omega) (by decide)
  have A5 : ∀ W, Calls Tryd.prog 26 #[.string s, .int .i64 5] W fun e w' => e = .returned (.int .i64 (atW s 5)) ∧ Below W.heap.size W w' := fun W => mfat_any s 5 W (by omega) (by decide)
  have A6 : ∀ W, Calls Tryd.prog 26 #[.string s, .int .i64 6] W fun e w' => e = .returned (.int .i64 (atW s 6)) ∧ Below W.heap.size W w' := fun W => mfat_any s 6 W (by omega) (by decide)
  have A7 : ∀ W, Calls Tryd.prog 26 #[.string s, .int .i64 7] W fun e w' => e = .returned (.int .i64 (atW s 7)) ∧ Below W.heap.size W w' := fun W => mfat_any s 7 W (by omega) (by decide)
  have A8 : ∀ W, Calls Tryd.prog 26 #[.string s, .int .i64 8] W fun e w' => e = .returned (.int .i64 (atW s 8)) ∧ Below W.heap.size W w' := fun W => mfat_any s 8 W (by omega) (by decide)
  have A9 : ∀ W, Calls Tryd.prog 26 #[.string s, .int .i64 9] W fun e w' => e = .returned (.int .i64 (atW s 9)) ∧ Below W.heap.size W w' := fun W => mfat_any s 9 W (by omega) (by decide)
  have A10 : ∀ W, Calls Tryd.prog 26 #[.string s, .int .i64 10] W fun e w' => e = .returned (.int .i64 (atW s 10)) ∧ Below W.heap.size W w' := fun W => mfat_any s 10 W (by omega) (by decide)
  have A11 : ∀ W, Calls Tryd.prog 26 #[.string s, .int .i64 11] W fun e w' => e = .returned (.int .i64 (atW s 11)) ∧ Below W.heap.size W w' := fun W => mfat_any s 11 W (by omega) (by decide)
  have A12 : ∀ W, Calls Tryd.prog 26 #[.string s, .int .i64 12] W fun e w' => e = .returned (.int .i64 (atW s 12)) ∧ Below W.heap.size W w' := fun W => mfat_any s 12 W (by omega) (by decide)
  have A13 : ∀ W, Calls Tryd.prog 26 #[.string s, .int .i64 13] W fun e w' => e = .returned (.int .i64 (atW s 13)) ∧ Below W.heap.size W w' := fun W => mfat_any s 13 W (by omega) (by decide)
  obtain ⟨a0, ha0⟩ : ∃ a, a = atW s 0 := ⟨_, rfl⟩
  rw [← ha0] at A0
  rw [h1] at A1
  rw [h2] at A2
  rw [h3] at A3
  rw [h4] at A4
  obtain ⟨a5, ha5⟩ : ∃ a, a = atW s 5 := ⟨_, rfl⟩
  rw [← ha5] at A5
  obtain ⟨a6, ha6⟩ : ∃ a, a = atW s 6 := ⟨_, rfl⟩
  rw [← ha6] at A6
  obtain ⟨a7, ha7⟩ : ∃ a, a = atW s 7 := ⟨_, rfl⟩
  rw [← ha7] at A7
  obtain ⟨a8, ha8⟩ : ∃ a, a = atW s 8 := ⟨_, rfl⟩
  rw [← ha8] at A8
  obtain ⟨a9, ha9⟩ : ∃ a, a = atW s 9 := ⟨_, rfl⟩
  rw [← ha9] at A9
  obtain ⟨a10, ha10⟩ : ∃ a, a = atW s 10 := ⟨_, rfl⟩
  rw [← ha10] at A10
  obtain ⟨a11, ha11⟩ : ∃ a, a = atW s 11 := ⟨_, rfl⟩
  rw [← ha11] at A11
  obtain ⟨a12, ha12⟩ : ∃ a, a = atW s 12 := ⟨_, rfl⟩
  rw [← ha12] at A12
  obtain ⟨a13, ha13⟩ : ∃ a, a = atW s 13 := ⟨_, rfl⟩
  rw [← ha13] at A13
  have d0 : decide ((s.size : Int) > 2048) = false := decide_eq_false (by omega)
  have d5 : decide (a5 < 0) = false := decide_eq_false (by omega)
  have hl := atW_there g5
  have hag : decide (atW s 3 = 1) = true := by rw [h3]; rfl
  rw [ha0.symm, ha5.symm, hag] at gk
  have hmq : ({ Mg.zero with xid := atW s 0, ans := true, again := decide (atW s 3 = 1), accept := atW s 5, body := s.extract 24 s.size } : Mg) = (⟨a0, true, true, 0, 0, 0, 0, 0, a5, s.extract 24 s.size⟩ : Mg) := by rw [← ha0, ← ha5, hag]; rfl
  rw [hmq]
  obtain ⟨bd, hbd⟩ : ∃ b, b = s.extract 24 s.size := ⟨_, rfl⟩
  rw [← hbd] at gk hmq ⊢
  have HC := Lib.hid (fun W => mfCheck_any (⟨a0, true, true, 0, 0, 0, 0, 0, a5, bd⟩ : Mg) W)
  rw [show okMg (⟨a0, true, true, 0, 0, 0, 0, 0, a5, bd⟩ : Mg) = true from gk] at HC
  have z24 : (24 : Int) ≤ (s.size : Int) := by omega
  have z24n : 24 ≤ s.size := by omega
  have z24d : decide ((24 : Int) ≤ (s.size : Int)) = true := decide_eq_true z24
  have hbx := hbd.symm
  clear hbd hl hag hmq gk hs h1 h2 h3 h4 g5
  replace A0 := Lib.hid A0
  replace A1 := Lib.hid A1
  replace A2 := Lib.hid A2
  replace A3 := Lib.hid A3
  replace A4 := Lib.hid A4
  replace A5 := Lib.hid A5
  replace A6 := Lib.hid A6
  replace A7 := Lib.hid A7
  replace A8 := Lib.hid A8
  replace A9 := Lib.hid A9
  replace A10 := Lib.hid A10
  replace A11 := Lib.hid A11
  replace A12 := Lib.hid A12
  replace A13 := Lib.hid A13
  clear ha0 ha5 ha6 ha7 ha8 ha9 ha10 ha11 ha12 ha13
  have A00 := Lib.hid (show St 25 w.heap.size #[.int .i64 0, .bool false, .bool false, .int .i64 0, .int .i64 0, .int .i64 0, .int .i64 0, .int .i64 0, .int .i64 0, .string ⟨#[]⟩] ((w.alloc (.cells #[.int .i64 0, .bool false, .bool false, .int .i64 0, .int .i64 0, .int .i64 0, .int .i64 0, .int .i64 0, .int .i64 0, .string ⟨#[]⟩] 25 (0, 0))).alloc (.cells #[.int .i64 0, .bool false, .bool false, .int .i64 0, .int .i64 0, .int .i64 0, .int .i64 0, .int .i64 0, .int .i64 0, .string ⟨#[]⟩] 25 (0, 0))) from (St.new w 25 _).alloc _)
  have K0 := Lib.hid (show St 25 (w.heap.size + 1) #[.int .i64 0, .bool false, .bool false, .int .i64 0, .int .i64 0, .int .i64 0, .int .i64 0, .int .i64 0, .int .i64 0, .string ⟨#[]⟩] ((w.alloc (.cells #[.int .i64 0, .bool false, .bool false, .int .i64 0, .int .i64 0, .int .i64 0, .int .i64 0, .int .i64 0, .int .i64 0, .string ⟨#[]⟩] 25 (0, 0))).alloc (.cells #[.int .i64 0, .bool false, .bool false, .int .i64 0, .int .i64 0, .int .i64 0, .int .i64 0, .int .i64 0, .int .i64 0, .string ⟨#[]⟩] 25 (0, 0))) from by have := St.new (w.alloc (.cells #[.int .i64 0, .bool false, .bool false, .int .i64 0, .int .i64 0, .int .i64 0, .int .i64 0, .int .i64 0, .int .i64 0, .string ⟨#[]⟩] 25 (0, 0))) 25 #[.int .i64 0, .bool false, .bool false, .int .i64 0, .int .i64 0, .int .i64 0, .int .i64 0, .int .i64 0, .int .i64 0, .string ⟨#[]⟩]; simpa using this)
  have L0 := Lib.hid (show Below w.heap.size w ((w.alloc (.cells #[.int .i64 0, .bool false, .bool false, .int .i64 0, .int .i64 0, .int .i64 0, .int .i64 0, .int .i64 0, .int .i64 0, .string ⟨#[]⟩] 25 (0, 0))).alloc (.cells #[.int .i64 0, .bool false, .bool false, .int .i64 0, .int .i64 0, .int .i64 0, .int .i64 0, .int .i64 0, .int .i64 0, .string ⟨#[]⟩] 25 (0, 0))) from (below_one w _).alloc (by simp) _)
  dsimp only [Mg.arr, Mg.zero]
  go_enter Tryd.func12, Tryd.ntmps12
  go_wp2_with (first
    | (go_at_call 26; (first | (with_reducible refine (A0.out _).mono ?_) | (with_reducible refine (A1.out _).mono ?_) | (with_reducible refine (A2.out _).mono ?_) | (with_reducible refine (A3.out _).mono ?_) | (with_reducible refine (A4.out _).mono ?_) | (with_reducible refine (A5.out _).mono ?_) | (with_reducible refine (A6.out _).mono ?_) | (with_reducible refine (A7.out _).mono ?_) | (with_reducible refine (A8.out _).mono ?_) | (with_reducible refine (A9.out _).mono ?_) | (with_reducible refine (A10.out _).mono ?_) | (with_reducible refine (A11.out _).mono ?_) | (with_reducible refine (A12.out _).mono ?_) | (with_reducible refine (A13.out _).mono ?_)); rintro e w3 ⟨rfl, b3⟩; (first | (have V4 := Lib.hid (VC.below V4.out b3); have cc := V4.out.b.msg.cell (j := 8) rfl; have ff := V4.out.b.msg.free 8; have cc3 := V4.out.b.msg.cell (j := 3) rfl; have ff3 := V4.out.b.msg.free 3; have cc9 := V4.out.b.msg.cell (j := 9) rfl; have ff9 := V4.out.b.msg.free 9) | (have V3 := Lib.hid (VB.below (V3.out.set 2 _) b3); have cc := V3.out.msg.cell (j := 8) rfl; have ff := V3.out.msg.free 8; have cc9 := V3.out.msg.cell (j := 9) rfl; have ff9 := V3.out.msg.free 9) | (have V3 := Lib.hid (VB.below V3.out b3); have cc := V3.out.msg.cell (j := 8) rfl; have ff := V3.out.msg.free 8; have cc2 := V3.out.msg.cell (j := 2) rfl; have ff2 := V3.out.msg.free 2) | (have V := Lib.hid (VA.below V.out b3))); clear b3)
    | (go_at_call 19; go_must (refine (HO.out _).mono ?_); rintro e w3 ⟨rfl, b3⟩; (first | (have V4 := Lib.hid (VC.below V4.out b3); have cc := V4.out.b.msg.cell (j := 8) rfl; have ff := V4.out.b.msg.free 8; have cc3 := V4.out.b.msg.cell (j := 3) rfl; have ff3 := V4.out.b.msg.free 3; have cc9 := V4.out.b.msg.cell (j := 9) rfl; have ff9 := V4.out.b.msg.free 9) | (have V3 := Lib.hid (VB.below (V3.out.set 2 _) b3); have cc := V3.out.msg.cell (j := 8) rfl; have ff := V3.out.msg.free 8; have cc9 := V3.out.msg.cell (j := 9) rfl; have ff9 := V3.out.msg.free 9) | (have V3 := Lib.hid (VB.below V3.out b3); have cc := V3.out.msg.cell (j := 8) rfl; have ff := V3.out.msg.free 8; have cc2 := V3.out.msg.cell (j := 2) rfl; have ff2 := V3.out.msg.free 2) | (have V := Lib.hid (VA.below V.out b3))); clear b3)
    | (go_at_call 8; go_must (refine (HC.out _).mono ?_); rintro e w3 ⟨rfl, b3⟩; have V3 := Lib.hid (VB.below ((V3.out.set 8 _).set 9 _) b3); clear b3)
    | ((with_reducible show wpList _ _ _ ({ dst := _, op := .build 25 #[], type := _, pos := _, after := _, guard := _ } :: _) _ _); refine wpList_build_as rfl 25 _ rfl #[.int .i64 0, .bool false, .bool false, .int .i64 0, .int .i64 0, .int .i64 0, .int .i64 0, .int .i64 0, .int .i64 0, .string ⟨#[]⟩] mzero_built ?_)
    | ((with_reducible show wpList _ _ _ ({ dst := _, op := .build 25 _, type := _, pos := _, after := _, guard := _ } :: _) _ _); refine wpList_build_as rfl 25 _ rfl #[.int .i64 a0, .bool true, .bool false, .int .i64 0, .int .i64 0, .int .i64 0, .int .i64 0, .int .i64 0, .int .i64 0, .string ⟨#[]⟩] (mnew_built _ _) ?_)
    | ((with_reducible show wpList _ _ _ ({ dst := _, op := .build 23 _, type := _, pos := _, after := _, guard := _ } :: _) _ _); refine wpList_build_as rfl 23 _ rfl #[.int .i64 a8, .int .i64 a9, .int .i64 a10, .int .i64 a11] (cred_built _ _ _ _) ?_)
    | ((with_reducible show wpList _ _ _ ({ dst := _, op := .store _ (.tmp 4) _, type := _, pos := _, after := _, guard := _ } :: _) _ _); refine wpList_store_st rfl 25 _ _ rfl (w.heap.size + 1) #[.int .i64 0, .bool false, .bool false, .int .i64 0, .int .i64 0, .int .i64 0, .int .i64 0, .int .i64 0, .int .i64 0, .string ⟨#[]⟩] rfl rfl _ K0.out (by kernel_rfl) rfl (by kernel_rfl) ?_; intro wz hz hst; have V := Lib.hid (show VA w wz from ⟨by rw [hz]; exact A00.out.setRow_other (by omega) _, hst, by rw [hz]; exact below_row L0.out (by omega) _⟩); clear hz hst)
    | ((with_reducible show wpList _ _ _ ({ dst := _, op := .store _ (.tmp 6) _, type := _, pos := _, after := _, guard := _ } :: _) _ _); refine wpList_store_st rfl 25 _ _ rfl _ #[.int .i64 a0, .bool true, .bool false, .int .i64 0, .int .i64 0, .int .i64 0, .int .i64 0, .int .i64 0, .int .i64 0, .string ⟨#[]⟩] rfl rfl _ (St.new w3 25 _) (by kernel_rfl) rfl (by kernel_rfl) ?_; rw [alloc_row]; intro wz hz hst; subst hz; have V3 := Lib.hid (V.out.toB #[.int .i64 a0, .bool true, .bool false, .int .i64 0, .int .i64 0, .int .i64 0, .int .i64 0, .int .i64 0, .int .i64 0, .string ⟨#[]⟩]); clear hst)
    | ((with_reducible show wpList _ _ _ ({ dst := _, op := .store _ (.tmp 7) _, type := _, pos := _, after := _, guard := _ } :: _) _ _); refine wpList_store_st rfl 23 _ _ rfl _ #[.int .i64 a8, .int .i64 a9, .int .i64 a10, .int .i64 a11] rfl rfl _ (St.new w3 23 _) (by kernel_rfl) rfl (by kernel_rfl) ?_; rw [alloc_row]; intro wz hz hst; subst hz; have V4 := Lib.hid (V3.out.toC #[.int .i64 a8, .int .i64 a9, .int .i64 a10, .int .i64 a11]); clear hst)
    | ((with_reducible show wpList _ _ _ ({ dst := _, op := .load _ (.tmp 4), type := _, pos := _, after := _, guard := _ } :: _) _ _); refine wpList_load_st rfl 25 _ rfl _ rfl 25 #[.int .i64 0, .bool false, .bool false, .int .i64 0, .int .i64 0, .int .i64 0, .int .i64 0, .int .i64 0, .int .i64 0, .string ⟨#[]⟩] (by first | exact V3.out.a.non | exact V.out.non) _ Tryd.underlying25 rfl (by kernel_rfl) ?_)
    | ((with_reducible show wpList _ _ _ ({ dst := _, op := .load _ (.tmp 6), type := _, pos := _, after := _, guard := _ } :: _) _ _); refine wpList_load_st rfl 25 _ rfl _ rfl 25 #[.int .i64 a0, .bool true, .bool true, .int .i64 0, .int .i64 0, .int .i64 0, .int .i64 0, .int .i64 0, .int .i64 a5, .string bd] (by first | exact V3.out.msg | exact ((V3.out.set 8 _).set 9 _).msg) _ Tryd.underlying25 rfl (by kernel_rfl) ?_)
    | ((with_reducible show wpList _ _ _ ({ dst := _, op := .store _ (.tmp 2) _, type := _, pos := _, after := _, guard := _ } :: _) _ _); refine wpList_store_st rfl 25 _ _ rfl w.heap.size #[.int .i64 a0, .bool true, .bool true, .int .i64 0, .int .i64 0, .int .i64 0, .int .i64 0, .int .i64 0, .int .i64 a5, .string bd] rfl rfl _ (V3.out.a.res) (by kernel_rfl) rfl (by kernel_rfl) ?_; intro wz hz hst; have HQ := Lib.hid hz; have HR := Lib.hid hst; clear hz hst))
  refine ret_cell2 (r := 2) (t := 3) (k := w.heap.size) (T := 25) Tryd.results12 rfl rfl HR.out Tryd.underlying25 rfl (by kernel_rfl) rfl ?_
  have e0 := HQ.out
  subst e0
  exact ⟨rfl, below_row V3.out.a.low (Nat.le_refl _) _⟩
end Go.Proofs.YtimbcombhdgjiaaDoor
