/- Messages: the program's readCall. -/
import Derived.Test.YtimbcombhdgjiaaDoorMx
namespace Go.Proofs.YtimbcombhdgjiaaDoor
open Go.RowKit
set_option linter.unusedSimpArgs false
set_option linter.unusedVariables false

/-- Ahead of the message: the reader is at number i; the result's block g. -/
structure RA (k g i : Nat) (s : ByteArray) (w W : World) : Prop where
  rd : Rd k (s.extract (4 * i) s.size) 0 W
  res : St 25 g mz W
  keep : Keep k none w W
  kg : k ≠ g
  ng : w.heap.size ≤ g
theorem RA.call {k g i j : Nat} {s : ByteArray} {w W W' : World} (h : RA k g i s w W) (hr : Rd k (s.extract (4 * j) s.size) 0 W') (hk : Keep k none W W') : RA k g j s w W' :=
  ⟨hr, St.keep h.res hk h.kg.symm (by simp), h.keep.trans hk (.inl rfl), h.kg, h.ng⟩
theorem RA.below {k g i : Nat} {s : ByteArray} {w W W' : World} (h : RA k g i s w W) (hb : Below W.heap.size W W') : RA k g i s w W' :=
  ⟨h.rd.below hb, h.res.below hb, h.keep.trans (keep_of_below hb) (.inl rfl), h.kg, h.ng⟩
theorem RA.born {k g i : Nat} {s : ByteArray} {w W : World} (h : RA k g i s w W) (cs : Array Value) : RS k g W.heap.size i s cs w (W.alloc (.cells cs 25 (0, 0))) := by
  have h1 := St.lt h.rd
  have h2 := h.res.lt
  have h3 := h.keep.size
  exact ⟨St.alloc h.rd _, h.res.alloc _, St.new W _ _, h.keep.alloc _, h.kg, by omega, by omega, by omega, h.ng⟩
theorem RS.putCred {k g b i : Nat} {s : ByteArray} {v0 v1 v2 v3 v4 v5 v6 v7 v8 v9 : Value} {w W : World} (h : RS k g b i s #[v0, v1, v2, v3, v4, v5, v6, v7, v8, v9] w W) (u4 u5 u6 u7 : Value) :
    RS k g b i s #[v0, v1, v2, v3, u4, u5, u6, u7, v8, v9] w (W.setCells b 4 [u4, u5, u6, u7]) := (((h.set 4 u4).set 5 u5).set 6 u6).set 7 u7
theorem St.there {T : TypeId} {k : Nat} {cs : Array Value} {w : World} (h : St T k cs w) (o n : Nat) (hn : o + n ≤ cs.size) : w.there k o n := fun j hj => by
  refine ⟨?_, h.free _⟩
  have : cs[o + j]? = some (cs[o + j]'(by omega)) := Array.getElem?_eq_getElem (by omega)
  rw [h.cell this]
  rfl
theorem wpList_store_credR {ops : Array Oper} {rest : List Oper} {op : Oper} {a : Act} {W : World} {Q : Exit → Act → World → Prop} (hgd : op.guard = none) (x y : Operand) (ho : op.op = .store 23 x y)
    {k g b i : Nat} {s : ByteArray} {v0 v1 v2 v3 v4 v5 v6 v7 v8 v9 : Value} {w : World} (hr : RS k g b i s #[v0, v1, v2, v3, v4, v5, v6, v7, v8, v9] w W) (c1 c2 c3 c4 : Int)
    (hx : a.eval x = .pointer (some ⟨b, 4, none⟩)) (hy : a.eval y = .agg #[.int .i64 c1, .int .i64 c2, .int .i64 c3, .int .i64 c4])
    (h : ∀ W', RS k g b i s #[v0, v1, v2, v3, .int .i64 c1, .int .i64 c2, .int .i64 c3, .int .i64 c4, v8, v9] w W' → wpList Tryd.prog ops Q rest (a.put op.dst undef) W') : wpList Tryd.prog ops Q (op :: rest) a W :=
  wpList_store_mid hgd 23 x y ho b 4 _ hx hy (hr.msg.there 4 4 (by simp)) (by kernel_rfl) (by kernel_rfl) (h _ (hr.putCred _ _ _ _))
theorem RT.at3 {k g b : Nat} {v0 v1 v2 v3 v4 v5 v6 v7 v8 v9 : Value} {w W : World} (h : RT k g b #[v0, v1, v2, v3, v4, v5, v6, v7, v8, v9] w W) : W.cell? ⟨b, 3, none⟩ = some v3 := h.msg.cell rfl
theorem RS.at9 {k g b : Nat} {v0 v1 v2 v3 v4 v5 v6 v7 v8 v9 : Value} {w W : World} (h : RT k g b #[v0, v1, v2, v3, v4, v5, v6, v7, v8, v9] w W) : W.cell? ⟨b, 9, none⟩ = some v9 := h.msg.cell rfl

set_option maxRecDepth 100000 in
set_option maxHeartbeats 4000000 in
theorem readCall_goneN2 (k : Nat) (s : ByteArray) (x : Int) (w : World) (h : Rd k (s.extract (4 * 2) s.size) 0 w) (h1 : 8 ≤ s.size) (h2 : s.size < 12) :
    Calls Tryd.prog 34 #[.string s, .int .i64 x, .pointer (some ⟨k, 0, none⟩)] w fun e w' => e = .panicked thrown ∧ Keep k none w w' := by
  obtain ⟨a2, ha2⟩ : ∃ v, v = atW s 2 := ⟨_, rfl⟩
  obtain ⟨a3, ha3⟩ : ∃ v, v = atW s 3 := ⟨_, rfl⟩
  obtain ⟨a4, ha4⟩ : ∃ v, v = atW s 4 := ⟨_, rfl⟩
  obtain ⟨a5, ha5⟩ : ∃ v, v = atW s 5 := ⟨_, rfl⟩
  obtain ⟨a8, ha8⟩ : ∃ v, v = atW s 8 := ⟨_, rfl⟩
  obtain ⟨a9, ha9⟩ : ∃ v, v = atW s 9 := ⟨_, rfl⟩
  obtain ⟨a10, ha10⟩ : ∃ v, v = atW s 10 := ⟨_, rfl⟩
  obtain ⟨a11, ha11⟩ : ∃ v, v = atW s 11 := ⟨_, rfl⟩
  obtain ⟨bd, hbd⟩ : ∃ v, v = restOf s 14 := ⟨_, rfl⟩
  have hkw : k < w.heap.size := St.lt h
  have A0 := Lib.hid (show RA k w.heap.size 2 s w (w.alloc (.cells #[.int .i64 0, .bool false, .bool false, .int .i64 0, .int .i64 0, .int .i64 0, .int .i64 0, .int .i64 0, .int .i64 0, .string ⟨#[]⟩] 25 (0, 0))) from ⟨St.alloc h _, St.new w 25 mz, (Keep.refl k none w).alloc _, by omega, by omega⟩)
  have HG : ∀ W, Rd k (s.extract (4 * 2) s.size) 0 W → Calls Tryd.prog 33 #[.pointer (some ⟨k, 0, none⟩)] W fun e w' => e = .panicked thrown ∧ Keep k none W w' := fun W h => mnext_gone k 2 s W h (by omega)
  replace HG := Lib.hid HG
  clear h1 h2
  clear h hkw hbd ha2 ha3 ha4 ha5 ha8 ha9 ha10 ha11
  go_enter Tryd.func34, Tryd.ntmps34
  go_wp2_with (first
    | (go_at_call 33; with_reducible refine (HG.out _ A0.out.rd).mono ?_; rintro e wx ⟨rfl, kx⟩; have KX := Lib.hid (A0.out.keep.trans kx (.inl rfl)); clear kx))
  simp only [bodyPost]
  exact ⟨trivial, trivial, KX.out⟩

set_option maxRecDepth 100000 in
set_option maxHeartbeats 4000000 in
theorem readCall_goneN3 (k : Nat) (s : ByteArray) (x : Int) (w : World) (h : Rd k (s.extract (4 * 2) s.size) 0 w) (h1 : 12 ≤ s.size) (h2 : s.size < 16) (e2 : atW s 2 = 2) :
    Calls Tryd.prog 34 #[.string s, .int .i64 x, .pointer (some ⟨k, 0, none⟩)] w fun e w' => e = .panicked thrown ∧ Keep k none w w' := by
  obtain ⟨a2, ha2⟩ : ∃ v, v = atW s 2 := ⟨_, rfl⟩
  obtain ⟨a3, ha3⟩ : ∃ v, v = atW s 3 := ⟨_, rfl⟩
  obtain ⟨a4, ha4⟩ : ∃ v, v = atW s 4 := ⟨_, rfl⟩
  obtain ⟨a5, ha5⟩ : ∃ v, v = atW s 5 := ⟨_, rfl⟩
  obtain ⟨a8, ha8⟩ : ∃ v, v = atW s 8 := ⟨_, rfl⟩
  obtain ⟨a9, ha9⟩ : ∃ v, v = atW s 9 := ⟨_, rfl⟩
  obtain ⟨a10, ha10⟩ : ∃ v, v = atW s 10 := ⟨_, rfl⟩
  obtain ⟨a11, ha11⟩ : ∃ v, v = atW s 11 := ⟨_, rfl⟩
  obtain ⟨bd, hbd⟩ : ∃ v, v = restOf s 14 := ⟨_, rfl⟩
  rw [← ha2] at e2
  have d2 : (a2 != 2) = false := by rw [e2]; rfl
  clear e2
  have hkw : k < w.heap.size := St.lt h
  have A0 := Lib.hid (show RA k w.heap.size 2 s w (w.alloc (.cells #[.int .i64 0, .bool false, .bool false, .int .i64 0, .int .i64 0, .int .i64 0, .int .i64 0, .int .i64 0, .int .i64 0, .string ⟨#[]⟩] 25 (0, 0))) from ⟨St.alloc h _, St.new w 25 mz, (Keep.refl k none w).alloc _, by omega, by omega⟩)
  have HN2 : ∀ W, Rd k (s.extract (4 * 2) s.size) 0 W → Calls Tryd.prog 33 #[.pointer (some ⟨k, 0, none⟩)] W fun e w' => e = .returned (.int .i64 (atW s 2)) ∧ Rd k (s.extract (4 * 3) s.size) 0 w' ∧ Keep k none W w' := fun W h => mnext_at k 2 s W h (by omega)
  rw [← ha2] at HN2
  replace HN2 := Lib.hid HN2
  have HG : ∀ W, Rd k (s.extract (4 * 3) s.size) 0 W → Calls Tryd.prog 33 #[.pointer (some ⟨k, 0, none⟩)] W fun e w' => e = .panicked thrown ∧ Keep k none W w' := fun W h => mnext_gone k 3 s W h (by omega)
  replace HG := Lib.hid HG
  clear h1 h2
  clear h hkw hbd ha2 ha3 ha4 ha5 ha8 ha9 ha10 ha11
  go_enter Tryd.func34, Tryd.ntmps34
  go_wp2_with (first
    | (go_at_call 33; with_reducible refine (HN2.out _ A0.out.rd).mono ?_; rintro e w1 ⟨rfl, gx, kx⟩; have A1 := Lib.hid (A0.out.call gx kx); clear gx kx)
    | (go_at_call 33; with_reducible refine (HG.out _ A1.out.rd).mono ?_; rintro e wx ⟨rfl, kx⟩; have KX := Lib.hid (A1.out.keep.trans kx (.inl rfl)); clear kx))
  simp only [bodyPost]
  exact ⟨trivial, trivial, KX.out⟩

set_option maxRecDepth 100000 in
set_option maxHeartbeats 4000000 in
theorem readCall_goneN4 (k : Nat) (s : ByteArray) (x : Int) (w : World) (h : Rd k (s.extract (4 * 2) s.size) 0 w) (h1 : 16 ≤ s.size) (h2 : s.size < 20) (e2 : atW s 2 = 2) (e3 : atW s 3 = 100003) :
    Calls Tryd.prog 34 #[.string s, .int .i64 x, .pointer (some ⟨k, 0, none⟩)] w fun e w' => e = .panicked thrown ∧ Keep k none w w' := by
  obtain ⟨a2, ha2⟩ : ∃ v, v = atW s 2 := ⟨_, rfl⟩
  obtain ⟨a3, ha3⟩ : ∃ v, v = atW s 3 := ⟨_, rfl⟩
  obtain ⟨a4, ha4⟩ : ∃ v, v = atW s 4 := ⟨_, rfl⟩
  obtain ⟨a5, ha5⟩ : ∃ v, v = atW s 5 := ⟨_, rfl⟩
  obtain ⟨a8, ha8⟩ : ∃ v, v = atW s 8 := ⟨_, rfl⟩
  obtain ⟨a9, ha9⟩ : ∃ v, v = atW s 9 := ⟨_, rfl⟩
  obtain ⟨a10, ha10⟩ : ∃ v, v = atW s 10 := ⟨_, rfl⟩
  obtain ⟨a11, ha11⟩ : ∃ v, v = atW s 11 := ⟨_, rfl⟩
  obtain ⟨bd, hbd⟩ : ∃ v, v = restOf s 14 := ⟨_, rfl⟩
  rw [← ha2] at e2
  have d2 : (a2 != 2) = false := by rw [e2]; rfl
  clear e2
  rw [← ha3] at e3
  have d3 : (a3 != 100003) = false := by rw [e3]; rfl
  clear e3
  have hkw : k < w.heap.size := St.lt h
  have A0 := Lib.hid (show RA k w.heap.size 2 s w (w.alloc (.cells #[.int .i64 0, .bool false, .bool false, .int .i64 0, .int .i64 0, .int .i64 0, .int .i64 0, .int .i64 0, .int .i64 0, .string ⟨#[]⟩] 25 (0, 0))) from ⟨St.alloc h _, St.new w 25 mz, (Keep.refl k none w).alloc _, by omega, by omega⟩)
  have HN2 : ∀ W, Rd k (s.extract (4 * 2) s.size) 0 W → Calls Tryd.prog 33 #[.pointer (some ⟨k, 0, none⟩)] W fun e w' => e = .returned (.int .i64 (atW s 2)) ∧ Rd k (s.extract (4 * 3) s.size) 0 w' ∧ Keep k none W w' := fun W h => mnext_at k 2 s W h (by omega)
  rw [← ha2] at HN2
  replace HN2 := Lib.hid HN2
  have HN3 : ∀ W, Rd k (s.extract (4 * 3) s.size) 0 W → Calls Tryd.prog 33 #[.pointer (some ⟨k, 0, none⟩)] W fun e w' => e = .returned (.int .i64 (atW s 3)) ∧ Rd k (s.extract (4 * 4) s.size) 0 w' ∧ Keep k none W w' := fun W h => mnext_at k 3 s W h (by omega)
  rw [← ha3] at HN3
  replace HN3 := Lib.hid HN3
  have HG : ∀ W, Rd k (s.extract (4 * 4) s.size) 0 W → Calls Tryd.prog 33 #[.pointer (some ⟨k, 0, none⟩)] W fun e w' => e = .panicked thrown ∧ Keep k none W w' := fun W h => mnext_gone k 4 s W h (by omega)
  replace HG := Lib.hid HG
  clear h1 h2
  clear h hkw hbd ha2 ha3 ha4 ha5 ha8 ha9 ha10 ha11
  go_enter Tryd.func34, Tryd.ntmps34
  go_wp2_with (first
    | (go_at_call 33; with_reducible refine (HN2.out _ A0.out.rd).mono ?_; rintro e w1 ⟨rfl, gx, kx⟩; have A1 := Lib.hid (A0.out.call gx kx); clear gx kx)
    | (go_at_call 33; with_reducible refine (HN3.out _ A1.out.rd).mono ?_; rintro e w2 ⟨rfl, gx, kx⟩; have A2 := Lib.hid (A1.out.call gx kx); clear gx kx)
    | (go_at_call 33; with_reducible refine (HG.out _ A2.out.rd).mono ?_; rintro e wx ⟨rfl, kx⟩; have KX := Lib.hid (A2.out.keep.trans kx (.inl rfl)); clear kx))
  simp only [bodyPost]
  exact ⟨trivial, trivial, KX.out⟩

set_option maxRecDepth 100000 in
set_option maxHeartbeats 4000000 in
theorem readCall_goneN5 (k : Nat) (s : ByteArray) (x : Int) (w : World) (h : Rd k (s.extract (4 * 2) s.size) 0 w) (h1 : 20 ≤ s.size) (h2 : s.size < 24) (e2 : atW s 2 = 2) (e3 : atW s 3 = 100003) (e4 : atW s 4 = 3) :
    Calls Tryd.prog 34 #[.string s, .int .i64 x, .pointer (some ⟨k, 0, none⟩)] w fun e w' => e = .panicked thrown ∧ Keep k none w w' := by
  obtain ⟨a2, ha2⟩ : ∃ v, v = atW s 2 := ⟨_, rfl⟩
  obtain ⟨a3, ha3⟩ : ∃ v, v = atW s 3 := ⟨_, rfl⟩
  obtain ⟨a4, ha4⟩ : ∃ v, v = atW s 4 := ⟨_, rfl⟩
  obtain ⟨a5, ha5⟩ : ∃ v, v = atW s 5 := ⟨_, rfl⟩
  obtain ⟨a8, ha8⟩ : ∃ v, v = atW s 8 := ⟨_, rfl⟩
  obtain ⟨a9, ha9⟩ : ∃ v, v = atW s 9 := ⟨_, rfl⟩
  obtain ⟨a10, ha10⟩ : ∃ v, v = atW s 10 := ⟨_, rfl⟩
  obtain ⟨a11, ha11⟩ : ∃ v, v = atW s 11 := ⟨_, rfl⟩
  obtain ⟨bd, hbd⟩ : ∃ v, v = restOf s 14 := ⟨_, rfl⟩
  rw [← ha2] at e2
  have d2 : (a2 != 2) = false := by rw [e2]; rfl
  clear e2
  rw [← ha3] at e3
  have d3 : (a3 != 100003) = false := by rw [e3]; rfl
  clear e3
  rw [← ha4] at e4
  have d4 : (a4 != 3) = false := by rw [e4]; rfl
  clear e4
  have hkw : k < w.heap.size := St.lt h
  have A0 := Lib.hid (show RA k w.heap.size 2 s w (w.alloc (.cells #[.int .i64 0, .bool false, .bool false, .int .i64 0, .int .i64 0, .int .i64 0, .int .i64 0, .int .i64 0, .int .i64 0, .string ⟨#[]⟩] 25 (0, 0))) from ⟨St.alloc h _, St.new w 25 mz, (Keep.refl k none w).alloc _, by omega, by omega⟩)
  have HN2 : ∀ W, Rd k (s.extract (4 * 2) s.size) 0 W → Calls Tryd.prog 33 #[.pointer (some ⟨k, 0, none⟩)] W fun e w' => e = .returned (.int .i64 (atW s 2)) ∧ Rd k (s.extract (4 * 3) s.size) 0 w' ∧ Keep k none W w' := fun W h => mnext_at k 2 s W h (by omega)
  rw [← ha2] at HN2
  replace HN2 := Lib.hid HN2
  have HN3 : ∀ W, Rd k (s.extract (4 * 3) s.size) 0 W → Calls Tryd.prog 33 #[.pointer (some ⟨k, 0, none⟩)] W fun e w' => e = .returned (.int .i64 (atW s 3)) ∧ Rd k (s.extract (4 * 4) s.size) 0 w' ∧ Keep k none W w' := fun W h => mnext_at k 3 s W h (by omega)
  rw [← ha3] at HN3
  replace HN3 := Lib.hid HN3
  have HN4 : ∀ W, Rd k (s.extract (4 * 4) s.size) 0 W → Calls Tryd.prog 33 #[.pointer (some ⟨k, 0, none⟩)] W fun e w' => e = .returned (.int .i64 (atW s 4)) ∧ Rd k (s.extract (4 * 5) s.size) 0 w' ∧ Keep k none W w' := fun W h => mnext_at k 4 s W h (by omega)
  rw [← ha4] at HN4
  replace HN4 := Lib.hid HN4
  have HG : ∀ W, Rd k (s.extract (4 * 5) s.size) 0 W → Calls Tryd.prog 33 #[.pointer (some ⟨k, 0, none⟩)] W fun e w' => e = .panicked thrown ∧ Keep k none W w' := fun W h => mnext_gone k 5 s W h (by omega)
  replace HG := Lib.hid HG
  clear h1 h2
  clear h hkw hbd ha2 ha3 ha4 ha5 ha8 ha9 ha10 ha11
  go_enter Tryd.func34, Tryd.ntmps34
  go_wp2_with (first
    | (go_at_call 33; with_reducible refine (HN2.out _ A0.out.rd).mono ?_; rintro e w1 ⟨rfl, gx, kx⟩; have A1 := Lib.hid (A0.out.call gx kx); clear gx kx)
    | (go_at_call 33; with_reducible refine (HN3.out _ A1.out.rd).mono ?_; rintro e w2 ⟨rfl, gx, kx⟩; have A2 := Lib.hid (A1.out.call gx kx); clear gx kx)
    | (go_at_call 33; with_reducible refine (HN4.out _ A2.out.rd).mono ?_; rintro e w3 ⟨rfl, gx, kx⟩; have A3 := Lib.hid (A2.out.call gx kx); clear gx kx)
    | (go_at_call 33; with_reducible refine (HG.out _ A3.out.rd).mono ?_; rintro e wx ⟨rfl, kx⟩; have KX := Lib.hid (A3.out.keep.trans kx (.inl rfl)); clear kx))
  simp only [bodyPost]
  exact ⟨trivial, trivial, KX.out⟩

set_option maxRecDepth 100000 in
set_option maxHeartbeats 4000000 in
theorem readCall_goneS6 (k : Nat) (s : ByteArray) (x : Int) (w : World) (h : Rd k (s.extract (4 * 2) s.size) 0 w) (h1 : 24 ≤ s.size) (h2 : s.size < 32) (e2 : atW s 2 = 2) (e3 : atW s 3 = 100003) (e4 : atW s 4 = 3) :
    Calls Tryd.prog 34 #[.string s, .int .i64 x, .pointer (some ⟨k, 0, none⟩)] w fun e w' => e = .panicked thrown ∧ Keep k none w w' := by
  obtain ⟨a2, ha2⟩ : ∃ v, v = atW s 2 := ⟨_, rfl⟩
  obtain ⟨a3, ha3⟩ : ∃ v, v = atW s 3 := ⟨_, rfl⟩
  obtain ⟨a4, ha4⟩ : ∃ v, v = atW s 4 := ⟨_, rfl⟩
  obtain ⟨a5, ha5⟩ : ∃ v, v = atW s 5 := ⟨_, rfl⟩
  obtain ⟨a8, ha8⟩ : ∃ v, v = atW s 8 := ⟨_, rfl⟩
  obtain ⟨a9, ha9⟩ : ∃ v, v = atW s 9 := ⟨_, rfl⟩
  obtain ⟨a10, ha10⟩ : ∃ v, v = atW s 10 := ⟨_, rfl⟩
  obtain ⟨a11, ha11⟩ : ∃ v, v = atW s 11 := ⟨_, rfl⟩
  obtain ⟨bd, hbd⟩ : ∃ v, v = restOf s 14 := ⟨_, rfl⟩
  rw [← ha2] at e2
  have d2 : (a2 != 2) = false := by rw [e2]; rfl
  clear e2
  rw [← ha3] at e3
  have d3 : (a3 != 100003) = false := by rw [e3]; rfl
  clear e3
  rw [← ha4] at e4
  have d4 : (a4 != 3) = false := by rw [e4]; rfl
  clear e4
  have hkw : k < w.heap.size := St.lt h
  have A0 := Lib.hid (show RA k w.heap.size 2 s w (w.alloc (.cells #[.int .i64 0, .bool false, .bool false, .int .i64 0, .int .i64 0, .int .i64 0, .int .i64 0, .int .i64 0, .int .i64 0, .string ⟨#[]⟩] 25 (0, 0))) from ⟨St.alloc h _, St.new w 25 mz, (Keep.refl k none w).alloc _, by omega, by omega⟩)
  have HN2 : ∀ W, Rd k (s.extract (4 * 2) s.size) 0 W → Calls Tryd.prog 33 #[.pointer (some ⟨k, 0, none⟩)] W fun e w' => e = .returned (.int .i64 (atW s 2)) ∧ Rd k (s.extract (4 * 3) s.size) 0 w' ∧ Keep k none W w' := fun W h => mnext_at k 2 s W h (by omega)
  rw [← ha2] at HN2
  replace HN2 := Lib.hid HN2
  have HN3 : ∀ W, Rd k (s.extract (4 * 3) s.size) 0 W → Calls Tryd.prog 33 #[.pointer (some ⟨k, 0, none⟩)] W fun e w' => e = .returned (.int .i64 (atW s 3)) ∧ Rd k (s.extract (4 * 4) s.size) 0 w' ∧ Keep k none W w' := fun W h => mnext_at k 3 s W h (by omega)
  rw [← ha3] at HN3
  replace HN3 := Lib.hid HN3
  have HN4 : ∀ W, Rd k (s.extract (4 * 4) s.size) 0 W → Calls Tryd.prog 33 #[.pointer (some ⟨k, 0, none⟩)] W fun e w' => e = .returned (.int .i64 (atW s 4)) ∧ Rd k (s.extract (4 * 5) s.size) 0 w' ∧ Keep k none W w' := fun W h => mnext_at k 4 s W h (by omega)
  rw [← ha4] at HN4
  replace HN4 := Lib.hid HN4
  have HN5 : ∀ W, Rd k (s.extract (4 * 5) s.size) 0 W → Calls Tryd.prog 33 #[.pointer (some ⟨k, 0, none⟩)] W fun e w' => e = .returned (.int .i64 (atW s 5)) ∧ Rd k (s.extract (4 * 6) s.size) 0 w' ∧ Keep k none W w' := fun W h => mnext_at k 5 s W h (by omega)
  rw [← ha5] at HN5
  replace HN5 := Lib.hid HN5
  have HG : ∀ W, Rd k (s.extract (4 * 6) s.size) 0 W → Calls Tryd.prog 42 #[.pointer (some ⟨k, 0, none⟩), .int .i64 2] W fun e w' => e = .panicked thrown ∧ Keep k none W w' := fun W h => rcskip_gone k 6 2 s W h (by omega) (by omega) (by omega)
  replace HG := Lib.hid HG
  clear h1 h2
  clear h hkw hbd ha2 ha3 ha4 ha5 ha8 ha9 ha10 ha11
  go_enter Tryd.func34, Tryd.ntmps34
  go_wp2_with (first
    | (go_at_call 33; with_reducible refine (HN2.out _ A0.out.rd).mono ?_; rintro e w1 ⟨rfl, gx, kx⟩; have A1 := Lib.hid (A0.out.call gx kx); clear gx kx)
    | (go_at_call 33; with_reducible refine (HN3.out _ A1.out.rd).mono ?_; rintro e w2 ⟨rfl, gx, kx⟩; have A2 := Lib.hid (A1.out.call gx kx); clear gx kx)
    | (go_at_call 33; with_reducible refine (HN4.out _ A2.out.rd).mono ?_; rintro e w3 ⟨rfl, gx, kx⟩; have A3 := Lib.hid (A2.out.call gx kx); clear gx kx)
    | (go_at_call 33; with_reducible refine (HN5.out _ A3.out.rd).mono ?_; rintro e w5 ⟨rfl, gx, kx⟩; have A4 := Lib.hid (A3.out.call gx kx); have B5 := Lib.hid (A4.out.born #[.int .i64 x, .bool false, .bool false, .int .i64 a5, .int .i64 0, .int .i64 0, .int .i64 0, .int .i64 0, .int .i64 0, .string ⟨#[]⟩]); clear gx kx)
    | (go_at_call 42; with_reducible refine (HG.out _ B5.out.rd).mono ?_; rintro e wx ⟨rfl, kx⟩; have KX := Lib.hid (B5.out.keep.trans kx (.inl rfl)); clear kx))
  simp only [bodyPost]
  exact ⟨trivial, trivial, KX.out⟩

set_option maxRecDepth 100000 in
set_option maxHeartbeats 4000000 in
theorem readCall_goneN8 (k : Nat) (s : ByteArray) (x : Int) (w : World) (h : Rd k (s.extract (4 * 2) s.size) 0 w) (h1 : 32 ≤ s.size) (h2 : s.size < 36) (e2 : atW s 2 = 2) (e3 : atW s 3 = 100003) (e4 : atW s 4 = 3) :
    Calls Tryd.prog 34 #[.string s, .int .i64 x, .pointer (some ⟨k, 0, none⟩)] w fun e w' => e = .panicked thrown ∧ Keep k none w w' := by
  obtain ⟨a2, ha2⟩ : ∃ v, v = atW s 2 := ⟨_, rfl⟩
  obtain ⟨a3, ha3⟩ : ∃ v, v = atW s 3 := ⟨_, rfl⟩
  obtain ⟨a4, ha4⟩ : ∃ v, v = atW s 4 := ⟨_, rfl⟩
  obtain ⟨a5, ha5⟩ : ∃ v, v = atW s 5 := ⟨_, rfl⟩
  obtain ⟨a8, ha8⟩ : ∃ v, v = atW s 8 := ⟨_, rfl⟩
  obtain ⟨a9, ha9⟩ : ∃ v, v = atW s 9 := ⟨_, rfl⟩
  obtain ⟨a10, ha10⟩ : ∃ v, v = atW s 10 := ⟨_, rfl⟩
  obtain ⟨a11, ha11⟩ : ∃ v, v = atW s 11 := ⟨_, rfl⟩
  obtain ⟨bd, hbd⟩ : ∃ v, v = restOf s 14 := ⟨_, rfl⟩
  rw [← ha2] at e2
  have d2 : (a2 != 2) = false := by rw [e2]; rfl
  clear e2
  rw [← ha3] at e3
  have d3 : (a3 != 100003) = false := by rw [e3]; rfl
  clear e3
  rw [← ha4] at e4
  have d4 : (a4 != 3) = false := by rw [e4]; rfl
  clear e4
  have hkw : k < w.heap.size := St.lt h
  have A0 := Lib.hid (show RA k w.heap.size 2 s w (w.alloc (.cells #[.int .i64 0, .bool false, .bool false, .int .i64 0, .int .i64 0, .int .i64 0, .int .i64 0, .int .i64 0, .int .i64 0, .string ⟨#[]⟩] 25 (0, 0))) from ⟨St.alloc h _, St.new w 25 mz, (Keep.refl k none w).alloc _, by omega, by omega⟩)
  have HN2 : ∀ W, Rd k (s.extract (4 * 2) s.size) 0 W → Calls Tryd.prog 33 #[.pointer (some ⟨k, 0, none⟩)] W fun e w' => e = .returned (.int .i64 (atW s 2)) ∧ Rd k (s.extract (4 * 3) s.size) 0 w' ∧ Keep k none W w' := fun W h => mnext_at k 2 s W h (by omega)
  rw [← ha2] at HN2
  replace HN2 := Lib.hid HN2
  have HN3 : ∀ W, Rd k (s.extract (4 * 3) s.size) 0 W → Calls Tryd.prog 33 #[.pointer (some ⟨k, 0, none⟩)] W fun e w' => e = .returned (.int .i64 (atW s 3)) ∧ Rd k (s.extract (4 * 4) s.size) 0 w' ∧ Keep k none W w' := fun W h => mnext_at k 3 s W h (by omega)
  rw [← ha3] at HN3
  replace HN3 := Lib.hid HN3
  have HN4 : ∀ W, Rd k (s.extract (4 * 4) s.size) 0 W → Calls Tryd.prog 33 #[.pointer (some ⟨k, 0, none⟩)] W fun e w' => e = .returned (.int .i64 (atW s 4)) ∧ Rd k (s.extract (4 * 5) s.size) 0 w' ∧ Keep k none W w' := fun W h => mnext_at k 4 s W h (by omega)
  rw [← ha4] at HN4
  replace HN4 := Lib.hid HN4
  have HN5 : ∀ W, Rd k (s.extract (4 * 5) s.size) 0 W → Calls Tryd.prog 33 #[.pointer (some ⟨k, 0, none⟩)] W fun e w' => e = .returned (.int .i64 (atW s 5)) ∧ Rd k (s.extract (4 * 6) s.size) 0 w' ∧ Keep k none W w' := fun W h => mnext_at k 5 s W h (by omega)
  rw [← ha5] at HN5
  replace HN5 := Lib.hid HN5
  have HS6 : ∀ W, Rd k (s.extract (4 * 6) s.size) 0 W → Calls Tryd.prog 42 #[.pointer (some ⟨k, 0, none⟩), .int .i64 2] W fun e w' => e = .returned (.tuple #[]) ∧ Rd k (s.extract (4 * 8) s.size) 0 w' ∧ Keep k none W w' := fun W h => rcskip_at k 6 2 s W h (by omega) (by omega)
  replace HS6 := Lib.hid HS6
  have HG : ∀ W, Rd k (s.extract (4 * 8) s.size) 0 W → Calls Tryd.prog 33 #[.pointer (some ⟨k, 0, none⟩)] W fun e w' => e = .panicked thrown ∧ Keep k none W w' := fun W h => mnext_gone k 8 s W h (by omega)
  replace HG := Lib.hid HG
  clear h1 h2
  clear h hkw hbd ha2 ha3 ha4 ha5 ha8 ha9 ha10 ha11
  go_enter Tryd.func34, Tryd.ntmps34
  go_wp2_with (first
    | (go_at_call 33; with_reducible refine (HN2.out _ A0.out.rd).mono ?_; rintro e w1 ⟨rfl, gx, kx⟩; have A1 := Lib.hid (A0.out.call gx kx); clear gx kx)
    | (go_at_call 33; with_reducible refine (HN3.out _ A1.out.rd).mono ?_; rintro e w2 ⟨rfl, gx, kx⟩; have A2 := Lib.hid (A1.out.call gx kx); clear gx kx)
    | (go_at_call 33; with_reducible refine (HN4.out _ A2.out.rd).mono ?_; rintro e w3 ⟨rfl, gx, kx⟩; have A3 := Lib.hid (A2.out.call gx kx); clear gx kx)
    | (go_at_call 33; with_reducible refine (HN5.out _ A3.out.rd).mono ?_; rintro e w5 ⟨rfl, gx, kx⟩; have A4 := Lib.hid (A3.out.call gx kx); have B5 := Lib.hid (A4.out.born #[.int .i64 x, .bool false, .bool false, .int .i64 a5, .int .i64 0, .int .i64 0, .int .i64 0, .int .i64 0, .int .i64 0, .string ⟨#[]⟩]); clear gx kx)
    | (go_at_call 42; with_reducible refine (HS6.out _ B5.out.rd).mono ?_; rintro e w6 ⟨rfl, gx, kx⟩; have B6 := Lib.hid (B5.out.call gx kx); clear gx kx)
    | (go_at_call 33; with_reducible refine (HG.out _ B6.out.rd).mono ?_; rintro e wx ⟨rfl, kx⟩; have KX := Lib.hid (B6.out.keep.trans kx (.inl rfl)); clear kx))
  simp only [bodyPost]
  exact ⟨trivial, trivial, KX.out⟩

set_option maxRecDepth 100000 in
set_option maxHeartbeats 4000000 in
theorem readCall_goneN9 (k : Nat) (s : ByteArray) (x : Int) (w : World) (h : Rd k (s.extract (4 * 2) s.size) 0 w) (h1 : 36 ≤ s.size) (h2 : s.size < 40) (e2 : atW s 2 = 2) (e3 : atW s 3 = 100003) (e4 : atW s 4 = 3) :
    Calls Tryd.prog 34 #[.string s, .int .i64 x, .pointer (some ⟨k, 0, none⟩)] w fun e w' => e = .panicked thrown ∧ Keep k none w w' := by
  obtain ⟨a2, ha2⟩ : ∃ v, v = atW s 2 := ⟨_, rfl⟩
  obtain ⟨a3, ha3⟩ : ∃ v, v = atW s 3 := ⟨_, rfl⟩
  obtain ⟨a4, ha4⟩ : ∃ v, v = atW s 4 := ⟨_, rfl⟩
  obtain ⟨a5, ha5⟩ : ∃ v, v = atW s 5 := ⟨_, rfl⟩
  obtain ⟨a8, ha8⟩ : ∃ v, v = atW s 8 := ⟨_, rfl⟩
  obtain ⟨a9, ha9⟩ : ∃ v, v = atW s 9 := ⟨_, rfl⟩
  obtain ⟨a10, ha10⟩ : ∃ v, v = atW s 10 := ⟨_, rfl⟩
  obtain ⟨a11, ha11⟩ : ∃ v, v = atW s 11 := ⟨_, rfl⟩
  obtain ⟨bd, hbd⟩ : ∃ v, v = restOf s 14 := ⟨_, rfl⟩
  rw [← ha2] at e2
  have d2 : (a2 != 2) = false := by rw [e2]; rfl
  clear e2
  rw [← ha3] at e3
  have d3 : (a3 != 100003) = false := by rw [e3]; rfl
  clear e3
  rw [← ha4] at e4
  have d4 : (a4 != 3) = false := by rw [e4]; rfl
  clear e4
  have hkw : k < w.heap.size := St.lt h
  have A0 := Lib.hid (show RA k w.heap.size 2 s w (w.alloc (.cells #[.int .i64 0, .bool false, .bool false, .int .i64 0, .int .i64 0, .int .i64 0, .int .i64 0, .int .i64 0, .int .i64 0, .string ⟨#[]⟩] 25 (0, 0))) from ⟨St.alloc h _, St.new w 25 mz, (Keep.refl k none w).alloc _, by omega, by omega⟩)
  have HN2 : ∀ W, Rd k (s.extract (4 * 2) s.size) 0 W → Calls Tryd.prog 33 #[.pointer (some ⟨k, 0, none⟩)] W fun e w' => e = .returned (.int .i64 (atW s 2)) ∧ Rd k (s.extract (4 * 3) s.size) 0 w' ∧ Keep k none W w' := fun W h => mnext_at k 2 s W h (by omega)
  rw [← ha2] at HN2
  replace HN2 := Lib.hid HN2
  have HN3 : ∀ W, Rd k (s.extract (4 * 3) s.size) 0 W → Calls Tryd.prog 33 #[.pointer (some ⟨k, 0, none⟩)] W fun e w' => e = .returned (.int .i64 (atW s 3)) ∧ Rd k (s.extract (4 * 4) s.size) 0 w' ∧ Keep k none W w' := fun W h => mnext_at k 3 s W h (by omega)
  rw [← ha3] at HN3
  replace HN3 := Lib.hid HN3
  have HN4 : ∀ W, Rd k (s.extract (4 * 4) s.size) 0 W → Calls Tryd.prog 33 #[.pointer (some ⟨k, 0, none⟩)] W fun e w' => e = .returned (.int .i64 (atW s 4)) ∧ Rd k (s.extract (4 * 5) s.size) 0 w' ∧ Keep k none W w' := fun W h => mnext_at k 4 s W h (by omega)
  rw [← ha4] at HN4
  replace HN4 := Lib.hid HN4
  have HN5 : ∀ W, Rd k (s.extract (4 * 5) s.size) 0 W → Calls Tryd.prog 33 #[.pointer (some ⟨k, 0, none⟩)] W fun e w' => e = .returned (.int .i64 (atW s 5)) ∧ Rd k (s.extract (4 * 6) s.size) 0 w' ∧ Keep k none W w' := fun W h => mnext_at k 5 s W h (by omega)
  rw [← ha5] at HN5
  replace HN5 := Lib.hid HN5
  have HS6 : ∀ W, Rd k (s.extract (4 * 6) s.size) 0 W → Calls Tryd.prog 42 #[.pointer (some ⟨k, 0, none⟩), .int .i64 2] W fun e w' => e = .returned (.tuple #[]) ∧ Rd k (s.extract (4 * 8) s.size) 0 w' ∧ Keep k none W w' := fun W h => rcskip_at k 6 2 s W h (by omega) (by omega)
  replace HS6 := Lib.hid HS6
  have HN8 : ∀ W, Rd k (s.extract (4 * 8) s.size) 0 W → Calls Tryd.prog 33 #[.pointer (some ⟨k, 0, none⟩)] W fun e w' => e = .returned (.int .i64 (atW s 8)) ∧ Rd k (s.extract (4 * 9) s.size) 0 w' ∧ Keep k none W w' := fun W h => mnext_at k 8 s W h (by omega)
  rw [← ha8] at HN8
  replace HN8 := Lib.hid HN8
  have HG : ∀ W, Rd k (s.extract (4 * 9) s.size) 0 W → Calls Tryd.prog 33 #[.pointer (some ⟨k, 0, none⟩)] W fun e w' => e = .panicked thrown ∧ Keep k none W w' := fun W h => mnext_gone k 9 s W h (by omega)
  replace HG := Lib.hid HG
  clear h1 h2
  clear h hkw hbd ha2 ha3 ha4 ha5 ha8 ha9 ha10 ha11
  go_enter Tryd.func34, Tryd.ntmps34
  go_wp2_with (first
    | (go_at_call 33; with_reducible refine (HN2.out _ A0.out.rd).mono ?_; rintro e w1 ⟨rfl, gx, kx⟩; have A1 := Lib.hid (A0.out.call gx kx); clear gx kx)
    | (go_at_call 33; with_reducible refine (HN3.out _ A1.out.rd).mono ?_; rintro e w2 ⟨rfl, gx, kx⟩; have A2 := Lib.hid (A1.out.call gx kx); clear gx kx)
    | (go_at_call 33; with_reducible refine (HN4.out _ A2.out.rd).mono ?_; rintro e w3 ⟨rfl, gx, kx⟩; have A3 := Lib.hid (A2.out.call gx kx); clear gx kx)
    | (go_at_call 33; with_reducible refine (HN5.out _ A3.out.rd).mono ?_; rintro e w5 ⟨rfl, gx, kx⟩; have A4 := Lib.hid (A3.out.call gx kx); have B5 := Lib.hid (A4.out.born #[.int .i64 x, .bool false, .bool false, .int .i64 a5, .int .i64 0, .int .i64 0, .int .i64 0, .int .i64 0, .int .i64 0, .string ⟨#[]⟩]); clear gx kx)
    | (go_at_call 42; with_reducible refine (HS6.out _ B5.out.rd).mono ?_; rintro e w6 ⟨rfl, gx, kx⟩; have B6 := Lib.hid (B5.out.call gx kx); clear gx kx)
    | (go_at_call 33; with_reducible refine (HN8.out _ B6.out.rd).mono ?_; rintro e w7 ⟨rfl, gx, kx⟩; have B7 := Lib.hid (B6.out.call gx kx); clear gx kx)
    | (go_at_call 33; with_reducible refine (HG.out _ B7.out.rd).mono ?_; rintro e wx ⟨rfl, kx⟩; have KX := Lib.hid (B7.out.keep.trans kx (.inl rfl)); clear kx))
  simp only [bodyPost]
  exact ⟨trivial, trivial, KX.out⟩

set_option maxRecDepth 100000 in
set_option maxHeartbeats 4000000 in
theorem readCall_goneN10 (k : Nat) (s : ByteArray) (x : Int) (w : World) (h : Rd k (s.extract (4 * 2) s.size) 0 w) (h1 : 40 ≤ s.size) (h2 : s.size < 44) (e2 : atW s 2 = 2) (e3 : atW s 3 = 100003) (e4 : atW s 4 = 3) :
    Calls Tryd.prog 34 #[.string s, .int .i64 x, .pointer (some ⟨k, 0, none⟩)] w fun e w' => e = .panicked thrown ∧ Keep k none w w' := by
  obtain ⟨a2, ha2⟩ : ∃ v, v = atW s 2 := ⟨_, rfl⟩
  obtain ⟨a3, ha3⟩ : ∃ v, v = atW s 3 := ⟨_, rfl⟩
  obtain ⟨a4, ha4⟩ : ∃ v, v = atW s 4 := ⟨_, rfl⟩
  obtain ⟨a5, ha5⟩ : ∃ v, v = atW s 5 := ⟨_, rfl⟩
  obtain ⟨a8, ha8⟩ : ∃ v, v = atW s 8 := ⟨_, rfl⟩
  obtain ⟨a9, ha9⟩ : ∃ v, v = atW s 9 := ⟨_, rfl⟩
  obtain ⟨a10, ha10⟩ : ∃ v, v = atW s 10 := ⟨_, rfl⟩
  obtain ⟨a11, ha11⟩ : ∃ v, v = atW s 11 := ⟨_, rfl⟩
  obtain ⟨bd, hbd⟩ : ∃ v, v = restOf s 14 := ⟨_, rfl⟩
  rw [← ha2] at e2
  have d2 : (a2 != 2) = false := by rw [e2]; rfl
  clear e2
  rw [← ha3] at e3
  have d3 : (a3 != 100003) = false := by rw [e3]; rfl
  clear e3
  rw [← ha4] at e4
  have d4 : (a4 != 3) = false := by rw [e4]; rfl
  clear e4
  have hkw : k < w.heap.size := St.lt h
  have A0 := Lib.hid (show RA k w.heap.size 2 s w (w.alloc (.cells #[.int .i64 0, .bool false, .bool false, .int .i64 0, .int .i64 0, .int .i64 0, .int .i64 0, .int .i64 0, .int .i64 0, .string ⟨#[]⟩] 25 (0, 0))) from ⟨St.alloc h _, St.new w 25 mz, (Keep.refl k none w).alloc _, by omega, by omega⟩)
  have HN2 : ∀ W, Rd k (s.extract (4 * 2) s.size) 0 W → Calls Tryd.prog 33 #[.pointer (some ⟨k, 0, none⟩)] W fun e w' => e = .returned (.int .i64 (atW s 2)) ∧ Rd k (s.extract (4 * 3) s.size) 0 w' ∧ Keep k none W w' := fun W h => mnext_at k 2 s W h (by omega)
  rw [← ha2] at HN2
  replace HN2 := Lib.hid HN2
  have HN3 : ∀ W, Rd k (s.extract (4 * 3) s.size) 0 W → Calls Tryd.prog 33 #[.pointer (some ⟨k, 0, none⟩)] W fun e w' => e = .returned (.int .i64 (atW s 3)) ∧ Rd k (s.extract (4 * 4) s.size) 0 w' ∧ Keep k none W w' := fun W h => mnext_at k 3 s W h (by omega)
  rw [← ha3] at HN3
  replace HN3 := Lib.hid HN3
  have HN4 : ∀ W, Rd k (s.extract (4 * 4) s.size) 0 W → Calls Tryd.prog 33 #[.pointer (some ⟨k, 0, none⟩)] W fun e w' => e = .returned (.int .i64 (atW s 4)) ∧ Rd k (s.extract (4 * 5) s.size) 0 w' ∧ Keep k none W w' := fun W h => mnext_at k 4 s W h (by omega)
  rw [← ha4] at HN4
  replace HN4 := Lib.hid HN4
  have HN5 : ∀ W, Rd k (s.extract (4 * 5) s.size) 0 W → Calls Tryd.prog 33 #[.pointer (some ⟨k, 0, none⟩)] W fun e w' => e = .returned (.int .i64 (atW s 5)) ∧ Rd k (s.extract (4 * 6) s.size) 0 w' ∧ Keep k none W w' := fun W h => mnext_at k 5 s W h (by omega)
  rw [← ha5] at HN5
  replace HN5 := Lib.hid HN5
  have HS6 : ∀ W, Rd k (s.extract (4 * 6) s.size) 0 W → Calls Tryd.prog 42 #[.pointer (some ⟨k, 0, none⟩), .int .i64 2] W fun e w' => e = .returned (.tuple #[]) ∧ Rd k (s.extract (4 * 8) s.size) 0 w' ∧ Keep k none W w' := fun W h => rcskip_at k 6 2 s W h (by omega) (by omega)
  replace HS6 := Lib.hid HS6
  have HN8 : ∀ W, Rd k (s.extract (4 * 8) s.size) 0 W → Calls Tryd.prog 33 #[.pointer (some ⟨k, 0, none⟩)] W fun e w' => e = .returned (.int .i64 (atW s 8)) ∧ Rd k (s.extract (4 * 9) s.size) 0 w' ∧ Keep k none W w' := fun W h => mnext_at k 8 s W h (by omega)
  rw [← ha8] at HN8
  replace HN8 := Lib.hid HN8
  have HN9 : ∀ W, Rd k (s.extract (4 * 9) s.size) 0 W → Calls Tryd.prog 33 #[.pointer (some ⟨k, 0, none⟩)] W fun e w' => e = .returned (.int .i64 (atW s 9)) ∧ Rd k (s.extract (4 * 10) s.size) 0 w' ∧ Keep k none W w' := fun W h => mnext_at k 9 s W h (by omega)
  rw [← ha9] at HN9
  replace HN9 := Lib.hid HN9
  have HG : ∀ W, Rd k (s.extract (4 * 10) s.size) 0 W → Calls Tryd.prog 33 #[.pointer (some ⟨k, 0, none⟩)] W fun e w' => e = .panicked thrown ∧ Keep k none W w' := fun W h => mnext_gone k 10 s W h (by omega)
  replace HG := Lib.hid HG
  clear h1 h2
  clear h hkw hbd ha2 ha3 ha4 ha5 ha8 ha9 ha10 ha11
  go_enter Tryd.func34, Tryd.ntmps34
  go_wp2_with (first
    | (go_at_call 33; with_reducible refine (HN2.out _ A0.out.rd).mono ?_; rintro e w1 ⟨rfl, gx, kx⟩; have A1 := Lib.hid (A0.out.call gx kx); clear gx kx)
    | (go_at_call 33; with_reducible refine (HN3.out _ A1.out.rd).mono ?_; rintro e w2 ⟨rfl, gx, kx⟩; have A2 := Lib.hid (A1.out.call gx kx); clear gx kx)
    | (go_at_call 33; with_reducible refine (HN4.out _ A2.out.rd).mono ?_; rintro e w3 ⟨rfl, gx, kx⟩; have A3 := Lib.hid (A2.out.call gx kx); clear gx kx)
    | (go_at_call 33; with_reducible refine (HN5.out _ A3.out.rd).mono ?_; rintro e w5 ⟨rfl, gx, kx⟩; have A4 := Lib.hid (A3.out.call gx kx); have B5 := Lib.hid (A4.out.born #[.int .i64 x, .bool false, .bool false, .int .i64 a5, .int .i64 0, .int .i64 0, .int .i64 0, .int .i64 0, .int .i64 0, .string ⟨#[]⟩]); clear gx kx)
    | (go_at_call 42; with_reducible refine (HS6.out _ B5.out.rd).mono ?_; rintro e w6 ⟨rfl, gx, kx⟩; have B6 := Lib.hid (B5.out.call gx kx); clear gx kx)
    | (go_at_call 33; with_reducible refine (HN8.out _ B6.out.rd).mono ?_; rintro e w7 ⟨rfl, gx, kx⟩; have B7 := Lib.hid (B6.out.call gx kx); clear gx kx)
    | (go_at_call 33; with_reducible refine (HN9.out _ B7.out.rd).mono ?_; rintro e w8 ⟨rfl, gx, kx⟩; have B8 := Lib.hid (B7.out.call gx kx); clear gx kx)
    | (go_at_call 33; with_reducible refine (HG.out _ B8.out.rd).mono ?_; rintro e wx ⟨rfl, kx⟩; have KX := Lib.hid (B8.out.keep.trans kx (.inl rfl)); clear kx))
  simp only [bodyPost]
  exact ⟨trivial, trivial, KX.out⟩

set_option maxRecDepth 100000 in
set_option maxHeartbeats 4000000 in
theorem readCall_goneN11 (k : Nat) (s : ByteArray) (x : Int) (w : World) (h : Rd k (s.extract (4 * 2) s.size) 0 w) (h1 : 44 ≤ s.size) (h2 : s.size < 48) (e2 : atW s 2 = 2) (e3 : atW s 3 = 100003) (e4 : atW s 4 = 3) :
    Calls Tryd.prog 34 #[.string s, .int .i64 x, .pointer (some ⟨k, 0, none⟩)] w fun e w' => e = .panicked thrown ∧ Keep k none w w' := by
  obtain ⟨a2, ha2⟩ : ∃ v, v = atW s 2 := ⟨_, rfl⟩
  obtain ⟨a3, ha3⟩ : ∃ v, v = atW s 3 := ⟨_, rfl⟩
  obtain ⟨a4, ha4⟩ : ∃ v, v = atW s 4 := ⟨_, rfl⟩
  obtain ⟨a5, ha5⟩ : ∃ v, v = atW s 5 := ⟨_, rfl⟩
  obtain ⟨a8, ha8⟩ : ∃ v, v = atW s 8 := ⟨_, rfl⟩
  obtain ⟨a9, ha9⟩ : ∃ v, v = atW s 9 := ⟨_, rfl⟩
  obtain ⟨a10, ha10⟩ : ∃ v, v = atW s 10 := ⟨_, rfl⟩
  obtain ⟨a11, ha11⟩ : ∃ v, v = atW s 11 := ⟨_, rfl⟩
  obtain ⟨bd, hbd⟩ : ∃ v, v = restOf s 14 := ⟨_, rfl⟩
  rw [← ha2] at e2
  have d2 : (a2 != 2) = false := by rw [e2]; rfl
  clear e2
  rw [← ha3] at e3
  have d3 : (a3 != 100003) = false := by rw [e3]; rfl
  clear e3
  rw [← ha4] at e4
  have d4 : (a4 != 3) = false := by rw [e4]; rfl
  clear e4
  have hkw : k < w.heap.size := St.lt h
  have A0 := Lib.hid (show RA k w.heap.size 2 s w (w.alloc (.cells #[.int .i64 0, .bool false, .bool false, .int .i64 0, .int .i64 0, .int .i64 0, .int .i64 0, .int .i64 0, .int .i64 0, .string ⟨#[]⟩] 25 (0, 0))) from ⟨St.alloc h _, St.new w 25 mz, (Keep.refl k none w).alloc _, by omega, by omega⟩)
  have HN2 : ∀ W, Rd k (s.extract (4 * 2) s.size) 0 W → Calls Tryd.prog 33 #[.pointer (some ⟨k, 0, none⟩)] W fun e w' => e = .returned (.int .i64 (atW s 2)) ∧ Rd k (s.extract (4 * 3) s.size) 0 w' ∧ Keep k none W w' := fun W h => mnext_at k 2 s W h (by omega)
  rw [← ha2] at HN2
  replace HN2 := Lib.hid HN2
  have HN3 : ∀ W, Rd k (s.extract (4 * 3) s.size) 0 W → Calls Tryd.prog 33 #[.pointer (some ⟨k, 0, none⟩)] W fun e w' => e = .returned (.int .i64 (atW s 3)) ∧ Rd k (s.extract (4 * 4) s.size) 0 w' ∧ Keep k none W w' := fun W h => mnext_at k 3 s W h (by omega)
  rw [← ha3] at HN3
  replace HN3 := Lib.hid HN3
  have HN4 : ∀ W, Rd k (s.extract (4 * 4) s.size) 0 W → Calls Tryd.prog 33 #[.pointer (some ⟨k, 0, none⟩)] W fun e w' => e = .returned (.int .i64 (atW s 4)) ∧ Rd k (s.extract (4 * 5) s.size) 0 w' ∧ Keep k none W w' := fun W h => mnext_at k 4 s W h (by omega)
  rw [← ha4] at HN4
  replace HN4 := Lib.hid HN4
  have HN5 : ∀ W, Rd k (s.extract (4 * 5) s.size) 0 W → Calls Tryd.prog 33 #[.pointer (some ⟨k, 0, none⟩)] W fun e w' => e = .returned (.int .i64 (atW s 5)) ∧ Rd k (s.extract (4 * 6) s.size) 0 w' ∧ Keep k none W w' := fun W h => mnext_at k 5 s W h (by omega)
  rw [← ha5] at HN5
  replace HN5 := Lib.hid HN5
  have HS6 : ∀ W, Rd k (s.extract (4 * 6) s.size) 0 W → Calls Tryd.prog 42 #[.pointer (some ⟨k, 0, none⟩), .int .i64 2] W fun e w' => e = .returned (.tuple #[]) ∧ Rd k (s.extract (4 * 8) s.size) 0 w' ∧ Keep k none W w' := fun W h => rcskip_at k 6 2 s W h (by omega) (by omega)
  replace HS6 := Lib.hid HS6
  have HN8 : ∀ W, Rd k (s.extract (4 * 8) s.size) 0 W → Calls Tryd.prog 33 #[.pointer (some ⟨k, 0, none⟩)] W fun e w' => e = .returned (.int .i64 (atW s 8)) ∧ Rd k (s.extract (4 * 9) s.size) 0 w' ∧ Keep k none W w' := fun W h => mnext_at k 8 s W h (by omega)
  rw [← ha8] at HN8
  replace HN8 := Lib.hid HN8
  have HN9 : ∀ W, Rd k (s.extract (4 * 9) s.size) 0 W → Calls Tryd.prog 33 #[.pointer (some ⟨k, 0, none⟩)] W fun e w' => e = .returned (.int .i64 (atW s 9)) ∧ Rd k (s.extract (4 * 10) s.size) 0 w' ∧ Keep k none W w' := fun W h => mnext_at k 9 s W h (by omega)
  rw [← ha9] at HN9
  replace HN9 := Lib.hid HN9
  have HN10 : ∀ W, Rd k (s.extract (4 * 10) s.size) 0 W → Calls Tryd.prog 33 #[.pointer (some ⟨k, 0, none⟩)] W fun e w' => e = .returned (.int .i64 (atW s 10)) ∧ Rd k (s.extract (4 * 11) s.size) 0 w' ∧ Keep k none W w' := fun W h => mnext_at k 10 s W h (by omega)
  rw [← ha10] at HN10
  replace HN10 := Lib.hid HN10
  have HG : ∀ W, Rd k (s.extract (4 * 11) s.size) 0 W → Calls Tryd.prog 33 #[.pointer (some ⟨k, 0, none⟩)] W fun e w' => e = .panicked thrown ∧ Keep k none W w' := fun W h => mnext_gone k 11 s W h (by omega)
  replace HG := Lib.hid HG
  clear h1 h2
  clear h hkw hbd ha2 ha3 ha4 ha5 ha8 ha9 ha10 ha11
  go_enter Tryd.func34, Tryd.ntmps34
  go_wp2_with (first
    | (go_at_call 33; with_reducible refine (HN2.out _ A0.out.rd).mono ?_; rintro e w1 ⟨rfl, gx, kx⟩; have A1 := Lib.hid (A0.out.call gx kx); clear gx kx)
    | (go_at_call 33; with_reducible refine (HN3.out _ A1.out.rd).mono ?_; rintro e w2 ⟨rfl, gx, kx⟩; have A2 := Lib.hid (A1.out.call gx kx); clear gx kx)
    | (go_at_call 33; with_reducible refine (HN4.out _ A2.out.rd).mono ?_; rintro e w3 ⟨rfl, gx, kx⟩; have A3 := Lib.hid (A2.out.call gx kx); clear gx kx)
    | (go_at_call 33; with_reducible refine (HN5.out _ A3.out.rd).mono ?_; rintro e w5 ⟨rfl, gx, kx⟩; have A4 := Lib.hid (A3.out.call gx kx); have B5 := Lib.hid (A4.out.born #[.int .i64 x, .bool false, .bool false, .int .i64 a5, .int .i64 0, .int .i64 0, .int .i64 0, .int .i64 0, .int .i64 0, .string ⟨#[]⟩]); clear gx kx)
    | (go_at_call 42; with_reducible refine (HS6.out _ B5.out.rd).mono ?_; rintro e w6 ⟨rfl, gx, kx⟩; have B6 := Lib.hid (B5.out.call gx kx); clear gx kx)
    | (go_at_call 33; with_reducible refine (HN8.out _ B6.out.rd).mono ?_; rintro e w7 ⟨rfl, gx, kx⟩; have B7 := Lib.hid (B6.out.call gx kx); clear gx kx)
    | (go_at_call 33; with_reducible refine (HN9.out _ B7.out.rd).mono ?_; rintro e w8 ⟨rfl, gx, kx⟩; have B8 := Lib.hid (B7.out.call gx kx); clear gx kx)
    | (go_at_call 33; with_reducible refine (HN10.out _ B8.out.rd).mono ?_; rintro e w9 ⟨rfl, gx, kx⟩; have B9 := Lib.hid (B8.out.call gx kx); clear gx kx)
    | (go_at_call 33; with_reducible refine (HG.out _ B9.out.rd).mono ?_; rintro e wx ⟨rfl, kx⟩; have KX := Lib.hid (B9.out.keep.trans kx (.inl rfl)); clear kx))
  simp only [bodyPost]
  exact ⟨trivial, trivial, KX.out⟩

set_option maxRecDepth 100000 in
set_option maxHeartbeats 4000000 in
theorem readCall_goneS12 (k : Nat) (s : ByteArray) (x : Int) (w : World) (h : Rd k (s.extract (4 * 2) s.size) 0 w) (h1 : 48 ≤ s.size) (h2 : s.size < 56) (e2 : atW s 2 = 2) (e3 : atW s 3 = 100003) (e4 : atW s 4 = 3) :
    Calls Tryd.prog 34 #[.string s, .int .i64 x, .pointer (some ⟨k, 0, none⟩)] w fun e w' => e = .panicked thrown ∧ Keep k none w w' := by
  obtain ⟨a2, ha2⟩ : ∃ v, v = atW s 2 := ⟨_, rfl⟩
  obtain ⟨a3, ha3⟩ : ∃ v, v = atW s 3 := ⟨_, rfl⟩
  obtain ⟨a4, ha4⟩ : ∃ v, v = atW s 4 := ⟨_, rfl⟩
  obtain ⟨a5, ha5⟩ : ∃ v, v = atW s 5 := ⟨_, rfl⟩
  obtain ⟨a8, ha8⟩ : ∃ v, v = atW s 8 := ⟨_, rfl⟩
  obtain ⟨a9, ha9⟩ : ∃ v, v = atW s 9 := ⟨_, rfl⟩
  obtain ⟨a10, ha10⟩ : ∃ v, v = atW s 10 := ⟨_, rfl⟩
  obtain ⟨a11, ha11⟩ : ∃ v, v = atW s 11 := ⟨_, rfl⟩
  obtain ⟨bd, hbd⟩ : ∃ v, v = restOf s 14 := ⟨_, rfl⟩
  rw [← ha2] at e2
  have d2 : (a2 != 2) = false := by rw [e2]; rfl
  clear e2
  rw [← ha3] at e3
  have d3 : (a3 != 100003) = false := by rw [e3]; rfl
  clear e3
  rw [← ha4] at e4
  have d4 : (a4 != 3) = false := by rw [e4]; rfl
  clear e4
  have hkw : k < w.heap.size := St.lt h
  have A0 := Lib.hid (show RA k w.heap.size 2 s w (w.alloc (.cells #[.int .i64 0, .bool false, .bool false, .int .i64 0, .int .i64 0, .int .i64 0, .int .i64 0, .int .i64 0, .int .i64 0, .string ⟨#[]⟩] 25 (0, 0))) from ⟨St.alloc h _, St.new w 25 mz, (Keep.refl k none w).alloc _, by omega, by omega⟩)
  have HN2 : ∀ W, Rd k (s.extract (4 * 2) s.size) 0 W → Calls Tryd.prog 33 #[.pointer (some ⟨k, 0, none⟩)] W fun e w' => e = .returned (.int .i64 (atW s 2)) ∧ Rd k (s.extract (4 * 3) s.size) 0 w' ∧ Keep k none W w' := fun W h => mnext_at k 2 s W h (by omega)
  rw [← ha2] at HN2
  replace HN2 := Lib.hid HN2
  have HN3 : ∀ W, Rd k (s.extract (4 * 3) s.size) 0 W → Calls Tryd.prog 33 #[.pointer (some ⟨k, 0, none⟩)] W fun e w' => e = .returned (.int .i64 (atW s 3)) ∧ Rd k (s.extract (4 * 4) s.size) 0 w' ∧ Keep k none W w' := fun W h => mnext_at k 3 s W h (by omega)
  rw [← ha3] at HN3
  replace HN3 := Lib.hid HN3
  have HN4 : ∀ W, Rd k (s.extract (4 * 4) s.size) 0 W → Calls Tryd.prog 33 #[.pointer (some ⟨k, 0, none⟩)] W fun e w' => e = .returned (.int .i64 (atW s 4)) ∧ Rd k (s.extract (4 * 5) s.size) 0 w' ∧ Keep k none W w' := fun W h => mnext_at k 4 s W h (by omega)
  rw [← ha4] at HN4
  replace HN4 := Lib.hid HN4
  have HN5 : ∀ W, Rd k (s.extract (4 * 5) s.size) 0 W → Calls Tryd.prog 33 #[.pointer (some ⟨k, 0, none⟩)] W fun e w' => e = .returned (.int .i64 (atW s 5)) ∧ Rd k (s.extract (4 * 6) s.size) 0 w' ∧ Keep k none W w' := fun W h => mnext_at k 5 s W h (by omega)
  rw [← ha5] at HN5
  replace HN5 := Lib.hid HN5
  have HS6 : ∀ W, Rd k (s.extract (4 * 6) s.size) 0 W → Calls Tryd.prog 42 #[.pointer (some ⟨k, 0, none⟩), .int .i64 2] W fun e w' => e = .returned (.tuple #[]) ∧ Rd k (s.extract (4 * 8) s.size) 0 w' ∧ Keep k none W w' := fun W h => rcskip_at k 6 2 s W h (by omega) (by omega)
  replace HS6 := Lib.hid HS6
  have HN8 : ∀ W, Rd k (s.extract (4 * 8) s.size) 0 W → Calls Tryd.prog 33 #[.pointer (some ⟨k, 0, none⟩)] W fun e w' => e = .returned (.int .i64 (atW s 8)) ∧ Rd k (s.extract (4 * 9) s.size) 0 w' ∧ Keep k none W w' := fun W h => mnext_at k 8 s W h (by omega)
  rw [← ha8] at HN8
  replace HN8 := Lib.hid HN8
  have HN9 : ∀ W, Rd k (s.extract (4 * 9) s.size) 0 W → Calls Tryd.prog 33 #[.pointer (some ⟨k, 0, none⟩)] W fun e w' => e = .returned (.int .i64 (atW s 9)) ∧ Rd k (s.extract (4 * 10) s.size) 0 w' ∧ Keep k none W w' := fun W h => mnext_at k 9 s W h (by omega)
  rw [← ha9] at HN9
  replace HN9 := Lib.hid HN9
  have HN10 : ∀ W, Rd k (s.extract (4 * 10) s.size) 0 W → Calls Tryd.prog 33 #[.pointer (some ⟨k, 0, none⟩)] W fun e w' => e = .returned (.int .i64 (atW s 10)) ∧ Rd k (s.extract (4 * 11) s.size) 0 w' ∧ Keep k none W w' := fun W h => mnext_at k 10 s W h (by omega)
  rw [← ha10] at HN10
  replace HN10 := Lib.hid HN10
  have HN11 : ∀ W, Rd k (s.extract (4 * 11) s.size) 0 W → Calls Tryd.prog 33 #[.pointer (some ⟨k, 0, none⟩)] W fun e w' => e = .returned (.int .i64 (atW s 11)) ∧ Rd k (s.extract (4 * 12) s.size) 0 w' ∧ Keep k none W w' := fun W h => mnext_at k 11 s W h (by omega)
  rw [← ha11] at HN11
  replace HN11 := Lib.hid HN11
  have HG : ∀ W, Rd k (s.extract (4 * 12) s.size) 0 W → Calls Tryd.prog 42 #[.pointer (some ⟨k, 0, none⟩), .int .i64 2] W fun e w' => e = .panicked thrown ∧ Keep k none W w' := fun W h => rcskip_gone k 12 2 s W h (by omega) (by omega) (by omega)
  replace HG := Lib.hid HG
  clear h1 h2
  clear h hkw hbd ha2 ha3 ha4 ha5 ha8 ha9 ha10 ha11
  go_enter Tryd.func34, Tryd.ntmps34
  go_wp2_with (first
    | (go_at_call 33; with_reducible refine (HN2.out _ A0.out.rd).mono ?_; rintro e w1 ⟨rfl, gx, kx⟩; have A1 := Lib.hid (A0.out.call gx kx); clear gx kx)
    | (go_at_call 33; with_reducible refine (HN3.out _ A1.out.rd).mono ?_; rintro e w2 ⟨rfl, gx, kx⟩; have A2 := Lib.hid (A1.out.call gx kx); clear gx kx)
    | (go_at_call 33; with_reducible refine (HN4.out _ A2.out.rd).mono ?_; rintro e w3 ⟨rfl, gx, kx⟩; have A3 := Lib.hid (A2.out.call gx kx); clear gx kx)
    | (go_at_call 33; with_reducible refine (HN5.out _ A3.out.rd).mono ?_; rintro e w5 ⟨rfl, gx, kx⟩; have A4 := Lib.hid (A3.out.call gx kx); have B5 := Lib.hid (A4.out.born #[.int .i64 x, .bool false, .bool false, .int .i64 a5, .int .i64 0, .int .i64 0, .int .i64 0, .int .i64 0, .int .i64 0, .string ⟨#[]⟩]); clear gx kx)
    | (go_at_call 42; with_reducible refine (HS6.out _ B5.out.rd).mono ?_; rintro e w6 ⟨rfl, gx, kx⟩; have B6 := Lib.hid (B5.out.call gx kx); clear gx kx)
    | (go_at_call 33; with_reducible refine (HN8.out _ B6.out.rd).mono ?_; rintro e w7 ⟨rfl, gx, kx⟩; have B7 := Lib.hid (B6.out.call gx kx); clear gx kx)
    | (go_at_call 33; with_reducible refine (HN9.out _ B7.out.rd).mono ?_; rintro e w8 ⟨rfl, gx, kx⟩; have B8 := Lib.hid (B7.out.call gx kx); clear gx kx)
    | (go_at_call 33; with_reducible refine (HN10.out _ B8.out.rd).mono ?_; rintro e w9 ⟨rfl, gx, kx⟩; have B9 := Lib.hid (B8.out.call gx kx); clear gx kx)
    | (go_at_call 33; with_reducible refine (HN11.out _ B9.out.rd).mono ?_; rintro e w10 ⟨rfl, gx, kx⟩; have B10 := Lib.hid (B9.out.call gx kx); clear gx kx)
    | ((with_reducible show wpList _ _ _ ({ dst := _, op := .store 23 (.tmp 42) (.tmp 41), type := _, pos := _, after := _, guard := _ } :: _) _ _); refine wpList_store_credR rfl _ _ rfl B10.out a8 a9 a10 a11 rfl rfl ?_; intro w11 h11; have B11 := Lib.hid h11; clear h11)
    | (go_at_call 42; with_reducible refine (HG.out _ B11.out.rd).mono ?_; rintro e wx ⟨rfl, kx⟩; have KX := Lib.hid (B11.out.keep.trans kx (.inl rfl)); clear kx))
  simp only [bodyPost]
  exact ⟨trivial, trivial, KX.out⟩

set_option maxRecDepth 100000 in
set_option maxHeartbeats 4000000 in
theorem readCall_two (k : Nat) (s : ByteArray) (x : Int) (w : World) (h : Rd k (s.extract (4 * 2) s.size) 0 w) (h1 : 12 ≤ s.size) (f2 : atW s 2 ≠ 2) :
    Calls Tryd.prog 34 #[.string s, .int .i64 x, .pointer (some ⟨k, 0, none⟩)] w fun e w' => e = .returned (.tuple #[.agg mz, .int .i64 14]) ∧ Keep k none w w' := by
  obtain ⟨a2, ha2⟩ : ∃ v, v = atW s 2 := ⟨_, rfl⟩
  obtain ⟨a3, ha3⟩ : ∃ v, v = atW s 3 := ⟨_, rfl⟩
  obtain ⟨a4, ha4⟩ : ∃ v, v = atW s 4 := ⟨_, rfl⟩
  obtain ⟨a5, ha5⟩ : ∃ v, v = atW s 5 := ⟨_, rfl⟩
  obtain ⟨a8, ha8⟩ : ∃ v, v = atW s 8 := ⟨_, rfl⟩
  obtain ⟨a9, ha9⟩ : ∃ v, v = atW s 9 := ⟨_, rfl⟩
  obtain ⟨a10, ha10⟩ : ∃ v, v = atW s 10 := ⟨_, rfl⟩
  obtain ⟨a11, ha11⟩ : ∃ v, v = atW s 11 := ⟨_, rfl⟩
  obtain ⟨bd, hbd⟩ : ∃ v, v = restOf s 14 := ⟨_, rfl⟩
  rw [← ha2] at f2
  have d2 : (a2 != 2) = true := by simpa using f2
  clear f2
  have hkw : k < w.heap.size := St.lt h
  have A0 := Lib.hid (show RA k w.heap.size 2 s w (w.alloc (.cells #[.int .i64 0, .bool false, .bool false, .int .i64 0, .int .i64 0, .int .i64 0, .int .i64 0, .int .i64 0, .int .i64 0, .string ⟨#[]⟩] 25 (0, 0))) from ⟨St.alloc h _, St.new w 25 mz, (Keep.refl k none w).alloc _, by omega, by omega⟩)
  have HN2 : ∀ W, Rd k (s.extract (4 * 2) s.size) 0 W → Calls Tryd.prog 33 #[.pointer (some ⟨k, 0, none⟩)] W fun e w' => e = .returned (.int .i64 (atW s 2)) ∧ Rd k (s.extract (4 * 3) s.size) 0 w' ∧ Keep k none W w' := fun W h => mnext_at k 2 s W h (by omega)
  rw [← ha2] at HN2
  replace HN2 := Lib.hid HN2
  clear h1
  clear h hkw hbd ha2 ha3 ha4 ha5 ha8 ha9 ha10 ha11
  go_enter Tryd.func34, Tryd.ntmps34
  go_wp2_with (first
    | (go_at_call 33; with_reducible refine (HN2.out _ A0.out.rd).mono ?_; rintro e w1 ⟨rfl, gx, kx⟩; have A1 := Lib.hid (A0.out.call gx kx); clear gx kx)
    | ((with_reducible show wpList _ _ _ ({ dst := _, op := .build 25 #[], type := _, pos := _, after := _, guard := _ } :: _) _ _); refine wpList_build_as rfl 25 _ rfl mz (by kernel_rfl) ?_)
    | ((with_reducible show wpList _ _ _ ({ dst := _, op := .store 25 (.tmp 6) (.tmp 12), type := _, pos := _, after := _, guard := _ } :: _) _ _); refine wpList_store_st rfl 25 _ _ rfl w.heap.size mz rfl rfl mz A1.out.res (by kernel_rfl) rfl (by kernel_rfl) ?_; intro wy hy sy; have SY := Lib.hid sy; have KY := Lib.hid (show Keep k none w wy from hy ▸ keep_row A1.out.keep A1.out.ng _); clear hy sy))
  refine ret_cell2 (r := 6) (t := 7) (k := w.heap.size) (T := 25) Tryd.results34 rfl rfl SY.out Tryd.underlying25 rfl (by kernel_rfl) rfl ?_
  exact ⟨rfl, KY.out⟩

set_option maxRecDepth 100000 in
set_option maxHeartbeats 4000000 in
theorem readCall_prog (k : Nat) (s : ByteArray) (x : Int) (w : World) (h : Rd k (s.extract (4 * 2) s.size) 0 w) (h1 : 16 ≤ s.size) (e2 : atW s 2 = 2) (f3 : atW s 3 ≠ 100003) :
    Calls Tryd.prog 34 #[.string s, .int .i64 x, .pointer (some ⟨k, 0, none⟩)] w fun e w' => e = .returned (.tuple #[.agg #[.int .i64 x, .bool false, .bool false, .int .i64 0, .int .i64 0, .int .i64 0, .int .i64 0, .int .i64 0, .int .i64 1, .string ⟨#[]⟩], .int .i64 0]) ∧ Keep k none w w' := by
  obtain ⟨a2, ha2⟩ : ∃ v, v = atW s 2 := ⟨_, rfl⟩
  obtain ⟨a3, ha3⟩ : ∃ v, v = atW s 3 := ⟨_, rfl⟩
  obtain ⟨a4, ha4⟩ : ∃ v, v = atW s 4 := ⟨_, rfl⟩
  obtain ⟨a5, ha5⟩ : ∃ v, v = atW s 5 := ⟨_, rfl⟩
  obtain ⟨a8, ha8⟩ : ∃ v, v = atW s 8 := ⟨_, rfl⟩
  obtain ⟨a9, ha9⟩ : ∃ v, v = atW s 9 := ⟨_, rfl⟩
  obtain ⟨a10, ha10⟩ : ∃ v, v = atW s 10 := ⟨_, rfl⟩
  obtain ⟨a11, ha11⟩ : ∃ v, v = atW s 11 := ⟨_, rfl⟩
  obtain ⟨bd, hbd⟩ : ∃ v, v = restOf s 14 := ⟨_, rfl⟩
  rw [← ha2] at e2
  have d2 : (a2 != 2) = false := by rw [e2]; rfl
  clear e2
  rw [← ha3] at f3
  have d3 : (a3 != 100003) = true := by simpa using f3
  clear f3
  have hkw : k < w.heap.size := St.lt h
  have A0 := Lib.hid (show RA k w.heap.size 2 s w (w.alloc (.cells #[.int .i64 0, .bool false, .bool false, .int .i64 0, .int .i64 0, .int .i64 0, .int .i64 0, .int .i64 0, .int .i64 0, .string ⟨#[]⟩] 25 (0, 0))) from ⟨St.alloc h _, St.new w 25 mz, (Keep.refl k none w).alloc _, by omega, by omega⟩)
  have HN2 : ∀ W, Rd k (s.extract (4 * 2) s.size) 0 W → Calls Tryd.prog 33 #[.pointer (some ⟨k, 0, none⟩)] W fun e w' => e = .returned (.int .i64 (atW s 2)) ∧ Rd k (s.extract (4 * 3) s.size) 0 w' ∧ Keep k none W w' := fun W h => mnext_at k 2 s W h (by omega)
  rw [← ha2] at HN2
  replace HN2 := Lib.hid HN2
  have HN3 : ∀ W, Rd k (s.extract (4 * 3) s.size) 0 W → Calls Tryd.prog 33 #[.pointer (some ⟨k, 0, none⟩)] W fun e w' => e = .returned (.int .i64 (atW s 3)) ∧ Rd k (s.extract (4 * 4) s.size) 0 w' ∧ Keep k none W w' := fun W h => mnext_at k 3 s W h (by omega)
  rw [← ha3] at HN3
  replace HN3 := Lib.hid HN3
  have HJ : ∀ W, Calls Tryd.prog 41 #[.int .i64 x, .int .i64 1] W fun e w' => e = .returned (.tuple #[.agg #[.int .i64 x, .bool false, .bool false, .int .i64 0, .int .i64 0, .int .i64 0, .int .i64 0, .int .i64 0, .int .i64 1, .string ⟨#[]⟩], .int .i64 0]) ∧ Below W.heap.size W w' := fun W => rcrejected_any x 1 W
  replace HJ := Lib.hid HJ
  clear h1
  clear h hkw hbd ha2 ha3 ha4 ha5 ha8 ha9 ha10 ha11
  go_enter Tryd.func34, Tryd.ntmps34
  go_wp2_with (first
    | (go_at_call 33; with_reducible refine (HN2.out _ A0.out.rd).mono ?_; rintro e w1 ⟨rfl, gx, kx⟩; have A1 := Lib.hid (A0.out.call gx kx); clear gx kx)
    | (go_at_call 33; with_reducible refine (HN3.out _ A1.out.rd).mono ?_; rintro e w2 ⟨rfl, gx, kx⟩; have A2 := Lib.hid (A1.out.call gx kx); clear gx kx)
    | (go_at_call 41; with_reducible refine (HJ.out _).mono ?_; rintro e wj ⟨rfl, bj⟩; have RJ := Lib.hid (A2.out.below bj); clear bj)
    | ((with_reducible show wpList _ _ _ ({ dst := _, op := .store 25 (.tmp 6) (.tmp 18), type := _, pos := _, after := _, guard := _ } :: _) _ _); refine wpList_store_st rfl 25 _ _ rfl w.heap.size #[.int .i64 x, .bool false, .bool false, .int .i64 0, .int .i64 0, .int .i64 0, .int .i64 0, .int .i64 0, .int .i64 1, .string ⟨#[]⟩] rfl rfl mz RJ.out.res (by kernel_rfl) rfl (by kernel_rfl) ?_; intro wy hy sy; have SY := Lib.hid sy; have KY := Lib.hid (show Keep k none w wy from hy ▸ keep_row RJ.out.keep RJ.out.ng _); clear hy sy))
  refine ret_cell2 (r := 6) (t := 7) (k := w.heap.size) (T := 25) Tryd.results34 rfl rfl SY.out Tryd.underlying25 rfl (by kernel_rfl) rfl ?_
  exact ⟨rfl, KY.out⟩

set_option maxRecDepth 100000 in
set_option maxHeartbeats 4000000 in
theorem readCall_vers (k : Nat) (s : ByteArray) (x : Int) (w : World) (h : Rd k (s.extract (4 * 2) s.size) 0 w) (h1 : 20 ≤ s.size) (e2 : atW s 2 = 2) (e3 : atW s 3 = 100003) (f4 : atW s 4 ≠ 3) :
    Calls Tryd.prog 34 #[.string s, .int .i64 x, .pointer (some ⟨k, 0, none⟩)] w fun e w' => e = .returned (.tuple #[.agg #[.int .i64 x, .bool false, .bool false, .int .i64 0, .int .i64 0, .int .i64 0, .int .i64 0, .int .i64 0, .int .i64 2, .string ⟨#[]⟩], .int .i64 0]) ∧ Keep k none w w' := by
  obtain ⟨a2, ha2⟩ : ∃ v, v = atW s 2 := ⟨_, rfl⟩
  obtain ⟨a3, ha3⟩ : ∃ v, v = atW s 3 := ⟨_, rfl⟩
  obtain ⟨a4, ha4⟩ : ∃ v, v = atW s 4 := ⟨_, rfl⟩
  obtain ⟨a5, ha5⟩ : ∃ v, v = atW s 5 := ⟨_, rfl⟩
  obtain ⟨a8, ha8⟩ : ∃ v, v = atW s 8 := ⟨_, rfl⟩
  obtain ⟨a9, ha9⟩ : ∃ v, v = atW s 9 := ⟨_, rfl⟩
  obtain ⟨a10, ha10⟩ : ∃ v, v = atW s 10 := ⟨_, rfl⟩
  obtain ⟨a11, ha11⟩ : ∃ v, v = atW s 11 := ⟨_, rfl⟩
  obtain ⟨bd, hbd⟩ : ∃ v, v = restOf s 14 := ⟨_, rfl⟩
  rw [← ha2] at e2
  have d2 : (a2 != 2) = false := by rw [e2]; rfl
  clear e2
  rw [← ha3] at e3
  have d3 : (a3 != 100003) = false := by rw [e3]; rfl
  clear e3
  rw [← ha4] at f4
  have d4 : (a4 != 3) = true := by simpa using f4
  clear f4
  have hkw : k < w.heap.size := St.lt h
  have A0 := Lib.hid (show RA k w.heap.size 2 s w (w.alloc (.cells #[.int .i64 0, .bool false, .bool false, .int .i64 0, .int .i64 0, .int .i64 0, .int .i64 0, .int .i64 0, .int .i64 0, .string ⟨#[]⟩] 25 (0, 0))) from ⟨St.alloc h _, St.new w 25 mz, (Keep.refl k none w).alloc _, by omega, by omega⟩)
  have HN2 : ∀ W, Rd k (s.extract (4 * 2) s.size) 0 W → Calls Tryd.prog 33 #[.pointer (some ⟨k, 0, none⟩)] W fun e w' => e = .returned (.int .i64 (atW s 2)) ∧ Rd k (s.extract (4 * 3) s.size) 0 w' ∧ Keep k none W w' := fun W h => mnext_at k 2 s W h (by omega)
  rw [← ha2] at HN2
  replace HN2 := Lib.hid HN2
  have HN3 : ∀ W, Rd k (s.extract (4 * 3) s.size) 0 W → Calls Tryd.prog 33 #[.pointer (some ⟨k, 0, none⟩)] W fun e w' => e = .returned (.int .i64 (atW s 3)) ∧ Rd k (s.extract (4 * 4) s.size) 0 w' ∧ Keep k none W w' := fun W h => mnext_at k 3 s W h (by omega)
  rw [← ha3] at HN3
  replace HN3 := Lib.hid HN3
  have HN4 : ∀ W, Rd k (s.extract (4 * 4) s.size) 0 W → Calls Tryd.prog 33 #[.pointer (some ⟨k, 0, none⟩)] W fun e w' => e = .returned (.int .i64 (atW s 4)) ∧ Rd k (s.extract (4 * 5) s.size) 0 w' ∧ Keep k none W w' := fun W h => mnext_at k 4 s W h (by omega)
  rw [← ha4] at HN4
  replace HN4 := Lib.hid HN4
  have HJ : ∀ W, Calls Tryd.prog 41 #[.int .i64 x, .int .i64 2] W fun e w' => e = .returned (.tuple #[.agg #[.int .i64 x, .bool false, .bool false, .int .i64 0, .int .i64 0, .int .i64 0, .int .i64 0, .int .i64 0, .int .i64 2, .string ⟨#[]⟩], .int .i64 0]) ∧ Below W.heap.size W w' := fun W => rcrejected_any x 2 W
  replace HJ := Lib.hid HJ
  clear h1
  clear h hkw hbd ha2 ha3 ha4 ha5 ha8 ha9 ha10 ha11
  go_enter Tryd.func34, Tryd.ntmps34
  go_wp2_with (first
    | (go_at_call 33; with_reducible refine (HN2.out _ A0.out.rd).mono ?_; rintro e w1 ⟨rfl, gx, kx⟩; have A1 := Lib.hid (A0.out.call gx kx); clear gx kx)
    | (go_at_call 33; with_reducible refine (HN3.out _ A1.out.rd).mono ?_; rintro e w2 ⟨rfl, gx, kx⟩; have A2 := Lib.hid (A1.out.call gx kx); clear gx kx)
    | (go_at_call 33; with_reducible refine (HN4.out _ A2.out.rd).mono ?_; rintro e w3 ⟨rfl, gx, kx⟩; have A3 := Lib.hid (A2.out.call gx kx); clear gx kx)
    | (go_at_call 41; with_reducible refine (HJ.out _).mono ?_; rintro e wj ⟨rfl, bj⟩; have RJ := Lib.hid (A3.out.below bj); clear bj)
    | ((with_reducible show wpList _ _ _ ({ dst := _, op := .store 25 (.tmp 6) (.tmp 25), type := _, pos := _, after := _, guard := _ } :: _) _ _); refine wpList_store_st rfl 25 _ _ rfl w.heap.size #[.int .i64 x, .bool false, .bool false, .int .i64 0, .int .i64 0, .int .i64 0, .int .i64 0, .int .i64 0, .int .i64 2, .string ⟨#[]⟩] rfl rfl mz RJ.out.res (by kernel_rfl) rfl (by kernel_rfl) ?_; intro wy hy sy; have SY := Lib.hid sy; have KY := Lib.hid (show Keep k none w wy from hy ▸ keep_row RJ.out.keep RJ.out.ng _); clear hy sy))
  refine ret_cell2 (r := 6) (t := 7) (k := w.heap.size) (T := 25) Tryd.results34 rfl rfl SY.out Tryd.underlying25 rfl (by kernel_rfl) rfl ?_
  exact ⟨rfl, KY.out⟩

/-- The call that bytes seem to be. -/
def seemC (s : ByteArray) (x : Int) : Mg := ⟨x, false, false, atW s 5, atW s 8, atW s 9, atW s 10, atW s 11, 0, restOf s 14⟩

set_option maxRecDepth 100000 in
set_option maxHeartbeats 4000000 in
theorem readCall_proc (k : Nat) (s : ByteArray) (x : Int) (w : World) (h : Rd k (s.extract (4 * 2) s.size) 0 w) (hz : s.size ≤ 2048) (h1 : 56 ≤ s.size) (e2 : atW s 2 = 2) (e3 : atW s 3 = 100003) (e4 : atW s 4 = 3) (fp : okProc (atW s 5) = false) :
    Calls Tryd.prog 34 #[.string s, .int .i64 x, .pointer (some ⟨k, 0, none⟩)] w fun e w' => e = .returned (.tuple #[.agg #[.int .i64 x, .bool false, .bool false, .int .i64 0, .int .i64 0, .int .i64 0, .int .i64 0, .int .i64 0, .int .i64 3, .string ⟨#[]⟩], .int .i64 0]) ∧ Keep k none w w' := by
  obtain ⟨a2, ha2⟩ : ∃ v, v = atW s 2 := ⟨_, rfl⟩
  obtain ⟨a3, ha3⟩ : ∃ v, v = atW s 3 := ⟨_, rfl⟩
  obtain ⟨a4, ha4⟩ : ∃ v, v = atW s 4 := ⟨_, rfl⟩
  obtain ⟨a5, ha5⟩ : ∃ v, v = atW s 5 := ⟨_, rfl⟩
  obtain ⟨a8, ha8⟩ : ∃ v, v = atW s 8 := ⟨_, rfl⟩
  obtain ⟨a9, ha9⟩ : ∃ v, v = atW s 9 := ⟨_, rfl⟩
  obtain ⟨a10, ha10⟩ : ∃ v, v = atW s 10 := ⟨_, rfl⟩
  obtain ⟨a11, ha11⟩ : ∃ v, v = atW s 11 := ⟨_, rfl⟩
  obtain ⟨bd, hbd⟩ : ∃ v, v = restOf s 14 := ⟨_, rfl⟩
  rw [← ha2] at e2
  have d2 : (a2 != 2) = false := by rw [e2]; rfl
  clear e2
  rw [← ha3] at e3
  have d3 : (a3 != 100003) = false := by rw [e3]; rfl
  clear e3
  rw [← ha4] at e4
  have d4 : (a4 != 3) = false := by rw [e4]; rfl
  clear e4
  have hkw : k < w.heap.size := St.lt h
  have A0 := Lib.hid (show RA k w.heap.size 2 s w (w.alloc (.cells #[.int .i64 0, .bool false, .bool false, .int .i64 0, .int .i64 0, .int .i64 0, .int .i64 0, .int .i64 0, .int .i64 0, .string ⟨#[]⟩] 25 (0, 0))) from ⟨St.alloc h _, St.new w 25 mz, (Keep.refl k none w).alloc _, by omega, by omega⟩)
  have HN2 : ∀ W, Rd k (s.extract (4 * 2) s.size) 0 W → Calls Tryd.prog 33 #[.pointer (some ⟨k, 0, none⟩)] W fun e w' => e = .returned (.int .i64 (atW s 2)) ∧ Rd k (s.extract (4 * 3) s.size) 0 w' ∧ Keep k none W w' := fun W h => mnext_at k 2 s W h (by omega)
  rw [← ha2] at HN2
  replace HN2 := Lib.hid HN2
  have HN3 : ∀ W, Rd k (s.extract (4 * 3) s.size) 0 W → Calls Tryd.prog 33 #[.pointer (some ⟨k, 0, none⟩)] W fun e w' => e = .returned (.int .i64 (atW s 3)) ∧ Rd k (s.extract (4 * 4) s.size) 0 w' ∧ Keep k none W w' := fun W h => mnext_at k 3 s W h (by omega)
  rw [← ha3] at HN3
  replace HN3 := Lib.hid HN3
  have HN4 : ∀ W, Rd k (s.extract (4 * 4) s.size) 0 W → Calls Tryd.prog 33 #[.pointer (some ⟨k, 0, none⟩)] W fun e w' => e = .returned (.int .i64 (atW s 4)) ∧ Rd k (s.extract (4 * 5) s.size) 0 w' ∧ Keep k none W w' := fun W h => mnext_at k 4 s W h (by omega)
  rw [← ha4] at HN4
  replace HN4 := Lib.hid HN4
  have HN5 : ∀ W, Rd k (s.extract (4 * 5) s.size) 0 W → Calls Tryd.prog 33 #[.pointer (some ⟨k, 0, none⟩)] W fun e w' => e = .returned (.int .i64 (atW s 5)) ∧ Rd k (s.extract (4 * 6) s.size) 0 w' ∧ Keep k none W w' := fun W h => mnext_at k 5 s W h (by omega)
  rw [← ha5] at HN5
  replace HN5 := Lib.hid HN5
  have HS6 : ∀ W, Rd k (s.extract (4 * 6) s.size) 0 W → Calls Tryd.prog 42 #[.pointer (some ⟨k, 0, none⟩), .int .i64 2] W fun e w' => e = .returned (.tuple #[]) ∧ Rd k (s.extract (4 * 8) s.size) 0 w' ∧ Keep k none W w' := fun W h => rcskip_at k 6 2 s W h (by omega) (by omega)
  replace HS6 := Lib.hid HS6
  have HN8 : ∀ W, Rd k (s.extract (4 * 8) s.size) 0 W → Calls Tryd.prog 33 #[.pointer (some ⟨k, 0, none⟩)] W fun e w' => e = .returned (.int .i64 (atW s 8)) ∧ Rd k (s.extract (4 * 9) s.size) 0 w' ∧ Keep k none W w' := fun W h => mnext_at k 8 s W h (by omega)
  rw [← ha8] at HN8
  replace HN8 := Lib.hid HN8
  have HN9 : ∀ W, Rd k (s.extract (4 * 9) s.size) 0 W → Calls Tryd.prog 33 #[.pointer (some ⟨k, 0, none⟩)] W fun e w' => e = .returned (.int .i64 (atW s 9)) ∧ Rd k (s.extract (4 * 10) s.size) 0 w' ∧ Keep k none W w' := fun W h => mnext_at k 9 s W h (by omega)
  rw [← ha9] at HN9
  replace HN9 := Lib.hid HN9
  have HN10 : ∀ W, Rd k (s.extract (4 * 10) s.size) 0 W → Calls Tryd.prog 33 #[.pointer (some ⟨k, 0, none⟩)] W fun e w' => e = .returned (.int .i64 (atW s 10)) ∧ Rd k (s.extract (4 * 11) s.size) 0 w' ∧ Keep k none W w' := fun W h => mnext_at k 10 s W h (by omega)
  rw [← ha10] at HN10
  replace HN10 := Lib.hid HN10
  have HN11 : ∀ W, Rd k (s.extract (4 * 11) s.size) 0 W → Calls Tryd.prog 33 #[.pointer (some ⟨k, 0, none⟩)] W fun e w' => e = .returned (.int .i64 (atW s 11)) ∧ Rd k (s.extract (4 * 12) s.size) 0 w' ∧ Keep k none W w' := fun W h => mnext_at k 11 s W h (by omega)
  rw [← ha11] at HN11
  replace HN11 := Lib.hid HN11
  have HS12 : ∀ W, Rd k (s.extract (4 * 12) s.size) 0 W → Calls Tryd.prog 42 #[.pointer (some ⟨k, 0, none⟩), .int .i64 2] W fun e w' => e = .returned (.tuple #[]) ∧ Rd k (s.extract (4 * 14) s.size) 0 w' ∧ Keep k none W w' := fun W h => rcskip_at k 12 2 s W h (by omega) (by omega)
  replace HS12 := Lib.hid HS12
  have HRE := fun W (h : Rd k (s.extract (4 * 14) s.size) 0 W) => rcrest_at k 14 s W hz h (by omega)
  rw [← hbd] at HRE
  replace HRE := Lib.hid HRE
  have HJ : ∀ W, Calls Tryd.prog 41 #[.int .i64 x, .int .i64 3] W fun e w' => e = .returned (.tuple #[.agg #[.int .i64 x, .bool false, .bool false, .int .i64 0, .int .i64 0, .int .i64 0, .int .i64 0, .int .i64 0, .int .i64 3, .string ⟨#[]⟩], .int .i64 0]) ∧ Below W.heap.size W w' := fun W => rcrejected_any x 3 W
  replace HJ := Lib.hid HJ
  have HE := fun W => rcexists_any a5 W
  rw [← ha5] at fp
  rw [fp] at HE
  replace HE := Lib.hid HE
  clear h1 hz
  clear h hkw hbd ha2 ha3 ha4 ha5 ha8 ha9 ha10 ha11
  go_enter Tryd.func34, Tryd.ntmps34
  go_wp2_with (first
    | (go_at_call 33; with_reducible refine (HN2.out _ A0.out.rd).mono ?_; rintro e w1 ⟨rfl, gx, kx⟩; have A1 := Lib.hid (A0.out.call gx kx); clear gx kx)
    | (go_at_call 33; with_reducible refine (HN3.out _ A1.out.rd).mono ?_; rintro e w2 ⟨rfl, gx, kx⟩; have A2 := Lib.hid (A1.out.call gx kx); clear gx kx)
    | (go_at_call 33; with_reducible refine (HN4.out _ A2.out.rd).mono ?_; rintro e w3 ⟨rfl, gx, kx⟩; have A3 := Lib.hid (A2.out.call gx kx); clear gx kx)
    | (go_at_call 33; with_reducible refine (HN5.out _ A3.out.rd).mono ?_; rintro e w5 ⟨rfl, gx, kx⟩; have A4 := Lib.hid (A3.out.call gx kx); have B5 := Lib.hid (A4.out.born #[.int .i64 x, .bool false, .bool false, .int .i64 a5, .int .i64 0, .int .i64 0, .int .i64 0, .int .i64 0, .int .i64 0, .string ⟨#[]⟩]); clear gx kx)
    | (go_at_call 42; with_reducible refine (HS6.out _ B5.out.rd).mono ?_; rintro e w6 ⟨rfl, gx, kx⟩; have B6 := Lib.hid (B5.out.call gx kx); clear gx kx)
    | (go_at_call 33; with_reducible refine (HN8.out _ B6.out.rd).mono ?_; rintro e w7 ⟨rfl, gx, kx⟩; have B7 := Lib.hid (B6.out.call gx kx); clear gx kx)
    | (go_at_call 33; with_reducible refine (HN9.out _ B7.out.rd).mono ?_; rintro e w8 ⟨rfl, gx, kx⟩; have B8 := Lib.hid (B7.out.call gx kx); clear gx kx)
    | (go_at_call 33; with_reducible refine (HN10.out _ B8.out.rd).mono ?_; rintro e w9 ⟨rfl, gx, kx⟩; have B9 := Lib.hid (B8.out.call gx kx); clear gx kx)
    | (go_at_call 33; with_reducible refine (HN11.out _ B9.out.rd).mono ?_; rintro e w10 ⟨rfl, gx, kx⟩; have B10 := Lib.hid (B9.out.call gx kx); clear gx kx)
    | (go_at_call 42; with_reducible refine (HS12.out _ B11.out.rd).mono ?_; rintro e w12 ⟨rfl, gx, kx⟩; have B12 := Lib.hid (B11.out.call gx kx); clear gx kx)
    | (go_at_call 43; with_reducible refine (HRE.out _ B12.out.rd).mono ?_; rintro e w13 ⟨rfl, kx⟩; have Q := B12.out.done kx; have cx := Q.msg.cell (j := 9) (v := .string ⟨#[]⟩) rfl; have fx := Q.msg.free 9; have T13 := Lib.hid (Q.put9 (.string bd)); have cp := T13.out.at3; clear kx Q)
    | ((with_reducible show wpList _ _ _ ({ dst := _, op := .store 23 (.tmp 42) (.tmp 41), type := _, pos := _, after := _, guard := _ } :: _) _ _); refine wpList_store_credR rfl _ _ rfl B10.out a8 a9 a10 a11 rfl rfl ?_; intro w11 h11; have B11 := Lib.hid h11; clear h11)
    | (go_at_call 30; with_reducible refine (HE.out _).mono ?_; rintro e we ⟨rfl, rfl⟩)
    | (go_at_call 41; with_reducible refine (HJ.out _).mono ?_; rintro e wj ⟨rfl, bj⟩; have RJ := Lib.hid (T13.out.below bj); clear bj)
    | ((with_reducible show wpList _ _ _ ({ dst := _, op := .store 25 (.tmp 6) (.tmp 54), type := _, pos := _, after := _, guard := _ } :: _) _ _); refine wpList_store_st rfl 25 _ _ rfl w.heap.size #[.int .i64 x, .bool false, .bool false, .int .i64 0, .int .i64 0, .int .i64 0, .int .i64 0, .int .i64 0, .int .i64 3, .string ⟨#[]⟩] rfl rfl mz RJ.out.res (by kernel_rfl) rfl (by kernel_rfl) ?_; intro wy hy sy; have SY := Lib.hid sy; have KY := Lib.hid (show Keep k none w wy from hy ▸ keep_row RJ.out.keep RJ.out.ng _); clear hy sy))
  refine ret_cell2 (r := 6) (t := 7) (k := w.heap.size) (T := 25) Tryd.results34 rfl rfl SY.out Tryd.underlying25 rfl (by kernel_rfl) rfl ?_
  exact ⟨rfl, KY.out⟩

set_option maxRecDepth 100000 in
set_option maxHeartbeats 4000000 in
theorem readCall_true (k : Nat) (s : ByteArray) (x : Int) (w : World) (h : Rd k (s.extract (4 * 2) s.size) 0 w) (hz : s.size ≤ 2048) (h1 : 56 ≤ s.size) (e2 : atW s 2 = 2) (e3 : atW s 3 = 100003) (e4 : atW s 4 = 3) (fp : okProc (atW s 5) = true) (hb : hasB (seemC s x) s = true) :
    Calls Tryd.prog 34 #[.string s, .int .i64 x, .pointer (some ⟨k, 0, none⟩)] w fun e w' => e = .returned (.tuple #[.agg (seemC s x).arr, .int .i64 0]) ∧ Keep k none w w' := by
  have HB := fun W => rchasBytes_any (seemC s x) s W (Nat.le_trans (restOf_le s 14) (by omega))
  rw [hb] at HB
  dsimp only [seemC, Mg.arr] at HB ⊢
  obtain ⟨a2, ha2⟩ : ∃ v, v = atW s 2 := ⟨_, rfl⟩
  obtain ⟨a3, ha3⟩ : ∃ v, v = atW s 3 := ⟨_, rfl⟩
  obtain ⟨a4, ha4⟩ : ∃ v, v = atW s 4 := ⟨_, rfl⟩
  obtain ⟨a5, ha5⟩ : ∃ v, v = atW s 5 := ⟨_, rfl⟩
  obtain ⟨a8, ha8⟩ : ∃ v, v = atW s 8 := ⟨_, rfl⟩
  obtain ⟨a9, ha9⟩ : ∃ v, v = atW s 9 := ⟨_, rfl⟩
  obtain ⟨a10, ha10⟩ : ∃ v, v = atW s 10 := ⟨_, rfl⟩
  obtain ⟨a11, ha11⟩ : ∃ v, v = atW s 11 := ⟨_, rfl⟩
  obtain ⟨bd, hbd⟩ : ∃ v, v = restOf s 14 := ⟨_, rfl⟩
  rw [← ha2] at e2
  have d2 : (a2 != 2) = false := by rw [e2]; rfl
  clear e2
  rw [← ha3] at e3
  have d3 : (a3 != 100003) = false := by rw [e3]; rfl
  clear e3
  rw [← ha4] at e4
  have d4 : (a4 != 3) = false := by rw [e4]; rfl
  clear e4
  have hkw : k < w.heap.size := St.lt h
  have A0 := Lib.hid (show RA k w.heap.size 2 s w (w.alloc (.cells #[.int .i64 0, .bool false, .bool false, .int .i64 0, .int .i64 0, .int .i64 0, .int .i64 0, .int .i64 0, .int .i64 0, .string ⟨#[]⟩] 25 (0, 0))) from ⟨St.alloc h _, St.new w 25 mz, (Keep.refl k none w).alloc _, by omega, by omega⟩)
  have HN2 : ∀ W, Rd k (s.extract (4 * 2) s.size) 0 W → Calls Tryd.prog 33 #[.pointer (some ⟨k, 0, none⟩)] W fun e w' => e = .returned (.int .i64 (atW s 2)) ∧ Rd k (s.extract (4 * 3) s.size) 0 w' ∧ Keep k none W w' := fun W h => mnext_at k 2 s W h (by omega)
  rw [← ha2] at HN2
  replace HN2 := Lib.hid HN2
  have HN3 : ∀ W, Rd k (s.extract (4 * 3) s.size) 0 W → Calls Tryd.prog 33 #[.pointer (some ⟨k, 0, none⟩)] W fun e w' => e = .returned (.int .i64 (atW s 3)) ∧ Rd k (s.extract (4 * 4) s.size) 0 w' ∧ Keep k none W w' := fun W h => mnext_at k 3 s W h (by omega)
  rw [← ha3] at HN3
  replace HN3 := Lib.hid HN3
  have HN4 : ∀ W, Rd k (s.extract (4 * 4) s.size) 0 W → Calls Tryd.prog 33 #[.pointer (some ⟨k, 0, none⟩)] W fun e w' => e = .returned (.int .i64 (atW s 4)) ∧ Rd k (s.extract (4 * 5) s.size) 0 w' ∧ Keep k none W w' := fun W h => mnext_at k 4 s W h (by omega)
  rw [← ha4] at HN4
  replace HN4 := Lib.hid HN4
  have HN5 : ∀ W, Rd k (s.extract (4 * 5) s.size) 0 W → Calls Tryd.prog 33 #[.pointer (some ⟨k, 0, none⟩)] W fun e w' => e = .returned (.int .i64 (atW s 5)) ∧ Rd k (s.extract (4 * 6) s.size) 0 w' ∧ Keep k none W w' := fun W h => mnext_at k 5 s W h (by omega)
  rw [← ha5] at HN5
  replace HN5 := Lib.hid HN5
  have HS6 : ∀ W, Rd k (s.extract (4 * 6) s.size) 0 W → Calls Tryd.prog 42 #[.pointer (some ⟨k, 0, none⟩), .int .i64 2] W fun e w' => e = .returned (.tuple #[]) ∧ Rd k (s.extract (4 * 8) s.size) 0 w' ∧ Keep k none W w' := fun W h => rcskip_at k 6 2 s W h (by omega) (by omega)
  replace HS6 := Lib.hid HS6
  have HN8 : ∀ W, Rd k (s.extract (4 * 8) s.size) 0 W → Calls Tryd.prog 33 #[.pointer (some ⟨k, 0, none⟩)] W fun e w' => e = .returned (.int .i64 (atW s 8)) ∧ Rd k (s.extract (4 * 9) s.size) 0 w' ∧ Keep k none W w' := fun W h => mnext_at k 8 s W h (by omega)
  rw [← ha8] at HN8
  replace HN8 := Lib.hid HN8
  have HN9 : ∀ W, Rd k (s.extract (4 * 9) s.size) 0 W → Calls Tryd.prog 33 #[.pointer (some ⟨k, 0, none⟩)] W fun e w' => e = .returned (.int .i64 (atW s 9)) ∧ Rd k (s.extract (4 * 10) s.size) 0 w' ∧ Keep k none W w' := fun W h => mnext_at k 9 s W h (by omega)
  rw [← ha9] at HN9
  replace HN9 := Lib.hid HN9
  have HN10 : ∀ W, Rd k (s.extract (4 * 10) s.size) 0 W → Calls Tryd.prog 33 #[.pointer (some ⟨k, 0, none⟩)] W fun e w' => e = .returned (.int .i64 (atW s 10)) ∧ Rd k (s.extract (4 * 11) s.size) 0 w' ∧ Keep k none W w' := fun W h => mnext_at k 10 s W h (by omega)
  rw [← ha10] at HN10
  replace HN10 := Lib.hid HN10
  have HN11 : ∀ W, Rd k (s.extract (4 * 11) s.size) 0 W → Calls Tryd.prog 33 #[.pointer (some ⟨k, 0, none⟩)] W fun e w' => e = .returned (.int .i64 (atW s 11)) ∧ Rd k (s.extract (4 * 12) s.size) 0 w' ∧ Keep k none W w' := fun W h => mnext_at k 11 s W h (by omega)
  rw [← ha11] at HN11
  replace HN11 := Lib.hid HN11
  have HS12 : ∀ W, Rd k (s.extract (4 * 12) s.size) 0 W → Calls Tryd.prog 42 #[.pointer (some ⟨k, 0, none⟩), .int .i64 2] W fun e w' => e = .returned (.tuple #[]) ∧ Rd k (s.extract (4 * 14) s.size) 0 w' ∧ Keep k none W w' := fun W h => rcskip_at k 12 2 s W h (by omega) (by omega)
  replace HS12 := Lib.hid HS12
  have HRE := fun W (h : Rd k (s.extract (4 * 14) s.size) 0 W) => rcrest_at k 14 s W hz h (by omega)
  rw [← hbd] at HRE
  replace HRE := Lib.hid HRE
  have HE := fun W => rcexists_any a5 W
  rw [← ha5] at fp
  rw [fp] at HE
  replace HE := Lib.hid HE
  rw [← ha5, ← ha8, ← ha9, ← ha10, ← ha11, ← hbd] at HB ⊢
  replace HB := Lib.hid HB
  clear h1 hz hb
  clear h hkw hbd ha2 ha3 ha4 ha5 ha8 ha9 ha10 ha11
  go_enter Tryd.func34, Tryd.ntmps34
  go_wp2_with (first
    | (go_at_call 33; with_reducible refine (HN2.out _ A0.out.rd).mono ?_; rintro e w1 ⟨rfl, gx, kx⟩; have A1 := Lib.hid (A0.out.call gx kx); clear gx kx)
    | (go_at_call 33; with_reducible refine (HN3.out _ A1.out.rd).mono ?_; rintro e w2 ⟨rfl, gx, kx⟩; have A2 := Lib.hid (A1.out.call gx kx); clear gx kx)
    | (go_at_call 33; with_reducible refine (HN4.out _ A2.out.rd).mono ?_; rintro e w3 ⟨rfl, gx, kx⟩; have A3 := Lib.hid (A2.out.call gx kx); clear gx kx)
    | (go_at_call 33; with_reducible refine (HN5.out _ A3.out.rd).mono ?_; rintro e w5 ⟨rfl, gx, kx⟩; have A4 := Lib.hid (A3.out.call gx kx); have B5 := Lib.hid (A4.out.born #[.int .i64 x, .bool false, .bool false, .int .i64 a5, .int .i64 0, .int .i64 0, .int .i64 0, .int .i64 0, .int .i64 0, .string ⟨#[]⟩]); clear gx kx)
    | (go_at_call 42; with_reducible refine (HS6.out _ B5.out.rd).mono ?_; rintro e w6 ⟨rfl, gx, kx⟩; have B6 := Lib.hid (B5.out.call gx kx); clear gx kx)
    | (go_at_call 33; with_reducible refine (HN8.out _ B6.out.rd).mono ?_; rintro e w7 ⟨rfl, gx, kx⟩; have B7 := Lib.hid (B6.out.call gx kx); clear gx kx)
    | (go_at_call 33; with_reducible refine (HN9.out _ B7.out.rd).mono ?_; rintro e w8 ⟨rfl, gx, kx⟩; have B8 := Lib.hid (B7.out.call gx kx); clear gx kx)
    | (go_at_call 33; with_reducible refine (HN10.out _ B8.out.rd).mono ?_; rintro e w9 ⟨rfl, gx, kx⟩; have B9 := Lib.hid (B8.out.call gx kx); clear gx kx)
    | (go_at_call 33; with_reducible refine (HN11.out _ B9.out.rd).mono ?_; rintro e w10 ⟨rfl, gx, kx⟩; have B10 := Lib.hid (B9.out.call gx kx); clear gx kx)
    | (go_at_call 42; with_reducible refine (HS12.out _ B11.out.rd).mono ?_; rintro e w12 ⟨rfl, gx, kx⟩; have B12 := Lib.hid (B11.out.call gx kx); clear gx kx)
    | (go_at_call 43; with_reducible refine (HRE.out _ B12.out.rd).mono ?_; rintro e w13 ⟨rfl, kx⟩; have Q := B12.out.done kx; have cx := Q.msg.cell (j := 9) (v := .string ⟨#[]⟩) rfl; have fx := Q.msg.free 9; have T13 := Lib.hid (Q.put9 (.string bd)); have cp := T13.out.at3; clear kx Q)
    | ((with_reducible show wpList _ _ _ ({ dst := _, op := .store 23 (.tmp 42) (.tmp 41), type := _, pos := _, after := _, guard := _ } :: _) _ _); refine wpList_store_credR rfl _ _ rfl B10.out a8 a9 a10 a11 rfl rfl ?_; intro w11 h11; have B11 := Lib.hid h11; clear h11)
    | (go_at_call 30; with_reducible refine (HE.out _).mono ?_; rintro e we ⟨rfl, rfl⟩)
    | (go_at_call 44; with_reducible refine (HB.out _).mono ?_; rintro e wb ⟨rfl, bb⟩; have T14 := Lib.hid (T13.out.below bb); clear bb)
    | ((with_reducible show wpList _ _ _ ({ dst := _, op := .load 25 (.tmp 8), type := _, pos := _, after := _, guard := _ } :: _) _ _); refine wpList_load_stg (by rfl) 25 _ rfl w5.heap.size rfl 25 #[.int .i64 x, .bool false, .bool false, .int .i64 a5, .int .i64 a8, .int .i64 a9, .int .i64 a10, .int .i64 a11, .int .i64 0, .string bd] (by first | exact T14.out.msg | exact T13.out.msg) _ Tryd.underlying25 rfl (by kernel_rfl) ?_)
    | ((with_reducible show wpList _ _ _ ({ dst := _, op := .store 25 (.tmp 6) (.tmp 64), type := _, pos := _, after := _, guard := _ } :: _) _ _); refine wpList_store_st rfl 25 _ _ rfl w.heap.size #[.int .i64 x, .bool false, .bool false, .int .i64 a5, .int .i64 a8, .int .i64 a9, .int .i64 a10, .int .i64 a11, .int .i64 0, .string bd] rfl rfl mz T14.out.res (by kernel_rfl) rfl (by kernel_rfl) ?_; intro wy hy sy; have SY := Lib.hid sy; have KY := Lib.hid (show Keep k none w wy from hy ▸ keep_row T14.out.keep T14.out.ng _); clear hy sy))
  refine ret_cell2 (r := 6) (t := 7) (k := w.heap.size) (T := 25) Tryd.results34 rfl rfl SY.out Tryd.underlying25 rfl (by kernel_rfl) rfl ?_
  exact ⟨rfl, KY.out⟩

set_option maxRecDepth 100000 in
set_option maxHeartbeats 4000000 in
theorem readCall_false (k : Nat) (s : ByteArray) (x : Int) (w : World) (h : Rd k (s.extract (4 * 2) s.size) 0 w) (hz : s.size ≤ 2048) (h1 : 56 ≤ s.size) (e2 : atW s 2 = 2) (e3 : atW s 3 = 100003) (e4 : atW s 4 = 3) (fp : okProc (atW s 5) = true) (hb : hasB (seemC s x) s = false) :
    Calls Tryd.prog 34 #[.string s, .int .i64 x, .pointer (some ⟨k, 0, none⟩)] w fun e w' => e = .returned (.tuple #[.agg #[.int .i64 x, .bool false, .bool false, .int .i64 0, .int .i64 0, .int .i64 0, .int .i64 0, .int .i64 0, .int .i64 4, .string ⟨#[]⟩], .int .i64 0]) ∧ Keep k none w w' := by
  have HB := fun W => rchasBytes_any (seemC s x) s W (Nat.le_trans (restOf_le s 14) (by omega))
  rw [hb] at HB
  dsimp only [seemC, Mg.arr] at HB ⊢
  obtain ⟨a2, ha2⟩ : ∃ v, v = atW s 2 := ⟨_, rfl⟩
  obtain ⟨a3, ha3⟩ : ∃ v, v = atW s 3 := ⟨_, rfl⟩
  obtain ⟨a4, ha4⟩ : ∃ v, v = atW s 4 := ⟨_, rfl⟩
  obtain ⟨a5, ha5⟩ : ∃ v, v = atW s 5 := ⟨_, rfl⟩
  obtain ⟨a8, ha8⟩ : ∃ v, v = atW s 8 := ⟨_, rfl⟩
  obtain ⟨a9, ha9⟩ : ∃ v, v = atW s 9 := ⟨_, rfl⟩
  obtain ⟨a10, ha10⟩ : ∃ v, v = atW s 10 := ⟨_, rfl⟩
  obtain ⟨a11, ha11⟩ : ∃ v, v = atW s 11 := ⟨_, rfl⟩
  obtain ⟨bd, hbd⟩ : ∃ v, v = restOf s 14 := ⟨_, rfl⟩
  rw [← ha2] at e2
  have d2 : (a2 != 2) = false := by rw [e2]; rfl
  clear e2
  rw [← ha3] at e3
  have d3 : (a3 != 100003) = false := by rw [e3]; rfl
  clear e3
  rw [← ha4] at e4
  have d4 : (a4 != 3) = false := by rw [e4]; rfl
  clear e4
  have hkw : k < w.heap.size := St.lt h
  have A0 := Lib.hid (show RA k w.heap.size 2 s w (w.alloc (.cells #[.int .i64 0, .bool false, .bool false, .int .i64 0, .int .i64 0, .int .i64 0, .int .i64 0, .int .i64 0, .int .i64 0, .string ⟨#[]⟩] 25 (0, 0))) from ⟨St.alloc h _, St.new w 25 mz, (Keep.refl k none w).alloc _, by omega, by omega⟩)
  have HN2 : ∀ W, Rd k (s.extract (4 * 2) s.size) 0 W → Calls Tryd.prog 33 #[.pointer (some ⟨k, 0, none⟩)] W fun e w' => e = .returned (.int .i64 (atW s 2)) ∧ Rd k (s.extract (4 * 3) s.size) 0 w' ∧ Keep k none W w' := fun W h => mnext_at k 2 s W h (by omega)
  rw [← ha2] at HN2
  replace HN2 := Lib.hid HN2
  have HN3 : ∀ W, Rd k (s.extract (4 * 3) s.size) 0 W → Calls Tryd.prog 33 #[.pointer (some ⟨k, 0, none⟩)] W fun e w' => e = .returned (.int .i64 (atW s 3)) ∧ Rd k (s.extract (4 * 4) s.size) 0 w' ∧ Keep k none W w' := fun W h => mnext_at k 3 s W h (by omega)
  rw [← ha3] at HN3
  replace HN3 := Lib.hid HN3
  have HN4 : ∀ W, Rd k (s.extract (4 * 4) s.size) 0 W → Calls Tryd.prog 33 #[.pointer (some ⟨k, 0, none⟩)] W fun e w' => e = .returned (.int .i64 (atW s 4)) ∧ Rd k (s.extract (4 * 5) s.size) 0 w' ∧ Keep k none W w' := fun W h => mnext_at k 4 s W h (by omega)
  rw [← ha4] at HN4
  replace HN4 := Lib.hid HN4
  have HN5 : ∀ W, Rd k (s.extract (4 * 5) s.size) 0 W → Calls Tryd.prog 33 #[.pointer (some ⟨k, 0, none⟩)] W fun e w' => e = .returned (.int .i64 (atW s 5)) ∧ Rd k (s.extract (4 * 6) s.size) 0 w' ∧ Keep k none W w' := fun W h => mnext_at k 5 s W h (by omega)
  rw [← ha5] at HN5
  replace HN5 := Lib.hid HN5
  have HS6 : ∀ W, Rd k (s.extract (4 * 6) s.size) 0 W → Calls Tryd.prog 42 #[.pointer (some ⟨k, 0, none⟩), .int .i64 2] W fun e w' => e = .returned (.tuple #[]) ∧ Rd k (s.extract (4 * 8) s.size) 0 w' ∧ Keep k none W w' := fun W h => rcskip_at k 6 2 s W h (by omega) (by omega)
  replace HS6 := Lib.hid HS6
  have HN8 : ∀ W, Rd k (s.extract (4 * 8) s.size) 0 W → Calls Tryd.prog 33 #[.pointer (some ⟨k, 0, none⟩)] W fun e w' => e = .returned (.int .i64 (atW s 8)) ∧ Rd k (s.extract (4 * 9) s.size) 0 w' ∧ Keep k none W w' := fun W h => mnext_at k 8 s W h (by omega)
  rw [← ha8] at HN8
  replace HN8 := Lib.hid HN8
  have HN9 : ∀ W, Rd k (s.extract (4 * 9) s.size) 0 W → Calls Tryd.prog 33 #[.pointer (some ⟨k, 0, none⟩)] W fun e w' => e = .returned (.int .i64 (atW s 9)) ∧ Rd k (s.extract (4 * 10) s.size) 0 w' ∧ Keep k none W w' := fun W h => mnext_at k 9 s W h (by omega)
  rw [← ha9] at HN9
  replace HN9 := Lib.hid HN9
  have HN10 : ∀ W, Rd k (s.extract (4 * 10) s.size) 0 W → Calls Tryd.prog 33 #[.pointer (some ⟨k, 0, none⟩)] W fun e w' => e = .returned (.int .i64 (atW s 10)) ∧ Rd k (s.extract (4 * 11) s.size) 0 w' ∧ Keep k none W w' := fun W h => mnext_at k 10 s W h (by omega)
  rw [← ha10] at HN10
  replace HN10 := Lib.hid HN10
  have HN11 : ∀ W, Rd k (s.extract (4 * 11) s.size) 0 W → Calls Tryd.prog 33 #[.pointer (some ⟨k, 0, none⟩)] W fun e w' => e = .returned (.int .i64 (atW s 11)) ∧ Rd k (s.extract (4 * 12) s.size) 0 w' ∧ Keep k none W w' := fun W h => mnext_at k 11 s W h (by omega)
  rw [← ha11] at HN11
  replace HN11 := Lib.hid HN11
  have HS12 : ∀ W, Rd k (s.extract (4 * 12) s.size) 0 W → Calls Tryd.prog 42 #[.pointer (some ⟨k, 0, none⟩), .int .i64 2] W fun e w' => e = .returned (.tuple #[]) ∧ Rd k (s.extract (4 * 14) s.size) 0 w' ∧ Keep k none W w' := fun W h => rcskip_at k 12 2 s W h (by omega) (by omega)
  replace HS12 := Lib.hid HS12
  have HRE := fun W (h : Rd k (s.extract (4 * 14) s.size) 0 W) => rcrest_at k 14 s W hz h (by omega)
  rw [← hbd] at HRE
  replace HRE := Lib.hid HRE
  have HJ : ∀ W, Calls Tryd.prog 41 #[.int .i64 x, .int .i64 4] W fun e w' => e = .returned (.tuple #[.agg #[.int .i64 x, .bool false, .bool false, .int .i64 0, .int .i64 0, .int .i64 0, .int .i64 0, .int .i64 0, .int .i64 4, .string ⟨#[]⟩], .int .i64 0]) ∧ Below W.heap.size W w' := fun W => rcrejected_any x 4 W
  replace HJ := Lib.hid HJ
  have HE := fun W => rcexists_any a5 W
  rw [← ha5] at fp
  rw [fp] at HE
  replace HE := Lib.hid HE
  rw [← ha5, ← ha8, ← ha9, ← ha10, ← ha11, ← hbd] at HB
  replace HB := Lib.hid HB
  clear h1 hz hb
  clear h hkw hbd ha2 ha3 ha4 ha5 ha8 ha9 ha10 ha11
  go_enter Tryd.func34, Tryd.ntmps34
  go_wp2_with (first
    | (go_at_call 33; with_reducible refine (HN2.out _ A0.out.rd).mono ?_; rintro e w1 ⟨rfl, gx, kx⟩; have A1 := Lib.hid (A0.out.call gx kx); clear gx kx)
    | (go_at_call 33; with_reducible refine (HN3.out _ A1.out.rd).mono ?_; rintro e w2 ⟨rfl, gx, kx⟩; have A2 := Lib.hid (A1.out.call gx kx); clear gx kx)
    | (go_at_call 33; with_reducible refine (HN4.out _ A2.out.rd).mono ?_; rintro e w3 ⟨rfl, gx, kx⟩; have A3 := Lib.hid (A2.out.call gx kx); clear gx kx)
    | (go_at_call 33; with_reducible refine (HN5.out _ A3.out.rd).mono ?_; rintro e w5 ⟨rfl, gx, kx⟩; have A4 := Lib.hid (A3.out.call gx kx); have B5 := Lib.hid (A4.out.born #[.int .i64 x, .bool false, .bool false, .int .i64 a5, .int .i64 0, .int .i64 0, .int .i64 0, .int .i64 0, .int .i64 0, .string ⟨#[]⟩]); clear gx kx)
    | (go_at_call 42; with_reducible refine (HS6.out _ B5.out.rd).mono ?_; rintro e w6 ⟨rfl, gx, kx⟩; have B6 := Lib.hid (B5.out.call gx kx); clear gx kx)
    | (go_at_call 33; with_reducible refine (HN8.out _ B6.out.rd).mono ?_; rintro e w7 ⟨rfl, gx, kx⟩; have B7 := Lib.hid (B6.out.call gx kx); clear gx kx)
    | (go_at_call 33; with_reducible refine (HN9.out _ B7.out.rd).mono ?_; rintro e w8 ⟨rfl, gx, kx⟩; have B8 := Lib.hid (B7.out.call gx kx); clear gx kx)
    | (go_at_call 33; with_reducible refine (HN10.out _ B8.out.rd).mono ?_; rintro e w9 ⟨rfl, gx, kx⟩; have B9 := Lib.hid (B8.out.call gx kx); clear gx kx)
    | (go_at_call 33; with_reducible refine (HN11.out _ B9.out.rd).mono ?_; rintro e w10 ⟨rfl, gx, kx⟩; have B10 := Lib.hid (B9.out.call gx kx); clear gx kx)
    | (go_at_call 42; with_reducible refine (HS12.out _ B11.out.rd).mono ?_; rintro e w12 ⟨rfl, gx, kx⟩; have B12 := Lib.hid (B11.out.call gx kx); clear gx kx)
    | (go_at_call 43; with_reducible refine (HRE.out _ B12.out.rd).mono ?_; rintro e w13 ⟨rfl, kx⟩; have Q := B12.out.done kx; have cx := Q.msg.cell (j := 9) (v := .string ⟨#[]⟩) rfl; have fx := Q.msg.free 9; have T13 := Lib.hid (Q.put9 (.string bd)); have cp := T13.out.at3; clear kx Q)
    | ((with_reducible show wpList _ _ _ ({ dst := _, op := .store 23 (.tmp 42) (.tmp 41), type := _, pos := _, after := _, guard := _ } :: _) _ _); refine wpList_store_credR rfl _ _ rfl B10.out a8 a9 a10 a11 rfl rfl ?_; intro w11 h11; have B11 := Lib.hid h11; clear h11)
    | (go_at_call 30; with_reducible refine (HE.out _).mono ?_; rintro e we ⟨rfl, rfl⟩)
    | (go_at_call 44; with_reducible refine (HB.out _).mono ?_; rintro e wb ⟨rfl, bb⟩; have T14 := Lib.hid (T13.out.below bb); clear bb)
    | ((with_reducible show wpList _ _ _ ({ dst := _, op := .load 25 (.tmp 8), type := _, pos := _, after := _, guard := _ } :: _) _ _); refine wpList_load_stg (by rfl) 25 _ rfl w5.heap.size rfl 25 #[.int .i64 x, .bool false, .bool false, .int .i64 a5, .int .i64 a8, .int .i64 a9, .int .i64 a10, .int .i64 a11, .int .i64 0, .string bd] (by first | exact T14.out.msg | exact T13.out.msg) _ Tryd.underlying25 rfl (by kernel_rfl) ?_)
    | (go_at_call 41; with_reducible refine (HJ.out _).mono ?_; rintro e wj ⟨rfl, bj⟩; have RJ := Lib.hid (T14.out.below bj); clear bj)
    | ((with_reducible show wpList _ _ _ ({ dst := _, op := .store 25 (.tmp 6) (.tmp 62), type := _, pos := _, after := _, guard := _ } :: _) _ _); refine wpList_store_st rfl 25 _ _ rfl w.heap.size #[.int .i64 x, .bool false, .bool false, .int .i64 0, .int .i64 0, .int .i64 0, .int .i64 0, .int .i64 0, .int .i64 4, .string ⟨#[]⟩] rfl rfl mz RJ.out.res (by kernel_rfl) rfl (by kernel_rfl) ?_; intro wy hy sy; have SY := Lib.hid sy; have KY := Lib.hid (show Keep k none w wy from hy ▸ keep_row RJ.out.keep RJ.out.ng _); clear hy sy))
  refine ret_cell2 (r := 6) (t := 7) (k := w.heap.size) (T := 25) Tryd.results34 rfl rfl SY.out Tryd.underlying25 rfl (by kernel_rfl) rfl ?_
  exact ⟨rfl, KY.out⟩
end Go.Proofs.YtimbcombhdgjiaaDoor
