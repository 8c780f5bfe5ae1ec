/- Messages: the program's readReply. -/
import Derived.Test.YtimbcombhdgjiaaDoorMu
namespace Go.Proofs.YtimbcombhdgjiaaDoor
open Go.RowKit
set_option linter.unusedSimpArgs false
set_option linter.unusedVariables false

/-- The zero message's cells. -/
def mz : Array Value := #[.int .i64 0, .bool false, .bool false, .int .i64 0, .int .i64 0, .int .i64 0, .int .i64 0, .int .i64 0, .int .i64 0, .string ⟨#[]⟩]
/-- Amid the reading of a message: the reader is at number i; the result's block g; the message's block b. -/
structure RS (k g b i : Nat) (s : ByteArray) (cs : Array Value) (w W : World) : Prop where
  rd : Rd k (s.extract (4 * i) s.size) 0 W
  res : St 25 g mz W
  msg : St 25 b cs W
  keep : Keep k none w W
  kg : k ≠ g
  kb : k ≠ b
  gb : g ≠ b
  nb : w.heap.size ≤ b
  ng : w.heap.size ≤ g
theorem RS.call {k g b i j : Nat} {s : ByteArray} {cs : Array Value} {w W W' : World} (h : RS k g b i s cs w W) (hr : Rd k (s.extract (4 * j) s.size) 0 W') (hk : Keep k none W W') : RS k g b j s cs w W' :=
  ⟨hr, St.keep h.res hk h.kg.symm (by simp), St.keep h.msg hk h.kb.symm (by simp), h.keep.trans hk (.inl rfl), h.kg, h.kb, h.gb, h.nb, h.ng⟩
theorem RS.set {k g b i : Nat} {s : ByteArray} {cs : Array Value} {w W : World} (h : RS k g b i s cs w W) (j : Nat) (v : Value) : RS k g b i s (cs.setIfInBounds j v) w (W.setCell ⟨b, j, none⟩ v) :=
  ⟨St.other h.rd b j v h.kb.symm, St.other h.res b j v h.gb.symm, h.msg.set j v, keep_new h.keep h.nb j v, h.kg, h.kb, h.gb, h.nb, h.ng⟩
/-- The same behind the last number: nothing is held of the reader. -/
structure RT (k g b : Nat) (cs : Array Value) (w W : World) : Prop where
  res : St 25 g mz W
  msg : St 25 b cs W
  keep : Keep k none w W
  gb : g ≠ b
  nb : w.heap.size ≤ b
  ng : w.heap.size ≤ g
theorem RS.done {k g b i : Nat} {s : ByteArray} {cs : Array Value} {w W W' : World} (h : RS k g b i s cs w W) (hk : Keep k none W W') : RT k g b cs w W' :=
  ⟨St.keep h.res hk h.kg.symm (by simp), St.keep h.msg hk h.kb.symm (by simp), h.keep.trans hk (.inl rfl), h.gb, h.nb, h.ng⟩
theorem RT.set {k g b : Nat} {cs : Array Value} {w W : World} (h : RT k g b cs w W) (j : Nat) (v : Value) : RT k g b (cs.setIfInBounds j v) w (W.setCell ⟨b, j, none⟩ v) :=
  ⟨St.other h.res b j v h.gb.symm, h.msg.set j v, keep_new h.keep h.nb j v, h.gb, h.nb, h.ng⟩
theorem RT.below {k g b : Nat} {cs : Array Value} {w W W' : World} (h : RT k g b cs w W) (hb : Below W.heap.size W W') : RT k g b cs w W' :=
  ⟨h.res.below hb, h.msg.below hb, h.keep.trans (keep_of_below hb) (.inl rfl), h.gb, h.nb, h.ng⟩
theorem RS.put2 {k g b i : Nat} {s : ByteArray} {v0 v1 v2 v3 v4 v5 v6 v7 v8 v9 : Value} {w W : World} (h : RS k g b i s #[v0, v1, v2, v3, v4, v5, v6, v7, v8, v9] w W) (v : Value) : RS k g b i s #[v0, v1, v, v3, v4, v5, v6, v7, v8, v9] w (W.setCell ⟨b, 2, none⟩ v) := h.set 2 v
theorem RS.put8 {k g b i : Nat} {s : ByteArray} {v0 v1 v2 v3 v4 v5 v6 v7 v8 v9 : Value} {w W : World} (h : RS k g b i s #[v0, v1, v2, v3, v4, v5, v6, v7, v8, v9] w W) (v : Value) : RS k g b i s #[v0, v1, v2, v3, v4, v5, v6, v7, v, v9] w (W.setCell ⟨b, 8, none⟩ v) := h.set 8 v
theorem RT.put9 {k g b : Nat} {v0 v1 v2 v3 v4 v5 v6 v7 v8 v9 : Value} {w W : World} (h : RT k g b #[v0, v1, v2, v3, v4, v5, v6, v7, v8, v9] w W) (v : Value) : RT k g b #[v0, v1, v2, v3, v4, v5, v6, v7, v8, v] w (W.setCell ⟨b, 9, none⟩ v) := h.set 9 v
theorem keep_row {k g : Nat} {r : Option Nat} {w W : World} (h : Keep k r w W) (hg : w.heap.size ≤ g) (cs : Array Value) : Keep k r w (W.setRow g cs) :=
  ⟨h.os, h.tape, h.output, by simpa using h.size, fun j hj hk hr => (Go.setRow_other W g j cs (by omega)).trans (h.block j hj hk hr)⟩

set_option maxRecDepth 100000 in
set_option maxHeartbeats 2000000 in
theorem readReply_gone0 (k : Nat) (s : ByteArray) (x : Int) (w : World) (h : Rd k (s.extract (4 * 2) s.size) 0 w) (h1 : 8 ≤ s.size) (h2 : s.size < 12) :
    Calls Tryd.prog 35 #[.string s, .int .i64 x, .pointer (some ⟨k, 0, none⟩)] w fun e w' => e = .panicked thrown ∧ Keep k none w w' := by
  obtain ⟨a3, ha3⟩ : ∃ v, v = atW s 3 := ⟨_, rfl⟩
  obtain ⟨a5, ha5⟩ : ∃ v, v = atW s 5 := ⟨_, rfl⟩
  obtain ⟨bd, hbd⟩ : ∃ v, v = restOf s 6 := ⟨_, rfl⟩
  have hkw : k < w.heap.size := St.lt h
  have R0 := Lib.hid (show RS k w.heap.size (w.heap.size + 1) 2 s #[.int .i64 x, .bool true, .bool false, .int .i64 0, .int .i64 0, .int .i64 0, .int .i64 0, .int .i64 0, .int .i64 0, .string ⟨#[]⟩] w ((w.alloc (.cells #[.int .i64 0, .bool false, .bool false, .int .i64 0, .int .i64 0, .int .i64 0, .int .i64 0, .int .i64 0, .int .i64 0, .string ⟨#[]⟩] 25 (0, 0))).alloc (.cells #[.int .i64 x, .bool true, .bool false, .int .i64 0, .int .i64 0, .int .i64 0, .int .i64 0, .int .i64 0, .int .i64 0, .string ⟨#[]⟩] 25 (0, 0))) from
    ⟨St.alloc (St.alloc h _) _, (St.new w 25 mz).alloc _, St.new1 _ _ _ _, ((Keep.refl k none w).alloc _).alloc _, by omega, by omega, by omega, by omega, by omega⟩)
  have HG : ∀ W, Rd k (s.extract (4 * 2) s.size) 0 W → Calls Tryd.prog 42 #[.pointer (some ⟨k, 0, none⟩), .int .i64 1] W fun e w' => e = .panicked thrown ∧ Keep k none W w' := fun W h => rcskip_gone k 2 1 s W h (by omega) (by omega) (by omega)
  replace HG := Lib.hid HG
  obtain ⟨ag, hag⟩ : ∃ b, (a3 != 0) = b := ⟨_, rfl⟩
  clear h h1 h2 hkw ha3 ha5 hbd
  go_enter Tryd.func35, Tryd.ntmps35
  go_wp2_with (first
    | (go_at_call 42; with_reducible refine (HG.out _ R0.out.rd).mono ?_; rintro e w9 ⟨rfl, k9⟩; have K9 := Lib.hid (R0.out.keep.trans k9 (.inl rfl)); clear k9))
  simp only [bodyPost]
  exact ⟨trivial, trivial, K9.out⟩

set_option maxRecDepth 100000 in
set_option maxHeartbeats 2000000 in
theorem readReply_gone1 (k : Nat) (s : ByteArray) (x : Int) (w : World) (h : Rd k (s.extract (4 * 2) s.size) 0 w) (h1 : 12 ≤ s.size) (h2 : s.size < 16) :
    Calls Tryd.prog 35 #[.string s, .int .i64 x, .pointer (some ⟨k, 0, none⟩)] w fun e w' => e = .panicked thrown ∧ Keep k none w w' := by
  obtain ⟨a3, ha3⟩ : ∃ v, v = atW s 3 := ⟨_, rfl⟩
  obtain ⟨a5, ha5⟩ : ∃ v, v = atW s 5 := ⟨_, rfl⟩
  obtain ⟨bd, hbd⟩ : ∃ v, v = restOf s 6 := ⟨_, rfl⟩
  have hkw : k < w.heap.size := St.lt h
  have R0 := Lib.hid (show RS k w.heap.size (w.heap.size + 1) 2 s #[.int .i64 x, .bool true, .bool false, .int .i64 0, .int .i64 0, .int .i64 0, .int .i64 0, .int .i64 0, .int .i64 0, .string ⟨#[]⟩] w ((w.alloc (.cells #[.int .i64 0, .bool false, .bool false, .int .i64 0, .int .i64 0, .int .i64 0, .int .i64 0, .int .i64 0, .int .i64 0, .string ⟨#[]⟩] 25 (0, 0))).alloc (.cells #[.int .i64 x, .bool true, .bool false, .int .i64 0, .int .i64 0, .int .i64 0, .int .i64 0, .int .i64 0, .int .i64 0, .string ⟨#[]⟩] 25 (0, 0))) from
    ⟨St.alloc (St.alloc h _) _, (St.new w 25 mz).alloc _, St.new1 _ _ _ _, ((Keep.refl k none w).alloc _).alloc _, by omega, by omega, by omega, by omega, by omega⟩)
  have HS2 : ∀ W, Rd k (s.extract (4 * 2) s.size) 0 W → Calls Tryd.prog 42 #[.pointer (some ⟨k, 0, none⟩), .int .i64 1] W fun e w' => e = .returned (.tuple #[]) ∧ Rd k (s.extract (4 * 3) s.size) 0 w' ∧ Keep k none W w' := fun W h => rcskip_at k 2 1 s W h (by omega) (by omega)
  replace HS2 := Lib.hid HS2
  have HG : ∀ W, Rd k (s.extract (4 * 3) s.size) 0 W → Calls Tryd.prog 33 #[.pointer (some ⟨k, 0, none⟩)] W fun e w' => e = .panicked thrown ∧ Keep k none W w' := fun W h => mnext_gone k 3 s W h (by omega)
  replace HG := Lib.hid HG
  obtain ⟨ag, hag⟩ : ∃ b, (a3 != 0) = b := ⟨_, rfl⟩
  clear h h1 h2 hkw ha3 ha5 hbd
  go_enter Tryd.func35, Tryd.ntmps35
  go_wp2_with (first
    | (go_at_call 42; with_reducible refine (HS2.out _ R0.out.rd).mono ?_; rintro e w1 ⟨rfl, g1, k1⟩; have R1 := Lib.hid (R0.out.call g1 k1); clear g1 k1)
    | (go_at_call 33; with_reducible refine (HG.out _ R1.out.rd).mono ?_; rintro e w9 ⟨rfl, k9⟩; have K9 := Lib.hid (R1.out.keep.trans k9 (.inl rfl)); clear k9))
  simp only [bodyPost]
  exact ⟨trivial, trivial, K9.out⟩

set_option maxRecDepth 100000 in
set_option maxHeartbeats 2000000 in
theorem readReply_gone2 (k : Nat) (s : ByteArray) (x : Int) (w : World) (h : Rd k (s.extract (4 * 2) s.size) 0 w) (h1 : 16 ≤ s.size) (h2 : s.size < 20) :
    Calls Tryd.prog 35 #[.string s, .int .i64 x, .pointer (some ⟨k, 0, none⟩)] w fun e w' => e = .panicked thrown ∧ Keep k none w w' := by
  obtain ⟨a3, ha3⟩ : ∃ v, v = atW s 3 := ⟨_, rfl⟩
  obtain ⟨a5, ha5⟩ : ∃ v, v = atW s 5 := ⟨_, rfl⟩
  obtain ⟨bd, hbd⟩ : ∃ v, v = restOf s 6 := ⟨_, rfl⟩
  have hkw : k < w.heap.size := St.lt h
  have R0 := Lib.hid (show RS k w.heap.size (w.heap.size + 1) 2 s #[.int .i64 x, .bool true, .bool false, .int .i64 0, .int .i64 0, .int .i64 0, .int .i64 0, .int .i64 0, .int .i64 0, .string ⟨#[]⟩] w ((w.alloc (.cells #[.int .i64 0, .bool false, .bool false, .int .i64 0, .int .i64 0, .int .i64 0, .int .i64 0, .int .i64 0, .int .i64 0, .string ⟨#[]⟩] 25 (0, 0))).alloc (.cells #[.int .i64 x, .bool true, .bool false, .int .i64 0, .int .i64 0, .int .i64 0, .int .i64 0, .int .i64 0, .int .i64 0, .string ⟨#[]⟩] 25 (0, 0))) from
    ⟨St.alloc (St.alloc h _) _, (St.new w 25 mz).alloc _, St.new1 _ _ _ _, ((Keep.refl k none w).alloc _).alloc _, by omega, by omega, by omega, by omega, by omega⟩)
  have HS2 : ∀ W, Rd k (s.extract (4 * 2) s.size) 0 W → Calls Tryd.prog 42 #[.pointer (some ⟨k, 0, none⟩), .int .i64 1] W fun e w' => e = .returned (.tuple #[]) ∧ Rd k (s.extract (4 * 3) s.size) 0 w' ∧ Keep k none W w' := fun W h => rcskip_at k 2 1 s W h (by omega) (by omega)
  replace HS2 := Lib.hid HS2
  have HN3 : ∀ W, Rd k (s.extract (4 * 3) s.size) 0 W → Calls Tryd.prog 33 #[.pointer (some ⟨k, 0, none⟩)] W fun e w' => e = .returned (.int .i64 (atW s 3)) ∧ Rd k (s.extract (4 * 4) s.size) 0 w' ∧ Keep k none W w' := fun W h => mnext_at k 3 s W h (by omega)
  rw [← ha3] at HN3
  replace HN3 := Lib.hid HN3
  have HG : ∀ W, Rd k (s.extract (4 * 4) s.size) 0 W → Calls Tryd.prog 42 #[.pointer (some ⟨k, 0, none⟩), .int .i64 1] W fun e w' => e = .panicked thrown ∧ Keep k none W w' := fun W h => rcskip_gone k 4 1 s W h (by omega) (by omega) (by omega)
  replace HG := Lib.hid HG
  obtain ⟨ag, hag⟩ : ∃ b, (a3 != 0) = b := ⟨_, rfl⟩
  clear h h1 h2 hkw ha3 ha5 hbd
  go_enter Tryd.func35, Tryd.ntmps35
  go_wp2_with (first
    | (go_at_call 42; with_reducible refine (HS2.out _ R0.out.rd).mono ?_; rintro e w1 ⟨rfl, g1, k1⟩; have R1 := Lib.hid (R0.out.call g1 k1); clear g1 k1)
    | (go_at_call 33; with_reducible refine (HN3.out _ R1.out.rd).mono ?_; rintro e w2 ⟨rfl, g2, k2⟩; have Q2 := R1.out.call g2 k2; have c2 := Q2.msg.cell (j := 2) (v := .bool false) rfl; have f2 := Q2.msg.free 2; have R2 := Lib.hid (Q2.put2 (.bool ag)); clear g2 k2 Q2)
    | (go_at_call 42; with_reducible refine (HG.out _ R2.out.rd).mono ?_; rintro e w9 ⟨rfl, k9⟩; have K9 := Lib.hid (R2.out.keep.trans k9 (.inl rfl)); clear k9))
  simp only [bodyPost]
  exact ⟨trivial, trivial, K9.out⟩

set_option maxRecDepth 100000 in
set_option maxHeartbeats 2000000 in
theorem readReply_gone3 (k : Nat) (s : ByteArray) (x : Int) (w : World) (h : Rd k (s.extract (4 * 2) s.size) 0 w) (h1 : 20 ≤ s.size) (h2 : s.size < 24) :
    Calls Tryd.prog 35 #[.string s, .int .i64 x, .pointer (some ⟨k, 0, none⟩)] w fun e w' => e = .panicked thrown ∧ Keep k none w w' := by
  obtain ⟨a3, ha3⟩ : ∃ v, v = atW s 3 := ⟨_, rfl⟩
  obtain ⟨a5, ha5⟩ : ∃ v, v = atW s 5 := ⟨_, rfl⟩
  obtain ⟨bd, hbd⟩ : ∃ v, v = restOf s 6 := ⟨_, rfl⟩
  have hkw : k < w.heap.size := St.lt h
  have R0 := Lib.hid (show RS k w.heap.size (w.heap.size + 1) 2 s #[.int .i64 x, .bool true, .bool false, .int .i64 0, .int .i64 0, .int .i64 0, .int .i64 0, .int .i64 0, .int .i64 0, .string ⟨#[]⟩] w ((w.alloc (.cells #[.int .i64 0, .bool false, .bool false, .int .i64 0, .int .i64 0, .int .i64 0, .int .i64 0, .int .i64 0, .int .i64 0, .string ⟨#[]⟩] 25 (0, 0))).alloc (.cells #[.int .i64 x, .bool true, .bool false, .int .i64 0, .int .i64 0, .int .i64 0, .int .i64 0, .int .i64 0, .int .i64 0, .string ⟨#[]⟩] 25 (0, 0))) from
    ⟨St.alloc (St.alloc h _) _, (St.new w 25 mz).alloc _, St.new1 _ _ _ _, ((Keep.refl k none w).alloc _).alloc _, by omega, by omega, by omega, by omega, by omega⟩)
  have HS2 : ∀ W, Rd k (s.extract (4 * 2) s.size) 0 W → Calls Tryd.prog 42 #[.pointer (some ⟨k, 0, none⟩), .int .i64 1] W fun e w' => e = .returned (.tuple #[]) ∧ Rd k (s.extract (4 * 3) s.size) 0 w' ∧ Keep k none W w' := fun W h => rcskip_at k 2 1 s W h (by omega) (by omega)
  replace HS2 := Lib.hid HS2
  have HN3 : ∀ W, Rd k (s.extract (4 * 3) s.size) 0 W → Calls Tryd.prog 33 #[.pointer (some ⟨k, 0, none⟩)] W fun e w' => e = .returned (.int .i64 (atW s 3)) ∧ Rd k (s.extract (4 * 4) s.size) 0 w' ∧ Keep k none W w' := fun W h => mnext_at k 3 s W h (by omega)
  rw [← ha3] at HN3
  replace HN3 := Lib.hid HN3
  have HS4 : ∀ W, Rd k (s.extract (4 * 4) s.size) 0 W → Calls Tryd.prog 42 #[.pointer (some ⟨k, 0, none⟩), .int .i64 1] W fun e w' => e = .returned (.tuple #[]) ∧ Rd k (s.extract (4 * 5) s.size) 0 w' ∧ Keep k none W w' := fun W h => rcskip_at k 4 1 s W h (by omega) (by omega)
  replace HS4 := Lib.hid HS4
  have HG : ∀ W, Rd k (s.extract (4 * 5) s.size) 0 W → Calls Tryd.prog 33 #[.pointer (some ⟨k, 0, none⟩)] W fun e w' => e = .panicked thrown ∧ Keep k none W w' := fun W h => mnext_gone k 5 s W h (by omega)
  replace HG := Lib.hid HG
  obtain ⟨ag, hag⟩ : ∃ b, (a3 != 0) = b := ⟨_, rfl⟩
  clear h h1 h2 hkw ha3 ha5 hbd
  go_enter Tryd.func35, Tryd.ntmps35
  go_wp2_with (first
    | (go_at_call 42; with_reducible refine (HS2.out _ R0.out.rd).mono ?_; rintro e w1 ⟨rfl, g1, k1⟩; have R1 := Lib.hid (R0.out.call g1 k1); clear g1 k1)
    | (go_at_call 33; with_reducible refine (HN3.out _ R1.out.rd).mono ?_; rintro e w2 ⟨rfl, g2, k2⟩; have Q2 := R1.out.call g2 k2; have c2 := Q2.msg.cell (j := 2) (v := .bool false) rfl; have f2 := Q2.msg.free 2; have R2 := Lib.hid (Q2.put2 (.bool ag)); clear g2 k2 Q2)
    | (go_at_call 42; with_reducible refine (HS4.out _ R2.out.rd).mono ?_; rintro e w3 ⟨rfl, g3, k3⟩; have R3 := Lib.hid (R2.out.call g3 k3); clear g3 k3)
    | (go_at_call 33; with_reducible refine (HG.out _ R3.out.rd).mono ?_; rintro e w9 ⟨rfl, k9⟩; have K9 := Lib.hid (R3.out.keep.trans k9 (.inl rfl)); clear k9))
  simp only [bodyPost]
  exact ⟨trivial, trivial, K9.out⟩

theorem readReply_gone (k : Nat) (s : ByteArray) (x : Int) (w : World) (h : Rd k (s.extract (4 * 2) s.size) 0 w) (h1 : 8 ≤ s.size) (h2 : s.size < 24) :
    Calls Tryd.prog 35 #[.string s, .int .i64 x, .pointer (some ⟨k, 0, none⟩)] w fun e w' => e = .panicked thrown ∧ Keep k none w w' := by
  by_cases a : s.size < 12
  · exact readReply_gone0 k s x w h h1 a
  by_cases b : s.size < 16
  · exact readReply_gone1 k s x w h (by omega) b
  by_cases c : s.size < 20
  · exact readReply_gone2 k s x w h (by omega) c
  exact readReply_gone3 k s x w h (by omega) h2
/-- The reply that bytes seem to be. -/
def seemR (s : ByteArray) (x : Int) : Mg := ⟨x, true, atW s 3 != 0, 0, 0, 0, 0, 0, atW s 5, restOf s 6⟩
theorem restOf_le (s : ByteArray) (i : Nat) : (restOf s i).size ≤ s.size := by
  unfold restOf
  split
  · rw [ByteArray.size_extract]; omega
  · exact Nat.zero_le _

set_option maxRecDepth 100000 in
set_option maxHeartbeats 4000000 in
theorem readReply_true (k : Nat) (s : ByteArray) (x : Int) (w : World) (h : Rd k (s.extract (4 * 2) s.size) 0 w) (hz : s.size ≤ 2048) (h1 : 24 ≤ s.size) (hb : hasB (seemR s x) s = true) :
    Calls Tryd.prog 35 #[.string s, .int .i64 x, .pointer (some ⟨k, 0, none⟩)] w fun e w' => e = .returned (.tuple #[.agg (seemR s x).arr, .int .i64 0]) ∧ Keep k none w w' := by
  have HB := fun W => rchasBytes_any (seemR s x) s W (Nat.le_trans (restOf_le s 6) (by omega))
  rw [hb] at HB
  dsimp only [seemR, Mg.arr] at HB ⊢
  obtain ⟨a3, ha3⟩ : ∃ v, v = atW s 3 := ⟨_, rfl⟩
  obtain ⟨a5, ha5⟩ : ∃ v, v = atW s 5 := ⟨_, rfl⟩
  obtain ⟨bd, hbd⟩ : ∃ v, v = restOf s 6 := ⟨_, rfl⟩
  have hkw : k < w.heap.size := St.lt h
  have R0 := Lib.hid (show RS k w.heap.size (w.heap.size + 1) 2 s #[.int .i64 x, .bool true, .bool false, .int .i64 0, .int .i64 0, .int .i64 0, .int .i64 0, .int .i64 0, .int .i64 0, .string ⟨#[]⟩] w ((w.alloc (.cells #[.int .i64 0, .bool false, .bool false, .int .i64 0, .int .i64 0, .int .i64 0, .int .i64 0, .int .i64 0, .int .i64 0, .string ⟨#[]⟩] 25 (0, 0))).alloc (.cells #[.int .i64 x, .bool true, .bool false, .int .i64 0, .int .i64 0, .int .i64 0, .int .i64 0, .int .i64 0, .int .i64 0, .string ⟨#[]⟩] 25 (0, 0))) from
    ⟨St.alloc (St.alloc h _) _, (St.new w 25 mz).alloc _, St.new1 _ _ _ _, ((Keep.refl k none w).alloc _).alloc _, by omega, by omega, by omega, by omega, by omega⟩)
  have HS2 : ∀ W, Rd k (s.extract (4 * 2) s.size) 0 W → Calls Tryd.prog 42 #[.pointer (some ⟨k, 0, none⟩), .int .i64 1] W fun e w' => e = .returned (.tuple #[]) ∧ Rd k (s.extract (4 * 3) s.size) 0 w' ∧ Keep k none W w' := fun W h => rcskip_at k 2 1 s W h (by omega) (by omega)
  replace HS2 := Lib.hid HS2
  have HN3 : ∀ W, Rd k (s.extract (4 * 3) s.size) 0 W → Calls Tryd.prog 33 #[.pointer (some ⟨k, 0, none⟩)] W fun e w' => e = .returned (.int .i64 (atW s 3)) ∧ Rd k (s.extract (4 * 4) s.size) 0 w' ∧ Keep k none W w' := fun W h => mnext_at k 3 s W h (by omega)
  rw [← ha3] at HN3
  replace HN3 := Lib.hid HN3
  have HS4 : ∀ W, Rd k (s.extract (4 * 4) s.size) 0 W → Calls Tryd.prog 42 #[.pointer (some ⟨k, 0, none⟩), .int .i64 1] W fun e w' => e = .returned (.tuple #[]) ∧ Rd k (s.extract (4 * 5) s.size) 0 w' ∧ Keep k none W w' := fun W h => rcskip_at k 4 1 s W h (by omega) (by omega)
  replace HS4 := Lib.hid HS4
  have HN5 : ∀ W, Rd k (s.extract (4 * 5) s.size) 0 W → Calls Tryd.prog 33 #[.pointer (some ⟨k, 0, none⟩)] W fun e w' => e = .returned (.int .i64 (atW s 5)) ∧ Rd k (s.extract (4 * 6) s.size) 0 w' ∧ Keep k none W w' := fun W h => mnext_at k 5 s W h (by omega)
  rw [← ha5] at HN5
  replace HN5 := Lib.hid HN5
  have HR := fun W (h : Rd k (s.extract (4 * 6) s.size) 0 W) => rcrest_at k 6 s W hz h (by omega)
  rw [← hbd] at HR
  replace HR := Lib.hid HR
  rw [← ha3, ← ha5, ← hbd] at HB ⊢
  obtain ⟨ag, hag⟩ : ∃ b, (a3 != 0) = b := ⟨_, rfl⟩
  rw [hag] at HB ⊢
  replace HB := Lib.hid HB
  clear h h1 hz hkw ha3 ha5 hbd hb
  go_enter Tryd.func35, Tryd.ntmps35
  go_wp2_with (first
    | (go_at_call 42; with_reducible refine (HS2.out _ R0.out.rd).mono ?_; rintro e w1 ⟨rfl, g1, k1⟩; have R1 := Lib.hid (R0.out.call g1 k1); clear g1 k1)
    | (go_at_call 33; with_reducible refine (HN3.out _ R1.out.rd).mono ?_; rintro e w2 ⟨rfl, g2, k2⟩; have Q2 := R1.out.call g2 k2; have c2 := Q2.msg.cell (j := 2) (v := .bool false) rfl; have f2 := Q2.msg.free 2; have R2 := Lib.hid (Q2.put2 (.bool ag)); clear g2 k2 Q2)
    | (go_at_call 42; with_reducible refine (HS4.out _ R2.out.rd).mono ?_; rintro e w3 ⟨rfl, g3, k3⟩; have R3 := Lib.hid (R2.out.call g3 k3); clear g3 k3)
    | (go_at_call 33; with_reducible refine (HN5.out _ R3.out.rd).mono ?_; rintro e w4 ⟨rfl, g4, k4⟩; have Q4 := R3.out.call g4 k4; have c4 := Q4.msg.cell (j := 8) (v := .int .i64 0) rfl; have f4 := Q4.msg.free 8; have R4 := Lib.hid (Q4.put8 (.int .i64 a5)); clear g4 k4 Q4)
    | (go_at_call 43; with_reducible refine (HR.out _ R4.out.rd).mono ?_; rintro e w5 ⟨rfl, k5⟩; have Q5 := R4.out.done k5; have c5 := Q5.msg.cell (j := 9) (v := .string ⟨#[]⟩) rfl; have f5 := Q5.msg.free 9; have R5 := Lib.hid (Q5.put9 (.string bd)); clear k5 Q5)
    | (go_at_call 44; with_reducible refine (HB.out _).mono ?_; rintro e w6 ⟨rfl, b6⟩; have R6 := Lib.hid (R5.out.below b6); clear b6)
    | ((with_reducible show wpList _ _ _ ({ dst := _, op := .load 25 (.tmp 8), type := _, pos := _, after := _, guard := _ } :: _) _ _); refine wpList_load_stg (by rfl) 25 _ rfl (w.heap.size + 1) rfl 25 #[.int .i64 x, .bool true, .bool ag, .int .i64 0, .int .i64 0, .int .i64 0, .int .i64 0, .int .i64 0, .int .i64 a5, .string bd] (by first | exact R6.out.msg | exact R5.out.msg) _ Tryd.underlying25 rfl (by kernel_rfl) ?_)
    | ((with_reducible show wpList _ _ _ ({ dst := _, op := .store 25 (.tmp 6) (.tmp 30), type := _, pos := _, after := _, guard := _ } :: _) _ _); refine wpList_store_st rfl 25 _ _ rfl w.heap.size #[.int .i64 x, .bool true, .bool ag, .int .i64 0, .int .i64 0, .int .i64 0, .int .i64 0, .int .i64 0, .int .i64 a5, .string bd] rfl rfl mz R6.out.res (by kernel_rfl) rfl (by kernel_rfl) ?_; intro w7 h7 s7; have S7 := Lib.hid s7; have K7 := Lib.hid (show Keep k none w w7 from h7 ▸ keep_row R6.out.keep R6.out.ng _); clear h7 s7))
  refine ret_cell2 (r := 6) (t := 7) (k := w.heap.size) (T := 25) Tryd.results35 rfl rfl S7.out Tryd.underlying25 rfl (by kernel_rfl) rfl ?_
  exact ⟨rfl, K7.out⟩

set_option maxRecDepth 100000 in
set_option maxHeartbeats 4000000 in
theorem readReply_false (k : Nat) (s : ByteArray) (x : Int) (w : World) (h : Rd k (s.extract (4 * 2) s.size) 0 w) (hz : s.size ≤ 2048) (h1 : 24 ≤ s.size) (hb : hasB (seemR s x) s = false) :
    Calls Tryd.prog 35 #[.string s, .int .i64 x, .pointer (some ⟨k, 0, none⟩)] w fun e w' => e = .returned (.tuple #[.agg mz, .int .i64 14]) ∧ Keep k none w w' := by
  have HB := fun W => rchasBytes_any (seemR s x) s W (Nat.le_trans (restOf_le s 6) (by omega))
  rw [hb] at HB
  dsimp only [seemR, Mg.arr] at HB ⊢
  obtain ⟨a3, ha3⟩ : ∃ v, v = atW s 3 := ⟨_, rfl⟩
  obtain ⟨a5, ha5⟩ : ∃ v, v = atW s 5 := ⟨_, rfl⟩
  obtain ⟨bd, hbd⟩ : ∃ v, v = restOf s 6 := ⟨_, rfl⟩
  have hkw : k < w.heap.size := St.lt h
  have R0 := Lib.hid (show RS k w.heap.size (w.heap.size + 1) 2 s #[.int .i64 x, .bool true, .bool false, .int .i64 0, .int .i64 0, .int .i64 0, .int .i64 0, .int .i64 0, .int .i64 0, .string ⟨#[]⟩] w ((w.alloc (.cells #[.int .i64 0, .bool false, .bool false, .int .i64 0, .int .i64 0, .int .i64 0, .int .i64 0, .int .i64 0, .int .i64 0, .string ⟨#[]⟩] 25 (0, 0))).alloc (.cells #[.int .i64 x, .bool true, .bool false, .int .i64 0, .int .i64 0, .int .i64 0, .int .i64 0, .int .i64 0, .int .i64 0, .string ⟨#[]⟩] 25 (0, 0))) from
    ⟨St.alloc (St.alloc h _) _, (St.new w 25 mz).alloc _, St.new1 _ _ _ _, ((Keep.refl k none w).alloc _).alloc _, by omega, by omega, by omega, by omega, by omega⟩)
  have HS2 : ∀ W, Rd k (s.extract (4 * 2) s.size) 0 W → Calls Tryd.prog 42 #[.pointer (some ⟨k, 0, none⟩), .int .i64 1] W fun e w' => e = .returned (.tuple #[]) ∧ Rd k (s.extract (4 * 3) s.size) 0 w' ∧ Keep k none W w' := fun W h => rcskip_at k 2 1 s W h (by omega) (by omega)
  replace HS2 := Lib.hid HS2
  have HN3 : ∀ W, Rd k (s.extract (4 * 3) s.size) 0 W → Calls Tryd.prog 33 #[.pointer (some ⟨k, 0, none⟩)] W fun e w' => e = .returned (.int .i64 (atW s 3)) ∧ Rd k (s.extract (4 * 4) s.size) 0 w' ∧ Keep k none W w' := fun W h => mnext_at k 3 s W h (by omega)
  rw [← ha3] at HN3
  replace HN3 := Lib.hid HN3
  have HS4 : ∀ W, Rd k (s.extract (4 * 4) s.size) 0 W → Calls Tryd.prog 42 #[.pointer (some ⟨k, 0, none⟩), .int .i64 1] W fun e w' => e = .returned (.tuple #[]) ∧ Rd k (s.extract (4 * 5) s.size) 0 w' ∧ Keep k none W w' := fun W h => rcskip_at k 4 1 s W h (by omega) (by omega)
  replace HS4 := Lib.hid HS4
  have HN5 : ∀ W, Rd k (s.extract (4 * 5) s.size) 0 W → Calls Tryd.prog 33 #[.pointer (some ⟨k, 0, none⟩)] W fun e w' => e = .returned (.int .i64 (atW s 5)) ∧ Rd k (s.extract (4 * 6) s.size) 0 w' ∧ Keep k none W w' := fun W h => mnext_at k 5 s W h (by omega)
  rw [← ha5] at HN5
  replace HN5 := Lib.hid HN5
  have HR := fun W (h : Rd k (s.extract (4 * 6) s.size) 0 W) => rcrest_at k 6 s W hz h (by omega)
  rw [← hbd] at HR
  replace HR := Lib.hid HR
  rw [← ha3, ← ha5, ← hbd] at HB
  obtain ⟨ag, hag⟩ : ∃ b, (a3 != 0) = b := ⟨_, rfl⟩
  rw [hag] at HB
  replace HB := Lib.hid HB
  clear h h1 hz hkw ha3 ha5 hbd hb
  go_enter Tryd.func35, Tryd.ntmps35
  go_wp2_with (first
    | (go_at_call 42; with_reducible refine (HS2.out _ R0.out.rd).mono ?_; rintro e w1 ⟨rfl, g1, k1⟩; have R1 := Lib.hid (R0.out.call g1 k1); clear g1 k1)
    | (go_at_call 33; with_reducible refine (HN3.out _ R1.out.rd).mono ?_; rintro e w2 ⟨rfl, g2, k2⟩; have Q2 := R1.out.call g2 k2; have c2 := Q2.msg.cell (j := 2) (v := .bool false) rfl; have f2 := Q2.msg.free 2; have R2 := Lib.hid (Q2.put2 (.bool ag)); clear g2 k2 Q2)
    | (go_at_call 42; with_reducible refine (HS4.out _ R2.out.rd).mono ?_; rintro e w3 ⟨rfl, g3, k3⟩; have R3 := Lib.hid (R2.out.call g3 k3); clear g3 k3)
    | (go_at_call 33; with_reducible refine (HN5.out _ R3.out.rd).mono ?_; rintro e w4 ⟨rfl, g4, k4⟩; have Q4 := R3.out.call g4 k4; have c4 := Q4.msg.cell (j := 8) (v := .int .i64 0) rfl; have f4 := Q4.msg.free 8; have R4 := Lib.hid (Q4.put8 (.int .i64 a5)); clear g4 k4 Q4)
    | (go_at_call 43; with_reducible refine (HR.out _ R4.out.rd).mono ?_; rintro e w5 ⟨rfl, k5⟩; have Q5 := R4.out.done k5; have c5 := Q5.msg.cell (j := 9) (v := .string ⟨#[]⟩) rfl; have f5 := Q5.msg.free 9; have R5 := Lib.hid (Q5.put9 (.string bd)); clear k5 Q5)
    | (go_at_call 44; with_reducible refine (HB.out _).mono ?_; rintro e w6 ⟨rfl, b6⟩; have R6 := Lib.hid (R5.out.below b6); clear b6)
    | ((with_reducible show wpList _ _ _ ({ dst := _, op := .load 25 (.tmp 8), type := _, pos := _, after := _, guard := _ } :: _) _ _); refine wpList_load_stg (by rfl) 25 _ rfl (w.heap.size + 1) rfl 25 #[.int .i64 x, .bool true, .bool ag, .int .i64 0, .int .i64 0, .int .i64 0, .int .i64 0, .int .i64 0, .int .i64 a5, .string bd] (by first | exact R6.out.msg | exact R5.out.msg) _ Tryd.underlying25 rfl (by kernel_rfl) ?_)
    | ((with_reducible show wpList _ _ _ ({ dst := _, op := .build 25 #[], type := _, pos := _, after := _, guard := _ } :: _) _ _); refine wpList_build_as rfl 25 _ rfl mz (by kernel_rfl) ?_)
    | ((with_reducible show wpList _ _ _ ({ dst := _, op := .store 25 (.tmp 6) (.tmp 29), type := _, pos := _, after := _, guard := _ } :: _) _ _); refine wpList_store_st rfl 25 _ _ rfl w.heap.size mz rfl rfl mz R6.out.res (by kernel_rfl) rfl (by kernel_rfl) ?_; intro w7 h7 s7; have S7 := Lib.hid s7; have K7 := Lib.hid (show Keep k none w w7 from h7 ▸ keep_row R6.out.keep R6.out.ng _); clear h7 s7))
  refine ret_cell2 (r := 6) (t := 7) (k := w.heap.size) (T := 25) Tryd.results35 rfl rfl S7.out Tryd.underlying25 rfl (by kernel_rfl) rfl ?_
  exact ⟨rfl, K7.out⟩
end Go.Proofs.YtimbcombhdgjiaaDoor
