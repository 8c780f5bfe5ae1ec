/- The functions that a reader's take hands its bytes to; take with each of them; the numbers and the boolean that are read. -/
import Derived.Test.YtdjnadgcjmlejaaDoorRd
namespace Go.Proofs.YtdjnadgcjmlejaaDoor
open Go.RowKit

theorem num4 (s : ByteArray) (h : s.size = 4) : num s.data.toList < 4294967296 := by
  have := num_lt s.data.toList
  rw [show s.data.toList.length = 4 from by simpa using h] at this
  omega
theorem num8 (s : ByteArray) (h : s.size = 8) : num s.data.toList < 18446744073709551616 := by
  have := num_lt s.data.toList
  rw [show s.data.toList.length = 8 from by simpa using h] at this
  omega

theorem Keep.cell {b : Nat} {w : World} (v : Value) : Keep b none w (w.setCell ⟨b, 0, none⟩ v) := (Keep.refl b none w).put 0 v

set_option maxRecDepth 100000 in
theorem cU32 (part : ByteArray) (b : Nat) (v0 : Value) (w : World) (hp : part.size = 4) (h : St 3 b #[v0] w) :
    Calls Tryd.prog 76 #[.string part, .pointer (some ⟨b, 0, none⟩)] w fun e w' => e = .returned (.int .i64 0) ∧ St 3 b #[.int .i64 (num part.data.toList)] w' ∧ Keep b none w w' := by
  have c0 := St.cell h (j := 0) rfl
  have f0 := St.free h 0
  have hb := num4 part hp
  have hn := rnumber_any part (by omega) w
  obtain ⟨q, hq⟩ : ∃ q, q = num part.data.toList := ⟨_, rfl⟩
  rw [← hq] at hn hb ⊢
  have HQ := Lib.hid hq
  clear hq
  go_enter Tryd.func76, Tryd.ntmps76
  go_wp2_with (go_at_call 77; go_must (refine hn.mono ?_); rintro e w1 ⟨rfl, rfl⟩)
  go_ret
  exact ⟨rfl, by simpa using St.set h 0 _, Keep.cell _⟩

set_option maxRecDepth 100000 in
theorem cU64 (part : ByteArray) (b : Nat) (v0 : Value) (w : World) (hp : part.size = 8) (hx : num part.data.toList ≤ 9223372036854775807) (h : St 3 b #[v0] w) :
    Calls Tryd.prog 78 #[.string part, .pointer (some ⟨b, 0, none⟩)] w fun e w' => e = .returned (.int .i64 0) ∧ St 3 b #[.int .i64 (num part.data.toList)] w' ∧ Keep b none w w' := by
  have c0 := St.cell h (j := 0) rfl
  have f0 := St.free h 0
  have hb := num8 part hp
  have hn := rnumber_any part (by omega) w
  obtain ⟨q, hq⟩ : ∃ q, q = num part.data.toList := ⟨_, rfl⟩
  rw [← hq] at hn hb hx ⊢
  have HQ := Lib.hid hq
  clear hq
  go_enter Tryd.func78, Tryd.ntmps78
  go_wp2_with (go_at_call 77; go_must (refine hn.mono ?_); rintro e w1 ⟨rfl, rfl⟩)
  go_ret
  exact ⟨rfl, by simpa using St.set h 0 _, Keep.cell _⟩

set_option maxRecDepth 100000 in
theorem cU64_not (part : ByteArray) (b : Nat) (v0 : Value) (w : World) (hp : part.size = 8) (hx : 9223372036854775807 < num part.data.toList) (h : St 3 b #[v0] w) :
    Calls Tryd.prog 78 #[.string part, .pointer (some ⟨b, 0, none⟩)] w fun e w' => e = .returned (.int .i64 3) ∧ St 3 b #[v0] w' ∧ Keep b none w w' := by
  have c0 := St.cell h (j := 0) rfl
  have f0 := St.free h 0
  have hb := num8 part hp
  have hn := rnumber_any part (by omega) w
  obtain ⟨q, hq⟩ : ∃ q, q = num part.data.toList := ⟨_, rfl⟩
  rw [← hq] at hn hb hx
  have HQ := Lib.hid hq
  clear hq
  go_enter Tryd.func78, Tryd.ntmps78
  go_wp2_with (go_at_call 77; go_must (refine hn.mono ?_); rintro e w1 ⟨rfl, rfl⟩)
  go_ret
  exact ⟨rfl, h, Keep.refl _ _ _⟩

set_option maxRecDepth 100000 in
theorem cBool (part : ByteArray) (b : Nat) (v0 : Value) (w : World) (hp : part.size = 4) (hx : num part.data.toList ≤ 1) (h : St 4 b #[v0] w) :
    Calls Tryd.prog 90 #[.string part, .pointer (some ⟨b, 0, none⟩)] w fun e w' => e = .returned (.int .i64 0) ∧ St 4 b #[.bool ((num part.data.toList : Int) == 1)] w' ∧ Keep b none w w' := by
  have c0 := St.cell h (j := 0) rfl
  have f0 := St.free h 0
  have hb := num4 part hp
  have hn := rnumber_any part (by omega) w
  obtain ⟨q, hq⟩ : ∃ q, q = num part.data.toList := ⟨_, rfl⟩
  rw [← hq] at hn hb hx ⊢
  have HQ := Lib.hid hq
  clear hq
  go_enter Tryd.func90, Tryd.ntmps90
  go_wp2_with (go_at_call 77; go_must (refine hn.mono ?_); rintro e w1 ⟨rfl, rfl⟩)
  go_ret
  exact ⟨rfl, by simpa using St.set h 0 _, Keep.cell _⟩

set_option maxRecDepth 100000 in
theorem cBool_not (part : ByteArray) (b : Nat) (v0 : Value) (w : World) (hp : part.size = 4) (hx : 1 < num part.data.toList) (h : St 4 b #[v0] w) :
    Calls Tryd.prog 90 #[.string part, .pointer (some ⟨b, 0, none⟩)] w fun e w' => e = .returned (.int .i64 13) ∧ St 4 b #[v0] w' ∧ Keep b none w w' := by
  have c0 := St.cell h (j := 0) rfl
  have f0 := St.free h 0
  have hb := num4 part hp
  have hn := rnumber_any part (by omega) w
  obtain ⟨q, hq⟩ : ∃ q, q = num part.data.toList := ⟨_, rfl⟩
  rw [← hq] at hn hb hx
  have HQ := Lib.hid hq
  clear hq
  go_enter Tryd.func90, Tryd.ntmps90
  go_wp2_with (go_at_call 77; go_must (refine hn.mono ?_); rintro e w1 ⟨rfl, rfl⟩)
  go_ret
  exact ⟨rfl, h, Keep.refl _ _ _⟩


/-- take behind an error: nothing. -/
theorem rtake_no (k : Nat) (s : ByteArray) (e n : Int) (f : Value) (w : World) (he : e ≠ 0) (h : Rd k s e w) :
    Calls Tryd.prog 75 #[.pointer (some ⟨k, 0, none⟩), .int .i64 n, f] w fun r w' => r = .returned (.tuple #[]) ∧ w = w' := by
  go_enter Tryd.func75, Tryd.ntmps75
  go_wp2_with (go_at_call 80; go_must (refine (rErr_at k s e _ h).mono ?_); rintro e w1 ⟨rfl, rfl⟩)
  go_returns
  exact ⟨rfl, rfl⟩
/-- take of more than is left. -/
theorem rtake_short (k : Nat) (s : ByteArray) (n : Int) (f : Value) (w : World) (hn : (s.size : Int) < n) (h : Rd k s 0 w) :
    Calls Tryd.prog 75 #[.pointer (some ⟨k, 0, none⟩), .int .i64 n, f] w fun r w' => r = .returned (.tuple #[]) ∧ Rd k ⟨#[]⟩ 10 w' ∧ Keep k none w w' := by
  have c0 := St.cell h (j := 0) rfl
  go_enter Tryd.func75, Tryd.ntmps75
  go_wp2_with (first | (go_at_call 80; go_must (refine (rErr_at k s 0 _ h).mono ?_); rintro e w1 ⟨rfl, rfl⟩) | (go_at_call 73; go_must (refine (rfail_at k s 10 _ h).mono ?_); rintro e w1 ⟨rfl, hr, hk⟩))
  go_returns
  exact ⟨rfl, hr, hk⟩

theorem keep_two {w w2 : World} (k b : Nat) (v : Value) (h : Keep b none (w.setCell ⟨k, 0, none⟩ v) w2) : Keep k (some b) w w2 :=
  ⟨h.os, h.tape, h.output, by have := h.size; simpa [World.setCell] using this, fun j hj hk hr => (h.block j (by simpa [World.setCell] using hj) (fun e => hr (by rw [e])) (by simp)).trans (Below.heap_setCell w _ v j hk)⟩
theorem keep_three {w w2 w3 : World} (k b : Nat) (v : Value) (h : Keep b none (w.setCell ⟨k, 0, none⟩ v) w2) (g : Keep k none w2 w3) : Keep k (some b) w w3 := by
  have h2 := keep_two k b v h
  exact ⟨g.os.trans h2.os, g.tape.trans h2.tape, g.output.trans h2.output, Nat.le_trans h2.size g.size, fun j hj hk hr => (g.block j (Nat.lt_of_lt_of_le hj h2.size) hk (by simp)).trans (h2.block j hj hk hr)⟩

set_option maxRecDepth 100000 in
theorem rtake_U32 (k b : Nat) (s : ByteArray) (v0 : Value) (w : World) (hkb : k ≠ b) (hl : 4 ≤ s.size) (h : Rd k s 0 w) (hb : St 3 b #[v0] w) :
    Calls Tryd.prog 75 #[.pointer (some ⟨k, 0, none⟩), .int .i64 4, .func (.func 76) #[] #[.pointer (some ⟨b, 0, none⟩)]] w fun r w' => r = .returned (.tuple #[]) ∧ Rd k (s.extract 4 s.size) 0 w' ∧ St 3 b #[.int .i64 (num (s.extract 0 4).data.toList)] w' ∧ Keep k (some b) w w' := by
  have c0 := St.cell h (j := 0) rfl
  have f0 := St.free h 0
  have hsz : (s.extract 0 4).size = 4 := by rw [ByteArray.size_extract]; omega
  have h1 : Rd k (s.extract 4 s.size) 0 (w.setCell ⟨k, 0, none⟩ (.string (s.extract 4 s.size))) := by
    have := St.set h 0 (.string (s.extract 4 s.size))
    exact this
  have hb1 : St 3 b #[v0] (w.setCell ⟨k, 0, none⟩ (.string (s.extract 4 s.size))) := hb.other _ _ _ hkb
  have hc := cU32 (s.extract 0 4) b v0 _ hsz hb1
  have HC := Lib.hid hc
  clear hc
  go_enter Tryd.func75, Tryd.ntmps75
  go_wp2_with (first | (go_at_call 80; go_must (refine (rErr_at k s 0 _ h).mono ?_); rintro e w1 ⟨rfl, rfl⟩) | (go_at_call 76; go_must (refine HC.out.mono ?_); rintro e w2 ⟨rfl, hst2, hk2⟩))
  go_returns
  exact ⟨rfl, Rd.keep h1 hk2 hkb (by simp), hst2, keep_two k b _ hk2⟩

set_option maxRecDepth 100000 in
theorem rtake_U64 (k b : Nat) (s : ByteArray) (v0 : Value) (w : World) (hkb : k ≠ b) (hl : 8 ≤ s.size) (hx : num (s.extract 0 8).data.toList ≤ 9223372036854775807) (h : Rd k s 0 w) (hb : St 3 b #[v0] w) :
    Calls Tryd.prog 75 #[.pointer (some ⟨k, 0, none⟩), .int .i64 8, .func (.func 78) #[] #[.pointer (some ⟨b, 0, none⟩)]] w fun r w' => r = .returned (.tuple #[]) ∧ Rd k (s.extract 8 s.size) 0 w' ∧ St 3 b #[.int .i64 (num (s.extract 0 8).data.toList)] w' ∧ Keep k (some b) w w' := by
  have c0 := St.cell h (j := 0) rfl
  have f0 := St.free h 0
  have hsz : (s.extract 0 8).size = 8 := by rw [ByteArray.size_extract]; omega
  have h1 : Rd k (s.extract 8 s.size) 0 (w.setCell ⟨k, 0, none⟩ (.string (s.extract 8 s.size))) := by
    have := St.set h 0 (.string (s.extract 8 s.size))
    exact this
  have hb1 : St 3 b #[v0] (w.setCell ⟨k, 0, none⟩ (.string (s.extract 8 s.size))) := hb.other _ _ _ hkb
  have hc := cU64 (s.extract 0 8) b v0 _ hsz hx hb1
  have HC := Lib.hid hc
  clear hc
  go_enter Tryd.func75, Tryd.ntmps75
  go_wp2_with (first | (go_at_call 80; go_must (refine (rErr_at k s 0 _ h).mono ?_); rintro e w1 ⟨rfl, rfl⟩) | (go_at_call 78; go_must (refine HC.out.mono ?_); rintro e w2 ⟨rfl, hst2, hk2⟩))
  go_returns
  exact ⟨rfl, Rd.keep h1 hk2 hkb (by simp), hst2, keep_two k b _ hk2⟩

set_option maxRecDepth 100000 in
theorem rtake_U64_not (k b : Nat) (s : ByteArray) (v0 : Value) (w : World) (hkb : k ≠ b) (hl : 8 ≤ s.size) (hx : 9223372036854775807 < num (s.extract 0 8).data.toList) (h : Rd k s 0 w) (hb : St 3 b #[v0] w) :
    Calls Tryd.prog 75 #[.pointer (some ⟨k, 0, none⟩), .int .i64 8, .func (.func 78) #[] #[.pointer (some ⟨b, 0, none⟩)]] w fun r w' => r = .returned (.tuple #[]) ∧ Rd k ⟨#[]⟩ 3 w' ∧ St 3 b #[v0] w' ∧ Keep k (some b) w w' := by
  have c0 := St.cell h (j := 0) rfl
  have f0 := St.free h 0
  have hsz : (s.extract 0 8).size = 8 := by rw [ByteArray.size_extract]; omega
  have h1 : Rd k (s.extract 8 s.size) 0 (w.setCell ⟨k, 0, none⟩ (.string (s.extract 8 s.size))) := by
    have := St.set h 0 (.string (s.extract 8 s.size))
    exact this
  have hb1 : St 3 b #[v0] (w.setCell ⟨k, 0, none⟩ (.string (s.extract 8 s.size))) := hb.other _ _ _ hkb
  have hc := cU64_not (s.extract 0 8) b v0 _ hsz hx hb1
  have HC := Lib.hid hc
  clear hc
  go_enter Tryd.func75, Tryd.ntmps75
  go_wp2_with (first | (go_at_call 80; go_must (refine (rErr_at k s 0 _ h).mono ?_); rintro e w1 ⟨rfl, rfl⟩) | (go_at_call 78; go_must (refine HC.out.mono ?_); rintro e w2 ⟨rfl, hst2, hk2⟩) | (go_at_call 73; go_must (refine (rfail_at k _ 3 _ (Rd.keep h1 hk2 hkb (by simp))).mono ?_); rintro e w3 ⟨rfl, hr3, hk3⟩))
  go_returns
  exact ⟨rfl, hr3, St.keep hst2 hk3 (Ne.symm hkb) (by simp), keep_three k b _ hk2 hk3⟩

set_option maxRecDepth 100000 in
theorem rtake_Bool (k b : Nat) (s : ByteArray) (v0 : Value) (w : World) (hkb : k ≠ b) (hl : 4 ≤ s.size) (hx : num (s.extract 0 4).data.toList ≤ 1) (h : Rd k s 0 w) (hb : St 4 b #[v0] w) :
    Calls Tryd.prog 75 #[.pointer (some ⟨k, 0, none⟩), .int .i64 4, .func (.func 90) #[] #[.pointer (some ⟨b, 0, none⟩)]] w fun r w' => r = .returned (.tuple #[]) ∧ Rd k (s.extract 4 s.size) 0 w' ∧ St 4 b #[.bool ((num (s.extract 0 4).data.toList : Int) == 1)] w' ∧ Keep k (some b) w w' := by
  have c0 := St.cell h (j := 0) rfl
  have f0 := St.free h 0
  have hsz : (s.extract 0 4).size = 4 := by rw [ByteArray.size_extract]; omega
  have h1 : Rd k (s.extract 4 s.size) 0 (w.setCell ⟨k, 0, none⟩ (.string (s.extract 4 s.size))) := by
    have := St.set h 0 (.string (s.extract 4 s.size))
    exact this
  have hb1 : St 4 b #[v0] (w.setCell ⟨k, 0, none⟩ (.string (s.extract 4 s.size))) := hb.other _ _ _ hkb
  have hc := cBool (s.extract 0 4) b v0 _ hsz hx hb1
  have HC := Lib.hid hc
  clear hc
  go_enter Tryd.func75, Tryd.ntmps75
  go_wp2_with (first | (go_at_call 80; go_must (refine (rErr_at k s 0 _ h).mono ?_); rintro e w1 ⟨rfl, rfl⟩) | (go_at_call 90; go_must (refine HC.out.mono ?_); rintro e w2 ⟨rfl, hst2, hk2⟩))
  go_returns
  exact ⟨rfl, Rd.keep h1 hk2 hkb (by simp), hst2, keep_two k b _ hk2⟩

set_option maxRecDepth 100000 in
theorem rtake_Bool_not (k b : Nat) (s : ByteArray) (v0 : Value) (w : World) (hkb : k ≠ b) (hl : 4 ≤ s.size) (hx : 1 < num (s.extract 0 4).data.toList) (h : Rd k s 0 w) (hb : St 4 b #[v0] w) :
    Calls Tryd.prog 75 #[.pointer (some ⟨k, 0, none⟩), .int .i64 4, .func (.func 90) #[] #[.pointer (some ⟨b, 0, none⟩)]] w fun r w' => r = .returned (.tuple #[]) ∧ Rd k ⟨#[]⟩ 13 w' ∧ St 4 b #[v0] w' ∧ Keep k (some b) w w' := by
  have c0 := St.cell h (j := 0) rfl
  have f0 := St.free h 0
  have hsz : (s.extract 0 4).size = 4 := by rw [ByteArray.size_extract]; omega
  have h1 : Rd k (s.extract 4 s.size) 0 (w.setCell ⟨k, 0, none⟩ (.string (s.extract 4 s.size))) := by
    have := St.set h 0 (.string (s.extract 4 s.size))
    exact this
  have hb1 : St 4 b #[v0] (w.setCell ⟨k, 0, none⟩ (.string (s.extract 4 s.size))) := hb.other _ _ _ hkb
  have hc := cBool_not (s.extract 0 4) b v0 _ hsz hx hb1
  have HC := Lib.hid hc
  clear hc
  go_enter Tryd.func75, Tryd.ntmps75
  go_wp2_with (first | (go_at_call 80; go_must (refine (rErr_at k s 0 _ h).mono ?_); rintro e w1 ⟨rfl, rfl⟩) | (go_at_call 90; go_must (refine HC.out.mono ?_); rintro e w2 ⟨rfl, hst2, hk2⟩) | (go_at_call 73; go_must (refine (rfail_at k _ 13 _ (Rd.keep h1 hk2 hkb (by simp))).mono ?_); rintro e w3 ⟨rfl, hr3, hk3⟩))
  go_returns
  exact ⟨rfl, hr3, St.keep hst2 hk3 (Ne.symm hkb) (by simp), keep_three k b _ hk2 hk3⟩

end Go.Proofs.YtdjnadgcjmlejaaDoor
