/- The functions that a reader's take hands its bytes to; take with each of them; the numbers and the boolean that are read. -/
import Derived.Test.YtimbcombhdgjiaaDoorRd
namespace Go.Proofs.YtimbcombhdgjiaaDoor
open Go.RowKit

theorem Keep.cell {b : Nat} {w : World} (v : Value) : Keep b none w (w.setCell ⟨b, 0, none⟩ v) := (Keep.refl b none w).put 0 v

set_option maxRecDepth 100000 in
theorem cU32 (part : ByteArray) (b : Nat) (v0 : Value) (w : World) (hp : part.size = 4) (h : St 3 b #[v0] w) :
    Calls Tryd.prog 46 #[.string part, .pointer (some ⟨b, 0, none⟩)] w fun e w' => e = .returned (.int .i64 0) ∧ St 3 b #[.int .i64 (num part.data.toList)] w' ∧ Keep b none w w' := by
  have c0 := St.cell h (j := 0) rfl
  have f0 := St.free h 0
  have hb := num4 part hp
  have hn := rnumber_any part (by omega) w
  obtain ⟨q, hq⟩ : ∃ q, q = num part.data.toList := ⟨_, rfl⟩
  rw [← hq] at hn hb ⊢
  have HQ := Lib.hid hq
  clear hq
  go_enter Tryd.func46, Tryd.ntmps46
  go_wp2_with (go_at_call 47; go_must (refine hn.mono ?_); rintro e w1 ⟨rfl, rfl⟩)
  go_ret
  exact ⟨rfl, by simpa using St.set h 0 _, Keep.cell _⟩

/-- take behind an error: nothing. -/
theorem rtake_no (k : Nat) (s : ByteArray) (e n : Int) (f : Value) (w : World) (he : e ≠ 0) (h : Rd k s e w) :
    Calls Tryd.prog 45 #[.pointer (some ⟨k, 0, none⟩), .int .i64 n, f] w fun r w' => r = .returned (.tuple #[]) ∧ w = w' := by
  go_enter Tryd.func45, Tryd.ntmps45
  go_wp2_with (go_at_call 40; go_must (refine (rErr_at k s e _ h).mono ?_); rintro e w1 ⟨rfl, rfl⟩)
  go_returns
  exact ⟨rfl, rfl⟩
/-- take of more than is left. -/
theorem rtake_short (k : Nat) (s : ByteArray) (n : Int) (f : Value) (w : World) (hn : (s.size : Int) < n) (h : Rd k s 0 w) :
    Calls Tryd.prog 45 #[.pointer (some ⟨k, 0, none⟩), .int .i64 n, f] w fun r w' => r = .returned (.tuple #[]) ∧ Rd k ⟨#[]⟩ 10 w' ∧ Keep k none w w' := by
  have c0 := St.cell h (j := 0) rfl
  go_enter Tryd.func45, Tryd.ntmps45
  go_wp2_with (first | (go_at_call 40; go_must (refine (rErr_at k s 0 _ h).mono ?_); rintro e w1 ⟨rfl, rfl⟩) | (go_at_call 50; go_must (refine (rfail_at k s 10 _ h).mono ?_); rintro e w1 ⟨rfl, hr, hk⟩))
  go_returns
  exact ⟨rfl, hr, hk⟩

theorem keep_two {w w2 : World} (k b : Nat) (v : Value) (h : Keep b none (w.setCell ⟨k, 0, none⟩ v) w2) : Keep k (some b) w w2 :=
  ⟨h.os, h.tape, h.output, by have := h.size; simpa [World.setCell] using this, fun j hj hk hr => (h.block j (by simpa [World.setCell] using hj) (fun e => hr (by rw [e])) (by simp)).trans (Below.heap_setCell w _ v j hk)⟩
theorem keep_three {w w2 w3 : World} (k b : Nat) (v : Value) (h : Keep b none (w.setCell ⟨k, 0, none⟩ v) w2) (g : Keep k none w2 w3) : Keep k (some b) w w3 := by
  have h2 := keep_two k b v h
  exact ⟨g.os.trans h2.os, g.tape.trans h2.tape, g.output.trans h2.output, Nat.le_trans h2.size g.size, fun j hj hk hr => (g.block j (Nat.lt_of_lt_of_le hj h2.size) hk (by simp)).trans (h2.block j hj hk hr)⟩

set_option maxRecDepth 100000 in
theorem rtake_U32 (k b : Nat) (s : ByteArray) (v0 : Value) (w : World) (hkb : k ≠ b) (hl : 4 ≤ s.size) (h : Rd k s 0 w) (hb : St 3 b #[v0] w) :
    Calls Tryd.prog 45 #[.pointer (some ⟨k, 0, none⟩), .int .i64 4, .func (.func 46) #[] #[.pointer (some ⟨b, 0, none⟩)]] w fun r w' => r = .returned (.tuple #[]) ∧ Rd k (s.extract 4 s.size) 0 w' ∧ St 3 b #[.int .i64 (num (s.extract 0 4).data.toList)] w' ∧ Keep k (some b) w w' := by
  have c0 := St.cell h (j := 0) rfl
  have f0 := St.free h 0
  have hsz : (s.extract 0 4).size = 4 := by rw [ByteArray.size_extract]; omega
  have h1 : Rd k (s.extract 4 s.size) 0 (w.setCell ⟨k, 0, none⟩ (.string (s.extract 4 s.size))) := by
    have := St.set h 0 (.string (s.extract 4 s.size))
    exact this
  have hb1 : St 3 b #[v0] (w.setCell ⟨k, 0, none⟩ (.string (s.extract 4 s.size))) := hb.other _ _ _ hkb
  have hc := cU32 (s.extract 0 4) b v0 _ hsz hb1
  have HC := Lib.hid hc
  clear hc
  go_enter Tryd.func45, Tryd.ntmps45
  go_wp2_with (first | (go_at_call 40; go_must (refine (rErr_at k s 0 _ h).mono ?_); rintro e w1 ⟨rfl, rfl⟩) | (go_at_call 46; go_must (refine HC.out.mono ?_); rintro e w2 ⟨rfl, hst2, hk2⟩))
  go_returns
  exact ⟨rfl, Rd.keep h1 hk2 hkb (by simp), hst2, keep_two k b _ hk2⟩

end Go.Proofs.YtimbcombhdgjiaaDoor
