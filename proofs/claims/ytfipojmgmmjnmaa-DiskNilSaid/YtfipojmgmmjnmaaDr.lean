/- The law's fixed calls of a disk. -/
import Derived.Test.YtfipojmgmmjnmaaDq
namespace Go.Proofs.Ytfipojmgmmjnmaa
open Go.RowKit

def k1 : DS := ((DS.new 2).write 0 ⟨#[97]⟩).2
def k2 : DS := (k1.write 1 ⟨#[98]⟩).2
def k3 : DS := k2.crash [1]
theorem k1_e : ((DS.new 2).write 0 ⟨#[97]⟩).1 = 0 := by decide +kernel
theorem k2_e : (k1.write 1 ⟨#[98]⟩).1 = 0 := by decide +kernel
theorem k3_1 : k3.read 1 = (blank ⟨#[98]⟩, 0) := by decide +kernel
theorem k3_0 : k3.read 0 = (blank ⟨#[]⟩, 0) := by decide +kernel
theorem k1_b : (DS.new 2).wait.length ≤ 1073741824 ∧ (DS.new 2).wr ≤ 1073741824 := by decide +kernel
theorem k2_b : k1.wait.length ≤ 1073741824 ∧ k1.wr ≤ 1073741824 := by decide +kernel
theorem k3_b : k2.wait.length ≤ 1073741824 := by decide +kernel
theorem first_of (s : ByteArray) (b : UInt8) (h : 0 < s.size) (e : s.data.toList.head? = some b) : s[0]'h = b := by
  have h2 : s.data[0]? = some b := by
    rw [← Array.getElem?_toList, ← e, List.head?_eq_getElem?]
  have h3 := Array.getElem?_eq_some_iff.1 h2
  exact h3.2
theorem kb : ∃ s : ByteArray, s = blank ⟨#[98]⟩ ∧ s.size = 128 ∧ ∀ h : 0 < s.size, (s[0]'h).toNat = 98 := ⟨_, rfl, by decide +kernel, fun h => by rw [first_of _ 98 h (by decide +kernel)]; rfl⟩
theorem k0 : ∃ s : ByteArray, s = blank ⟨#[]⟩ ∧ s.size = 128 ∧ ∀ h : 0 < s.size, (s[0]'h).toNat = 0 := ⟨_, rfl, by decide +kernel, fun h => by rw [first_of _ 0 h (by decide +kernel)]; rfl⟩

/-- Numbers in a block that was just made. -/
theorem ints_one (w : World) (x : Int) (ok : Nat → Prop) (h : ok w.heap.size) : Ints ok (.slice (some ⟨w.heap.size, 0, none⟩) 1 1) [x] (w.alloc (.cells #[.int .i64 x] 3 (0, 0))) := by
  refine ⟨_, 1, w.heap.size, 0, rfl, ⟨by simp, fun h => by cases h⟩, fun _ => ⟨rfl, by simp, h⟩, fun i y hi => ?_⟩
  have h0 : i = 0 := by have := (List.getElem?_eq_some_iff.1 hi).1; simp at this; omega
  subst h0
  simp at hi
  subst hi
  exact (St.new w 3 #[.int .i64 x]).cell rfl

set_option maxRecDepth 100000 in
set_option maxHeartbeats 1000000 in
theorem dkknown_any (w : World) : Calls Try.prog 10 #[] w fun e w' => e = .returned (.bool true) ∧ Below w.heap.size w w' := by
  obtain ⟨sb, hb1, hb2, hb3⟩ := kb
  obtain ⟨s0, h01, h02, h03⟩ := k0
  have HN := Lib.hid (fun W => (show Calls Try.prog 11 #[.int .i64 2] W fun e w' => ∃ p, e = .returned (.tuple #[.pointer (some ⟨p, 0, none⟩), .int .i64 0]) ∧ PD W.heap.size p (fun j => W.heap.size ≤ j ∧ j < w'.heap.size) (DS.new 2) w' ∧ Below W.heap.size W w' from dNew_ok 2 W (by omega) (by omega)))
  have HW1 := Lib.hid (fun B p F W hB h => (show Calls Try.prog 22 #[.pointer (some ⟨p, 0, none⟩), .int .i64 0, .string ⟨#[97]⟩] W fun e w' => e = .returned (.int .i64 0) ∧ PDid B p F k1 W w' from by
    have := dWrite_any B p F (DS.new 2) 0 ⟨#[97]⟩ W hB k1_b.1 k1_b.2 h; rw [k1_e] at this; exact this))
  have HW2 := Lib.hid (fun B p F W hB h => (show Calls Try.prog 22 #[.pointer (some ⟨p, 0, none⟩), .int .i64 1, .string ⟨#[98]⟩] W fun e w' => e = .returned (.int .i64 0) ∧ PDid B p F k2 W w' from by
    have := dWrite_any B p F k1 1 ⟨#[98]⟩ W hB k2_b.1 k2_b.2 h; rw [k2_e] at this; exact this))
  have HC := Lib.hid (fun B p F W (hB : B ≤ W.heap.size) (h : PD B p F k2 W) => (show Calls Try.prog 21 #[.pointer (some ⟨p, 0, none⟩), .slice (some ⟨W.heap.size, 0, none⟩) 1 1] (W.alloc (.cells #[.int .i64 1] 3 (0, 0))) fun e w' => e = .returned (.int .i64 0) ∧ PDid B p F k3 W w' from
    (dCrash_any B p F _ k2 [1] _ (by simp; omega) k3_b (ints_one W 1 (fun b => ¬ F b) fun e => by have := h.inF _ e; omega) (h.alloc _)).mono fun e w' ⟨he, hr⟩ => ⟨he, hr.later hB h.inF ((Below.refl _ W).alloc (Nat.le_refl _) _)⟩))
  have HR1 := Lib.hid (fun B p F W h => (show Calls Try.prog 25 #[.pointer (some ⟨p, 0, none⟩), .int .i64 1] W fun e w' => e = .returned (.tuple #[.string sb, .int .i64 0]) ∧ Below W.heap.size W w' from by
    have := dRead_any B p F k3 1 W h; rw [k3_1, ← hb1] at this; exact this))
  have HR0 := Lib.hid (fun B p F W h => (show Calls Try.prog 25 #[.pointer (some ⟨p, 0, none⟩), .int .i64 0] W fun e w' => e = .returned (.tuple #[.string s0, .int .i64 0]) ∧ Below W.heap.size W w' from by
    have := dRead_any B p F k3 0 W h; rw [k3_0, ← h01] at this; exact this))
  clear hb1 h01
  go_enter Try.func10, Try.ntmps10
  go_wp2_with (first
    | (go_at_call 11; go_must (with_reducible refine (HN.out _).mono ?_); rintro e w1 ⟨p, rfl, hp, b1⟩; have P0 := Lib.hid hp; have B0 := Lib.hid b1; have hs1 := b1.size; clear hp b1)
    | (go_at_call 22; (with_reducible refine (HW1.out w.heap.size p _ _ hs1 P0.out).mono ?_); rintro e w2 ⟨rfl, h2⟩; have P1 := Lib.hid h2.1; have R1 := Lib.hid h2.2; have hs2 := Nat.le_trans hs1 h2.2.size; clear h2)
    | (go_at_call 22; (with_reducible refine (HW2.out w.heap.size p _ _ hs2 P1.out).mono ?_); rintro e w3 ⟨rfl, h3⟩; have P2 := Lib.hid h3.1; have R2 := Lib.hid h3.2; have hs3 := Nat.le_trans hs2 h3.2.size; clear h3)
    | (go_at_call 21; go_must (with_reducible refine (HC.out w.heap.size p _ _ hs3 P2.out).mono ?_); rintro e w4 ⟨rfl, h4⟩; have P3 := Lib.hid h4.1; have R3 := Lib.hid h4.2; have hs4 := Nat.le_trans hs3 h4.2.size; clear h4)
    | (go_at_call 25; (with_reducible refine (HR1.out w.heap.size p _ _ P3.out).mono ?_); rintro e w5 ⟨rfl, b5⟩; have B5 := Lib.hid b5; have P5 := Lib.hid (P3.out.below b5); clear b5)
    | (go_at_call 25; (with_reducible refine (HR0.out w.heap.size p _ _ P5.out).mono ?_); rintro e w6 ⟨rfl, b6⟩; have B6 := Lib.hid b6; clear b6))
  go_ret
  refine ⟨rfl, ((?_ : Below w.heap.size w _).trans (B5.out.mono hs4)).trans (B6.out.mono (Nat.le_trans hs4 B5.out.size))⟩
  exact ((B0.out.trans (R1.out.below hs1 fun j hj => (P0.out.inF j hj).1)).trans (R2.out.below hs2 fun j hj => (P1.out.inF j hj).1)).trans (R3.out.below hs3 fun j hj => (P2.out.inF j hj).1)
end Go.Proofs.Ytfipojmgmmjnmaa
