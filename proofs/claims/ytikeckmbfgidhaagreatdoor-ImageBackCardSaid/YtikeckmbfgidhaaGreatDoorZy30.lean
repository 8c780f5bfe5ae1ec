/- Several texts in one: Il Im. -/
import Derived.Test.YtikeckmbfgidhaaGreatDoorZy27
import Derived.Test.YtikeckmbfgidhaaGreatDoorZy28
import Derived.Test.YtikeckmbfgidhaaGreatDoorZy29
/- Texts in areas of a disk: a disk of a law's own; the fixed calls that end each statement. -/
namespace Go.Proofs.YtikeckmbfgidhaaGreatDoor
open Go.RowKit

/-- A disk that was made behind w. -/
def LD (w : World) (p : Nat) (D : DS) (W : World) : Prop := (∃ F, PD w.heap.size p F D W) ∧ Below w.heap.size w W
theorem LD.oks {w : World} {p : Nat} {D : DS} {W : World} (h : LD w p D W) : D.ok D.kept.length := by
  obtain ⟨⟨F, h⟩, _⟩ := h
  exact h.oks
theorem LD.did {w : World} {p : Nat} {D D' : DS} {F : Nat → Prop} {W W' : World} (h : PD w.heap.size p F D W) (hb : Below w.heap.size w W) (g : PDid w.heap.size p F D' W W') : LD w p D' W' :=
  ⟨⟨_, g.1⟩, hb.trans (g.2.below hb.size fun j hj => (h.inF j hj).1)⟩
theorem LD.below {w : World} {p : Nat} {D : DS} {W W' : World} (h : LD w p D W) (b : Below W.heap.size W W') : LD w p D W' := by
  obtain ⟨⟨F, h⟩, hb⟩ := h
  exact ⟨⟨F, h.keep (Frm.of_below (F := None1) b) fun _ _ e => e⟩, hb.trans (b.mono hb.size)⟩
theorem ld_new (n : Nat) (w : World) (h1 : 1 ≤ n) (hn : n ≤ 65536) : Calls Tryz.prog 6 #[.int .i64 n] w fun e w' => ∃ p, e = .returned (.tuple #[.pointer (some ⟨p, 0, none⟩), .int .i64 0]) ∧ LD w p (DS.new n) w' :=
  (dNew_ok n w h1 hn).mono fun _ _ ⟨p, he, hp, hb⟩ => ⟨p, he, ⟨_, hp⟩, hb⟩
theorem ld_write {w : World} {p : Nat} {D : DS} {W : World} (f c : Int) (s : ByteArray) (hc : c ≤ 9223372036854775807) (hl : D.wait.length ≤ 1000000000) (hr : D.wr ≤ 1000000000) (h : LD w p D W) :
    Calls Tryz.prog 7 #[.pointer (some ⟨p, 0, none⟩), .int .i64 f, .int .i64 c, .string s] W fun e W' => e = .returned (.int .i64 (imgW D f c s).1) ∧ LD w p (imgW D f c s).2 W' := by
  obtain ⟨⟨F, h⟩, hb⟩ := h
  exact (iWrite_any _ p F D f c s W hb.size hc hl hr h).mono fun e W' g => ⟨g.1, LD.did h hb g.2⟩
theorem ld_read {w : World} {p : Nat} {D : DS} {W : World} (f c : Int) (hd : D.dead = false) (hc : c ≤ 9223372036854775807) (h : LD w p D W) :
    Calls Tryz.prog 8 #[.pointer (some ⟨p, 0, none⟩), .int .i64 f, .int .i64 c] W fun e W' => e = .returned (.tuple #[.string (imgR D f c).1, .int .i64 (imgR D f c).2]) ∧ LD w p D W' := by
  have h2 := h
  obtain ⟨⟨F, h⟩, hb⟩ := h
  exact (iRead_any _ p F D f c W hd hc h).mono fun e W' g => ⟨g.1, h2.below g.2⟩
theorem ld_barrier {w : World} {p : Nat} {D : DS} {W : World} (hr : D.br ≤ 1000000000) (h : LD w p D W) :
    Calls Tryz.prog 9 #[.pointer (some ⟨p, 0, none⟩)] W fun e W' => e = .returned (.int .i64 D.barrier.1) ∧ LD w p D.barrier.2 W' := by
  obtain ⟨⟨F, h⟩, hb⟩ := h
  exact (dBarrier_any _ p F D W hb.size (by omega) h).mono fun e W' g => ⟨g.1, LD.did h hb g.2⟩
theorem ld_arm {w : World} {p : Nat} {D : DS} {W : World} (n : Int) (hn : n ≤ 9223372036854775807) (h : LD w p D W) :
    Calls Tryz.prog 11 #[.pointer (some ⟨p, 0, none⟩), .int .i64 n] W fun e W' => e = .returned (.int .i64 (D.arm n).1) ∧ LD w p (D.arm n).2 W' := by
  obtain ⟨⟨F, h⟩, hb⟩ := h
  exact (dArm_any _ p F D n W hb.size hn h).mono fun e W' g => ⟨g.1, LD.did h hb g.2⟩
theorem ld_crash {w : World} {p : Nat} {D : DS} {W : World} (v : Value) (keep : List Int) (hl : D.wait.length ≤ 1000000000) (hv : ∀ V, Below w.heap.size w V → Ints (fun j => j < w.heap.size) v keep V) (h : LD w p D W) :
    Calls Tryz.prog 10 #[.pointer (some ⟨p, 0, none⟩), v] W fun e W' => e = .returned (.int .i64 0) ∧ LD w p (D.crash keep) W' := by
  obtain ⟨⟨F, h⟩, hb⟩ := h
  have hi : Ints (fun b => ¬ F b) v keep W := by
    obtain ⟨ao, cap, b, off, e1, e2, e3, e4⟩ := hv W hb
    exact ⟨ao, cap, b, off, e1, e2, fun h0 => ⟨(e3 h0).1, (e3 h0).2.1, fun e => by have := (h.inF b e).1; have := (e3 h0).2.2; omega⟩, e4⟩
  exact (dCrash_any _ p F v D keep W hb.size (by omega) hi h).mono fun e W' g => ⟨g.1, LD.did h hb g.2⟩
theorem ld_waiting {w : World} {p : Nat} {D : DS} {W : World} (h : LD w p D W) :
    Calls Tryz.prog 12 #[.pointer (some ⟨p, 0, none⟩)] W fun e W' => e = .returned (.int .i64 (D.wait.length : Int)) ∧ W = W' := by
  obtain ⟨⟨F, h⟩, hb⟩ := h
  exact dWaiting_any _ p F D W h

set_option maxRecDepth 100000 in
set_option maxHeartbeats 1000000 in
theorem liknown_any (w : World) : Calls Tryz.prog 5 #[] w fun e w' => e = .returned (.bool true) ∧ Below w.heap.size w w' := by
  obtain ⟨D1, h1, h2, h3⟩ := known_plain
  have HN := Lib.hid (show Calls Tryz.prog 6 #[.int .i64 3] w _ from ld_new 3 w (by omega) (by omega))
  have HW := Lib.hid (fun p W (h : LD w p (DS.new 3) W) => by have g := ld_write 1 2 ⟨#[97, 98, 99]⟩ (by omega) (Nat.zero_le _) (Nat.zero_le _) h; rw [h1] at g; exact g)
  have HR := Lib.hid (fun p W (h : LD w p D1 W) => by have g := ld_read 1 2 h2 (by omega) h; rw [h3] at g; exact g)
  have H1 := Lib.hid (fun W => by have g := iSectors_any 120 W; rw [show secI 120 = 1 from by decide] at g; exact g)
  have H2 := Lib.hid (fun W => by have g := iSectors_any 121 W; rw [show secI 121 = 2 from by decide] at g; exact g)
  clear h1 h2 h3
  go_enter Tryz.func5, Tryz.ntmps5
  go_wp2_with (first
    | (go_at_call 6; go_must (with_reducible refine HN.out.mono ?_); rintro e w1 ⟨p, rfl, l1⟩; have HW1 := Lib.hid (HW.out p w1 l1); clear l1)
    | (go_at_call 7; go_must (with_reducible refine HW1.out.mono ?_); rintro e w2 ⟨rfl, l2⟩; have HR2 := Lib.hid (HR.out p w2 l2); clear l2)
    | (go_at_call 8; go_must (with_reducible refine HR2.out.mono ?_); rintro e w3 ⟨rfl, l3⟩; have L3 := Lib.hid l3; clear l3)
    | (go_at_call 14; (with_reducible refine (H1.out _).mono ?_); rintro e w4 ⟨rfl, rfl⟩)
    | (go_at_call 14; (with_reducible refine (H2.out _).mono ?_); rintro e w4 ⟨rfl, rfl⟩))
  go_ret
  exact ⟨rfl, L3.out.2⟩
end Go.Proofs.YtikeckmbfgidhaaGreatDoor

/- The law ImageBack: its walk. -/
namespace Go.Proofs.YtikeckmbfgidhaaGreatDoor
open Go.RowKit

theorem ints_nil (F : Nat → Prop) (W : World) : Ints F (.slice none 0 0) [] W :=
  ⟨none, 0, 0, 0, rfl, by decide, fun h => absurd h (by simp), fun i v hv => by simp at hv⟩
set_option maxRecDepth 100000 in
set_option maxHeartbeats 1000000 in
theorem back_long1 (a b : ByteArray) (w : World) (h : 1200 < a.size) : Calls Tryz.prog 3 #[.string a, .string b] w fun e w' => e = .returned (.bool true) ∧ Below w.heap.size w w' := by
  have d1 : decide ((a.size : Int) > 1200) = true := decide_eq_true (by omega)
  have HK := Lib.hid (fun W => liknown_any W)
  go_enter Tryz.func3, Tryz.ntmps3
  go_wp2_with (go_at_call 5; go_must (refine (HK.out _).mono ?_); rintro e w5 ⟨rfl, b5⟩)
  go_ret
  exact ⟨rfl, b5⟩
set_option maxRecDepth 100000 in
set_option maxHeartbeats 1000000 in
theorem back_long2 (a b : ByteArray) (w : World) (h0 : a.size ≤ 1200) (h : 1200 < b.size) : Calls Tryz.prog 3 #[.string a, .string b] w fun e w' => e = .returned (.bool true) ∧ Below w.heap.size w w' := by
  have d0 : decide ((a.size : Int) > 1200) = false := decide_eq_false (by omega)
  have d1 : decide ((b.size : Int) > 1200) = true := decide_eq_true (by omega)
  have HK := Lib.hid (fun W => liknown_any W)
  go_enter Tryz.func3, Tryz.ntmps3
  go_wp2_with (go_at_call 5; go_must (refine (HK.out _).mono ?_); rintro e w5 ⟨rfl, b5⟩)
  go_ret
  exact ⟨rfl, b5⟩
set_option maxRecDepth 100000 in
set_option maxHeartbeats 2000000 in
theorem back_do (a b : ByteArray) (w : World) (h0 : a.size ≤ 1200) (h1 : b.size ≤ 1200) : Calls Tryz.prog 3 #[.string a, .string b] w fun e w' => e = .returned (.bool true) ∧ Below w.heap.size w w' := by
  have d0 : decide ((a.size : Int) > 1200) = false := decide_eq_false (by omega)
  have d1 : decide ((b.size : Int) > 1200) = false := decide_eq_false (by omega)
  obtain ⟨D1, D2, D3, e1, e2, r1, r2, e3, a2, a4, r3, s1, s2, s3, s4, s5, s6⟩ := back_plain a b h0 h1
  have HN := Lib.hid (show Calls Tryz.prog 6 #[.int .i64 30] w _ from ld_new 30 w (by omega) (by omega))
  have HW1 := Lib.hid (fun p W (h : LD w p (DS.new 30) W) => by have g := ld_write 0 12 a (by omega) (Nat.zero_le _) (Nat.zero_le _) h; rw [show imgW (DS.new 30) 0 12 a = (0, D1) from e1] at g; exact g)
  have HW2 := Lib.hid (fun p W (h : LD w p D1 W) => by have g := ld_write 12 12 b (by omega) (by omega) (by omega) h; rw [show imgW D1 12 12 b = (0, D2) from e2] at g; exact g)
  have HR1 := Lib.hid (fun p W (h : LD w p D2 W) => by have g := ld_read 0 12 a2 (by omega) h; rw [show imgR D2 0 12 = (a, 0) from r1] at g; exact g)
  have HR2 := Lib.hid (fun p W (h : LD w p D2 W) => by have g := ld_read 12 12 a2 (by omega) h; rw [show imgR D2 12 12 = (b, 0) from r2] at g; exact g)
  have HB := Lib.hid (fun p W (h : LD w p D2 W) => by have g := ld_barrier (by omega) h; rw [e3] at g; exact g)
  have HC := Lib.hid (fun p W (h : LD w p D3 W) => ld_crash (.slice none 0 0) [] (by rw [s5]; exact Nat.zero_le _) (fun V _ => ints_nil _ V) h)
  have HR3 := Lib.hid (fun p W (h : LD w p (D3.crash []) W) => by have g := ld_read 0 12 a4 (by omega) h; rw [show imgR (D3.crash []) 0 12 = (a, 0) from r3 (by have := h.oks; rw [s6] at this; exact this)] at g; exact g)
  have HK := Lib.hid (fun W => liknown_any W)
  clear e1 e2 r1 r2 e3 a2 a4 r3 s1 s2 s3 s4 s5 s6 h0 h1
  go_enter Tryz.func3, Tryz.ntmps3
  go_wp2_with (first
    | (go_at_call 6; go_must (with_reducible refine HN.out.mono ?_); rintro e w1 ⟨p, rfl, l1⟩; have H1 := Lib.hid (HW1.out p w1 l1); clear l1)
    | (go_at_call 7; (with_reducible refine H1.out.mono ?_); rintro e w2 ⟨rfl, l2⟩; have H2 := Lib.hid (HW2.out p w2 l2); clear l2)
    | (go_at_call 7; (with_reducible refine H2.out.mono ?_); rintro e w3 ⟨rfl, l3⟩; have H3 := Lib.hid (HR1.out p w3 l3); clear l3)
    | (go_at_call 8; (with_reducible refine H3.out.mono ?_); rintro e w4 ⟨rfl, l4⟩; have H4 := Lib.hid (HR2.out p w4 l4); clear l4)
    | (go_at_call 8; (with_reducible refine H4.out.mono ?_); rintro e w5 ⟨rfl, l5⟩; have H5 := Lib.hid (HB.out p w5 l5); clear l5)
    | (go_at_call 9; (with_reducible refine H5.out.mono ?_); rintro e w6 ⟨rfl, l6⟩; have H6 := Lib.hid (HC.out p w6 l6); clear l6)
    | (go_at_call 10; (with_reducible refine H6.out.mono ?_); rintro e w7 ⟨rfl, l7⟩; have H7 := Lib.hid (HR3.out p w7 l7); clear l7)
    | (go_at_call 8; (with_reducible refine H7.out.mono ?_); rintro e w8 ⟨rfl, l8⟩; have L8 := Lib.hid l8; clear l8)
    | (go_at_call 5; go_must (refine (HK.out _).mono ?_); rintro e w9 ⟨rfl, b9⟩))
  go_ret
  exact ⟨rfl, L8.out.2.trans (b9.mono L8.out.2.size)⟩
theorem back_any (a b : ByteArray) (w : World) : Calls Tryz.prog 3 #[.string a, .string b] w fun e w' => e = .returned (.bool true) ∧ Below w.heap.size w w' := by
  by_cases h0 : 1200 < a.size
  · exact back_long1 a b w h0
  · by_cases h1 : 1200 < b.size
    · exact back_long2 a b w (by omega) h1
    · exact back_do a b w (by omega) (by omega)
end Go.Proofs.YtikeckmbfgidhaaGreatDoor
