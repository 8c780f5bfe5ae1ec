/- Several texts in one: Il Iw. -/
import Derived.Test.YtikeckmbfgidhaaDoorZz27
import Derived.Test.YtikeckmbfgidhaaDoorZz28
import Derived.Test.YtikeckmbfgidhaaDoorZz29
/- Texts in areas of a disk: a disk of a law's own; the fixed calls that end each statement. -/
namespace Go.Proofs.YtikeckmbfgidhaaDoor
open Go.RowKit

/-- A disk that was made behind w. -/
def LD (w : World) (p : Nat) (D : DS) (W : World) : Prop := (∃ F, PD w.heap.size p F D W) ∧ Below w.heap.size w W
theorem LD.oks {w : World} {p : Nat} {D : DS} {W : World} (h : LD w p D W) : D.ok D.kept.length := by
  obtain ⟨⟨F, h⟩, _⟩ := h
  exact h.oks
theorem LD.did {w : World} {p : Nat} {D D' : DS} {F : Nat → Prop} {W W' : World} (h : PD w.heap.size p F D W) (hb : Below w.heap.size w W) (g : PDid w.heap.size p F D' W W') : LD w p D' W' :=
  ⟨⟨_, g.1⟩, hb.trans (g.2.below hb.size fun j hj => (h.inF j hj).1)⟩
theorem LD.below {w : World} {p : Nat} {D : DS} {W W' : World} (h : LD w p D W) (b : Below W.heap.size W W') : LD w p D W' := by
  obtain ⟨⟨F, h⟩, hb⟩ := h
  exact ⟨⟨F, h.keep (Frm.of_below (F := None1) b) fun _ _ e => e⟩, hb.trans (b.mono hb.size)⟩
theorem ld_new (n : Nat) (w : World) (h1 : 1 ≤ n) (hn : n ≤ 65536) : Calls Tryd.prog 9 #[.int .i64 n] w fun e w' => ∃ p, e = .returned (.tuple #[.pointer (some ⟨p, 0, none⟩), .int .i64 0]) ∧ LD w p (DS.new n) w' :=
  (dNew_ok n w h1 hn).mono fun _ _ ⟨p, he, hp, hb⟩ => ⟨p, he, ⟨_, hp⟩, hb⟩
theorem ld_write {w : World} {p : Nat} {D : DS} {W : World} (f c : Int) (s : ByteArray) (hc : c ≤ 9223372036854775807) (hl : D.wait.length ≤ 1000000000) (hr : D.wr ≤ 1000000000) (h : LD w p D W) :
    Calls Tryd.prog 8 #[.pointer (some ⟨p, 0, none⟩), .int .i64 f, .int .i64 c, .string s] W fun e W' => e = .returned (.int .i64 (imgW D f c s).1) ∧ LD w p (imgW D f c s).2 W' := by
  obtain ⟨⟨F, h⟩, hb⟩ := h
  exact (iWrite_any _ p F D f c s W hb.size hc hl hr h).mono fun e W' g => ⟨g.1, LD.did h hb g.2⟩
theorem ld_read {w : World} {p : Nat} {D : DS} {W : World} (f c : Int) (hd : D.dead = false) (hc : c ≤ 9223372036854775807) (h : LD w p D W) :
    Calls Tryd.prog 5 #[.pointer (some ⟨p, 0, none⟩), .int .i64 f, .int .i64 c] W fun e W' => e = .returned (.tuple #[.string (imgR D f c).1, .int .i64 (imgR D f c).2]) ∧ LD w p D W' := by
  have h2 := h
  obtain ⟨⟨F, h⟩, hb⟩ := h
  exact (iRead_any _ p F D f c W hd hc h).mono fun e W' g => ⟨g.1, h2.below g.2⟩
set_option maxRecDepth 100000 in
set_option maxHeartbeats 1000000 in
theorem liknown_any (w : World) : Calls Tryd.prog 4 #[] w fun e w' => e = .returned (.bool true) ∧ Below w.heap.size w w' := by
  obtain ⟨D1, h1, h2, h3⟩ := known_plain
  have HN := Lib.hid (show Calls Tryd.prog 9 #[.int .i64 3] w _ from ld_new 3 w (by omega) (by omega))
  have HW := Lib.hid (fun p W (h : LD w p (DS.new 3) W) => by have g := ld_write 1 2 ⟨#[97, 98, 99]⟩ (by omega) (Nat.zero_le _) (Nat.zero_le _) h; rw [h1] at g; exact g)
  have HR := Lib.hid (fun p W (h : LD w p D1 W) => by have g := ld_read 1 2 h2 (by omega) h; rw [h3] at g; exact g)
  have H1 := Lib.hid (fun W => by have g := iSectors_any 120 W; rw [show secI 120 = 1 from by decide] at g; exact g)
  have H2 := Lib.hid (fun W => by have g := iSectors_any 121 W; rw [show secI 121 = 2 from by decide] at g; exact g)
  clear h1 h2 h3
  go_enter Tryd.func4, Tryd.ntmps4
  go_wp2_with (first
    | (go_at_call 9; go_must (with_reducible refine HN.out.mono ?_); rintro e w1 ⟨p, rfl, l1⟩; have HW1 := Lib.hid (HW.out p w1 l1); clear l1)
    | (go_at_call 8; go_must (with_reducible refine HW1.out.mono ?_); rintro e w2 ⟨rfl, l2⟩; have HR2 := Lib.hid (HR.out p w2 l2); clear l2)
    | (go_at_call 5; go_must (with_reducible refine HR2.out.mono ?_); rintro e w3 ⟨rfl, l3⟩; have L3 := Lib.hid l3; clear l3)
    | (go_at_call 6; (with_reducible refine (H1.out _).mono ?_); rintro e w4 ⟨rfl, rfl⟩)
    | (go_at_call 6; (with_reducible refine (H2.out _).mono ?_); rintro e w4 ⟨rfl, rfl⟩))
  go_ret
  exact ⟨rfl, L3.out.2⟩
end Go.Proofs.YtikeckmbfgidhaaDoor

/- The law ImageSectors: its walk. -/
namespace Go.Proofs.YtikeckmbfgidhaaDoor
open Go.RowKit

set_option maxRecDepth 100000 in
set_option maxHeartbeats 1000000 in
theorem sectors_long (n : Int) (s : ByteArray) (w : World) (h : 1000 < s.size) : Calls Tryd.prog 3 #[.int .i64 n, .string s] w fun e w' => e = .returned (.bool true) ∧ Below w.heap.size w w' := by
  have d1 : decide ((s.size : Int) > 1000) = true := decide_eq_true (by omega)
  have HK := Lib.hid (fun W => liknown_any W)
  go_enter Tryd.func3, Tryd.ntmps3
  go_wp2_with (go_at_call 4; go_must (refine (HK.out _).mono ?_); rintro e w5 ⟨rfl, b5⟩)
  go_ret
  exact ⟨rfl, b5⟩
set_option maxRecDepth 100000 in
set_option maxHeartbeats 1000000 in
theorem sectors_do (n : Int) (s : ByteArray) (w : World) (h : s.size ≤ 1000) : Calls Tryd.prog 3 #[.int .i64 n, .string s] w fun e w' => e = .returned (.bool true) ∧ Below w.heap.size w w' := by
  have d1 : decide ((s.size : Int) > 1000) = false := decide_eq_false (by omega)
  have HK := Lib.hid (fun W => liknown_any W)
  have HR := Lib.hid (fun W => iRead_no n n W)
  have HS := Lib.hid (fun W => iSectors_any n W)
  have HT := Lib.hid (fun W => riSectors_any n W)
  have HW := Lib.hid (fun W => iWrite_no n n s W)
  generalize secI n = q at HS HT
  clear h
  go_enter Tryd.func3, Tryd.ntmps3
  go_wp2_with (first
    | (go_at_call 5; go_must (refine (HR.out _).mono ?_); rintro e w1 ⟨rfl, b1⟩; have B1 := Lib.hid b1; clear b1)
    | (go_at_call 6; go_must (refine (HS.out _).mono ?_); rintro e w2 ⟨rfl, rfl⟩)
    | (go_at_call 7; go_must (refine (HT.out _).mono ?_); rintro e w3 ⟨rfl, rfl⟩)
    | (go_at_call 8; go_must (refine (HW.out _).mono ?_); rintro e w4 ⟨rfl, b4⟩; have B4 := Lib.hid (B1.out.trans (b4.mono B1.out.size)); clear b4)
    | (go_at_call 4; go_must (refine (HK.out _).mono ?_); rintro e w5 ⟨rfl, b5⟩; have B5 := Lib.hid (B4.out.trans (b5.mono B4.out.size)); clear b5))
  go_ret
  exact ⟨rfl, B5.out⟩
theorem sectors_any (n : Int) (s : ByteArray) (w : World) : Calls Tryd.prog 3 #[.int .i64 n, .string s] w fun e w' => e = .returned (.bool true) ∧ Below w.heap.size w w' := by
  by_cases h : 1000 < s.size
  · exact sectors_long n s w h
  · exact sectors_do n s w (by omega)
end Go.Proofs.YtikeckmbfgidhaaDoor
