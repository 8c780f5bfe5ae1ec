/- Calls: the functions that write their fields, each at whatever writer. -/
import Derived.Test.YtdjnadgcjmlejaaDoorCe
import Derived.Test.YtdjnadgcjmlejaaDoorCb
import Derived.Test.YtdjnadgcjmlejaaDoorCw
import Derived.Test.YtdjnadgcjmlejaaDoorRy
import Derived.StillTailTactics
namespace Go.Proofs.YtdjnadgcjmlejaaDoor
open Go.RowKit

theorem Wrote.undrew {T E : TypeId} {k : Nat} {r : Option Nat} {ys : List UInt8} {w w' : World} (h : Wrote T E k r ys w.drew w') : Wrote T E k r ys w w' := by
  obtain ⟨r', h1, h2, h3⟩ := h
  exact ⟨r', h1, keep_undrew h2, h3⟩

set_option maxRecDepth 100000 in
set_option maxHeartbeats 1000000 in
theorem cw1_any (k o b m : Nat) (most : Int) (t : ByteArray) (r : Option Nat) (xs : List UInt8) (w : World) (hl : xs.length ≤ 1073741800) (hc : w.cell? ⟨k, o, none⟩ = some (.string t)) (hp : w.cell? ⟨b, 0, none⟩ = some (.pointer (some ⟨m, 0, none⟩))) (h : Wr 60 5 m r xs w) :
    Calls Tryd.prog 34 #[.pointer (some ⟨k, o, none⟩), .int .i64 most, .pointer (some ⟨b, 0, none⟩)] w fun e w' => e = .returned (.tuple #[]) ∧ Wrote 60 5 m r (xs ++ (putOpaque t).2) w w' := by
  have HW := Lib.hid h.drew
  clear h
  go_enter Tryd.func34, Tryd.ntmps34
  go_wp2_with fail
  go_still_tail 4, (by kernel_rfl)
  change wpList _ _ _ _ _ w.drew
  go_wp2_with (first
      | (go_at_call 35; go_must (refine (wOpaque_any m r xs t _ hl HW.out).mono ?_); rintro e w1 ⟨rfl, hw⟩))
  go_end0
  exact ⟨rfl, hw.undrew⟩

set_option maxRecDepth 100000 in
set_option maxHeartbeats 1000000 in
theorem cw2_any (k o b m : Nat)  (n : Int) (r : Option Nat) (xs : List UInt8) (w : World) (hl : xs.length ≤ 1073741824) (hc : w.cell? ⟨k, o, none⟩ = some (.int .i64 n)) (hp : w.cell? ⟨b, 0, none⟩ = some (.pointer (some ⟨m, 0, none⟩))) (h : Wr 60 5 m r xs w) :
    Calls Tryd.prog 36 #[.pointer (some ⟨k, o, none⟩), .pointer (some ⟨b, 0, none⟩)] w fun e w' => e = .returned (.tuple #[]) ∧ Wrote 60 5 m r (xs ++ (putU32 n).2) w w' := by
  have HW := Lib.hid h.drew
  clear h
  go_enter Tryd.func36, Tryd.ntmps36
  go_wp2_with fail
  go_still_tail 4, (by kernel_rfl)
  change wpList _ _ _ _ _ w.drew
  go_wp2_with (first
      | (go_at_call 37; go_must (refine (wU32_any m r xs n _ hl HW.out).mono ?_); rintro e w1 ⟨rfl, hw⟩))
  go_end0
  exact ⟨rfl, hw.undrew⟩

set_option maxRecDepth 100000 in
set_option maxHeartbeats 1000000 in
theorem cw3_any (k o b m : Nat)  (n : Int) (r : Option Nat) (xs : List UInt8) (w : World) (hl : xs.length ≤ 1073741824) (hc : w.cell? ⟨k, o, none⟩ = some (.int .i64 n)) (hp : w.cell? ⟨b, 0, none⟩ = some (.pointer (some ⟨m, 0, none⟩))) (h : Wr 60 5 m r xs w) :
    Calls Tryd.prog 38 #[.pointer (some ⟨k, o, none⟩), .pointer (some ⟨b, 0, none⟩)] w fun e w' => e = .returned (.tuple #[]) ∧ Wrote 60 5 m r (xs ++ (putU64 n).2) w w' := by
  have HW := Lib.hid h.drew
  clear h
  go_enter Tryd.func38, Tryd.ntmps38
  go_wp2_with fail
  go_still_tail 4, (by kernel_rfl)
  change wpList _ _ _ _ _ w.drew
  go_wp2_with (first
      | (go_at_call 39; go_must (refine (wU64_any m r xs n _ hl HW.out).mono ?_); rintro e w1 ⟨rfl, hw⟩))
  go_end0
  exact ⟨rfl, hw.undrew⟩

set_option maxRecDepth 100000 in
set_option maxHeartbeats 1000000 in
theorem cw4_any (k b m : Nat)  (is : Bool) (n : Int) (r : Option Nat) (xs : List UInt8) (w : World) (hl : xs.length ≤ 1073741800) (hc : w.cell? ⟨k, 19, none⟩ = some (.bool is)) (hc1 : w.cell? ⟨k, 20, none⟩ = some (.int .i64 n)) (hp : w.cell? ⟨b, 0, none⟩ = some (.pointer (some ⟨m, 0, none⟩))) (h : Wr 60 5 m r xs w) :
    Calls Tryd.prog 40 #[.pointer (some ⟨k, 19, none⟩), .pointer (some ⟨b, 0, none⟩)] w fun e w' => e = .returned (.tuple #[]) ∧ Wrote 60 5 m r (xs ++ (putOpt is n).2) w w' := by
  have HW := Lib.hid h.drew
  clear h
  go_enter Tryd.func40, Tryd.ntmps40
  go_wp2_with fail
  go_still_tail 4, (by kernel_rfl)
  change wpList _ _ _ _ _ w.drew
  go_wp2_with (first
      | (go_at_call 41; go_must (refine (wOpt_any m r xs is n _ hl HW.out).mono ?_); rintro e w1 ⟨rfl, hw⟩))
  go_end0
  exact ⟨rfl, hw.undrew⟩

set_option maxRecDepth 100000 in
set_option maxHeartbeats 1000000 in
theorem cw5_any (k b m : Nat)  (s : Ps) (r : Option Nat) (xs : List UInt8) (w : World) (hl : xs.length ≤ 1073741000) (c0 : w.cell? ⟨k, 9, none⟩ = some (.bool s.mode.is)) (c1 : w.cell? ⟨k, 10, none⟩ = some (.int .i64 s.mode.n)) (c2 : w.cell? ⟨k, 11, none⟩ = some (.bool s.uid.is)) (c3 : w.cell? ⟨k, 12, none⟩ = some (.int .i64 s.uid.n)) (c4 : w.cell? ⟨k, 13, none⟩ = some (.bool s.gid.is)) (c5 : w.cell? ⟨k, 14, none⟩ = some (.int .i64 s.gid.n)) (c6 : w.cell? ⟨k, 15, none⟩ = some (.bool s.size.is)) (c7 : w.cell? ⟨k, 16, none⟩ = some (.int .i64 s.size.n)) (c8 : w.cell? ⟨k, 17, none⟩ = some (.bool s.time.is)) (c9 : w.cell? ⟨k, 18, none⟩ = some (.int .i64 s.time.n)) (hp : w.cell? ⟨b, 0, none⟩ = some (.pointer (some ⟨m, 0, none⟩))) (h : Wr 60 5 m r xs w) :
    Calls Tryd.prog 42 #[.pointer (some ⟨k, 9, none⟩), .pointer (some ⟨b, 0, none⟩)] w fun e w' => e = .returned (.tuple #[]) ∧ Wrote 60 5 m r (xs ++ psPut s) w w' := by
  have HP := Lib.hid (fun w h => aPutSet_at m r xs s w hl h)
  have HW := Lib.hid h.drew
  obtain ⟨ps, hps⟩ : ∃ p, p = psPut s := ⟨_, rfl⟩
  obtain ⟨er, her⟩ : ∃ p : Int, p = if okPs s then 0 else 14 := ⟨_, rfl⟩
  rw [← hps] at HP ⊢
  rw [← her] at HP
  clear hps her
  obtain ⟨⟨i0, n0⟩, ⟨i1, n1⟩, ⟨i2, n2⟩, ⟨i3, n3⟩, ⟨i4, n4⟩⟩ := s
  simp only [Ps.val, Ps.vs, Po.vs, List.cons_append, List.nil_append] at HP c0 c1 c2 c3 c4 c5 c6 c7 c8 c9
  replace HP := HP
  clear h
  go_enter Tryd.func42, Tryd.ntmps42
  go_wp2_with fail
  go_still_tail 4, (by kernel_rfl)
  change wpList _ _ _ _ _ w.drew
  go_wp2_with (first
      | (go_at_call 43; go_must (refine (HP.out _ HW.out).mono ?_); rintro e w1 ⟨rfl, hw⟩))
  go_end0
  exact ⟨rfl, hw.undrew⟩
end Go.Proofs.YtdjnadgcjmlejaaDoor
