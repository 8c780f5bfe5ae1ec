/- Several texts in one: Ry Rz. -/
import Derived.Deep.RegionHeld3
import Derived.Test.YtikeckmbfgidhaaGreatDoorZy17
import Derived.Test.YtikeckmbfgidhaaGreatDoorZy20
/- Texts that are read: take with a fixed text's function; Fixed, Opaque, Opt of a reader. -/
namespace Go.Proofs.YtikeckmbfgidhaaGreatDoor
open Go.RowKit

theorem ext_first (s : ByteArray) (n m : Nat) (h : n ≤ m) : (s.extract 0 m).extract 0 n = s.extract 0 n := by
  apply ByteArray.ext
  simp [ByteArray.data_extract, Array.extract_extract, Nat.min_eq_left h]
theorem ext_last (s : ByteArray) (n m : Nat) (hm : m ≤ s.size) : (s.extract 0 m).extract n (s.extract 0 m).size = s.extract n m := by
  apply ByteArray.ext
  have e : (s.extract 0 m).size = m := by rw [ByteArray.size_extract]; omega
  rw [e]
  simp [ByteArray.data_extract, Array.extract_extract]

set_option maxRecDepth 100000 in
theorem rtake_Fixed (k bn bs n m : Nat) (s : ByteArray) (v0 : Value) (w : World) (h1 : k ≠ bn) (h2 : k ≠ bs) (hn : n ≤ m) (hm : m ≤ s.size) (hsz : s.size ≤ 1073741824) (hz : allZero (s.extract n m).data.toList = true) (h : Rd k s 0 w) (hbn : St 3 bn #[.int .i64 n] w) (hbs : St 9 bs #[v0] w) :
    Calls Tryz.prog 40 #[.pointer (some ⟨k, 0, none⟩), .int .i64 m, .func (.func 53) #[] #[.pointer (some ⟨bn, 0, none⟩), .pointer (some ⟨bs, 0, none⟩)]] w fun r w' => r = .returned (.tuple #[]) ∧ Rd k (s.extract m s.size) 0 w' ∧ St 9 bs #[.string (s.extract 0 n)] w' ∧ Keep k (some bs) w w' := by
  have c0 := St.cell h (j := 0) rfl
  have f0 := St.free h 0
  have hps : (s.extract 0 m).size = m := by rw [ByteArray.size_extract]; omega
  have g1 : Rd k (s.extract m s.size) 0 (w.setCell ⟨k, 0, none⟩ (.string (s.extract m s.size))) := by
    have := St.set h 0 (.string (s.extract m s.size))
    exact this
  have hc := cFixed (s.extract 0 m) bn bs n v0 (w.setCell ⟨k, 0, none⟩ (.string (s.extract m s.size))) (by omega) (by omega) (by rw [ext_last s n m hm]; exact hz) (hbn.other _ _ _ h1) (hbs.other _ _ _ h2)
  rw [ext_first s n m hn] at hc
  have HC := Lib.hid hc
  clear hc hz
  go_enter Tryz.func40, Tryz.ntmps40
  go_wp2_with (first | (go_at_call 50; go_must (refine (rErr_at k s 0 _ h).mono ?_); rintro e w1 ⟨rfl, rfl⟩) | (go_at_call 53; go_must (refine HC.out.mono ?_); rintro e w2 ⟨rfl, hst2, hk2⟩))
  go_returns
  exact ⟨rfl, Rd.keep g1 hk2 h2 (by simp), hst2, keep_two k bs _ hk2⟩

set_option maxRecDepth 100000 in
theorem rtake_Fixed_not (k bn bs n m : Nat) (s : ByteArray) (v0 : Value) (w : World) (h1 : k ≠ bn) (h2 : k ≠ bs) (hn : n ≤ m) (hm : m ≤ s.size) (hsz : s.size ≤ 1073741824) (hz : allZero (s.extract n m).data.toList = false) (h : Rd k s 0 w) (hbn : St 3 bn #[.int .i64 n] w) (hbs : St 9 bs #[v0] w) :
    Calls Tryz.prog 40 #[.pointer (some ⟨k, 0, none⟩), .int .i64 m, .func (.func 53) #[] #[.pointer (some ⟨bn, 0, none⟩), .pointer (some ⟨bs, 0, none⟩)]] w fun r w' => r = .returned (.tuple #[]) ∧ Rd k ⟨#[]⟩ 11 w' ∧ St 9 bs #[v0] w' ∧ Keep k (some bs) w w' := by
  have c0 := St.cell h (j := 0) rfl
  have f0 := St.free h 0
  have hps : (s.extract 0 m).size = m := by rw [ByteArray.size_extract]; omega
  have g1 : Rd k (s.extract m s.size) 0 (w.setCell ⟨k, 0, none⟩ (.string (s.extract m s.size))) := by
    have := St.set h 0 (.string (s.extract m s.size))
    exact this
  have hc := cFixed_not (s.extract 0 m) bn bs n v0 (w.setCell ⟨k, 0, none⟩ (.string (s.extract m s.size))) (by omega) (by omega) (by rw [ext_last s n m hm]; exact hz) (hbn.other _ _ _ h1) (hbs.other _ _ _ h2)
  have HC := Lib.hid hc
  clear hc hz
  go_enter Tryz.func40, Tryz.ntmps40
  go_wp2_with (first | (go_at_call 50; go_must (refine (rErr_at k s 0 _ h).mono ?_); rintro e w1 ⟨rfl, rfl⟩) | (go_at_call 53; go_must (refine HC.out.mono ?_); rintro e w2 ⟨rfl, hst2, hk2⟩) | (go_at_call 51; go_must (refine (rfail_at k _ 11 _ (Rd.keep g1 hk2 h2 (by simp))).mono ?_); rintro e w3 ⟨rfl, hr3, hk3⟩))
  go_returns
  exact ⟨rfl, hr3, St.keep hst2 hk3 (Ne.symm h2) (by simp), keep_three k bs _ hk2 hk3⟩

def rdFail (c : Int) (s : ByteArray) (e : Int) : ByteArray × Int := if e ≠ 0 then (s, e) else (⟨#[]⟩, c)
theorem rfail_any (k : Nat) (s : ByteArray) (e c : Int) (w : World) (h : Rd k s e w) :
    Calls Tryz.prog 51 #[.pointer (some ⟨k, 0, none⟩), .int .i64 c] w fun r w' => r = .returned (.tuple #[]) ∧ Rd k (rdFail c s e).1 (rdFail c s e).2 w' ∧ Keep k none w w' := by
  by_cases he : e = 0
  · subst he
    have ed : rdFail c s 0 = (⟨#[]⟩, c) := by simp [rdFail]
    rw [ed]
    exact rfail_at k s c w h
  · have ed : rdFail c s e = (s, e) := by simp [rdFail, he]
    rw [ed]
    refine (rfail_no k s e c w he h).mono fun r w' ⟨hr, hw⟩ => ?_
    subst hw
    exact ⟨hr, h, Keep.refl _ _ _⟩

def rdFixed (n : Int) (s : ByteArray) (e : Int) : ByteArray × Int × ByteArray :=
  if n < 0 then ((rdFail 2 s e).1, (rdFail 2 s e).2, ⟨#[]⟩)
  else if (s.size : Int) < n then ((rdFail 10 s e).1, (rdFail 10 s e).2, ⟨#[]⟩)
  else if e ≠ 0 then (s, e, ⟨#[]⟩)
  else if s.size < n.toNat + padN n.toNat then (⟨#[]⟩, 10, ⟨#[]⟩)
  else if allZero (s.extract n.toNat (n.toNat + padN n.toNat)).data.toList = false then (⟨#[]⟩, 11, ⟨#[]⟩)
  else (s.extract (n.toNat + padN n.toNat) s.size, 0, s.extract 0 n.toNat)

theorem keep_two_boxed {k : Nat} {o u : Obj} {w w' : World} (h : Keep k (some (w.heap.size + 1)) ((w.alloc o).alloc u) w') : Keep k none w w' :=
  keep_boxed1 (o := o) (keep_boxed (o := u) (by simpa using h))
theorem rtake_nothing (k : Nat) (s : ByteArray) (e n : Int) (f : Value) (w : World) (he : e ≠ 0) (h : Rd k s e w) :
    Calls Tryz.prog 40 #[.pointer (some ⟨k, 0, none⟩), .int .i64 n, f] w fun r w' => r = .returned (.tuple #[]) ∧ Rd k s e w' ∧ Keep k none w w' :=
  (rtake_no k s e n f w he h).mono fun r w' ⟨hr, hw⟩ => by subst hw; exact ⟨hr, h, Keep.refl _ _ _⟩
theorem keep_undrew {k : Nat} {r : Option Nat} {w w' : World} (h : Keep k r w.drew w') : Keep k r w w' := ⟨h.os, h.tape, h.output, h.size, h.block⟩

set_option maxRecDepth 100000 in
theorem rFixed_low (k : Nat) (n : Int) (s : ByteArray) (e : Int) (w : World) (hn : n < 0) (h : Rd k s e w) :
    Calls Tryz.prog 43 #[.pointer (some ⟨k, 0, none⟩), .int .i64 n] w fun r w' => Took k (rdFail 2 s e).1 (rdFail 2 s e).2 (.string ⟨#[]⟩) w r w' := by
  have hmf : ∀ (fn : Fn) (first cap : Array Value) (w : World), (Instr.makeFunc fn first cap).run Tryz.prog w = .ok (.func fn first cap) w := fun _ _ _ _ => rfl
  have hk1 : k ≠ w.heap.size := Nat.ne_of_lt (St.lt h)
  have hk2 : k ≠ w.heap.size + 1 := by have := St.lt h; omega
  have hR2 : Rd k s e ((w.alloc (.cells #[.int .i64 n] 3 (0, 0))).alloc (.cells #[.string ⟨#[]⟩] 9 (0, 0))) := St.alloc (St.alloc h _) _
  have hR3 : Rd k s e ((w.alloc (.cells #[.int .i64 n] 3 (0, 0))).alloc (.cells #[.string ⟨#[]⟩] 9 (0, 0))).drew := hR2
  have hR4 : Rd k s e ((w.alloc (.cells #[.int .i64 n] 3 (0, 0))).alloc (.cells #[.string ⟨#[]⟩] 9 (0, 0))).drew.drew := hR2
  have hA2 : St 3 w.heap.size #[.int .i64 n] ((w.alloc (.cells #[.int .i64 n] 3 (0, 0))).alloc (.cells #[.string ⟨#[]⟩] 9 (0, 0))) := (St.new w _ _).alloc _
  have hB2 : St 9 (w.heap.size + 1) #[.string ⟨#[]⟩] ((w.alloc (.cells #[.int .i64 n] 3 (0, 0))).alloc (.cells #[.string ⟨#[]⟩] 9 (0, 0))) := by
    have := St.new (w.alloc (.cells #[.int .i64 n] 3 (0, 0))) 9 #[.string ⟨#[]⟩]
    simpa using this
  have hB3 : St 9 (w.heap.size + 1) #[.string ⟨#[]⟩] ((w.alloc (.cells #[.int .i64 n] 3 (0, 0))).alloc (.cells #[.string ⟨#[]⟩] 9 (0, 0))).drew := hB2
  have hB4 : St 9 (w.heap.size + 1) #[.string ⟨#[]⟩] ((w.alloc (.cells #[.int .i64 n] 3 (0, 0))).alloc (.cells #[.string ⟨#[]⟩] 9 (0, 0))).drew.drew := hB2
  have hA4 : St 3 w.heap.size #[.int .i64 n] ((w.alloc (.cells #[.int .i64 n] 3 (0, 0))).alloc (.cells #[.string ⟨#[]⟩] 9 (0, 0))).drew.drew := hA2
  go_enter Tryz.func43, Tryz.ntmps43
  go_wp2_with (go_at_call 51; go_must (refine (rfail_any k s e 2 _ hR2).mono ?_); rintro e1 w1 ⟨rfl, hr, hk⟩; have hst := St.keep hB2 hk (Ne.symm hk2) (by simp); have cb := hst.cell (j := 0) rfl; have fb := hst.free 0)
  all_goals have g := (hst.set 0 (.string ⟨#[]⟩)).cell (j := 0) rfl
  all_goals exact bodyPost_ret (v := .string ⟨#[]⟩) (by simp [results, Tryz.results43, go_sem] at g ⊢; simp [g]) rfl ⟨rfl, St.other hr _ _ _ (Ne.symm hk2), keep_new (keep_boxed1 (keep_boxed1 hk)) (by omega) _ _⟩

set_option maxRecDepth 100000 in
theorem rFixed_high (k : Nat) (n : Int) (s : ByteArray) (e : Int) (w : World) (hn : 0 ≤ n) (hs : (s.size : Int) < n) (h : Rd k s e w) :
    Calls Tryz.prog 43 #[.pointer (some ⟨k, 0, none⟩), .int .i64 n] w fun r w' => Took k (rdFail 10 s e).1 (rdFail 10 s e).2 (.string ⟨#[]⟩) w r w' := by
  have hmf : ∀ (fn : Fn) (first cap : Array Value) (w : World), (Instr.makeFunc fn first cap).run Tryz.prog w = .ok (.func fn first cap) w := fun _ _ _ _ => rfl
  have hk1 : k ≠ w.heap.size := Nat.ne_of_lt (St.lt h)
  have hk2 : k ≠ w.heap.size + 1 := by have := St.lt h; omega
  have hR2 : Rd k s e ((w.alloc (.cells #[.int .i64 n] 3 (0, 0))).alloc (.cells #[.string ⟨#[]⟩] 9 (0, 0))) := St.alloc (St.alloc h _) _
  have hR3 : Rd k s e ((w.alloc (.cells #[.int .i64 n] 3 (0, 0))).alloc (.cells #[.string ⟨#[]⟩] 9 (0, 0))).drew := hR2
  have hR4 : Rd k s e ((w.alloc (.cells #[.int .i64 n] 3 (0, 0))).alloc (.cells #[.string ⟨#[]⟩] 9 (0, 0))).drew.drew := hR2
  have hA2 : St 3 w.heap.size #[.int .i64 n] ((w.alloc (.cells #[.int .i64 n] 3 (0, 0))).alloc (.cells #[.string ⟨#[]⟩] 9 (0, 0))) := (St.new w _ _).alloc _
  have hB2 : St 9 (w.heap.size + 1) #[.string ⟨#[]⟩] ((w.alloc (.cells #[.int .i64 n] 3 (0, 0))).alloc (.cells #[.string ⟨#[]⟩] 9 (0, 0))) := by
    have := St.new (w.alloc (.cells #[.int .i64 n] 3 (0, 0))) 9 #[.string ⟨#[]⟩]
    simpa using this
  have hB3 : St 9 (w.heap.size + 1) #[.string ⟨#[]⟩] ((w.alloc (.cells #[.int .i64 n] 3 (0, 0))).alloc (.cells #[.string ⟨#[]⟩] 9 (0, 0))).drew := hB2
  have hB4 : St 9 (w.heap.size + 1) #[.string ⟨#[]⟩] ((w.alloc (.cells #[.int .i64 n] 3 (0, 0))).alloc (.cells #[.string ⟨#[]⟩] 9 (0, 0))).drew.drew := hB2
  have hA4 : St 3 w.heap.size #[.int .i64 n] ((w.alloc (.cells #[.int .i64 n] 3 (0, 0))).alloc (.cells #[.string ⟨#[]⟩] 9 (0, 0))).drew.drew := hA2
  go_enter Tryz.func43, Tryz.ntmps43
  go_wp2_with fail
  go_region_held3 (fun w' => w'.cell? ⟨w.heap.size, 0, none⟩ = some (.int .i64 n)) (first | (simp; done) | assumption)
    (first | (go_at_call 52; go_must (refine (rLeft_at k s e _ hR3).mono ?_; rintro e1 w1 ⟨rfl, rfl⟩)))
  go_wp2_with (go_at_call 51; go_must (refine (rfail_any k s e 10 _ hR3).mono ?_); rintro e1 w1 ⟨rfl, hr, hk⟩; have hst := St.keep hB3 hk (Ne.symm hk2) (by simp); have cb := hst.cell (j := 0) rfl; have fb := hst.free 0)
  all_goals have g := (hst.set 0 (.string ⟨#[]⟩)).cell (j := 0) rfl
  all_goals exact bodyPost_ret (v := .string ⟨#[]⟩) (by simp [results, Tryz.results43, go_sem] at g ⊢; simp [g]) rfl ⟨rfl, St.other hr _ _ _ (Ne.symm hk2), keep_new (keep_boxed1 (keep_boxed1 (keep_undrew hk))) (by omega) _ _⟩

set_option maxRecDepth 100000 in
set_option maxHeartbeats 800000 in
theorem rFixed_short (k n m : Nat) (s : ByteArray) (w : World) (hsz : s.size ≤ 1073741824) (hn : n ≤ s.size) (hm : m = n + padN n) (hl : s.size < m) (h : Rd k s 0 w) :
    Calls Tryz.prog 43 #[.pointer (some ⟨k, 0, none⟩), .int .i64 n] w fun r w' => Took k ⟨#[]⟩ 10 (.string ⟨#[]⟩) w r w' := by
  have hmf : ∀ (fn : Fn) (first cap : Array Value) (w : World), (Instr.makeFunc fn first cap).run Tryz.prog w = .ok (.func fn first cap) w := fun _ _ _ _ => rfl
  have hk1 : k ≠ w.heap.size := Nat.ne_of_lt (St.lt h)
  have hk2 : k ≠ w.heap.size + 1 := by have := St.lt h; omega
  have hR2 : Rd k s 0 ((w.alloc (.cells #[.int .i64 n] 3 (0, 0))).alloc (.cells #[.string ⟨#[]⟩] 9 (0, 0))) := St.alloc (St.alloc h _) _
  have hR3 : Rd k s 0 ((w.alloc (.cells #[.int .i64 n] 3 (0, 0))).alloc (.cells #[.string ⟨#[]⟩] 9 (0, 0))).drew := hR2
  have hR4 : Rd k s 0 ((w.alloc (.cells #[.int .i64 n] 3 (0, 0))).alloc (.cells #[.string ⟨#[]⟩] 9 (0, 0))).drew.drew := hR2
  have hA2 : St 3 w.heap.size #[.int .i64 n] ((w.alloc (.cells #[.int .i64 n] 3 (0, 0))).alloc (.cells #[.string ⟨#[]⟩] 9 (0, 0))) := (St.new w _ _).alloc _
  have hB2 : St 9 (w.heap.size + 1) #[.string ⟨#[]⟩] ((w.alloc (.cells #[.int .i64 n] 3 (0, 0))).alloc (.cells #[.string ⟨#[]⟩] 9 (0, 0))) := by
    have := St.new (w.alloc (.cells #[.int .i64 n] 3 (0, 0))) 9 #[.string ⟨#[]⟩]
    simpa using this
  have hB3 : St 9 (w.heap.size + 1) #[.string ⟨#[]⟩] ((w.alloc (.cells #[.int .i64 n] 3 (0, 0))).alloc (.cells #[.string ⟨#[]⟩] 9 (0, 0))).drew := hB2
  have hB4 : St 9 (w.heap.size + 1) #[.string ⟨#[]⟩] ((w.alloc (.cells #[.int .i64 n] 3 (0, 0))).alloc (.cells #[.string ⟨#[]⟩] 9 (0, 0))).drew.drew := hB2
  have hA4 : St 3 w.heap.size #[.int .i64 n] ((w.alloc (.cells #[.int .i64 n] 3 (0, 0))).alloc (.cells #[.string ⟨#[]⟩] 9 (0, 0))).drew.drew := hA2
  have hp := padN_lt n
  have hw : IntKind.i64.wrap ((n : Int) + (padN n : Int)) = (m : Int) := by
    rw [hm, IntKind.wrap_i64]; omega
  have hn0 : decide ((n : Int) < 0) = false := by simp
  have hpad := Pad_nat n
  have hnm : n ≤ m := by omega
  have HM := Lib.hid hm
  have HPN := Lib.hid hp
  clear hm hp
  obtain ⟨q, hq⟩ : ∃ q, q = padN n := ⟨_, rfl⟩
  rw [← hq] at hw hpad
  clear hq
  go_enter Tryz.func43, Tryz.ntmps43
  go_wp2_with fail
  go_region_held3 (fun w' => w'.cell? ⟨w.heap.size, 0, none⟩ = some (.int .i64 n)) (first | (simp; done) | assumption)
    (first | (go_at_call 52; go_must (refine (rLeft_at k s 0 _ hR3).mono ?_; rintro e1 w1 ⟨rfl, rfl⟩)))
  go_wp2_with fail
  go_region_held3 (fun w' => w'.cell? ⟨w.heap.size, 0, none⟩ = some (.int .i64 n)) (first | (simp; done) | assumption)
    (first | (go_at_call 31; go_must (refine (hpad _).mono ?_; rintro e1 w1 ⟨rfl, rfl⟩)) | (go_at_call 40; go_must (refine (rtake_short k s m _ _ (by omega) hR4).mono ?_); rintro e2 w2 ⟨rfl, hr, hk⟩; have hst := St.keep hB4 hk (Ne.symm hk2) (by simp); have cb := hst.cell (j := 0) rfl; have fb := hst.free 0; have ha := (St.keep hA4 hk (Ne.symm hk1) (by simp)).cell (j := 0) rfl))
  all_goals go_wp2
  all_goals have g := (hst.set 0 (.string ⟨#[]⟩)).cell (j := 0) rfl
  all_goals exact bodyPost_ret (v := .string ⟨#[]⟩) (by simp [results, Tryz.results43, go_sem] at g ⊢; simp [g]) rfl ⟨rfl, St.other hr _ _ _ (Ne.symm hk2), keep_new (keep_boxed1 (keep_boxed1 (keep_undrew (keep_undrew hk)))) (by omega) _ _⟩

set_option maxRecDepth 100000 in
set_option maxHeartbeats 800000 in
theorem rFixed_err (k n m : Nat) (s : ByteArray) (e : Int) (w : World) (hsz : s.size ≤ 1073741824) (hn : n ≤ s.size) (hm : m = n + padN n) (he : e ≠ 0) (h : Rd k s e w) :
    Calls Tryz.prog 43 #[.pointer (some ⟨k, 0, none⟩), .int .i64 n] w fun r w' => Took k s e (.string ⟨#[]⟩) w r w' := by
  have hmf : ∀ (fn : Fn) (first cap : Array Value) (w : World), (Instr.makeFunc fn first cap).run Tryz.prog w = .ok (.func fn first cap) w := fun _ _ _ _ => rfl
  have hk1 : k ≠ w.heap.size := Nat.ne_of_lt (St.lt h)
  have hk2 : k ≠ w.heap.size + 1 := by have := St.lt h; omega
  have hR2 : Rd k s e ((w.alloc (.cells #[.int .i64 n] 3 (0, 0))).alloc (.cells #[.string ⟨#[]⟩] 9 (0, 0))) := St.alloc (St.alloc h _) _
  have hR3 : Rd k s e ((w.alloc (.cells #[.int .i64 n] 3 (0, 0))).alloc (.cells #[.string ⟨#[]⟩] 9 (0, 0))).drew := hR2
  have hR4 : Rd k s e ((w.alloc (.cells #[.int .i64 n] 3 (0, 0))).alloc (.cells #[.string ⟨#[]⟩] 9 (0, 0))).drew.drew := hR2
  have hA2 : St 3 w.heap.size #[.int .i64 n] ((w.alloc (.cells #[.int .i64 n] 3 (0, 0))).alloc (.cells #[.string ⟨#[]⟩] 9 (0, 0))) := (St.new w _ _).alloc _
  have hB2 : St 9 (w.heap.size + 1) #[.string ⟨#[]⟩] ((w.alloc (.cells #[.int .i64 n] 3 (0, 0))).alloc (.cells #[.string ⟨#[]⟩] 9 (0, 0))) := by
    have := St.new (w.alloc (.cells #[.int .i64 n] 3 (0, 0))) 9 #[.string ⟨#[]⟩]
    simpa using this
  have hB3 : St 9 (w.heap.size + 1) #[.string ⟨#[]⟩] ((w.alloc (.cells #[.int .i64 n] 3 (0, 0))).alloc (.cells #[.string ⟨#[]⟩] 9 (0, 0))).drew := hB2
  have hB4 : St 9 (w.heap.size + 1) #[.string ⟨#[]⟩] ((w.alloc (.cells #[.int .i64 n] 3 (0, 0))).alloc (.cells #[.string ⟨#[]⟩] 9 (0, 0))).drew.drew := hB2
  have hA4 : St 3 w.heap.size #[.int .i64 n] ((w.alloc (.cells #[.int .i64 n] 3 (0, 0))).alloc (.cells #[.string ⟨#[]⟩] 9 (0, 0))).drew.drew := hA2
  have hp := padN_lt n
  have hw : IntKind.i64.wrap ((n : Int) + (padN n : Int)) = (m : Int) := by
    rw [hm, IntKind.wrap_i64]; omega
  have hn0 : decide ((n : Int) < 0) = false := by simp
  have hpad := Pad_nat n
  have hnm : n ≤ m := by omega
  have HM := Lib.hid hm
  have HPN := Lib.hid hp
  clear hm hp
  obtain ⟨q, hq⟩ : ∃ q, q = padN n := ⟨_, rfl⟩
  rw [← hq] at hw hpad
  clear hq
  go_enter Tryz.func43, Tryz.ntmps43
  go_wp2_with fail
  go_region_held3 (fun w' => w'.cell? ⟨w.heap.size, 0, none⟩ = some (.int .i64 n)) (first | (simp; done) | assumption)
    (first | (go_at_call 52; go_must (refine (rLeft_at k s e _ hR3).mono ?_; rintro e1 w1 ⟨rfl, rfl⟩)))
  go_wp2_with fail
  go_region_held3 (fun w' => w'.cell? ⟨w.heap.size, 0, none⟩ = some (.int .i64 n)) (first | (simp; done) | assumption)
    (first | (go_at_call 31; go_must (refine (hpad _).mono ?_; rintro e1 w1 ⟨rfl, rfl⟩)) | (go_at_call 40; go_must (refine (rtake_nothing k s e m _ _ he hR4).mono ?_); rintro e2 w2 ⟨rfl, hr, hk⟩; have hst := St.keep hB4 hk (Ne.symm hk2) (by simp); have cb := hst.cell (j := 0) rfl; have fb := hst.free 0; have ha := (St.keep hA4 hk (Ne.symm hk1) (by simp)).cell (j := 0) rfl))
  all_goals go_wp2
  all_goals have g := (hst.set 0 (.string ⟨#[]⟩)).cell (j := 0) rfl
  all_goals exact bodyPost_ret (v := .string ⟨#[]⟩) (by simp [results, Tryz.results43, go_sem] at g ⊢; simp [g]) rfl ⟨rfl, St.other hr _ _ _ (Ne.symm hk2), keep_new (keep_boxed1 (keep_boxed1 (keep_undrew (keep_undrew hk)))) (by omega) _ _⟩

set_option maxRecDepth 100000 in
set_option maxHeartbeats 800000 in
theorem rFixed_not (k n m : Nat) (s : ByteArray) (w : World) (hsz : s.size ≤ 1073741824) (hn : n ≤ s.size) (hm : m = n + padN n) (hl : m ≤ s.size) (hz : allZero (s.extract n m).data.toList = false) (h : Rd k s 0 w) :
    Calls Tryz.prog 43 #[.pointer (some ⟨k, 0, none⟩), .int .i64 n] w fun r w' => Took k ⟨#[]⟩ 11 (.string ⟨#[]⟩) w r w' := by
  have hmf : ∀ (fn : Fn) (first cap : Array Value) (w : World), (Instr.makeFunc fn first cap).run Tryz.prog w = .ok (.func fn first cap) w := fun _ _ _ _ => rfl
  have hk1 : k ≠ w.heap.size := Nat.ne_of_lt (St.lt h)
  have hk2 : k ≠ w.heap.size + 1 := by have := St.lt h; omega
  have hR2 : Rd k s 0 ((w.alloc (.cells #[.int .i64 n] 3 (0, 0))).alloc (.cells #[.string ⟨#[]⟩] 9 (0, 0))) := St.alloc (St.alloc h _) _
  have hR3 : Rd k s 0 ((w.alloc (.cells #[.int .i64 n] 3 (0, 0))).alloc (.cells #[.string ⟨#[]⟩] 9 (0, 0))).drew := hR2
  have hR4 : Rd k s 0 ((w.alloc (.cells #[.int .i64 n] 3 (0, 0))).alloc (.cells #[.string ⟨#[]⟩] 9 (0, 0))).drew.drew := hR2
  have hA2 : St 3 w.heap.size #[.int .i64 n] ((w.alloc (.cells #[.int .i64 n] 3 (0, 0))).alloc (.cells #[.string ⟨#[]⟩] 9 (0, 0))) := (St.new w _ _).alloc _
  have hB2 : St 9 (w.heap.size + 1) #[.string ⟨#[]⟩] ((w.alloc (.cells #[.int .i64 n] 3 (0, 0))).alloc (.cells #[.string ⟨#[]⟩] 9 (0, 0))) := by
    have := St.new (w.alloc (.cells #[.int .i64 n] 3 (0, 0))) 9 #[.string ⟨#[]⟩]
    simpa using this
  have hB3 : St 9 (w.heap.size + 1) #[.string ⟨#[]⟩] ((w.alloc (.cells #[.int .i64 n] 3 (0, 0))).alloc (.cells #[.string ⟨#[]⟩] 9 (0, 0))).drew := hB2
  have hB4 : St 9 (w.heap.size + 1) #[.string ⟨#[]⟩] ((w.alloc (.cells #[.int .i64 n] 3 (0, 0))).alloc (.cells #[.string ⟨#[]⟩] 9 (0, 0))).drew.drew := hB2
  have hA4 : St 3 w.heap.size #[.int .i64 n] ((w.alloc (.cells #[.int .i64 n] 3 (0, 0))).alloc (.cells #[.string ⟨#[]⟩] 9 (0, 0))).drew.drew := hA2
  have hp := padN_lt n
  have hw : IntKind.i64.wrap ((n : Int) + (padN n : Int)) = (m : Int) := by
    rw [hm, IntKind.wrap_i64]; omega
  have hn0 : decide ((n : Int) < 0) = false := by simp
  have hpad := Pad_nat n
  have hnm : n ≤ m := by omega
  have HM := Lib.hid hm
  have HPN := Lib.hid hp
  clear hm hp
  obtain ⟨q, hq⟩ : ∃ q, q = padN n := ⟨_, rfl⟩
  rw [← hq] at hw hpad
  clear hq
  go_enter Tryz.func43, Tryz.ntmps43
  go_wp2_with fail
  go_region_held3 (fun w' => w'.cell? ⟨w.heap.size, 0, none⟩ = some (.int .i64 n)) (first | (simp; done) | assumption)
    (first | (go_at_call 52; go_must (refine (rLeft_at k s 0 _ hR3).mono ?_; rintro e1 w1 ⟨rfl, rfl⟩)))
  go_wp2_with fail
  go_region_held3 (fun w' => w'.cell? ⟨w.heap.size, 0, none⟩ = some (.int .i64 n)) (first | (simp; done) | assumption)
    (first | (go_at_call 31; go_must (refine (hpad _).mono ?_; rintro e1 w1 ⟨rfl, rfl⟩)) | (go_at_call 40; go_must (refine (rtake_Fixed_not k w.heap.size (w.heap.size + 1) n m s _ _ hk1 hk2 hnm hl hsz hz hR4 hA4 hB4).mono ?_); rintro e2 w2 ⟨rfl, hr, hst, hk⟩; have cb := hst.cell (j := 0) rfl; have fb := hst.free 0; have ha := (St.keep hA4 hk (Ne.symm hk1) (by simp)).cell (j := 0) rfl))
  all_goals go_wp2
  all_goals have g := (hst.set 0 (.string ⟨#[]⟩)).cell (j := 0) rfl
  all_goals exact bodyPost_ret (v := .string ⟨#[]⟩) (by simp [results, Tryz.results43, go_sem] at g ⊢; simp [g]) rfl ⟨rfl, St.other hr _ _ _ (Ne.symm hk2), keep_new (keep_two_boxed (keep_undrew (keep_undrew hk))) (by omega) _ _⟩

set_option maxRecDepth 100000 in
set_option maxHeartbeats 800000 in
theorem rFixed_ok (k n m : Nat) (s : ByteArray) (w : World) (hsz : s.size ≤ 1073741824) (hn : n ≤ s.size) (hm : m = n + padN n) (hl : m ≤ s.size) (hz : allZero (s.extract n m).data.toList = true) (h : Rd k s 0 w) :
    Calls Tryz.prog 43 #[.pointer (some ⟨k, 0, none⟩), .int .i64 n] w fun r w' => Took k (s.extract m s.size) 0 (.string (s.extract 0 n)) w r w' := by
  have hmf : ∀ (fn : Fn) (first cap : Array Value) (w : World), (Instr.makeFunc fn first cap).run Tryz.prog w = .ok (.func fn first cap) w := fun _ _ _ _ => rfl
  have hk1 : k ≠ w.heap.size := Nat.ne_of_lt (St.lt h)
  have hk2 : k ≠ w.heap.size + 1 := by have := St.lt h; omega
  have hR2 : Rd k s 0 ((w.alloc (.cells #[.int .i64 n] 3 (0, 0))).alloc (.cells #[.string ⟨#[]⟩] 9 (0, 0))) := St.alloc (St.alloc h _) _
  have hR3 : Rd k s 0 ((w.alloc (.cells #[.int .i64 n] 3 (0, 0))).alloc (.cells #[.string ⟨#[]⟩] 9 (0, 0))).drew := hR2
  have hR4 : Rd k s 0 ((w.alloc (.cells #[.int .i64 n] 3 (0, 0))).alloc (.cells #[.string ⟨#[]⟩] 9 (0, 0))).drew.drew := hR2
  have hA2 : St 3 w.heap.size #[.int .i64 n] ((w.alloc (.cells #[.int .i64 n] 3 (0, 0))).alloc (.cells #[.string ⟨#[]⟩] 9 (0, 0))) := (St.new w _ _).alloc _
  have hB2 : St 9 (w.heap.size + 1) #[.string ⟨#[]⟩] ((w.alloc (.cells #[.int .i64 n] 3 (0, 0))).alloc (.cells #[.string ⟨#[]⟩] 9 (0, 0))) := by
    have := St.new (w.alloc (.cells #[.int .i64 n] 3 (0, 0))) 9 #[.string ⟨#[]⟩]
    simpa using this
  have hB3 : St 9 (w.heap.size + 1) #[.string ⟨#[]⟩] ((w.alloc (.cells #[.int .i64 n] 3 (0, 0))).alloc (.cells #[.string ⟨#[]⟩] 9 (0, 0))).drew := hB2
  have hB4 : St 9 (w.heap.size + 1) #[.string ⟨#[]⟩] ((w.alloc (.cells #[.int .i64 n] 3 (0, 0))).alloc (.cells #[.string ⟨#[]⟩] 9 (0, 0))).drew.drew := hB2
  have hA4 : St 3 w.heap.size #[.int .i64 n] ((w.alloc (.cells #[.int .i64 n] 3 (0, 0))).alloc (.cells #[.string ⟨#[]⟩] 9 (0, 0))).drew.drew := hA2
  have hp := padN_lt n
  have hw : IntKind.i64.wrap ((n : Int) + (padN n : Int)) = (m : Int) := by
    rw [hm, IntKind.wrap_i64]; omega
  have hn0 : decide ((n : Int) < 0) = false := by simp
  have hpad := Pad_nat n
  have hnm : n ≤ m := by omega
  have HM := Lib.hid hm
  have HPN := Lib.hid hp
  clear hm hp
  obtain ⟨q, hq⟩ : ∃ q, q = padN n := ⟨_, rfl⟩
  rw [← hq] at hw hpad
  clear hq
  go_enter Tryz.func43, Tryz.ntmps43
  go_wp2_with fail
  go_region_held3 (fun w' => w'.cell? ⟨w.heap.size, 0, none⟩ = some (.int .i64 n)) (first | (simp; done) | assumption)
    (first | (go_at_call 52; go_must (refine (rLeft_at k s 0 _ hR3).mono ?_; rintro e1 w1 ⟨rfl, rfl⟩)))
  go_wp2_with fail
  go_region_held3 (fun w' => w'.cell? ⟨w.heap.size, 0, none⟩ = some (.int .i64 n)) (first | (simp; done) | assumption)
    (first | (go_at_call 31; go_must (refine (hpad _).mono ?_; rintro e1 w1 ⟨rfl, rfl⟩)) | (go_at_call 40; go_must (refine (rtake_Fixed k w.heap.size (w.heap.size + 1) n m s _ _ hk1 hk2 hnm hl hsz hz hR4 hA4 hB4).mono ?_); rintro e2 w2 ⟨rfl, hr, hst, hk⟩; have cb := hst.cell (j := 0) rfl; have fb := hst.free 0; have ha := (St.keep hA4 hk (Ne.symm hk1) (by simp)).cell (j := 0) rfl))
  all_goals go_wp2
  all_goals have g := (hst.set 0 (.string (s.extract 0 n))).cell (j := 0) rfl
  all_goals exact bodyPost_ret (v := .string (s.extract 0 n)) (by simp [results, Tryz.results43, go_sem] at g ⊢; simp [g]) rfl ⟨rfl, St.other hr _ _ _ (Ne.symm hk2), keep_new (keep_two_boxed (keep_undrew (keep_undrew hk))) (by omega) _ _⟩

end Go.Proofs.YtikeckmbfgidhaaGreatDoor

/- Fixed, Opaque and Opt of a reader, whole; the law's take over a reader. -/
namespace Go.Proofs.YtikeckmbfgidhaaGreatDoor
open Go.RowKit

theorem rFixed_any (k : Nat) (n : Int) (s : ByteArray) (e : Int) (w : World) (hsz : s.size ≤ 1073741824) (h : Rd k s e w) :
    Calls Tryz.prog 43 #[.pointer (some ⟨k, 0, none⟩), .int .i64 n] w fun r w' => Took k (rdFixed n s e).1 (rdFixed n s e).2.1 (.string (rdFixed n s e).2.2) w r w' := by
  by_cases h1 : n < 0
  · have ed : rdFixed n s e = ((rdFail 2 s e).1, (rdFail 2 s e).2, ⟨#[]⟩) := by unfold rdFixed; rw [if_pos h1]
    rw [ed]
    exact rFixed_low k n s e w h1 h
  · by_cases h2 : (s.size : Int) < n
    · have ed : rdFixed n s e = ((rdFail 10 s e).1, (rdFail 10 s e).2, ⟨#[]⟩) := by unfold rdFixed; rw [if_neg h1, if_pos h2]
      rw [ed]
      exact rFixed_high k n s e w (by omega) h2 h
    · obtain ⟨m, rfl⟩ : ∃ m : Nat, n = m := ⟨n.toNat, by omega⟩
      by_cases he : e = 0
      · subst he
        by_cases h3 : s.size < m + padN m
        · have ed : rdFixed m s 0 = (⟨#[]⟩, 10, ⟨#[]⟩) := by unfold rdFixed; rw [if_neg h1, if_neg h2, if_neg (by simp), if_pos (by simpa using h3)]
          rw [ed]
          exact rFixed_short k m _ s w hsz (by omega) rfl h3 h
        · by_cases h4 : allZero (s.extract m (m + padN m)).data.toList = false
          · have ed : rdFixed m s 0 = (⟨#[]⟩, 11, ⟨#[]⟩) := by unfold rdFixed; rw [if_neg h1, if_neg h2, if_neg (by simp), if_neg (by simpa using h3), if_pos (by rw [Int.toNat_natCast]; exact h4)]
            rw [ed]
            exact rFixed_not k m _ s w hsz (by omega) rfl (by omega) h4 h
          · have ed : rdFixed m s 0 = (s.extract (m + padN m) s.size, 0, s.extract 0 m) := by unfold rdFixed; rw [if_neg h1, if_neg h2, if_neg (by simp), if_neg (by simpa using h3), if_neg (by rw [Int.toNat_natCast]; exact h4), Int.toNat_natCast]
            rw [ed]
            exact rFixed_ok k m _ s w hsz (by omega) rfl (by omega) (by simpa using h4) h
      · have ed : rdFixed m s e = (s, e, ⟨#[]⟩) := by unfold rdFixed; rw [if_neg h1, if_neg h2, if_pos he]
        rw [ed]
        exact rFixed_err k m _ s e w hsz (by omega) rfl he h

theorem rdU32_le (s : ByteArray) (e : Int) : (rdU32 s e).1.size ≤ s.size := by
  unfold rdU32; split
  · exact Nat.le_refl _
  · split
    · exact Nat.zero_le _
    · simp only [ByteArray.size_extract]; omega
theorem rdBool_le (s : ByteArray) (e : Int) : (rdBool s e).1.size ≤ s.size := by
  unfold rdBool; split
  · exact Nat.le_refl _
  · split
    · exact Nat.zero_le _
    · split
      · exact Nat.zero_le _
      · simp only [ByteArray.size_extract]; omega

def rdOpaque (most : Int) (s : ByteArray) (e : Int) : ByteArray × Int × ByteArray :=
  if most < (rdU32 s e).2.2 then ((rdFail 4 (rdU32 s e).1 (rdU32 s e).2.1).1, (rdFail 4 (rdU32 s e).1 (rdU32 s e).2.1).2, ⟨#[]⟩)
  else rdFixed (rdU32 s e).2.2 (rdU32 s e).1 (rdU32 s e).2.1

theorem Took.keep_trans {k : Nat} {w w1 w2 : World} (h : Keep k none w w1) (g : Keep k none w1 w2) : Keep k none w w2 := h.trans g (.inl rfl)

def rdOpt (s : ByteArray) (e : Int) : ByteArray × Int × Bool × Int :=
  if (rdBool s e).2.2 = false then ((rdBool s e).1, (rdBool s e).2.1, false, 0)
  else if (rdU64 (rdBool s e).1 (rdBool s e).2.1).2.1 ≠ 0 then ((rdU64 (rdBool s e).1 (rdBool s e).2.1).1, (rdU64 (rdBool s e).1 (rdBool s e).2.1).2.1, false, 0)
  else ((rdU64 (rdBool s e).1 (rdBool s e).2.1).1, 0, true, (rdU64 (rdBool s e).1 (rdBool s e).2.1).2.2)

end Go.Proofs.YtikeckmbfgidhaaGreatDoor
