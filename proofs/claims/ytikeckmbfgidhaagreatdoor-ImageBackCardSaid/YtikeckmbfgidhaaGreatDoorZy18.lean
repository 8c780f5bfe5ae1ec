/- Several texts in one: Rd Rt Ru. -/
import Derived.Laws.Bits64b
import Derived.Test.YtikeckmbfgidhaaGreatDoorZy02
import Derived.Test.YtikeckmbfgidhaaGreatDoorZy16
import Derived.Test.YtikeckmbfgidhaaGreatDoorZy17
/- Readers: what stands in one; its small methods; the number that bytes stand for. -/
namespace Go.Proofs.YtikeckmbfgidhaaGreatDoor
open Go.RowKit

/-- Block k is a reader with the rest s and the error e. -/
def Rd (k : Nat) (s : ByteArray) (e : Int) (w : World) : Prop := St 79 k #[.string s, .int .i64 e] w

theorem Rd.below {k : Nat} {s : ByteArray} {e : Int} {w w' : World} (h : Rd k s e w) (hb : Below w.heap.size w w') : Rd k s e w' := St.below h hb
theorem Rd.keep {k b : Nat} {r : Option Nat} {s : ByteArray} {e : Int} {w w' : World} (h : Rd k s e w) (hk : Keep b r w w') (h1 : k ≠ b) (h2 : some k ≠ r) : Rd k s e w' :=
  (hk.block k (St.lt h) h1 h2).trans h
theorem St.keep {T : TypeId} {cs : Array Value} {k b : Nat} {r : Option Nat} {w w' : World} (h : St T k cs w) (hk : Keep b r w w') (h1 : k ≠ b) (h2 : some k ≠ r) : St T k cs w' :=
  (hk.block k (St.lt h) h1 h2).trans h

theorem rErr_at (k : Nat) (s : ByteArray) (e : Int) (w : World) (h : Rd k s e w) :
    Calls Tryz.prog 50 #[.pointer (some ⟨k, 0, none⟩)] w fun r w' => r = .returned (.int .i64 e) ∧ w = w' := by
  have c1 := St.cell h (j := 1) rfl
  go_enter Tryz.func50, Tryz.ntmps50
  go_wp2
  go_ret
  exact ⟨rfl, rfl⟩
theorem rLeft_at (k : Nat) (s : ByteArray) (e : Int) (w : World) (h : Rd k s e w) :
    Calls Tryz.prog 52 #[.pointer (some ⟨k, 0, none⟩)] w fun r w' => r = .returned (.int .i64 (s.size : Int)) ∧ w = w' := by
  have c0 := St.cell h (j := 0) rfl
  go_enter Tryz.func52, Tryz.ntmps52
  go_wp2
  go_ret
  exact ⟨rfl, rfl⟩

/-- What Done tells. -/
def rdDone (s : ByteArray) (e : Int) : Int := if e ≠ 0 then e else if 0 < s.size then 12 else 0

theorem rRead_at (s : ByteArray) (w : World) : Calls Tryz.prog 21 #[.string s] w fun r w' => r = .returned (.pointer (some ⟨w.heap.size, 0, none⟩)) ∧ Rd w.heap.size s 0 w' ∧ Below w.heap.size w w' ∧ w.heap.size < w'.heap.size := by
  go_enter Tryz.func21, Tryz.ntmps21
  go_wp2
  go_ret
  exact ⟨rfl, St.new w _ _, boxed0, by simp⟩

theorem rRead_eq (s : ByteArray) (w : World) : Calls Tryz.prog 21 #[.string s] w fun r w' => r = .returned (.pointer (some ⟨w.heap.size, 0, none⟩)) ∧ w' = w.alloc (.cells #[.string s, .int .i64 0] 79 (0, 0)) := by
  go_enter Tryz.func21, Tryz.ntmps21
  go_wp2
  go_ret
  exact ⟨rfl, rfl⟩

theorem rfail_no (k : Nat) (s : ByteArray) (e c : Int) (w : World) (he : e ≠ 0) (h : Rd k s e w) :
    Calls Tryz.prog 51 #[.pointer (some ⟨k, 0, none⟩), .int .i64 c] w fun r w' => r = .returned (.tuple #[]) ∧ w = w' := by
  go_enter Tryz.func51, Tryz.ntmps51
  go_wp2_with (go_at_call 50; go_must (refine (rErr_at k s e _ h).mono ?_); rintro e w1 ⟨rfl, rfl⟩)
  go_returns
  exact ⟨rfl, rfl⟩

theorem rfail_at (k : Nat) (s : ByteArray) (c : Int) (w : World) (h : Rd k s 0 w) :
    Calls Tryz.prog 51 #[.pointer (some ⟨k, 0, none⟩), .int .i64 c] w fun r w' => r = .returned (.tuple #[]) ∧ Rd k ⟨#[]⟩ c w' ∧ Keep k none w w' := by
  have c0 := St.cell h (j := 0) rfl
  have c1 := St.cell h (j := 1) rfl
  have f0 := St.free h 0
  have f1 := St.free h 1
  go_enter Tryz.func51, Tryz.ntmps51
  go_wp2_with (go_at_call 50; go_must (refine (rErr_at k s 0 _ h).mono ?_); rintro e w1 ⟨rfl, rfl⟩)
  go_end0
  exact ⟨rfl, (St.set (St.set h 1 _) 0 _), ((Keep.refl k none w).put 1 _).put 0 _⟩

theorem or_byte (q : Nat) (b : UInt8) (hq : q < 72057594037927936) : Value.int .u64 (bits .or .u64 ((q : Int) * 256) (IntKind.u64.wrap (b.toNat : Int))) = Value.int .u64 ((q * 256 + b.toNat : Nat) : Int) := by
  have hb : b.toNat < 2 ^ 8 := b.toNat_lt
  have hw : IntKind.u64.wrap (b.toNat : Int) = (b.toNat : Int) := by rw [IntKind.wrap_u64]; omega
  have h := bits_or_u64_nat (q * 256) b.toNat (by omega) (by omega)
  rw [hw, show ((q : Int) * 256) = ((q * 256 : Nat) : Int) from by simp, h]
  have e := Nat.shiftLeft_add_eq_or_of_lt hb q
  rw [Nat.shiftLeft_eq, show (2 : Nat) ^ 8 = 256 from rfl] at e
  rw [← e]

set_option maxRecDepth 100000 in
set_option maxHeartbeats 800000 in
theorem rnumber_any (s : ByteArray) (hs : s.size ≤ 8) (w : World) :
    Calls Tryz.prog 42 #[.string s] w fun e w' => e = .returned (.int .u64 (num s.data.toList)) ∧ w = w' := by
  go_enter Tryz.func42, Tryz.ntmps42
  go_wp2
  go_loop [2, 3, 6] (fun n _ c => ∃ i : Nat, i ≤ s.size ∧ c = .int .i64 i ∧ n = .int .u64 (num (s.data.toList.take i))) (fun _ _ c => s.size - (intOf c).toNat)
  case atStart => exact ⟨0, Nat.zero_le _, rfl, rfl⟩
  case round =>
    obtain ⟨i, hi, rfl, rfl⟩ := hrel
    have hfin : num (s.data.toList.take s.size) = num s.data.toList := by rw [List.take_of_length_le (by simp)]
    have hlt : num (s.data.toList.take i) < 256 ^ i := Nat.lt_of_lt_of_le (num_lt _) (Nat.pow_le_pow_right (by omega) (by simp; omega))
    by_cases hli : i < s.size
    · have hnext : num (s.data.toList.take (i + 1)) = num (s.data.toList.take i) * 256 + s[i].toNat := by
        have hg : s.data.toList[i]? = some s[i] := by rw [Array.getElem?_toList]; exact Array.getElem?_eq_getElem hli
        rw [List.take_add_one, hg]
        exact num_snoc _ _
      have hb : num (s.data.toList.take i) < 72057594037927936 := Nat.lt_of_lt_of_le hlt (by
        calc 256 ^ i ≤ 256 ^ 7 := Nat.pow_le_pow_right (by omega) (by omega)
          _ = 72057594037927936 := by decide)
      obtain ⟨q, hq⟩ : ∃ q, q = num (s.data.toList.take i) := ⟨_, rfl⟩
      rw [← hq] at hb hnext ⊢
      have HN := Lib.hid hnext
      clear hq hnext hfin hlt
      go_wp2
      go_round
      case rel => exact ⟨i + 1, by omega, by go_num, by rw [HN.out, or_byte q _ hb]⟩
      case measure => simp [intOf]; omega
    · obtain rfl : i = s.size := by omega
      rw [hfin]
      obtain ⟨q, hq⟩ : ∃ q, q = num s.data.toList := ⟨_, rfl⟩
      rw [← hq]
      have HQ := Lib.hid hq
      clear hq hfin hlt
      go_wp2
      go_ret
      exact ⟨by show Ending.returned (Value.int .u64 (q : Int)) = _; rw [HQ.out], rfl⟩
end Go.Proofs.YtikeckmbfgidhaaGreatDoor

/- The functions that a reader's take hands its bytes to; take with each of them; the numbers and the boolean that are read. -/
namespace Go.Proofs.YtikeckmbfgidhaaGreatDoor
open Go.RowKit

theorem Keep.cell {b : Nat} {w : World} (v : Value) : Keep b none w (w.setCell ⟨b, 0, none⟩ v) := (Keep.refl b none w).put 0 v

set_option maxRecDepth 100000 in
theorem cU32 (part : ByteArray) (b : Nat) (v0 : Value) (w : World) (hp : part.size = 4) (h : St 3 b #[v0] w) :
    Calls Tryz.prog 41 #[.string part, .pointer (some ⟨b, 0, none⟩)] w fun e w' => e = .returned (.int .i64 0) ∧ St 3 b #[.int .i64 (num part.data.toList)] w' ∧ Keep b none w w' := by
  have c0 := St.cell h (j := 0) rfl
  have f0 := St.free h 0
  have hb := num4 part hp
  have hn := rnumber_any part (by omega) w
  obtain ⟨q, hq⟩ : ∃ q, q = num part.data.toList := ⟨_, rfl⟩
  rw [← hq] at hn hb ⊢
  have HQ := Lib.hid hq
  clear hq
  go_enter Tryz.func41, Tryz.ntmps41
  go_wp2_with (go_at_call 42; go_must (refine hn.mono ?_); rintro e w1 ⟨rfl, rfl⟩)
  go_ret
  exact ⟨rfl, by simpa using St.set h 0 _, Keep.cell _⟩

/-- take behind an error: nothing. -/
theorem rtake_no (k : Nat) (s : ByteArray) (e n : Int) (f : Value) (w : World) (he : e ≠ 0) (h : Rd k s e w) :
    Calls Tryz.prog 40 #[.pointer (some ⟨k, 0, none⟩), .int .i64 n, f] w fun r w' => r = .returned (.tuple #[]) ∧ w = w' := by
  go_enter Tryz.func40, Tryz.ntmps40
  go_wp2_with (go_at_call 50; go_must (refine (rErr_at k s e _ h).mono ?_); rintro e w1 ⟨rfl, rfl⟩)
  go_returns
  exact ⟨rfl, rfl⟩
/-- take of more than is left. -/
theorem rtake_short (k : Nat) (s : ByteArray) (n : Int) (f : Value) (w : World) (hn : (s.size : Int) < n) (h : Rd k s 0 w) :
    Calls Tryz.prog 40 #[.pointer (some ⟨k, 0, none⟩), .int .i64 n, f] w fun r w' => r = .returned (.tuple #[]) ∧ Rd k ⟨#[]⟩ 10 w' ∧ Keep k none w w' := by
  have c0 := St.cell h (j := 0) rfl
  go_enter Tryz.func40, Tryz.ntmps40
  go_wp2_with (first | (go_at_call 50; go_must (refine (rErr_at k s 0 _ h).mono ?_); rintro e w1 ⟨rfl, rfl⟩) | (go_at_call 51; go_must (refine (rfail_at k s 10 _ h).mono ?_); rintro e w1 ⟨rfl, hr, hk⟩))
  go_returns
  exact ⟨rfl, hr, hk⟩

theorem keep_two {w w2 : World} (k b : Nat) (v : Value) (h : Keep b none (w.setCell ⟨k, 0, none⟩ v) w2) : Keep k (some b) w w2 :=
  ⟨h.os, h.tape, h.output, by have := h.size; simpa [World.setCell] using this, fun j hj hk hr => (h.block j (by simpa [World.setCell] using hj) (fun e => hr (by rw [e])) (by simp)).trans (Below.heap_setCell w _ v j hk)⟩
theorem keep_three {w w2 w3 : World} (k b : Nat) (v : Value) (h : Keep b none (w.setCell ⟨k, 0, none⟩ v) w2) (g : Keep k none w2 w3) : Keep k (some b) w w3 := by
  have h2 := keep_two k b v h
  exact ⟨g.os.trans h2.os, g.tape.trans h2.tape, g.output.trans h2.output, Nat.le_trans h2.size g.size, fun j hj hk hr => (g.block j (Nat.lt_of_lt_of_le hj h2.size) hk (by simp)).trans (h2.block j hj hk hr)⟩

set_option maxRecDepth 100000 in
theorem rtake_U32 (k b : Nat) (s : ByteArray) (v0 : Value) (w : World) (hkb : k ≠ b) (hl : 4 ≤ s.size) (h : Rd k s 0 w) (hb : St 3 b #[v0] w) :
    Calls Tryz.prog 40 #[.pointer (some ⟨k, 0, none⟩), .int .i64 4, .func (.func 41) #[] #[.pointer (some ⟨b, 0, none⟩)]] w fun r w' => r = .returned (.tuple #[]) ∧ Rd k (s.extract 4 s.size) 0 w' ∧ St 3 b #[.int .i64 (num (s.extract 0 4).data.toList)] w' ∧ Keep k (some b) w w' := by
  have c0 := St.cell h (j := 0) rfl
  have f0 := St.free h 0
  have hsz : (s.extract 0 4).size = 4 := by rw [ByteArray.size_extract]; omega
  have h1 : Rd k (s.extract 4 s.size) 0 (w.setCell ⟨k, 0, none⟩ (.string (s.extract 4 s.size))) := by
    have := St.set h 0 (.string (s.extract 4 s.size))
    exact this
  have hb1 : St 3 b #[v0] (w.setCell ⟨k, 0, none⟩ (.string (s.extract 4 s.size))) := hb.other _ _ _ hkb
  have hc := cU32 (s.extract 0 4) b v0 _ hsz hb1
  have HC := Lib.hid hc
  clear hc
  go_enter Tryz.func40, Tryz.ntmps40
  go_wp2_with (first | (go_at_call 50; go_must (refine (rErr_at k s 0 _ h).mono ?_); rintro e w1 ⟨rfl, rfl⟩) | (go_at_call 41; go_must (refine HC.out.mono ?_); rintro e w2 ⟨rfl, hst2, hk2⟩))
  go_returns
  exact ⟨rfl, Rd.keep h1 hk2 hkb (by simp), hst2, keep_two k b _ hk2⟩

end Go.Proofs.YtikeckmbfgidhaaGreatDoor

/- Numbers, booleans and options that are read. -/
namespace Go.Proofs.YtikeckmbfgidhaaGreatDoor
open Go.RowKit

def rdU32 (s : ByteArray) (e : Int) : ByteArray × Int × Int :=
  if e ≠ 0 then (s, e, 0) else if s.size < 4 then (⟨#[]⟩, 10, 0) else (s.extract 4 s.size, 0, num (s.extract 0 4).data.toList)
def rdU64 (s : ByteArray) (e : Int) : ByteArray × Int × Int :=
  if e ≠ 0 then (s, e, 0) else if s.size < 8 then (⟨#[]⟩, 10, 0) else if 9223372036854775807 < num (s.extract 0 8).data.toList then (⟨#[]⟩, 3, 0) else (s.extract 8 s.size, 0, num (s.extract 0 8).data.toList)
def rdBool (s : ByteArray) (e : Int) : ByteArray × Int × Bool :=
  if e ≠ 0 then (s, e, false) else if s.size < 4 then (⟨#[]⟩, 10, false) else if 1 < num (s.extract 0 4).data.toList then (⟨#[]⟩, 13, false) else (s.extract 4 s.size, 0, (num (s.extract 0 4).data.toList : Int) == 1)

/-- What a method of a reader leaves. -/
def Took (k : Nat) (s : ByteArray) (e : Int) (v : Value) (w : World) (r : Ending) (w' : World) : Prop := r = .returned v ∧ Rd k s e w' ∧ Keep k none w w'

theorem keep_boxed {k : Nat} {o : Obj} {w w' : World} (h : Keep k (some w.heap.size) (w.alloc o) w') : Keep k none w w' :=
  ⟨h.os, h.tape, h.output, Nat.le_trans (by simp) h.size, fun j hj hk _ => (h.block j (by simp; omega) hk (by intro e; injection e with e; omega)).trans (Below.heap_alloc w o j hj)⟩
theorem keep_new {k b : Nat} {r : Option Nat} {w w' : World} (h : Keep k r w w') (hb : w.heap.size ≤ b) (i : Nat) (v : Value) : Keep k r w (w'.setCell ⟨b, i, none⟩ v) :=
  ⟨h.os, h.tape, h.output, by simpa [World.setCell] using h.size, fun j hj hk hr => (Below.heap_setCell w' _ v j (by simp; omega)).trans (h.block j hj hk hr)⟩
theorem keep_boxed0 {k : Nat} {o : Obj} {w : World} : Keep k none w (w.alloc o) := (Keep.refl _ _ _).alloc o
theorem keep_boxed1 {k : Nat} {o : Obj} {w w' : World} (h : Keep k none (w.alloc o) w') : Keep k none w w' := keep_boxed ⟨h.os, h.tape, h.output, h.size, fun j hj hk _ => h.block j hj hk (by simp)⟩

set_option maxRecDepth 100000 in
theorem rU32_at (k : Nat) (s : ByteArray) (e : Int) (w : World) (h : Rd k s e w) :
    Calls Tryz.prog 22 #[.pointer (some ⟨k, 0, none⟩)] w fun r w' => Took k (rdU32 s e).1 (rdU32 s e).2.1 (.int .i64 (rdU32 s e).2.2) w r w' := by
  have hmf : ∀ (fn : Fn) (first cap : Array Value) (w : World), (Instr.makeFunc fn first cap).run Tryz.prog w = .ok (.func fn first cap) w := fun _ _ _ _ => rfl
  have hkb : k ≠ w.heap.size := Nat.ne_of_lt (St.lt h)
  have hB := St.new w 3 #[.int .i64 0]
  have hR : Rd k s e (w.alloc (.cells #[.int .i64 0] 3 (0, 0))) := St.alloc h _
  by_cases he : e = 0
  · subst he
    by_cases hl : s.size < 4
    · have ed : rdU32 s 0 = (⟨#[]⟩, 10, 0) := by simp [rdU32, hl]
      rw [ed]
      have ht := rtake_short k s 4 (.func (.func 41) #[] #[.pointer (some ⟨w.heap.size, 0, none⟩)]) _ (by omega) hR
      have HT := Lib.hid ht
      have HB := Lib.hid hB
      clear ht ed hl hB
      go_enter Tryz.func22, Tryz.ntmps22
      go_wp2_with (go_at_call 40; go_must (refine HT.out.mono ?_); rintro e w1 ⟨rfl, hr, hk⟩; have hst := St.keep HB.out hk (Ne.symm hkb) (by simp); have cb := hst.cell (j := 0) rfl; have fb := hst.free 0)
      have g := (hst.set 0 (.int .i64 0)).cell (j := 0) rfl
      exact bodyPost_ret (v := .int .i64 0) (by simp [results, Tryz.results22, go_sem] at g ⊢; simp [g]) rfl ⟨rfl, St.other hr _ _ _ (Ne.symm hkb), keep_new (keep_boxed1 hk) (Nat.le_refl _) _ _⟩
    · have ed : rdU32 s 0 = (s.extract 4 s.size, 0, (num (s.extract 0 4).data.toList : Int)) := by unfold rdU32; rw [if_neg (by simp), if_neg hl]
      rw [ed]
      have ht := rtake_U32 k w.heap.size s (.int .i64 0) _ hkb (by omega) hR hB
      generalize ((num (s.extract 0 4).data.toList : Nat) : Int) = V at ht ⊢
      have HT := Lib.hid ht
      clear ht ed hl
      go_enter Tryz.func22, Tryz.ntmps22
      go_wp2_with (go_at_call 40; go_must (refine HT.out.mono ?_); rintro e w1 ⟨rfl, hr, hst, hk⟩; have cb := hst.cell (j := 0) rfl; have fb := hst.free 0)
      have g := (hst.set 0 (.int .i64 V)).cell (j := 0) rfl
      exact bodyPost_ret (v := .int .i64 V) (by simp [results, Tryz.results22, go_sem] at g ⊢; simp [g]) rfl ⟨rfl, St.other hr _ _ _ (Ne.symm hkb), keep_new (keep_boxed hk) (Nat.le_refl _) _ _⟩
  · have ed : rdU32 s e = (s, e, 0) := by simp [rdU32, he]
    rw [ed]
    have ht := rtake_no k s e 4 (.func (.func 41) #[] #[.pointer (some ⟨w.heap.size, 0, none⟩)]) _ he hR
    have HT := Lib.hid ht
    clear ht ed
    go_enter Tryz.func22, Tryz.ntmps22
    go_wp2_with (go_at_call 40; go_must (refine HT.out.mono ?_); rintro e w1 ⟨rfl, rfl⟩)
    go_returns
    exact ⟨rfl, hR, keep_boxed0⟩

end Go.Proofs.YtikeckmbfgidhaaGreatDoor
