/- The program's pieces: the function that yields them. -/
import Derived.Test.YtfipojmgmmjnmaaQa
import Derived.Test.YtfipojmgmmjnmaaJa
import Derived.Test.YtfipojmgmmjnmaaSh
namespace Go.Proofs.Ytfipojmgmmjnmaa
open Go.RowKit Go.Shelf
attribute [local go_sem] Oper.semAt_some

set_option maxRecDepth 100000 in
theorem clone_any (s : ByteArray) (w : World) (hs : s.size ≤ 281474976710656) :
    Calls Try.prog 62 #[.string s] w fun e w' => e = .returned (.string s) ∧ Below w.heap.size w w' := by
  go_enter Try.func62, Try.ntmps62
  go_wp2_with (go_at_call 65; go_must (refine (Try.stringslite_Clone s _ hs).mono ?_); rintro e w1 ⟨rfl, hb⟩)
  go_ret
  exact ⟨rfl, hb⟩
/-- What is left of a record behind so many pieces. -/
def rest (r : ByteArray) (k : Nat) : ByteArray := r.extract (100 * k) r.size
theorem rest_size (r : ByteArray) (k : Nat) : (rest r k).size = r.size - 100 * k := by unfold rest; rw [ByteArray.size_extract]; omega
theorem rest_zero (r : ByteArray) : rest r 0 = r := by
  unfold rest
  apply ByteArray.ext
  rw [ByteArray.data_extract]
  exact Array.extract_size
theorem rest_chunk (r : ByteArray) (k : Nat) : (rest r k).extract 0 (min 100 (rest r k).size) = chunk r k := by
  unfold rest chunk
  apply ByteArray.ext
  rw [ByteArray.size_extract]
  simp only [ByteArray.data_extract, Array.extract_extract]
  by_cases h : 100 * k ≤ r.size
  · congr 1 <;> omega
  · rw [Array.extract_eq_empty_of_le (by omega), Array.extract_eq_empty_of_le (by omega)]
theorem rest_next (r : ByteArray) (k : Nat) : (rest r k).extract (min 100 (rest r k).size) (rest r k).size = rest r (k + 1) := by
  unfold rest
  apply ByteArray.ext
  rw [ByteArray.size_extract]
  simp only [ByteArray.data_extract, Array.extract_extract]
  by_cases h : 100 * k ≤ r.size
  · by_cases h2 : 100 * (k + 1) ≤ r.size
    · congr 1 <;> omega
    · rw [Array.extract_eq_empty_of_le (by omega), Array.extract_eq_empty_of_le (by omega)]
  · rw [Array.extract_eq_empty_of_le (by omega), Array.extract_eq_empty_of_le (by omega)]
theorem Abides.below {ok : Nat → Prop} {J : Nat → World → Prop} (h : Abides ok J) {k : Nat} {W W' : World} (hJ : J k W) (b : Below W.heap.size W W') : J k W' :=
  h k W W' none hJ ⟨b.os, b.tape, b.output, b.size, fun j hj _ => b.block j hj⟩ fun r e => by cases e
theorem Abides.set {bx : Nat} {J : Nat → World → Prop} (h : Abides (fun b => b = bx) J) {k : Nat} {W : World} (hJ : J k W) (v : Value) : J k (W.setCell ⟨bx, 0, none⟩ v) :=
  h k W _ (some bx) hJ (grownBy_setCell' W bx v) fun r e => by cases e; rfl
set_option maxRecDepth 100000 in
set_option maxHeartbeats 1000000 in
theorem iter_any (n : Nat) (hn : 1 ≤ n) (l bx bs : Nat) (r : ByteArray) (e q : Int) (m : Nat) (hr : r.size ≤ 1073741824) (hm : m ≤ 1073741824) (J : Nat → World → Prop) (hJ : Abides (fun b => b = bx) J)
    (hY : ∀ k W1, k < m → J k W1 → YieldAt Fence.wide (n - 1) Try.prog l #[.agg #[.int .i64 e, .int .i64 q, .int .i64 (k : Int), .int .i64 (m : Int), .string (chunk r k)]] W1 fun a W' => a = .returned (.bool true) ∧ J (k + 1) W' ∧ Keep2 bx bs W1 W')
    (W : World) (hx : St 9 bx #[.string r] W) (hs : St 97 bs #[.int .i64 e, .int .i64 q, .int .i64 (m : Int)] W) (hne : bx ≠ bs) (h0 : J 0 W) :
    CallsIn Fence.wide n Try.prog 61 (#[.func (.yield l) #[] #[]] ++ #[.pointer (some ⟨bs, 0, none⟩), .pointer (some ⟨bx, 0, none⟩)]) W fun a W' => (∃ v, a = .returned v) ∧ J m W' := by
  have HY := Lib.hid hY
  have HJ := Lib.hid hJ
  have H0 := Lib.hid (And.intro hx (And.intro hs h0))
  have c0 : W.cell? ⟨bs, 2, none⟩ = some (.int .i64 (m : Int)) := hs.cell rfl
  clear hY hJ hx hs h0
  refine callsIn_of_wp Try.func61 rfl trivial ?_ rfl
  simp only [Try.ntmps61, List.size_toArray, List.length_cons, List.length_nil, Nat.reduceAdd, Nat.reduceSub, Array.replicate_succ, Array.replicate_zero, List.push_toArray, List.append_toArray, List.nil_append, List.cons_append]
  gi_wp2
  gi_loopw [9] (fun v wr => ∃ k : Nat, k ≤ m ∧ v = .int .i64 (k : Int) ∧ St 9 bx #[.string (rest r k)] wr ∧ St 97 bs #[.int .i64 e, .int .i64 q, .int .i64 (m : Int)] wr ∧ J k wr) (fun v _ => m - (intOf v).toNat)
  case atStart => exact ⟨0, Nat.zero_le _, rfl, by rw [rest_zero]; exact H0.out.1, H0.out.2.1, H0.out.2.2⟩
  case round =>
    obtain ⟨k, hk, rfl, hx, hs, hj⟩ := hrel
    have HR := Lib.hid (And.intro hx (And.intro hs hj))
    have cx : wr.cell? ⟨bx, 0, none⟩ = some (.string (rest r k)) := hx.cell rfl
    have fx := hx.free 0
    have s0 : wr.cell? ⟨bs, 0, none⟩ = some (.int .i64 e) := hs.cell rfl
    have s1 : wr.cell? ⟨bs, 1, none⟩ = some (.int .i64 q) := hs.cell rfl
    have s2 : wr.cell? ⟨bs, 2, none⟩ = some (.int .i64 (m : Int)) := hs.cell rfl
    have hbx := hx.lt
    have hbs := hs.lt
    clear hx hs hj
    by_cases hlt : k < m
    · obtain ⟨R, hR⟩ : ∃ R, R = rest r k := ⟨_, rfl⟩
      have hRs : R.size ≤ 1073741824 := by rw [hR, rest_size]; omega
      rw [← hR] at cx
      have HC := Lib.hid (fun (s : ByteArray) (w : World) (hs : s.size ≤ 281474976710656) => clone_any s w hs)
      obtain ⟨z, hz⟩ : ∃ z, z = min 100 R.size := ⟨_, rfl⟩
      have hz1 : min (100 : Int) (R.size : Int) = (z : Int) := by omega
      have hz2 : z ≤ R.size := by omega
      obtain ⟨C, hC⟩ : ∃ C, C = R.extract 0 z := ⟨_, rfl⟩
      obtain ⟨T, hT⟩ : ∃ T, T = R.extract z R.size := ⟨_, rfl⟩
      have hCs : C.size ≤ 281474976710656 := by rw [hC, ByteArray.size_extract]; omega
      have HX := Lib.hid (show C = chunk r k ∧ T = rest r (k + 1) from ⟨by rw [hC, hz, hR]; exact rest_chunk r k, by rw [hT, hz, hR]; exact rest_next r k⟩)
      have eC := hC.symm
      have eT := hT.symm
      clear hR hz hC hT
      gi_wp2_with (refine ⟨trivial, ?_⟩; gi_at_call 62; refine (callsIn_wide.2 (HC.out C _ hCs)).mono ?_; rintro a w1 ⟨rfl, b1⟩; have cx1 := (b1.cell (p := ⟨bx, 0, none⟩) hbx).trans cx; have fx1 := (World.frozen?_of_block (a := ⟨bx, 0, none⟩) (b1.block bx hbx)).trans fx; have hJ1 := HJ.out.set (HJ.out.below HR.out.2.2 b1) (.string T); have t0 := ((St.below HR.out.2.1 b1).other bx 0 (.string T) hne); have tx := (St.below HR.out.1 b1).set 0 (.string T); have u0 := t0.cell (j := 0) rfl; have u1 := t0.cell (j := 1) rfl; have u2 := t0.cell (j := 2) rfl; obtain ⟨fn, tmps, assign, body, hy, hrd⟩ := HY.out k (w1.setCell ⟨bx, 0, none⟩ (.string T)) hlt hJ1; rw [← HX.out.1] at hy; have TX := Lib.hid (And.intro tx t0); have HRD := Lib.hid hrd; clear b1 hJ1 t0 tx hrd)
      refine HRD.out.mono ?_
      rintro a W3 ⟨rfl, hJ3, hk3⟩
      have HJ3 := Lib.hid hJ3
      have HS3 := Lib.hid (show St 9 bx #[.string (rest r (k + 1))] W3 ∧ St 97 bs #[.int .i64 e, .int .i64 q, .int .i64 (m : Int)] W3 from by
        rw [← HX.out.2]
        exact ⟨hk3.1.trans TX.out.1, hk3.2.trans TX.out.2⟩)
      clear hJ3 hk3 u0 u1 u2 cx1 fx1 hy
      gi_wp2
      go_roundw
      case rel => exact ⟨k + 1, by omega, by go_num, HS3.out.1, HS3.out.2, HJ3.out⟩
      case measure => simp [intOf]; omega
    · obtain rfl : k = m := by omega
      gi_wp2
      go_end0
      exact ⟨⟨_, rfl⟩, HR.out.2.2⟩
end Go.Proofs.Ytfipojmgmmjnmaa
