/- The reference's reader. -/
import Derived.Test.YtimbcombhdgjiaaDoorNm
import Derived.Test.YtimbcombhdgjiaaDoorRu
import Derived.Deep.RegionHeld3
import Derived.Deep.QuietTactic
import Derived.BigQuiet
import Derived.IntWalk
namespace Go.Proofs.YtimbcombhdgjiaaDoor
open Go.RowKit
set_option linter.unusedSimpArgs false
set_option linter.unusedVariables false

/-- Block k is a reader of the reference's over S, with the rest and the error e. -/
def Rf (k : Nat) (S rest : ByteArray) (e : Int) (w : World) : Prop :=
  ∃ p : Nat, p ≤ S.size ∧ St 65 k #[.string S, .int .i64 p, .int .i64 e] w ∧ (e = 0 → rest = S.extract p S.size)
/-- What a method of it leaves. -/
def Rook (k : Nat) (S rest : ByteArray) (e : Int) (v : Value) (w : World) (r : Ending) (w' : World) : Prop := r = .returned v ∧ Rf k S rest e w' ∧ Keep k none w w'

set_option maxRecDepth 100000 in
theorem rfU_err (k : Nat) (S rest : ByteArray) (e n : Int) (w : World) (h0 : e ≠ 0) (h : Rf k S rest e w) :
    Calls Tryd.prog 37 #[.pointer (some ⟨k, 0, none⟩), .int .i64 n] w fun r w' => r = .returned (.int .i64 0) ∧ w = w' := by
  obtain ⟨p, hp, hst, hr⟩ := h
  have c2 : w.cell? ⟨k, 2, none⟩ = some (.int .i64 e) := hst.cell rfl
  clear hr hst
  go_enter Tryd.func37, Tryd.ntmps37
  go_wp2
  go_ret
  exact ⟨rfl, rfl⟩

set_option maxRecDepth 100000 in
theorem rfU_short (k n : Nat) (S rest : ByteArray) (w : World) (hS : S.size ≤ 1073741824) (hn : rest.size < n) (hn8 : n ≤ 8) (h : Rf k S rest 0 w) :
    Calls Tryd.prog 37 #[.pointer (some ⟨k, 0, none⟩), .int .i64 n] w fun r w' => Rook k S ⟨#[]⟩ 10 (.int .i64 0) w r w' := by
  obtain ⟨p, hp, hst, hr⟩ := h
  have c0 : w.cell? ⟨k, 0, none⟩ = some (.string S) := hst.cell rfl
  have c1 : w.cell? ⟨k, 1, none⟩ = some (.int .i64 (p : Int)) := hst.cell rfl
  have c2 : w.cell? ⟨k, 2, none⟩ = some (.int .i64 0) := hst.cell rfl
  have f2 := hst.free 2
  have hsz : rest.size = S.size - p := by rw [hr rfl, ByteArray.size_extract]; omega
  have hw : IntKind.i64.wrap ((S.size : Int) - (p : Int)) = (S.size : Int) - (p : Int) := by rw [IntKind.wrap_i64]; omega
  have hd : decide ((S.size : Int) - (p : Int) < (n : Int)) = true := by simp; omega
  have HST := Lib.hid hst
  clear hr hst hn
  go_enter Tryd.func37, Tryd.ntmps37
  go_wp2
  go_region_held3 (fun w' => w'.cell? ⟨k, 0, none⟩ = some (.string S) ∧ w'.cell? ⟨k, 1, none⟩ = some (.int .i64 (p : Int))) (first | (exact ⟨by assumption, by assumption⟩) | assumption | (simp; done)) ((fail))
  go_wp2
  go_ret
  exact ⟨rfl, ⟨p, hp, by have := HST.out.set 2 (.int .i64 10); exact this, fun h => by cases h⟩, ((Keep.refl k none w).put 2 _).drew⟩

theorem num_first8 (b : UInt8) (xs : List UInt8) (h : xs.length = 7) : 9223372036854775807 < num (b :: xs) ↔ 127 < b.toNat := by
  rw [num_cons, h]
  have := num_lt xs
  rw [h] at this
  have hb : b.toNat < 256 := b.toNat_lt
  omega

/-- The bytes of the rest are those of the text from the place on. -/
theorem rest_get {S rest : ByteArray} {p i : Nat} (hr : rest = S.extract p S.size) (hi : p + i < S.size) : rest.data.toList[i]? = some (S[p + i]'hi) := by
  have e : rest.data.toList = S.data.toList.drop p := by
    rw [hr]
    simp [ByteArray.data_extract]
    exact List.take_of_length_le (by simp)
  rw [e, List.getElem?_drop, Array.getElem?_toList]
  exact Array.getElem?_eq_getElem hi


theorem first_take (s : ByteArray) (n : Nat) : (s.extract 0 n).data.toList = s.data.toList.take n := by simp [ByteArray.data_extract]
theorem rest_next {S rest : ByteArray} {p n : Nat} (hr : rest = S.extract p S.size) : rest.extract n rest.size = S.extract (p + n) S.size := by
  rw [hr]
  apply ByteArray.ext
  apply Array.toList_inj.1
  rw [ByteArray.size_extract]
  simp [ByteArray.data_extract, Array.extract_extract]
  omega

/-- Draws leave a reader as it was. -/
theorem Keep.drewN {k : Nat} {r : Option Nat} {w w' : World} (h : Keep k r w w') (n : Nat) : Keep k r w (w'.drewN n) := ⟨h.os, h.tape, h.output, h.size, h.block⟩

theorem head_take {S rest : ByteArray} {p : Nat} {b0 : UInt8} (hr : rest = S.extract p S.size) (hp : p < S.size) (hb : b0 = S[p]'hp) (i : Nat) (h1 : 0 < i) (h2 : i ≤ S.size - p) : ∃ tl : List UInt8, rest.data.toList.take i = b0 :: tl ∧ tl.length = i - 1 := by
  have hg := rest_get (i := 0) hr (by omega)
  have hlen : rest.data.toList.length = S.size - p := by rw [len_data, hr, ByteArray.size_extract]; omega
  cases hl : rest.data.toList with
  | nil => rw [hl] at hg; simp at hg
  | cons a tl =>
    rw [hl] at hg hlen
    obtain ⟨j, rfl⟩ : ∃ j, i = j + 1 := ⟨i - 1, by omega⟩
    refine ⟨tl.take j, ?_, ?_⟩
    · rw [List.take_succ_cons]
      congr 1
      simp at hg
      rw [hb]; exact hg
    · rw [List.length_take]
      simp at hlen
      omega

set_option maxRecDepth 100000 in
set_option maxHeartbeats 1000000 in
theorem rfU_four (k : Nat) (S rest : ByteArray) (w : World) (hS : S.size ≤ 1073741824) (hn : 4 ≤ rest.size) (h : Rf k S rest 0 w) :
    Calls Tryd.prog 37 #[.pointer (some ⟨k, 0, none⟩), .int .i64 4] w fun r w' => Rook k S (rest.extract 4 rest.size) 0 (.int .i64 (num (rest.extract 0 4).data.toList)) w r w' := by
  obtain ⟨p, hp, hst, hr⟩ := h
  have hr := hr rfl
  have c0 : w.cell? ⟨k, 0, none⟩ = some (.string S) := hst.cell rfl
  have c1 : w.cell? ⟨k, 1, none⟩ = some (.int .i64 (p : Int)) := hst.cell rfl
  have c2 : w.cell? ⟨k, 2, none⟩ = some (.int .i64 0) := hst.cell rfl
  have hsz : rest.size = S.size - p := by rw [hr, ByteArray.size_extract]; omega
  have hw : IntKind.i64.wrap ((S.size : Int) - (p : Int)) = (S.size : Int) - (p : Int) := by rw [IntKind.wrap_i64]; omega
  have hd : decide ((S.size : Int) - (p : Int) < 4) = false := by simp; omega
  have hps : p + 4 ≤ S.size := by omega
  have HQ := Lib.hid (show ∀ i, i < 4 → num (rest.data.toList.take i) < 36028797018963968 from fun i hi => by
    have h1 := num_lt (rest.data.toList.take i)
    have h2 : (rest.data.toList.take i).length ≤ 3 := by rw [List.length_take]; omega
    have h3 : 256 ^ (rest.data.toList.take i).length ≤ 256 ^ 3 := Nat.pow_le_pow_right (by omega) h2
    omega)
  have HST := Lib.hid hst
  have HR := Lib.hid hr
  clear hr hst
  go_enter Tryd.func37, Tryd.ntmps37
  go_wp2
  go_quiet (fail)
  go_wp2
  go_quiet (fail)
  go_wp2
  go_loopw [5, 6] (fun n c wr => ∃ i : Nat, i ≤ 4 ∧ c = .int .i64 i ∧ n = .int .i64 (num (rest.data.toList.take i)) ∧ St 65 k #[.string S, .int .i64 p, .int .i64 0] wr ∧ Keep k none w wr) (fun _ c _ => 4 - (intOf c).toNat)
  case atStart => exact ⟨0, by omega, rfl, rfl, HST.out, ((Keep.refl k none w).drewN _).drewN _⟩
  case round =>
    obtain ⟨i, hi, rfl, rfl, hst, hk⟩ := hrel
    have c0 : wr.cell? ⟨k, 0, none⟩ = some (.string S) := hst.cell rfl
    have c1 : wr.cell? ⟨k, 1, none⟩ = some (.int .i64 (p : Int)) := hst.cell rfl
    have f1 := hst.free 1
    by_cases hlt : i < 4
    · have hpi : p + i < S.size := by omega
      have hnext : num (rest.data.toList.take (i + 1)) = num (rest.data.toList.take i) * 256 + (S[p + i]'hpi).toNat := by
        rw [List.take_add_one, rest_get HR.out hpi]
        exact num_snoc _ _
      have hq := HQ.out i hlt
      obtain ⟨q, hqe⟩ : ∃ q, q = num (rest.data.toList.take i) := ⟨_, rfl⟩
      rw [← hqe] at hq hnext ⊢
      have HN := Lib.hid hnext
      have hw1 : IntKind.i64.wrap ((p : Int) + (i : Int)) = (p : Int) + (i : Int) := by rw [IntKind.wrap_i64]; omega
      have hb0 : (0 : Int) ≤ (p : Int) + (i : Int) := by omega
      have hb1 : (p : Int) + (i : Int) < (S.size : Int) := by omega
      have hb2 : ((p : Int) + (i : Int)).toNat = p + i := by omega
      have hw2 : IntKind.i64.wrap (256 * (q : Int)) = 256 * (q : Int) := by rw [IntKind.wrap_i64]; omega
      have hbt : (S[p + i]'hpi).toNat < 256 := (S[p + i]'hpi).toNat_lt
      obtain ⟨bt, hbe⟩ : ∃ bt, bt = (S[p + i]'hpi).toNat := ⟨_, rfl⟩
      have hw3 : IntKind.i64.wrap (256 * (q : Int) + ((S[p + i]'hpi).toNat : Int)) = 256 * (q : Int) + ((S[p + i]'hpi).toNat : Int) := by rw [IntKind.wrap_i64]; omega
      clear hqe hnext
      go_wp2
      go_quiet (fail)
      go_wp2
      go_roundw
      case rel => exact ⟨i + 1, by omega, by go_num, by rw [HN.out]; congr 1; push_cast; omega, hst, hk.drewN _⟩
      case measure => simp [intOf]; omega
    · obtain rfl : i = 4 := by omega
      have hw4 : IntKind.i64.wrap ((p : Int) + 4) = (p : Int) + 4 := by rw [IntKind.wrap_i64]; omega
      obtain ⟨q, hqe⟩ : ∃ q, q = num (rest.data.toList.take 4) := ⟨_, rfl⟩
      have HN := Lib.hid hqe
      rw [← hqe]
      clear hqe
      go_wp2
      go_ret
      refine ⟨?_, ⟨p + 4, hps, ?_, fun _ => rest_next HR.out⟩, hk.put 1 _⟩
      · show Ending.returned (.int .i64 (q : Int)) = _
        rw [HN.out, first_take]
      · have := hst.set 1 (.int .i64 ((p : Int) + 4))
        exact this
set_option maxRecDepth 100000 in
set_option maxHeartbeats 1000000 in
theorem rfU_eight (k : Nat) (S rest : ByteArray) (w : World) (hS : S.size ≤ 1073741824) (hn : 8 ≤ rest.size) (hx : num (rest.extract 0 8).data.toList ≤ 9223372036854775807) (h : Rf k S rest 0 w) :
    Calls Tryd.prog 37 #[.pointer (some ⟨k, 0, none⟩), .int .i64 8] w fun r w' => Rook k S (rest.extract 8 rest.size) 0 (.int .i64 (num (rest.extract 0 8).data.toList)) w r w' := by
  obtain ⟨p, hp, hst, hr⟩ := h
  have hr := hr rfl
  have c0 : w.cell? ⟨k, 0, none⟩ = some (.string S) := hst.cell rfl
  have c1 : w.cell? ⟨k, 1, none⟩ = some (.int .i64 (p : Int)) := hst.cell rfl
  have c2 : w.cell? ⟨k, 2, none⟩ = some (.int .i64 0) := hst.cell rfl
  have hsz : rest.size = S.size - p := by rw [hr, ByteArray.size_extract]; omega
  have hw : IntKind.i64.wrap ((S.size : Int) - (p : Int)) = (S.size : Int) - (p : Int) := by rw [IntKind.wrap_i64]; omega
  have hd : decide ((S.size : Int) - (p : Int) < 8) = false := by simp; omega
  have hps : p + 8 ≤ S.size := by omega
  have hp0 : p < S.size := by omega
  obtain ⟨b0, hb0⟩ : ∃ b0, b0 = S[p]'hp0 := ⟨_, rfl⟩
  have hhead : ∀ i, 0 < i → i ≤ 8 → ∃ tl : List UInt8, rest.data.toList.take i = b0 :: tl ∧ tl.length = i - 1 := fun i h1 h2 => head_take hr hp0 hb0 i h1 (by omega)
  have hle : b0.toNat ≤ 127 := by
    obtain ⟨tl, e1, e2⟩ := hhead 8 (by omega) (by omega)
    rw [first_take, e1] at hx
    have := num_first8 b0 tl e2
    omega
  have hgt : decide (((S[p]'hp0).toNat : Int) > 127) = false := by rw [← hb0]; simp; omega
  have HQ := Lib.hid (show ∀ i, i < 8 → num (rest.data.toList.take i) < 36028797018963968 from fun i hi => by
    by_cases h0 : 0 < i
    · obtain ⟨tl, e1, e2⟩ := hhead i h0 (by omega)
      rw [e1, num_cons]
      have h1 := num_lt tl
      have h3 : 256 ^ tl.length ≤ 256 ^ 6 := Nat.pow_le_pow_right (by omega) (by omega)
      have h4 : b0.toNat * 256 ^ tl.length ≤ 127 * 256 ^ tl.length := Nat.mul_le_mul_right _ hle
      omega
    · obtain rfl : i = 0 := by omega
      simp [num])
  have hpz : (0 : Int) ≤ (p : Int) := by omega
  have hpl : (p : Int) < (S.size : Int) := by omega
  clear hhead hle hb0
  have HST := Lib.hid hst
  have HR := Lib.hid hr
  clear hr hst
  go_enter Tryd.func37, Tryd.ntmps37
  go_wp2
  go_quiet (fail)
  go_wp2
  go_quiet (fail)
  go_wp2
  go_loopw [5, 6] (fun n c wr => ∃ i : Nat, i ≤ 8 ∧ c = .int .i64 i ∧ n = .int .i64 (num (rest.data.toList.take i)) ∧ St 65 k #[.string S, .int .i64 p, .int .i64 0] wr ∧ Keep k none w wr) (fun _ c _ => 8 - (intOf c).toNat)
  case atStart => exact ⟨0, by omega, rfl, rfl, HST.out, ((Keep.refl k none w).drewN _).drewN _⟩
  case round =>
    obtain ⟨i, hi, rfl, rfl, hst, hk⟩ := hrel
    have c0 : wr.cell? ⟨k, 0, none⟩ = some (.string S) := hst.cell rfl
    have c1 : wr.cell? ⟨k, 1, none⟩ = some (.int .i64 (p : Int)) := hst.cell rfl
    have f1 := hst.free 1
    by_cases hlt : i < 8
    · have hpi : p + i < S.size := by omega
      have hnext : num (rest.data.toList.take (i + 1)) = num (rest.data.toList.take i) * 256 + (S[p + i]'hpi).toNat := by
        rw [List.take_add_one, rest_get HR.out hpi]
        exact num_snoc _ _
      have hq := HQ.out i hlt
      obtain ⟨q, hqe⟩ : ∃ q, q = num (rest.data.toList.take i) := ⟨_, rfl⟩
      rw [← hqe] at hq hnext ⊢
      have HN := Lib.hid hnext
      have hw1 : IntKind.i64.wrap ((p : Int) + (i : Int)) = (p : Int) + (i : Int) := by rw [IntKind.wrap_i64]; omega
      have hb0 : (0 : Int) ≤ (p : Int) + (i : Int) := by omega
      have hb1 : (p : Int) + (i : Int) < (S.size : Int) := by omega
      have hb2 : ((p : Int) + (i : Int)).toNat = p + i := by omega
      have hw2 : IntKind.i64.wrap (256 * (q : Int)) = 256 * (q : Int) := by rw [IntKind.wrap_i64]; omega
      have hbt : (S[p + i]'hpi).toNat < 256 := (S[p + i]'hpi).toNat_lt
      obtain ⟨bt, hbe⟩ : ∃ bt, bt = (S[p + i]'hpi).toNat := ⟨_, rfl⟩
      have hw3 : IntKind.i64.wrap (256 * (q : Int) + ((S[p + i]'hpi).toNat : Int)) = 256 * (q : Int) + ((S[p + i]'hpi).toNat : Int) := by rw [IntKind.wrap_i64]; omega
      clear hqe hnext
      go_wp2
      go_quiet (fail)
      go_wp2
      go_roundw
      case rel => exact ⟨i + 1, by omega, by go_num, by rw [HN.out]; congr 1; push_cast; omega, hst, hk.drewN _⟩
      case measure => simp [intOf]; omega
    · obtain rfl : i = 8 := by omega
      have hw4 : IntKind.i64.wrap ((p : Int) + 8) = (p : Int) + 8 := by rw [IntKind.wrap_i64]; omega
      obtain ⟨q, hqe⟩ : ∃ q, q = num (rest.data.toList.take 8) := ⟨_, rfl⟩
      have HN := Lib.hid hqe
      rw [← hqe]
      clear hqe
      go_wp2
      go_ret
      refine ⟨?_, ⟨p + 8, hps, ?_, fun _ => rest_next HR.out⟩, hk.put 1 _⟩
      · show Ending.returned (.int .i64 (q : Int)) = _
        rw [HN.out, first_take]
      · have := hst.set 1 (.int .i64 ((p : Int) + 8))
        exact this
set_option maxRecDepth 100000 in
set_option maxHeartbeats 1000000 in
theorem rfU_eight_not (k : Nat) (S rest : ByteArray) (w : World) (hS : S.size ≤ 1073741824) (hn : 8 ≤ rest.size) (hx : 9223372036854775807 < num (rest.extract 0 8).data.toList) (h : Rf k S rest 0 w) :
    Calls Tryd.prog 37 #[.pointer (some ⟨k, 0, none⟩), .int .i64 8] w fun r w' => Rook k S ⟨#[]⟩ 3 (.int .i64 0) w r w' := by
  obtain ⟨p, hp, hst, hr⟩ := h
  have hr := hr rfl
  have c0 : w.cell? ⟨k, 0, none⟩ = some (.string S) := hst.cell rfl
  have c1 : w.cell? ⟨k, 1, none⟩ = some (.int .i64 (p : Int)) := hst.cell rfl
  have c2 : w.cell? ⟨k, 2, none⟩ = some (.int .i64 0) := hst.cell rfl
  have hsz : rest.size = S.size - p := by rw [hr, ByteArray.size_extract]; omega
  have hw : IntKind.i64.wrap ((S.size : Int) - (p : Int)) = (S.size : Int) - (p : Int) := by rw [IntKind.wrap_i64]; omega
  have hd : decide ((S.size : Int) - (p : Int) < 8) = false := by simp; omega
  have hps : p + 8 ≤ S.size := by omega
  have hp0 : p < S.size := by omega
  obtain ⟨b0, hb0⟩ : ∃ b0, b0 = S[p]'hp0 := ⟨_, rfl⟩
  have hhead : ∀ i, 0 < i → i ≤ 8 → ∃ tl : List UInt8, rest.data.toList.take i = b0 :: tl ∧ tl.length = i - 1 := fun i h1 h2 => head_take hr hp0 hb0 i h1 (by omega)
  have hle : 127 < b0.toNat := by
    obtain ⟨tl, e1, e2⟩ := hhead 8 (by omega) (by omega)
    rw [first_take, e1] at hx
    have := num_first8 b0 tl e2
    omega
  have hgt : decide (((S[p]'hp0).toNat : Int) > 127) = true := by rw [← hb0]; simp; omega
  have f2 := hst.free 2
  have hpz : (0 : Int) ≤ (p : Int) := by omega
  have hpl : (p : Int) < (S.size : Int) := by omega
  clear hhead hle hb0
  have HST := Lib.hid hst
  have HR := Lib.hid hr
  clear hr hst
  go_enter Tryd.func37, Tryd.ntmps37
  go_wp2
  go_quiet (fail)
  go_wp2
  go_quiet (fail)
  go_wp2
  go_ret
  refine ⟨rfl, ⟨p, hp, ?_, fun h => by cases h⟩, ?_⟩
  · have := HST.out.set 2 (.int .i64 3)
    exact this
  · exact ((Keep.refl k none w).drewN _).put 2 _

theorem rfU4_any (k : Nat) (S rest : ByteArray) (e : Int) (w : World) (hS : S.size ≤ 1073741824) (h : Rf k S rest e w) :
    Calls Tryd.prog 37 #[.pointer (some ⟨k, 0, none⟩), .int .i64 4] w fun r w' => Rook k S (rdU32 rest e).1 (rdU32 rest e).2.1 (.int .i64 (rdU32 rest e).2.2) w r w' := by
  unfold rdU32
  by_cases h0 : e = 0
  · subst h0
    rw [if_neg (by simp)]
    by_cases h1 : rest.size < 4
    · rw [if_pos h1]
      exact rfU_short k 4 S rest w hS h1 (by omega) h
    · rw [if_neg h1]
      exact rfU_four k S rest w hS (by omega) h
  · rw [if_pos h0]
    exact (rfU_err k S rest e 4 w h0 h).mono fun r w' ⟨hr, hw⟩ => by subst hw; exact ⟨hr, h, Keep.refl _ _ _⟩
theorem rfU8_any (k : Nat) (S rest : ByteArray) (e : Int) (w : World) (hS : S.size ≤ 1073741824) (h : Rf k S rest e w) :
    Calls Tryd.prog 37 #[.pointer (some ⟨k, 0, none⟩), .int .i64 8] w fun r w' => Rook k S (rdU64 rest e).1 (rdU64 rest e).2.1 (.int .i64 (rdU64 rest e).2.2) w r w' := by
  unfold rdU64
  by_cases h0 : e = 0
  · subst h0
    rw [if_neg (by simp)]
    by_cases h1 : rest.size < 8
    · rw [if_pos h1]
      exact rfU_short k 8 S rest w hS h1 (by omega) h
    · rw [if_neg h1]
      by_cases h2 : 9223372036854775807 < num (rest.extract 0 8).data.toList
      · rw [if_pos h2]
        exact rfU_eight_not k S rest w hS (by omega) h2 h
      · rw [if_neg h2]
        exact rfU_eight k S rest w hS (by omega) (by omega) h
  · rw [if_pos h0]
    exact (rfU_err k S rest e 8 w h0 h).mono fun r w' ⟨hr, hw⟩ => by subst hw; exact ⟨hr, h, Keep.refl _ _ _⟩
end Go.Proofs.YtimbcombhdgjiaaDoor
