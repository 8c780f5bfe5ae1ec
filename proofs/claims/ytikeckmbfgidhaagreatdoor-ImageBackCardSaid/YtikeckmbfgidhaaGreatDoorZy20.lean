/- Several texts in one: Rx. -/
import Derived.Test.YtikeckmbfgidhaaGreatDoorZy18
import Derived.Test.YtikeckmbfgidhaaGreatDoorZy19
/- Texts that are read: the function that take hands a fixed text's bytes to. -/
namespace Go.Proofs.YtikeckmbfgidhaaGreatDoor
open Go.RowKit
set_option linter.unusedSimpArgs false
set_option linter.unusedVariables false

theorem keep_of_below {k : Nat} {r : Option Nat} {w w' : World} (h : Below w.heap.size w w') : Keep k r w w' := ⟨h.os, h.tape, h.output, h.size, fun j hj _ _ => h.block j hj⟩

def allZero (xs : List UInt8) : Bool := xs.all (· == 0)

theorem trimB_zero (xs : List UInt8) (h : allZero xs = true) : Lib.trimB xs 0 = [] := by
  have h' : ∀ b ∈ xs, b = 0 := fun b hb => by simpa using List.all_eq_true.1 h b hb
  have e : Lib.trimRightB xs 0 = [] := by
    have := Lib.trimRightB_take xs 0 0 (Nat.zero_le _) (fun j b _ hb => h' b (List.mem_of_getElem? hb)) (fun b hb h0 => by omega)
    simpa using this
  unfold Lib.trimB
  rw [e]; rfl
theorem trimB_not (xs : List UInt8) (h : allZero xs = false) : Lib.trimB xs 0 ≠ [] := by
  intro h0
  have hl : ∀ (l : List UInt8), l.dropWhile (· == (0 : UInt8)) = [] → ∀ b ∈ l, b = 0 := by
    intro l
    induction l with
    | nil => intro _ b hb; cases hb
    | cons a l ih =>
      intro he b hb
      by_cases ha : (a == (0 : UInt8)) = true
      · simp only [List.dropWhile_cons, ha, if_true] at he
        rcases List.mem_cons.1 hb with rfl | hb
        · simpa using ha
        · exact ih he b hb
      · simp [List.dropWhile_cons, ha] at he
  have h1 := hl _ h0
  have h2 : xs.reverse.dropWhile (· == (0 : UInt8)) = [] := by
    have hd : ∀ (l : List UInt8), (∀ b ∈ (l.dropWhile (· == (0 : UInt8))), b = 0) → l.dropWhile (· == (0 : UInt8)) = [] := by
      intro l
      induction l with
      | nil => intro _; rfl
      | cons a l ih =>
        intro he
        by_cases ha : (a == (0 : UInt8)) = true
        · simp only [List.dropWhile_cons, ha, if_true] at he ⊢
          exact ih he
        · simp only [List.dropWhile_cons, ha, Bool.false_eq_true, if_false] at he
          have := he a (by simp)
          subst this
          simp at ha
    refine hd _ fun b hb => h1 b ?_
    unfold Lib.trimRightB
    simpa using hb
  have h3 := hl _ h2
  have : allZero xs = true := by
    unfold allZero
    rw [List.all_eq_true]
    intro b hb
    simpa using h3 b (by simpa using hb)
  rw [this] at h
  cases h

theorem trim_zero (s : ByteArray) (w : World) (hs : s.size ≤ 9223372036854775807) (h : allZero s.data.toList = true) :
    Calls Tryz.prog 54 #[.string s, .string ⟨#[0]⟩] w fun e w' => e = .returned (.string ⟨#[]⟩) ∧ Below w.heap.size w w' := by
  refine (Tryz.strings_Trim_one s 0 (by decide) w hs).mono fun e w' ⟨he, hw⟩ => ?_
  rw [trimB_zero _ h] at he
  exact ⟨he, by rcases hw with rfl | rfl <;> first | exact Below.refl _ _ | exact (Below.refl _ _).drew⟩
theorem trim_not (s : ByteArray) (w : World) (hs : s.size ≤ 9223372036854775807) (h : allZero s.data.toList = false) :
    Calls Tryz.prog 54 #[.string s, .string ⟨#[0]⟩] w fun e w' => (∃ t : ByteArray, e = .returned (.string t) ∧ t ≠ ⟨#[]⟩) ∧ Below w.heap.size w w' := by
  refine (Tryz.strings_Trim_one s 0 (by decide) w hs).mono fun e w' ⟨he, hw⟩ => ?_
  refine ⟨⟨_, he, fun e => trimB_not _ h ?_⟩, by rcases hw with rfl | rfl <;> first | exact Below.refl _ _ | exact (Below.refl _ _).drew⟩
  have := congrArg (fun (b : ByteArray) => b.data.toList) e
  simpa using this
theorem clone_any (s : ByteArray) (w : World) (hs : s.size ≤ 281474976710656) :
    Calls Tryz.prog 55 #[.string s] w fun e w' => e = .returned (.string s) ∧ Below w.heap.size w w' := by
  go_enter Tryz.func55, Tryz.ntmps55
  go_wp2_with (go_at_call 64; go_must (refine (Tryz.stringslite_Clone s _ hs).mono ?_); rintro e w1 ⟨rfl, hb⟩)
  go_ret
  exact ⟨rfl, hb⟩

set_option maxRecDepth 100000 in
theorem cFixed (part : ByteArray) (bn bs n : Nat) (v0 : Value) (w : World) (hn : n ≤ part.size) (hsz : part.size ≤ 281474976710656) (hz : allZero (part.extract n part.size).data.toList = true) (h1 : St 3 bn #[.int .i64 n] w) (h2 : St 9 bs #[v0] w) :
    Calls Tryz.prog 53 #[.string part, .pointer (some ⟨bn, 0, none⟩), .pointer (some ⟨bs, 0, none⟩)] w fun e w' => e = .returned (.int .i64 0) ∧ St 9 bs #[.string (part.extract 0 n)] w' ∧ Keep bs none w w' := by
  have c1 := h1.cell (j := 0) rfl
  have z1 : (part.extract n part.size).size ≤ 9223372036854775807 := by rw [ByteArray.size_extract]; omega
  have z2 : (part.extract 0 n).size ≤ 281474976710656 := by rw [ByteArray.size_extract]; omega
  go_enter Tryz.func53, Tryz.ntmps53
  go_wp2_with (first | (go_at_call 54; go_must (refine (trim_zero _ w z1 hz).mono ?_); rintro e w1 ⟨rfl, hb1⟩; have d1 := (h1.below hb1).cell (j := 0) rfl; have h3 := h2.below hb1) | (go_at_call 55; go_must (refine (clone_any _ _ z2).mono ?_); rintro e w2 ⟨rfl, hb2⟩; have h4 := h3.below hb2; have c4 := h4.cell (j := 0) rfl; have f4 := h4.free 0))
  go_ret
  exact ⟨rfl, h4.set 0 _, (keep_of_below (hb1.trans (hb2.mono hb1.size))).put 0 _⟩

set_option maxRecDepth 100000 in
theorem cFixed_not (part : ByteArray) (bn bs n : Nat) (v0 : Value) (w : World) (hn : n ≤ part.size) (hsz : part.size ≤ 281474976710656) (hz : allZero (part.extract n part.size).data.toList = false) (h1 : St 3 bn #[.int .i64 n] w) (h2 : St 9 bs #[v0] w) :
    Calls Tryz.prog 53 #[.string part, .pointer (some ⟨bn, 0, none⟩), .pointer (some ⟨bs, 0, none⟩)] w fun e w' => e = .returned (.int .i64 11) ∧ St 9 bs #[v0] w' ∧ Keep bs none w w' := by
  have c1 := h1.cell (j := 0) rfl
  have z1 : (part.extract n part.size).size ≤ 9223372036854775807 := by rw [ByteArray.size_extract]; omega
  go_enter Tryz.func53, Tryz.ntmps53
  go_wp2_with fail
  refine (trim_not _ w z1 hz).mono ?_
  rintro e w1 ⟨⟨t, rfl, ht⟩, hb1⟩
  have h3 := h2.below hb1
  have hemp : t.toList.isEmpty = false := by
    rw [← decide_eq_emptyBytes]
    exact decide_eq_false (fun h => ht (by rw [h]; rfl))
  go_wp2
  go_ret
  exact ⟨rfl, h3, keep_of_below hb1⟩
end Go.Proofs.YtikeckmbfgidhaaGreatDoor
