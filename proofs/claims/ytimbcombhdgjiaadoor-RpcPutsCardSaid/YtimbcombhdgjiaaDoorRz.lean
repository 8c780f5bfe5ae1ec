/- Fixed, Opaque and Opt of a reader, whole; the law's take over a reader. -/
import Derived.Test.YtimbcombhdgjiaaDoorRy
namespace Go.Proofs.YtimbcombhdgjiaaDoor
open Go.RowKit

theorem rFixed_any (k : Nat) (n : Int) (s : ByteArray) (e : Int) (w : World) (hsz : s.size ≤ 1073741824) (h : Rd k s e w) :
    Calls Tryd.prog 48 #[.pointer (some ⟨k, 0, none⟩), .int .i64 n] w fun r w' => Took k (rdFixed n s e).1 (rdFixed n s e).2.1 (.string (rdFixed n s e).2.2) w r w' := by
  by_cases h1 : n < 0
  · have ed : rdFixed n s e = ((rdFail 2 s e).1, (rdFail 2 s e).2, ⟨#[]⟩) := by unfold rdFixed; rw [if_pos h1]
    rw [ed]
    exact rFixed_low k n s e w h1 h
  · by_cases h2 : (s.size : Int) < n
    · have ed : rdFixed n s e = ((rdFail 10 s e).1, (rdFail 10 s e).2, ⟨#[]⟩) := by unfold rdFixed; rw [if_neg h1, if_pos h2]
      rw [ed]
      exact rFixed_high k n s e w (by omega) h2 h
    · obtain ⟨m, rfl⟩ : ∃ m : Nat, n = m := ⟨n.toNat, by omega⟩
      by_cases he : e = 0
      · subst he
        by_cases h3 : s.size < m + padN m
        · have ed : rdFixed m s 0 = (⟨#[]⟩, 10, ⟨#[]⟩) := by unfold rdFixed; rw [if_neg h1, if_neg h2, if_neg (by simp), if_pos (by simpa using h3)]
          rw [ed]
          exact rFixed_short k m _ s w hsz (by omega) rfl h3 h
        · by_cases h4 : allZero (s.extract m (m + padN m)).data.toList = false
          · have ed : rdFixed m s 0 = (⟨#[]⟩, 11, ⟨#[]⟩) := by unfold rdFixed; rw [if_neg h1, if_neg h2, if_neg (by simp), if_neg (by simpa using h3), if_pos (by rw [Int.toNat_natCast]; exact h4)]
            rw [ed]
            exact rFixed_not k m _ s w hsz (by omega) rfl (by omega) h4 h
          · have ed : rdFixed m s 0 = (s.extract (m + padN m) s.size, 0, s.extract 0 m) := by unfold rdFixed; rw [if_neg h1, if_neg h2, if_neg (by simp), if_neg (by simpa using h3), if_neg (by rw [Int.toNat_natCast]; exact h4), Int.toNat_natCast]
            rw [ed]
            exact rFixed_ok k m _ s w hsz (by omega) rfl (by omega) (by simpa using h4) h
      · have ed : rdFixed m s e = (s, e, ⟨#[]⟩) := by unfold rdFixed; rw [if_neg h1, if_neg h2, if_pos he]
        rw [ed]
        exact rFixed_err k m _ s e w hsz (by omega) rfl he h

theorem rdU32_le (s : ByteArray) (e : Int) : (rdU32 s e).1.size ≤ s.size := by
  unfold rdU32; split
  · exact Nat.le_refl _
  · split
    · exact Nat.zero_le _
    · simp only [ByteArray.size_extract]; omega
theorem rdBool_le (s : ByteArray) (e : Int) : (rdBool s e).1.size ≤ s.size := by
  unfold rdBool; split
  · exact Nat.le_refl _
  · split
    · exact Nat.zero_le _
    · split
      · exact Nat.zero_le _
      · simp only [ByteArray.size_extract]; omega

def rdOpaque (most : Int) (s : ByteArray) (e : Int) : ByteArray × Int × ByteArray :=
  if most < (rdU32 s e).2.2 then ((rdFail 4 (rdU32 s e).1 (rdU32 s e).2.1).1, (rdFail 4 (rdU32 s e).1 (rdU32 s e).2.1).2, ⟨#[]⟩)
  else rdFixed (rdU32 s e).2.2 (rdU32 s e).1 (rdU32 s e).2.1

theorem Took.keep_trans {k : Nat} {w w1 w2 : World} (h : Keep k none w w1) (g : Keep k none w1 w2) : Keep k none w w2 := h.trans g (.inl rfl)

def rdOpt (s : ByteArray) (e : Int) : ByteArray × Int × Bool × Int :=
  if (rdBool s e).2.2 = false then ((rdBool s e).1, (rdBool s e).2.1, false, 0)
  else if (rdU64 (rdBool s e).1 (rdBool s e).2.1).2.1 ≠ 0 then ((rdU64 (rdBool s e).1 (rdBool s e).2.1).1, (rdU64 (rdBool s e).1 (rdBool s e).2.1).2.1, false, 0)
  else ((rdU64 (rdBool s e).1 (rdBool s e).2.1).1, 0, true, (rdU64 (rdBool s e).1 (rdBool s e).2.1).2.2)

end Go.Proofs.YtimbcombhdgjiaaDoor
