/- Messages: the program's read. -/
import Derived.Test.YtimbcombhdgjiaaDoorMy
namespace Go.Proofs.YtimbcombhdgjiaaDoor
open Go.RowKit

theorem atW_gone {s : ByteArray} {i : Nat} (h : s.size < 4 * i + 4) : atW s i = -1 := by
  unfold atW; rw [if_pos h]
theorem hasB_iff (m : Mg) (s : ByteArray) : hasB m s = true ↔ okMg m = true ∧ str (mgBytes m) = s := by
  simp [hasB]
theorem hasB_get {m : Mg} {s : ByteArray} (h : hasB m s = true) : mgGet s = (m, 0) := by
  obtain ⟨h1, h2⟩ := (hasB_iff m s).1 h
  rw [← h2]
  exact mgGet_bytes h1
theorem get_hasB {m : Mg} {s : ByteArray} (h : mgGet s = (m, 0)) (h2 : m.ans = true ∨ m.accept = 0) : hasB m s = true := by
  have e1 : (mgGet s).2 = 0 := by rw [h]
  have e2 : (mgGet s).1.ans = true ∨ (mgGet s).1.accept = 0 := by rw [h]; exact h2
  have h3 := mgGet_ok e1 e2
  have h4 := mgBytes_get e1 e2
  rw [h] at h3 h4
  refine (hasB_iff m s).2 ⟨h3, ?_⟩
  rw [h4, str_data]
/-- What is read of a reply's bytes. -/
theorem reply_get {s : ByteArray} (hz : s.size ≤ 2048) (a1 : atW s 1 = 1) : mgGet s = if hasB (seemR s (atW s 0)) s = true then (seemR s (atW s 0), 0) else (Mg.zero, 14) := by
  by_cases hb : hasB (seemR s (atW s 0)) s = true
  · rw [if_pos hb]
    exact hasB_get hb
  · rw [if_neg hb]
    have hg : ∀ m, mgGet s = (m, 0) → m = seemR s (atW s 0) → False := fun m h1 h2 => by
      subst h2
      exact hb (get_hasB h1 (.inl rfl))
    unfold mgGet at hg ⊢
    rw [if_neg (by omega), if_neg (by omega), if_pos a1] at hg ⊢
    by_cases k3 : atW s 2 ≠ 0 ∨ atW s 3 < 0 ∨ 1 < atW s 3 ∨ atW s 4 ≠ 0 ∨ atW s 5 < 0
    · rw [if_pos k3]
    · rw [if_neg k3] at hg ⊢
      by_cases hok : okMg { Mg.zero with xid := atW s 0, ans := true, again := decide (atW s 3 = 1), accept := atW s 5, body := s.extract 24 s.size } = true
      · rw [if_pos hok] at hg
        exfalso
        refine hg _ rfl ?_
        have hs := atW_there (s := s) (i := 5) (by omega)
        have h4 := (okMg_body hok).2
        have h4 : (s.extract 24 s.size).size % 4 = 0 := h4
        rw [ByteArray.size_extract] at h4
        have e3 : decide (atW s 3 = 1) = (atW s 3 != 0) := by
          rw [Bool.eq_iff_iff]
          simp only [decide_eq_true_eq, bne_iff_ne]
          omega
        have e9 : restOf s 6 = s.extract 24 s.size := by unfold restOf; rw [if_pos (by omega)]
        unfold seemR
        rw [e3, e9]
        rfl
      · rw [if_neg hok]
/-- What is read of a call's bytes that are whole up to the body. -/
theorem call_get {s : ByteArray} (hz : s.size ≤ 2048) (h1 : 56 ≤ s.size) (a1 : atW s 1 = 0) (a2 : atW s 2 = 2) (a3 : atW s 3 = 100003) (a4 : atW s 4 = 3) :
    mgGet s = if okProc (atW s 5) = false then ({ Mg.zero with xid := atW s 0, accept := 3 }, 0) else if hasB (seemC s (atW s 0)) s = true then (seemC s (atW s 0), 0) else ({ Mg.zero with xid := atW s 0, accept := 4 }, 0) := by
  have ge : ∀ i, i ≤ 13 → 0 ≤ atW s i := by
    intro i hi
    unfold atW
    rw [if_neg (by omega)]
    omega
  have g5 := ge 5 (by omega)
  have g13 := ge 13 (by omega)
  by_cases hp : okProc (atW s 5) = false
  · rw [if_pos hp]
    have : 21 < atW s 5 := by
      unfold okProc at hp
      simp only [Bool.and_eq_false_iff, decide_eq_false_iff_not] at hp
      omega
    unfold mgGet
    rw [if_neg (by omega), if_neg (by omega), if_neg (by omega), if_neg (by omega), if_neg (by omega), if_neg (by omega), if_neg (by omega), if_neg (by omega), if_pos this]
  · rw [if_neg hp]
    have h21 : ¬ 21 < atW s 5 := by
      unfold okProc at hp
      simp only [Bool.and_eq_false_iff, decide_eq_false_iff_not] at hp
      omega
    by_cases hb : hasB (seemC s (atW s 0)) s = true
    · rw [if_pos hb]
      exact hasB_get hb
    · rw [if_neg hb]
      have hg : ∀ m, mgGet s = (m, 0) → m = seemC s (atW s 0) → False := fun m h1 h2 => by
        subst h2
        exact hb (get_hasB h1 (.inr rfl))
      unfold mgGet at hg ⊢
      rw [if_neg (by omega), if_neg (by omega), if_neg (by omega), if_neg (by omega), if_neg (by omega), if_neg (by omega), if_neg (by omega), if_neg (by omega), if_neg h21] at hg ⊢
      by_cases k9 : atW s 6 ≠ 1 ∨ atW s 7 ≠ 16 ∨ atW s 12 ≠ 0 ∨ atW s 13 ≠ 0 ∨ okOwner (atW s 8) (atW s 9) (atW s 10) (atW s 11) = false ∨ s.size % 4 ≠ 0
      · rw [if_pos k9]
      · rw [if_neg k9] at hg
        exfalso
        refine hg _ rfl ?_
        simp only [not_or, Decidable.not_not] at k9
        unfold seemC restOf
        rw [if_pos k9.2.2.2.2.2]
/-- Where a number of a call is missing, so that it is told at once. -/
def goneC (s : ByteArray) : Prop := s.size < 12 ∨ (atW s 2 = 2 ∧ (s.size < 16 ∨ (atW s 3 = 100003 ∧ (s.size < 20 ∨ (atW s 4 = 3 ∧ s.size < 56)))))
theorem goneC_get {s : ByteArray} (hz : s.size ≤ 2048) (a1 : atW s 1 = 0) (h : goneC s) : mgGet s = (Mg.zero, 14) := by
  unfold mgGet
  rw [if_neg (by omega), if_neg (by omega), if_neg (by omega)]
  rcases h with h | ⟨a2, h | ⟨a3, h | ⟨a4, h⟩⟩⟩
  · have := atW_gone (s := s) (i := 2) (by omega)
    rw [if_pos (by omega)]
  · have := atW_gone (s := s) (i := 3) (by omega)
    rw [if_pos (by omega)]
  · have := atW_gone (s := s) (i := 4) (by omega)
    rw [if_neg (by omega), if_neg (by omega), if_pos (by omega)]
  · have := atW_gone (s := s) (i := 13) (by omega)
    rw [if_neg (by omega), if_neg (by omega), if_neg (by omega), if_neg (by omega), if_pos (by omega)]
theorem goneR_get {s : ByteArray} (hz : s.size ≤ 2048) (a1 : atW s 1 = 1) (h : s.size < 24) : mgGet s = (Mg.zero, 14) := by
  unfold mgGet
  have := atW_gone (s := s) (i := 5) (by omega)
  rw [if_neg (by omega), if_neg (by omega), if_pos a1, if_pos (by omega)]
theorem gone8_get {s : ByteArray} (h : s.size < 8) : mgGet s = (Mg.zero, 14) := by
  unfold mgGet
  have := atW_gone (s := s) (i := 1) (by omega)
  rw [if_neg (by omega), if_pos (by omega)]
theorem odd_get {s : ByteArray} (hz : s.size ≤ 2048) (h0 : atW s 1 ≠ 0) (h1 : atW s 1 ≠ 1) : mgGet s = (Mg.zero, 14) := by
  unfold mgGet
  rw [if_neg (by omega), if_pos ⟨h0, h1⟩]

/-- What a call answers that has read a message. -/
def Told (s : ByteArray) (e : Ending) : Prop := e = .returned (.tuple #[.agg (mgGet s).1.arr, .int .i64 (mgGet s).2])
theorem readReply_any (k : Nat) (s : ByteArray) (w : World) (h : Rd k (s.extract (4 * 2) s.size) 0 w) (hz : s.size ≤ 2048) (h1 : 24 ≤ s.size) (a1 : atW s 1 = 1) :
    Calls Tryd.prog 35 #[.string s, .int .i64 (atW s 0), .pointer (some ⟨k, 0, none⟩)] w fun e w' => Told s e ∧ Keep k none w w' := by
  unfold Told
  rw [reply_get hz a1]
  cases hb : hasB (seemR s (atW s 0)) s
  · rw [if_neg (by simp)]
    exact readReply_false k s _ w h hz h1 hb
  · rw [if_pos rfl]
    exact readReply_true k s _ w h hz h1 hb
theorem readCall_gone (k : Nat) (s : ByteArray) (x : Int) (w : World) (h : Rd k (s.extract (4 * 2) s.size) 0 w) (h8 : 8 ≤ s.size) (hg : goneC s) :
    Calls Tryd.prog 34 #[.string s, .int .i64 x, .pointer (some ⟨k, 0, none⟩)] w fun e w' => e = .panicked thrown ∧ Keep k none w w' := by
  by_cases h1 : s.size < 12
  · exact readCall_goneN2 k s x w h h8 h1
  rcases hg with hg | ⟨a2, hg⟩
  · exact absurd hg h1
  by_cases h2 : s.size < 16
  · exact readCall_goneN3 k s x w h (by omega) h2 a2
  rcases hg with hg | ⟨a3, hg⟩
  · exact absurd hg h2
  by_cases h3 : s.size < 20
  · exact readCall_goneN4 k s x w h (by omega) h3 a2 a3
  rcases hg with hg | ⟨a4, hg⟩
  · exact absurd hg h3
  by_cases h4 : s.size < 24
  · exact readCall_goneN5 k s x w h (by omega) h4 a2 a3 a4
  by_cases h5 : s.size < 32
  · exact readCall_goneS6 k s x w h (by omega) h5 a2 a3 a4
  by_cases h6 : s.size < 36
  · exact readCall_goneN8 k s x w h (by omega) h6 a2 a3 a4
  by_cases h7 : s.size < 40
  · exact readCall_goneN9 k s x w h (by omega) h7 a2 a3 a4
  by_cases h8 : s.size < 44
  · exact readCall_goneN10 k s x w h (by omega) h8 a2 a3 a4
  by_cases h9 : s.size < 48
  · exact readCall_goneN11 k s x w h (by omega) h9 a2 a3 a4
  exact readCall_goneS12 k s x w h (by omega) hg a2 a3 a4
theorem readCall_any (k : Nat) (s : ByteArray) (w : World) (h : Rd k (s.extract (4 * 2) s.size) 0 w) (hz : s.size ≤ 2048) (a1 : atW s 1 = 0) (hg : ¬ goneC s) :
    Calls Tryd.prog 34 #[.string s, .int .i64 (atW s 0), .pointer (some ⟨k, 0, none⟩)] w fun e w' => Told s e ∧ Keep k none w w' := by
  unfold Told
  unfold goneC at hg
  have h12 : 12 ≤ s.size := by omega
  by_cases a2 : atW s 2 = 2
  · have h16 : 16 ≤ s.size := by omega
    have g3 : 0 ≤ atW s 3 := by unfold atW; rw [if_neg (by omega)]; omega
    by_cases a3 : atW s 3 = 100003
    · have h20 : 20 ≤ s.size := by omega
      have g4 : 0 ≤ atW s 4 := by unfold atW; rw [if_neg (by omega)]; omega
      by_cases a4 : atW s 4 = 3
      · have h56 : 56 ≤ s.size := by omega
        rw [call_get hz h56 a1 a2 a3 a4]
        cases hp : okProc (atW s 5)
        · rw [if_pos rfl]
          exact readCall_proc k s _ w h hz h56 a2 a3 a4 hp
        · rw [if_neg (by simp)]
          cases hb : hasB (seemC s (atW s 0)) s
          · rw [if_neg (by simp)]
            exact readCall_false k s _ w h hz h56 a2 a3 a4 hp hb
          · rw [if_pos rfl]
            exact readCall_true k s _ w h hz h56 a2 a3 a4 hp hb
      · have e : mgGet s = ({ Mg.zero with xid := atW s 0, accept := 2 }, 0) := by
          unfold mgGet
          rw [if_neg (by omega), if_neg (by omega), if_neg (by omega), if_neg (by omega), if_neg (by omega), if_neg (by omega), if_pos a4]
        rw [e]
        exact readCall_vers k s _ w h h20 a2 a3 a4
    · have e : mgGet s = ({ Mg.zero with xid := atW s 0, accept := 1 }, 0) := by
        unfold mgGet
        rw [if_neg (by omega), if_neg (by omega), if_neg (by omega), if_neg (by omega), if_pos a3]
      rw [e]
      exact readCall_prog k s _ w h h16 a2 a3
  · have e : mgGet s = (Mg.zero, 14) := by
      unfold mgGet
      rw [if_neg (by omega), if_neg (by omega), if_neg (by omega), if_pos (by omega)]
    rw [e]
    exact readCall_two k s _ w h h12 a2
end Go.Proofs.YtimbcombhdgjiaaDoor
