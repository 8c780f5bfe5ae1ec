/- Names: the reference's Show. -/
import Derived.Test.YteijcfmgaljjaaaDoorNh
import Derived.Test.YteijcfmgaljjaaaDoorNf
namespace Go.Proofs.YteijcfmgaljjaaaDoor
open Go.RowKit

/-- The bytes behind the first one of a rune go on; none begins a rune. -/
theorem decode_conts (s : ByteArray) (pos : Nat) : ∀ j, 1 ≤ j → j < (Utf8.decode s pos).2 → ∀ h : pos + j < s.size, 128 ≤ (s[pos + j]'h).toNat ∧ (s[pos + j]'h).toNat ≤ 191 := by
  intro j hj1 hj hlt
  have hd := Lib.decode_at s pos
  rw [get_at s pos j hlt]
  have k1 := (s.get! (pos + 1)).toNat_lt
  have k2 := (s.get! (pos + 2)).toNat_lt
  have k3 := (s.get! (pos + 3)).toNat_lt
  rcases Lib.decodeN_shape (s.size - pos) (s.get! pos).toNat (s.get! (pos + 1)).toNat (s.get! (pos + 2)).toNat (s.get! (pos + 3)).toNat with ⟨c, e⟩ | ⟨c1, c2, c3, cv, e⟩ | ⟨c1, c2, c3, c4, cv, cs, e⟩ | ⟨c1, c2, c3, c4, c5, cv, cw, e⟩ | e
  all_goals
    rw [hd, e] at hj
    dsimp only at hj
    have h3 : j = 1 ∨ j = 2 ∨ j = 3 := by omega
    rcases h3 with rfl | rfl | rfl
    · omega
    · omega
    · omega
/-- At such a byte there is no rune. -/
theorem decode_none (s : ByteArray) (pos : Nat) (h : pos < s.size) (h1 : 128 ≤ (s[pos]'h).toNat) (h2 : (s[pos]'h).toNat ≤ 191) : Utf8.decode s pos = (65533, 1) := by
  rw [Lib.decode_at, show (s.get! pos).toNat = (s[pos]'h).toNat by rw [Utf8W.get!_of_lt s pos h]]
  exact dec_other h1 (by omega) (s[pos]'h).toNat_lt
/-- A rune that is one has just the bytes that it was decoded from. -/
theorem encode_at (s : ByteArray) (pos : Nat) (h : pos < s.size) (hv : Utf8.decode s pos ≠ (65533, 1)) : Lib.encodeRune ((Utf8.decode s pos).1 : Int) = (s.data.toList.drop pos).take (Utf8.decode s pos).2 := by
  have hne : (s.data.toList.drop pos) ≠ [] := by
    intro e
    have := congrArg List.length e
    simp at this
    omega
  have hL := Lib.decodeL_drop s pos
  have := Lib.encode_decode (s.data.toList.drop pos) hne (by rw [hL]; intro e; exact hv (Prod.ext e.1 e.2))
  rw [hL] at this
  exact this

/-- What the reference shows from a place on. -/
def refFrom (s : ByteArray) : Nat → Nat → List UInt8
  | 0, _ => []
  | f + 1, i => if h : i < s.size then
      (if 0 < (msz (Utf8.decode s i)).1 ∧ plainN (msz (Utf8.decode s i)).2 = true then (s.data.toList.drop i).take (msz (Utf8.decode s i)).1 ++ refFrom s f (i + (msz (Utf8.decode s i)).1)
       else hexOf (s[i]'h) ++ refFrom s f (i + 1))
    else []
theorem refFrom_end (s : ByteArray) (f i : Nat) (h : ¬ i < s.size) : refFrom s f i = [] := by
  cases f with
  | zero => rfl
  | succ f => simp [refFrom, h]
theorem refFrom_conts (s : ByteArray) (pos : Nat) : ∀ (k f : Nat), (∀ j, j < k → ∃ h : pos + j < s.size, 128 ≤ (s[pos + j]'h).toNat ∧ (s[pos + j]'h).toNat ≤ 191) → refFrom s (f + k) pos = escL ((s.data.toList.drop pos).take k) ++ refFrom s f (pos + k)
  | 0, f, _ => by simp [escL]
  | k + 1, f, h => by
    obtain ⟨h0, h1, h2⟩ := h 0 (by omega)
    simp only [Nat.add_zero] at h0 h1 h2
    have hd := decode_none s pos h0 h1 h2
    have e : refFrom s (f + (k + 1)) pos = hexOf (s[pos]'h0) ++ refFrom s (f + k) (pos + 1) := by
      show refFrom s ((f + k) + 1) pos = _
      simp only [refFrom, dif_pos h0]
      rw [hd, msz_bad rfl, if_neg (by simp)]
    have ih := refFrom_conts s (pos + 1) k f (fun j hj => by
      obtain ⟨a, b⟩ := h (j + 1) (by omega)
      have e : pos + (j + 1) = pos + 1 + j := by omega
      exact ⟨by omega, by simpa only [e] using b⟩)
    have hg : s.data.toList.drop pos = (s[pos]'h0) :: s.data.toList.drop (pos + 1) := by
      have hl : pos < s.data.toList.length := by simpa using h0
      rw [List.drop_eq_getElem_cons hl]
      rfl
    rw [e, ih, hg, List.take_succ_cons, show escL (s[pos]'h0 :: List.take k (s.data.toList.drop (pos + 1))) = hexOf (s[pos]'h0) ++ escL (List.take k (s.data.toList.drop (pos + 1))) from rfl, List.append_assoc]
    congr 3
    omega
theorem plain_bad : plainN 65533 = false := by decide
theorem ref_show (s : ByteArray) : ∀ (n f g pos : Nat), s.size - pos ≤ n → s.size ≤ pos + f → s.size ≤ pos + g → refFrom s f pos = showFrom s g pos
  | n, f, g, pos, hn, hf, hg => by
    by_cases hp : pos < s.size
    · obtain ⟨n, rfl⟩ : ∃ m, n = m + 1 := ⟨n - 1, by omega⟩
      obtain ⟨f, rfl⟩ : ∃ m, f = m + 1 := ⟨f - 1, by omega⟩
      obtain ⟨g, rfl⟩ : ∃ m, g = m + 1 := ⟨g - 1, by omega⟩
      have hin := decode_in s pos hp
      have hs : showFrom s (g + 1) pos = stepB s pos ++ showFrom s g (pos + (Utf8.decode s pos).2) := by
        show (if pos < s.size then _ else _) = _
        rw [if_pos hp]
      rw [hs]
      have hr : refFrom s (f + 1) pos = if 0 < (msz (Utf8.decode s pos)).1 ∧ plainN (msz (Utf8.decode s pos)).2 = true then (s.data.toList.drop pos).take (msz (Utf8.decode s pos)).1 ++ refFrom s f (pos + (msz (Utf8.decode s pos)).1) else hexOf (s[pos]'hp) ++ refFrom s f (pos + 1) := by
        simp only [refFrom, dif_pos hp]
      by_cases hb : Utf8.decode s pos = (65533, 1)
      · rw [hr, msz_bad hb, if_neg (by simp), ref_show s n f g (pos + 1) (by omega) (by omega) (by omega)]
        have hst : stepB s pos = hexOf (s[pos]'hp) := by
          unfold stepB
          rw [hb, plain_bad, if_neg (by simp)]
          have hl : pos < s.data.toList.length := by simpa using hp
          rw [List.drop_eq_getElem_cons hl]
          simp [escL]
          rfl
        rw [hst, hb]
      · have hm : msz (Utf8.decode s pos) = ((Utf8.decode s pos).2, (Utf8.decode s pos).1) := by unfold msz; rw [if_neg hb]
        cases hpl : plainN (Utf8.decode s pos).1 with
        | true =>
          rw [hr, hm]
          dsimp only
          rw [if_pos ⟨hin.1, hpl⟩, ref_show s n f g (pos + (Utf8.decode s pos).2) (by omega) (by omega) (by omega)]
          have hst : stepB s pos = (s.data.toList.drop pos).take (Utf8.decode s pos).2 := by
            unfold stepB
            rw [if_pos hpl, encode_at s pos hp hb]
          rw [hst]
        | false =>
          have hst : stepB s pos = escL ((s.data.toList.drop pos).take (Utf8.decode s pos).2) := by
            unfold stepB
            rw [if_neg (by rw [hpl]; simp)]
          obtain ⟨k, hk⟩ : ∃ k, (Utf8.decode s pos).2 = k + 1 := ⟨(Utf8.decode s pos).2 - 1, by omega⟩
          have hcs := decode_conts s pos
          rw [hr, hm]
          dsimp only
          rw [if_neg (by rw [hpl]; simp), hst, hk]
          obtain ⟨f', rfl⟩ : ∃ f', f = f' + k := ⟨f - k, by omega⟩
          have hl : pos < s.data.toList.length := by simpa using hp
          have hg0 : s.data.toList.drop pos = (s[pos]'hp) :: s.data.toList.drop (pos + 1) := by
            rw [List.drop_eq_getElem_cons hl]
            rfl
          rw [refFrom_conts s (pos + 1) k f' (fun j hj => by
            have e : pos + (j + 1) = pos + 1 + j := by omega
            have hlt : pos + (j + 1) < s.size := by omega
            have := hcs (j + 1) (by omega) (by omega) hlt
            exact ⟨by omega, by simpa only [e] using this⟩)]
          rw [ref_show s n f' g (pos + 1 + k) (by omega) (by omega) (by omega), hg0, List.take_succ_cons, show escL (s[pos]'hp :: List.take k (s.data.toList.drop (pos + 1))) = hexOf (s[pos]'hp) ++ escL (List.take k (s.data.toList.drop (pos + 1))) from rfl, List.append_assoc]
          congr 3
          omega
    · rw [refFrom_end s f pos hp, showFrom_end s g pos hp]
  termination_by n => n
end Go.Proofs.YteijcfmgaljjaaaDoor
