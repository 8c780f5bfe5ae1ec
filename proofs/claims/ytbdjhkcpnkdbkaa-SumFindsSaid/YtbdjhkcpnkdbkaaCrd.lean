/- Plain lemmas on the checksum: what it finds, and how it turns. Nothing of the program is named here. -/
import Derived.Test.YtbdjhkcpnkdbkaaCrc
namespace Go.Proofs.Ytbdjhkcpnkdbkaa
open Go.RowKit

theorem xor_eq_zero {a b : BitVec 32} (h : a ^^^ b = 0#32) : a = b := by
  have : a ^^^ b ^^^ b = 0#32 ^^^ b := by rw [h]
  rwa [BitVec.xor_assoc, BitVec.xor_self, BitVec.xor_zero, BitVec.zero_xor] at this

theorem st_zero (r : BitVec 32) (h : st r = 0#32) : r = 0#32 := by
  by_cases h0 : r.getLsbD 0 = true
  · exfalso
    have h31 : (st r).getLsbD 31 = true := by
      unfold st
      rw [if_pos h0, BitVec.getLsbD_xor, BitVec.getLsbD_ushiftRight, BitVec.getLsbD_of_ge r (1 + 31) (by omega)]
      decide
    rw [h] at h31
    simp at h31
  · have h0' : r.getLsbD 0 = false := by simpa using h0
    rw [st_even r h0'] at h
    apply BitVec.eq_of_getLsbD_eq
    intro i hi
    match i with
    | 0 => rw [h0']; simp
    | i + 1 =>
      have : (r >>> 1).getLsbD i = false := by rw [h]; simp
      rw [BitVec.getLsbD_ushiftRight, Nat.add_comm] at this
      rw [this]; simp

theorem st8_zero (r : BitVec 32) (h : st8 r = 0#32) : r = 0#32 := by
  unfold st8 st4 st2 at h
  exact st_zero _ (st_zero _ (st_zero _ (st_zero _ (st_zero _ (st_zero _ (st_zero _ (st_zero _ h)))))))

theorem st8_inj {a b : BitVec 32} (h : st8 a = st8 b) : a = b := by
  apply xor_eq_zero
  apply st8_zero
  rw [st8_xor, h, BitVec.xor_self]

/-- Eight even steps undo a shift by eight. -/
theorem st_shl (r : BitVec 32) (h : r.toNat < 2 ^ 31) : st (r <<< 1) = r := by
  rw [st_even _ (by simp)]
  apply BitVec.eq_of_toNat_eq
  rw [BitVec.toNat_ushiftRight, BitVec.toNat_shiftLeft, Nat.shiftLeft_eq, Nat.shiftRight_eq_div_pow]
  omega

theorem shl_add (r : BitVec 32) (n : Nat) : r <<< (n + 1) = (r <<< n) <<< 1 := by rw [BitVec.shiftLeft_add]

theorem shl_toNat (r : BitVec 32) (n : Nat) (h : r.toNat * 2 ^ n < 2 ^ 32) : (r <<< n).toNat = r.toNat * 2 ^ n := by
  rw [BitVec.toNat_shiftLeft, Nat.shiftLeft_eq, Nat.mod_eq_of_lt h]

theorem st8_shl (r : BitVec 32) (h : r.toNat < 2 ^ 24) : st8 (r <<< 8) = r := by
  have t : ∀ n, n ≤ 7 → (r <<< n).toNat < 2 ^ 31 := fun n hn => by
    have h1 : 2 ^ n ≤ 2 ^ 7 := Nat.pow_le_pow_right (by decide) hn
    have h2 : r.toNat * 2 ^ n ≤ (2 ^ 24 - 1) * 2 ^ 7 := Nat.mul_le_mul (by omega) h1
    rw [shl_toNat r n (by omega)]
    omega
  unfold st8 st4 st2
  rw [shl_add r 7, st_shl _ (t 7 (by omega)), shl_add r 6, st_shl _ (t 6 (by omega)), shl_add r 5, st_shl _ (t 5 (by omega)), shl_add r 4, st_shl _ (t 4 (by omega)),
    shl_add r 3, st_shl _ (t 3 (by omega)), shl_add r 2, st_shl _ (t 2 (by omega)), shl_add r 1, st_shl _ (t 1 (by omega)), show r <<< 1 = (r <<< 0) <<< 1 from by simp, st_shl _ (t 0 (by omega))]
  simp

def bv (b : UInt8) : BitVec 32 := BitVec.ofNat 32 b.toNat
theorem bv_lt (b : UInt8) : (bv b).toNat < 256 := by unfold bv; rw [BitVec.toNat_ofNat]; have := b.toNat_lt; omega
theorem bv_inj {a b : UInt8} (h : bv a = bv b) : a = b := by
  have : (bv a).toNat = (bv b).toNat := by rw [h]
  unfold bv at this
  rw [BitVec.toNat_ofNat, BitVec.toNat_ofNat] at this
  have h1 := a.toNat_lt
  have h2 := b.toNat_lt
  apply UInt8.toNat_inj.1
  omega
theorem bv_xor (a b : UInt8) : bv (a ^^^ b) = bv a ^^^ bv b := by
  apply BitVec.eq_of_toNat_eq
  unfold bv
  have h1 := a.toNat_lt
  have h2 := b.toNat_lt
  have h3 := (a ^^^ b).toNat_lt
  rw [BitVec.toNat_xor, BitVec.toNat_ofNat, BitVec.toNat_ofNat, BitVec.toNat_ofNat, Nat.mod_eq_of_lt (by omega), Nat.mod_eq_of_lt (by omega), Nat.mod_eq_of_lt (by omega), UInt8.toNat_xor]
theorem upd_bv (r : BitVec 32) (b : UInt8) : upd r b = st8 (r ^^^ bv b) := rfl

/-- Two registers that differ in a byte's place alone. -/
theorem peel (D X β : BitVec 32) (j : Nat) (hj : j ≤ 3) (hD : D.toNat < 2 ^ (8 * j)) (hβ : β.toNat < 256) (h : D = st8 (X ^^^ β)) : X = (D <<< 8) ^^^ β ∧ X.toNat < 2 ^ (8 * (j + 1)) := by
  have h24 : D.toNat < 2 ^ 24 := Nat.lt_of_lt_of_le hD (Nat.pow_le_pow_right (by decide) (by omega))
  have h1 : D <<< 8 = X ^^^ β := st8_inj (by rw [st8_shl D h24, ← h])
  have h2 : X = (D <<< 8) ^^^ β := by rw [h1, BitVec.xor_assoc, BitVec.xor_self, BitVec.xor_zero]
  refine ⟨h2, ?_⟩
  have e8 : (D <<< 8).toNat = D.toNat * 2 ^ 8 := shl_toNat D 8 (by omega)
  have l1 : (D <<< 8).toNat < 2 ^ (8 * (j + 1)) := by
    rw [e8, show 8 * (j + 1) = 8 * j + 8 from by omega, Nat.pow_add]
    exact Nat.mul_lt_mul_of_pos_right hD (by decide)
  have l2 : β.toNat < 2 ^ (8 * (j + 1)) := Nat.lt_of_lt_of_le hβ (by
    have : 2 ^ 8 ≤ 2 ^ (8 * (j + 1)) := Nat.pow_le_pow_right (by decide) (by omega)
    omega)
  rw [h2, BitVec.toNat_xor]
  exact Nat.xor_lt_two_pow l1 l2

theorem peel_zero (D β : BitVec 32) (hD : D.toNat < 2 ^ 24) (hβ : β.toNat < 256) (h : (D <<< 8) ^^^ β = 0#32) : D = 0#32 ∧ β = 0#32 := by
  have e := xor_eq_zero h
  have e8 : (D <<< 8).toNat = D.toNat * 2 ^ 8 := shl_toNat D 8 (by omega)
  rw [e] at e8
  have hD0 : D.toNat = 0 := by omega
  have hb0 : β.toNat = 0 := by omega
  exact ⟨BitVec.eq_of_toNat_eq (by simpa using hD0), BitVec.eq_of_toNat_eq (by simpa using hb0)⟩

/-- Lists of up to four bytes of one length, read from one register, come to unlike registers if they are unlike. -/
theorem crc_short (r : BitVec 32) : ∀ (k : Nat) (m m' : List UInt8) (j : Nat), m.length = k → m'.length = k → k + j ≤ 4 → (crc r m ^^^ crc r m').toNat < 2 ^ (8 * j) → m = m' ∧ crc r m ^^^ crc r m' = 0#32
  | 0, m, m', j, hm, hm', _, _ => by
    obtain rfl := List.eq_nil_of_length_eq_zero hm
    obtain rfl := List.eq_nil_of_length_eq_zero hm'
    exact ⟨rfl, BitVec.xor_self⟩
  | k + 1, m, m', j, hm, hm', hk, hD => by
    have hne : m ≠ [] := by intro h; rw [h] at hm; simp at hm
    have hne' : m' ≠ [] := by intro h; rw [h] at hm'; simp at hm'
    obtain ⟨t, b, rfl⟩ : ∃ t b, m = t ++ [b] := ⟨m.dropLast, m.getLast hne, (List.dropLast_concat_getLast hne).symm⟩
    obtain ⟨t', b', rfl⟩ : ∃ t b, m' = t ++ [b] := ⟨m'.dropLast, m'.getLast hne', (List.dropLast_concat_getLast hne').symm⟩
    rw [List.length_append, List.length_singleton] at hm hm'
    have hβ : (bv b ^^^ bv b').toNat < 256 := by rw [BitVec.toNat_xor]; exact Nat.xor_lt_two_pow (n := 8) (bv_lt b) (bv_lt b')
    have hst : crc r (t ++ [b]) ^^^ crc r (t' ++ [b']) = st8 ((crc r t ^^^ crc r t') ^^^ (bv b ^^^ bv b')) := by
      rw [crc_snoc, crc_snoc, upd_bv, upd_bv, ← st8_xor]
      congr 1
      ac_rfl
    obtain ⟨hX, hlt⟩ := peel _ _ _ j (by omega) hD hβ hst
    obtain ⟨ht, h0⟩ := crc_short r k t t' (j + 1) (by omega) (by omega) (by omega) hlt
    have h24 : (crc r (t ++ [b]) ^^^ crc r (t' ++ [b'])).toNat < 2 ^ 24 := Nat.lt_of_lt_of_le hD (Nat.pow_le_pow_right (by decide) (by omega))
    obtain ⟨hD0, hb0⟩ := peel_zero _ _ h24 hβ (by rw [← hX, h0])
    exact ⟨by rw [ht, bv_inj (xor_eq_zero hb0)], hD0⟩

theorem upd_inj {a b : BitVec 32} {c : UInt8} (h : upd a c = upd b c) : a = b := by
  have h1 := st8_inj h
  have h2 : a ^^^ BitVec.ofNat 32 c.toNat ^^^ BitVec.ofNat 32 c.toNat = b ^^^ BitVec.ofNat 32 c.toNat ^^^ BitVec.ofNat 32 c.toNat := by rw [h1]
  rwa [BitVec.xor_assoc, BitVec.xor_self, BitVec.xor_zero, BitVec.xor_assoc, BitVec.xor_self, BitVec.xor_zero] at h2

theorem crc_inj : ∀ (s : List UInt8) {a b : BitVec 32}, crc a s = crc b s → a = b
  | [], _, _, h => h
  | c :: s, a, b, h => upd_inj (crc_inj s (a := upd a c) (b := upd b c) h)

theorem not_inj {a b : BitVec 32} (h : ~~~ a = ~~~ b) : a = b := by
  have : ~~~ (~~~ a) = ~~~ (~~~ b) := by rw [h]
  rwa [BitVec.not_not, BitVec.not_not] at this

/-- Texts of which up to four bytes in a row are others have other sums. -/
theorem more_short (r : BitVec 32) (p m m' s : List UInt8) (hl : m.length = m'.length) (h4 : m.length ≤ 4) (h : more r (p ++ m ++ s) = more r (p ++ m' ++ s)) : m = m' := by
  unfold more at h
  have h1 := not_inj h
  rw [List.append_assoc, List.append_assoc, crc_append, crc_append, crc_append, crc_append] at h1
  have h2 := crc_inj s h1
  exact (crc_short (crc (~~~ r) p) m.length m m' 0 rfl hl.symm (by omega) (by rw [h2, BitVec.xor_self]; simp)).1

/-! ### Four texts -/
def x3 (t : UInt8 × UInt8 × UInt8) : UInt8 := t.1 ^^^ t.2.1 ^^^ t.2.2

theorem upd3 (p q r : BitVec 32) (a b c : UInt8) : upd p a ^^^ upd q b ^^^ upd r c = upd (p ^^^ q ^^^ r) (a ^^^ b ^^^ c) := by
  rw [upd_bv, upd_bv, upd_bv, upd_bv, bv_xor, bv_xor, ← st8_xor, ← st8_xor]
  congr 1
  ac_rfl

theorem crc3 : ∀ (l : List (UInt8 × UInt8 × UInt8)) (p q r : BitVec 32), crc p (l.map (·.1)) ^^^ crc q (l.map (·.2.1)) ^^^ crc r (l.map (·.2.2)) = crc (p ^^^ q ^^^ r) (l.map x3)
  | [], _, _, _ => rfl
  | t :: l, p, q, r => by
    show crc (upd p t.1) (l.map (·.1)) ^^^ crc (upd q t.2.1) (l.map (·.2.1)) ^^^ crc (upd r t.2.2) (l.map (·.2.2)) = crc (upd (p ^^^ q ^^^ r) (x3 t)) (l.map x3)
    rw [crc3 l, upd3]
    rfl

theorem not_xor_not (a b : BitVec 32) : ~~~ a ^^^ ~~~ b = a ^^^ b := by
  apply BitVec.eq_of_getLsbD_eq
  intro i hi
  simp [hi]

theorem turns (s : BitVec 32) (l : List (UInt8 × UInt8 × UInt8)) : more s (l.map (·.1)) ^^^ more s (l.map (·.2.1)) ^^^ more s (l.map (·.2.2)) ^^^ more s (l.map x3) = 0#32 := by
  have h := crc3 l (~~~ s) (~~~ s) (~~~ s)
  rw [BitVec.xor_self, BitVec.zero_xor] at h
  unfold more
  rw [not_xor_not, BitVec.xor_assoc, not_xor_not, ← h]
  rw [show crc (~~~s) (l.map (·.1)) ^^^ crc (~~~s) (l.map (·.2.1)) ^^^ (crc (~~~s) (l.map (·.2.2)) ^^^ (crc (~~~s) (l.map (·.1)) ^^^ crc (~~~s) (l.map (·.2.1)) ^^^ crc (~~~s) (l.map (·.2.2)))) =
    (crc (~~~s) (l.map (·.1)) ^^^ crc (~~~s) (l.map (·.1))) ^^^ (crc (~~~s) (l.map (·.2.1)) ^^^ crc (~~~s) (l.map (·.2.1))) ^^^ (crc (~~~s) (l.map (·.2.2)) ^^^ crc (~~~s) (l.map (·.2.2))) from by ac_rfl]
  rw [BitVec.xor_self, BitVec.xor_self, BitVec.xor_self]
  simp

end Go.Proofs.Ytbdjhkcpnkdbkaa
