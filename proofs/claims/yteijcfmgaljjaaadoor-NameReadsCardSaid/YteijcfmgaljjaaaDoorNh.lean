/- Names: how many bytes the reference finds in a rune. -/
import Derived.Test.YteijcfmgaljjaaaDoorNe
namespace Go.Proofs.YteijcfmgaljjaaaDoor
open Go.RowKit

/-- What the reference tells of a decoded rune: its bytes, and it; of none: nothing. -/
def msz (d : Nat × Nat) : Nat × Nat := if d = (65533, 1) then (0, 0) else (d.2, d.1)
def cont (b : Nat) : Prop := 128 ≤ b ∧ b ≤ 191
theorem msz_bad {d : Nat × Nat} (h : d = (65533, 1)) : msz d = (0, 0) := if_pos h
theorem msz_ok {d : Nat × Nat} {v n : Nat} (h : d = (v, n)) (hn : n ≠ 1) : msz d = (n, v) := by
  subst h
  unfold msz
  rw [if_neg fun e => hn (congrArg Prod.snd e)]

theorem dec2_ok {n b0 b1 b2 b3 : Nat} (h0 : 194 ≤ b0 ∧ b0 ≤ 223) (hn : 2 ≤ n) (h1 : cont b1) : Lib.decodeN n b0 b1 b2 b3 = (64 * (b0 - 192) + (b1 - 128), 2) := by
  unfold cont at *
  unfold Lib.decodeN
  rw [if_neg (by omega), if_pos (by omega), if_pos (by omega)]
  apply Prod.ext <;> simp only <;> omega
theorem dec2_bad {n b0 b1 b2 b3 : Nat} (h0 : 194 ≤ b0 ∧ b0 ≤ 223) (h : n < 2 ∨ ¬ cont b1) (k1 : b1 < 256) : Lib.decodeN n b0 b1 b2 b3 = (65533, 1) := by
  unfold cont at *
  unfold Lib.decodeN
  rw [if_neg (by omega), if_neg (by omega), if_neg (by omega), if_neg (by omega)]
theorem dec3_ok {n b0 b1 b2 b3 : Nat} (h0 : 224 ≤ b0 ∧ b0 ≤ 239) (hn : 3 ≤ n) (h1 : cont b1) (h2 : cont b2) (hv : 2048 ≤ 4096 * (b0 - 224) + 64 * (b1 - 128) + (b2 - 128)) (hs : ¬ (55296 ≤ 4096 * (b0 - 224) + 64 * (b1 - 128) + (b2 - 128) ∧ 4096 * (b0 - 224) + 64 * (b1 - 128) + (b2 - 128) ≤ 57343)) : Lib.decodeN n b0 b1 b2 b3 = (4096 * (b0 - 224) + 64 * (b1 - 128) + (b2 - 128), 3) := by
  unfold cont at *
  unfold Lib.decodeN
  rw [if_neg (by omega), if_neg (by omega), if_pos (by omega), if_pos (by omega)]
  apply Prod.ext <;> simp only <;> omega
theorem dec3_bad {n b0 b1 b2 b3 : Nat} (h0 : 224 ≤ b0 ∧ b0 ≤ 239) (h : n < 3 ∨ ¬ cont b1 ∨ ¬ cont b2 ∨ 4096 * (b0 - 224) + 64 * (b1 - 128) + (b2 - 128) < 2048 ∨ (55296 ≤ 4096 * (b0 - 224) + 64 * (b1 - 128) + (b2 - 128) ∧ 4096 * (b0 - 224) + 64 * (b1 - 128) + (b2 - 128) ≤ 57343)) (k1 : b1 < 256) (k2 : b2 < 256) : Lib.decodeN n b0 b1 b2 b3 = (65533, 1) := by
  unfold cont at *
  unfold Lib.decodeN
  rw [if_neg (by omega), if_neg (by omega)]
  split
  · rw [if_neg (by omega)]
  · rw [if_neg (by omega)]
theorem dec4_ok {n b0 b1 b2 b3 : Nat} (h0 : 240 ≤ b0 ∧ b0 ≤ 244) (hn : 4 ≤ n) (h1 : cont b1) (h2 : cont b2) (h3 : cont b3) (hv : 65536 ≤ 262144 * (b0 - 240) + 4096 * (b1 - 128) + 64 * (b2 - 128) + (b3 - 128)) (hs : 262144 * (b0 - 240) + 4096 * (b1 - 128) + 64 * (b2 - 128) + (b3 - 128) ≤ 1114111) : Lib.decodeN n b0 b1 b2 b3 = (262144 * (b0 - 240) + 4096 * (b1 - 128) + 64 * (b2 - 128) + (b3 - 128), 4) := by
  unfold cont at *
  unfold Lib.decodeN
  rw [if_neg (by omega), if_neg (by omega), if_neg (by omega), if_pos (by omega), if_pos (by omega)]
  apply Prod.ext <;> simp only <;> omega
theorem dec4_bad {n b0 b1 b2 b3 : Nat} (h0 : 240 ≤ b0 ∧ b0 ≤ 244) (h : n < 4 ∨ ¬ cont b1 ∨ ¬ cont b2 ∨ ¬ cont b3 ∨ 262144 * (b0 - 240) + 4096 * (b1 - 128) + 64 * (b2 - 128) + (b3 - 128) < 65536 ∨ 1114111 < 262144 * (b0 - 240) + 4096 * (b1 - 128) + 64 * (b2 - 128) + (b3 - 128)) (k1 : b1 < 256) (k2 : b2 < 256) (k3 : b3 < 256) : Lib.decodeN n b0 b1 b2 b3 = (65533, 1) := by
  unfold cont at *
  unfold Lib.decodeN
  rw [if_neg (by omega), if_neg (by omega), if_neg (by omega)]
  split
  · rw [if_neg (by omega)]
  · rfl
theorem dec_other {n b0 b1 b2 b3 : Nat} (h0 : 128 ≤ b0) (h : b0 < 194 ∨ 244 < b0) (k0 : b0 < 256) : Lib.decodeN n b0 b1 b2 b3 = (65533, 1) := by
  unfold Lib.decodeN
  rw [if_neg (by omega)]
  repeat' split
  all_goals first | rfl | (exfalso; omega)

/-- The value behind so many bytes more. -/
def hv (v0 : Int) (B : Nat → Int) : Nat → Int
  | 0 => v0
  | m + 1 => 64 * hv v0 B m + B (m + 1) - 128
theorem hv_bound (v0 : Int) (B : Nat → Int) (h0 : 0 ≤ v0 ∧ v0 ≤ 31) : ∀ m, (∀ j, 1 ≤ j → j ≤ m → 128 ≤ B j ∧ B j ≤ 191) → 0 ≤ hv v0 B m ∧ hv v0 B m < 32 * 64 ^ m
  | 0, _ => by simp only [hv]; omega
  | m + 1, h => by
    have ih := hv_bound v0 B h0 m fun j a b => h j a (by omega)
    have hb := h (m + 1) (by omega) (Nat.le_refl _)
    have e : (32 * 64 ^ (m + 1) : Int) = 64 * (32 * 64 ^ m) := by rw [Int.pow_succ]; omega
    rw [e]
    simp only [hv]
    omega
theorem pow_le3 (m : Nat) (h : m ≤ 3) : (32 * 64 ^ m : Int) ≤ 8388608 := by
  match m, h with
  | 0, _ => decide
  | 1, _ => decide
  | 2, _ => decide
  | 3, _ => decide

theorem get_at (s : ByteArray) (i j : Nat) (h : i + j < s.size) : s[i + j]'h = s.get! (i + j) := (Utf8W.get!_of_lt s (i + j) h).symm
set_option maxRecDepth 100000 in
theorem msize_ascii (s : ByteArray) (i b : Nat) (hi : i < s.size) (hxb : (s[i]'hi).toNat = b) (w : World) (_hlo : 0 ≤ b) (hhi : b ≤ 127) :
    Calls Tryd.prog 31 #[.string s, .int .i64 (i : Int)] w fun e w' => e = .returned (.tuple #[.int .i64 1, .int .i64 (b : Int)]) ∧ Below w.heap.size w w' := by
  have hb0 : (0 : Int) ≤ (i : Int) := by omega
  have hb1 : (i : Int) < (s.size : Int) := by omega
  have hbt : b < 256 := by rw [← hxb]; exact (s[i]'hi).toNat_lt
  have hwb : IntKind.i64.wrap (b : Int) = (b : Int) := by rw [IntKind.wrap_i64]; omega
  have d128 : decide ((b : Int) < 128) = true := by simp; omega
  have d194 : decide ((b : Int) ≥ 194) = false := by simp; omega
  have d223 : decide ((b : Int) ≤ 223) = true := by simp; omega
  have d224 : decide ((b : Int) ≥ 224) = false := by simp; omega
  have d239 : decide ((b : Int) ≤ 239) = true := by simp; omega
  have d240 : decide ((b : Int) ≥ 240) = false := by simp; omega
  have d244 : decide ((b : Int) ≤ 244) = true := by simp; omega
  clear hhi
  go_enter Tryd.func31, Tryd.ntmps31
  go_wp2
  go_ret2
  exact ⟨rfl, Below.refl _ _⟩
set_option maxRecDepth 100000 in
theorem msize_mid (s : ByteArray) (i b : Nat) (hi : i < s.size) (hxb : (s[i]'hi).toNat = b) (w : World) (hlo : 128 ≤ b) (hhi : b ≤ 193) :
    Calls Tryd.prog 31 #[.string s, .int .i64 (i : Int)] w fun e w' => e = .returned (.tuple #[.int .i64 0, .int .i64 0]) ∧ Below w.heap.size w w' := by
  have hb0 : (0 : Int) ≤ (i : Int) := by omega
  have hb1 : (i : Int) < (s.size : Int) := by omega
  have hbt : b < 256 := by rw [← hxb]; exact (s[i]'hi).toNat_lt
  have hwb : IntKind.i64.wrap (b : Int) = (b : Int) := by rw [IntKind.wrap_i64]; omega
  have d128 : decide ((b : Int) < 128) = false := by simp; omega
  have d194 : decide ((b : Int) ≥ 194) = false := by simp; omega
  have d223 : decide ((b : Int) ≤ 223) = true := by simp; omega
  have d224 : decide ((b : Int) ≥ 224) = false := by simp; omega
  have d239 : decide ((b : Int) ≤ 239) = true := by simp; omega
  have d240 : decide ((b : Int) ≥ 240) = false := by simp; omega
  have d244 : decide ((b : Int) ≤ 244) = true := by simp; omega
  clear hlo hhi
  go_enter Tryd.func31, Tryd.ntmps31
  go_wp2
  go_ret2
  exact ⟨rfl, Below.refl _ _⟩
set_option maxRecDepth 100000 in
theorem msize_top (s : ByteArray) (i b : Nat) (hi : i < s.size) (hxb : (s[i]'hi).toNat = b) (w : World) (hlo : 245 ≤ b) (hhi : b ≤ 255) :
    Calls Tryd.prog 31 #[.string s, .int .i64 (i : Int)] w fun e w' => e = .returned (.tuple #[.int .i64 0, .int .i64 0]) ∧ Below w.heap.size w w' := by
  have hb0 : (0 : Int) ≤ (i : Int) := by omega
  have hb1 : (i : Int) < (s.size : Int) := by omega
  have hbt : b < 256 := by rw [← hxb]; exact (s[i]'hi).toNat_lt
  have hwb : IntKind.i64.wrap (b : Int) = (b : Int) := by rw [IntKind.wrap_i64]; omega
  have d128 : decide ((b : Int) < 128) = false := by simp; omega
  have d194 : decide ((b : Int) ≥ 194) = true := by simp; omega
  have d223 : decide ((b : Int) ≤ 223) = false := by simp; omega
  have d224 : decide ((b : Int) ≥ 224) = true := by simp; omega
  have d239 : decide ((b : Int) ≤ 239) = false := by simp; omega
  have d240 : decide ((b : Int) ≥ 240) = true := by simp; omega
  have d244 : decide ((b : Int) ≤ 244) = false := by simp; omega
  clear hlo hhi
  go_enter Tryd.func31, Tryd.ntmps31
  go_wp2
  go_ret2
  exact ⟨rfl, Below.refl _ _⟩
set_option maxRecDepth 100000 in
theorem msize_short2 (s : ByteArray) (i b : Nat) (hs : s.size ≤ 1073741824) (hi : i < s.size) (hxb : (s[i]'hi).toNat = b) (w : World) (hlo : 194 ≤ b) (hhi : b ≤ 223) (hn : s.size - i < 2) :
    Calls Tryd.prog 31 #[.string s, .int .i64 (i : Int)] w fun e w' => e = .returned (.tuple #[.int .i64 0, .int .i64 0]) ∧ Below w.heap.size w w' := by
  have hb0 : (0 : Int) ≤ (i : Int) := by omega
  have hb1 : (i : Int) < (s.size : Int) := by omega
  have hbt : b < 256 := by rw [← hxb]; exact (s[i]'hi).toNat_lt
  have hwb : IntKind.i64.wrap (b : Int) = (b : Int) := by rw [IntKind.wrap_i64]; omega
  have d128 : decide ((b : Int) < 128) = false := by simp; omega
  have d194 : decide ((b : Int) ≥ 194) = true := by simp; omega
  have d223 : decide ((b : Int) ≤ 223) = true := by simp; omega
  have d224 : decide ((b : Int) ≥ 224) = false := by simp; omega
  have d239 : decide ((b : Int) ≤ 239) = true := by simp; omega
  have d240 : decide ((b : Int) ≥ 240) = false := by simp; omega
  have d244 : decide ((b : Int) ≤ 244) = true := by simp; omega
  have hwn : IntKind.i64.wrap ((s.size : Int) - (i : Int)) = (s.size : Int) - (i : Int) := by rw [IntKind.wrap_i64]; omega
  have hws : IntKind.i64.wrap ((b : Int) - 192) = (b : Int) - 192 := by rw [IntKind.wrap_i64]; omega
  have hdn : decide ((2 : Int) > (s.size : Int) - (i : Int)) = true := by simp; omega
  clear hlo hhi
  go_enter Tryd.func31, Tryd.ntmps31
  go_wp2
  go_ret2
  exact ⟨rfl, Below.refl _ _⟩
set_option maxRecDepth 100000 in
theorem msize_long2 (s : ByteArray) (i b : Nat) (hs : s.size ≤ 1073741824) (hi : i < s.size) (hxb : (s[i]'hi).toNat = b) (w : World) (hlo : 194 ≤ b) (hhi : b ≤ 223) (hn : 2 ≤ s.size - i) (B : Nat → Int) (hB : ∀ j, B j = ((s.get! (i + j)).toNat : Int)) (r1 r2 : Int) (hgood : (∀ j, 1 ≤ j → j ≤ 1 → 128 ≤ B j ∧ B j ≤ 191) → ¬ (hv ((b : Int) - 192) B 1 < 128 ∨ hv ((b : Int) - 192) B 1 > 1114111 ∨ (55296 ≤ hv ((b : Int) - 192) B 1 ∧ hv ((b : Int) - 192) B 1 ≤ 57343)) → r1 = 2 ∧ r2 = hv ((b : Int) - 192) B 1) (hbad : ¬ ((∀ j, 1 ≤ j → j ≤ 1 → 128 ≤ B j ∧ B j ≤ 191) ∧ ¬ (hv ((b : Int) - 192) B 1 < 128 ∨ hv ((b : Int) - 192) B 1 > 1114111 ∨ (55296 ≤ hv ((b : Int) - 192) B 1 ∧ hv ((b : Int) - 192) B 1 ≤ 57343))) → r1 = 0 ∧ r2 = 0) :
    Calls Tryd.prog 31 #[.string s, .int .i64 (i : Int)] w fun e w' => e = .returned (.tuple #[.int .i64 r1, .int .i64 r2]) ∧ Below w.heap.size w w' := by
  have hb0 : (0 : Int) ≤ (i : Int) := by omega
  have hb1 : (i : Int) < (s.size : Int) := by omega
  have hbt : b < 256 := by rw [← hxb]; exact (s[i]'hi).toNat_lt
  have hwb : IntKind.i64.wrap (b : Int) = (b : Int) := by rw [IntKind.wrap_i64]; omega
  have d128 : decide ((b : Int) < 128) = false := by simp; omega
  have d194 : decide ((b : Int) ≥ 194) = true := by simp; omega
  have d223 : decide ((b : Int) ≤ 223) = true := by simp; omega
  have d224 : decide ((b : Int) ≥ 224) = false := by simp; omega
  have d239 : decide ((b : Int) ≤ 239) = true := by simp; omega
  have d240 : decide ((b : Int) ≥ 240) = false := by simp; omega
  have d244 : decide ((b : Int) ≤ 244) = true := by simp; omega
  have hwn : IntKind.i64.wrap ((s.size : Int) - (i : Int)) = (s.size : Int) - (i : Int) := by rw [IntKind.wrap_i64]; omega
  have hws : IntKind.i64.wrap ((b : Int) - 192) = (b : Int) - 192 := by rw [IntKind.wrap_i64]; omega
  have hdn : decide ((2 : Int) > (s.size : Int) - (i : Int)) = false := by simp; omega
  obtain ⟨v0, hv0⟩ : ∃ v0, v0 = (b : Int) - 192 := ⟨_, rfl⟩
  have hv00 : 0 ≤ v0 ∧ v0 ≤ 31 := by omega
  rw [← hv0] at hgood hbad
  have HG := Lib.hid hgood
  have HBD := Lib.hid hbad
  have HB := Lib.hid hB
  have HV := Lib.hid hv0
  clear hlo hhi hgood hbad hB hv0
  go_enter Tryd.func31, Tryd.ntmps31
  go_wp2
  go_loopw [9, 10] (fun v k wr => ∃ m q : Nat, m ≤ 1 ∧ k = .int .i64 ((m : Int) + 1) ∧ v = .int .i64 (hv v0 B m) ∧ (∀ j, 1 ≤ j → j ≤ m → 128 ≤ B j ∧ B j ≤ 191) ∧ wr = w.drewN q) (fun _ k _ => 2 - (intOf k).toNat)
  case atStart => exact ⟨0, 0, Nat.zero_le _, rfl, by rw [show hv v0 B 0 = v0 from rfl, HV.out], fun j a c => absurd a (by omega), rfl⟩
  case round =>
    obtain ⟨m, q, hm, rfl, rfl, hc, rfl⟩ := hrel
    have hbd := hv_bound v0 B hv00 m hc
    have hpw := pow_le3 m (by omega)
    obtain ⟨V, hV⟩ : ∃ V, V = hv v0 B m := ⟨_, rfl⟩
    rw [← hV] at hbd ⊢
    have hVb : 0 ≤ V ∧ V < 8388608 := by omega
    have HC := Lib.hid hc
    have HVV := Lib.hid hV
    clear hc hV hbd hpw
    by_cases hlt : m < 1
    · have hlb : decide ((m : Int) + 1 < 2) = true := by simp; omega
      have hms : i + (m + 1) < s.size := by omega
      have hw1 : IntKind.i64.wrap ((i : Int) + ((m : Int) + 1)) = (i : Int) + ((m : Int) + 1) := by rw [IntKind.wrap_i64]; omega
      have hi0 : (0 : Int) ≤ (i : Int) + ((m : Int) + 1) := by omega
      have hi1 : (i : Int) + ((m : Int) + 1) < (s.size : Int) := by omega
      have hi2 : ((i : Int) + ((m : Int) + 1)).toNat = i + (m + 1) := by omega
      obtain ⟨D, hD⟩ : ∃ D, (s[i + (m + 1)]'hms).toNat = D := ⟨_, rfl⟩
      have hDt : D < 256 := by rw [← hD]; exact (s[i + (m + 1)]'hms).toNat_lt
      have hBD : B (m + 1) = (D : Int) := by rw [HB.out, ← get_at s i (m + 1) hms, hD]
      have HBM := Lib.hid hBD
      have hwD : IntKind.i64.wrap (D : Int) = (D : Int) := by rw [IntKind.wrap_i64]; omega
      clear hBD
      by_cases hcd : 128 ≤ D ∧ D ≤ 191
      · have e1 : decide ((D : Int) < 128) = false := by simp; omega
        have e2 : decide ((D : Int) > 191) = false := by simp; omega
        have hv1 : IntKind.i64.wrap (64 * V) = 64 * V := by rw [IntKind.wrap_i64]; omega
        have hv2 : IntKind.i64.wrap (64 * V + (D : Int)) = 64 * V + (D : Int) := by rw [IntKind.wrap_i64]; omega
        have hv3 : IntKind.i64.wrap (64 * V + (D : Int) - 128) = 64 * V + (D : Int) - 128 := by rw [IntKind.wrap_i64]; omega
        have hw2 : IntKind.i64.wrap ((m : Int) + 1 + 1) = (m : Int) + 1 + 1 := by rw [IntKind.wrap_i64]; omega
        go_wp2_with fail
        go_roundw
        case rel =>
          refine ⟨m + 1, q, by omega, by go_num, ?_, ?_, rfl⟩
          · show _ = Value.int .i64 (64 * hv v0 B m + B (m + 1) - 128)
            rw [← HVV.out, HBM.out]
          · intro j a c
            by_cases hj : j = m + 1
            · subst hj; rw [HBM.out]; omega
            · exact HC.out j a (by omega)
        case measure => simp [intOf]; omega
      · have HN := Lib.hid hcd
        have hres := HBD.out (fun h => by
          have := h.1 (m + 1) (by omega) (by omega)
          rw [HBM.out] at this
          exact HN.out (by omega))
        obtain ⟨rfl, rfl⟩ := hres
        by_cases hc1 : D < 128
        · have e1 : decide ((D : Int) < 128) = true := by simp; omega
          clear hcd
          go_wp2_with fail
          go_ret2
          exact ⟨rfl, below_drewN (Below.refl _ _) _⟩
        · have e1 : decide ((D : Int) < 128) = false := by simp; omega
          have e2 : decide ((D : Int) > 191) = true := by simp; omega
          clear hcd
          go_wp2_with fail
          go_ret2
          exact ⟨rfl, below_drewN (Below.refl _ _) _⟩
    · obtain rfl : m = 1 := by omega
      have hlb : decide (((1 : Nat) : Int) + 1 < 2) = false := by decide
      go_wp2_with fail
      all_goals first
        | (obtain ⟨rfl, rfl⟩ := HBD.out (fun h => h.2 (by rw [← HVV.out]; omega))
           go_ret2
           exact ⟨rfl, below_drewN (Below.refl _ _) _⟩)
        | (obtain ⟨rfl, e2⟩ := HG.out HC.out (by rw [← HVV.out]; omega)
           go_ret2
           exact ⟨by rw [e2, ← HVV.out]; rfl, below_drewN (Below.refl _ _) _⟩)
set_option maxRecDepth 100000 in
theorem msize_short3 (s : ByteArray) (i b : Nat) (hs : s.size ≤ 1073741824) (hi : i < s.size) (hxb : (s[i]'hi).toNat = b) (w : World) (hlo : 224 ≤ b) (hhi : b ≤ 239) (hn : s.size - i < 3) :
    Calls Tryd.prog 31 #[.string s, .int .i64 (i : Int)] w fun e w' => e = .returned (.tuple #[.int .i64 0, .int .i64 0]) ∧ Below w.heap.size w w' := by
  have hb0 : (0 : Int) ≤ (i : Int) := by omega
  have hb1 : (i : Int) < (s.size : Int) := by omega
  have hbt : b < 256 := by rw [← hxb]; exact (s[i]'hi).toNat_lt
  have hwb : IntKind.i64.wrap (b : Int) = (b : Int) := by rw [IntKind.wrap_i64]; omega
  have d128 : decide ((b : Int) < 128) = false := by simp; omega
  have d194 : decide ((b : Int) ≥ 194) = true := by simp; omega
  have d223 : decide ((b : Int) ≤ 223) = false := by simp; omega
  have d224 : decide ((b : Int) ≥ 224) = true := by simp; omega
  have d239 : decide ((b : Int) ≤ 239) = true := by simp; omega
  have d240 : decide ((b : Int) ≥ 240) = false := by simp; omega
  have d244 : decide ((b : Int) ≤ 244) = true := by simp; omega
  have hwn : IntKind.i64.wrap ((s.size : Int) - (i : Int)) = (s.size : Int) - (i : Int) := by rw [IntKind.wrap_i64]; omega
  have hws : IntKind.i64.wrap ((b : Int) - 224) = (b : Int) - 224 := by rw [IntKind.wrap_i64]; omega
  have hdn : decide ((3 : Int) > (s.size : Int) - (i : Int)) = true := by simp; omega
  clear hlo hhi
  go_enter Tryd.func31, Tryd.ntmps31
  go_wp2
  go_ret2
  exact ⟨rfl, Below.refl _ _⟩
set_option maxRecDepth 100000 in
theorem msize_long3 (s : ByteArray) (i b : Nat) (hs : s.size ≤ 1073741824) (hi : i < s.size) (hxb : (s[i]'hi).toNat = b) (w : World) (hlo : 224 ≤ b) (hhi : b ≤ 239) (hn : 3 ≤ s.size - i) (B : Nat → Int) (hB : ∀ j, B j = ((s.get! (i + j)).toNat : Int)) (r1 r2 : Int) (hgood : (∀ j, 1 ≤ j → j ≤ 2 → 128 ≤ B j ∧ B j ≤ 191) → ¬ (hv ((b : Int) - 224) B 2 < 2048 ∨ hv ((b : Int) - 224) B 2 > 1114111 ∨ (55296 ≤ hv ((b : Int) - 224) B 2 ∧ hv ((b : Int) - 224) B 2 ≤ 57343)) → r1 = 3 ∧ r2 = hv ((b : Int) - 224) B 2) (hbad : ¬ ((∀ j, 1 ≤ j → j ≤ 2 → 128 ≤ B j ∧ B j ≤ 191) ∧ ¬ (hv ((b : Int) - 224) B 2 < 2048 ∨ hv ((b : Int) - 224) B 2 > 1114111 ∨ (55296 ≤ hv ((b : Int) - 224) B 2 ∧ hv ((b : Int) - 224) B 2 ≤ 57343))) → r1 = 0 ∧ r2 = 0) :
    Calls Tryd.prog 31 #[.string s, .int .i64 (i : Int)] w fun e w' => e = .returned (.tuple #[.int .i64 r1, .int .i64 r2]) ∧ Below w.heap.size w w' := by
  have hb0 : (0 : Int) ≤ (i : Int) := by omega
  have hb1 : (i : Int) < (s.size : Int) := by omega
  have hbt : b < 256 := by rw [← hxb]; exact (s[i]'hi).toNat_lt
  have hwb : IntKind.i64.wrap (b : Int) = (b : Int) := by rw [IntKind.wrap_i64]; omega
  have d128 : decide ((b : Int) < 128) = false := by simp; omega
  have d194 : decide ((b : Int) ≥ 194) = true := by simp; omega
  have d223 : decide ((b : Int) ≤ 223) = false := by simp; omega
  have d224 : decide ((b : Int) ≥ 224) = true := by simp; omega
  have d239 : decide ((b : Int) ≤ 239) = true := by simp; omega
  have d240 : decide ((b : Int) ≥ 240) = false := by simp; omega
  have d244 : decide ((b : Int) ≤ 244) = true := by simp; omega
  have hwn : IntKind.i64.wrap ((s.size : Int) - (i : Int)) = (s.size : Int) - (i : Int) := by rw [IntKind.wrap_i64]; omega
  have hws : IntKind.i64.wrap ((b : Int) - 224) = (b : Int) - 224 := by rw [IntKind.wrap_i64]; omega
  have hdn : decide ((3 : Int) > (s.size : Int) - (i : Int)) = false := by simp; omega
  obtain ⟨v0, hv0⟩ : ∃ v0, v0 = (b : Int) - 224 := ⟨_, rfl⟩
  have hv00 : 0 ≤ v0 ∧ v0 ≤ 31 := by omega
  rw [← hv0] at hgood hbad
  have HG := Lib.hid hgood
  have HBD := Lib.hid hbad
  have HB := Lib.hid hB
  have HV := Lib.hid hv0
  clear hlo hhi hgood hbad hB hv0
  go_enter Tryd.func31, Tryd.ntmps31
  go_wp2
  go_loopw [9, 10] (fun v k wr => ∃ m q : Nat, m ≤ 2 ∧ k = .int .i64 ((m : Int) + 1) ∧ v = .int .i64 (hv v0 B m) ∧ (∀ j, 1 ≤ j → j ≤ m → 128 ≤ B j ∧ B j ≤ 191) ∧ wr = w.drewN q) (fun _ k _ => 3 - (intOf k).toNat)
  case atStart => exact ⟨0, 0, Nat.zero_le _, rfl, by rw [show hv v0 B 0 = v0 from rfl, HV.out], fun j a c => absurd a (by omega), rfl⟩
  case round =>
    obtain ⟨m, q, hm, rfl, rfl, hc, rfl⟩ := hrel
    have hbd := hv_bound v0 B hv00 m hc
    have hpw := pow_le3 m (by omega)
    obtain ⟨V, hV⟩ : ∃ V, V = hv v0 B m := ⟨_, rfl⟩
    rw [← hV] at hbd ⊢
    have hVb : 0 ≤ V ∧ V < 8388608 := by omega
    have HC := Lib.hid hc
    have HVV := Lib.hid hV
    clear hc hV hbd hpw
    by_cases hlt : m < 2
    · have hlb : decide ((m : Int) + 1 < 3) = true := by simp; omega
      have hms : i + (m + 1) < s.size := by omega
      have hw1 : IntKind.i64.wrap ((i : Int) + ((m : Int) + 1)) = (i : Int) + ((m : Int) + 1) := by rw [IntKind.wrap_i64]; omega
      have hi0 : (0 : Int) ≤ (i : Int) + ((m : Int) + 1) := by omega
      have hi1 : (i : Int) + ((m : Int) + 1) < (s.size : Int) := by omega
      have hi2 : ((i : Int) + ((m : Int) + 1)).toNat = i + (m + 1) := by omega
      obtain ⟨D, hD⟩ : ∃ D, (s[i + (m + 1)]'hms).toNat = D := ⟨_, rfl⟩
      have hDt : D < 256 := by rw [← hD]; exact (s[i + (m + 1)]'hms).toNat_lt
      have hBD : B (m + 1) = (D : Int) := by rw [HB.out, ← get_at s i (m + 1) hms, hD]
      have HBM := Lib.hid hBD
      have hwD : IntKind.i64.wrap (D : Int) = (D : Int) := by rw [IntKind.wrap_i64]; omega
      clear hBD
      by_cases hcd : 128 ≤ D ∧ D ≤ 191
      · have e1 : decide ((D : Int) < 128) = false := by simp; omega
        have e2 : decide ((D : Int) > 191) = false := by simp; omega
        have hv1 : IntKind.i64.wrap (64 * V) = 64 * V := by rw [IntKind.wrap_i64]; omega
        have hv2 : IntKind.i64.wrap (64 * V + (D : Int)) = 64 * V + (D : Int) := by rw [IntKind.wrap_i64]; omega
        have hv3 : IntKind.i64.wrap (64 * V + (D : Int) - 128) = 64 * V + (D : Int) - 128 := by rw [IntKind.wrap_i64]; omega
        have hw2 : IntKind.i64.wrap ((m : Int) + 1 + 1) = (m : Int) + 1 + 1 := by rw [IntKind.wrap_i64]; omega
        go_wp2_with fail
        go_roundw
        case rel =>
          refine ⟨m + 1, q, by omega, by go_num, ?_, ?_, rfl⟩
          · show _ = Value.int .i64 (64 * hv v0 B m + B (m + 1) - 128)
            rw [← HVV.out, HBM.out]
          · intro j a c
            by_cases hj : j = m + 1
            · subst hj; rw [HBM.out]; omega
            · exact HC.out j a (by omega)
        case measure => simp [intOf]; omega
      · have HN := Lib.hid hcd
        have hres := HBD.out (fun h => by
          have := h.1 (m + 1) (by omega) (by omega)
          rw [HBM.out] at this
          exact HN.out (by omega))
        obtain ⟨rfl, rfl⟩ := hres
        by_cases hc1 : D < 128
        · have e1 : decide ((D : Int) < 128) = true := by simp; omega
          clear hcd
          go_wp2_with fail
          go_ret2
          exact ⟨rfl, below_drewN (Below.refl _ _) _⟩
        · have e1 : decide ((D : Int) < 128) = false := by simp; omega
          have e2 : decide ((D : Int) > 191) = true := by simp; omega
          clear hcd
          go_wp2_with fail
          go_ret2
          exact ⟨rfl, below_drewN (Below.refl _ _) _⟩
    · obtain rfl : m = 2 := by omega
      have hlb : decide (((2 : Nat) : Int) + 1 < 3) = false := by decide
      go_wp2_with fail
      all_goals first
        | (obtain ⟨rfl, rfl⟩ := HBD.out (fun h => h.2 (by rw [← HVV.out]; omega))
           go_ret2
           exact ⟨rfl, below_drewN (Below.refl _ _) _⟩)
        | (obtain ⟨rfl, e2⟩ := HG.out HC.out (by rw [← HVV.out]; omega)
           go_ret2
           exact ⟨by rw [e2, ← HVV.out]; rfl, below_drewN (Below.refl _ _) _⟩)
set_option maxRecDepth 100000 in
theorem msize_short4 (s : ByteArray) (i b : Nat) (hs : s.size ≤ 1073741824) (hi : i < s.size) (hxb : (s[i]'hi).toNat = b) (w : World) (hlo : 240 ≤ b) (hhi : b ≤ 244) (hn : s.size - i < 4) :
    Calls Tryd.prog 31 #[.string s, .int .i64 (i : Int)] w fun e w' => e = .returned (.tuple #[.int .i64 0, .int .i64 0]) ∧ Below w.heap.size w w' := by
  have hb0 : (0 : Int) ≤ (i : Int) := by omega
  have hb1 : (i : Int) < (s.size : Int) := by omega
  have hbt : b < 256 := by rw [← hxb]; exact (s[i]'hi).toNat_lt
  have hwb : IntKind.i64.wrap (b : Int) = (b : Int) := by rw [IntKind.wrap_i64]; omega
  have d128 : decide ((b : Int) < 128) = false := by simp; omega
  have d194 : decide ((b : Int) ≥ 194) = true := by simp; omega
  have d223 : decide ((b : Int) ≤ 223) = false := by simp; omega
  have d224 : decide ((b : Int) ≥ 224) = true := by simp; omega
  have d239 : decide ((b : Int) ≤ 239) = false := by simp; omega
  have d240 : decide ((b : Int) ≥ 240) = true := by simp; omega
  have d244 : decide ((b : Int) ≤ 244) = true := by simp; omega
  have hwn : IntKind.i64.wrap ((s.size : Int) - (i : Int)) = (s.size : Int) - (i : Int) := by rw [IntKind.wrap_i64]; omega
  have hws : IntKind.i64.wrap ((b : Int) - 240) = (b : Int) - 240 := by rw [IntKind.wrap_i64]; omega
  have hdn : decide ((4 : Int) > (s.size : Int) - (i : Int)) = true := by simp; omega
  clear hlo hhi
  go_enter Tryd.func31, Tryd.ntmps31
  go_wp2
  go_ret2
  exact ⟨rfl, Below.refl _ _⟩
set_option maxRecDepth 100000 in
theorem msize_long4 (s : ByteArray) (i b : Nat) (hs : s.size ≤ 1073741824) (hi : i < s.size) (hxb : (s[i]'hi).toNat = b) (w : World) (hlo : 240 ≤ b) (hhi : b ≤ 244) (hn : 4 ≤ s.size - i) (B : Nat → Int) (hB : ∀ j, B j = ((s.get! (i + j)).toNat : Int)) (r1 r2 : Int) (hgood : (∀ j, 1 ≤ j → j ≤ 3 → 128 ≤ B j ∧ B j ≤ 191) → ¬ (hv ((b : Int) - 240) B 3 < 65536 ∨ hv ((b : Int) - 240) B 3 > 1114111 ∨ (55296 ≤ hv ((b : Int) - 240) B 3 ∧ hv ((b : Int) - 240) B 3 ≤ 57343)) → r1 = 4 ∧ r2 = hv ((b : Int) - 240) B 3) (hbad : ¬ ((∀ j, 1 ≤ j → j ≤ 3 → 128 ≤ B j ∧ B j ≤ 191) ∧ ¬ (hv ((b : Int) - 240) B 3 < 65536 ∨ hv ((b : Int) - 240) B 3 > 1114111 ∨ (55296 ≤ hv ((b : Int) - 240) B 3 ∧ hv ((b : Int) - 240) B 3 ≤ 57343))) → r1 = 0 ∧ r2 = 0) :
    Calls Tryd.prog 31 #[.string s, .int .i64 (i : Int)] w fun e w' => e = .returned (.tuple #[.int .i64 r1, .int .i64 r2]) ∧ Below w.heap.size w w' := by
  have hb0 : (0 : Int) ≤ (i : Int) := by omega
  have hb1 : (i : Int) < (s.size : Int) := by omega
  have hbt : b < 256 := by rw [← hxb]; exact (s[i]'hi).toNat_lt
  have hwb : IntKind.i64.wrap (b : Int) = (b : Int) := by rw [IntKind.wrap_i64]; omega
  have d128 : decide ((b : Int) < 128) = false := by simp; omega
  have d194 : decide ((b : Int) ≥ 194) = true := by simp; omega
  have d223 : decide ((b : Int) ≤ 223) = false := by simp; omega
  have d224 : decide ((b : Int) ≥ 224) = true := by simp; omega
  have d239 : decide ((b : Int) ≤ 239) = false := by simp; omega
  have d240 : decide ((b : Int) ≥ 240) = true := by simp; omega
  have d244 : decide ((b : Int) ≤ 244) = true := by simp; omega
  have hwn : IntKind.i64.wrap ((s.size : Int) - (i : Int)) = (s.size : Int) - (i : Int) := by rw [IntKind.wrap_i64]; omega
  have hws : IntKind.i64.wrap ((b : Int) - 240) = (b : Int) - 240 := by rw [IntKind.wrap_i64]; omega
  have hdn : decide ((4 : Int) > (s.size : Int) - (i : Int)) = false := by simp; omega
  obtain ⟨v0, hv0⟩ : ∃ v0, v0 = (b : Int) - 240 := ⟨_, rfl⟩
  have hv00 : 0 ≤ v0 ∧ v0 ≤ 31 := by omega
  rw [← hv0] at hgood hbad
  have HG := Lib.hid hgood
  have HBD := Lib.hid hbad
  have HB := Lib.hid hB
  have HV := Lib.hid hv0
  clear hlo hhi hgood hbad hB hv0
  go_enter Tryd.func31, Tryd.ntmps31
  go_wp2
  go_loopw [9, 10] (fun v k wr => ∃ m q : Nat, m ≤ 3 ∧ k = .int .i64 ((m : Int) + 1) ∧ v = .int .i64 (hv v0 B m) ∧ (∀ j, 1 ≤ j → j ≤ m → 128 ≤ B j ∧ B j ≤ 191) ∧ wr = w.drewN q) (fun _ k _ => 4 - (intOf k).toNat)
  case atStart => exact ⟨0, 0, Nat.zero_le _, rfl, by rw [show hv v0 B 0 = v0 from rfl, HV.out], fun j a c => absurd a (by omega), rfl⟩
  case round =>
    obtain ⟨m, q, hm, rfl, rfl, hc, rfl⟩ := hrel
    have hbd := hv_bound v0 B hv00 m hc
    have hpw := pow_le3 m (by omega)
    obtain ⟨V, hV⟩ : ∃ V, V = hv v0 B m := ⟨_, rfl⟩
    rw [← hV] at hbd ⊢
    have hVb : 0 ≤ V ∧ V < 8388608 := by omega
    have HC := Lib.hid hc
    have HVV := Lib.hid hV
    clear hc hV hbd hpw
    by_cases hlt : m < 3
    · have hlb : decide ((m : Int) + 1 < 4) = true := by simp; omega
      have hms : i + (m + 1) < s.size := by omega
      have hw1 : IntKind.i64.wrap ((i : Int) + ((m : Int) + 1)) = (i : Int) + ((m : Int) + 1) := by rw [IntKind.wrap_i64]; omega
      have hi0 : (0 : Int) ≤ (i : Int) + ((m : Int) + 1) := by omega
      have hi1 : (i : Int) + ((m : Int) + 1) < (s.size : Int) := by omega
      have hi2 : ((i : Int) + ((m : Int) + 1)).toNat = i + (m + 1) := by omega
      obtain ⟨D, hD⟩ : ∃ D, (s[i + (m + 1)]'hms).toNat = D := ⟨_, rfl⟩
      have hDt : D < 256 := by rw [← hD]; exact (s[i + (m + 1)]'hms).toNat_lt
      have hBD : B (m + 1) = (D : Int) := by rw [HB.out, ← get_at s i (m + 1) hms, hD]
      have HBM := Lib.hid hBD
      have hwD : IntKind.i64.wrap (D : Int) = (D : Int) := by rw [IntKind.wrap_i64]; omega
      clear hBD
      by_cases hcd : 128 ≤ D ∧ D ≤ 191
      · have e1 : decide ((D : Int) < 128) = false := by simp; omega
        have e2 : decide ((D : Int) > 191) = false := by simp; omega
        have hv1 : IntKind.i64.wrap (64 * V) = 64 * V := by rw [IntKind.wrap_i64]; omega
        have hv2 : IntKind.i64.wrap (64 * V + (D : Int)) = 64 * V + (D : Int) := by rw [IntKind.wrap_i64]; omega
        have hv3 : IntKind.i64.wrap (64 * V + (D : Int) - 128) = 64 * V + (D : Int) - 128 := by rw [IntKind.wrap_i64]; omega
        have hw2 : IntKind.i64.wrap ((m : Int) + 1 + 1) = (m : Int) + 1 + 1 := by rw [IntKind.wrap_i64]; omega
        go_wp2_with fail
        go_roundw
        case rel =>
          refine ⟨m + 1, q, by omega, by go_num, ?_, ?_, rfl⟩
          · show _ = Value.int .i64 (64 * hv v0 B m + B (m + 1) - 128)
            rw [← HVV.out, HBM.out]
          · intro j a c
            by_cases hj : j = m + 1
            · subst hj; rw [HBM.out]; omega
            · exact HC.out j a (by omega)
        case measure => simp [intOf]; omega
      · have HN := Lib.hid hcd
        have hres := HBD.out (fun h => by
          have := h.1 (m + 1) (by omega) (by omega)
          rw [HBM.out] at this
          exact HN.out (by omega))
        obtain ⟨rfl, rfl⟩ := hres
        by_cases hc1 : D < 128
        · have e1 : decide ((D : Int) < 128) = true := by simp; omega
          clear hcd
          go_wp2_with fail
          go_ret2
          exact ⟨rfl, below_drewN (Below.refl _ _) _⟩
        · have e1 : decide ((D : Int) < 128) = false := by simp; omega
          have e2 : decide ((D : Int) > 191) = true := by simp; omega
          clear hcd
          go_wp2_with fail
          go_ret2
          exact ⟨rfl, below_drewN (Below.refl _ _) _⟩
    · obtain rfl : m = 3 := by omega
      have hlb : decide (((3 : Nat) : Int) + 1 < 4) = false := by decide
      go_wp2_with fail
      all_goals first
        | (obtain ⟨rfl, rfl⟩ := HBD.out (fun h => h.2 (by rw [← HVV.out]; omega))
           go_ret2
           exact ⟨rfl, below_drewN (Below.refl _ _) _⟩)
        | (obtain ⟨rfl, e2⟩ := HG.out HC.out (by rw [← HVV.out]; omega)
           go_ret2
           exact ⟨by rw [e2, ← HVV.out]; rfl, below_drewN (Below.refl _ _) _⟩)

theorem hv_one (v0 : Int) (B : Nat → Int) : hv v0 B 1 = 64 * v0 + B 1 - 128 := rfl
theorem hv_two (v0 : Int) (B : Nat → Int) : hv v0 B 2 = 64 * (64 * v0 + B 1 - 128) + B 2 - 128 := rfl
theorem hv_three (v0 : Int) (B : Nat → Int) : hv v0 B 3 = 64 * (64 * (64 * v0 + B 1 - 128) + B 2 - 128) + B 3 - 128 := rfl

/-- The reference's size, at every place of every text. -/
theorem msize_at (s : ByteArray) (i : Nat) (hs : s.size ≤ 1073741824) (hi : i < s.size) (w : World) :
    Calls Tryd.prog 31 #[.string s, .int .i64 (i : Int)] w fun e w' => e = .returned (.tuple #[.int .i64 ((msz (Utf8.decode s i)).1 : Int), .int .i64 ((msz (Utf8.decode s i)).2 : Int)]) ∧ Below w.heap.size w w' := by
  have hd := Lib.decode_at s i
  have h0 : (s.get! i).toNat = (s[i]'hi).toNat := by rw [Utf8W.get!_of_lt s i hi]
  obtain ⟨b, hb⟩ : ∃ b, (s[i]'hi).toNat = b := ⟨_, rfl⟩
  rw [h0, hb] at hd
  have k0 : b < 256 := by rw [← hb]; exact (s[i]'hi).toNat_lt
  have k1 := (s.get! (i + 1)).toNat_lt
  have k2 := (s.get! (i + 2)).toNat_lt
  have k3 := (s.get! (i + 3)).toNat_lt
  obtain ⟨B, hB⟩ : ∃ B : Nat → Int, ∀ j, B j = ((s.get! (i + j)).toNat : Int) := ⟨_, fun _ => rfl⟩
  have B1 := hB 1
  have B2 := hB 2
  have B3 := hB 3
  generalize (s.get! (i + 1)).toNat = b1 at *
  generalize (s.get! (i + 2)).toNat = b2 at *
  generalize (s.get! (i + 3)).toNat = b3 at *
  rcases (show b ≤ 127 ∨ (128 ≤ b ∧ b ≤ 193) ∨ (194 ≤ b ∧ b ≤ 223) ∨ (224 ≤ b ∧ b ≤ 239) ∨ (240 ≤ b ∧ b ≤ 244) ∨ (245 ≤ b ∧ b ≤ 255) by omega) with h | h | h | h | h | h
  · have e : Utf8.decode s i = (b, 1) := by rw [hd]; unfold Lib.decodeN; rw [if_pos (by omega)]
    have em : msz (Utf8.decode s i) = (1, b) := by
      rw [e]; unfold msz
      rw [if_neg (fun e => by have : b = 65533 := congrArg Prod.fst e; omega)]
    rw [em]
    exact msize_ascii s i b hi hb w (Nat.zero_le _) h
  · rw [hd, dec_other (by omega) (by omega) k0, msz_bad rfl]
    exact msize_mid s i b hi hb w h.1 h.2
  · by_cases hn : s.size - i < 2
    · rw [hd, dec2_bad h (by omega) k1, msz_bad rfl]
      exact msize_short2 s i b hs hi hb w h.1 h.2 hn
    · refine msize_long2 s i b hs hi hb w h.1 h.2 (by omega) B hB _ _ (fun hc hv => ?_) (fun hbad => ?_)
      · have c1 : cont b1 := by have := hc 1 (by omega) (by omega); unfold cont; omega
        rw [hd, dec2_ok h (by omega) c1, msz_ok rfl (by omega), hv_one]
        unfold cont at c1
        constructor
        · rfl
        · dsimp only; omega
      · have c1 : ¬ cont b1 := fun c1 => hbad ⟨fun j a c => by
          obtain rfl : j = 1 := by omega
          unfold cont at c1; omega, by rw [hv_one]; unfold cont at c1; omega⟩
        rw [hd, dec2_bad h (.inr c1) k1, msz_bad rfl]
        exact ⟨rfl, rfl⟩
  · by_cases hn : s.size - i < 3
    · rw [hd, dec3_bad h (.inl (by omega)) k1 k2, msz_bad rfl]
      exact msize_short3 s i b hs hi hb w h.1 h.2 hn
    · refine msize_long3 s i b hs hi hb w h.1 h.2 (by omega) B hB _ _ (fun hc hv => ?_) (fun hbad => ?_)
      · have c1 : cont b1 := by have := hc 1 (by omega) (by omega); unfold cont; omega
        have c2 : cont b2 := by have := hc 2 (by omega) (by omega); unfold cont; omega
        rw [hv_two] at hv ⊢
        have d1 := c1
        have d2 := c2
        unfold cont at d1 d2
        rw [hd, dec3_ok h (by omega) c1 c2 (by omega) (by omega), msz_ok rfl (by omega)]
        constructor
        · rfl
        · dsimp only; omega
      · have hor : s.size - i < 3 ∨ ¬ cont b1 ∨ ¬ cont b2 ∨ 4096 * (b - 224) + 64 * (b1 - 128) + (b2 - 128) < 2048 ∨ (55296 ≤ 4096 * (b - 224) + 64 * (b1 - 128) + (b2 - 128) ∧ 4096 * (b - 224) + 64 * (b1 - 128) + (b2 - 128) ≤ 57343) := by
          by_cases c1 : cont b1
          · by_cases c2 : cont b2
            · unfold cont at c1 c2
              right; right; right
              apply Decidable.byContradiction
              intro hno
              refine hbad ⟨fun j a c => ?_, ?_⟩
              · rcases (show j = 1 ∨ j = 2 by omega) with rfl | rfl <;> omega
              · rw [hv_two]; omega
            · exact .inr (.inr (.inl c2))
          · exact .inr (.inl c1)
        rw [hd, dec3_bad h hor k1 k2, msz_bad rfl]
        exact ⟨rfl, rfl⟩
  · by_cases hn : s.size - i < 4
    · rw [hd, dec4_bad h (.inl (by omega)) k1 k2 k3, msz_bad rfl]
      exact msize_short4 s i b hs hi hb w h.1 h.2 hn
    · refine msize_long4 s i b hs hi hb w h.1 h.2 (by omega) B hB _ _ (fun hc hv => ?_) (fun hbad => ?_)
      · have c1 : cont b1 := by have := hc 1 (by omega) (by omega); unfold cont; omega
        have c2 : cont b2 := by have := hc 2 (by omega) (by omega); unfold cont; omega
        have c3 : cont b3 := by have := hc 3 (by omega) (by omega); unfold cont; omega
        rw [hv_three] at hv ⊢
        have d1 := c1
        have d2 := c2
        have d3 := c3
        unfold cont at d1 d2 d3
        rw [hd, dec4_ok h (by omega) c1 c2 c3 (by omega) (by omega), msz_ok rfl (by omega)]
        constructor
        · rfl
        · dsimp only; omega
      · have hor : s.size - i < 4 ∨ ¬ cont b1 ∨ ¬ cont b2 ∨ ¬ cont b3 ∨ 262144 * (b - 240) + 4096 * (b1 - 128) + 64 * (b2 - 128) + (b3 - 128) < 65536 ∨ 1114111 < 262144 * (b - 240) + 4096 * (b1 - 128) + 64 * (b2 - 128) + (b3 - 128) := by
          by_cases c1 : cont b1
          · by_cases c2 : cont b2
            · by_cases c3 : cont b3
              · unfold cont at c1 c2 c3
                right; right; right; right
                apply Decidable.byContradiction
                intro hno
                refine hbad ⟨fun j a c => ?_, ?_⟩
                · rcases (show j = 1 ∨ j = 2 ∨ j = 3 by omega) with rfl | rfl | rfl <;> omega
                · rw [hv_three]; omega
              · exact .inr (.inr (.inr (.inl c3)))
            · exact .inr (.inr (.inl c2))
          · exact .inr (.inl c1)
        rw [hd, dec4_bad h hor k1 k2 k3, msz_bad rfl]
        exact ⟨rfl, rfl⟩
  · rw [hd, dec_other (by omega) (by omega) k0, msz_bad rfl]
    exact msize_top s i b hi hb w h.1 h.2
end Go.Proofs.YteijcfmgaljjaaaDoor
