/- Lemmas for the laws of index. -/
import Derived.Test.YtngfknplljedeaaGreatZr18
import Derived.Test.YtngfknplljedeaaGreatZr25
namespace Go.Proofs.YtngfknplljedeaaGreat
def valsS (L : List (List UInt8)) : List (List UInt8) := Lib.compact (L.mergeSort fun x y => decide (x ≤ y))
theorem bl_dec : ∀ x y : List UInt8, Op.bytesLess x y = decide (x < y)
 | [], [] => by simp [Op.bytesLess]
 | a :: x, [] => by simp [Op.bytesLess]
 | [], b :: y => by simp [Op.bytesLess]
 | a :: x, b :: y => by
  rw [Bool.eq_iff_iff, decide_eq_true_iff, List.cons_lt_cons_iff]
  simp only [Op.bytesLess, Bool.or_eq_true, decide_eq_true_eq, Bool.and_eq_true, beq_iff_eq]
  rw [bl_dec x y, decide_eq_true_iff]
theorem le_bl {a b : List UInt8} : a ≤ b ↔ Op.bytesLess b a = false := by
 rw [bl_dec, decide_eq_false_iff_not]
 exact Iff.rfl
theorem bl_le_trans (a b c : List UInt8) (h : Op.bytesLess b a = false) (g : Op.bytesLess c b = false) : Op.bytesLess c a = false := by
 cases e : Op.bytesLess c a with
 | false => rfl
 | true =>
  exfalso
  cases e2 : Op.bytesLess a b with
  | true => rw [bl_trans _ _ _ e e2] at g; cases g
  | false => rw [bl_tri a b e2 h] at e; rw [e] at g; cases g
theorem valsS_of (L : List (List UInt8)) : (valsS L).Pairwise (fun a b => Op.bytesLess a b = true) ∧ (∀ x, x ∈ valsS L ↔ x ∈ L) ∧ ((valsS L).length = L.length ↔ L.Nodup) := by
 have hp := List.mergeSort_perm L (fun x y => decide (x ≤ y))
 have hd : (fun (x y : List UInt8) => decide (x ≤ y)) = fun x y => !Op.bytesLess y x := by
  funext x y
  rw [Bool.eq_iff_iff, decide_eq_true_iff, le_bl]
  simp
 have hs : (L.mergeSort fun x y => decide (x ≤ y)).Pairwise (fun a b => Op.bytesLess b a = false) := by
  rw [hd]
  have := List.pairwise_mergeSort (le := fun (x y : List UInt8) => !Op.bytesLess y x) (fun a b c h g => by
   simp only [Bool.not_eq_true'] at h g ⊢
   exact bl_le_trans a b c h g) (fun a b => by
   simp only [Bool.or_eq_true, Bool.not_eq_true']
   cases e : Op.bytesLess b a with
   | false => exact .inl rfl
   | true =>
    right
    cases e2 : Op.bytesLess a b with
    | false => rfl
    | true => have := bl_trans _ _ _ e e2; rw [bl_irr] at this; cases this) L
  exact this.imp fun h => by simpa using h
 obtain ⟨h1, h2, h3⟩ := compact_of (fun a b => Op.bytesLess b a = false) _ (fun a b h g => bl_tri a b g h) hs
 refine ⟨h1.imp fun {a b} h => ?_, fun x => (h2 x).trans hp.mem_iff, ?_⟩
 · cases e : Op.bytesLess a b with
   | true => rfl
   | false => exact absurd (bl_tri a b e h.1) h.2
 · rw [hp.length_eq] at h3
   exact h3.trans hp.nodup_iff
theorem bsGo_same (f g : Nat → Bool) (n : Nat) : ∀ (k lo hi : Nat), (∀ t, t < n → f t = g t) → hi ≤ n → Lib.bsGo f k lo hi = Lib.bsGo g k lo hi
 | 0, _, _, _, _ => rfl
 | k + 1, lo, hi, h, hn => by
  unfold Lib.bsGo
  by_cases hl : lo < hi
  · rw [if_pos hl, if_pos hl, h _ (by omega), bsGo_same f g n k _ hi h hn, bsGo_same f g n k lo _ h (by omega)]
  · rw [if_neg hl, if_neg hl]
theorem bs_finds (L : List (List UInt8)) (x : List UInt8) (S : Nat → List UInt8) (hS : ∀ j, j < L.length → L[j]? = some (S j)) (h : L.Pairwise fun a b => Op.bytesLess a b = true) :
 decide (Lib.bsGo (fun t => Op.bytesLess (S t) x) L.length 0 L.length < L.length ∧ S (Lib.bsGo (fun t => Op.bytesLess (S t) x) L.length 0 L.length) = x) = decide (x ∈ L) := by
 have hlt : ∀ i j, i < j → j < L.length → Op.bytesLess (S i) (S j) = true := fun i j hij hj => by
  have hi : i < L.length := by omega
  have e1 := (List.getElem?_eq_some_iff.1 (hS i hi)).2
  have e2 := (List.getElem?_eq_some_iff.1 (hS j hj)).2
  rw [← e1, ← e2]
  exact List.pairwise_iff_getElem.1 h i j hi hj hij
 -- the first place whose text is not below
 obtain ⟨k, hk, h1, h2⟩ : ∃ k, k ≤ L.length ∧ (∀ t, t < k → Op.bytesLess (S t) x = true) ∧ (∀ t, k ≤ t → t < L.length → Op.bytesLess (S t) x = false) := by
  have key : ∀ m, m ≤ L.length → ∃ k, k ≤ m ∧ (∀ t, t < k → Op.bytesLess (S t) x = true) ∧ (∀ t, k ≤ t → t < m → Op.bytesLess (S t) x = false) := by
   intro m
   induction m with
   | zero => intro _; exact ⟨0, Nat.le_refl _, fun t ht => by omega, fun t _ ht => by omega⟩
   | succ m ih =>
    intro hm
    obtain ⟨k, hk, h1, h2⟩ := ih (by omega)
    cases e : Op.bytesLess (S m) x with
    | false =>
     refine ⟨k, by omega, h1, fun t h3 h4 => ?_⟩
     by_cases e2 : t = m
     · subst e2; exact e
     · exact h2 t h3 (by omega)
    | true =>
     refine ⟨m + 1, Nat.le_refl _, fun t ht => ?_, fun t h3 h4 => by omega⟩
     by_cases e2 : t = m
     · subst e2; exact e
     · exact bl_trans _ _ _ (hlt t m (by omega) (by omega)) e
  exact key L.length (Nat.le_refl _)
 have hb : Lib.bsGo (fun t => Op.bytesLess (S t) x) L.length 0 L.length = k := by
  have := Lib.bsGo_spec (fun t => if t < L.length then Op.bytesLess (S t) x else false) k (fun t ht => by rw [if_pos (by omega)]; exact h1 t ht) (fun t ht => by
   split
   · exact h2 t ht (by assumption)
   · rfl) L.length 0 L.length (by omega) (Nat.zero_le _) hk
  rw [← this]
  exact bsGo_same _ _ L.length L.length 0 L.length (fun t ht => by rw [if_pos ht]) (Nat.le_refl _)
 rw [hb]
 refine decide_eq_decide.2 ⟨fun ⟨hk2, e⟩ => ?_, fun hx => ?_⟩
 · rw [← e]
   exact List.mem_of_getElem? (hS k hk2)
 · obtain ⟨j, hj, e⟩ := List.getElem_of_mem hx
   have e2 : S j = x := by
    have := (List.getElem?_eq_some_iff.1 (hS j hj)).2
    rw [← this, e]
   have hkj : k = j := by
    rcases Nat.lt_trichotomy j k with h3 | h3 | h3
    · have := h1 j h3
      rw [e2, bl_irr] at this
      cases this
    · exact h3.symm
    · have h4 := h2 k (Nat.le_refl _) (by omega)
      have h5 := hlt k j h3 hj
      rw [e2, h4] at h5
      cases h5
   subst hkj
   exact ⟨hj, e2⟩
end Go.Proofs.YtngfknplljedeaaGreat
