/- Lemmas for the laws of index. -/
import Derived.BigQuiet
import Derived.Deep.AppendLies
import Derived.Deep.Cut
import Derived.Deep.DeepMust
import Derived.Deep.RegionHeld3
import Derived.Deep.WholeRow
import Derived.Handy
import Derived.Laws.AppendOwnNone
import Derived.Lib.Hide
import Derived.Lib.SlicesCompact
import Derived.Lib.SmallJoins
import Derived.Shelf.Spec.SearchS
import Derived.StillTailTactics
import Derived.Test.YtngfknplljedeaaGreatRows
import Derived.WalkLawsBesides
namespace Go.Proofs.YtngfknplljedeaaGreat
section
variable {α : Type} [Inhabited α] [DecidableEq α]
theorem cpt_sorted (le : α → α → Prop) (d : Array α) (ha : ∀ a b, le a b → le b a → a = b) (hs : ∀ i j, i < j → j < d.size → le d[i]! d[j]!) :
 ∀ m, m ≤ d.size → (Lib.compactUpTo d m).Pairwise (fun a b => le a b ∧ a ≠ b) ∧ ∀ x, x ∈ Lib.compactUpTo d m ↔ ∃ j, j < m ∧ d[j]! = x
 | 0, _ => by
  refine ⟨by simp [Lib.compactUpTo], fun x => ⟨fun h => by simp [Lib.compactUpTo] at h, fun ⟨j, h, _⟩ => by omega⟩⟩
 | m + 1, hm => by
  obtain ⟨h1, h2⟩ := cpt_sorted le d ha hs m (by omega)
  rw [Lib.compactUpTo_succ]
  by_cases hk : Lib.keeps d m = true
  · rw [if_pos hk]
    have hk2 : m = 0 ∨ d[m]! ≠ d[m - 1]! := by simpa [Lib.keeps] using hk
    constructor
    · rw [List.pairwise_append]
      refine ⟨h1, List.pairwise_singleton _ _, fun a haa b hb => ?_⟩
      rw [List.mem_singleton] at hb
      subst hb
      obtain ⟨j, hj, rfl⟩ := (h2 a).1 haa
      refine ⟨hs j m hj (by omega), fun e => ?_⟩
      rcases hk2 with hk2 | hk2
      · omega
      · apply hk2
        have l1 := hs (m - 1) m (by omega) (by omega)
        by_cases hjm : j = m - 1
        · rw [← hjm]; exact e.symm
        · have l2 := hs j (m - 1) (by omega) (by omega)
          rw [e] at l2
          exact ha _ _ l2 l1
    · intro x
      rw [List.mem_append, List.mem_singleton, h2]
      constructor
      · rintro (⟨j, hj, e⟩ | e)
        · exact ⟨j, by omega, e⟩
        · exact ⟨m, by omega, e.symm⟩
      · rintro ⟨j, hj, e⟩
        by_cases hjm : j = m
        · subst hjm; exact .inr e.symm
        · exact .inl ⟨j, by omega, e⟩
  · rw [if_neg hk, List.append_nil]
    have hk2 : ¬ (m = 0 ∨ d[m]! ≠ d[m - 1]!) := by simpa [Lib.keeps] using hk
    refine ⟨h1, fun x => (h2 x).trans ⟨fun ⟨j, hj, e⟩ => ⟨j, by omega, e⟩, fun ⟨j, hj, e⟩ => ?_⟩⟩
    by_cases hjm : j = m
    · subst hjm
      have e2 : d[j]! = d[j - 1]! := Classical.byContradiction fun h => hk2 (.inr h)
      exact ⟨j - 1, by have : j ≠ 0 := fun h => hk2 (.inl h); omega, by rw [← e2]; exact e⟩
    · exact ⟨j, by omega, e⟩
theorem cpt_full {d : Array α} {m : Nat} (h : (Lib.compactUpTo d m).length = m) : ∀ j, j < m → Lib.keeps d j = true := by
 have h2 : ((List.range m).filter (Lib.keeps d)).length = (List.range m).length := by
  rw [List.length_range]
  simpa [Lib.compactUpTo] using h
 intro j hj
 exact List.length_filter_eq_length_iff.1 h2 j (List.mem_range.2 hj)
theorem compact_of (le : α → α → Prop) (zs : List α) (ha : ∀ a b, le a b → le b a → a = b) (hs : zs.Pairwise le) :
 (Lib.compact zs).Pairwise (fun a b => le a b ∧ a ≠ b) ∧ (∀ x, x ∈ Lib.compact zs ↔ x ∈ zs) ∧ ((Lib.compact zs).length = zs.length ↔ zs.Nodup) := by
 have hs2 : ∀ i j, i < j → j < zs.toArray.size → le zs.toArray[i]! zs.toArray[j]! := by
  intro i j hij hj
  have hj2 : j < zs.length := by simpa using hj
  rw [getElem!_pos zs.toArray j hj, getElem!_pos zs.toArray i (by omega)]
  simpa using List.pairwise_iff_getElem.1 hs i j (by omega) hj2 hij
 obtain ⟨h1, h2⟩ := cpt_sorted le zs.toArray ha hs2 zs.length (by simp)
 refine ⟨h1, fun x => ((h2 x).trans ⟨fun ⟨j, hj, e⟩ => ?_, fun h => ?_⟩), fun h => ?_, fun h => ?_⟩
 · rw [getElem!_pos zs.toArray j (by simpa using hj)] at e
   simp at e
   rw [← e]
   exact List.getElem_mem hj
 · obtain ⟨j, hj, e⟩ := List.getElem_of_mem h
   exact ⟨j, hj, by rw [getElem!_pos zs.toArray j (by simpa using hj)]; simpa using e⟩
 · have e := Lib.compact_all zs (cpt_full h)
   have h3 : (Lib.compact zs).Pairwise (fun a b => le a b ∧ a ≠ b) := h1
   rw [e] at h3
   exact h3.imp fun h => h.2
 · rw [Lib.compact_all zs]
   intro j hj
   by_cases h0 : j = 0
   · simp [Lib.keeps, h0]
   · refine Lib.keeps_pos fun e => ?_
     rw [getElem!_pos zs.toArray j (by simpa using hj), getElem!_pos zs.toArray (j - 1) (by simp; omega)] at e
     simp at e
     have := (List.nodup_iff_pairwise_ne.1 h)
     exact List.pairwise_iff_getElem.1 this (j - 1) j (by omega) hj (by omega) e.symm
end
end Go.Proofs.YtngfknplljedeaaGreat
namespace Go.Proofs.YtngfknplljedeaaGreat
def valsI (L : List Int) : List Int := Lib.compact (L.mergeSort fun x y => decide (x ≤ y))
theorem valsI_of (L : List Int) : (valsI L).Pairwise (· < ·) ∧ (∀ x, x ∈ valsI L ↔ x ∈ L) ∧ ((valsI L).length = L.length ↔ L.Nodup) := by
 have hp := List.mergeSort_perm L (fun x y => decide (x ≤ y))
 have hs : (L.mergeSort fun x y => decide (x ≤ y)).Pairwise (· ≤ ·) := by
  have := List.pairwise_mergeSort (le := fun (x y : Int) => decide (x ≤ y)) (fun a b c h g => decide_eq_true (Int.le_trans (of_decide_eq_true h) (of_decide_eq_true g))) (fun a b => by simp [Int.le_total]) L
  exact this.imp fun h => of_decide_eq_true h
 obtain ⟨h1, h2, h3⟩ := compact_of (· ≤ ·) _ (fun a b => Int.le_antisymm) hs
 refine ⟨h1.imp fun h => by omega, fun x => (h2 x).trans hp.mem_iff, ?_⟩
 rw [hp.length_eq] at h3
 exact h3.trans hp.nodup_iff
theorem rise_eq : ∀ {l m : List Int}, l.Pairwise (· < ·) → m.Pairwise (· < ·) → (∀ x, x ∈ l ↔ x ∈ m) → l = m
 | [], [], _, _, _ => rfl
 | [], b :: m, _, _, h => by have := (h b).2 List.mem_cons_self; simp at this
 | a :: l, [], _, _, h => by have := (h a).1 List.mem_cons_self; simp at this
 | a :: l, b :: m, h1, h2, h => by
  rw [List.pairwise_cons] at h1 h2
  have e : a = b := by
   have ha := (h a).1 List.mem_cons_self
   have hb := (h b).2 List.mem_cons_self
   rw [List.mem_cons] at ha hb
   rcases ha with ha | ha
   · exact ha
   · rcases hb with hb | hb
     · exact hb.symm
     · have := h1.1 b hb; have := h2.1 a ha; omega
  subst e
  rw [rise_eq h1.2 h2.2 fun x => ?_]
  have hx := h x
  rw [List.mem_cons, List.mem_cons] at hx
  constructor
  · intro hl
    rcases hx.1 (.inr hl) with e | e
    · have := h1.1 x hl; omega
    · exact e
  · intro hl
    rcases hx.2 (.inr hl) with e | e
    · have := h2.1 x hl; omega
    · exact e
end Go.Proofs.YtngfknplljedeaaGreat
