/- Lemmas for the laws of index. -/
import Derived.Great.BuildSlice
import Derived.Laws.CopyOwn
import Derived.Lib.AppendZerosOnto
import Derived.Shelf.Slices.Cells
import Derived.Shelf.Slices.Empties
import Derived.Shelf.Slices.In.SortNone
import Derived.Shelf.SlicesE.DeleteFunc
import Derived.Shelf.Small.Strs
import Derived.Shelf.Small.Wraps
import Derived.Shelf.Sort.Plain
import Derived.Shelf.Spec.SearchS
import Derived.Shelf.Spec.SlicesInsert
import Derived.Sort.OwnSortedInts
import Derived.Test.YtngfknplljedeaaGreatZr45
namespace Go.Proofs.YtngfknplljedeaaGreat
open Go.RowKit
theorem CA.goes_num {c : CA} (h : c.num) (x : Ch) : (c.goes x).1.num := by
 have he : ∀ {α : Type} {l : List α} {P : α → Prop} (i : Nat), (∀ y ∈ l, P y) → ∀ y ∈ l.eraseIdx i, P y := fun i h y hy => h y (List.mem_of_mem_eraseIdx hy)
 have hf : ∀ {α : Type} {l : List α} {P : α → Prop} (p : α → Bool), (∀ y ∈ l, P y) → ∀ y ∈ l.filter p, P y := fun p h y hy => h y (List.mem_filter.1 hy).1
 have hi : ∀ {p : Prop} [Decidable p] {a b : CA × Bool}, a.1.num → b.1.num → (if p then a else b).1.num := fun {p} _ {a b} ha hb => by
  by_cases g : p
  · rw [if_pos g]; exact ha
  · rw [if_neg g]; exact hb
 obtain ⟨h1, h2, h3, h4⟩ := h
 unfold CA.goes
 exact hi (hi ⟨h1, h2, h3, h4⟩ ⟨he _ h1, h2, h3, h4⟩) (hi (hi ⟨h1, h2, h3, h4⟩ ⟨h1, he _ h2, hf _ h3, hf _ h4⟩) (hi (hi ⟨h1, h2, h3, h4⟩ ⟨h1, h2, hf _ h3, hf _ h4⟩) (hi (hi ⟨h1, h2, h3, h4⟩ ⟨h1, h2, he _ h3, h4⟩) (hi ⟨h1, h2, h3, h4⟩ ⟨h1, h2, h3, he _ h4⟩))))
theorem CA.apply_num {c : CA} (h : c.num) {x : Ch} (hx : x.num) : (c.apply x).1.num := by
 have hp : ∀ {α : Type} {l : List α} {P : α → Prop} (p q : α → Bool) (z : α), P z → (∀ y ∈ l, P y) → ∀ y ∈ putIn p q z l, P y := fun p q z hz h y hy => by
  rcases mem_putIn.1 hy with rfl | ⟨hy, _⟩
  · exact hz
  · exact h y hy
 have hi : ∀ {p : Prop} [Decidable p] {a b : CA × Bool}, a.1.num → b.1.num → (if p then a else b).1.num := fun {p} _ {a b} ha hb => by
  by_cases g : p
  · rw [if_pos g]; exact ha
  · rw [if_neg g]; exact hb
 have hg := CA.goes_num h x
 obtain ⟨h1, h2, h3, h4⟩ := h
 obtain ⟨x1, x2, x3, x4, x5, x6, x7, x8, x9⟩ := hx
 unfold CA.apply
 exact hi ⟨h1, h2, h3, h4⟩ (hi (hi ⟨h1, h2, h3, h4⟩ ⟨hp _ _ _ ⟨x2, x3, x4⟩ h1, h2, h3, h4⟩) (hi ⟨h1, hp _ _ _ ⟨x4, x7⟩ h2, h3, h4⟩ (hi (hi ⟨h1, h2, h3, h4⟩ ⟨h1, h2, hp _ _ _ ⟨x4, x5, x6⟩ h3, h4⟩) (hi (hi ⟨h1, h2, h3, h4⟩ ⟨h1, h2, h3, hp _ _ _ ⟨x4, x8, x9⟩ h4⟩) hg))))
theorem CA.made_num (l : List Ch) (h : ∀ x ∈ l, x.num) : (CA.made l).num := by
 unfold CA.made
 have : ∀ (l : List Ch) (c : CA), c.num → (∀ x ∈ l, x.num) → (l.foldl (fun c x => (c.apply x).1) c).num := by
  intro l
  induction l with
  | nil => intro c hc _; exact hc
  | cons x l ih => intro c hc h; exact ih _ (CA.apply_num hc (h x List.mem_cons_self)) fun y hy => h y (List.mem_cons_of_mem _ hy)
 exact this l CA.none ⟨by simp [CA.none], by simp [CA.none], by simp [CA.none], by simp [CA.none]⟩ h
end Go.Proofs.YtngfknplljedeaaGreat
namespace Go.Proofs.YtngfknplljedeaaGreat
open Go.RowKit
theorem InBox.beside {T T' : TypeId} {p q : Nat} {cs ds : List Value} {c d : CA} {w : World} (h : InBox T p cs c w) (hq : InBox T' q ds d w) (hne : p ≠ q) (row : Array Value) : InBox T p cs c (w.setRow q row) := by
 obtain ⟨a1, n1, c1, a2, n2, c2, a3, n3, c3, a4, n4, c4, e⟩ := hq.at'.slices
 have hF : Frm (fun j => j = q) w (w.setRow q row) := ⟨rfl, rfl, rfl, by simp, fun j hj hn => Go.setRow_other _ _ j _ hn⟩
 exact ⟨h.st.setRow_other hne _, (h.at'.keep hq.st (by rw [e]; exact slices4) (Nat.le_refl _) hF).raise hF.size⟩
end Go.Proofs.YtngfknplljedeaaGreat
namespace Go.Proofs.YtngfknplljedeaaGreat
open Go.RowKit
theorem CAt.over {B : Nat} {T : TypeId} {p : Nat} {cs ds : List Value} {c d : CA} {w : World} (h : InBox T p cs c w) (hB : B ≤ w.heap.size) (hd : CAt B ds d w) (row : Array Value) : CAt B ds d (w.setRow p row) := by
 obtain ⟨a1, n1, c1, a2, n2, c2, a3, n3, c3, a4, n4, c4, e⟩ := h.at'.slices
 have hF : Frm (fun j => j = p) w (w.setRow p row) := ⟨rfl, rfl, rfl, by simp, fun j hj hn => Go.setRow_other _ _ j _ hn⟩
 exact hd.keep h.st (by rw [e]; exact slices4) hB hF
end Go.Proofs.YtngfknplljedeaaGreat
