/- Lemmas for the laws of index. -/
import Derived.Deep.AppendLies
import Derived.Deep.DeepMust
import Derived.Deep.MidRow
import Derived.Deep.RegionLaw
import Derived.Handy
import Derived.Lib.Hide
import Derived.Lib.SmallJoins
import Derived.Test.YtngfknplljedeaaGreatRows
import Derived.WalkLawsBesides
namespace Go.Proofs.YtngfknplljedeaaGreat
open Go.Joins Go.ChangeShapes Go.WideShapes Go.RowKit Go.Deep
theorem exists_list {α : Type} (n : Nat) (P : Nat → α → Prop) (h : ∀ i, i < n → ∃ x, P i x) : ∃ xs : List α, xs.length = n ∧ ∀ (i : Nat) (x : α), xs[i]? = some x → P i x := by
 induction n with
 | zero => exact ⟨[], rfl, fun i x hx => by simp at hx⟩
 | succ n ih =>
  obtain ⟨xs, hl, hx⟩ := ih fun i hi => h i (by omega)
  obtain ⟨y, hy⟩ := h n (by omega)
  refine ⟨xs ++ [y], by simp [hl], fun i x hi => ?_⟩
  by_cases hin : i < xs.length
  · rw [List.getElem?_append_left hin] at hi
    exact hx i x hi
  · have e : i = n := by
     have := (List.getElem?_eq_some_iff.1 hi).1
     simp at this
     omega
    subst e
    rw [List.getElem?_append_right (by omega), hl, Nat.sub_self] at hi
    simp at hi
    subst hi
    exact hy
end Go.Proofs.YtngfknplljedeaaGreat
namespace Go.Proofs.YtngfknplljedeaaGreat
open Go.Joins Go.ChangeShapes Go.WideShapes Go.RowKit Go.Deep
section
variable {H : Type} {enc : TypeId × Value → H} {P : Program} {w : World} {base : Nat} {held : Bool}
theorem cell_lt {w : World} {a : Addr} {v : Value} (h : w.cell? a = some v) : a.block < w.heap.size := World.block_lt_of_cell? w a h
theorem open_rows {t e : TypeId} {fuel k : Nat} {v : Value} {x : DataW H × List MemPlace} {R : List Value → Prop} (ht : P.underlying t = some (.slice e)) (hC : P.cellsOf e = k) (hk : 0 < k)
 (E : ∀ {fuel : Nat} {cs : List Value} {x : DataW H × List MemPlace}, DataW.trod enc P w base (fun _ => true) held fuel e cs = some x → R cs)
 (hv : ∃ a len cap, v = .slice a len cap) (h : DataW.trod enc P w base (fun _ => true) held fuel t v.cells.toList = some x) :
 ∃ (ao : Option Addr) (n cap b off : Nat), v = .slice ao n cap ∧ (n ≤ 9223372036854775807 ∧ (ao = none → cap = 0)) ∧ (0 < n → ao = some ⟨b, off, none⟩ ∧ b < w.heap.size) ∧
  ∀ i, i < n → ∃ cs : List Value, cs.length = k ∧ R cs ∧ ∀ j, j < k → w.cell? ⟨b, off + (i * k + j), none⟩ = cs[j]? := by
 obtain ⟨a0, len, cap, rfl⟩ := hv
 rcases open_slice ht h with ⟨hcs, _⟩ | ⟨a, len', cap', m, nf, D, Pl, hcs, hb, hl, hm, hmm, _, hi⟩
 · simp [Value.cells] at hcs
   obtain ⟨rfl, rfl, rfl⟩ := hcs
   exact ⟨none, 0, 0, 0, 0, rfl, ⟨by omega, fun _ => rfl⟩, fun h => by omega, fun i h => by omega⟩
 · simp [Value.cells] at hcs
   obtain ⟨rfl, rfl, rfl⟩ := hcs
   have hmc : m = cap := by simpa using hmm
   have hcell : ∀ i, i < len → ∃ cs : List Value, cs.length = k ∧ R cs ∧ ∀ j, j < k → w.cell? ((a.add (i * k)).add j) = cs[j]? := fun i hin => by
    obtain ⟨cs', hc, ht'⟩ := hi i (by omega)
    rw [hC] at hc
    obtain ⟨_, hcl, hat⟩ := World.cells?_some hc
    exact ⟨cs', hcl, E ht', hat⟩
   unfold maxLen at hm
   by_cases h0 : len = 0
   · subst h0
     exact ⟨some a, 0, cap, 0, 0, rfl, ⟨by omega, fun h => by cases h⟩, fun h => by omega, fun i h => by omega⟩
   · obtain ⟨b, off, spot⟩ := a
     obtain ⟨c0, hc0, _, hc1⟩ := hcell 0 (by omega)
     have h00 := hc1 0 hk
     rw [List.getElem?_eq_getElem (by omega)] at h00
     have hspot : spot = none := by
      have := World.cell?_spot h00
      simpa [Addr.add] using this
     subst hspot
     refine ⟨some ⟨b, off, none⟩, len, cap, b, off, rfl, ⟨by omega, fun h => by cases h⟩, fun _ => ⟨rfl, ?_⟩, fun i hin => ?_⟩
     · have := cell_lt h00
       simpa [Addr.add_mid] using this
     · obtain ⟨cs, hcl, hR, hcs⟩ := hcell i hin
       refine ⟨cs, hcl, hR, fun j hj => ?_⟩
       rw [← hcs j hj, Addr.add_mid, Addr.add_mid, Nat.add_assoc]
end
end Go.Proofs.YtngfknplljedeaaGreat
