/- Calls: the reference's Large. -/
import Derived.Test.YtdjnadgcjmlejaaDoorCg
namespace Go.Proofs.YtdjnadgcjmlejaaDoor
open Go.RowKit

def Cl.large (c : Cl) : Bool := decide ((c.fh.size : Int) > 80) || (decide ((c.fh2.size : Int) > 80) || (decide ((c.name.size : Int) > 300) || (decide ((c.name2.size : Int) > 300) || (decide ((c.text.size : Int) > 300) || decide ((c.data.size : Int) > 300)))))
theorem Cl.small_of {c : Cl} (h : c.large = false) : c.small := by
  simp only [Cl.large, Bool.or_eq_false_iff, decide_eq_false_iff_not] at h
  obtain ⟨h1, h2, h3, h4, h5, h6⟩ := h
  exact ⟨by omega, by omega, by omega, by omega, by omega, by omega⟩
set_option maxRecDepth 100000 in
set_option maxHeartbeats 2000000 in
theorem cfLarge_any (c : Cl) (w : World) : Calls Tryd.prog 12 #[.agg c.arr] w fun e w' => e = .returned (.bool c.large) ∧ Below w.heap.size w w' := by
  unfold Cl.large
  have st := St.new w 30 c.arr
  have c1 : (w.alloc (.cells c.arr 30 (0, 0))).cell? ⟨w.heap.size, 1, none⟩ = some (.string c.fh) := st.cell rfl
  have c3 : (w.alloc (.cells c.arr 30 (0, 0))).cell? ⟨w.heap.size, 3, none⟩ = some (.string c.fh2) := st.cell rfl
  have c2 : (w.alloc (.cells c.arr 30 (0, 0))).cell? ⟨w.heap.size, 2, none⟩ = some (.string c.name) := st.cell rfl
  have c4 : (w.alloc (.cells c.arr 30 (0, 0))).cell? ⟨w.heap.size, 4, none⟩ = some (.string c.name2) := st.cell rfl
  have c23 : (w.alloc (.cells c.arr 30 (0, 0))).cell? ⟨w.heap.size, 23, none⟩ = some (.string c.text) := st.cell rfl
  have c8 : (w.alloc (.cells c.arr 30 (0, 0))).cell? ⟨w.heap.size, 8, none⟩ = some (.string c.data) := st.cell rfl
  obtain ⟨x1, h1⟩ : ∃ b, b = c.fh := ⟨_, rfl⟩
  rw [← h1] at c1 ⊢
  clear h1
  obtain ⟨x3, h3⟩ : ∃ b, b = c.fh2 := ⟨_, rfl⟩
  rw [← h3] at c3 ⊢
  clear h3
  obtain ⟨x2, h2⟩ : ∃ b, b = c.name := ⟨_, rfl⟩
  rw [← h2] at c2 ⊢
  clear h2
  obtain ⟨x4, h4⟩ : ∃ b, b = c.name2 := ⟨_, rfl⟩
  rw [← h4] at c4 ⊢
  clear h4
  obtain ⟨x23, h23⟩ : ∃ b, b = c.text := ⟨_, rfl⟩
  rw [← h23] at c23 ⊢
  clear h23
  obtain ⟨x8, h8⟩ : ∃ b, b = c.data := ⟨_, rfl⟩
  rw [← h8] at c8 ⊢
  clear h8
  obtain ⟨cs, hcs⟩ : ∃ cs, cs = c.arr := ⟨_, rfl⟩
  rw [← hcs] at st c1 c3 c2 c4 c23 c8 ⊢
  clear hcs st
  cases d1 : decide ((x1.size : Int) > 80)
  · rw [Bool.false_or]
    cases d3 : decide ((x3.size : Int) > 80)
    · rw [Bool.false_or]
      cases d2 : decide ((x2.size : Int) > 300)
      · rw [Bool.false_or]
        cases d4 : decide ((x4.size : Int) > 300)
        · rw [Bool.false_or]
          cases d23 : decide ((x23.size : Int) > 300)
          · rw [Bool.false_or]
            cases d8 : decide ((x8.size : Int) > 300)
            · go_enter Tryd.func12, Tryd.ntmps12
              go_wp2_with fail
              go_ret
              exact ⟨rfl, below_alloc1 _ _⟩
            · go_enter Tryd.func12, Tryd.ntmps12
              go_wp2_with fail
              go_ret
              exact ⟨rfl, below_alloc1 _ _⟩
          · rw [Bool.true_or]
            go_enter Tryd.func12, Tryd.ntmps12
            go_wp2_with fail
            go_ret
            exact ⟨rfl, below_alloc1 _ _⟩
        · rw [Bool.true_or]
          go_enter Tryd.func12, Tryd.ntmps12
          go_wp2_with fail
          go_ret
          exact ⟨rfl, below_alloc1 _ _⟩
      · rw [Bool.true_or]
        go_enter Tryd.func12, Tryd.ntmps12
        go_wp2_with fail
        go_ret
        exact ⟨rfl, below_alloc1 _ _⟩
    · rw [Bool.true_or]
      go_enter Tryd.func12, Tryd.ntmps12
      go_wp2_with fail
      go_ret
      exact ⟨rfl, below_alloc1 _ _⟩
  · rw [Bool.true_or]
    go_enter Tryd.func12, Tryd.ntmps12
    go_wp2_with fail
    go_ret
    exact ⟨rfl, below_alloc1 _ _⟩
end Go.Proofs.YtdjnadgcjmlejaaDoor
