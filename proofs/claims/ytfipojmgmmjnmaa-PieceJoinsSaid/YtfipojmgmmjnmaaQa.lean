/- A range over a function whose iterator writes a variable of its own between two rounds: one law, over the steps of the machine. No function of the program is named here. -/
import Derived.Test.YtfipojmgmmjnmaaCw
import Derived.RangeFuncNested
import Derived.RangeFuncBound
import Derived.RangeFuncCalls
import Derived.RangeFuncLeaves
import Derived.RangeFuncBox
import Derived.Shelf.Abstract
import Derived.Shelf.RegionOpen
import Derived.OwnWalkIn
import Derived.TacticsInMore
import Derived.LoopNIn
import Derived.LoopIn
import Derived.Maps.AppendAt
namespace Go.Proofs.Ytfipojmgmmjnmaa
open Go.RowKit Go.Shelf

/-- It stays, whatever is new, and whatever becomes of these blocks. -/
def Abides (ok : Nat → Prop) (J : Nat → World → Prop) : Prop := ∀ k W W' row, J k W → W.grownBy W' row → (∀ r, row = some r → ok r) → J k W'
/-- It stays, whatever is new, and whatever becomes of the box, and of blocks from B on that are no cells. -/
def AbidesIn (bx B : Nat) (J : Nat → World → Prop) : Prop := ∀ k W W' row, J k W → W.grownBy W' row → (∀ r, row = some r → r = bx ∨ (B ≤ r ∧ ∃ o : Obj, W.heap[r]? = some o ∧ o.isCells = false)) → J k W'
/-- These two blocks are as they were. -/
def Keep2 (bx bs : Nat) (W W' : World) : Prop := W'.heap[bx]? = W.heap[bx]? ∧ W'.heap[bs]? = W.heap[bs]?
theorem Keep2.trans {bx bs : Nat} {A B C : World} (h : Keep2 bx bs A B) (k : Keep2 bx bs B C) : Keep2 bx bs A C := ⟨k.1.trans h.1, k.2.trans h.2⟩
theorem Keep2.put {bx bs : Nat} (W : World) (l : Nat) (o : Obj) (h1 : bx ≠ l) (h2 : bs ≠ l) : Keep2 bx bs W (W.putObj l o) := ⟨World.putObj_heap_other h1, World.putObj_heap_other h2⟩
theorem AbidesIn.put {bx B : Nat} {J : Nat → World → Prop} (h : AbidesIn bx B J) {k : Nat} {W : World} {l : Nat} {o : Obj} (o' : Obj) (hJ : J k W) (hB : B ≤ l) (hl : W.heap[l]? = some o) (ho : o.isCells = false) : J k (W.putObj l o') :=
  h k W _ (some l) hJ (grownBy_putObj' W l o') fun r e => by cases e; exact .inr ⟨hB, o, hl, ho⟩
theorem AbidesIn.alloc {bx B : Nat} {J : Nat → World → Prop} (h : AbidesIn bx B J) {k : Nat} {W : World} (o : Obj) (hJ : J k W) : J k (W.alloc o) :=
  h k W _ none hJ (World.grownBy_alloc W o none) fun r e => by cases e

theorem range_box {F : Fence} {n : Nat} {P : Program} {g : Operand} {ps : Array Tmp} {assign body : Code} {Q : Exit → Act → World → Prop} {a : Act} {w : World}
    (hro : F.round = none) (h1 : 1 ≤ n) {gf : Nat} {lb : Array Value} (hg : a.eval g = .func (.func gf) #[] lb) (hFg : F.fn gf) (eg : ∀ args w, (callFunc gf args).run P w = .ok (.enter gf args) w)
    (bx bs N : Nat) (hbx : bx < w.heap.size) (hbs : bs < w.heap.size) (enc : Nat → Array Value) (hps : ∀ k, (enc k).size = ps.size)
    (I : Nat → World → Prop) (hI : AbidesIn bx w.heap.size I) (h0 : I 0 w)
    (hiter : ∀ (l : Nat) (J : Nat → World → Prop) (W : World), Abides (fun r => r = bx) J → Below w.heap.size w W →
      (∀ k W1, k < N → J k W1 → YieldAt F (n - 1 - 1) P l (enc k) W1 fun e W' => e = .returned (.bool true) ∧ J (k + 1) W' ∧ Keep2 bx bs W1 W') → J 0 W →
      CallsIn F (n - 1) P gf (#[.func (.yield l) #[] #[]] ++ lb) W fun e W' => (∃ v, e = .returned v) ∧ J N W')
    (aa : Nat → World → Act) (oo : Nat → Obj)
    (hassign : ∀ (l k : Nat) (W : World) (K : Act → World → Prop), K (aa k W) (W.alloc (oo k)) →
      assign.wpIn (F.inRound l) (n - 1 - 1) P (Exit.then K (fun _ _ _ => False)) { tmps := (ps.zip (enc k)).foldl (fun t (p, v) => t.setIfInBounds p v) a.tmps, defers := [] } W)
    (hbody : ∀ (l k : Nat) (W W2 : World), k < N → w.heap.size ≤ W.heap.size → I k W2 → W2.heap[W.heap.size]? = some (oo k) → w.heap.size ≤ W2.heap.size →
      body.wpIn (F.inRound l) (n - 1 - 1) P (fun e _ W3 => e = .normal ∧ KeepsOthers W2 W3 ∧ Keep2 bx bs W2 W3 ∧ I (k + 1) W3) (aa k W) W2)
    (hdone : ∀ (D : Nat) (W : World), w.heap.size ≤ D → I N W → W.heap[D]? = some (.deferred (some [])) → Q .normal { a with defers := { target := .collected D, args := #[] } :: a.defers } W) :
    (Code.rangeFunc g ps assign body).wpIn F n P Q a w := by
  refine wpIn_rangeFunc fun fn hfn => ?_
  rw [hro]
  obtain ⟨rec, hrec⟩ : ∃ rec : LoopState → Loop, rec = fun st => { state := st, pending := none, fn := fn, tmps := a.tmps, params := ps, assign := assign, body := body, defers := w.heap.size } := ⟨_, rfl⟩
  obtain ⟨V, hV⟩ : ∃ V, (w.alloc (.deferred (some []))).alloc (.loop (rec .ready)) = V := ⟨_, rfl⟩
  have hL : V.heap[w.heap.size + 1]? = some (.loop (rec .ready)) := by
    rw [← hV]
    have h := heap_alloc_new (w.alloc (.deferred (some []))) (.loop (rec .ready))
    rwa [World.size_alloc] at h
  have hD : V.heap[w.heap.size]? = some (.deferred (some [])) := by rw [← hV]; exact (Below.heap_alloc _ _ _ (by simp)).trans (heap_alloc_new w _)
  have hb : Below w.heap.size w V := by rw [← hV]; exact ((Below.refl _ w).alloc (Nat.le_refl _) _).alloc (by simp) _
  refine ⟨w.heap.size + 1, [{ target := .collected w.heap.size, args := #[] }], V, { target := .fn (.func gf) lb, args := #[.func (.yield (w.heap.size + 1)) #[] #[]] }, V, gf, #[.func (.yield (w.heap.size + 1)) #[] #[]] ++ lb, V, ?_, ?_, ?_, ?_, fun _ => h1, ?_⟩
  · rw [← hV, hrec]; exact run_enterLoop_outer _ _ _ _ _
  · simp only [resolve, hg]
    simp [go_sem]
  · intro f' hf'
    simp [Target.leads] at hf'
    subst hf'
    exact hFg
  · simp [invoke, go_sem, eg]
  obtain ⟨l, hl⟩ : ∃ l, l = w.heap.size + 1 := ⟨_, rfl⟩
  rw [← hl] at hL ⊢
  have hcl : ∀ st, (Obj.loop (rec st)).isCells = false := fun _ => rfl
  refine (hiter l (fun k W => I k W ∧ W.heap[l]? = some (.loop (rec .ready)) ∧ W.heap[w.heap.size]? = some (.deferred (some [])) ∧ w.heap.size ≤ W.heap.size) V ?_ hb ?_ ⟨?_, hL, hD, hb.size⟩).mono ?_
  · rintro k W W' row ⟨q1, q2, q3, q4⟩ hgr hr
    refine ⟨hI k W W' row q1 hgr fun r e => .inl (hr r e), (hgr.block l (Array.getElem?_eq_some_iff.1 q2).1 fun e => ?_).trans q2, (hgr.block _ (Array.getElem?_eq_some_iff.1 q3).1 fun e => ?_).trans q3, Nat.le_trans q4 hgr.size⟩
    · have := hr l e.symm; omega
    · have := hr _ e.symm; omega
  · rintro k W hk ⟨q1, q2, q3, q4⟩
    have hy := run_yield (P := P) (args := enc k) q2 (by rw [hrec]; exact hps k)
    have hlW := (Array.getElem?_eq_some_iff.1 q2).1
    have q2' : (W.alloc (oo k)).heap[l]? = some (.loop (rec .ready)) := (Below.heap_alloc _ _ _ hlW).trans q2
    have q3' : (W.alloc (oo k)).heap[w.heap.size]? = some (.deferred (some [])) := (Below.heap_alloc _ _ _ (Array.getElem?_eq_some_iff.1 q3).1).trans q3
    have hbr := run_beginRound (P := P) q2' (by rw [hrec])
    obtain ⟨W2, hW2⟩ : ∃ W2, (W.alloc (oo k)).putObj l (.loop (rec .busy)) = W2 := ⟨_, rfl⟩
    have hbr2 : (Instr.beginRound l).run P (W.alloc (oo k)) = .ok () W2 := by rw [← hW2]; rw [hrec] at hbr ⊢; exact hbr
    have l2 : W2.heap[l]? = some (.loop (rec .busy)) := by rw [← hW2]; exact World.putObj_heap_same (Array.getElem?_eq_some_iff.1 q2').1
    have d2 : W2.heap[w.heap.size]? = some (.deferred (some [])) := by rw [← hW2]; exact (World.putObj_heap_other (by omega)).trans q3'
    have o2 : W2.heap[W.heap.size]? = some (oo k) := by rw [← hW2]; exact (World.putObj_heap_other (by omega)).trans (heap_alloc_new W _)
    have i2 : I k W2 := by rw [← hW2]; exact hI.put _ (hI.alloc _ q1) (by omega) q2' (hcl _)
    have k2 : Keep2 bx bs W W2 := by
      rw [← hW2]
      exact Keep2.trans ⟨Below.heap_alloc _ _ _ (by omega), Below.heap_alloc _ _ _ (by omega)⟩ (Keep2.put _ _ _ (by omega) (by omega))
    have s2 : w.heap.size ≤ W2.heap.size := Nat.le_of_lt (Nat.lt_of_le_of_lt q4 (Array.getElem?_eq_some_iff.1 o2).1)
    rw [hrec] at hy
    refine ⟨fn, _, assign, body, hy, roundIn_of_wpIn hfn (hassign l k W _ ⟨W2, hbr2, wpIn_mono (hbody l k W W2 hk q4 i2 o2 s2) ?_⟩)⟩
    rintro e a3 W3 ⟨rfl, k3, kk3, i3⟩
    have l3 := k3.same _ _ l2 rfl
    have d3 := k3.same _ _ d2 rfl
    have hend := run_endRound (P := P) none l3
    refine ⟨.bool true, _, hend, rfl, ⟨hI.put _ i3 (by omega) l3 rfl, ?_, (World.putObj_heap_other (by omega)).trans d3, ?_⟩, (k2.trans kk3).trans (Keep2.put _ _ _ (by omega) (by omega))⟩
    · rw [World.putObj_heap_same (Array.getElem?_eq_some_iff.1 l3).1, hrec]
      rfl
    · rw [World.putObj_size]
      exact Nat.le_trans s2 k3.size
  · rw [← hV]
    exact hI.alloc _ (hI.alloc _ h0)
  · rintro e W3 ⟨⟨v, rfl⟩, i3, l3, d3, s3⟩
    exact ⟨none, _, by have h := run_endLoop (P := P) l3 (by rw [hrec]; simp); rw [hrec] at h; exact h, hdone _ _ (Nat.le_refl _) (hI.put _ i3 (by omega) l3 rfl) ((World.putObj_heap_other (by omega)).trans d3)⟩
end Go.Proofs.Ytfipojmgmmjnmaa
