/- Several texts in one: Ia. -/
import Derived.RangeFuncNested
import Derived.RangeFuncBound
import Derived.RangeFuncCalls
import Derived.RangeFuncLeaves
import Derived.RangeFuncBox
import Derived.Shelf.Abstract
import Derived.Shelf.RegionOpen
import Derived.OwnWalkIn
import Derived.TacticsInMore
import Derived.LoopNIn
import Derived.LoopIn
import Derived.Maps.AppendAt
import Derived.Test.YtikeckmbfgidhaaGreatDoorZy01
import Derived.Test.YtikeckmbfgidhaaGreatDoorZy03
/- A range over a function that may be left early: one law, over the steps of the machine. No function of the program is named here. -/
namespace Go.Proofs.YtikeckmbfgidhaaGreatDoor
open Go.RowKit Go.Shelf

/-- No block of before is another. -/
def None1 : Nat → Prop := fun _ => False
/-- The two blocks that a range over a function lays. -/
def Two1 (S : Nat) : Nat → Prop := fun j => j = S ∨ j = S + 1
theorem Frm.put2 (S : Nat) (W : World) (o : Obj) : Frm (Two1 S) W (W.putObj (S + 1) o) :=
  (Frm.refl _ W).grown (grownBy_putObj' W (S + 1) o) fun r e => by cases e; exact .inl (.inr rfl)
theorem Frm.none {G : Nat → Prop} {W W' : World} (h : Frm None1 W W') : Frm G W W' := h.wide fun _ e => e.elim

theorem range_stop {F : Fence} {n : Nat} {P : Program} {g : Operand} {ps : Array Tmp} {assign body : Code} {Q : Exit → Act → World → Prop} {a : Act} {w : World}
    (hro : F.round = none) (h1 : 1 ≤ n) {gf : Nat} {lb : Array Value} (hg : a.eval g = .func (.func gf) #[] lb) (hFg : F.fn gf) (eg : ∀ args w, (callFunc gf args).run P w = .ok (.enter gf args) w)
    (bx N : Nat) (hbx : bx < w.heap.size) (enc : Nat → Array Value) (hps : ∀ k, (enc k).size = ps.size)
    (I : Nat → World → Prop) (hI : ∀ k W W', I k W → Frm (Two1 w.heap.size) W W' → I k W') (Ix : World → Prop) (hIx : ∀ W W', Ix W → Frm (Two1 w.heap.size) W W' → Ix W') (h0 : I 0 w)
    (hiter : ∀ (l : Nat) (J : Nat → World → Prop) (Jx : World → Prop) (W : World), (∀ k W W', J k W → Frm None1 W W' → J k W') → (∀ W W', Jx W → Frm None1 W W' → Jx W') → Below w.heap.size w W →
      (∀ k W1, k < N → J k W1 → YieldAt F (n - 1 - 1) P l (enc k) W1 fun e W' => (e = .returned (.bool true) ∧ J (k + 1) W' ∧ W'.heap[bx]? = W1.heap[bx]?) ∨ (e = .returned (.bool false) ∧ Jx W')) → J 0 W →
      CallsIn F (n - 1) P gf (#[.func (.yield l) #[] #[]] ++ lb) W fun e W' => (∃ v, e = .returned v) ∧ (J N W' ∨ Jx W'))
    (aa : Nat → Act)
    (hassign : ∀ (l k : Nat) (W : World) (K : Act → World → Prop), K (aa k) W →
      assign.wpIn (F.inRound l) (n - 1 - 1) P (Exit.then K (fun _ _ _ => False)) { tmps := (ps.zip (enc k)).foldl (fun t (p, v) => t.setIfInBounds p v) a.tmps, defers := [] } W)
    (hbody : ∀ (l k : Nat) (W2 : World), k < N → w.heap.size + 2 ≤ W2.heap.size → I k W2 →
      body.wpIn (F.inRound l) (n - 1 - 1) P (fun e _ W3 => W3.heap[w.heap.size]? = W2.heap[w.heap.size]? ∧ W3.heap[w.heap.size + 1]? = W2.heap[w.heap.size + 1]? ∧ ((e = .normal ∧ W3.heap[bx]? = W2.heap[bx]? ∧ I (k + 1) W3) ∨ (e = .ret ∧ Ix W3))) (aa k) W2)
    (hdone : ∀ (W : World), I N W → W.heap[w.heap.size]? = some (.deferred (some [])) → w.heap.size + 2 ≤ W.heap.size → Q .normal { a with defers := { target := .collected w.heap.size, args := #[] } :: a.defers } W)
    (hstop : ∀ (W : World), Ix W → W.heap[w.heap.size]? = some (.deferred (some [])) → w.heap.size + 2 ≤ W.heap.size → Code.ret.wpIn F n P Q { a with defers := { target := .collected w.heap.size, args := #[] } :: a.defers } W) :
    (Code.rangeFunc g ps assign body).wpIn F n P Q a w := by
  refine wpIn_rangeFunc fun fn hfn => ?_
  rw [hro]
  obtain ⟨rec, hrec⟩ : ∃ rec : LoopState → Option Code → Loop, rec = fun st pe => { state := st, pending := pe, fn := fn, tmps := a.tmps, params := ps, assign := assign, body := body, defers := w.heap.size } := ⟨_, rfl⟩
  obtain ⟨V, hV⟩ : ∃ V, (w.alloc (.deferred (some []))).alloc (.loop (rec .ready none)) = V := ⟨_, rfl⟩
  have hL : V.heap[w.heap.size + 1]? = some (.loop (rec .ready none)) := by
    rw [← hV]
    have h := heap_alloc_new (w.alloc (.deferred (some []))) (.loop (rec .ready none))
    rwa [World.size_alloc] at h
  have hD : V.heap[w.heap.size]? = some (.deferred (some [])) := by rw [← hV]; exact (Below.heap_alloc _ _ _ (by simp)).trans (heap_alloc_new w _)
  have hb : Below w.heap.size w V := by rw [← hV]; exact ((Below.refl _ w).alloc (Nat.le_refl _) _).alloc (by simp) _
  have hI0 : I 0 V := by rw [← hV]; exact hI 0 _ _ h0 (((Frm.refl _ w).alloc _).alloc _)
  refine ⟨w.heap.size + 1, [{ target := .collected w.heap.size, args := #[] }], V, { target := .fn (.func gf) lb, args := #[.func (.yield (w.heap.size + 1)) #[] #[]] }, V, gf, #[.func (.yield (w.heap.size + 1)) #[] #[]] ++ lb, V, ?_, ?_, ?_, ?_, fun _ => h1, ?_⟩
  · rw [← hV, hrec]; exact run_enterLoop_outer _ _ _ _ _
  · simp only [resolve, hg]
    simp [go_sem]
  · intro f' hf'
    simp [Target.leads] at hf'
    subst hf'
    exact hFg
  · simp [invoke, go_sem, eg]
  refine (hiter (w.heap.size + 1) (fun k W => I k W ∧ W.heap[w.heap.size + 1]? = some (.loop (rec .ready none)) ∧ W.heap[w.heap.size]? = some (.deferred (some [])))
    (fun W => Ix W ∧ W.heap[w.heap.size + 1]? = some (.loop (rec .done (some .ret))) ∧ W.heap[w.heap.size]? = some (.deferred (some []))) V ?_ ?_ hb ?_ ⟨hI0, hL, hD⟩).mono ?_
  · rintro k W W' ⟨q1, q2, q3⟩ f
    exact ⟨hI k W W' q1 f.none, f.st q2 id, f.st q3 id⟩
  · rintro W W' ⟨q1, q2, q3⟩ f
    exact ⟨hIx W W' q1 f.none, f.st q2 id, f.st q3 id⟩
  · rintro k W hk ⟨q1, q2, q3⟩
    have hy := run_yield (P := P) (args := enc k) q2 (by rw [hrec]; exact hps k)
    have hlW := (Array.getElem?_eq_some_iff.1 q2).1
    have hbr := run_beginRound (P := P) q2 (by rw [hrec])
    obtain ⟨W2, hW2⟩ : ∃ W2, W.putObj (w.heap.size + 1) (.loop (rec .busy none)) = W2 := ⟨_, rfl⟩
    have hbr2 : (Instr.beginRound (w.heap.size + 1)).run P W = .ok () W2 := by rw [← hW2]; rw [hrec] at hbr ⊢; exact hbr
    have l2 : W2.heap[w.heap.size + 1]? = some (.loop (rec .busy none)) := by rw [← hW2]; exact World.putObj_heap_same hlW
    have d2 : W2.heap[w.heap.size]? = some (.deferred (some [])) := by rw [← hW2]; exact (World.putObj_heap_other (by omega)).trans q3
    have i2 : I k W2 := by rw [← hW2]; exact hI k _ _ q1 (Frm.put2 _ _ _)
    have k2 : W2.heap[bx]? = W.heap[bx]? := by rw [← hW2]; exact World.putObj_heap_other (by omega)
    have s2 : w.heap.size + 2 ≤ W2.heap.size := by rw [← hW2, World.putObj_size]; omega
    rw [hrec] at hy
    refine ⟨fn, _, assign, body, hy, roundIn_of_wpIn hfn (hassign (w.heap.size + 1) k W _ ⟨W2, hbr2, wpIn_mono (hbody (w.heap.size + 1) k W2 hk s2 i2) ?_⟩)⟩
    rintro e a3 W3 ⟨e1, e2, h3⟩
    have l3 := e2.trans l2
    have d3 := e1.trans d2
    have hl3 := (Array.getElem?_eq_some_iff.1 l3).1
    rcases h3 with ⟨rfl, kk3, i3⟩ | ⟨rfl, i3⟩
    · have hend := run_endRound (P := P) none l3
      refine ⟨.bool true, _, hend, .inl ⟨rfl, ⟨hI _ _ _ i3 (Frm.put2 _ _ _), ?_, (World.putObj_heap_other (by omega)).trans d3⟩, (World.putObj_heap_other (by omega)).trans (kk3.trans k2)⟩⟩
      rw [World.putObj_heap_same hl3, hrec]
      rfl
    · have hend := run_endRound (P := P) (some .ret) l3
      refine ⟨.bool false, _, hend, .inr ⟨rfl, hIx _ _ i3 (Frm.put2 _ _ _), ?_, (World.putObj_heap_other (by omega)).trans d3⟩⟩
      rw [World.putObj_heap_same hl3, hrec]
      rfl
  · rintro e W3 ⟨⟨v, rfl⟩, ⟨i3, l3, d3⟩ | ⟨i3, l3, d3⟩⟩
    · have hl3 := (Array.getElem?_eq_some_iff.1 l3).1
      exact ⟨none, _, by have h := run_endLoop (P := P) l3 (by rw [hrec]; simp); rw [hrec] at h; exact h, hdone _ (hI _ _ _ i3 (Frm.put2 _ _ _)) ((World.putObj_heap_other (by omega)).trans d3) (by rw [World.putObj_size]; omega)⟩
    · have hl3 := (Array.getElem?_eq_some_iff.1 l3).1
      exact ⟨some .ret, _, by have h := run_endLoop (P := P) l3 (by rw [hrec]; simp); rw [hrec] at h; exact h, hstop _ (hIx _ _ i3 (Frm.put2 _ _ _)) ((World.putObj_heap_other (by omega)).trans d3) (by rw [World.putObj_size]; omega)⟩
end Go.Proofs.YtikeckmbfgidhaaGreatDoor
