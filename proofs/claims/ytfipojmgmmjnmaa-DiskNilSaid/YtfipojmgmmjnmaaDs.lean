/- The law of any steps on a disk: its loop. -/
import Derived.Test.YtfipojmgmmjnmaaDr
import Derived.Test.YtfipojmgmmjnmaaCw
import Derived.Test.YtfipojmgmmjnmaaEq
namespace Go.Proofs.Ytfipojmgmmjnmaa
open Go.RowKit

theorem Ints.below {B : Nat} {v : Value} {xs : List Int} {w w' : World} (h : Ints (fun j => j < B) v xs w) (hb : Below B w w') : Ints (fun j => j < B) v xs w' := by
  obtain ⟨ao, cap, b, off, e1, e2, e3, e4⟩ := h
  refine ⟨ao, cap, b, off, e1, e2, fun hl => ⟨(e3 hl).1, Nat.lt_of_lt_of_le (e3 hl).2.1 hb.size, (e3 hl).2.2⟩, fun i x hx => ?_⟩
  have hl : 0 < xs.length := by have := (List.getElem?_eq_some_iff.1 hx).1; omega
  exact (hb.cell (p := ⟨b, off + i, none⟩) (e3 hl).2.2).trans (e4 i x hx)
/-- A step among steps, as it is loaded. -/
theorem steps_at {w : World} {ao : Option Addr} {n cap : Nat} {xs : List Sp} (h : Steps w.heap.size (.slice ao n cap) xs w) : n = xs.length ∧ n ≤ 9223372036854775807 ∧ ∃ b off, ∀ k, k < n → ∃ (x : Sp) (kv : Value), xs[k]? = some x ∧ ao = some ⟨b, off, none⟩ ∧ x.num ∧
    ∀ W, Below w.heap.size w W → W.rangeAt b (off + k * 4) (spcells x kv).toList ∧ Ints (fun j => j < w.heap.size) kv x.keep W := by
  obtain ⟨ao2, cap2, b, off, e1, hl, hao, hx⟩ := h
  injection e1 with e1 e2 e3
  subst e1 e2
  refine ⟨rfl, hl, b, off, fun k hk => ?_⟩
  obtain ⟨x, hxk⟩ : ∃ x, xs[k]? = some x := ⟨_, List.getElem?_eq_getElem (by omega)⟩
  obtain ⟨hn, kv, c0, c1, c2, c3, hi⟩ := hx k x hxk
  have hb := (hao (by omega)).2
  refine ⟨x, kv, hxk, (hao (by omega)).1, hn, fun W hW => ⟨fun j v hv => ?_, hi.below hW⟩⟩
  have hj : j < 4 := (List.getElem?_eq_some_iff.1 hv).1
  refine (hW.cell (p := ⟨b, off + k * 4 + j, none⟩) hb).trans ?_
  match j, hj with
  | 0, _ => simp only [spcells, List.getElem?_cons_zero, Option.some.injEq] at hv; subst hv; exact c0
  | 1, _ => simp only [spcells, List.getElem?_cons_zero, List.getElem?_cons_succ, Option.some.injEq] at hv; subst hv; exact c1
  | 2, _ => simp only [spcells, List.getElem?_cons_zero, List.getElem?_cons_succ, Option.some.injEq] at hv; subst hv; exact c2
  | 3, _ => simp only [spcells, List.getElem?_cons_zero, List.getElem?_cons_succ, Option.some.injEq] at hv; subst hv; exact c3

theorem DS.step_grow (D : DS) (x : Sp) : (D.step x).2.wait.length ≤ D.wait.length + 1 ∧ (D.step x).2.wr ≤ D.wr + 1 ∧ (D.step x).2.br ≤ D.br + 1 ∧ (D.step x).2.kept.length = D.kept.length := by
  have hb := D.burnt_eqs
  unfold DS.step
  split
  · show (D.write x.i x.s).2.wait.length ≤ _ ∧ (D.write x.i x.s).2.wr ≤ _ ∧ (D.write x.i x.s).2.br ≤ _ ∧ (D.write x.i x.s).2.kept.length = _
    unfold DS.write
    split
    · exact ⟨by simp, by simp, by simp, rfl⟩
    · split
      · exact ⟨by simp, by simp, by simp, rfl⟩
      · split
        · exact ⟨by simp, by simp, by simp, rfl⟩
        · split
          · exact ⟨by show D.burnt.wait.length ≤ _; rw [hb.1]; omega, by show D.burnt.wr ≤ _; rw [hb.2.1]; omega, by show D.burnt.br ≤ _; rw [hb.2.2.2]; omega, by show D.burnt.kept.length = _; rw [hb.2.2.1]⟩
          · exact ⟨by simp, by simp, by show D.burnt.br ≤ _; rw [hb.2.2.2]; omega, by show D.burnt.kept.length = _; rw [hb.2.2.1]⟩
  · split
    · show D.barrier.2.wait.length ≤ _ ∧ D.barrier.2.wr ≤ _ ∧ D.barrier.2.br ≤ _ ∧ D.barrier.2.kept.length = _
      unfold DS.barrier
      split
      · exact ⟨by simp, by simp, by simp, rfl⟩
      · split
        · exact ⟨by show D.burnt.wait.length ≤ _; rw [hb.1]; omega, by show D.burnt.wr ≤ _; rw [hb.2.1]; omega, by show D.burnt.br ≤ _; rw [hb.2.2.2]; omega, by show D.burnt.kept.length = _; rw [hb.2.2.1]⟩
        · exact ⟨by simp, by show D.burnt.wr ≤ _; rw [hb.2.1]; omega, by simp, by show (keepAll D.kept D.wait).length = _; rw [keepAll_length]⟩
    · split
      · show (D.arm x.i).2.wait.length ≤ _ ∧ (D.arm x.i).2.wr ≤ _ ∧ (D.arm x.i).2.br ≤ _ ∧ (D.arm x.i).2.kept.length = _
        unfold DS.arm
        split <;> exact ⟨by simp, by simp, by simp, rfl⟩
      · split
        · exact ⟨by simp [DS.crash], by simp [DS.crash], by simp [DS.crash], by simp [DS.crash, keepAll_length]⟩
        · exact ⟨by simp, by simp, by simp, rfl⟩

/-- Both disks have one state, apart from each other. -/
structure Both (W0 W1 : World) (p q k n : Nat) (wr : World) : Prop where
  ex : ∃ (D : DS) (F G : Nat → Prop), PD W0.heap.size p F D wr ∧ RD W1.heap.size q G D wr ∧ (∀ j, F j → ¬ G j) ∧ D.wait.length ≤ k ∧ D.wr ≤ k ∧ D.br ≤ k ∧ D.kept.length = n
  b0 : Below W0.heap.size W0 wr
  b1 : W1.heap.size ≤ wr.heap.size
  le : W0.heap.size ≤ W1.heap.size

/-- A step of the program's disk. -/
theorem Both.step {W0 W1 : World} {p q k n : Nat} {wr : World} (h : Both W0 W1 p q k n wr) (hk : k ≤ 1000000) (x : Sp) (kv : Value) (hx : x.num) (hks : x.keep.length ≤ 1073741824) (hv : Ints (fun j => j < W0.heap.size) kv x.keep wr) :
    ∃ (r : ByteArray) (e : Int), Calls Try.prog 14 #[.pointer (some ⟨p, 0, none⟩), .agg (spcells x kv)] wr fun a w2 => a = .returned (.tuple #[.string r, .int .i64 e]) ∧ Below W0.heap.size W0 w2 ∧
      Calls Try.prog 15 #[.pointer (some ⟨q, 0, none⟩), .agg (spcells x kv)] w2 fun a w3 => a = .returned (.tuple #[.string r, .int .i64 e]) ∧ Both W0 W1 p q (k + 1) n w3 := by
  obtain ⟨⟨D, F, G, hp, hq, hd, l1, l2, l3, l4⟩, b0, b1, le⟩ := h
  refine ⟨(D.step x).1.1, (D.step x).1.2, (dkdo_any W0.heap.size p F kv D x wr b0.size hx.2.1.2 hks (by omega) (by omega) (by omega) (hv.imp fun j hj e => by have := hp.inF j e; omega) hp).mono ?_⟩
  rintro a w2 ⟨rfl, h2, f2⟩
  have hqF : ∀ j, G j → W1.heap.size ≤ j ∧ j < wr.heap.size := by obtain ⟨_, _, _, g, _⟩ := hq; exact g
  have b2 : Below W0.heap.size W0 w2 := b0.trans (f2.below b0.size fun j hj => (hp.inF j hj).1)
  have q2 : RD W1.heap.size q G D w2 := hq.keep f2 fun j hj hf => hd j hf hj
  have v2 : Ints (fun j => j < W0.heap.size) kv x.keep w2 := hv.frm f2 fun j hj hf => by have := hp.inF j hf; omega
  refine ⟨rfl, b2, (dkDo_any W1.heap.size q G kv D x w2 (Nat.le_trans b1 f2.size) hx.2.1.2 (by omega) (by omega) (by omega) (v2.imp fun j hj e => by have := hqF j e; omega) q2).mono ?_⟩
  rintro a w3 ⟨rfl, h3, f3⟩
  obtain ⟨g1, g2, g3, g4⟩ := D.step_grow x
  have hs2 := f2.size
  have hs3 := f3.size
  refine ⟨rfl, ⟨⟨(D.step x).2, Grow F wr w2, Grow G w2 w3, h2.keep f3 fun j hj hg => ?_, h3, fun j hj hg => ?_, by omega, by omega, by omega, by omega⟩, b2.trans (f3.below (by have := b2.size; omega) fun j hj => by have := hqF j hj; omega), by omega, le⟩⟩
  · rcases hj with hj | hj
    · exact hd j hj hg
    · have := hqF j hg; omega
  · rcases hj with hj | hj
    · rcases hg with hg | hg
      · exact hd j hj hg
      · have := hp.inF j hj; omega
    · rcases hg with hg | hg
      · have := hqF j hg; omega
      · omega
theorem Both.drewN {W0 W1 : World} {p q k n : Nat} {wr : World} (h : Both W0 W1 p q k n wr) (d : Nat) : Both W0 W1 p q k n (wr.drewN d) := by
  obtain ⟨⟨D, F, G, hp, hq, r⟩, b0, b1, le⟩ := h
  exact ⟨⟨D, F, G, hp.drewN d, hq.drewN d, r⟩, below_drewN b0 d, b1, le⟩
end Go.Proofs.Ytfipojmgmmjnmaa
