/- What a disk keeps: the law's calls, one by one. -/
import Derived.Test.YtfipojmgmmjnmaaDw
namespace Go.Proofs.Ytfipojmgmmjnmaa
open Go.RowKit

theorem StrsIn.imp {ok ok' : Nat → Prop} {v : Value} {xs : List ByteArray} {a : World} (h : StrsIn ok v xs a) (hf : ∀ j, j < a.heap.size → ok j → ok' j) : StrsIn ok' v xs a := by
  obtain ⟨ao, cap, bb, off, e1, e2, e3, e4⟩ := h
  exact ⟨ao, cap, bb, off, e1, e2, fun hl => ⟨(e3 hl).1, (e3 hl).2.1, hf _ (e3 hl).2.1 (e3 hl).2.2⟩, e4⟩
/-- Behind some steps. -/
structure K1 (W0 : World) (p k : Nat) (wr : World) : Prop where
  ex : ∃ (D : DS) (F : Nat → Prop), PD W0.heap.size p F D wr ∧ D.wait.length ≤ k ∧ D.wr ≤ k ∧ D.br ≤ k ∧ D.kept.length = 8
  b0 : Below W0.heap.size W0 wr
theorem K1.new {w w1 : World} {p : Nat} (hp : PD w.heap.size p (fun j => w.heap.size ≤ j ∧ j < w1.heap.size) (DS.new 8) w1) (b1 : Below w.heap.size w w1) : K1 w p 0 w1 :=
  ⟨⟨DS.new 8, _, hp, by simp [DS.new], by simp [DS.new], by simp [DS.new], new_len 8⟩, b1⟩
theorem K1.step {W0 : World} {p k : Nat} {wr : World} (h : K1 W0 p k wr) (hk : k ≤ 1000000) (x : Sp) (kv : Value) (hx : x.num) (hks : x.keep.length ≤ 1073741824) (hv : Ints (fun j => j < W0.heap.size) kv x.keep wr) :
    Calls Try.prog 14 #[.pointer (some ⟨p, 0, none⟩), .agg (spcells x kv)] wr fun a w2 => (∃ r e, a = .returned (.tuple #[.string r, .int .i64 e])) ∧ K1 W0 p (k + 1) w2 := by
  obtain ⟨⟨D, F, hp, l1, l2, l3, l4⟩, b0⟩ := h
  refine (dkdo_any W0.heap.size p F kv D x wr b0.size hx.2.1.2 hks (by omega) (by omega) (by omega) (hv.imp fun j hj e => by have := hp.inF j e; omega) hp).mono ?_
  rintro a w2 ⟨rfl, h2, f2⟩
  obtain ⟨g1, g2, g3, g4⟩ := D.step_grow x
  exact ⟨⟨_, _, rfl⟩, ⟨⟨(D.step x).2, _, h2, by omega, by omega, by omega, by omega⟩, b0.trans (f2.below b0.size fun j hj => (hp.inF j hj).1)⟩⟩
/-- A disk that works, without a fuse; what waits; the list of what was told to be written; what was kept. -/
structure K3 (W0 : World) (p n : Nat) (K : List ByteArray) (va vw : Value) (l1 l2 : List (Nat × ByteArray)) (wr : World) : Prop where
  ex : ∃ (D : DS) (F : Nat → Prop), PD W0.heap.size p F D wr ∧ D.calm ∧ D.wait = l1 ∧ D.kept = K ∧ D.wr ≤ n ∧ D.br ≤ n ∧ StrsIn (fun b => W0.heap.size ≤ b ∧ ¬ F b ∧ vw.ownBlock ≠ some b) va K wr ∧ (∀ g, vw.ownBlock = some g → ¬ F g)
  len : K.length = 8
  own : wr.ownsRow W0.heap.size 51 2 vw l2.length (wcells l2)
  b0 : Below W0.heap.size W0 wr
theorem ints_nil {ok : Nat → Prop} {w : World} : Ints ok (.slice none 0 0) [] w := ⟨none, 0, 0, 0, rfl, ⟨by simp, fun _ => rfl⟩, fun h => by simp at h, fun i x hx => by simp at hx⟩
/-- The first crash, and what is kept then. -/
theorem K1.crash {W0 : World} {p k : Nat} {wr : World} (h : K1 W0 p k wr) (hk6 : k ≤ 1000000) : Calls Try.prog 21 #[.pointer (some ⟨p, 0, none⟩), .slice none 0 0] wr fun a w2 => (∃ e, a = .returned (.int .i64 e)) ∧
    Calls Try.prog 20 #[.pointer (some ⟨p, 0, none⟩)] w2 fun a w3 => ∃ va K, a = .returned va ∧ K3 W0 p k K va (.slice none 0 0) [] [] w3 := by
  obtain ⟨⟨D, F, hp, l1, l2, l3, l4⟩, b0⟩ := h
  refine (dCrash_any W0.heap.size p F _ D [] wr b0.size (by omega) ints_nil hp).mono ?_
  rintro a w2 ⟨rfl, h2, f2⟩
  refine ⟨⟨_, rfl⟩, (dImage_any _ p _ (D.crash []) w2 h2).mono ?_⟩
  rintro a w3 ⟨va, rfl, hs, b3⟩
  have b2 : Below W0.heap.size W0 w2 := b0.trans (f2.below b0.size fun j hj => (hp.inF j hj).1)
  have h3 := h2.below b3
  have e := crash_nil D
  rw [e] at hs
  refine ⟨va, D.kept, rfl, ⟨⟨D.crash [], _, h3, crash_calm D [], rfl, e, l2, l3, hs.imp fun j _ hj => ⟨?_, fun hF => ?_, by simp [Value.ownBlock]⟩, by simp [Value.ownBlock]⟩, l4, World.ownsRow_nil _ _ _ _, b2.trans (b3.mono b2.size)⟩⟩
  · have := b2.size; omega
  · have := h2.inF j hF; omega
theorem K3.drewN {W0 : World} {p n : Nat} {K : List ByteArray} {va vw : Value} {l1 l2 : List (Nat × ByteArray)} {wr : World} (h : K3 W0 p n K va vw l1 l2 wr) (q : Nat) : K3 W0 p n K va vw l1 l2 (wr.drewN q) := by
  obtain ⟨⟨D, F, hp, hc, hw, hk, l2, l3, hs, hg⟩, len, own, b0⟩ := h
  exact ⟨⟨D, F, hp.drewN q, hc, hw, hk, l2, l3, hs.frm ((Frm.refl (fun _ => False) wr).drewN q) fun _ _ e => e, hg⟩, len, own, below_drewN b0 q⟩
theorem K3.more {W0 : World} {p n n' : Nat} {K : List ByteArray} {va vw : Value} {l1 l2 : List (Nat × ByteArray)} {wr : World} (h : K3 W0 p n K va vw l1 l2 wr) (hn : n ≤ n') : K3 W0 p n' K va vw l1 l2 wr := by
  obtain ⟨⟨D, F, hp, hc, hw, hk, l2, l3, hs, hg⟩, len, own, b0⟩ := h
  exact ⟨⟨D, F, hp, hc, hw, hk, by omega, by omega, hs, hg⟩, len, own, b0⟩
/-- A write. -/
theorem K3.write {W0 : World} {p n : Nat} {K : List ByteArray} {va vw : Value} {l : List (Nat × ByteArray)} {wr : World} (h : K3 W0 p n K va vw l l wr) (hn : n ≤ 1000000) (hl : l.length ≤ 1000000) (i : Int) (s : ByteArray) :
    ∃ e, Calls Try.prog 22 #[.pointer (some ⟨p, 0, none⟩), .int .i64 i, .string s] wr fun a w2 => a = .returned (.int .i64 e) ∧
      ((e ≠ 0 ∧ K3 W0 p n K va vw l l w2) ∨ (e = 0 ∧ 0 ≤ i ∧ s.size ≤ 128 ∧ K3 W0 p (n + 1) K va vw (l ++ [(i.toNat, blank s)]) l w2)) := by
  obtain ⟨⟨D, F, hp, hc, hw, hk, l2, l3, hs, hg⟩, len, own, b0⟩ := h
  refine ⟨(D.write i s).1, (dWrite_any W0.heap.size p F D i s wr b0.size (by rw [hw]; omega) (by omega) hp).mono ?_⟩
  rintro a w2 ⟨rfl, h2, f2⟩
  have b2 : Below W0.heap.size W0 w2 := b0.trans (f2.below b0.size fun j hj => (hp.inF j hj).1)
  have hs2 : StrsIn (fun b => W0.heap.size ≤ b ∧ ¬ Grow F wr w2 b ∧ vw.ownBlock ≠ some b) va K w2 := (hs.imp (ok' := fun b => W0.heap.size ≤ b ∧ ¬ Grow F wr w2 b ∧ vw.ownBlock ≠ some b) fun j hj ⟨o1, o2, o3⟩ => ⟨o1, fun hF => by rcases hF with hF | hF; exact o2 hF; omega, o3⟩).frm f2 fun j ⟨_, o2, _⟩ hF => o2 (.inl hF)
  have own2 := f2.own own hg
  have hg2 : ∀ g, vw.ownBlock = some g → ¬ Grow F wr w2 g := fun g hgg hF => by
    rcases hF with hF | hF
    · exact hg g hgg hF
    · have := (own.lt g hgg).2; omega
  refine ⟨rfl, ?_⟩
  cases ht : D.takes i s with
  | false =>
    obtain ⟨e1, e2⟩ := write_no D hc i s ht
    rw [e2] at h2
    exact .inl ⟨e1, ⟨⟨D, _, h2, hc, hw, hk, l2, l3, hs2, hg2⟩, len, own2, b2⟩⟩
  | true =>
    obtain ⟨e1, e2, e3, e4⟩ := write_yes D hc i s ht
    rw [e2] at h2
    exact .inr ⟨e1, e3, e4, ⟨⟨_, _, h2, ⟨hc.dead, hc.fuse⟩, by rw [← hw], hk, by show D.wr + 1 ≤ n + 1; omega, by show D.br ≤ n + 1; omega, hs2, hg2⟩, len, own2, b2⟩⟩
/-- What was told to be written is noted. -/
theorem K3.push {W0 : World} {p n : Nat} {K : List ByteArray} {va vw : Value} {l : List (Nat × ByteArray)} {j : Nat} {s : ByteArray} {wr w2 : World} (h : K3 W0 p n K va vw (l ++ [(j, s)]) l wr) {g cap : Nat} {X : Obj}
    (h1 : w2.ownsRow W0.heap.size 51 2 (.slice (some ⟨g, 0, none⟩) (l.length + 1) cap) (l.length + 1) (wcells l ++ [.int .i64 (j : Int), .string s])) (hgr : (wr.alloc X).drew.grownBy w2 vw.ownBlock) (hat : vw.ownBlock = some g ∨ g = wr.heap.size + 1) :
    K3 W0 p n K va (.slice (some ⟨g, 0, none⟩) (l.length + 1) cap) (l ++ [(j, s)]) (l ++ [(j, s)]) w2 := by
  obtain ⟨⟨D, F, hp, hc, hw, hk, l2, l3, hs, hg⟩, len, own, b0⟩ := h
  have f2 : Frm (fun j => vw.ownBlock = some j) wr w2 := ((Frm.refl _ wr).alloc X).drew.grown hgr fun k hk => .inl hk
  refine ⟨⟨D, F, hp.keep f2 fun j hF e => hg j e hF, hc, hw, hk, l2, l3, (hs.imp (ok' := fun b => (W0.heap.size ≤ b ∧ ¬ F b ∧ g ≠ b) ∧ vw.ownBlock ≠ some b) fun j hj ⟨o1, o2, o3⟩ => ⟨⟨o1, o2, fun e => ?_⟩, o3⟩).frm f2 (fun j o e => o.2 e) |>.imp fun j _ o => ⟨o.1.1, o.1.2.1, by simp [Value.ownBlock]; exact o.1.2.2⟩, fun k hk hF => ?_⟩, len, ?_, b0.trans (f2.below b0.size fun j hj => (own.lt j hj).1)⟩
  · subst e
    rcases hat with e | e
    · exact o3 e
    · omega
  · simp only [Value.ownBlock, Option.some.injEq] at hk
    subst hk
    rcases hat with e | e
    · exact hg _ e hF
    · have := hp.inF _ hF; omega
  · rw [wcells_append, List.length_append]
    exact h1
end Go.Proofs.Ytfipojmgmmjnmaa
