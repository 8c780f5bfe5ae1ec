/- What a disk keeps: the last crash, what is found, the last calls. -/
import Derived.Test.YtfipojmgmmjnmaaDx
namespace Go.Proofs.Ytfipojmgmmjnmaa
open Go.RowKit

structure K4 (W0 : World) (p n : Nat) (K K' : List ByteArray) (va vb vw : Value) (l : List (Nat × ByteArray)) (wr : World) : Prop where
  ex : ∃ (D : DS) (F : Nat → Prop), PD W0.heap.size p F D wr ∧ D.calm ∧ D.wait = [] ∧ D.kept.length = 8 ∧ D.wr ≤ n ∧ D.br ≤ n
  sa : Strs va K wr
  sb : Strs vb K' wr
  len : K.length = 8
  len' : K'.length = 8
  own : wr.ownsRow W0.heap.size 51 2 vw l.length (wcells l)
  told : ∀ k : Nat, K'[k]? = K[k]? ∨ ∃ x ∈ l, x.1 = k ∧ K'[k]? = some x.2
  b0 : Below W0.heap.size W0 wr
theorem Strs.drewN {v : Value} {xs : List ByteArray} {w : World} (h : Strs v xs w) (q : Nat) : Strs v xs (w.drewN q) := h.below (below_drewN (Below.refl _ _) q)
theorem K4.drewN {W0 : World} {p n : Nat} {K K' : List ByteArray} {va vb vw : Value} {l : List (Nat × ByteArray)} {wr : World} (h : K4 W0 p n K K' va vb vw l wr) (q : Nat) : K4 W0 p n K K' va vb vw l (wr.drewN q) := by
  obtain ⟨⟨D, F, hp, r⟩, sa, sb, len, len', own, told, b0⟩ := h
  exact ⟨⟨D, F, hp.drewN q, r⟩, sa.drewN q, sb.drewN q, len, len', own, told, below_drewN b0 q⟩
theorem K3.last {W0 : World} {p n : Nat} {K : List ByteArray} {va vw v : Value} {l : List (Nat × ByteArray)} {keep : List Int} {wr : World} (h : K3 W0 p n K va vw l l wr) (hl6 : l.length ≤ 1000000) (hv : Ints (fun j => j < W0.heap.size) v keep wr) :
    Calls Try.prog 21 #[.pointer (some ⟨p, 0, none⟩), v] wr fun a w2 => (∃ e, a = .returned (.int .i64 e)) ∧
    Calls Try.prog 20 #[.pointer (some ⟨p, 0, none⟩)] w2 fun a w3 => ∃ vb K', a = .returned vb ∧ K4 W0 p n K K' va vb vw l w3 := by
  obtain ⟨⟨D, F, hp, hc, hw, hk, l2, l3, hs, hg⟩, len, own, b0⟩ := h
  refine (dCrash_any W0.heap.size p F v D keep wr b0.size (by rw [hw]; omega) (hv.imp fun j hj e => by have := hp.inF j e; omega) hp).mono ?_
  rintro a w2 ⟨rfl, h2, f2⟩
  refine ⟨⟨_, rfl⟩, (dImage_any _ p _ (D.crash keep) w2 h2).mono ?_⟩
  rintro a w3 ⟨vb, rfl, hsb, b3⟩
  have b2 : Below W0.heap.size W0 w2 := b0.trans (f2.below b0.size fun j hj => (hp.inF j hj).1)
  have ek : (D.crash keep).kept = keepAll K (chosen keep l 0) := by show keepAll D.kept (chosen keep D.wait 0) = _; rw [hk, hw]
  refine ⟨vb, (D.crash keep).kept, rfl, ⟨⟨D.crash keep, _, h2.below b3, crash_calm D keep, rfl, by rw [ek, keepAll_length, len], l2, l3⟩, ((hs.frm f2 fun j o e => o.2.1 e).strs).below b3, hsb.strs, len, by rw [ek, keepAll_length, len], ?_, fun k => ?_, b2.trans (b3.mono b2.size)⟩⟩
  · exact (Frm.of_below (F := fun _ => False) b3).own (f2.own own hg) fun _ _ e => e
  · rw [ek]
    rcases keepAll_some k (chosen keep l 0) K with h | ⟨x, hx, h1, h2⟩
    · exact .inl h
    · exact .inr ⟨x, chosen_mem keep x l 0 hx, h1, h2⟩
theorem K4.fin {W0 : World} {p n : Nat} {K K' : List ByteArray} {va vb vw : Value} {l : List (Nat × ByteArray)} {wr : World} (h : K4 W0 p n K K' va vb vw l wr) (hn : n ≤ 1000000) :
    Calls Try.prog 22 #[.pointer (some ⟨p, 0, none⟩), .int .i64 3, .string ⟨#[122]⟩] wr fun a w1 => (∃ e, a = .returned (.int .i64 e)) ∧
    Calls Try.prog 24 #[.pointer (some ⟨p, 0, none⟩)] w1 fun a w2 => a = .returned (.int .i64 0) ∧
    Calls Try.prog 21 #[.pointer (some ⟨p, 0, none⟩), .slice none 0 0] w2 fun a w3 => (∃ e, a = .returned (.int .i64 e)) ∧
    Calls Try.prog 25 #[.pointer (some ⟨p, 0, none⟩), .int .i64 3] w3 fun a w4 => a = .returned (.tuple #[.string (blank ⟨#[122]⟩), .int .i64 0]) ∧ Below W0.heap.size W0 w4 := by
  obtain ⟨⟨D, F, hp, hc, hw, hk, l2, l3⟩, _, _, _, _, _, _, b0⟩ := h
  obtain ⟨D1, D2, D3, e1, e2, e3, e4, g1, g2, g3, g4⟩ := last_calls D hc hw hk
  refine (dWrite_any W0.heap.size p F D 3 _ wr b0.size (by rw [hw]; decide) (by omega) hp).mono ?_
  rintro a w1 ⟨rfl, h1, f1⟩
  rw [e1] at h1
  have b1 : Below W0.heap.size W0 w1 := b0.trans (f1.below b0.size fun j hj => (hp.inF j hj).1)
  refine ⟨⟨_, rfl⟩, (dBarrier_any W0.heap.size p _ D1 w1 b1.size (by omega) h1).mono ?_⟩
  rintro a w2 ⟨rfl, h2, f2⟩
  rw [e2] at h2 ⊢
  have b2 : Below W0.heap.size W0 w2 := b1.trans (f2.below b1.size fun j hj => (h1.inF j hj).1)
  refine ⟨rfl, (dCrash_any W0.heap.size p _ _ D2 [] w2 b2.size (by rw [g4]; decide) ints_nil h2).mono ?_⟩
  rintro a w3 ⟨rfl, h3, f3⟩
  rw [e3] at h3
  have b3 : Below W0.heap.size W0 w3 := b2.trans (f3.below b2.size fun j hj => (h2.inF j hj).1)
  refine ⟨⟨_, rfl⟩, (dRead_any _ p _ D3 3 w3 h3).mono ?_⟩
  rintro a w4 ⟨rfl, b4⟩
  rw [e4]
  exact ⟨rfl, b3.trans (b4.mono b3.size)⟩

/-- Does one of these say it? -/
def saidB (k : Nat) (t : ByteArray) (l : List (Nat × ByteArray)) : Bool := l.any fun x => decide (x.1 = k) && decide (x.2 = t)
theorem said_at (k : Nat) (t : ByteArray) (l : List (Nat × ByteArray)) (i : Nat) (x : Nat × ByteArray) (h : l[i]? = some x) : saidB k t (l.take (i + 1)) = (saidB k t (l.take i) || (decide (x.1 = k) && decide (x.2 = t))) := by
  obtain ⟨hk, rfl⟩ := List.getElem?_eq_some_iff.1 h
  rw [List.take_succ_eq_append_getElem hk]
  unfold saidB
  rw [List.any_append]
  simp
/-- A sector, both times, and what was told. -/
theorem K4.sector {W0 : World} {p n : Nat} {K K' : List ByteArray} {va vb vw : Value} {l : List (Nat × ByteArray)} {wr : World} (h : K4 W0 p n K K' va vb vw l wr) (k : Nat) (hk : k < 8) :
    ∃ s t, K[k]? = some s ∧ K'[k]? = some t ∧ (decide (t = s) || saidB k t l) = true := by
  obtain ⟨s, hs⟩ : ∃ s, K[k]? = some s := ⟨_, List.getElem?_eq_getElem (by rw [h.len]; exact hk)⟩
  obtain ⟨t, ht⟩ : ∃ t, K'[k]? = some t := ⟨_, List.getElem?_eq_getElem (by rw [h.len']; exact hk)⟩
  refine ⟨s, t, hs, ht, ?_⟩
  rcases h.told k with e | ⟨x, hx, h1, h2⟩
  · rw [hs, ht] at e
    injection e with e
    rw [decide_eq_true e, Bool.true_or]
  · rw [ht] at h2
    injection h2 with h2
    have : saidB k t l = true := List.any_eq_true.2 ⟨x, hx, by rw [decide_eq_true h1, decide_eq_true h2.symm]; rfl⟩
    rw [this, Bool.or_true]
/-- A text of a list in memory. -/
theorem Strs.get {v : Value} {xs : List ByteArray} {w : World} (h : Strs v xs w) : ∃ (ao : Option Addr) (cap b off : Nat), v = .slice ao xs.length cap ∧ ∀ (i : Nat) (x : ByteArray), xs[i]? = some x → ao = some ⟨b, off, none⟩ ∧ w.cell? ⟨b, off + i, none⟩ = some (.string x) := by
  obtain ⟨ao, cap, b, off, e1, e2, e3, e4⟩ := h
  exact ⟨ao, cap, b, off, e1, fun i x hx => ⟨(e3 (by have := (List.getElem?_eq_some_iff.1 hx).1; omega)).1, e4 i x hx⟩⟩
theorem Strs.get8 {v : Value} {xs : List ByteArray} {w : World} (h : Strs v xs w) (hl : xs.length = 8) : ∃ (ao : Option Addr) (cap b off : Nat), v = .slice ao 8 cap ∧ ∀ (i : Nat) (x : ByteArray), xs[i]? = some x → ao = some ⟨b, off, none⟩ ∧ w.cell? ⟨b, off + i, none⟩ = some (.string x) := by
  obtain ⟨ao, cap, b, off, e1, e2⟩ := h.get
  rw [hl] at e1
  exact ⟨ao, cap, b, off, e1, e2⟩
theorem Strs.at8 {ao : Option Addr} {cap : Nat} {xs : List ByteArray} {w : World} (h : Strs (.slice ao 8 cap) xs w) (hl : xs.length = 8) : ∃ b off : Nat, ∀ (i : Nat) (x : ByteArray), xs[i]? = some x → ao = some ⟨b, off, none⟩ ∧ w.cell? ⟨b, off + i, none⟩ = some (.string x) := by
  obtain ⟨ao2, cap2, b, off, e1, e2⟩ := h.get8 hl
  injection e1 with e1 _ e3
  subst e1
  exact ⟨b, off, e2⟩
theorem K4.row {W0 : World} {p n : Nat} {K K' : List ByteArray} {va vb vw : Value} {l : List (Nat × ByteArray)} {wr : World} (h : K4 W0 p n K K' va vb vw l wr) : ∃ (ao : Option Addr) (cap : Nat), vw = .slice ao l.length cap ∧ ∀ (i : Nat), i < l.length → ∃ (g : Nat) (x : Nat × ByteArray), l[i]? = some x ∧ ao = some ⟨g, 0, none⟩ ∧ wr.cell? ⟨g, i * 2, none⟩ = some (.int .i64 (x.1 : Int)) ∧ wr.cell? ⟨g, i * 2 + 1, none⟩ = some (.string x.2) := by
  obtain ⟨ao, cap, e⟩ := own_slice h.own
  refine ⟨ao, cap, e, fun i hi => ?_⟩
  obtain ⟨g, cap2, e2, _, _, hc⟩ := own_some h.own (by omega)
  rw [e] at e2
  injection e2 with e2 _ _
  obtain ⟨x, hx⟩ : ∃ x, l[i]? = some x := ⟨_, List.getElem?_eq_getElem hi⟩
  obtain ⟨w1, w2⟩ := wcells_at l i x hx
  exact ⟨g, x, hx, e2, hc _ _ w1, hc _ _ w2⟩
theorem K3.vas {W0 : World} {p n : Nat} {K : List ByteArray} {va vw : Value} {l1 l2 : List (Nat × ByteArray)} {wr : World} (h : K3 W0 p n K va vw l1 l2 wr) : ∃ (ao : Option Addr) (cap : Nat), va = .slice ao 8 cap := by
  obtain ⟨⟨D, F, hp, hc, hw, hk, l2, l3, hs, hg⟩, len, own, b0⟩ := h
  obtain ⟨ao, cap, b, off, e1, e2⟩ := hs.strs.get8 len
  exact ⟨ao, cap, e1⟩
end Go.Proofs.Ytfipojmgmmjnmaa
