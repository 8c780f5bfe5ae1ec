/- attr: writing a change, whatever the writer has already. -/
import Derived.Test.YtdjnadgcjmlejaaDoorAd
import Derived.Test.YtdjnadgcjmlejaaDoorRx
namespace Go.Proofs.YtdjnadgcjmlejaaDoor
open Go.Joins Go.RowKit

/-- A writer with the bytes xs, and the change's own block. -/
def WG (w : World) (k : Nat) (cs : Array Value) (r0 r : Option Nat) (xs : List UInt8) (W : World) : Prop :=
  Wr 60 5 k r xs W ∧ St 28 w.heap.size cs W ∧ Keep k r0 w W ∧ (r = r0 ∨ ∃ j, r = some j ∧ w.heap.size < j)
theorem WG.new {k : Nat} {cs : Array Value} {w : World} {r0 : Option Nat} {xs : List UInt8} (h : Wr 60 5 k r0 xs w) : WG w k cs r0 r0 xs (w.alloc (.cells cs 28 (0, 0))) :=
  ⟨h.alloc _, St.new w _ _, (Keep.refl _ _ _).alloc _, .inl rfl⟩
theorem WG.step {w W W' : World} {k : Nat} {cs : Array Value} {r0 r : Option Nat} {xs ys : List UInt8} (hk : k < w.heap.size) (hr0 : ∀ j, r0 = some j → k < j ∧ j < w.heap.size) (h : WG w k cs r0 r xs W) (g : Wrote 60 5 k r ys W W') : ∃ r', WG w k cs r0 r' ys W' := by
  obtain ⟨h1, h2, h3, h4⟩ := h
  obtain ⟨r', g1, g2, g3⟩ := g
  have hne : some w.heap.size ≠ r := by
    rcases h4 with rfl | ⟨j, rfl, hj⟩
    · intro e; have := (hr0 _ e.symm).2; omega
    · intro e; injection e with e; omega
  refine ⟨r', g1, ?_, ?_, ?_⟩
  · exact Keep.same g2 h2 (by omega) hne
  · exact h3.trans g2 (by
      rcases h4 with rfl | ⟨j, rfl, hj⟩
      · exact .inl rfl
      · exact .inr ⟨j, rfl, by omega⟩)
  · rcases g3 with rfl | ⟨j, rfl, hj⟩
    · exact h4
    · exact .inr ⟨j, rfl, Nat.lt_of_lt_of_le h2.lt hj⟩
theorem WG.done {w W : World} {k : Nat} {cs : Array Value} {r0 r : Option Nat} {xs : List UInt8} (h : WG w k cs r0 r xs W) : Wrote 60 5 k r0 xs w W := by
  obtain ⟨h1, h2, h3, h4⟩ := h
  refine ⟨r, h1, h3, ?_⟩
  rcases h4 with rfl | ⟨j, rfl, hj⟩
  · exact .inl rfl
  · exact .inr ⟨j, rfl, by omega⟩
theorem wOpt_gen {is : Bool} {n most : Int} (h : okPo ⟨is, n⟩ most = true) (k : Nat) (r : Option Nat) (xs : List UInt8) (w : World) (hl : xs.length ≤ 1073741800) (hw : Wr 60 5 k r xs w) :
    Calls Tryd.prog 41 #[.pointer (some ⟨k, 0, none⟩), .agg #[.bool is, .int .i64 n]] w fun e w' => e = .returned (.int .i64 0) ∧ Wrote 60 5 k r (xs ++ poBytes ⟨is, n⟩) w w' := by
  refine (wOpt_any k r xs is n w hl hw).mono ?_
  rintro e w' ⟨rfl, g⟩
  have := putOpt_ok h
  simp only at this
  rw [this] at g ⊢
  exact ⟨rfl, g⟩

set_option maxHeartbeats 2000000 in
set_option maxRecDepth 100000 in
theorem awriteSet_at (k : Nat) (r0 : Option Nat) (xs : List UInt8) (s : Ps) (w : World) (hx : xs.length ≤ 1073741000) (hs : okPs s = true) (h : Wr 60 5 k r0 xs w) :
    Calls Tryd.prog 71 #[.pointer (some ⟨k, 0, none⟩), s.val] w fun e w' => e = .returned (.tuple #[]) ∧ Wrote 60 5 k r0 (xs ++ psBytes s) w w' := by
  have hk := h.lt.1
  have hr0 := Lib.hid h.lt.2
  have hX := Lib.hid hx
  clear hx
  obtain ⟨⟨i0, n0⟩, ⟨i1, n1⟩, ⟨i2, n2⟩, ⟨i3, n3⟩, ⟨i4, n4⟩⟩ := s
  simp only [okPs, Bool.and_eq_true] at hs
  obtain ⟨⟨⟨⟨s0, s1⟩, s2⟩, s3⟩, s4⟩ := hs
  simp only [Ps.val, Ps.vs, Po.vs, List.cons_append, List.nil_append, psBytes]
  have O0 := wOpt_gen s0 k
  have l0 := poBytes_len ⟨i0, n0⟩
  obtain ⟨p0, hp0⟩ : ∃ p, p = poBytes ⟨i0, n0⟩ := ⟨_, rfl⟩
  rw [← hp0] at O0 l0 ⊢
  replace O0 := Lib.hid O0
  have O1 := wOpt_gen s1 k
  have l1 := poBytes_len ⟨i1, n1⟩
  obtain ⟨p1, hp1⟩ : ∃ p, p = poBytes ⟨i1, n1⟩ := ⟨_, rfl⟩
  rw [← hp1] at O1 l1 ⊢
  replace O1 := Lib.hid O1
  have O2 := wOpt_gen s2 k
  have l2 := poBytes_len ⟨i2, n2⟩
  obtain ⟨p2, hp2⟩ : ∃ p, p = poBytes ⟨i2, n2⟩ := ⟨_, rfl⟩
  rw [← hp2] at O2 l2 ⊢
  replace O2 := Lib.hid O2
  have O3 := wOpt_gen s3 k
  have l3 := poBytes_len ⟨i3, n3⟩
  obtain ⟨p3, hp3⟩ : ∃ p, p = poBytes ⟨i3, n3⟩ := ⟨_, rfl⟩
  rw [← hp3] at O3 l3 ⊢
  replace O3 := Lib.hid O3
  have O4 := wOpt_gen s4 k
  have l4 := poBytes_len ⟨i4, n4⟩
  obtain ⟨p4, hp4⟩ : ∃ p, p = poBytes ⟨i4, n4⟩ := ⟨_, rfl⟩
  rw [← hp4] at O4 l4 ⊢
  replace O4 := Lib.hid O4
  clear hp0 s0 hp1 s1 hp2 s2 hp3 s3 hp4 s4
  have HL := Lib.hid (And.intro l0 (And.intro l1 (And.intro l2 (And.intro l3 l4))))
  clear l0 l1 l2 l3 l4
  have g0 : WG w k #[.bool i0, .int .i64 n0, .bool i1, .int .i64 n1, .bool i2, .int .i64 n2, .bool i3, .int .i64 n3, .bool i4, .int .i64 n4] r0 r0 xs (w.alloc (.cells #[.bool i0, .int .i64 n0, .bool i1, .int .i64 n1, .bool i2, .int .i64 n2, .bool i3, .int .i64 n3, .bool i4, .int .i64 n4] 28 (0, 0))) := WG.new h
  clear h
  go_enter Tryd.func71, Tryd.ntmps71
  go_wp2_with fail
  go_must (refine (O0.out _ _ _ (by have := hX.out; omega) g0.1).mono ?_)
  rintro e w1 ⟨rfl, b1⟩
  obtain ⟨q1, g1⟩ := g0.step hk hr0.out b1
  clear b1
  obtain ⟨c0, c1, c2, c3, c4, c5, c6, c7, c8, c9⟩ := g1.2.1.cell10
  go_wp2_with fail
  go_must (refine (O1.out _ _ _ (by obtain ⟨l0, l1, l2, l3, l4⟩ := HL.out; have := hX.out; simp only [List.length_append]; omega) g1.1).mono ?_)
  rintro e w2 ⟨rfl, b2⟩
  obtain ⟨q2, g2⟩ := g1.step hk hr0.out b2
  clear b2
  clear g1 c0 c1 c2 c3 c4 c5 c6 c7 c8 c9
  obtain ⟨c0, c1, c2, c3, c4, c5, c6, c7, c8, c9⟩ := g2.2.1.cell10
  go_wp2_with fail
  go_must (refine (O2.out _ _ _ (by obtain ⟨l0, l1, l2, l3, l4⟩ := HL.out; have := hX.out; simp only [List.length_append]; omega) g2.1).mono ?_)
  rintro e w3 ⟨rfl, b3⟩
  obtain ⟨q3, g3⟩ := g2.step hk hr0.out b3
  clear b3
  clear g2 c0 c1 c2 c3 c4 c5 c6 c7 c8 c9
  obtain ⟨c0, c1, c2, c3, c4, c5, c6, c7, c8, c9⟩ := g3.2.1.cell10
  go_wp2_with fail
  go_must (refine (O3.out _ _ _ (by obtain ⟨l0, l1, l2, l3, l4⟩ := HL.out; have := hX.out; simp only [List.length_append]; omega) g3.1).mono ?_)
  rintro e w4 ⟨rfl, b4⟩
  obtain ⟨q4, g4⟩ := g3.step hk hr0.out b4
  clear b4
  clear g3 c0 c1 c2 c3 c4 c5 c6 c7 c8 c9
  obtain ⟨c0, c1, c2, c3, c4, c5, c6, c7, c8, c9⟩ := g4.2.1.cell10
  go_wp2_with fail
  go_must (refine (O4.out _ _ _ (by obtain ⟨l0, l1, l2, l3, l4⟩ := HL.out; have := hX.out; simp only [List.length_append]; omega) g4.1).mono ?_)
  rintro e w5 ⟨rfl, b5⟩
  obtain ⟨q5, g5⟩ := g4.step hk hr0.out b5
  clear b5
  clear g4 c0 c1 c2 c3 c4 c5 c6 c7 c8 c9
  go_wp2_with fail
  go_end0
  exact ⟨rfl, by simpa using g5.done⟩

theorem Wrote.behindG {k : Nat} {r0 : Option Nat} {ys : List UInt8} {w w1 w2 : World} (b : Below w.heap.size w w1) (g : Wrote 60 5 k r0 ys w1 w2) : Wrote 60 5 k r0 ys w w2 :=
  Wrote.trans (r1 := r0) (keep_of_below b) (.inl rfl) g
set_option maxHeartbeats 2000000 in
set_option maxRecDepth 100000 in
theorem aputSet_at (k : Nat) (r0 : Option Nat) (xs : List UInt8) (s : Ps) (w : World) (hx : xs.length ≤ 1073741000) (h : Wr 60 5 k r0 xs w) :
    Calls Tryd.prog 69 #[.pointer (some ⟨k, 0, none⟩), s.val, .func (.func 70) #[] #[], .func (.func 71) #[] #[]] w fun e w' => e = .returned (.int .i64 (if okPs s then 0 else 14)) ∧ Wrote 60 5 k r0 (xs ++ psPut s) w w' := by
  have HC := fun w => aCheckSet_any s w
  have HW := fun (hs : okPs s = true) w h => awriteSet_at k r0 xs s w hx hs h
  unfold psPut
  obtain ⟨q, hq⟩ : ∃ q, q = okPs s := ⟨_, rfl⟩
  rw [← hq] at HC HW ⊢
  obtain ⟨ps, hps⟩ : ∃ p, p = psBytes s := ⟨_, rfl⟩
  rw [← hps] at HW ⊢
  clear hps hq
  obtain ⟨⟨i0, n0⟩, ⟨i1, n1⟩, ⟨i2, n2⟩, ⟨i3, n3⟩, ⟨i4, n4⟩⟩ := s
  simp only [Ps.val, Ps.vs, Po.vs, List.cons_append, List.nil_append] at HC HW ⊢
  have hst := Lib.hid (St.new w 28 #[.bool i0, .int .i64 n0, .bool i1, .int .i64 n1, .bool i2, .int .i64 n2, .bool i3, .int .i64 n3, .bool i4, .int .i64 n4])
  have hh := Lib.hid h
  clear h
  cases q
  · simp only [Bool.false_eq_true, if_false] at HC ⊢
    replace HC := Lib.hid HC
    clear HW
    go_enter Tryd.func69, Tryd.ntmps69
    go_wp2_with fail
    go_must (refine (HC.out _).mono ?_)
    rintro e w1 ⟨rfl, b1⟩
    have f1 := (below_alloc1 w (.cells #[.bool i0, .int .i64 n0, .bool i1, .int .i64 n1, .bool i2, .int .i64 n2, .bool i3, .int .i64 n3, .bool i4, .int .i64 n4] 28 (0, 0))).trans (b1.mono (by simp))
    have h1 := hh.out.below f1
    clear b1
    go_wp2_with fail
    go_ret
    exact ⟨rfl, by rw [List.append_nil]; exact Wrote.behindG f1 (Wrote.refl h1)⟩
  · simp only [if_true] at HC ⊢
    replace HC := Lib.hid HC
    replace HW := Lib.hid (HW rfl)
    go_enter Tryd.func69, Tryd.ntmps69
    go_wp2_with fail
    go_must (refine (HC.out _).mono ?_)
    rintro e w1 ⟨rfl, b1⟩
    have f1 := (below_alloc1 w (.cells #[.bool i0, .int .i64 n0, .bool i1, .int .i64 n1, .bool i2, .int .i64 n2, .bool i3, .int .i64 n3, .bool i4, .int .i64 n4] 28 (0, 0))).trans (b1.mono (by simp))
    have h1 := hh.out.below f1
    obtain ⟨c0, c1, c2, c3, c4, c5, c6, c7, c8, c9⟩ := (hst.out.below b1).cell10
    clear b1
    go_wp2_with fail
    go_must (refine (HW.out _ h1).mono ?_)
    rintro e w2 ⟨rfl, g⟩
    clear c0 c1 c2 c3 c4 c5 c6 c7 c8 c9
    go_wp2_with fail
    go_ret
    exact ⟨rfl, Wrote.behindG f1 g⟩
set_option maxRecDepth 100000 in
theorem aPutSet_at (k : Nat) (r0 : Option Nat) (xs : List UInt8) (s : Ps) (w : World) (hx : xs.length ≤ 1073741000) (h : Wr 60 5 k r0 xs w) :
    Calls Tryd.prog 43 #[.pointer (some ⟨k, 0, none⟩), s.val] w fun e w' => e = .returned (.int .i64 (if okPs s then 0 else 14)) ∧ Wrote 60 5 k r0 (xs ++ psPut s) w w' := by
  have HP := fun w h => aputSet_at k r0 xs s w hx h
  obtain ⟨r, hr⟩ : ∃ r : Int, r = if okPs s then 0 else 14 := ⟨_, rfl⟩
  rw [← hr] at HP ⊢
  obtain ⟨ps, hps⟩ : ∃ p, p = psPut s := ⟨_, rfl⟩
  rw [← hps] at HP ⊢
  clear hps hr
  obtain ⟨⟨i0, n0⟩, ⟨i1, n1⟩, ⟨i2, n2⟩, ⟨i3, n3⟩, ⟨i4, n4⟩⟩ := s
  simp only [Ps.val, Ps.vs, Po.vs, List.cons_append, List.nil_append] at HP ⊢
  replace HP := Lib.hid HP
  have ha := Lib.hid (h.alloc (.cells #[.bool i0, .int .i64 n0, .bool i1, .int .i64 n1, .bool i2, .int .i64 n2, .bool i3, .int .i64 n3, .bool i4, .int .i64 n4] 28 (0, 0)))
  clear h
  go_enter Tryd.func43, Tryd.ntmps43
  go_wp2_with fail
  go_must (refine (HP.out _ ha.out).mono ?_)
  rintro e w1 ⟨rfl, g⟩
  go_wp2_with fail
  go_ret
  exact ⟨rfl, g.of_alloc⟩
end Go.Proofs.YtdjnadgcjmlejaaDoor
