/- attr: getting a change; calls: the functions that read their fields, each of whatever reader. -/
import Derived.Test.YtdjnadgcjmlejaaDoorCi
namespace Go.Proofs.YtdjnadgcjmlejaaDoor
open Go.Joins Go.RowKit

set_option maxRecDepth 100000 in
set_option maxHeartbeats 2000000 in
theorem agetSet_err (m : Nat) (s : ByteArray) (e : Int) (w : World) (he : (psTake s e).2.1 ≠ 0) (h : Rd m s e w) :
    Calls Tryd.prog 81 #[.pointer (some ⟨m, 0, none⟩), .func (.func 82) #[] #[], .func (.func 70) #[] #[]] w fun r w' => r = .returned (.tuple #[.agg (psGet s e).1.vs.toArray, .int .i64 (psGet s e).2]) ∧ Rd m (psTake s e).1 (psTake s e).2.1 w' ∧ Keep m none w w' := by
  have hR := fun w h => areadSet_any m s e w h
  have hm := h.lt
  obtain ⟨s1, e1, p, ht⟩ : ∃ s1 e1 p, psTake s e = (s1, e1, p) := ⟨_, _, _, rfl⟩
  have hg : psGet s e = got Ps.zero okPs (s1, e1, p) := by unfold psGet; rw [ht]
  rw [hg, ht]
  rw [ht] at hR
  have hC := fun w => aCheckSet_any p w
  dsimp only at hR ⊢
  rw [ht] at he
  have he : e1 ≠ 0 := he
  rw [got_err he]
  have d1 : (e1 == 0) = false := by simpa using he
  have d2 : (e1 != 0) = true := by simpa using he
  have HE := Lib.hid he
  clear he
  clear hg ht
  obtain ⟨⟨i0, n0⟩, ⟨i1, n1⟩, ⟨i2, n2⟩, ⟨i3, n3⟩, ⟨i4, n4⟩⟩ := p
  simp only [Ps.val, Ps.vs, Po.vs, List.cons_append, List.nil_append] at hR hC ⊢
  replace hR := Lib.hid hR
  replace hC := Lib.hid hC
  have H0 := Lib.hid (show Rd m s e ((w.alloc (.cells #[.bool false, .int .i64 0, .bool false, .int .i64 0, .bool false, .int .i64 0, .bool false, .int .i64 0, .bool false, .int .i64 0] 28 (0, 0))).alloc (.cells #[.bool false, .int .i64 0, .bool false, .int .i64 0, .bool false, .int .i64 0, .bool false, .int .i64 0, .bool false, .int .i64 0] 28 (0, 0))) from St.alloc (St.alloc h _) _)
  have SA := Lib.hid ((St.new w 28 #[.bool false, .int .i64 0, .bool false, .int .i64 0, .bool false, .int .i64 0, .bool false, .int .i64 0, .bool false, .int .i64 0]).alloc (.cells #[.bool false, .int .i64 0, .bool false, .int .i64 0, .bool false, .int .i64 0, .bool false, .int .i64 0, .bool false, .int .i64 0] 28 (0, 0)))
  have SB := Lib.hid (St.new2 w (.cells #[.bool false, .int .i64 0, .bool false, .int .i64 0, .bool false, .int .i64 0, .bool false, .int .i64 0, .bool false, .int .i64 0] 28 (0, 0)) 28 #[.bool false, .int .i64 0, .bool false, .int .i64 0, .bool false, .int .i64 0, .bool false, .int .i64 0, .bool false, .int .i64 0])
  clear h
  go_enter Tryd.func81, Tryd.ntmps81
  go_wp2_with fail
  go_must (refine (hR.out _ H0.out).mono ?_)
  rintro r w1 ⟨rfl, g1, k1⟩
  have hz1 := k1.size
  simp only [World.size_alloc] at hz1
  have A1 := Lib.hid ((SA.out.keepN k1 (by omega)).alloc (.cells #[.bool i0, .int .i64 n0, .bool i1, .int .i64 n1, .bool i2, .int .i64 n2, .bool i3, .int .i64 n3, .bool i4, .int .i64 n4] 28 (0, 0)))
  have B1 := Lib.hid ((SB.out.keepN k1 (by omega)).alloc (.cells #[.bool i0, .int .i64 n0, .bool i1, .int .i64 n1, .bool i2, .int .i64 n2, .bool i3, .int .i64 n3, .bool i4, .int .i64 n4] 28 (0, 0)))
  have C1 := Lib.hid (St.new w1 28 #[.bool i0, .int .i64 n0, .bool i1, .int .i64 n1, .bool i2, .int .i64 n2, .bool i3, .int .i64 n3, .bool i4, .int .i64 n4])
  have R1 := Lib.hid (show Rd m s1 e1 (w1.alloc (.cells #[.bool i0, .int .i64 n0, .bool i1, .int .i64 n1, .bool i2, .int .i64 n2, .bool i3, .int .i64 n3, .bool i4, .int .i64 n4] 28 (0, 0))) from St.alloc g1 _)
  have K1 := Lib.hid (keep_boxed1 (keep_boxed1 k1))
  clear g1 k1
  go_wp2_with (first
    | ((with_reducible show wpList _ _ _ ({ dst := _, op := .store _ (.tmp 9) _, type := _, pos := _, after := _, guard := _ } :: _) _ _); refine wpList_store_st rfl 28 _ _ rfl w1.heap.size _ rfl rfl _ (St.new w1 28 _) (by kernel_rfl) rfl (by kernel_rfl) ?_; rw [alloc_row]; intro wz hz hst; subst hz; clear hst)
    | (go_at_call 80; go_must (refine (rErr_at m s1 e1 _ R1.out).mono ?_); rintro r w3 ⟨rfl, rfl⟩)
    | ((with_reducible show wpList _ _ _ ({ dst := _, op := .load _ (.tmp 8), type := _, pos := _, after := _, guard := _ } :: _) _ _); refine wpList_load_st rfl 28 _ rfl (w.heap.size + 1) rfl 28 _ B1.out _ Tryd.underlying28 rfl (by kernel_rfl) ?_)
    | ((with_reducible show wpList _ _ _ ({ dst := _, op := .store _ (.tmp 6) _, type := _, pos := _, after := _, guard := _ } :: _) _ _); refine wpList_store_st rfl 28 _ _ rfl w.heap.size _ rfl rfl _ A1.out (by kernel_rfl) rfl (by kernel_rfl) ?_; intro wz hz hst; have HQ := Lib.hid hz; have HR := Lib.hid hst; clear hz hst))
  refine ret_cell2 (r := 6) (t := 7) (k := w.heap.size) (T := 28) Tryd.results81 rfl rfl HR.out Tryd.underlying28 rfl (by kernel_rfl) rfl ?_
  have e0 := HQ.out
  subst e0
  exact ⟨rfl, (show Rd m s1 e1 _ from St.setRow_other R1.out (by omega) _), Keep.row (K1.out.alloc _) (Nat.le_refl _) _⟩
set_option maxRecDepth 100000 in
set_option maxHeartbeats 2000000 in
theorem agetSet_not (m : Nat) (s : ByteArray) (e : Int) (w : World) (he : (psTake s e).2.1 = 0) (hk : okPs (psTake s e).2.2 = false) (h : Rd m s e w) :
    Calls Tryd.prog 81 #[.pointer (some ⟨m, 0, none⟩), .func (.func 82) #[] #[], .func (.func 70) #[] #[]] w fun r w' => r = .returned (.tuple #[.agg (psGet s e).1.vs.toArray, .int .i64 (psGet s e).2]) ∧ Rd m (psTake s e).1 (psTake s e).2.1 w' ∧ Keep m none w w' := by
  have hR := fun w h => areadSet_any m s e w h
  have hm := h.lt
  obtain ⟨s1, e1, p, ht⟩ : ∃ s1 e1 p, psTake s e = (s1, e1, p) := ⟨_, _, _, rfl⟩
  have hg : psGet s e = got Ps.zero okPs (s1, e1, p) := by unfold psGet; rw [ht]
  rw [hg, ht]
  rw [ht] at hR
  have hC := fun w => aCheckSet_any p w
  dsimp only at hR ⊢
  rw [ht] at he hk
  have he : e1 = 0 := he
  subst he
  have hk : okPs p = false := hk
  rw [got_not hk]
  rw [hk] at hC
  clear hk
  clear hg ht
  obtain ⟨⟨i0, n0⟩, ⟨i1, n1⟩, ⟨i2, n2⟩, ⟨i3, n3⟩, ⟨i4, n4⟩⟩ := p
  simp only [Ps.val, Ps.vs, Po.vs, List.cons_append, List.nil_append] at hR hC ⊢
  replace hR := Lib.hid hR
  replace hC := Lib.hid hC
  have H0 := Lib.hid (show Rd m s e ((w.alloc (.cells #[.bool false, .int .i64 0, .bool false, .int .i64 0, .bool false, .int .i64 0, .bool false, .int .i64 0, .bool false, .int .i64 0] 28 (0, 0))).alloc (.cells #[.bool false, .int .i64 0, .bool false, .int .i64 0, .bool false, .int .i64 0, .bool false, .int .i64 0, .bool false, .int .i64 0] 28 (0, 0))) from St.alloc (St.alloc h _) _)
  have SA := Lib.hid ((St.new w 28 #[.bool false, .int .i64 0, .bool false, .int .i64 0, .bool false, .int .i64 0, .bool false, .int .i64 0, .bool false, .int .i64 0]).alloc (.cells #[.bool false, .int .i64 0, .bool false, .int .i64 0, .bool false, .int .i64 0, .bool false, .int .i64 0, .bool false, .int .i64 0] 28 (0, 0)))
  have SB := Lib.hid (St.new2 w (.cells #[.bool false, .int .i64 0, .bool false, .int .i64 0, .bool false, .int .i64 0, .bool false, .int .i64 0, .bool false, .int .i64 0] 28 (0, 0)) 28 #[.bool false, .int .i64 0, .bool false, .int .i64 0, .bool false, .int .i64 0, .bool false, .int .i64 0, .bool false, .int .i64 0])
  clear h
  go_enter Tryd.func81, Tryd.ntmps81
  go_wp2_with fail
  go_must (refine (hR.out _ H0.out).mono ?_)
  rintro r w1 ⟨rfl, g1, k1⟩
  have hz1 := k1.size
  simp only [World.size_alloc] at hz1
  have A1 := Lib.hid ((SA.out.keepN k1 (by omega)).alloc (.cells #[.bool i0, .int .i64 n0, .bool i1, .int .i64 n1, .bool i2, .int .i64 n2, .bool i3, .int .i64 n3, .bool i4, .int .i64 n4] 28 (0, 0)))
  have B1 := Lib.hid ((SB.out.keepN k1 (by omega)).alloc (.cells #[.bool i0, .int .i64 n0, .bool i1, .int .i64 n1, .bool i2, .int .i64 n2, .bool i3, .int .i64 n3, .bool i4, .int .i64 n4] 28 (0, 0)))
  have C1 := Lib.hid (St.new w1 28 #[.bool i0, .int .i64 n0, .bool i1, .int .i64 n1, .bool i2, .int .i64 n2, .bool i3, .int .i64 n3, .bool i4, .int .i64 n4])
  have R1 := Lib.hid (show Rd m s1 0 (w1.alloc (.cells #[.bool i0, .int .i64 n0, .bool i1, .int .i64 n1, .bool i2, .int .i64 n2, .bool i3, .int .i64 n3, .bool i4, .int .i64 n4] 28 (0, 0))) from St.alloc g1 _)
  have K1 := Lib.hid (keep_boxed1 (keep_boxed1 k1))
  clear g1 k1
  go_wp2_with (first
    | ((with_reducible show wpList _ _ _ ({ dst := _, op := .store _ (.tmp 9) _, type := _, pos := _, after := _, guard := _ } :: _) _ _); refine wpList_store_st rfl 28 _ _ rfl w1.heap.size _ rfl rfl _ (St.new w1 28 _) (by kernel_rfl) rfl (by kernel_rfl) ?_; rw [alloc_row]; intro wz hz hst; subst hz; clear hst)
    | (go_at_call 80; go_must (refine (rErr_at m s1 0 _ R1.out).mono ?_); rintro r w3 ⟨rfl, rfl⟩)
    | ((with_reducible show wpList _ _ _ ({ dst := _, op := .load _ (.tmp 9), type := _, pos := _, after := _, guard := _ } :: _) _ _); refine wpList_load_st rfl 28 _ rfl w1.heap.size rfl 28 _ C1.out _ Tryd.underlying28 rfl (by kernel_rfl) ?_)
    | (go_at_call 70; go_must (refine (hC.out _).mono ?_); rintro r w4 ⟨rfl, b4⟩; have A4 := Lib.hid (A1.out.below b4); have B4 := Lib.hid (B1.out.below b4); have R4 := Lib.hid (show Rd m s1 0 w4 from St.below R1.out b4); have K4 := Lib.hid ((K1.out.alloc (.cells #[.bool i0, .int .i64 n0, .bool i1, .int .i64 n1, .bool i2, .int .i64 n2, .bool i3, .int .i64 n3, .bool i4, .int .i64 n4] 28 (0, 0))).trans (keep_of_below (r := none) b4) (.inl rfl)); clear b4)
    | ((with_reducible show wpList _ _ _ ({ dst := _, op := .load _ (.tmp 8), type := _, pos := _, after := _, guard := _ } :: _) _ _); refine wpList_load_st rfl 28 _ rfl (w.heap.size + 1) rfl 28 _ B4.out _ Tryd.underlying28 rfl (by kernel_rfl) ?_)
    | ((with_reducible show wpList _ _ _ ({ dst := _, op := .store _ (.tmp 6) _, type := _, pos := _, after := _, guard := _ } :: _) _ _); refine wpList_store_st rfl 28 _ _ rfl w.heap.size _ rfl rfl _ A4.out (by kernel_rfl) rfl (by kernel_rfl) ?_; intro wz hz hst; have HQ := Lib.hid hz; have HR := Lib.hid hst; clear hz hst))
  refine ret_cell2 (r := 6) (t := 7) (k := w.heap.size) (T := 28) Tryd.results81 rfl rfl HR.out Tryd.underlying28 rfl (by kernel_rfl) rfl ?_
  have e0 := HQ.out
  subst e0
  exact ⟨rfl, (show Rd m s1 0 _ from St.setRow_other R4.out (by omega) _), Keep.row K4.out (Nat.le_refl _) _⟩
set_option maxRecDepth 100000 in
set_option maxHeartbeats 2000000 in
theorem agetSet_ok (m : Nat) (s : ByteArray) (e : Int) (w : World) (he : (psTake s e).2.1 = 0) (hk : okPs (psTake s e).2.2 = true) (h : Rd m s e w) :
    Calls Tryd.prog 81 #[.pointer (some ⟨m, 0, none⟩), .func (.func 82) #[] #[], .func (.func 70) #[] #[]] w fun r w' => r = .returned (.tuple #[.agg (psGet s e).1.vs.toArray, .int .i64 (psGet s e).2]) ∧ Rd m (psTake s e).1 (psTake s e).2.1 w' ∧ Keep m none w w' := by
  have hR := fun w h => areadSet_any m s e w h
  have hm := h.lt
  obtain ⟨s1, e1, p, ht⟩ : ∃ s1 e1 p, psTake s e = (s1, e1, p) := ⟨_, _, _, rfl⟩
  have hg : psGet s e = got Ps.zero okPs (s1, e1, p) := by unfold psGet; rw [ht]
  rw [hg, ht]
  rw [ht] at hR
  have hC := fun w => aCheckSet_any p w
  dsimp only at hR ⊢
  rw [ht] at he hk
  have he : e1 = 0 := he
  subst he
  have hk : okPs p = true := hk
  rw [got_ok hk]
  rw [hk] at hC
  clear hk
  clear hg ht
  obtain ⟨⟨i0, n0⟩, ⟨i1, n1⟩, ⟨i2, n2⟩, ⟨i3, n3⟩, ⟨i4, n4⟩⟩ := p
  simp only [Ps.val, Ps.vs, Po.vs, List.cons_append, List.nil_append] at hR hC ⊢
  replace hR := Lib.hid hR
  replace hC := Lib.hid hC
  have H0 := Lib.hid (show Rd m s e ((w.alloc (.cells #[.bool false, .int .i64 0, .bool false, .int .i64 0, .bool false, .int .i64 0, .bool false, .int .i64 0, .bool false, .int .i64 0] 28 (0, 0))).alloc (.cells #[.bool false, .int .i64 0, .bool false, .int .i64 0, .bool false, .int .i64 0, .bool false, .int .i64 0, .bool false, .int .i64 0] 28 (0, 0))) from St.alloc (St.alloc h _) _)
  have SA := Lib.hid ((St.new w 28 #[.bool false, .int .i64 0, .bool false, .int .i64 0, .bool false, .int .i64 0, .bool false, .int .i64 0, .bool false, .int .i64 0]).alloc (.cells #[.bool false, .int .i64 0, .bool false, .int .i64 0, .bool false, .int .i64 0, .bool false, .int .i64 0, .bool false, .int .i64 0] 28 (0, 0)))
  have SB := Lib.hid (St.new2 w (.cells #[.bool false, .int .i64 0, .bool false, .int .i64 0, .bool false, .int .i64 0, .bool false, .int .i64 0, .bool false, .int .i64 0] 28 (0, 0)) 28 #[.bool false, .int .i64 0, .bool false, .int .i64 0, .bool false, .int .i64 0, .bool false, .int .i64 0, .bool false, .int .i64 0])
  clear h
  go_enter Tryd.func81, Tryd.ntmps81
  go_wp2_with fail
  go_must (refine (hR.out _ H0.out).mono ?_)
  rintro r w1 ⟨rfl, g1, k1⟩
  have hz1 := k1.size
  simp only [World.size_alloc] at hz1
  have A1 := Lib.hid ((SA.out.keepN k1 (by omega)).alloc (.cells #[.bool i0, .int .i64 n0, .bool i1, .int .i64 n1, .bool i2, .int .i64 n2, .bool i3, .int .i64 n3, .bool i4, .int .i64 n4] 28 (0, 0)))
  have B1 := Lib.hid ((SB.out.keepN k1 (by omega)).alloc (.cells #[.bool i0, .int .i64 n0, .bool i1, .int .i64 n1, .bool i2, .int .i64 n2, .bool i3, .int .i64 n3, .bool i4, .int .i64 n4] 28 (0, 0)))
  have C1 := Lib.hid (St.new w1 28 #[.bool i0, .int .i64 n0, .bool i1, .int .i64 n1, .bool i2, .int .i64 n2, .bool i3, .int .i64 n3, .bool i4, .int .i64 n4])
  have R1 := Lib.hid (show Rd m s1 0 (w1.alloc (.cells #[.bool i0, .int .i64 n0, .bool i1, .int .i64 n1, .bool i2, .int .i64 n2, .bool i3, .int .i64 n3, .bool i4, .int .i64 n4] 28 (0, 0))) from St.alloc g1 _)
  have K1 := Lib.hid (keep_boxed1 (keep_boxed1 k1))
  clear g1 k1
  go_wp2_with (first
    | ((with_reducible show wpList _ _ _ ({ dst := _, op := .store _ (.tmp 9) _, type := _, pos := _, after := _, guard := _ } :: _) _ _); refine wpList_store_st rfl 28 _ _ rfl w1.heap.size _ rfl rfl _ (St.new w1 28 _) (by kernel_rfl) rfl (by kernel_rfl) ?_; rw [alloc_row]; intro wz hz hst; subst hz; clear hst)
    | (go_at_call 80; go_must (refine (rErr_at m s1 0 _ R1.out).mono ?_); rintro r w3 ⟨rfl, rfl⟩)
    | (go_at_call 70; go_must (refine (hC.out _).mono ?_); rintro r w4 ⟨rfl, b4⟩; have A4 := Lib.hid (A1.out.below b4); have C4 := Lib.hid (C1.out.below b4); have R4 := Lib.hid (show Rd m s1 0 w4 from St.below R1.out b4); have K4 := Lib.hid ((K1.out.alloc (.cells #[.bool i0, .int .i64 n0, .bool i1, .int .i64 n1, .bool i2, .int .i64 n2, .bool i3, .int .i64 n3, .bool i4, .int .i64 n4] 28 (0, 0))).trans (keep_of_below (r := none) b4) (.inl rfl)); clear b4)
    | ((with_reducible show wpList _ _ _ ({ dst := _, op := .store _ (.tmp 6) _, type := _, pos := _, after := _, guard := _ } :: _) _ _); refine wpList_store_st rfl 28 _ _ rfl w.heap.size _ rfl rfl _ A4.out (by kernel_rfl) rfl (by kernel_rfl) ?_; intro wz hz hst; have HQ := Lib.hid hz; have HR := Lib.hid hst; clear hz hst)
    | ((with_reducible show wpList _ _ _ ({ dst := _, op := .load _ (.tmp 9), type := _, pos := _, after := _, guard := _ } :: _) _ _); refine wpList_load_st rfl 28 _ rfl w1.heap.size rfl 28 _ (by first | exact C1.out | exact C4.out) _ Tryd.underlying28 rfl (by kernel_rfl) ?_))
  refine ret_cell2 (r := 6) (t := 7) (k := w.heap.size) (T := 28) Tryd.results81 rfl rfl HR.out Tryd.underlying28 rfl (by kernel_rfl) rfl ?_
  have e0 := HQ.out
  subst e0
  exact ⟨rfl, (show Rd m s1 0 _ from St.setRow_other R4.out (by omega) _), Keep.row K4.out (Nat.le_refl _) _⟩
theorem agetSet_any (m : Nat) (s : ByteArray) (e : Int) (w : World) (h : Rd m s e w) :
    Calls Tryd.prog 81 #[.pointer (some ⟨m, 0, none⟩), .func (.func 82) #[] #[], .func (.func 70) #[] #[]] w fun r w' => r = .returned (.tuple #[.agg (psGet s e).1.vs.toArray, .int .i64 (psGet s e).2]) ∧ Rd m (psTake s e).1 (psTake s e).2.1 w' ∧ Keep m none w w' := by
  by_cases he : (psTake s e).2.1 = 0
  · cases hk : okPs (psTake s e).2.2
    · exact agetSet_not m s e w he hk h
    · exact agetSet_ok m s e w he hk h
  · exact agetSet_err m s e w he h
set_option maxRecDepth 100000 in
set_option maxHeartbeats 2000000 in
theorem aGetSet_any (m : Nat) (s : ByteArray) (e : Int) (w : World) (h : Rd m s e w) :
    Calls Tryd.prog 60 #[.pointer (some ⟨m, 0, none⟩)] w fun r w' => r = .returned (.tuple #[.agg (psGet s e).1.vs.toArray, .int .i64 (psGet s e).2]) ∧ Rd m (psTake s e).1 (psTake s e).2.1 w' ∧ Keep m none w w' := by
  have hR := fun w h => agetSet_any m s e w h
  have hm := h.lt
  obtain ⟨p, hp⟩ : ∃ p, p = (psGet s e).1 := ⟨_, rfl⟩
  obtain ⟨x, hx⟩ : ∃ x, x = (psGet s e).2 := ⟨_, rfl⟩
  obtain ⟨s1, hs1⟩ : ∃ p, p = (psTake s e).1 := ⟨_, rfl⟩
  obtain ⟨e1, he1⟩ : ∃ x, x = (psTake s e).2.1 := ⟨_, rfl⟩
  rw [← hp, ← hx, ← hs1, ← he1] at hR ⊢
  clear hp hx hs1 he1
  obtain ⟨⟨i0, n0⟩, ⟨i1, n1⟩, ⟨i2, n2⟩, ⟨i3, n3⟩, ⟨i4, n4⟩⟩ := p
  simp only [Ps.vs, Po.vs, List.cons_append, List.nil_append] at hR ⊢
  replace hR := Lib.hid hR
  have H0 := Lib.hid (show Rd m s e (w.alloc (.cells #[.bool false, .int .i64 0, .bool false, .int .i64 0, .bool false, .int .i64 0, .bool false, .int .i64 0, .bool false, .int .i64 0] 28 (0, 0))) from St.alloc h _)
  have SA := Lib.hid (St.new w 28 #[.bool false, .int .i64 0, .bool false, .int .i64 0, .bool false, .int .i64 0, .bool false, .int .i64 0, .bool false, .int .i64 0])
  clear h
  go_enter Tryd.func60, Tryd.ntmps60
  go_wp2_with fail
  go_must (refine (hR.out _ H0.out).mono ?_)
  rintro r w1 ⟨rfl, g1, k1⟩
  have A1 := Lib.hid (SA.out.keepN k1 (by omega))
  have R1 := Lib.hid g1
  have K1 := Lib.hid (keep_boxed1 k1)
  clear g1 k1
  go_wp2_with (first
    | ((with_reducible show wpList _ _ _ ({ dst := _, op := .store _ (.tmp 2) _, type := _, pos := _, after := _, guard := _ } :: _) _ _); refine wpList_store_st rfl 28 _ _ rfl w.heap.size _ rfl rfl _ A1.out (by kernel_rfl) rfl (by kernel_rfl) ?_; intro wz hz hst; have HQ := Lib.hid hz; have HR := Lib.hid hst; clear hz hst))
  refine ret_cell2 (r := 2) (t := 3) (k := w.heap.size) (T := 28) Tryd.results60 rfl rfl HR.out Tryd.underlying28 rfl (by kernel_rfl) rfl ?_
  have e0 := HQ.out
  subst e0
  exact ⟨rfl, (show Rd m s1 e1 _ from St.setRow_other R1.out (by omega) _), Keep.row K1.out (Nat.le_refl _) _⟩
end Go.Proofs.YtdjnadgcjmlejaaDoor
