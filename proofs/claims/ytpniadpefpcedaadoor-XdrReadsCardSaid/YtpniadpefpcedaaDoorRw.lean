/- The reference's take. -/
import Derived.Test.YtpniadpefpcedaaDoorRv
namespace Go.Proofs.YtpniadpefpcedaaDoor
open Go.RowKit

set_option maxRecDepth 100000 in
set_option maxHeartbeats 1000000 in
theorem rfTake_at1 (k : Nat) (n : Int) (S s : ByteArray) (e : Int) (w : World) (hsz : S.size ≤ 1073741824) (h : Rf k S s e w) :
    Calls Tryd.prog 11 #[.pointer (some ⟨k, 0, none⟩), .int .i64 1, .int .i64 n] w fun r w' => Rook k S (rdU32 s e).1 (rdU32 s e).2.1 (.agg #[.int .i64 1, .int .i64 (rdU32 s e).2.2, .bool false, .string ⟨#[]⟩]) w r w' := by
  have hk1 : k ≠ w.heap.size := Nat.ne_of_lt (Rf.lt h)
  have hk2 : k ≠ w.heap.size + 1 := by have := Rf.lt h; omega
  have hR : Rf k S s e ((w.alloc (.cells #[.int .i64 0, .int .i64 0, .bool false, .string ⟨#[]⟩] 32 (0, 0))).alloc (.cells #[.int .i64 1, .int .i64 0, .bool false, .string ⟨#[]⟩] 32 (0, 0))) := Rf.alloc (Rf.alloc h _) _
  have hZ : St 32 w.heap.size #[.int .i64 0, .int .i64 0, .bool false, .string ⟨#[]⟩] ((w.alloc (.cells #[.int .i64 0, .int .i64 0, .bool false, .string ⟨#[]⟩] 32 (0, 0))).alloc (.cells #[.int .i64 1, .int .i64 0, .bool false, .string ⟨#[]⟩] 32 (0, 0))) := (St.new w _ _).alloc _
  have hT : St 32 (w.heap.size + 1) #[.int .i64 1, .int .i64 0, .bool false, .string ⟨#[]⟩] ((w.alloc (.cells #[.int .i64 0, .int .i64 0, .bool false, .string ⟨#[]⟩] 32 (0, 0))).alloc (.cells #[.int .i64 1, .int .i64 0, .bool false, .string ⟨#[]⟩] 32 (0, 0))) := by
    have := St.new (w.alloc (.cells #[.int .i64 0, .int .i64 0, .bool false, .string ⟨#[]⟩] 32 (0, 0))) 32 #[.int .i64 1, .int .i64 0, .bool false, .string ⟨#[]⟩]
    simpa using this
  have hu := rfU4_any k S s e _ hsz hR
  obtain ⟨u, hu2⟩ : ∃ u, u = rdU32 s e := ⟨_, rfl⟩
  rw [← hu2] at hu ⊢
  have HU := Lib.hid hu
  clear hu hu2
  go_enter Tryd.func11, Tryd.ntmps11
  go_wp2_with (go_at_call 28; go_must (refine HU.out.mono ?_); rintro e w1 ⟨rfl, hr, hk⟩; have hs1 := St.keep hT hk (Ne.symm hk2) (by simp); have hs0 := St.keep hZ hk (Ne.symm hk1) (by simp); have hz := hk.size; have c0 := hs1.cell (j := 0) rfl; have f0 := hs1.free 0; have d0 := hs0.cell (j := 0) rfl; have e0 := hs0.free 0; have c1 := hs1.cell (j := 1) rfl; have f1 := hs1.free 1; have d1 := hs0.cell (j := 1) rfl; have e1 := hs0.free 1; have c2 := hs1.cell (j := 2) rfl; have f2 := hs1.free 2; have d2 := hs0.cell (j := 2) rfl; have e2 := hs0.free 2; have c3 := hs1.cell (j := 3) rfl; have f3 := hs1.free 3; have d3 := hs0.cell (j := 3) rfl; have e3 := hs0.free 3; simp at hz)
  refine ret_cell (r := 6) (k := w.heap.size) (T := 32) Tryd.results11 (by rfl) (((((hs0.other _ _ _ (by omega)).set 0 _).set 1 _).set 2 _).set 3 _) Tryd.underlying32 rfl (by kernel_rfl) rfl ⟨rfl, (Rf.other (Rf.other (Rf.other (Rf.other (Rf.other hr _ _ _ (Ne.symm hk2)) _ _ _ (Ne.symm hk1)) _ _ _ (Ne.symm hk1)) _ _ _ (Ne.symm hk1)) _ _ _ (Ne.symm hk1)), ?_⟩
  exact (keep_new (keep_new (keep_new (keep_new (keep_new (keep_boxed1 (keep_boxed1 hk)) (Nat.le_succ _) _ _) (Nat.le_refl _) _ _) (Nat.le_refl _) _ _) (Nat.le_refl _) _ _) (Nat.le_refl _) _ _)

set_option maxRecDepth 100000 in
set_option maxHeartbeats 1000000 in
theorem rfTake_at2 (k : Nat) (n : Int) (S s : ByteArray) (e : Int) (w : World) (hsz : S.size ≤ 1073741824) (h : Rf k S s e w) :
    Calls Tryd.prog 11 #[.pointer (some ⟨k, 0, none⟩), .int .i64 2, .int .i64 n] w fun r w' => Rook k S (rdU64 s e).1 (rdU64 s e).2.1 (.agg #[.int .i64 2, .int .i64 (rdU64 s e).2.2, .bool false, .string ⟨#[]⟩]) w r w' := by
  have hk1 : k ≠ w.heap.size := Nat.ne_of_lt (Rf.lt h)
  have hk2 : k ≠ w.heap.size + 1 := by have := Rf.lt h; omega
  have hR : Rf k S s e ((w.alloc (.cells #[.int .i64 0, .int .i64 0, .bool false, .string ⟨#[]⟩] 32 (0, 0))).alloc (.cells #[.int .i64 2, .int .i64 0, .bool false, .string ⟨#[]⟩] 32 (0, 0))) := Rf.alloc (Rf.alloc h _) _
  have hZ : St 32 w.heap.size #[.int .i64 0, .int .i64 0, .bool false, .string ⟨#[]⟩] ((w.alloc (.cells #[.int .i64 0, .int .i64 0, .bool false, .string ⟨#[]⟩] 32 (0, 0))).alloc (.cells #[.int .i64 2, .int .i64 0, .bool false, .string ⟨#[]⟩] 32 (0, 0))) := (St.new w _ _).alloc _
  have hT : St 32 (w.heap.size + 1) #[.int .i64 2, .int .i64 0, .bool false, .string ⟨#[]⟩] ((w.alloc (.cells #[.int .i64 0, .int .i64 0, .bool false, .string ⟨#[]⟩] 32 (0, 0))).alloc (.cells #[.int .i64 2, .int .i64 0, .bool false, .string ⟨#[]⟩] 32 (0, 0))) := by
    have := St.new (w.alloc (.cells #[.int .i64 0, .int .i64 0, .bool false, .string ⟨#[]⟩] 32 (0, 0))) 32 #[.int .i64 2, .int .i64 0, .bool false, .string ⟨#[]⟩]
    simpa using this
  have hu := rfU8_any k S s e _ hsz hR
  obtain ⟨u, hu2⟩ : ∃ u, u = rdU64 s e := ⟨_, rfl⟩
  rw [← hu2] at hu ⊢
  have HU := Lib.hid hu
  clear hu hu2
  go_enter Tryd.func11, Tryd.ntmps11
  go_wp2_with (go_at_call 28; go_must (refine HU.out.mono ?_); rintro e w1 ⟨rfl, hr, hk⟩; have hs1 := St.keep hT hk (Ne.symm hk2) (by simp); have hs0 := St.keep hZ hk (Ne.symm hk1) (by simp); have hz := hk.size; have c0 := hs1.cell (j := 0) rfl; have f0 := hs1.free 0; have d0 := hs0.cell (j := 0) rfl; have e0 := hs0.free 0; have c1 := hs1.cell (j := 1) rfl; have f1 := hs1.free 1; have d1 := hs0.cell (j := 1) rfl; have e1 := hs0.free 1; have c2 := hs1.cell (j := 2) rfl; have f2 := hs1.free 2; have d2 := hs0.cell (j := 2) rfl; have e2 := hs0.free 2; have c3 := hs1.cell (j := 3) rfl; have f3 := hs1.free 3; have d3 := hs0.cell (j := 3) rfl; have e3 := hs0.free 3; simp at hz)
  refine ret_cell (r := 6) (k := w.heap.size) (T := 32) Tryd.results11 (by rfl) (((((hs0.other _ _ _ (by omega)).set 0 _).set 1 _).set 2 _).set 3 _) Tryd.underlying32 rfl (by kernel_rfl) rfl ⟨rfl, (Rf.other (Rf.other (Rf.other (Rf.other (Rf.other hr _ _ _ (Ne.symm hk2)) _ _ _ (Ne.symm hk1)) _ _ _ (Ne.symm hk1)) _ _ _ (Ne.symm hk1)) _ _ _ (Ne.symm hk1)), ?_⟩
  exact (keep_new (keep_new (keep_new (keep_new (keep_new (keep_boxed1 (keep_boxed1 hk)) (Nat.le_succ _) _ _) (Nat.le_refl _) _ _) (Nat.le_refl _) _ _) (Nat.le_refl _) _ _) (Nat.le_refl _) _ _)

set_option maxRecDepth 100000 in
set_option maxHeartbeats 1000000 in
theorem rfTake_at3 (k : Nat) (n : Int) (S s : ByteArray) (e : Int) (w : World) (hsz : S.size ≤ 1073741824) (h : Rf k S s e w) :
    Calls Tryd.prog 11 #[.pointer (some ⟨k, 0, none⟩), .int .i64 3, .int .i64 n] w fun r w' => Rook k S (rdBool s e).1 (rdBool s e).2.1 (.agg #[.int .i64 3, .int .i64 0, .bool (rdBool s e).2.2, .string ⟨#[]⟩]) w r w' := by
  have hk1 : k ≠ w.heap.size := Nat.ne_of_lt (Rf.lt h)
  have hk2 : k ≠ w.heap.size + 1 := by have := Rf.lt h; omega
  have hR : Rf k S s e ((w.alloc (.cells #[.int .i64 0, .int .i64 0, .bool false, .string ⟨#[]⟩] 32 (0, 0))).alloc (.cells #[.int .i64 3, .int .i64 0, .bool false, .string ⟨#[]⟩] 32 (0, 0))) := Rf.alloc (Rf.alloc h _) _
  have hZ : St 32 w.heap.size #[.int .i64 0, .int .i64 0, .bool false, .string ⟨#[]⟩] ((w.alloc (.cells #[.int .i64 0, .int .i64 0, .bool false, .string ⟨#[]⟩] 32 (0, 0))).alloc (.cells #[.int .i64 3, .int .i64 0, .bool false, .string ⟨#[]⟩] 32 (0, 0))) := (St.new w _ _).alloc _
  have hT : St 32 (w.heap.size + 1) #[.int .i64 3, .int .i64 0, .bool false, .string ⟨#[]⟩] ((w.alloc (.cells #[.int .i64 0, .int .i64 0, .bool false, .string ⟨#[]⟩] 32 (0, 0))).alloc (.cells #[.int .i64 3, .int .i64 0, .bool false, .string ⟨#[]⟩] 32 (0, 0))) := by
    have := St.new (w.alloc (.cells #[.int .i64 0, .int .i64 0, .bool false, .string ⟨#[]⟩] 32 (0, 0))) 32 #[.int .i64 3, .int .i64 0, .bool false, .string ⟨#[]⟩]
    simpa using this
  have hu := rfTruth_any k S s e _ hsz hR
  obtain ⟨u, hu2⟩ : ∃ u, u = rdBool s e := ⟨_, rfl⟩
  rw [← hu2] at hu ⊢
  have HU := Lib.hid hu
  clear hu hu2
  go_enter Tryd.func11, Tryd.ntmps11
  go_wp2_with (go_at_call 29; go_must (refine HU.out.mono ?_); rintro e w1 ⟨rfl, hr, hk⟩; have hs1 := St.keep hT hk (Ne.symm hk2) (by simp); have hs0 := St.keep hZ hk (Ne.symm hk1) (by simp); have hz := hk.size; have c0 := hs1.cell (j := 0) rfl; have f0 := hs1.free 0; have d0 := hs0.cell (j := 0) rfl; have e0 := hs0.free 0; have c1 := hs1.cell (j := 1) rfl; have f1 := hs1.free 1; have d1 := hs0.cell (j := 1) rfl; have e1 := hs0.free 1; have c2 := hs1.cell (j := 2) rfl; have f2 := hs1.free 2; have d2 := hs0.cell (j := 2) rfl; have e2 := hs0.free 2; have c3 := hs1.cell (j := 3) rfl; have f3 := hs1.free 3; have d3 := hs0.cell (j := 3) rfl; have e3 := hs0.free 3; simp at hz)
  refine ret_cell (r := 6) (k := w.heap.size) (T := 32) Tryd.results11 (by rfl) (((((hs0.other _ _ _ (by omega)).set 0 _).set 1 _).set 2 _).set 3 _) Tryd.underlying32 rfl (by kernel_rfl) rfl ⟨rfl, (Rf.other (Rf.other (Rf.other (Rf.other (Rf.other hr _ _ _ (Ne.symm hk2)) _ _ _ (Ne.symm hk1)) _ _ _ (Ne.symm hk1)) _ _ _ (Ne.symm hk1)) _ _ _ (Ne.symm hk1)), ?_⟩
  exact (keep_new (keep_new (keep_new (keep_new (keep_new (keep_boxed1 (keep_boxed1 hk)) (Nat.le_succ _) _ _) (Nat.le_refl _) _ _) (Nat.le_refl _) _ _) (Nat.le_refl _) _ _) (Nat.le_refl _) _ _)

set_option maxRecDepth 100000 in
set_option maxHeartbeats 1000000 in
theorem rfTake_at4 (k : Nat) (n : Int) (S s : ByteArray) (e : Int) (w : World) (hsz : S.size ≤ 1073741824) (h : Rf k S s e w) :
    Calls Tryd.prog 11 #[.pointer (some ⟨k, 0, none⟩), .int .i64 4, .int .i64 n] w fun r w' => Rook k S (rdFixed n s e).1 (rdFixed n s e).2.1 (.agg #[.int .i64 4, .int .i64 0, .bool false, .string (rdFixed n s e).2.2]) w r w' := by
  have hk1 : k ≠ w.heap.size := Nat.ne_of_lt (Rf.lt h)
  have hk2 : k ≠ w.heap.size + 1 := by have := Rf.lt h; omega
  have hR : Rf k S s e ((w.alloc (.cells #[.int .i64 0, .int .i64 0, .bool false, .string ⟨#[]⟩] 32 (0, 0))).alloc (.cells #[.int .i64 4, .int .i64 0, .bool false, .string ⟨#[]⟩] 32 (0, 0))) := Rf.alloc (Rf.alloc h _) _
  have hZ : St 32 w.heap.size #[.int .i64 0, .int .i64 0, .bool false, .string ⟨#[]⟩] ((w.alloc (.cells #[.int .i64 0, .int .i64 0, .bool false, .string ⟨#[]⟩] 32 (0, 0))).alloc (.cells #[.int .i64 4, .int .i64 0, .bool false, .string ⟨#[]⟩] 32 (0, 0))) := (St.new w _ _).alloc _
  have hT : St 32 (w.heap.size + 1) #[.int .i64 4, .int .i64 0, .bool false, .string ⟨#[]⟩] ((w.alloc (.cells #[.int .i64 0, .int .i64 0, .bool false, .string ⟨#[]⟩] 32 (0, 0))).alloc (.cells #[.int .i64 4, .int .i64 0, .bool false, .string ⟨#[]⟩] 32 (0, 0))) := by
    have := St.new (w.alloc (.cells #[.int .i64 0, .int .i64 0, .bool false, .string ⟨#[]⟩] 32 (0, 0))) 32 #[.int .i64 4, .int .i64 0, .bool false, .string ⟨#[]⟩]
    simpa using this
  have hu := rfFixed_any k n S s e _ hsz hR
  obtain ⟨u, hu2⟩ : ∃ u, u = rdFixed n s e := ⟨_, rfl⟩
  rw [← hu2] at hu ⊢
  have HU := Lib.hid hu
  clear hu hu2
  go_enter Tryd.func11, Tryd.ntmps11
  go_wp2_with (go_at_call 30; go_must (refine HU.out.mono ?_); rintro e w1 ⟨rfl, hr, hk⟩; have hs1 := St.keep hT hk (Ne.symm hk2) (by simp); have hs0 := St.keep hZ hk (Ne.symm hk1) (by simp); have hz := hk.size; have c0 := hs1.cell (j := 0) rfl; have f0 := hs1.free 0; have d0 := hs0.cell (j := 0) rfl; have e0 := hs0.free 0; have c1 := hs1.cell (j := 1) rfl; have f1 := hs1.free 1; have d1 := hs0.cell (j := 1) rfl; have e1 := hs0.free 1; have c2 := hs1.cell (j := 2) rfl; have f2 := hs1.free 2; have d2 := hs0.cell (j := 2) rfl; have e2 := hs0.free 2; have c3 := hs1.cell (j := 3) rfl; have f3 := hs1.free 3; have d3 := hs0.cell (j := 3) rfl; have e3 := hs0.free 3; simp at hz)
  refine ret_cell (r := 6) (k := w.heap.size) (T := 32) Tryd.results11 (by rfl) (((((hs0.other _ _ _ (by omega)).set 0 _).set 1 _).set 2 _).set 3 _) Tryd.underlying32 rfl (by kernel_rfl) rfl ⟨rfl, (Rf.other (Rf.other (Rf.other (Rf.other (Rf.other hr _ _ _ (Ne.symm hk2)) _ _ _ (Ne.symm hk1)) _ _ _ (Ne.symm hk1)) _ _ _ (Ne.symm hk1)) _ _ _ (Ne.symm hk1)), ?_⟩
  exact (keep_new (keep_new (keep_new (keep_new (keep_new (keep_boxed1 (keep_boxed1 hk)) (Nat.le_succ _) _ _) (Nat.le_refl _) _ _) (Nat.le_refl _) _ _) (Nat.le_refl _) _ _) (Nat.le_refl _) _ _)

set_option maxRecDepth 100000 in
set_option maxHeartbeats 1000000 in
theorem rfTake_at5 (k : Nat) (n : Int) (S s : ByteArray) (e : Int) (w : World) (hsz : S.size ≤ 1073741824) (h : Rf k S s e w) :
    Calls Tryd.prog 11 #[.pointer (some ⟨k, 0, none⟩), .int .i64 5, .int .i64 n] w fun r w' => Rook k S (rdOpaque n s e).1 (rdOpaque n s e).2.1 (.agg #[.int .i64 5, .int .i64 0, .bool false, .string (rdOpaque n s e).2.2]) w r w' := by
  have hk1 : k ≠ w.heap.size := Nat.ne_of_lt (Rf.lt h)
  have hk2 : k ≠ w.heap.size + 1 := by have := Rf.lt h; omega
  have hR : Rf k S s e ((w.alloc (.cells #[.int .i64 0, .int .i64 0, .bool false, .string ⟨#[]⟩] 32 (0, 0))).alloc (.cells #[.int .i64 5, .int .i64 0, .bool false, .string ⟨#[]⟩] 32 (0, 0))) := Rf.alloc (Rf.alloc h _) _
  have hZ : St 32 w.heap.size #[.int .i64 0, .int .i64 0, .bool false, .string ⟨#[]⟩] ((w.alloc (.cells #[.int .i64 0, .int .i64 0, .bool false, .string ⟨#[]⟩] 32 (0, 0))).alloc (.cells #[.int .i64 5, .int .i64 0, .bool false, .string ⟨#[]⟩] 32 (0, 0))) := (St.new w _ _).alloc _
  have hT : St 32 (w.heap.size + 1) #[.int .i64 5, .int .i64 0, .bool false, .string ⟨#[]⟩] ((w.alloc (.cells #[.int .i64 0, .int .i64 0, .bool false, .string ⟨#[]⟩] 32 (0, 0))).alloc (.cells #[.int .i64 5, .int .i64 0, .bool false, .string ⟨#[]⟩] 32 (0, 0))) := by
    have := St.new (w.alloc (.cells #[.int .i64 0, .int .i64 0, .bool false, .string ⟨#[]⟩] 32 (0, 0))) 32 #[.int .i64 5, .int .i64 0, .bool false, .string ⟨#[]⟩]
    simpa using this
  have hu := rfText_any k n S s e _ hsz hR
  obtain ⟨u, hu2⟩ : ∃ u, u = rdOpaque n s e := ⟨_, rfl⟩
  rw [← hu2] at hu ⊢
  have HU := Lib.hid hu
  clear hu hu2
  go_enter Tryd.func11, Tryd.ntmps11
  go_wp2_with (go_at_call 31; go_must (refine HU.out.mono ?_); rintro e w1 ⟨rfl, hr, hk⟩; have hs1 := St.keep hT hk (Ne.symm hk2) (by simp); have hs0 := St.keep hZ hk (Ne.symm hk1) (by simp); have hz := hk.size; have c0 := hs1.cell (j := 0) rfl; have f0 := hs1.free 0; have d0 := hs0.cell (j := 0) rfl; have e0 := hs0.free 0; have c1 := hs1.cell (j := 1) rfl; have f1 := hs1.free 1; have d1 := hs0.cell (j := 1) rfl; have e1 := hs0.free 1; have c2 := hs1.cell (j := 2) rfl; have f2 := hs1.free 2; have d2 := hs0.cell (j := 2) rfl; have e2 := hs0.free 2; have c3 := hs1.cell (j := 3) rfl; have f3 := hs1.free 3; have d3 := hs0.cell (j := 3) rfl; have e3 := hs0.free 3; simp at hz)
  refine ret_cell (r := 6) (k := w.heap.size) (T := 32) Tryd.results11 (by rfl) (((((hs0.other _ _ _ (by omega)).set 0 _).set 1 _).set 2 _).set 3 _) Tryd.underlying32 rfl (by kernel_rfl) rfl ⟨rfl, (Rf.other (Rf.other (Rf.other (Rf.other (Rf.other hr _ _ _ (Ne.symm hk2)) _ _ _ (Ne.symm hk1)) _ _ _ (Ne.symm hk1)) _ _ _ (Ne.symm hk1)) _ _ _ (Ne.symm hk1)), ?_⟩
  exact (keep_new (keep_new (keep_new (keep_new (keep_new (keep_boxed1 (keep_boxed1 hk)) (Nat.le_succ _) _ _) (Nat.le_refl _) _ _) (Nat.le_refl _) _ _) (Nat.le_refl _) _ _) (Nat.le_refl _) _ _)

set_option maxRecDepth 100000 in
set_option maxHeartbeats 1000000 in
theorem rfTake_at6 (k : Nat) (n : Int) (S s : ByteArray) (e : Int) (w : World) (hsz : S.size ≤ 1073741824) (h : Rf k S s e w) :
    Calls Tryd.prog 11 #[.pointer (some ⟨k, 0, none⟩), .int .i64 6, .int .i64 n] w fun r w' => Rook k S (rdOpt s e).1 (rdOpt s e).2.1 (.agg #[.int .i64 6, .int .i64 (rdOpt s e).2.2.2, .bool (rdOpt s e).2.2.1, .string ⟨#[]⟩]) w r w' := by
  have hk1 : k ≠ w.heap.size := Nat.ne_of_lt (Rf.lt h)
  have hk2 : k ≠ w.heap.size + 1 := by have := Rf.lt h; omega
  have hR : Rf k S s e ((w.alloc (.cells #[.int .i64 0, .int .i64 0, .bool false, .string ⟨#[]⟩] 32 (0, 0))).alloc (.cells #[.int .i64 6, .int .i64 0, .bool false, .string ⟨#[]⟩] 32 (0, 0))) := Rf.alloc (Rf.alloc h _) _
  have hZ : St 32 w.heap.size #[.int .i64 0, .int .i64 0, .bool false, .string ⟨#[]⟩] ((w.alloc (.cells #[.int .i64 0, .int .i64 0, .bool false, .string ⟨#[]⟩] 32 (0, 0))).alloc (.cells #[.int .i64 6, .int .i64 0, .bool false, .string ⟨#[]⟩] 32 (0, 0))) := (St.new w _ _).alloc _
  have hT : St 32 (w.heap.size + 1) #[.int .i64 6, .int .i64 0, .bool false, .string ⟨#[]⟩] ((w.alloc (.cells #[.int .i64 0, .int .i64 0, .bool false, .string ⟨#[]⟩] 32 (0, 0))).alloc (.cells #[.int .i64 6, .int .i64 0, .bool false, .string ⟨#[]⟩] 32 (0, 0))) := by
    have := St.new (w.alloc (.cells #[.int .i64 0, .int .i64 0, .bool false, .string ⟨#[]⟩] 32 (0, 0))) 32 #[.int .i64 6, .int .i64 0, .bool false, .string ⟨#[]⟩]
    simpa using this
  have hu := rfOpt_any k S s e _ hsz hR
  obtain ⟨u, hu2⟩ : ∃ u, u = rdOpt s e := ⟨_, rfl⟩
  rw [← hu2] at hu ⊢
  have HU := Lib.hid hu
  clear hu hu2
  go_enter Tryd.func11, Tryd.ntmps11
  go_wp2_with (go_at_call 32; go_must (refine HU.out.mono ?_); rintro e w1 ⟨rfl, hr, hk⟩; have hs1 := St.alloc (St.keep hT hk (Ne.symm hk2) (by simp)) (.cells #[.bool u.2.2.1, .int .i64 u.2.2.2] 49 (0, 0)); have hs0 := St.alloc (St.keep hZ hk (Ne.symm hk1) (by simp)) (.cells #[.bool u.2.2.1, .int .i64 u.2.2.2] 49 (0, 0)); have hz := hk.size; have c0 := hs1.cell (j := 0) rfl; have f0 := hs1.free 0; have d0 := hs0.cell (j := 0) rfl; have e0 := hs0.free 0; have c1 := hs1.cell (j := 1) rfl; have f1 := hs1.free 1; have d1 := hs0.cell (j := 1) rfl; have e1 := hs0.free 1; have c2 := hs1.cell (j := 2) rfl; have f2 := hs1.free 2; have d2 := hs0.cell (j := 2) rfl; have e2 := hs0.free 2; have c3 := hs1.cell (j := 3) rfl; have f3 := hs1.free 3; have d3 := hs0.cell (j := 3) rfl; have e3 := hs0.free 3; simp at hz)
  refine ret_cell (r := 6) (k := w.heap.size) (T := 32) Tryd.results11 (by rfl) ((((((hs0.other _ _ _ (by omega)).other _ _ _ (by omega)).set 0 _).set 1 _).set 2 _).set 3 _) Tryd.underlying32 rfl (by kernel_rfl) rfl ⟨rfl, (Rf.other (Rf.other (Rf.other (Rf.other (Rf.other (Rf.other (Rf.alloc hr _) _ _ _ (Ne.symm hk2)) _ _ _ (Ne.symm hk2)) _ _ _ (Ne.symm hk1)) _ _ _ (Ne.symm hk1)) _ _ _ (Ne.symm hk1)) _ _ _ (Ne.symm hk1)), ?_⟩
  exact (keep_new (keep_new (keep_new (keep_new (keep_new (keep_new ((keep_boxed1 (keep_boxed1 hk)).alloc _) (Nat.le_succ _) _ _) (Nat.le_succ _) _ _) (Nat.le_refl _) _ _) (Nat.le_refl _) _ _) (Nat.le_refl _) _ _) (Nat.le_refl _) _ _)

set_option maxRecDepth 100000 in
set_option maxHeartbeats 1000000 in
theorem rfTake_at0 (k : Nat) (kind n : Int) (S s : ByteArray) (e : Int) (w : World) (h : Rf k S s e w) (k1 : kind ≠ 1) (k2 : kind ≠ 2) (k3 : kind ≠ 3) (k4 : kind ≠ 4) (k5 : kind ≠ 5) (k6 : kind ≠ 6) :
    Calls Tryd.prog 11 #[.pointer (some ⟨k, 0, none⟩), .int .i64 kind, .int .i64 n] w fun r w' => Rook k S s e (.agg #[.int .i64 kind, .int .i64 0, .bool false, .string ⟨#[]⟩]) w r w' := by
  go_enter Tryd.func11, Tryd.ntmps11
  go_wp2
  refine ret_cell (r := 6) (k := w.heap.size) (T := 32) Tryd.results11 (by rfl) ((St.new w 32 #[.int .i64 kind, .int .i64 0, .bool false, .string ⟨#[]⟩]).alloc _) Tryd.underlying32 rfl (by kernel_rfl) rfl ⟨rfl, Rf.alloc (Rf.alloc h _) _, ?_⟩
  exact keep_boxed0.alloc _

theorem rfTake_any (k : Nat) (kind n : Int) (S s : ByteArray) (e : Int) (w : World) (hsz : S.size ≤ 1073741824) (h : Rf k S s e w) :
    Calls Tryd.prog 11 #[.pointer (some ⟨k, 0, none⟩), .int .i64 kind, .int .i64 n] w fun r w' => Rook k S (rdTake kind n s e).1 (rdTake kind n s e).2.1 (.agg #[.int .i64 kind, .int .i64 (rdTake kind n s e).2.2.1, .bool (rdTake kind n s e).2.2.2.1, .string (rdTake kind n s e).2.2.2.2]) w r w' := by
  rcases kinds kind with rfl | rfl | rfl | rfl | rfl | rfl | ⟨k1, k2, k3, k4, k5, k6⟩
  · exact rfTake_at1 k n S s e w hsz h
  · exact rfTake_at2 k n S s e w hsz h
  · exact rfTake_at3 k n S s e w hsz h
  · exact rfTake_at4 k n S s e w hsz h
  · exact rfTake_at5 k n S s e w hsz h
  · exact rfTake_at6 k n S s e w hsz h
  · have ed : rdTake kind n s e = (s, e, 0, false, ⟨#[]⟩) := by unfold rdTake; rw [if_neg k1, if_neg k2, if_neg k3, if_neg k4, if_neg k5, if_neg k6]
    rw [ed]
    exact rfTake_at0 k kind n S s e w h k1 k2 k3 k4 k5 k6
end Go.Proofs.YtpniadpefpcedaaDoor
