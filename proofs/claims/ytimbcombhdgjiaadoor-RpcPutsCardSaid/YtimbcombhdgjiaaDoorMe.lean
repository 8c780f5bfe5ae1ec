/- Messages: the program's read, its ways. -/
import Derived.Test.YtimbcombhdgjiaaDoorMd
namespace Go.Proofs.YtimbcombhdgjiaaDoor
open Go.RowKit
set_option linter.unusedSimpArgs false
set_option linter.unusedVariables false

theorem extract_all (s : ByteArray) : s.extract (4 * 0) s.size = s := by
  apply ByteArray.ext
  simp
/-- Where bytes end ahead of a number that is asked for. -/
def goneAll (s : ByteArray) : Prop := s.size < 8 ∨ (atW s 1 = 0 ∧ goneC s) ∨ (atW s 1 = 1 ∧ s.size < 24)
theorem goneAll_get {s : ByteArray} (hz : s.size ≤ 2048) (h : goneAll s) : mgGet s = (Mg.zero, 14) := by
  rcases h with h | ⟨h1, h2⟩ | ⟨h1, h2⟩
  · exact gone8_get h
  · exact goneC_get hz h1 h2
  · exact goneR_get hz h1 h2
/-- Behind the reading: the result's block. -/
structure RG (k g : Nat) (w W : World) : Prop where
  res : St 25 g mz W
  keep : Keep k none w W
  ng : w.heap.size ≤ g
theorem RA.told {k g i : Nat} {s : ByteArray} {w W W' : World} (h : RA k g i s w W) (hk : Keep k none W W') : RG k g w W' :=
  ⟨St.keep h.res hk h.kg.symm (by simp), h.keep.trans hk (.inl rfl), h.ng⟩
theorem read_start (s : ByteArray) (w : World) : RA (w.heap.size + 1) w.heap.size 0 s w ((w.alloc (.cells #[.int .i64 0, .bool false, .bool false, .int .i64 0, .int .i64 0, .int .i64 0, .int .i64 0, .int .i64 0, .int .i64 0, .string ⟨#[]⟩] 25 (0, 0))).alloc (.cells #[.string s, .int .i64 0] 68 (0, 0))) :=
  ⟨by rw [extract_all]; exact St.new1 w _ 68 _, (St.new w 25 mz).alloc _, ((Keep.refl _ none w).alloc _).alloc _, by omega, Nat.le_refl _⟩
theorem mz_zero : Mg.zero.arr = mz := rfl

set_option maxRecDepth 100000 in
set_option maxHeartbeats 2000000 in
theorem rcread_gone0 (s : ByteArray) (w : World) (h1 : s.size < 4) : Calls Tryd.prog 24 #[.string s] w fun e w' => e = .panicked thrown ∧ Below w.heap.size w w' := by
  have A0 := Lib.hid (read_start s w)
  have HG : ∀ W, Rd (w.heap.size + 1) (s.extract (4 * 0) s.size) 0 W → Calls Tryd.prog 33 #[.pointer (some ⟨w.heap.size + 1, 0, none⟩)] W fun e w' => e = .panicked thrown ∧ Keep (w.heap.size + 1) none W w' := fun W h => mnext_gone (w.heap.size + 1) 0 s W h (by omega)
  replace HG := Lib.hid HG
  clear h1
  go_enter Tryd.func24, Tryd.ntmps24
  go_wp2_with (first
    | (go_at_call 32; go_must (refine (rRead_eq s _).mono ?_); rintro r w1 ⟨rfl, rfl⟩)
    | (go_at_call 33; with_reducible refine (HG.out _ A0.out.rd).mono ?_; rintro e v0 ⟨rfl, kx⟩; have KX := Lib.hid (A0.out.keep.trans kx (.inl rfl)); clear kx))
  simp only [bodyPost]
  exact ⟨trivial, trivial, KX.out.below (by omega) (Nat.le_refl _) (fun _ e => by cases e)⟩

set_option maxRecDepth 100000 in
set_option maxHeartbeats 2000000 in
theorem rcread_gone1 (s : ByteArray) (w : World) (h0 : 4 ≤ s.size) (h1 : s.size < 8) : Calls Tryd.prog 24 #[.string s] w fun e w' => e = .panicked thrown ∧ Below w.heap.size w w' := by
  have A0 := Lib.hid (read_start s w)
  have H0 : ∀ W, Rd (w.heap.size + 1) (s.extract (4 * 0) s.size) 0 W → Calls Tryd.prog 33 #[.pointer (some ⟨w.heap.size + 1, 0, none⟩)] W fun e w' => e = .returned (.int .i64 (atW s 0)) ∧ Rd (w.heap.size + 1) (s.extract (4 * 1) s.size) 0 w' ∧ Keep (w.heap.size + 1) none W w' := fun W h => mnext_at (w.heap.size + 1) 0 s W h (by omega)
  obtain ⟨x, hx⟩ : ∃ x, x = atW s 0 := ⟨_, rfl⟩
  rw [← hx] at H0
  replace H0 := Lib.hid H0
  clear hx h0
  have HG : ∀ W, Rd (w.heap.size + 1) (s.extract (4 * 1) s.size) 0 W → Calls Tryd.prog 33 #[.pointer (some ⟨w.heap.size + 1, 0, none⟩)] W fun e w' => e = .panicked thrown ∧ Keep (w.heap.size + 1) none W w' := fun W h => mnext_gone (w.heap.size + 1) 1 s W h (by omega)
  replace HG := Lib.hid HG
  clear h1
  go_enter Tryd.func24, Tryd.ntmps24
  go_wp2_with (first
    | (go_at_call 32; go_must (refine (rRead_eq s _).mono ?_); rintro r w1 ⟨rfl, rfl⟩)
    | (go_at_call 33; with_reducible refine (H0.out _ A0.out.rd).mono ?_; rintro e v0 ⟨rfl, gx, kx⟩; have A1 := Lib.hid (A0.out.call gx kx); clear gx kx)
    | (go_at_call 33; with_reducible refine (HG.out _ A1.out.rd).mono ?_; rintro e v1 ⟨rfl, kx⟩; have KX := Lib.hid (A1.out.keep.trans kx (.inl rfl)); clear kx))
  simp only [bodyPost]
  exact ⟨trivial, trivial, KX.out.below (by omega) (Nat.le_refl _) (fun _ e => by cases e)⟩

set_option maxRecDepth 100000 in
set_option maxHeartbeats 2000000 in
theorem rcread_goneCall (s : ByteArray) (w : World) (h0 : 8 ≤ s.size) (a1 : atW s 1 = 0) (hg : goneC s) : Calls Tryd.prog 24 #[.string s] w fun e w' => e = .panicked thrown ∧ Below w.heap.size w w' := by
  have A0 := Lib.hid (read_start s w)
  have H0 : ∀ W, Rd (w.heap.size + 1) (s.extract (4 * 0) s.size) 0 W → Calls Tryd.prog 33 #[.pointer (some ⟨w.heap.size + 1, 0, none⟩)] W fun e w' => e = .returned (.int .i64 (atW s 0)) ∧ Rd (w.heap.size + 1) (s.extract (4 * 1) s.size) 0 w' ∧ Keep (w.heap.size + 1) none W w' := fun W h => mnext_at (w.heap.size + 1) 0 s W h (by omega)
  have H1 : ∀ W, Rd (w.heap.size + 1) (s.extract (4 * 1) s.size) 0 W → Calls Tryd.prog 33 #[.pointer (some ⟨w.heap.size + 1, 0, none⟩)] W fun e w' => e = .returned (.int .i64 (atW s 1)) ∧ Rd (w.heap.size + 1) (s.extract (4 * 2) s.size) 0 w' ∧ Keep (w.heap.size + 1) none W w' := fun W h => mnext_at (w.heap.size + 1) 1 s W h (by omega)
  obtain ⟨x, hx⟩ : ∃ x, x = atW s 0 := ⟨_, rfl⟩
  rw [← hx] at H0
  replace H0 := Lib.hid H0
  rw [a1] at H1
  replace H1 := Lib.hid H1
  have HG : ∀ W, Rd (w.heap.size + 1) (s.extract (4 * 2) s.size) 0 W → Calls Tryd.prog 34 #[.string s, .int .i64 x, .pointer (some ⟨w.heap.size + 1, 0, none⟩)] W fun e w' => e = .panicked thrown ∧ Keep (w.heap.size + 1) none W w' := fun W h => readCall_gone (w.heap.size + 1) s x W h h0 hg
  replace HG := Lib.hid HG
  clear h0 a1 hg hx
  go_enter Tryd.func24, Tryd.ntmps24
  go_wp2_with (first
    | (go_at_call 32; go_must (refine (rRead_eq s _).mono ?_); rintro r w1 ⟨rfl, rfl⟩)
    | (go_at_call 33; with_reducible refine (H0.out _ A0.out.rd).mono ?_; rintro e v0 ⟨rfl, gx, kx⟩; have A1 := Lib.hid (A0.out.call gx kx); clear gx kx)
    | (go_at_call 33; with_reducible refine (H1.out _ A1.out.rd).mono ?_; rintro e v1 ⟨rfl, gx, kx⟩; have A2 := Lib.hid (A1.out.call gx kx); clear gx kx)
    | (go_at_call 34; with_reducible refine (HG.out _ A2.out.rd).mono ?_; rintro e v3 ⟨rfl, kx⟩; have KX := Lib.hid (A2.out.keep.trans kx (.inl rfl)); clear kx))
  simp only [bodyPost]
  exact ⟨trivial, trivial, KX.out.below (by omega) (Nat.le_refl _) (fun _ e => by cases e)⟩

set_option maxRecDepth 100000 in
set_option maxHeartbeats 2000000 in
theorem rcread_Call (s : ByteArray) (w : World) (h0 : 8 ≤ s.size) (a1 : atW s 1 = 0) (hz : s.size ≤ 2048) (hg : ¬ goneC s) : Calls Tryd.prog 24 #[.string s] w fun e w' => Told s e ∧ Below w.heap.size w w' := by
  have A0 := Lib.hid (read_start s w)
  have H0 : ∀ W, Rd (w.heap.size + 1) (s.extract (4 * 0) s.size) 0 W → Calls Tryd.prog 33 #[.pointer (some ⟨w.heap.size + 1, 0, none⟩)] W fun e w' => e = .returned (.int .i64 (atW s 0)) ∧ Rd (w.heap.size + 1) (s.extract (4 * 1) s.size) 0 w' ∧ Keep (w.heap.size + 1) none W w' := fun W h => mnext_at (w.heap.size + 1) 0 s W h (by omega)
  have H1 : ∀ W, Rd (w.heap.size + 1) (s.extract (4 * 1) s.size) 0 W → Calls Tryd.prog 33 #[.pointer (some ⟨w.heap.size + 1, 0, none⟩)] W fun e w' => e = .returned (.int .i64 (atW s 1)) ∧ Rd (w.heap.size + 1) (s.extract (4 * 2) s.size) 0 w' ∧ Keep (w.heap.size + 1) none W w' := fun W h => mnext_at (w.heap.size + 1) 1 s W h (by omega)
  obtain ⟨x, hx⟩ : ∃ x, x = atW s 0 := ⟨_, rfl⟩
  rw [← hx] at H0
  replace H0 := Lib.hid H0
  rw [a1] at H1
  replace H1 := Lib.hid H1
  have HT : ∀ W, Rd (w.heap.size + 1) (s.extract (4 * 2) s.size) 0 W → Calls Tryd.prog 34 #[.string s, .int .i64 x, .pointer (some ⟨w.heap.size + 1, 0, none⟩)] W fun e w' => Told s e ∧ Keep (w.heap.size + 1) none W w' := fun W h => by rw [hx]; exact readCall_any (w.heap.size + 1) s W h hz a1 hg
  unfold Told at HT ⊢
  have hc : (mgGet s).1.arr.size = 10 := rfl
  have ho := Mg.arr_one (mgGet s).1
  obtain ⟨row, hrow⟩ : ∃ row, row = (mgGet s).1.arr := ⟨_, rfl⟩
  obtain ⟨er, her⟩ : ∃ er, er = (mgGet s).2 := ⟨_, rfl⟩
  rw [← hrow] at hc ho
  rw [← hrow, ← her] at HT ⊢
  replace HT := Lib.hid HT
  have HC := Lib.hid hc
  have HO := Lib.hid ho
  clear h0 a1 hg hx hz hc ho hrow her
  go_enter Tryd.func24, Tryd.ntmps24
  go_wp2_with (first
    | (go_at_call 32; go_must (refine (rRead_eq s _).mono ?_); rintro r w1 ⟨rfl, rfl⟩)
    | (go_at_call 33; with_reducible refine (H0.out _ A0.out.rd).mono ?_; rintro e v0 ⟨rfl, gx, kx⟩; have A1 := Lib.hid (A0.out.call gx kx); clear gx kx)
    | (go_at_call 33; with_reducible refine (H1.out _ A1.out.rd).mono ?_; rintro e v1 ⟨rfl, gx, kx⟩; have A2 := Lib.hid (A1.out.call gx kx); clear gx kx)
    | (go_at_call 34; with_reducible refine (HT.out _ A2.out.rd).mono ?_; rintro e v3 ⟨rfl, kx⟩; have A3 := Lib.hid (A2.out.told kx); clear kx)
    | ((with_reducible show wpList _ _ _ ({ dst := _, op := .store 25 (.tmp 2) (.tmp 18), type := _, pos := _, after := _, guard := _ } :: _) _ _); refine wpList_store_st rfl 25 _ _ rfl w.heap.size row rfl rfl mz A3.out.res (by rw [HC.out]; kernel_rfl) (by first | rfl | (rw [HC.out]; rfl)) HO.out ?_; intro wy hy sy; have SY := Lib.hid sy; have KY := Lib.hid (show Keep (w.heap.size + 1) none w wy from hy ▸ keep_row A3.out.keep A3.out.ng _); clear hy sy))
  refine ret_cell2 (r := 2) (t := 3) (k := w.heap.size) (T := 25) Tryd.results24 rfl rfl SY.out Tryd.underlying25 rfl (by rw [HC.out]; kernel_rfl) rfl ?_
  exact ⟨rfl, KY.out.below (by omega) (Nat.le_refl _) (fun _ e => by cases e)⟩

set_option maxRecDepth 100000 in
set_option maxHeartbeats 2000000 in
theorem rcread_goneReply (s : ByteArray) (w : World) (h0 : 8 ≤ s.size) (a1 : atW s 1 = 1) (hg : s.size < 24) : Calls Tryd.prog 24 #[.string s] w fun e w' => e = .panicked thrown ∧ Below w.heap.size w w' := by
  have A0 := Lib.hid (read_start s w)
  have H0 : ∀ W, Rd (w.heap.size + 1) (s.extract (4 * 0) s.size) 0 W → Calls Tryd.prog 33 #[.pointer (some ⟨w.heap.size + 1, 0, none⟩)] W fun e w' => e = .returned (.int .i64 (atW s 0)) ∧ Rd (w.heap.size + 1) (s.extract (4 * 1) s.size) 0 w' ∧ Keep (w.heap.size + 1) none W w' := fun W h => mnext_at (w.heap.size + 1) 0 s W h (by omega)
  have H1 : ∀ W, Rd (w.heap.size + 1) (s.extract (4 * 1) s.size) 0 W → Calls Tryd.prog 33 #[.pointer (some ⟨w.heap.size + 1, 0, none⟩)] W fun e w' => e = .returned (.int .i64 (atW s 1)) ∧ Rd (w.heap.size + 1) (s.extract (4 * 2) s.size) 0 w' ∧ Keep (w.heap.size + 1) none W w' := fun W h => mnext_at (w.heap.size + 1) 1 s W h (by omega)
  obtain ⟨x, hx⟩ : ∃ x, x = atW s 0 := ⟨_, rfl⟩
  rw [← hx] at H0
  replace H0 := Lib.hid H0
  rw [a1] at H1
  replace H1 := Lib.hid H1
  have HG : ∀ W, Rd (w.heap.size + 1) (s.extract (4 * 2) s.size) 0 W → Calls Tryd.prog 35 #[.string s, .int .i64 x, .pointer (some ⟨w.heap.size + 1, 0, none⟩)] W fun e w' => e = .panicked thrown ∧ Keep (w.heap.size + 1) none W w' := fun W h => readReply_gone (w.heap.size + 1) s x W h h0 hg
  replace HG := Lib.hid HG
  clear h0 a1 hg hx
  go_enter Tryd.func24, Tryd.ntmps24
  go_wp2_with (first
    | (go_at_call 32; go_must (refine (rRead_eq s _).mono ?_); rintro r w1 ⟨rfl, rfl⟩)
    | (go_at_call 33; with_reducible refine (H0.out _ A0.out.rd).mono ?_; rintro e v0 ⟨rfl, gx, kx⟩; have A1 := Lib.hid (A0.out.call gx kx); clear gx kx)
    | (go_at_call 33; with_reducible refine (H1.out _ A1.out.rd).mono ?_; rintro e v1 ⟨rfl, gx, kx⟩; have A2 := Lib.hid (A1.out.call gx kx); clear gx kx)
    | (go_at_call 35; with_reducible refine (HG.out _ A2.out.rd).mono ?_; rintro e v3 ⟨rfl, kx⟩; have KX := Lib.hid (A2.out.keep.trans kx (.inl rfl)); clear kx))
  simp only [bodyPost]
  exact ⟨trivial, trivial, KX.out.below (by omega) (Nat.le_refl _) (fun _ e => by cases e)⟩

set_option maxRecDepth 100000 in
set_option maxHeartbeats 2000000 in
theorem rcread_Reply (s : ByteArray) (w : World) (h0 : 8 ≤ s.size) (a1 : atW s 1 = 1) (hz : s.size ≤ 2048) (hg : 24 ≤ s.size) : Calls Tryd.prog 24 #[.string s] w fun e w' => Told s e ∧ Below w.heap.size w w' := by
  have A0 := Lib.hid (read_start s w)
  have H0 : ∀ W, Rd (w.heap.size + 1) (s.extract (4 * 0) s.size) 0 W → Calls Tryd.prog 33 #[.pointer (some ⟨w.heap.size + 1, 0, none⟩)] W fun e w' => e = .returned (.int .i64 (atW s 0)) ∧ Rd (w.heap.size + 1) (s.extract (4 * 1) s.size) 0 w' ∧ Keep (w.heap.size + 1) none W w' := fun W h => mnext_at (w.heap.size + 1) 0 s W h (by omega)
  have H1 : ∀ W, Rd (w.heap.size + 1) (s.extract (4 * 1) s.size) 0 W → Calls Tryd.prog 33 #[.pointer (some ⟨w.heap.size + 1, 0, none⟩)] W fun e w' => e = .returned (.int .i64 (atW s 1)) ∧ Rd (w.heap.size + 1) (s.extract (4 * 2) s.size) 0 w' ∧ Keep (w.heap.size + 1) none W w' := fun W h => mnext_at (w.heap.size + 1) 1 s W h (by omega)
  obtain ⟨x, hx⟩ : ∃ x, x = atW s 0 := ⟨_, rfl⟩
  rw [← hx] at H0
  replace H0 := Lib.hid H0
  rw [a1] at H1
  replace H1 := Lib.hid H1
  have HT : ∀ W, Rd (w.heap.size + 1) (s.extract (4 * 2) s.size) 0 W → Calls Tryd.prog 35 #[.string s, .int .i64 x, .pointer (some ⟨w.heap.size + 1, 0, none⟩)] W fun e w' => Told s e ∧ Keep (w.heap.size + 1) none W w' := fun W h => by rw [hx]; exact readReply_any (w.heap.size + 1) s W h hz hg a1
  unfold Told at HT ⊢
  have hc : (mgGet s).1.arr.size = 10 := rfl
  have ho := Mg.arr_one (mgGet s).1
  obtain ⟨row, hrow⟩ : ∃ row, row = (mgGet s).1.arr := ⟨_, rfl⟩
  obtain ⟨er, her⟩ : ∃ er, er = (mgGet s).2 := ⟨_, rfl⟩
  rw [← hrow] at hc ho
  rw [← hrow, ← her] at HT ⊢
  replace HT := Lib.hid HT
  have HC := Lib.hid hc
  have HO := Lib.hid ho
  clear h0 a1 hg hx hz hc ho hrow her
  go_enter Tryd.func24, Tryd.ntmps24
  go_wp2_with (first
    | (go_at_call 32; go_must (refine (rRead_eq s _).mono ?_); rintro r w1 ⟨rfl, rfl⟩)
    | (go_at_call 33; with_reducible refine (H0.out _ A0.out.rd).mono ?_; rintro e v0 ⟨rfl, gx, kx⟩; have A1 := Lib.hid (A0.out.call gx kx); clear gx kx)
    | (go_at_call 33; with_reducible refine (H1.out _ A1.out.rd).mono ?_; rintro e v1 ⟨rfl, gx, kx⟩; have A2 := Lib.hid (A1.out.call gx kx); clear gx kx)
    | (go_at_call 35; with_reducible refine (HT.out _ A2.out.rd).mono ?_; rintro e v3 ⟨rfl, kx⟩; have A3 := Lib.hid (A2.out.told kx); clear kx)
    | ((with_reducible show wpList _ _ _ ({ dst := _, op := .store 25 (.tmp 2) (.tmp 26), type := _, pos := _, after := _, guard := _ } :: _) _ _); refine wpList_store_st rfl 25 _ _ rfl w.heap.size row rfl rfl mz A3.out.res (by rw [HC.out]; kernel_rfl) (by first | rfl | (rw [HC.out]; rfl)) HO.out ?_; intro wy hy sy; have SY := Lib.hid sy; have KY := Lib.hid (show Keep (w.heap.size + 1) none w wy from hy ▸ keep_row A3.out.keep A3.out.ng _); clear hy sy))
  refine ret_cell2 (r := 2) (t := 3) (k := w.heap.size) (T := 25) Tryd.results24 rfl rfl SY.out Tryd.underlying25 rfl (by rw [HC.out]; kernel_rfl) rfl ?_
  exact ⟨rfl, KY.out.below (by omega) (Nat.le_refl _) (fun _ e => by cases e)⟩

set_option maxRecDepth 100000 in
set_option maxHeartbeats 2000000 in
theorem rcread_odd (s : ByteArray) (w : World) (hz : s.size ≤ 2048) (h0 : 8 ≤ s.size) (a0 : atW s 1 ≠ 0) (a1 : atW s 1 ≠ 1) : Calls Tryd.prog 24 #[.string s] w fun e w' => Told s e ∧ Below w.heap.size w w' := by
  have A0 := Lib.hid (read_start s w)
  have H0 : ∀ W, Rd (w.heap.size + 1) (s.extract (4 * 0) s.size) 0 W → Calls Tryd.prog 33 #[.pointer (some ⟨w.heap.size + 1, 0, none⟩)] W fun e w' => e = .returned (.int .i64 (atW s 0)) ∧ Rd (w.heap.size + 1) (s.extract (4 * 1) s.size) 0 w' ∧ Keep (w.heap.size + 1) none W w' := fun W h => mnext_at (w.heap.size + 1) 0 s W h (by omega)
  have H1 : ∀ W, Rd (w.heap.size + 1) (s.extract (4 * 1) s.size) 0 W → Calls Tryd.prog 33 #[.pointer (some ⟨w.heap.size + 1, 0, none⟩)] W fun e w' => e = .returned (.int .i64 (atW s 1)) ∧ Rd (w.heap.size + 1) (s.extract (4 * 2) s.size) 0 w' ∧ Keep (w.heap.size + 1) none W w' := fun W h => mnext_at (w.heap.size + 1) 1 s W h (by omega)
  obtain ⟨x, hx⟩ : ∃ x, x = atW s 0 := ⟨_, rfl⟩
  rw [← hx] at H0
  replace H0 := Lib.hid H0
  unfold Told
  rw [odd_get hz a0 a1, mz_zero]
  obtain ⟨v, hv⟩ : ∃ v, v = atW s 1 := ⟨_, rfl⟩
  rw [← hv] at H1 a0 a1
  have d0 : (v == 0) = false := by simpa using a0
  have d1 : (v == 1) = false := by simpa using a1
  replace H1 := Lib.hid H1
  have HC := Lib.hid (show mz.size = 10 from rfl)
  have HO := Lib.hid (show mz.all (·.oneCell') = true by kernel_rfl)
  clear h0 a0 a1 hx hz hv
  go_enter Tryd.func24, Tryd.ntmps24
  go_wp2_with (first
    | (go_at_call 32; go_must (refine (rRead_eq s _).mono ?_); rintro r w1 ⟨rfl, rfl⟩)
    | (go_at_call 33; with_reducible refine (H0.out _ A0.out.rd).mono ?_; rintro e v0 ⟨rfl, gx, kx⟩; have A1 := Lib.hid (A0.out.call gx kx); clear gx kx)
    | (go_at_call 33; with_reducible refine (H1.out _ A1.out.rd).mono ?_; rintro e v1 ⟨rfl, gx, kx⟩; have A2 := Lib.hid (A1.out.call gx kx); clear gx kx)
    | ((with_reducible show wpList _ _ _ ({ dst := _, op := .build 25 #[], type := _, pos := _, after := _, guard := _ } :: _) _ _); refine wpList_build_as rfl 25 _ rfl mz (by kernel_rfl) ?_)
    | ((with_reducible show wpList _ _ _ ({ dst := _, op := .store 25 (.tmp 2) (.tmp 28), type := _, pos := _, after := _, guard := _ } :: _) _ _); refine wpList_store_st rfl 25 _ _ rfl w.heap.size mz rfl rfl mz A2.out.res (by rw [HC.out]; kernel_rfl) (by first | rfl | (rw [HC.out]; rfl)) HO.out ?_; intro wy hy sy; have SY := Lib.hid sy; have KY := Lib.hid (show Keep (w.heap.size + 1) none w wy from hy ▸ keep_row A2.out.keep A2.out.ng _); clear hy sy))
  refine ret_cell2 (r := 2) (t := 3) (k := w.heap.size) (T := 25) Tryd.results24 rfl rfl SY.out Tryd.underlying25 rfl (by rw [HC.out]; kernel_rfl) rfl ?_
  exact ⟨rfl, KY.out.below (by omega) (Nat.le_refl _) (fun _ e => by cases e)⟩

theorem rcread_gone (s : ByteArray) (w : World) (h : goneAll s) : Calls Tryd.prog 24 #[.string s] w fun e w' => e = .panicked thrown ∧ Below w.heap.size w w' := by
  by_cases h0 : s.size < 4
  · exact rcread_gone0 s w h0
  by_cases h1 : s.size < 8
  · exact rcread_gone1 s w (by omega) h1
  rcases h with h | ⟨h2, h3⟩ | ⟨h2, h3⟩
  · exact absurd h h1
  · exact rcread_goneCall s w (by omega) h2 h3
  · exact rcread_goneReply s w (by omega) h2 h3
theorem rcread_told (s : ByteArray) (w : World) (hz : s.size ≤ 2048) (h : ¬ goneAll s) : Calls Tryd.prog 24 #[.string s] w fun e w' => Told s e ∧ Below w.heap.size w w' := by
  unfold goneAll at h
  by_cases a0 : atW s 1 = 0
  · exact rcread_Call s w (by omega) a0 hz (fun hg => h (.inr (.inl ⟨a0, hg⟩)))
  by_cases a1 : atW s 1 = 1
  · exact rcread_Reply s w (by omega) a1 hz (by omega)
  exact rcread_odd s w hz (by omega) a0 a1
end Go.Proofs.YtimbcombhdgjiaaDoor
