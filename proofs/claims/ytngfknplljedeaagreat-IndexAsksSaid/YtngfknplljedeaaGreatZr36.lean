/- Lemmas for the laws of index. -/
import Derived.Test.YtngfknplljedeaaGreatZr32
import Derived.Test.YtngfknplljedeaaGreatZrTk
import Derived.Test.YtngfknplljedeaaGreatZrHi
namespace Go.Proofs.YtngfknplljedeaaGreat
open Go.RowKit
theorem find_fnd' {α : Type} (p : α → Bool) (xs : List α) : (fnd p xs = -1 ∧ xs.find? p = none) ∨ ∃ (i : Nat) (x : α), fnd p xs = i ∧ xs[i]? = some x ∧ xs.find? p = some x := by
 rcases fnd_cases p xs with ⟨h, hn⟩ | ⟨i, x, h, hx, hp, hm⟩
 · exact .inl ⟨h, List.find?_eq_none.2 fun x hx => by simpa using hn x hx⟩
 · refine .inr ⟨i, x, h, hx, ?_⟩
   obtain ⟨hi, e⟩ := List.getElem?_eq_some_iff.1 hx
   rw [List.find?_eq_some_iff_getElem]
   refine ⟨hp, i, hi, e, fun j hj => ?_⟩
   have := hm j _ hj (List.getElem?_eq_getElem (by omega))
   simp [this]
set_option maxRecDepth 100000 in
set_option maxHeartbeats 400000 in
theorem inFindHeld_any (v : Value) (xs : List Hd) (p : Hd → Bool) (g : Nat) (lb : Array Value) (F : Nat → Prop) (w : World) (h : RowsAt w.heap.size 3 Hd.vs v xs w) (eg : ∀ args w, (callFunc g args).run Tryz.prog w = .ok (.enter g args) w) (hp : PredW Tryz.prog g lb Hd.vs p F w) :
 Calls Tryz.prog 57 #[v, .func (.func g) #[] lb] w fun e w' => e = .returned (.tuple #[.agg ((xs.find? p).getD ⟨0, 0, ⟨#[]⟩⟩).vs.toArray, .bool (xs.find? p).isSome]) ∧ Below w.heap.size w w' := by
 obtain ⟨w1, hw1⟩ : ∃ w1, w1 = w.alloc (.cells #[.int .i64 0, .int .i64 0, .string ⟨#[]⟩] 49 (0, 0)) := ⟨_, rfl⟩
 have hb1 : Below w.heap.size w w1 := by rw [hw1]; exact (Below.refl _ w).alloc (Nat.le_refl _) _
 have st1 : St 49 w.heap.size #[.int .i64 0, .int .i64 0, .string ⟨#[]⟩] w1 := by rw [hw1]; exact St.new w 49 _
 have h1 : RowsAt w1.heap.size 3 Hd.vs v xs w1 := (h.below hb1).raise hb1.size
 have HC := hI (sxIdxHeld_any v xs p g lb F w1 h1 eg (hp.later (Frm.of_below hb1) fun j hj => .inl hj))
 have hfnd := find_fnd' p xs
 have HW1 := hI hw1
 have HB1 := hI hb1
 have ST1 := hI st1
 obtain ⟨ao, cap, b, off, rfl, hl, hx⟩ := h1.walk
 obtain ⟨n, hn⟩ : ∃ n, n = xs.length := ⟨_, rfl⟩
 rw [← hn] at hl hx HC ⊢
 have HX := hI hx
 clear h h1 hp hb1 st1 hx hw1
 rcases hfnd with ⟨hf, hd⟩ | ⟨i, x, hf, hix, hd⟩
 · rw [hd]
   rw [hf] at HC
   clear hd hf hn
   go_enter Tryz.func57, Tryz.ntmps57
   go_wp2_with (first
    | (rw [← HW1.out]; (with_reducible refine HC.out.mono ?_); rintro e w9 ⟨rfl, hb⟩; have HB9 := hI (HB1.out.trans (hb.mono HB1.out.size)); have S9 := hI (ST1.out.below hb); clear hb)
    | ((with_reducible show wpList _ _ _ ({ dst := _, op := .load 49 _, type := _, pos := _, after := _, guard := _ } :: _) _ _); refine wpList_load_st rfl 49 _ rfl w.heap.size (by simp [Act.eval]) 49 #[.int .i64 0, .int .i64 0, .string ⟨#[]⟩] S9.out _ Tryz.underlying49 rfl (by kernel_rfl) ?_)
    | ((with_reducible show wpList _ _ _ ({ dst := _, op := .store 49 _ _, type := _, pos := _, after := _, guard := _ } :: _) _ _); refine wpList_store_st rfl 49 _ _ rfl w.heap.size #[.int .i64 0, .int .i64 0, .string ⟨#[]⟩] (by first | rfl | simp [Act.eval, Act.put]) (by first | rfl | simp [Act.eval, Act.put]) _ S9.out (by kernel_rfl) rfl (by kernel_rfl) ?_; rintro w8 hw8 s8; have S8 := hI s8; have F8 := hI (show Below w.heap.size w w8 from by rw [hw8]; exact below_setRow HB9.out (Nat.le_refl _) _); clear hw8 s8))
   refine ret_cell2 (x := .bool false) rfl (by simp) (by simp) S8.out Tryz.underlying49 rfl (by kernel_rfl) rfl ?_
   exact ⟨rfl, F8.out⟩
 · rw [hd]
   rw [hf] at HC
   have hin : i < n := by rw [hn]; exact (List.getElem?_eq_some_iff.1 hix).1
   obtain ⟨y, hy, rfl, hbb, hr⟩ := HX.out i hin
   obtain rfl : x = y := by rw [hix] at hy; exact Option.some.inj hy
   have HR := hI (show ∀ W, Below w1.heap.size w1 W → W.rangeAt b (off + i * 3) x.vs from fun W hW j u hu => (hW.cell (p := ⟨b, off + i * 3 + j, none⟩) hbb).trans (hr j u hu))
   have b0 : (0 : Int) ≤ (i : Int) := by omega
   have b1 : (i : Int) < (n : Int) := by omega
   have b2 : ¬ (i : Int) < 0 := by omega
   clear hd hf hix hy hr hbb hn
   go_enter Tryz.func57, Tryz.ntmps57
   go_wp2_with (first
    | (rw [← HW1.out]; (with_reducible refine HC.out.mono ?_); rintro e w9 ⟨rfl, hb⟩; have HB9 := hI (HB1.out.trans (hb.mono HB1.out.size)); have S9 := hI (ST1.out.below hb); have HR9 := hI (HR.out _ hb); clear hb)
    | ((with_reducible show wpList _ _ _ ({ dst := _, op := .load 49 _, type := _, pos := _, after := _, guard := _ } :: _) _ _); refine wpList_load_mid rfl 49 _ rfl b (off + i * 3) (by first | rfl | simp [Act.eval, Act.put]) x.vs _ HR9.out Tryz.underlying49 rfl (by kernel_rfl) ?_)
    | ((with_reducible show wpList _ _ _ ({ dst := _, op := .store 49 _ _, type := _, pos := _, after := _, guard := _ } :: _) _ _); refine wpList_store_st rfl 49 _ _ rfl w.heap.size x.vs.toArray (by first | rfl | simp [Act.eval, Act.put]) (by first | rfl | simp [Act.eval, Act.put]) _ S9.out (by kernel_rfl) rfl (all_oneCell_toArray (Hd.one x)) ?_; rintro w8 hw8 s8; have S8 := hI s8; have F8 := hI (show Below w.heap.size w w8 from by rw [hw8]; exact below_setRow HB9.out (Nat.le_refl _) _); clear hw8 s8))
   refine ret_cell2 (x := .bool true) rfl (by simp) (by simp) S8.out Tryz.underlying49 rfl (by kernel_rfl) rfl ?_
   exact ⟨rfl, F8.out⟩
set_option maxRecDepth 100000 in
set_option maxHeartbeats 400000 in
theorem inFindCached_any (v : Value) (xs : List Cd) (p : Cd → Bool) (g : Nat) (lb : Array Value) (F : Nat → Prop) (w : World) (h : RowsAt w.heap.size 11 Cd.vs v xs w) (eg : ∀ args w, (callFunc g args).run Tryz.prog w = .ok (.enter g args) w) (hp : PredW Tryz.prog g lb Cd.vs p F w) :
 Calls Tryz.prog 60 #[v, .func (.func g) #[] lb] w fun e w' => e = .returned (.tuple #[.agg ((xs.find? p).getD ⟨⟨#[]⟩, Pa.zero⟩).vs.toArray, .bool (xs.find? p).isSome]) ∧ Below w.heap.size w w' := by
 obtain ⟨w1, hw1⟩ : ∃ w1, w1 = w.alloc (.cells #[.string ⟨#[]⟩, .int .i64 0, .int .i64 0, .int .i64 0, .int .i64 0, .int .i64 0, .int .i64 0, .int .i64 0, .int .i64 0, .int .i64 0, .int .i64 0] 57 (0, 0)) := ⟨_, rfl⟩
 have hb1 : Below w.heap.size w w1 := by rw [hw1]; exact (Below.refl _ w).alloc (Nat.le_refl _) _
 have st1 : St 57 w.heap.size #[.string ⟨#[]⟩, .int .i64 0, .int .i64 0, .int .i64 0, .int .i64 0, .int .i64 0, .int .i64 0, .int .i64 0, .int .i64 0, .int .i64 0, .int .i64 0] w1 := by rw [hw1]; exact St.new w 57 _
 have h1 : RowsAt w1.heap.size 11 Cd.vs v xs w1 := (h.below hb1).raise hb1.size
 have HC := hI (sxIdxCached_any v xs p g lb F w1 h1 eg (hp.later (Frm.of_below hb1) fun j hj => .inl hj))
 have hfnd := find_fnd' p xs
 have HW1 := hI hw1
 have HB1 := hI hb1
 have ST1 := hI st1
 obtain ⟨ao, cap, b, off, rfl, hl, hx⟩ := h1.walk
 obtain ⟨n, hn⟩ : ∃ n, n = xs.length := ⟨_, rfl⟩
 rw [← hn] at hl hx HC ⊢
 have HX := hI hx
 clear h h1 hp hb1 st1 hx hw1
 rcases hfnd with ⟨hf, hd⟩ | ⟨i, x, hf, hix, hd⟩
 · rw [hd]
   rw [hf] at HC
   clear hd hf hn
   go_enter Tryz.func60, Tryz.ntmps60
   go_wp2_with (first
    | (rw [← HW1.out]; (with_reducible refine HC.out.mono ?_); rintro e w9 ⟨rfl, hb⟩; have HB9 := hI (HB1.out.trans (hb.mono HB1.out.size)); have S9 := hI (ST1.out.below hb); clear hb)
    | ((with_reducible show wpList _ _ _ ({ dst := _, op := .load 57 _, type := _, pos := _, after := _, guard := _ } :: _) _ _); refine wpList_load_st rfl 57 _ rfl w.heap.size (by simp [Act.eval]) 57 #[.string ⟨#[]⟩, .int .i64 0, .int .i64 0, .int .i64 0, .int .i64 0, .int .i64 0, .int .i64 0, .int .i64 0, .int .i64 0, .int .i64 0, .int .i64 0] S9.out _ Tryz.underlying57 rfl (by kernel_rfl) ?_)
    | ((with_reducible show wpList _ _ _ ({ dst := _, op := .store 57 _ _, type := _, pos := _, after := _, guard := _ } :: _) _ _); refine wpList_store_st rfl 57 _ _ rfl w.heap.size #[.string ⟨#[]⟩, .int .i64 0, .int .i64 0, .int .i64 0, .int .i64 0, .int .i64 0, .int .i64 0, .int .i64 0, .int .i64 0, .int .i64 0, .int .i64 0] (by first | rfl | simp [Act.eval, Act.put]) (by first | rfl | simp [Act.eval, Act.put]) _ S9.out (by kernel_rfl) rfl (by kernel_rfl) ?_; rintro w8 hw8 s8; have S8 := hI s8; have F8 := hI (show Below w.heap.size w w8 from by rw [hw8]; exact below_setRow HB9.out (Nat.le_refl _) _); clear hw8 s8))
   refine ret_cell2 (x := .bool false) rfl (by simp) (by simp) S8.out Tryz.underlying57 rfl (by kernel_rfl) rfl ?_
   exact ⟨rfl, F8.out⟩
 · rw [hd]
   rw [hf] at HC
   have hin : i < n := by rw [hn]; exact (List.getElem?_eq_some_iff.1 hix).1
   obtain ⟨y, hy, rfl, hbb, hr⟩ := HX.out i hin
   obtain rfl : x = y := by rw [hix] at hy; exact Option.some.inj hy
   have HR := hI (show ∀ W, Below w1.heap.size w1 W → W.rangeAt b (off + i * 11) x.vs from fun W hW j u hu => (hW.cell (p := ⟨b, off + i * 11 + j, none⟩) hbb).trans (hr j u hu))
   have b0 : (0 : Int) ≤ (i : Int) := by omega
   have b1 : (i : Int) < (n : Int) := by omega
   have b2 : ¬ (i : Int) < 0 := by omega
   clear hd hf hix hy hr hbb hn
   go_enter Tryz.func60, Tryz.ntmps60
   go_wp2_with (first
    | (rw [← HW1.out]; (with_reducible refine HC.out.mono ?_); rintro e w9 ⟨rfl, hb⟩; have HB9 := hI (HB1.out.trans (hb.mono HB1.out.size)); have S9 := hI (ST1.out.below hb); have HR9 := hI (HR.out _ hb); clear hb)
    | ((with_reducible show wpList _ _ _ ({ dst := _, op := .load 57 _, type := _, pos := _, after := _, guard := _ } :: _) _ _); refine wpList_load_mid rfl 57 _ rfl b (off + i * 11) (by first | rfl | simp [Act.eval, Act.put]) x.vs _ HR9.out Tryz.underlying57 rfl (by kernel_rfl) ?_)
    | ((with_reducible show wpList _ _ _ ({ dst := _, op := .store 57 _ _, type := _, pos := _, after := _, guard := _ } :: _) _ _); refine wpList_store_st rfl 57 _ _ rfl w.heap.size x.vs.toArray (by first | rfl | simp [Act.eval, Act.put]) (by first | rfl | simp [Act.eval, Act.put]) _ S9.out (by kernel_rfl) rfl (all_oneCell_toArray (Cd.one x)) ?_; rintro w8 hw8 s8; have S8 := hI s8; have F8 := hI (show Below w.heap.size w w8 from by rw [hw8]; exact below_setRow HB9.out (Nat.le_refl _) _); clear hw8 s8))
   refine ret_cell2 (x := .bool true) rfl (by simp) (by simp) S8.out Tryz.underlying57 rfl (by kernel_rfl) rfl ?_
   exact ⟨rfl, F8.out⟩
set_option maxRecDepth 100000 in
set_option maxHeartbeats 400000 in
theorem inFindKnown_any (v : Value) (xs : List Kn) (p : Kn → Bool) (g : Nat) (lb : Array Value) (F : Nat → Prop) (w : World) (h : RowsAt w.heap.size 3 Kn.vs v xs w) (eg : ∀ args w, (callFunc g args).run Tryz.prog w = .ok (.enter g args) w) (hp : PredW Tryz.prog g lb Kn.vs p F w) :
 Calls Tryz.prog 62 #[v, .func (.func g) #[] lb] w fun e w' => e = .returned (.tuple #[.agg ((xs.find? p).getD ⟨⟨#[]⟩, ⟨#[]⟩, ⟨#[]⟩⟩).vs.toArray, .bool (xs.find? p).isSome]) ∧ Below w.heap.size w w' := by
 obtain ⟨w1, hw1⟩ : ∃ w1, w1 = w.alloc (.cells #[.string ⟨#[]⟩, .string ⟨#[]⟩, .string ⟨#[]⟩] 61 (0, 0)) := ⟨_, rfl⟩
 have hb1 : Below w.heap.size w w1 := by rw [hw1]; exact (Below.refl _ w).alloc (Nat.le_refl _) _
 have st1 : St 61 w.heap.size #[.string ⟨#[]⟩, .string ⟨#[]⟩, .string ⟨#[]⟩] w1 := by rw [hw1]; exact St.new w 61 _
 have h1 : RowsAt w1.heap.size 3 Kn.vs v xs w1 := (h.below hb1).raise hb1.size
 have HC := hI (sxIdxKnown_any v xs p g lb F w1 h1 eg (hp.later (Frm.of_below hb1) fun j hj => .inl hj))
 have hfnd := find_fnd' p xs
 have HW1 := hI hw1
 have HB1 := hI hb1
 have ST1 := hI st1
 obtain ⟨ao, cap, b, off, rfl, hl, hx⟩ := h1.walk
 obtain ⟨n, hn⟩ : ∃ n, n = xs.length := ⟨_, rfl⟩
 rw [← hn] at hl hx HC ⊢
 have HX := hI hx
 clear h h1 hp hb1 st1 hx hw1
 rcases hfnd with ⟨hf, hd⟩ | ⟨i, x, hf, hix, hd⟩
 · rw [hd]
   rw [hf] at HC
   clear hd hf hn
   go_enter Tryz.func62, Tryz.ntmps62
   go_wp2_with (first
    | (rw [← HW1.out]; (with_reducible refine HC.out.mono ?_); rintro e w9 ⟨rfl, hb⟩; have HB9 := hI (HB1.out.trans (hb.mono HB1.out.size)); have S9 := hI (ST1.out.below hb); clear hb)
    | ((with_reducible show wpList _ _ _ ({ dst := _, op := .load 61 _, type := _, pos := _, after := _, guard := _ } :: _) _ _); refine wpList_load_st rfl 61 _ rfl w.heap.size (by simp [Act.eval]) 61 #[.string ⟨#[]⟩, .string ⟨#[]⟩, .string ⟨#[]⟩] S9.out _ Tryz.underlying61 rfl (by kernel_rfl) ?_)
    | ((with_reducible show wpList _ _ _ ({ dst := _, op := .store 61 _ _, type := _, pos := _, after := _, guard := _ } :: _) _ _); refine wpList_store_st rfl 61 _ _ rfl w.heap.size #[.string ⟨#[]⟩, .string ⟨#[]⟩, .string ⟨#[]⟩] (by first | rfl | simp [Act.eval, Act.put]) (by first | rfl | simp [Act.eval, Act.put]) _ S9.out (by kernel_rfl) rfl (by kernel_rfl) ?_; rintro w8 hw8 s8; have S8 := hI s8; have F8 := hI (show Below w.heap.size w w8 from by rw [hw8]; exact below_setRow HB9.out (Nat.le_refl _) _); clear hw8 s8))
   refine ret_cell2 (x := .bool false) rfl (by simp) (by simp) S8.out Tryz.underlying61 rfl (by kernel_rfl) rfl ?_
   exact ⟨rfl, F8.out⟩
 · rw [hd]
   rw [hf] at HC
   have hin : i < n := by rw [hn]; exact (List.getElem?_eq_some_iff.1 hix).1
   obtain ⟨y, hy, rfl, hbb, hr⟩ := HX.out i hin
   obtain rfl : x = y := by rw [hix] at hy; exact Option.some.inj hy
   have HR := hI (show ∀ W, Below w1.heap.size w1 W → W.rangeAt b (off + i * 3) x.vs from fun W hW j u hu => (hW.cell (p := ⟨b, off + i * 3 + j, none⟩) hbb).trans (hr j u hu))
   have b0 : (0 : Int) ≤ (i : Int) := by omega
   have b1 : (i : Int) < (n : Int) := by omega
   have b2 : ¬ (i : Int) < 0 := by omega
   clear hd hf hix hy hr hbb hn
   go_enter Tryz.func62, Tryz.ntmps62
   go_wp2_with (first
    | (rw [← HW1.out]; (with_reducible refine HC.out.mono ?_); rintro e w9 ⟨rfl, hb⟩; have HB9 := hI (HB1.out.trans (hb.mono HB1.out.size)); have S9 := hI (ST1.out.below hb); have HR9 := hI (HR.out _ hb); clear hb)
    | ((with_reducible show wpList _ _ _ ({ dst := _, op := .load 61 _, type := _, pos := _, after := _, guard := _ } :: _) _ _); refine wpList_load_mid rfl 61 _ rfl b (off + i * 3) (by first | rfl | simp [Act.eval, Act.put]) x.vs _ HR9.out Tryz.underlying61 rfl (by kernel_rfl) ?_)
    | ((with_reducible show wpList _ _ _ ({ dst := _, op := .store 61 _ _, type := _, pos := _, after := _, guard := _ } :: _) _ _); refine wpList_store_st rfl 61 _ _ rfl w.heap.size x.vs.toArray (by first | rfl | simp [Act.eval, Act.put]) (by first | rfl | simp [Act.eval, Act.put]) _ S9.out (by kernel_rfl) rfl (all_oneCell_toArray (Kn.one x)) ?_; rintro w8 hw8 s8; have S8 := hI s8; have F8 := hI (show Below w.heap.size w w8 from by rw [hw8]; exact below_setRow HB9.out (Nat.le_refl _) _); clear hw8 s8))
   refine ret_cell2 (x := .bool true) rfl (by simp) (by simp) S8.out Tryz.underlying61 rfl (by kernel_rfl) rfl ?_
   exact ⟨rfl, F8.out⟩
set_option maxRecDepth 100000 in
set_option maxHeartbeats 400000 in
theorem inFindPlaced_any (v : Value) (xs : List Bk) (p : Bk → Bool) (g : Nat) (lb : Array Value) (F : Nat → Prop) (w : World) (h : RowsAt w.heap.size 3 Bk.vs v xs w) (eg : ∀ args w, (callFunc g args).run Tryz.prog w = .ok (.enter g args) w) (hp : PredW Tryz.prog g lb Bk.vs p F w) :
 Calls Tryz.prog 64 #[v, .func (.func g) #[] lb] w fun e w' => e = .returned (.tuple #[.agg ((xs.find? p).getD ⟨⟨#[]⟩, 0, 0⟩).vs.toArray, .bool (xs.find? p).isSome]) ∧ Below w.heap.size w w' := by
 obtain ⟨w1, hw1⟩ : ∃ w1, w1 = w.alloc (.cells #[.string ⟨#[]⟩, .int .i64 0, .int .i64 0] 66 (0, 0)) := ⟨_, rfl⟩
 have hb1 : Below w.heap.size w w1 := by rw [hw1]; exact (Below.refl _ w).alloc (Nat.le_refl _) _
 have st1 : St 66 w.heap.size #[.string ⟨#[]⟩, .int .i64 0, .int .i64 0] w1 := by rw [hw1]; exact St.new w 66 _
 have h1 : RowsAt w1.heap.size 3 Bk.vs v xs w1 := (h.below hb1).raise hb1.size
 have HC := hI (sxIdxPlaced_any v xs p g lb F w1 h1 eg (hp.later (Frm.of_below hb1) fun j hj => .inl hj))
 have hfnd := find_fnd' p xs
 have HW1 := hI hw1
 have HB1 := hI hb1
 have ST1 := hI st1
 obtain ⟨ao, cap, b, off, rfl, hl, hx⟩ := h1.walk
 obtain ⟨n, hn⟩ : ∃ n, n = xs.length := ⟨_, rfl⟩
 rw [← hn] at hl hx HC ⊢
 have HX := hI hx
 clear h h1 hp hb1 st1 hx hw1
 rcases hfnd with ⟨hf, hd⟩ | ⟨i, x, hf, hix, hd⟩
 · rw [hd]
   rw [hf] at HC
   clear hd hf hn
   go_enter Tryz.func64, Tryz.ntmps64
   go_wp2_with (first
    | (rw [← HW1.out]; (with_reducible refine HC.out.mono ?_); rintro e w9 ⟨rfl, hb⟩; have HB9 := hI (HB1.out.trans (hb.mono HB1.out.size)); have S9 := hI (ST1.out.below hb); clear hb)
    | ((with_reducible show wpList _ _ _ ({ dst := _, op := .load 66 _, type := _, pos := _, after := _, guard := _ } :: _) _ _); refine wpList_load_st rfl 66 _ rfl w.heap.size (by simp [Act.eval]) 66 #[.string ⟨#[]⟩, .int .i64 0, .int .i64 0] S9.out _ Tryz.underlying66 rfl (by kernel_rfl) ?_)
    | ((with_reducible show wpList _ _ _ ({ dst := _, op := .store 66 _ _, type := _, pos := _, after := _, guard := _ } :: _) _ _); refine wpList_store_st rfl 66 _ _ rfl w.heap.size #[.string ⟨#[]⟩, .int .i64 0, .int .i64 0] (by first | rfl | simp [Act.eval, Act.put]) (by first | rfl | simp [Act.eval, Act.put]) _ S9.out (by kernel_rfl) rfl (by kernel_rfl) ?_; rintro w8 hw8 s8; have S8 := hI s8; have F8 := hI (show Below w.heap.size w w8 from by rw [hw8]; exact below_setRow HB9.out (Nat.le_refl _) _); clear hw8 s8))
   refine ret_cell2 (x := .bool false) rfl (by simp) (by simp) S8.out Tryz.underlying66 rfl (by kernel_rfl) rfl ?_
   exact ⟨rfl, F8.out⟩
 · rw [hd]
   rw [hf] at HC
   have hin : i < n := by rw [hn]; exact (List.getElem?_eq_some_iff.1 hix).1
   obtain ⟨y, hy, rfl, hbb, hr⟩ := HX.out i hin
   obtain rfl : x = y := by rw [hix] at hy; exact Option.some.inj hy
   have HR := hI (show ∀ W, Below w1.heap.size w1 W → W.rangeAt b (off + i * 3) x.vs from fun W hW j u hu => (hW.cell (p := ⟨b, off + i * 3 + j, none⟩) hbb).trans (hr j u hu))
   have b0 : (0 : Int) ≤ (i : Int) := by omega
   have b1 : (i : Int) < (n : Int) := by omega
   have b2 : ¬ (i : Int) < 0 := by omega
   clear hd hf hix hy hr hbb hn
   go_enter Tryz.func64, Tryz.ntmps64
   go_wp2_with (first
    | (rw [← HW1.out]; (with_reducible refine HC.out.mono ?_); rintro e w9 ⟨rfl, hb⟩; have HB9 := hI (HB1.out.trans (hb.mono HB1.out.size)); have S9 := hI (ST1.out.below hb); have HR9 := hI (HR.out _ hb); clear hb)
    | ((with_reducible show wpList _ _ _ ({ dst := _, op := .load 66 _, type := _, pos := _, after := _, guard := _ } :: _) _ _); refine wpList_load_mid rfl 66 _ rfl b (off + i * 3) (by first | rfl | simp [Act.eval, Act.put]) x.vs _ HR9.out Tryz.underlying66 rfl (by kernel_rfl) ?_)
    | ((with_reducible show wpList _ _ _ ({ dst := _, op := .store 66 _ _, type := _, pos := _, after := _, guard := _ } :: _) _ _); refine wpList_store_st rfl 66 _ _ rfl w.heap.size x.vs.toArray (by first | rfl | simp [Act.eval, Act.put]) (by first | rfl | simp [Act.eval, Act.put]) _ S9.out (by kernel_rfl) rfl (all_oneCell_toArray (Bk.one x)) ?_; rintro w8 hw8 s8; have S8 := hI s8; have F8 := hI (show Below w.heap.size w w8 from by rw [hw8]; exact below_setRow HB9.out (Nat.le_refl _) _); clear hw8 s8))
   refine ret_cell2 (x := .bool true) rfl (by simp) (by simp) S8.out Tryz.underlying66 rfl (by kernel_rfl) rfl ?_
   exact ⟨rfl, F8.out⟩
set_option maxRecDepth 100000 in
set_option maxHeartbeats 2000000 in
theorem inHolds_any (cs : List Value) (ca : CA) (a0 : Int) (a1 : Int) (w : World) (h : CAt w.heap.size cs ca w) :
 Calls Tryz.prog 21 #[.agg cs.toArray, .int .i64 a0, .int .i64 a1] w fun e w' => e = .returned (.tuple (match ca.helds.find? (pHeld a0 a1) with | some x => #[.string x.up, .bool true] | none => #[.string ⟨#[]⟩, .bool false])) ∧ Below w.heap.size w w' := by
 obtain ⟨y, g, hy, hg, he⟩ : ∃ (y : Hd) (g : Bool), y = (ca.helds.find? (pHeld a0 a1)).getD ⟨0, 0, ⟨#[]⟩⟩ ∧ g = (ca.helds.find? (pHeld a0 a1)).isSome ∧ Value.tuple (match ca.helds.find? (pHeld a0 a1) with | some x => #[.string x.up, .bool true] | none => #[.string ⟨#[]⟩, .bool false]) = (match y with | ⟨y0, y1, y2⟩ => .tuple #[.string y2, .bool g]) := by
  cases ca.helds.find? (pHeld a0 a1) with
  | none => exact ⟨_, _, rfl, rfl, rfl⟩
  | some x => exact ⟨_, _, rfl, rfl, rfl⟩
 rw [he]
 obtain ⟨v1, v2, v3, v4, rfl, r1, r2, r3, r4⟩ := h
 show Calls Tryz.prog 21 #[.agg #[v1, v2, v3, v4], .int .i64 a0, .int .i64 a1] w _
 obtain ⟨w1, hw1⟩ : ∃ w1, w1 = w.alloc (.cells #[v1, v2, v3, v4] 27 (0, 0)) := ⟨_, rfl⟩
 have hb1 : Below w.heap.size w w1 := by rw [hw1]; exact (Below.refl _ w).alloc (Nat.le_refl _) _
 have hst : St 27 w.heap.size #[v1, v2, v3, v4] w1 := by rw [hw1]; exact St.new w 27 _
 have HR := hI (show ∀ W, Below w1.heap.size w1 W → RowsAt W.heap.size 3 Hd.vs v1 ca.helds W from fun W hW => (r1.below (hb1.trans (hW.mono hb1.size))).raise (Nat.le_trans hb1.size hW.size))
 have HS := hI (show ∀ W, Below w1.heap.size w1 W → W.cell? ⟨w.heap.size, 0, none⟩ = some v1 from fun W hW => (hst.below hW).cell rfl)
 have HF := hI (show ∀ (W : World) (lb : Array Value) (F : Nat → Prop), Below w1.heap.size w1 W → PredW Tryz.prog 122 lb Hd.vs (pHeld a0 a1) F W → Calls Tryz.prog 57 #[v1, .func (.func 122) #[] lb] W fun e w' => e = .returned (.tuple #[.agg y.vs.toArray, .bool g]) ∧ Below W.heap.size W w' from fun W lb F hW hp => by
  rw [hy, hg]
  exact inFindHeld_any v1 ca.helds _ _ lb F W (HR.out W hW) (enters_of Tryz.func122 (by kernel_rfl) rfl) hp)
 have HW1 := hI hw1
 have HB1 := hI hb1
 clear hst hw1 hb1 r1 r2 r3 r4 he hy hg HR
 obtain ⟨y0, y1, y2⟩ := y
 go_enter Tryz.func21, Tryz.ntmps21
 go_wp2_with fail
 rw [← HW1.out]
 have BB0 := hI (Below.refl w1.heap.size w1)
 have HBD := hI (show Below w1.heap.size w1 w1.drew from BB0.out.drew)
 have C0 := hI (HS.out _ HBD.out)
 refine wp_region_held (S := (fun W => W.cell? ⟨w.heap.size, 0, none⟩ = some v1)) (by kernel_rfl) ?_
 change wpAnyH _ _ _ _ _ _ _ _ (World.drew _)
 generalize World.drew w1 = WD at HBD C0 ⊢
 refine tkp 0 (.pointer (some ⟨w.heap.size, 0, none⟩)) rfl (by kernel_rfl) q3 (fun w' hS => ?_) C0.out ?_
 · clear hS; go_simp
 try go_simp
 refine tkp 1 (v1) rfl (by kernel_rfl) q3 (fun w' hS => ?_) C0.out ?_
 · go_simp
 try go_simp
 refine tkp 2 (.int .i64 a0) rfl (by kernel_rfl) q3 (fun w' hS => ?_) C0.out ?_
 · clear hS; go_simp
 try go_simp
 refine tkp 3 (.int .i64 a1) rfl (by kernel_rfl) q3 (fun w' hS => ?_) C0.out ?_
 · clear hS; go_simp
 try go_simp
 refine wpAnyH_ready (rs := [4, 9]) (by kernel_rfl) (by simp) ?_
 refine AllReadyH.cons rfl (fun K hK => ?_) (AllReadyH.cons rfl (fun K hK => ?_) AllReadyH.nil)
 · go_simp
   refine (inqHandle_any a0 a1 _).mono ?_
   rintro e w1q ⟨lb, rfl, hb, hp⟩
   have HP := hI hp
   have B1q := hI (HBD.out.trans (hb.mono HBD.out.size))
   clear hb hp
   go_simp
   refine hK.out _ _ (HS.out _ B1q.out) (fun S1 => ?_)
   clear hK K S1
   refine wpAnyH_ready (rs := [5, 9]) (by kernel_rfl) (by simp) ?_
   refine AllReadyH.cons rfl (fun K hK => ?_) (AllReadyH.cons rfl (fun K hK => ?_) AllReadyH.nil)
   · go_simp
     refine (HF.out _ lb _ B1q.out HP.out).mono ?_
     rintro e w2q ⟨rfl, hb⟩
     have B2q := hI (B1q.out.trans (hb.mono B1q.out.size))
     clear hb
     go_simp
     refine hK.out _ _ (HS.out _ B2q.out) (fun S1 => ?_)
     clear hK K S1
     refine tkp 6 (.tuple #[.agg (Hd.mk y0 y1 y2).vs.toArray, .bool g]) rfl (by kernel_rfl) q3 (fun w' hS => ?_) (HS.out _ B2q.out) ?_
     · clear hS; go_simp
     try go_simp
     refine tkp 7 (.agg (⟨y0, y1, y2⟩ : Hd).vs.toArray) rfl (by kernel_rfl) q3 (fun w' hS => ?_) (HS.out _ B2q.out) ?_
     · clear hS; go_simp
     try go_simp
     refine tkp 8 (.bool g) rfl (by kernel_rfl) q3 (fun w' hS => ?_) (HS.out _ B2q.out) ?_
     · clear hS; go_simp
     try go_simp
     refine rd1 9 (by kernel_rfl) rfl fun K hK => ?_
     go_simp
     obtain ⟨w3q, hw⟩ : ∃ W, W = w2q.alloc (.cells #[.int .i64 0, .int .i64 0, .string ⟨#[]⟩] 49 (0, 0)) := ⟨_, rfl⟩
     have B3q := hI (show Below w1.heap.size w1 w3q from by rw [hw]; exact B2q.out.alloc B2q.out.size _)
     have NB := hI (show St 49 w2q.heap.size #[.int .i64 0, .int .i64 0, .string ⟨#[]⟩] w3q from by rw [hw]; exact St.new _ _ _)
     obtain ⟨z, hz⟩ : ∃ z, z = w2q.heap.size := ⟨_, rfl⟩
     have HZ := hI (show w1.heap.size ≤ z from by rw [hz]; exact B2q.out.size)
     rw [← hw, ← hz]
     rw [← hz] at NB
     clear hw hz
     refine hK.out _ _ (HS.out _ B3q.out) (fun S1 => ?_)
     clear hK K S1
     refine rd1 10 (by kernel_rfl) rfl fun K hK => ?_
     refine step_store_row rfl 49 (.tmp 8) (.tmp 17) rfl z (⟨y0, y1, y2⟩ : Hd).vs.toArray (by first | rfl | simp [Act.eval, Act.put]) (by first | rfl | simp [Act.eval, Act.put]) 49 #[.int .i64 0, .int .i64 0, .string ⟨#[]⟩] NB.out (by kernel_rfl) rfl (all_oneCell_toArray (Hd.one _)) ?_
     obtain ⟨w9, hw9⟩ : ∃ w9, w9 = w3q.setRow z (⟨y0, y1, y2⟩ : Hd).vs.toArray := ⟨_, rfl⟩
     rw [← hw9]
     have N9 := hI (show St 49 z (⟨y0, y1, y2⟩ : Hd).vs.toArray w9 from by rw [hw9]; exact St.row NB.out)
     have B9 := hI (show Below w1.heap.size w1 w9 from by rw [hw9]; exact below_row B3q.out HZ.out _)
     have A9 := hI (show Below w.heap.size w w9 from by rw [hw9]; exact below_row (HB1.out.trans (B3q.out.mono HB1.out.size)) (Nat.le_trans HB1.out.size HZ.out) _)
     have C9 := hI (HS.out _ B9.out)
     clear hw9
     go_simp
     refine hK.out _ _ C9.out (fun S1 => ?_)
     clear hK K S1
     refine rd1 11 (by kernel_rfl) rfl fun K hK => ?_
     go_simp
     refine hK.out _ _ C9.out (fun S1 => ?_)
     clear hK K S1
     refine wpAnyH_done (by kernel_rfl) ?_ _
     have k2 : w9.cell? ⟨z, 2, none⟩ = some (.string y2) := N9.out.cell rfl
     go_wp2
     go_ret2
     exact ⟨rfl, A9.out⟩
   · go_simp
     obtain ⟨w4q, hw⟩ : ∃ W, W = w1q.alloc (.cells #[.int .i64 0, .int .i64 0, .string ⟨#[]⟩] 49 (0, 0)) := ⟨_, rfl⟩
     have B4q := hI (show Below w1.heap.size w1 w4q from by rw [hw]; exact B1q.out.alloc B1q.out.size _)
     have NB := hI (show St 49 w1q.heap.size #[.int .i64 0, .int .i64 0, .string ⟨#[]⟩] w4q from by rw [hw]; exact St.new _ _ _)
     have HP := hI (HP.out.later (Frm.of_below (show Below _ _ w4q from by rw [hw]; exact (Below.refl _ _).alloc (Nat.le_refl _) _)) (fun j hj => .inl hj))
     obtain ⟨z, hz⟩ : ∃ z, z = w1q.heap.size := ⟨_, rfl⟩
     have HZ := hI (show w1.heap.size ≤ z from by rw [hz]; exact B1q.out.size)
     rw [← hw, ← hz]
     rw [← hz] at NB
     clear hw hz
     refine hK.out _ _ (HS.out _ B4q.out) (fun S1 => ?_)
     clear hK K S1
     refine rd1 5 (by kernel_rfl) rfl fun K hK => ?_
     go_simp
     refine (HF.out _ lb _ B4q.out HP.out).mono ?_
     rintro e w5q ⟨rfl, hb⟩
     have B5q := hI (B4q.out.trans (hb.mono B4q.out.size))
     have NB := hI (NB.out.below hb)
     clear hb
     go_simp
     refine hK.out _ _ (HS.out _ B5q.out) (fun S1 => ?_)
     clear hK K S1
     refine tkp 6 (.tuple #[.agg (Hd.mk y0 y1 y2).vs.toArray, .bool g]) rfl (by kernel_rfl) q3 (fun w' hS => ?_) (HS.out _ B5q.out) ?_
     · clear hS; go_simp
     try go_simp
     refine tkp 7 (.agg (⟨y0, y1, y2⟩ : Hd).vs.toArray) rfl (by kernel_rfl) q3 (fun w' hS => ?_) (HS.out _ B5q.out) ?_
     · clear hS; go_simp
     try go_simp
     refine tkp 8 (.bool g) rfl (by kernel_rfl) q3 (fun w' hS => ?_) (HS.out _ B5q.out) ?_
     · clear hS; go_simp
     try go_simp
     refine rd1 10 (by kernel_rfl) rfl fun K hK => ?_
     refine step_store_row rfl 49 (.tmp 8) (.tmp 17) rfl z (⟨y0, y1, y2⟩ : Hd).vs.toArray (by first | rfl | simp [Act.eval, Act.put]) (by first | rfl | simp [Act.eval, Act.put]) 49 #[.int .i64 0, .int .i64 0, .string ⟨#[]⟩] NB.out (by kernel_rfl) rfl (all_oneCell_toArray (Hd.one _)) ?_
     obtain ⟨w9, hw9⟩ : ∃ w9, w9 = w5q.setRow z (⟨y0, y1, y2⟩ : Hd).vs.toArray := ⟨_, rfl⟩
     rw [← hw9]
     have N9 := hI (show St 49 z (⟨y0, y1, y2⟩ : Hd).vs.toArray w9 from by rw [hw9]; exact St.row NB.out)
     have B9 := hI (show Below w1.heap.size w1 w9 from by rw [hw9]; exact below_row B5q.out HZ.out _)
     have A9 := hI (show Below w.heap.size w w9 from by rw [hw9]; exact below_row (HB1.out.trans (B5q.out.mono HB1.out.size)) (Nat.le_trans HB1.out.size HZ.out) _)
     have C9 := hI (HS.out _ B9.out)
     clear hw9
     go_simp
     refine hK.out _ _ C9.out (fun S1 => ?_)
     clear hK K S1
     refine rd1 11 (by kernel_rfl) rfl fun K hK => ?_
     go_simp
     refine hK.out _ _ C9.out (fun S1 => ?_)
     clear hK K S1
     refine wpAnyH_done (by kernel_rfl) ?_ _
     have k2 : w9.cell? ⟨z, 2, none⟩ = some (.string y2) := N9.out.cell rfl
     go_wp2
     go_ret2
     exact ⟨rfl, A9.out⟩
 · go_simp
   obtain ⟨w6q, hw⟩ : ∃ W, W = WD.alloc (.cells #[.int .i64 0, .int .i64 0, .string ⟨#[]⟩] 49 (0, 0)) := ⟨_, rfl⟩
   have B6q := hI (show Below w1.heap.size w1 w6q from by rw [hw]; exact HBD.out.alloc HBD.out.size _)
   have NB := hI (show St 49 WD.heap.size #[.int .i64 0, .int .i64 0, .string ⟨#[]⟩] w6q from by rw [hw]; exact St.new _ _ _)
   obtain ⟨z, hz⟩ : ∃ z, z = WD.heap.size := ⟨_, rfl⟩
   have HZ := hI (show w1.heap.size ≤ z from by rw [hz]; exact HBD.out.size)
   rw [← hw, ← hz]
   rw [← hz] at NB
   clear hw hz
   refine hK.out _ _ (HS.out _ B6q.out) (fun S1 => ?_)
   clear hK K S1
   refine rd1 4 (by kernel_rfl) rfl fun K hK => ?_
   go_simp
   refine (inqHandle_any a0 a1 _).mono ?_
   rintro e w7q ⟨lb, rfl, hb, hp⟩
   have HP := hI hp
   have B7q := hI (B6q.out.trans (hb.mono B6q.out.size))
   have NB := hI (NB.out.below hb)
   clear hb hp
   go_simp
   refine hK.out _ _ (HS.out _ B7q.out) (fun S1 => ?_)
   clear hK K S1
   refine rd1 5 (by kernel_rfl) rfl fun K hK => ?_
   go_simp
   refine (HF.out _ lb _ B7q.out HP.out).mono ?_
   rintro e w8q ⟨rfl, hb⟩
   have B8q := hI (B7q.out.trans (hb.mono B7q.out.size))
   have NB := hI (NB.out.below hb)
   clear hb
   go_simp
   refine hK.out _ _ (HS.out _ B8q.out) (fun S1 => ?_)
   clear hK K S1
   refine tkp 6 (.tuple #[.agg (Hd.mk y0 y1 y2).vs.toArray, .bool g]) rfl (by kernel_rfl) q3 (fun w' hS => ?_) (HS.out _ B8q.out) ?_
   · clear hS; go_simp
   try go_simp
   refine tkp 7 (.agg (⟨y0, y1, y2⟩ : Hd).vs.toArray) rfl (by kernel_rfl) q3 (fun w' hS => ?_) (HS.out _ B8q.out) ?_
   · clear hS; go_simp
   try go_simp
   refine tkp 8 (.bool g) rfl (by kernel_rfl) q3 (fun w' hS => ?_) (HS.out _ B8q.out) ?_
   · clear hS; go_simp
   try go_simp
   refine rd1 10 (by kernel_rfl) rfl fun K hK => ?_
   refine step_store_row rfl 49 (.tmp 8) (.tmp 17) rfl z (⟨y0, y1, y2⟩ : Hd).vs.toArray (by first | rfl | simp [Act.eval, Act.put]) (by first | rfl | simp [Act.eval, Act.put]) 49 #[.int .i64 0, .int .i64 0, .string ⟨#[]⟩] NB.out (by kernel_rfl) rfl (all_oneCell_toArray (Hd.one _)) ?_
   obtain ⟨w9, hw9⟩ : ∃ w9, w9 = w8q.setRow z (⟨y0, y1, y2⟩ : Hd).vs.toArray := ⟨_, rfl⟩
   rw [← hw9]
   have N9 := hI (show St 49 z (⟨y0, y1, y2⟩ : Hd).vs.toArray w9 from by rw [hw9]; exact St.row NB.out)
   have B9 := hI (show Below w1.heap.size w1 w9 from by rw [hw9]; exact below_row B8q.out HZ.out _)
   have A9 := hI (show Below w.heap.size w w9 from by rw [hw9]; exact below_row (HB1.out.trans (B8q.out.mono HB1.out.size)) (Nat.le_trans HB1.out.size HZ.out) _)
   have C9 := hI (HS.out _ B9.out)
   clear hw9
   go_simp
   refine hK.out _ _ C9.out (fun S1 => ?_)
   clear hK K S1
   refine rd1 11 (by kernel_rfl) rfl fun K hK => ?_
   go_simp
   refine hK.out _ _ C9.out (fun S1 => ?_)
   clear hK K S1
   refine wpAnyH_done (by kernel_rfl) ?_ _
   have k2 : w9.cell? ⟨z, 2, none⟩ = some (.string y2) := N9.out.cell rfl
   go_wp2
   go_ret2
   exact ⟨rfl, A9.out⟩
set_option maxRecDepth 100000 in
set_option maxHeartbeats 2000000 in
theorem inName_any (cs : List Value) (ca : CA) (a0 : ByteArray) (a1 : ByteArray) (w : World) (h : CAt w.heap.size cs ca w) :
 Calls Tryz.prog 27 #[.agg cs.toArray, .string a0, .string a1] w fun e w' => e = .returned (.tuple (match ca.names.find? (pName a0 a1) with | some x => #[.string x.up, .bool true] | none => #[.string ⟨#[]⟩, .bool false])) ∧ Below w.heap.size w w' := by
 obtain ⟨y, g, hy, hg, he⟩ : ∃ (y : Kn) (g : Bool), y = (ca.names.find? (pName a0 a1)).getD ⟨⟨#[]⟩, ⟨#[]⟩, ⟨#[]⟩⟩ ∧ g = (ca.names.find? (pName a0 a1)).isSome ∧ Value.tuple (match ca.names.find? (pName a0 a1) with | some x => #[.string x.up, .bool true] | none => #[.string ⟨#[]⟩, .bool false]) = (match y with | ⟨y0, y1, y2⟩ => .tuple #[.string y2, .bool g]) := by
  cases ca.names.find? (pName a0 a1) with
  | none => exact ⟨_, _, rfl, rfl, rfl⟩
  | some x => exact ⟨_, _, rfl, rfl, rfl⟩
 rw [he]
 obtain ⟨v1, v2, v3, v4, rfl, r1, r2, r3, r4⟩ := h
 show Calls Tryz.prog 27 #[.agg #[v1, v2, v3, v4], .string a0, .string a1] w _
 obtain ⟨w1, hw1⟩ : ∃ w1, w1 = w.alloc (.cells #[v1, v2, v3, v4] 27 (0, 0)) := ⟨_, rfl⟩
 have hb1 : Below w.heap.size w w1 := by rw [hw1]; exact (Below.refl _ w).alloc (Nat.le_refl _) _
 have hst : St 27 w.heap.size #[v1, v2, v3, v4] w1 := by rw [hw1]; exact St.new w 27 _
 have HR := hI (show ∀ W, Below w1.heap.size w1 W → RowsAt W.heap.size 3 Kn.vs v3 ca.names W from fun W hW => (r3.below (hb1.trans (hW.mono hb1.size))).raise (Nat.le_trans hb1.size hW.size))
 have HS := hI (show ∀ W, Below w1.heap.size w1 W → W.cell? ⟨w.heap.size, 2, none⟩ = some v3 from fun W hW => (hst.below hW).cell rfl)
 have HF := hI (show ∀ (W : World) (lb : Array Value) (F : Nat → Prop), Below w1.heap.size w1 W → PredW Tryz.prog 127 lb Kn.vs (pName a0 a1) F W → Calls Tryz.prog 62 #[v3, .func (.func 127) #[] lb] W fun e w' => e = .returned (.tuple #[.agg y.vs.toArray, .bool g]) ∧ Below W.heap.size W w' from fun W lb F hW hp => by
  rw [hy, hg]
  exact inFindKnown_any v3 ca.names _ _ lb F W (HR.out W hW) (enters_of Tryz.func127 (by kernel_rfl) rfl) hp)
 have HW1 := hI hw1
 have HB1 := hI hb1
 clear hst hw1 hb1 r1 r2 r3 r4 he hy hg HR
 obtain ⟨y0, y1, y2⟩ := y
 go_enter Tryz.func27, Tryz.ntmps27
 go_wp2_with fail
 rw [← HW1.out]
 have BB0 := hI (Below.refl w1.heap.size w1)
 have HBD := hI (show Below w1.heap.size w1 w1.drew from BB0.out.drew)
 have C0 := hI (HS.out _ HBD.out)
 refine wp_region_held (S := (fun W => W.cell? ⟨w.heap.size, 2, none⟩ = some v3)) (by kernel_rfl) ?_
 change wpAnyH _ _ _ _ _ _ _ _ (World.drew _)
 generalize World.drew w1 = WD at HBD C0 ⊢
 refine tkp 0 (.pointer (some ⟨w.heap.size, 2, none⟩)) rfl (by kernel_rfl) q3 (fun w' hS => ?_) C0.out ?_
 · clear hS; go_simp
 try go_simp
 refine tkp 1 (v3) rfl (by kernel_rfl) q3 (fun w' hS => ?_) C0.out ?_
 · go_simp
 try go_simp
 refine tkp 2 (.string a0) rfl (by kernel_rfl) q3 (fun w' hS => ?_) C0.out ?_
 · clear hS; go_simp
 try go_simp
 refine tkp 3 (.string a1) rfl (by kernel_rfl) q3 (fun w' hS => ?_) C0.out ?_
 · clear hS; go_simp
 try go_simp
 refine wpAnyH_ready (rs := [4, 9]) (by kernel_rfl) (by simp) ?_
 refine AllReadyH.cons rfl (fun K hK => ?_) (AllReadyH.cons rfl (fun K hK => ?_) AllReadyH.nil)
 · go_simp
   refine (inqName_any a0 a1 _).mono ?_
   rintro e w1q ⟨lb, rfl, hb, hp⟩
   have HP := hI hp
   have B1q := hI (HBD.out.trans (hb.mono HBD.out.size))
   clear hb hp
   go_simp
   refine hK.out _ _ (HS.out _ B1q.out) (fun S1 => ?_)
   clear hK K S1
   refine wpAnyH_ready (rs := [5, 9]) (by kernel_rfl) (by simp) ?_
   refine AllReadyH.cons rfl (fun K hK => ?_) (AllReadyH.cons rfl (fun K hK => ?_) AllReadyH.nil)
   · go_simp
     refine (HF.out _ lb _ B1q.out HP.out).mono ?_
     rintro e w2q ⟨rfl, hb⟩
     have B2q := hI (B1q.out.trans (hb.mono B1q.out.size))
     clear hb
     go_simp
     refine hK.out _ _ (HS.out _ B2q.out) (fun S1 => ?_)
     clear hK K S1
     refine tkp 6 (.tuple #[.agg (Kn.mk y0 y1 y2).vs.toArray, .bool g]) rfl (by kernel_rfl) q3 (fun w' hS => ?_) (HS.out _ B2q.out) ?_
     · clear hS; go_simp
     try go_simp
     refine tkp 7 (.agg (⟨y0, y1, y2⟩ : Kn).vs.toArray) rfl (by kernel_rfl) q3 (fun w' hS => ?_) (HS.out _ B2q.out) ?_
     · clear hS; go_simp
     try go_simp
     refine tkp 8 (.bool g) rfl (by kernel_rfl) q3 (fun w' hS => ?_) (HS.out _ B2q.out) ?_
     · clear hS; go_simp
     try go_simp
     refine rd1 9 (by kernel_rfl) rfl fun K hK => ?_
     go_simp
     obtain ⟨w3q, hw⟩ : ∃ W, W = w2q.alloc (.cells #[.string ⟨#[]⟩, .string ⟨#[]⟩, .string ⟨#[]⟩] 61 (0, 0)) := ⟨_, rfl⟩
     have B3q := hI (show Below w1.heap.size w1 w3q from by rw [hw]; exact B2q.out.alloc B2q.out.size _)
     have NB := hI (show St 61 w2q.heap.size #[.string ⟨#[]⟩, .string ⟨#[]⟩, .string ⟨#[]⟩] w3q from by rw [hw]; exact St.new _ _ _)
     obtain ⟨z, hz⟩ : ∃ z, z = w2q.heap.size := ⟨_, rfl⟩
     have HZ := hI (show w1.heap.size ≤ z from by rw [hz]; exact B2q.out.size)
     rw [← hw, ← hz]
     rw [← hz] at NB
     clear hw hz
     refine hK.out _ _ (HS.out _ B3q.out) (fun S1 => ?_)
     clear hK K S1
     refine rd1 10 (by kernel_rfl) rfl fun K hK => ?_
     refine step_store_row rfl 61 (.tmp 8) (.tmp 17) rfl z (⟨y0, y1, y2⟩ : Kn).vs.toArray (by first | rfl | simp [Act.eval, Act.put]) (by first | rfl | simp [Act.eval, Act.put]) 61 #[.string ⟨#[]⟩, .string ⟨#[]⟩, .string ⟨#[]⟩] NB.out (by kernel_rfl) rfl (all_oneCell_toArray (Kn.one _)) ?_
     obtain ⟨w9, hw9⟩ : ∃ w9, w9 = w3q.setRow z (⟨y0, y1, y2⟩ : Kn).vs.toArray := ⟨_, rfl⟩
     rw [← hw9]
     have N9 := hI (show St 61 z (⟨y0, y1, y2⟩ : Kn).vs.toArray w9 from by rw [hw9]; exact St.row NB.out)
     have B9 := hI (show Below w1.heap.size w1 w9 from by rw [hw9]; exact below_row B3q.out HZ.out _)
     have A9 := hI (show Below w.heap.size w w9 from by rw [hw9]; exact below_row (HB1.out.trans (B3q.out.mono HB1.out.size)) (Nat.le_trans HB1.out.size HZ.out) _)
     have C9 := hI (HS.out _ B9.out)
     clear hw9
     go_simp
     refine hK.out _ _ C9.out (fun S1 => ?_)
     clear hK K S1
     refine rd1 11 (by kernel_rfl) rfl fun K hK => ?_
     go_simp
     refine hK.out _ _ C9.out (fun S1 => ?_)
     clear hK K S1
     refine wpAnyH_done (by kernel_rfl) ?_ _
     have k2 : w9.cell? ⟨z, 2, none⟩ = some (.string y2) := N9.out.cell rfl
     go_wp2
     go_ret2
     exact ⟨rfl, A9.out⟩
   · go_simp
     obtain ⟨w4q, hw⟩ : ∃ W, W = w1q.alloc (.cells #[.string ⟨#[]⟩, .string ⟨#[]⟩, .string ⟨#[]⟩] 61 (0, 0)) := ⟨_, rfl⟩
     have B4q := hI (show Below w1.heap.size w1 w4q from by rw [hw]; exact B1q.out.alloc B1q.out.size _)
     have NB := hI (show St 61 w1q.heap.size #[.string ⟨#[]⟩, .string ⟨#[]⟩, .string ⟨#[]⟩] w4q from by rw [hw]; exact St.new _ _ _)
     have HP := hI (HP.out.later (Frm.of_below (show Below _ _ w4q from by rw [hw]; exact (Below.refl _ _).alloc (Nat.le_refl _) _)) (fun j hj => .inl hj))
     obtain ⟨z, hz⟩ : ∃ z, z = w1q.heap.size := ⟨_, rfl⟩
     have HZ := hI (show w1.heap.size ≤ z from by rw [hz]; exact B1q.out.size)
     rw [← hw, ← hz]
     rw [← hz] at NB
     clear hw hz
     refine hK.out _ _ (HS.out _ B4q.out) (fun S1 => ?_)
     clear hK K S1
     refine rd1 5 (by kernel_rfl) rfl fun K hK => ?_
     go_simp
     refine (HF.out _ lb _ B4q.out HP.out).mono ?_
     rintro e w5q ⟨rfl, hb⟩
     have B5q := hI (B4q.out.trans (hb.mono B4q.out.size))
     have NB := hI (NB.out.below hb)
     clear hb
     go_simp
     refine hK.out _ _ (HS.out _ B5q.out) (fun S1 => ?_)
     clear hK K S1
     refine tkp 6 (.tuple #[.agg (Kn.mk y0 y1 y2).vs.toArray, .bool g]) rfl (by kernel_rfl) q3 (fun w' hS => ?_) (HS.out _ B5q.out) ?_
     · clear hS; go_simp
     try go_simp
     refine tkp 7 (.agg (⟨y0, y1, y2⟩ : Kn).vs.toArray) rfl (by kernel_rfl) q3 (fun w' hS => ?_) (HS.out _ B5q.out) ?_
     · clear hS; go_simp
     try go_simp
     refine tkp 8 (.bool g) rfl (by kernel_rfl) q3 (fun w' hS => ?_) (HS.out _ B5q.out) ?_
     · clear hS; go_simp
     try go_simp
     refine rd1 10 (by kernel_rfl) rfl fun K hK => ?_
     refine step_store_row rfl 61 (.tmp 8) (.tmp 17) rfl z (⟨y0, y1, y2⟩ : Kn).vs.toArray (by first | rfl | simp [Act.eval, Act.put]) (by first | rfl | simp [Act.eval, Act.put]) 61 #[.string ⟨#[]⟩, .string ⟨#[]⟩, .string ⟨#[]⟩] NB.out (by kernel_rfl) rfl (all_oneCell_toArray (Kn.one _)) ?_
     obtain ⟨w9, hw9⟩ : ∃ w9, w9 = w5q.setRow z (⟨y0, y1, y2⟩ : Kn).vs.toArray := ⟨_, rfl⟩
     rw [← hw9]
     have N9 := hI (show St 61 z (⟨y0, y1, y2⟩ : Kn).vs.toArray w9 from by rw [hw9]; exact St.row NB.out)
     have B9 := hI (show Below w1.heap.size w1 w9 from by rw [hw9]; exact below_row B5q.out HZ.out _)
     have A9 := hI (show Below w.heap.size w w9 from by rw [hw9]; exact below_row (HB1.out.trans (B5q.out.mono HB1.out.size)) (Nat.le_trans HB1.out.size HZ.out) _)
     have C9 := hI (HS.out _ B9.out)
     clear hw9
     go_simp
     refine hK.out _ _ C9.out (fun S1 => ?_)
     clear hK K S1
     refine rd1 11 (by kernel_rfl) rfl fun K hK => ?_
     go_simp
     refine hK.out _ _ C9.out (fun S1 => ?_)
     clear hK K S1
     refine wpAnyH_done (by kernel_rfl) ?_ _
     have k2 : w9.cell? ⟨z, 2, none⟩ = some (.string y2) := N9.out.cell rfl
     go_wp2
     go_ret2
     exact ⟨rfl, A9.out⟩
 · go_simp
   obtain ⟨w6q, hw⟩ : ∃ W, W = WD.alloc (.cells #[.string ⟨#[]⟩, .string ⟨#[]⟩, .string ⟨#[]⟩] 61 (0, 0)) := ⟨_, rfl⟩
   have B6q := hI (show Below w1.heap.size w1 w6q from by rw [hw]; exact HBD.out.alloc HBD.out.size _)
   have NB := hI (show St 61 WD.heap.size #[.string ⟨#[]⟩, .string ⟨#[]⟩, .string ⟨#[]⟩] w6q from by rw [hw]; exact St.new _ _ _)
   obtain ⟨z, hz⟩ : ∃ z, z = WD.heap.size := ⟨_, rfl⟩
   have HZ := hI (show w1.heap.size ≤ z from by rw [hz]; exact HBD.out.size)
   rw [← hw, ← hz]
   rw [← hz] at NB
   clear hw hz
   refine hK.out _ _ (HS.out _ B6q.out) (fun S1 => ?_)
   clear hK K S1
   refine rd1 4 (by kernel_rfl) rfl fun K hK => ?_
   go_simp
   refine (inqName_any a0 a1 _).mono ?_
   rintro e w7q ⟨lb, rfl, hb, hp⟩
   have HP := hI hp
   have B7q := hI (B6q.out.trans (hb.mono B6q.out.size))
   have NB := hI (NB.out.below hb)
   clear hb hp
   go_simp
   refine hK.out _ _ (HS.out _ B7q.out) (fun S1 => ?_)
   clear hK K S1
   refine rd1 5 (by kernel_rfl) rfl fun K hK => ?_
   go_simp
   refine (HF.out _ lb _ B7q.out HP.out).mono ?_
   rintro e w8q ⟨rfl, hb⟩
   have B8q := hI (B7q.out.trans (hb.mono B7q.out.size))
   have NB := hI (NB.out.below hb)
   clear hb
   go_simp
   refine hK.out _ _ (HS.out _ B8q.out) (fun S1 => ?_)
   clear hK K S1
   refine tkp 6 (.tuple #[.agg (Kn.mk y0 y1 y2).vs.toArray, .bool g]) rfl (by kernel_rfl) q3 (fun w' hS => ?_) (HS.out _ B8q.out) ?_
   · clear hS; go_simp
   try go_simp
   refine tkp 7 (.agg (⟨y0, y1, y2⟩ : Kn).vs.toArray) rfl (by kernel_rfl) q3 (fun w' hS => ?_) (HS.out _ B8q.out) ?_
   · clear hS; go_simp
   try go_simp
   refine tkp 8 (.bool g) rfl (by kernel_rfl) q3 (fun w' hS => ?_) (HS.out _ B8q.out) ?_
   · clear hS; go_simp
   try go_simp
   refine rd1 10 (by kernel_rfl) rfl fun K hK => ?_
   refine step_store_row rfl 61 (.tmp 8) (.tmp 17) rfl z (⟨y0, y1, y2⟩ : Kn).vs.toArray (by first | rfl | simp [Act.eval, Act.put]) (by first | rfl | simp [Act.eval, Act.put]) 61 #[.string ⟨#[]⟩, .string ⟨#[]⟩, .string ⟨#[]⟩] NB.out (by kernel_rfl) rfl (all_oneCell_toArray (Kn.one _)) ?_
   obtain ⟨w9, hw9⟩ : ∃ w9, w9 = w8q.setRow z (⟨y0, y1, y2⟩ : Kn).vs.toArray := ⟨_, rfl⟩
   rw [← hw9]
   have N9 := hI (show St 61 z (⟨y0, y1, y2⟩ : Kn).vs.toArray w9 from by rw [hw9]; exact St.row NB.out)
   have B9 := hI (show Below w1.heap.size w1 w9 from by rw [hw9]; exact below_row B8q.out HZ.out _)
   have A9 := hI (show Below w.heap.size w w9 from by rw [hw9]; exact below_row (HB1.out.trans (B8q.out.mono HB1.out.size)) (Nat.le_trans HB1.out.size HZ.out) _)
   have C9 := hI (HS.out _ B9.out)
   clear hw9
   go_simp
   refine hK.out _ _ C9.out (fun S1 => ?_)
   clear hK K S1
   refine rd1 11 (by kernel_rfl) rfl fun K hK => ?_
   go_simp
   refine hK.out _ _ C9.out (fun S1 => ?_)
   clear hK K S1
   refine wpAnyH_done (by kernel_rfl) ?_ _
   have k2 : w9.cell? ⟨z, 2, none⟩ = some (.string y2) := N9.out.cell rfl
   go_wp2
   go_ret2
   exact ⟨rfl, A9.out⟩
set_option maxRecDepth 100000 in
set_option maxHeartbeats 2000000 in
theorem inBlock_any (cs : List Value) (ca : CA) (a0 : ByteArray) (a1 : Int) (w : World) (h : CAt w.heap.size cs ca w) :
 Calls Tryz.prog 29 #[.agg cs.toArray, .string a0, .int .i64 a1] w fun e w' => e = .returned (.tuple (match ca.blocks.find? (pBlock a0 a1) with | some x => #[.int .i64 x.slot, .bool true] | none => #[.int .i64 0, .bool false])) ∧ Below w.heap.size w w' := by
 obtain ⟨y, g, hy, hg, he⟩ : ∃ (y : Bk) (g : Bool), y = (ca.blocks.find? (pBlock a0 a1)).getD ⟨⟨#[]⟩, 0, 0⟩ ∧ g = (ca.blocks.find? (pBlock a0 a1)).isSome ∧ Value.tuple (match ca.blocks.find? (pBlock a0 a1) with | some x => #[.int .i64 x.slot, .bool true] | none => #[.int .i64 0, .bool false]) = (match y with | ⟨y0, y1, y2⟩ => .tuple #[.int .i64 y2, .bool g]) := by
  cases ca.blocks.find? (pBlock a0 a1) with
  | none => exact ⟨_, _, rfl, rfl, rfl⟩
  | some x => exact ⟨_, _, rfl, rfl, rfl⟩
 rw [he]
 obtain ⟨v1, v2, v3, v4, rfl, r1, r2, r3, r4⟩ := h
 show Calls Tryz.prog 29 #[.agg #[v1, v2, v3, v4], .string a0, .int .i64 a1] w _
 obtain ⟨w1, hw1⟩ : ∃ w1, w1 = w.alloc (.cells #[v1, v2, v3, v4] 27 (0, 0)) := ⟨_, rfl⟩
 have hb1 : Below w.heap.size w w1 := by rw [hw1]; exact (Below.refl _ w).alloc (Nat.le_refl _) _
 have hst : St 27 w.heap.size #[v1, v2, v3, v4] w1 := by rw [hw1]; exact St.new w 27 _
 have HR := hI (show ∀ W, Below w1.heap.size w1 W → RowsAt W.heap.size 3 Bk.vs v4 ca.blocks W from fun W hW => (r4.below (hb1.trans (hW.mono hb1.size))).raise (Nat.le_trans hb1.size hW.size))
 have HS := hI (show ∀ W, Below w1.heap.size w1 W → W.cell? ⟨w.heap.size, 3, none⟩ = some v4 from fun W hW => (hst.below hW).cell rfl)
 have HF := hI (show ∀ (W : World) (lb : Array Value) (F : Nat → Prop), Below w1.heap.size w1 W → PredW Tryz.prog 129 lb Bk.vs (pBlock a0 a1) F W → Calls Tryz.prog 64 #[v4, .func (.func 129) #[] lb] W fun e w' => e = .returned (.tuple #[.agg y.vs.toArray, .bool g]) ∧ Below W.heap.size W w' from fun W lb F hW hp => by
  rw [hy, hg]
  exact inFindPlaced_any v4 ca.blocks _ _ lb F W (HR.out W hW) (enters_of Tryz.func129 (by kernel_rfl) rfl) hp)
 have HW1 := hI hw1
 have HB1 := hI hb1
 clear hst hw1 hb1 r1 r2 r3 r4 he hy hg HR
 obtain ⟨y0, y1, y2⟩ := y
 go_enter Tryz.func29, Tryz.ntmps29
 go_wp2_with fail
 rw [← HW1.out]
 have BB0 := hI (Below.refl w1.heap.size w1)
 have HBD := hI (show Below w1.heap.size w1 w1.drew from BB0.out.drew)
 have C0 := hI (HS.out _ HBD.out)
 refine wp_region_held (S := (fun W => W.cell? ⟨w.heap.size, 3, none⟩ = some v4)) (by kernel_rfl) ?_
 change wpAnyH _ _ _ _ _ _ _ _ (World.drew _)
 generalize World.drew w1 = WD at HBD C0 ⊢
 refine tkp 0 (.pointer (some ⟨w.heap.size, 3, none⟩)) rfl (by kernel_rfl) q3 (fun w' hS => ?_) C0.out ?_
 · clear hS; go_simp
 try go_simp
 refine tkp 1 (v4) rfl (by kernel_rfl) q3 (fun w' hS => ?_) C0.out ?_
 · go_simp
 try go_simp
 refine tkp 2 (.string a0) rfl (by kernel_rfl) q3 (fun w' hS => ?_) C0.out ?_
 · clear hS; go_simp
 try go_simp
 refine tkp 3 (.int .i64 a1) rfl (by kernel_rfl) q3 (fun w' hS => ?_) C0.out ?_
 · clear hS; go_simp
 try go_simp
 refine wpAnyH_ready (rs := [4, 9]) (by kernel_rfl) (by simp) ?_
 refine AllReadyH.cons rfl (fun K hK => ?_) (AllReadyH.cons rfl (fun K hK => ?_) AllReadyH.nil)
 · go_simp
   refine (inqBlock_any a0 a1 _).mono ?_
   rintro e w1q ⟨lb, rfl, hb, hp⟩
   have HP := hI hp
   have B1q := hI (HBD.out.trans (hb.mono HBD.out.size))
   clear hb hp
   go_simp
   refine hK.out _ _ (HS.out _ B1q.out) (fun S1 => ?_)
   clear hK K S1
   refine wpAnyH_ready (rs := [5, 9]) (by kernel_rfl) (by simp) ?_
   refine AllReadyH.cons rfl (fun K hK => ?_) (AllReadyH.cons rfl (fun K hK => ?_) AllReadyH.nil)
   · go_simp
     refine (HF.out _ lb _ B1q.out HP.out).mono ?_
     rintro e w2q ⟨rfl, hb⟩
     have B2q := hI (B1q.out.trans (hb.mono B1q.out.size))
     clear hb
     go_simp
     refine hK.out _ _ (HS.out _ B2q.out) (fun S1 => ?_)
     clear hK K S1
     refine tkp 6 (.tuple #[.agg (Bk.mk y0 y1 y2).vs.toArray, .bool g]) rfl (by kernel_rfl) q3 (fun w' hS => ?_) (HS.out _ B2q.out) ?_
     · clear hS; go_simp
     try go_simp
     refine tkp 7 (.agg (⟨y0, y1, y2⟩ : Bk).vs.toArray) rfl (by kernel_rfl) q3 (fun w' hS => ?_) (HS.out _ B2q.out) ?_
     · clear hS; go_simp
     try go_simp
     refine tkp 8 (.bool g) rfl (by kernel_rfl) q3 (fun w' hS => ?_) (HS.out _ B2q.out) ?_
     · clear hS; go_simp
     try go_simp
     refine rd1 9 (by kernel_rfl) rfl fun K hK => ?_
     go_simp
     obtain ⟨w3q, hw⟩ : ∃ W, W = w2q.alloc (.cells #[.string ⟨#[]⟩, .int .i64 0, .int .i64 0] 66 (0, 0)) := ⟨_, rfl⟩
     have B3q := hI (show Below w1.heap.size w1 w3q from by rw [hw]; exact B2q.out.alloc B2q.out.size _)
     have NB := hI (show St 66 w2q.heap.size #[.string ⟨#[]⟩, .int .i64 0, .int .i64 0] w3q from by rw [hw]; exact St.new _ _ _)
     obtain ⟨z, hz⟩ : ∃ z, z = w2q.heap.size := ⟨_, rfl⟩
     have HZ := hI (show w1.heap.size ≤ z from by rw [hz]; exact B2q.out.size)
     rw [← hw, ← hz]
     rw [← hz] at NB
     clear hw hz
     refine hK.out _ _ (HS.out _ B3q.out) (fun S1 => ?_)
     clear hK K S1
     refine rd1 10 (by kernel_rfl) rfl fun K hK => ?_
     refine step_store_row rfl 66 (.tmp 8) (.tmp 17) rfl z (⟨y0, y1, y2⟩ : Bk).vs.toArray (by first | rfl | simp [Act.eval, Act.put]) (by first | rfl | simp [Act.eval, Act.put]) 66 #[.string ⟨#[]⟩, .int .i64 0, .int .i64 0] NB.out (by kernel_rfl) rfl (all_oneCell_toArray (Bk.one _)) ?_
     obtain ⟨w9, hw9⟩ : ∃ w9, w9 = w3q.setRow z (⟨y0, y1, y2⟩ : Bk).vs.toArray := ⟨_, rfl⟩
     rw [← hw9]
     have N9 := hI (show St 66 z (⟨y0, y1, y2⟩ : Bk).vs.toArray w9 from by rw [hw9]; exact St.row NB.out)
     have B9 := hI (show Below w1.heap.size w1 w9 from by rw [hw9]; exact below_row B3q.out HZ.out _)
     have A9 := hI (show Below w.heap.size w w9 from by rw [hw9]; exact below_row (HB1.out.trans (B3q.out.mono HB1.out.size)) (Nat.le_trans HB1.out.size HZ.out) _)
     have C9 := hI (HS.out _ B9.out)
     clear hw9
     go_simp
     refine hK.out _ _ C9.out (fun S1 => ?_)
     clear hK K S1
     refine rd1 11 (by kernel_rfl) rfl fun K hK => ?_
     go_simp
     refine hK.out _ _ C9.out (fun S1 => ?_)
     clear hK K S1
     refine wpAnyH_done (by kernel_rfl) ?_ _
     have k2 : w9.cell? ⟨z, 2, none⟩ = some (.int .i64 y2) := N9.out.cell rfl
     go_wp2
     go_ret2
     exact ⟨rfl, A9.out⟩
   · go_simp
     obtain ⟨w4q, hw⟩ : ∃ W, W = w1q.alloc (.cells #[.string ⟨#[]⟩, .int .i64 0, .int .i64 0] 66 (0, 0)) := ⟨_, rfl⟩
     have B4q := hI (show Below w1.heap.size w1 w4q from by rw [hw]; exact B1q.out.alloc B1q.out.size _)
     have NB := hI (show St 66 w1q.heap.size #[.string ⟨#[]⟩, .int .i64 0, .int .i64 0] w4q from by rw [hw]; exact St.new _ _ _)
     have HP := hI (HP.out.later (Frm.of_below (show Below _ _ w4q from by rw [hw]; exact (Below.refl _ _).alloc (Nat.le_refl _) _)) (fun j hj => .inl hj))
     obtain ⟨z, hz⟩ : ∃ z, z = w1q.heap.size := ⟨_, rfl⟩
     have HZ := hI (show w1.heap.size ≤ z from by rw [hz]; exact B1q.out.size)
     rw [← hw, ← hz]
     rw [← hz] at NB
     clear hw hz
     refine hK.out _ _ (HS.out _ B4q.out) (fun S1 => ?_)
     clear hK K S1
     refine rd1 5 (by kernel_rfl) rfl fun K hK => ?_
     go_simp
     refine (HF.out _ lb _ B4q.out HP.out).mono ?_
     rintro e w5q ⟨rfl, hb⟩
     have B5q := hI (B4q.out.trans (hb.mono B4q.out.size))
     have NB := hI (NB.out.below hb)
     clear hb
     go_simp
     refine hK.out _ _ (HS.out _ B5q.out) (fun S1 => ?_)
     clear hK K S1
     refine tkp 6 (.tuple #[.agg (Bk.mk y0 y1 y2).vs.toArray, .bool g]) rfl (by kernel_rfl) q3 (fun w' hS => ?_) (HS.out _ B5q.out) ?_
     · clear hS; go_simp
     try go_simp
     refine tkp 7 (.agg (⟨y0, y1, y2⟩ : Bk).vs.toArray) rfl (by kernel_rfl) q3 (fun w' hS => ?_) (HS.out _ B5q.out) ?_
     · clear hS; go_simp
     try go_simp
     refine tkp 8 (.bool g) rfl (by kernel_rfl) q3 (fun w' hS => ?_) (HS.out _ B5q.out) ?_
     · clear hS; go_simp
     try go_simp
     refine rd1 10 (by kernel_rfl) rfl fun K hK => ?_
     refine step_store_row rfl 66 (.tmp 8) (.tmp 17) rfl z (⟨y0, y1, y2⟩ : Bk).vs.toArray (by first | rfl | simp [Act.eval, Act.put]) (by first | rfl | simp [Act.eval, Act.put]) 66 #[.string ⟨#[]⟩, .int .i64 0, .int .i64 0] NB.out (by kernel_rfl) rfl (all_oneCell_toArray (Bk.one _)) ?_
     obtain ⟨w9, hw9⟩ : ∃ w9, w9 = w5q.setRow z (⟨y0, y1, y2⟩ : Bk).vs.toArray := ⟨_, rfl⟩
     rw [← hw9]
     have N9 := hI (show St 66 z (⟨y0, y1, y2⟩ : Bk).vs.toArray w9 from by rw [hw9]; exact St.row NB.out)
     have B9 := hI (show Below w1.heap.size w1 w9 from by rw [hw9]; exact below_row B5q.out HZ.out _)
     have A9 := hI (show Below w.heap.size w w9 from by rw [hw9]; exact below_row (HB1.out.trans (B5q.out.mono HB1.out.size)) (Nat.le_trans HB1.out.size HZ.out) _)
     have C9 := hI (HS.out _ B9.out)
     clear hw9
     go_simp
     refine hK.out _ _ C9.out (fun S1 => ?_)
     clear hK K S1
     refine rd1 11 (by kernel_rfl) rfl fun K hK => ?_
     go_simp
     refine hK.out _ _ C9.out (fun S1 => ?_)
     clear hK K S1
     refine wpAnyH_done (by kernel_rfl) ?_ _
     have k2 : w9.cell? ⟨z, 2, none⟩ = some (.int .i64 y2) := N9.out.cell rfl
     go_wp2
     go_ret2
     exact ⟨rfl, A9.out⟩
 · go_simp
   obtain ⟨w6q, hw⟩ : ∃ W, W = WD.alloc (.cells #[.string ⟨#[]⟩, .int .i64 0, .int .i64 0] 66 (0, 0)) := ⟨_, rfl⟩
   have B6q := hI (show Below w1.heap.size w1 w6q from by rw [hw]; exact HBD.out.alloc HBD.out.size _)
   have NB := hI (show St 66 WD.heap.size #[.string ⟨#[]⟩, .int .i64 0, .int .i64 0] w6q from by rw [hw]; exact St.new _ _ _)
   obtain ⟨z, hz⟩ : ∃ z, z = WD.heap.size := ⟨_, rfl⟩
   have HZ := hI (show w1.heap.size ≤ z from by rw [hz]; exact HBD.out.size)
   rw [← hw, ← hz]
   rw [← hz] at NB
   clear hw hz
   refine hK.out _ _ (HS.out _ B6q.out) (fun S1 => ?_)
   clear hK K S1
   refine rd1 4 (by kernel_rfl) rfl fun K hK => ?_
   go_simp
   refine (inqBlock_any a0 a1 _).mono ?_
   rintro e w7q ⟨lb, rfl, hb, hp⟩
   have HP := hI hp
   have B7q := hI (B6q.out.trans (hb.mono B6q.out.size))
   have NB := hI (NB.out.below hb)
   clear hb hp
   go_simp
   refine hK.out _ _ (HS.out _ B7q.out) (fun S1 => ?_)
   clear hK K S1
   refine rd1 5 (by kernel_rfl) rfl fun K hK => ?_
   go_simp
   refine (HF.out _ lb _ B7q.out HP.out).mono ?_
   rintro e w8q ⟨rfl, hb⟩
   have B8q := hI (B7q.out.trans (hb.mono B7q.out.size))
   have NB := hI (NB.out.below hb)
   clear hb
   go_simp
   refine hK.out _ _ (HS.out _ B8q.out) (fun S1 => ?_)
   clear hK K S1
   refine tkp 6 (.tuple #[.agg (Bk.mk y0 y1 y2).vs.toArray, .bool g]) rfl (by kernel_rfl) q3 (fun w' hS => ?_) (HS.out _ B8q.out) ?_
   · clear hS; go_simp
   try go_simp
   refine tkp 7 (.agg (⟨y0, y1, y2⟩ : Bk).vs.toArray) rfl (by kernel_rfl) q3 (fun w' hS => ?_) (HS.out _ B8q.out) ?_
   · clear hS; go_simp
   try go_simp
   refine tkp 8 (.bool g) rfl (by kernel_rfl) q3 (fun w' hS => ?_) (HS.out _ B8q.out) ?_
   · clear hS; go_simp
   try go_simp
   refine rd1 10 (by kernel_rfl) rfl fun K hK => ?_
   refine step_store_row rfl 66 (.tmp 8) (.tmp 17) rfl z (⟨y0, y1, y2⟩ : Bk).vs.toArray (by first | rfl | simp [Act.eval, Act.put]) (by first | rfl | simp [Act.eval, Act.put]) 66 #[.string ⟨#[]⟩, .int .i64 0, .int .i64 0] NB.out (by kernel_rfl) rfl (all_oneCell_toArray (Bk.one _)) ?_
   obtain ⟨w9, hw9⟩ : ∃ w9, w9 = w8q.setRow z (⟨y0, y1, y2⟩ : Bk).vs.toArray := ⟨_, rfl⟩
   rw [← hw9]
   have N9 := hI (show St 66 z (⟨y0, y1, y2⟩ : Bk).vs.toArray w9 from by rw [hw9]; exact St.row NB.out)
   have B9 := hI (show Below w1.heap.size w1 w9 from by rw [hw9]; exact below_row B8q.out HZ.out _)
   have A9 := hI (show Below w.heap.size w w9 from by rw [hw9]; exact below_row (HB1.out.trans (B8q.out.mono HB1.out.size)) (Nat.le_trans HB1.out.size HZ.out) _)
   have C9 := hI (HS.out _ B9.out)
   clear hw9
   go_simp
   refine hK.out _ _ C9.out (fun S1 => ?_)
   clear hK K S1
   refine rd1 11 (by kernel_rfl) rfl fun K hK => ?_
   go_simp
   refine hK.out _ _ C9.out (fun S1 => ?_)
   clear hK K S1
   refine wpAnyH_done (by kernel_rfl) ?_ _
   have k2 : w9.cell? ⟨z, 2, none⟩ = some (.int .i64 y2) := N9.out.cell rfl
   go_wp2
   go_ret2
   exact ⟨rfl, A9.out⟩
set_option maxRecDepth 100000 in
set_option maxHeartbeats 2000000 in
theorem inIssued_any (cs : List Value) (ca : CA) (a0 : ByteArray) (w : World) (h : CAt w.heap.size cs ca w) :
 Calls Tryz.prog 23 #[.agg cs.toArray, .string a0] w fun e w' => e = .returned (.tuple (match ca.helds.find? (pIssued a0) with | some x => #[.agg x.vs.toArray, .bool true] | none => #[.agg (Hd.mk 0 0 ⟨#[]⟩).vs.toArray, .bool false])) ∧ Below w.heap.size w w' := by
 obtain ⟨y, g, hy, hg, he⟩ : ∃ (y : Hd) (g : Bool), y = (ca.helds.find? (pIssued a0)).getD ⟨0, 0, ⟨#[]⟩⟩ ∧ g = (ca.helds.find? (pIssued a0)).isSome ∧ Value.tuple (match ca.helds.find? (pIssued a0) with | some x => #[.agg x.vs.toArray, .bool true] | none => #[.agg (Hd.mk 0 0 ⟨#[]⟩).vs.toArray, .bool false]) = (match y with | ⟨y0, y1, y2⟩ => .tuple #[.agg #[.int .i64 y0, .int .i64 y1, .string y2], .bool g]) := by
  cases ca.helds.find? (pIssued a0) with
  | none => exact ⟨_, _, rfl, rfl, rfl⟩
  | some x => exact ⟨_, _, rfl, rfl, rfl⟩
 rw [he]
 obtain ⟨v1, v2, v3, v4, rfl, r1, r2, r3, r4⟩ := h
 show Calls Tryz.prog 23 #[.agg #[v1, v2, v3, v4], .string a0] w _
 obtain ⟨w1, hw1⟩ : ∃ w1, w1 = (w.alloc (.cells #[v1, v2, v3, v4] 27 (0, 0))).alloc (.cells #[.int .i64 0, .int .i64 0, .string ⟨#[]⟩] 49 (0, 0)) := ⟨_, rfl⟩
 have hb1 : Below w.heap.size w w1 := by rw [hw1]; exact ((Below.refl _ w).alloc (Nat.le_refl _) _).alloc (by simp) _
 have hst : St 27 w.heap.size #[v1, v2, v3, v4] w1 := by rw [hw1]; exact (St.new w 27 _).alloc _
 have ST2 := hI (show St 49 (w.heap.size + 1) #[.int .i64 0, .int .i64 0, .string ⟨#[]⟩] w1 from by rw [hw1]; exact St.new1 w _ _ _)
 have HR := hI (show ∀ W, Below w1.heap.size w1 W → RowsAt W.heap.size 3 Hd.vs v1 ca.helds W from fun W hW => (r1.below (hb1.trans (hW.mono hb1.size))).raise (Nat.le_trans hb1.size hW.size))
 have HS := hI (show ∀ W, Below w1.heap.size w1 W → W.cell? ⟨w.heap.size, 0, none⟩ = some v1 from fun W hW => (hst.below hW).cell rfl)
 have HF := hI (show ∀ (W : World) (lb : Array Value) (F : Nat → Prop), Below w1.heap.size w1 W → PredW Tryz.prog 123 lb Hd.vs (pIssued a0) F W → Calls Tryz.prog 57 #[v1, .func (.func 123) #[] lb] W fun e w' => e = .returned (.tuple #[.agg y.vs.toArray, .bool g]) ∧ Below W.heap.size W w' from fun W lb F hW hp => by
  rw [hy, hg]
  exact inFindHeld_any v1 ca.helds _ _ lb F W (HR.out W hW) (enters_of Tryz.func123 (by kernel_rfl) rfl) hp)
 have HW1 := hI hw1
 have HB1 := hI hb1
 clear hst hw1 hb1 r1 r2 r3 r4 he hy hg HR
 obtain ⟨y0, y1, y2⟩ := y
 go_enter Tryz.func23, Tryz.ntmps23
 go_wp2_with fail
 rw [← HW1.out]
 have BB0 := hI (Below.refl w1.heap.size w1)
 have HBD := hI (show Below w1.heap.size w1 w1.drew from BB0.out.drew)
 have C0 := hI (HS.out _ HBD.out)
 refine wp_region_held (S := (fun W => W.cell? ⟨w.heap.size, 0, none⟩ = some v1)) (by kernel_rfl) ?_
 change wpAnyH _ _ _ _ _ _ _ _ (World.drew _)
 generalize World.drew w1 = WD at HBD C0 ⊢
 refine tkp 0 (.pointer (some ⟨w.heap.size, 0, none⟩)) rfl (by kernel_rfl) q3 (fun w' hS => ?_) C0.out ?_
 · clear hS; go_simp
 try go_simp
 refine tkp 1 (v1) rfl (by kernel_rfl) q3 (fun w' hS => ?_) C0.out ?_
 · go_simp
 try go_simp
 refine tkp 2 (.string a0) rfl (by kernel_rfl) q3 (fun w' hS => ?_) C0.out ?_
 · clear hS; go_simp
 try go_simp
 refine rd1 3 (by kernel_rfl) rfl fun K hK => ?_
 go_simp
 refine (inqFor_any a0 _).mono ?_
 rintro e w1q ⟨lb, rfl, hb, hp⟩
 have HP := hI hp
 have B1q := hI (HBD.out.trans (hb.mono HBD.out.size))
 clear hb hp
 go_simp
 refine hK.out _ _ (HS.out _ B1q.out) (fun S1 => ?_)
 clear hK K S1
 refine rd1 4 (by kernel_rfl) rfl fun K hK => ?_
 go_simp
 refine (HF.out _ lb _ B1q.out HP.out).mono ?_
 rintro e w2q ⟨rfl, hb⟩
 have B2q := hI (B1q.out.trans (hb.mono B1q.out.size))
 clear hb
 go_simp
 refine hK.out _ _ (HS.out _ B2q.out) (fun S1 => ?_)
 clear hK K S1
 refine tkp 5 (.agg (⟨y0, y1, y2⟩ : Hd).vs.toArray) rfl (by kernel_rfl) q3 (fun w' hS => ?_) (HS.out _ B2q.out) ?_
 · clear hS; go_simp
 try go_simp
 refine tkp 6 (.bool g) rfl (by kernel_rfl) q3 (fun w' hS => ?_) (HS.out _ B2q.out) ?_
 · clear hS; go_simp
 try go_simp
 refine rd1 7 (by kernel_rfl) rfl fun K hK => ?_
 refine step_store_row rfl 49 (.tmp 4) (.tmp 11) rfl (w.heap.size + 1) (⟨y0, y1, y2⟩ : Hd).vs.toArray (by first | rfl | simp [Act.eval, Act.put]) (by first | rfl | simp [Act.eval, Act.put]) 49 #[.int .i64 0, .int .i64 0, .string ⟨#[]⟩] (ST2.out.below (B2q.out.mono (Nat.le_refl _))) (by kernel_rfl) rfl (all_oneCell_toArray (Hd.one _)) ?_
 obtain ⟨w9, hw9⟩ : ∃ w9, w9 = w2q.setRow (w.heap.size + 1) (⟨y0, y1, y2⟩ : Hd).vs.toArray := ⟨_, rfl⟩
 rw [← hw9]
 have N9 := hI (show St 49 (w.heap.size + 1) (⟨y0, y1, y2⟩ : Hd).vs.toArray w9 from by rw [hw9]; exact St.row (ST2.out.below (B2q.out.mono (Nat.le_refl _))))
 have A9 := hI (show Below w.heap.size w w9 from by rw [hw9]; exact below_row (HB1.out.trans (B2q.out.mono HB1.out.size)) (Nat.le_succ _) _)
 have C9 := hI (show w9.cell? ⟨w.heap.size, 0, none⟩ = some v1 from by rw [hw9, cell_setRow_other _ _ _ _ (by show w.heap.size ≠ w.heap.size + 1; omega)]; exact (HS.out _ B2q.out))
 clear hw9
 go_simp
 refine hK.out _ _ C9.out (fun S1 => ?_)
 clear hK K S1
 refine rd1 8 (by kernel_rfl) rfl fun K hK => ?_
 go_simp
 refine hK.out _ _ C9.out (fun S1 => ?_)
 clear hK K S1
 refine wpAnyH_done (by kernel_rfl) ?_ _
 go_wp2_with fail
 refine ret_cell2 (x := .bool g) rfl (by simp) (by simp) N9.out Tryz.underlying49 rfl (by kernel_rfl) rfl ?_
 exact ⟨rfl, A9.out⟩
set_option maxRecDepth 100000 in
set_option maxHeartbeats 2000000 in
theorem inFile_any (cs : List Value) (ca : CA) (a0 : ByteArray) (w : World) (h : CAt w.heap.size cs ca w) :
 Calls Tryz.prog 25 #[.agg cs.toArray, .string a0] w fun e w' => e = .returned (.tuple (match ca.files.find? (pFile a0) with | some x => #[.agg x.attr.vs.toArray, .bool true] | none => #[.agg Pa.zero.vs.toArray, .bool false])) ∧ Below w.heap.size w w' := by
 obtain ⟨y, g, hy, hg, he⟩ : ∃ (y : Cd) (g : Bool), y = (ca.files.find? (pFile a0)).getD ⟨⟨#[]⟩, Pa.zero⟩ ∧ g = (ca.files.find? (pFile a0)).isSome ∧ Value.tuple (match ca.files.find? (pFile a0) with | some x => #[.agg x.attr.vs.toArray, .bool true] | none => #[.agg Pa.zero.vs.toArray, .bool false]) = (match y with | ⟨y0, ⟨y1, y2, y3, y4, y5, y6, y7, y8, y9, y10⟩⟩ => .tuple #[.agg #[.int .i64 y1, .int .i64 y2, .int .i64 y3, .int .i64 y4, .int .i64 y5, .int .i64 y6, .int .i64 y7, .int .i64 y8, .int .i64 y9, .int .i64 y10], .bool g]) := by
  cases ca.files.find? (pFile a0) with
  | none => exact ⟨_, _, rfl, rfl, rfl⟩
  | some x => exact ⟨_, _, rfl, rfl, rfl⟩
 rw [he]
 obtain ⟨v1, v2, v3, v4, rfl, r1, r2, r3, r4⟩ := h
 show Calls Tryz.prog 25 #[.agg #[v1, v2, v3, v4], .string a0] w _
 obtain ⟨w1, hw1⟩ : ∃ w1, w1 = (w.alloc (.cells #[v1, v2, v3, v4] 27 (0, 0))).alloc (.cells #[.int .i64 0, .int .i64 0, .int .i64 0, .int .i64 0, .int .i64 0, .int .i64 0, .int .i64 0, .int .i64 0, .int .i64 0, .int .i64 0] 38 (0, 0)) := ⟨_, rfl⟩
 have hb1 : Below w.heap.size w w1 := by rw [hw1]; exact ((Below.refl _ w).alloc (Nat.le_refl _) _).alloc (by simp) _
 have hst : St 27 w.heap.size #[v1, v2, v3, v4] w1 := by rw [hw1]; exact (St.new w 27 _).alloc _
 have ST2 := hI (show St 38 (w.heap.size + 1) #[.int .i64 0, .int .i64 0, .int .i64 0, .int .i64 0, .int .i64 0, .int .i64 0, .int .i64 0, .int .i64 0, .int .i64 0, .int .i64 0] w1 from by rw [hw1]; exact St.new1 w _ _ _)
 have HR := hI (show ∀ W, Below w1.heap.size w1 W → RowsAt W.heap.size 11 Cd.vs v2 ca.files W from fun W hW => (r2.below (hb1.trans (hW.mono hb1.size))).raise (Nat.le_trans hb1.size hW.size))
 have HS := hI (show ∀ W, Below w1.heap.size w1 W → W.cell? ⟨w.heap.size, 1, none⟩ = some v2 from fun W hW => (hst.below hW).cell rfl)
 have HF := hI (show ∀ (W : World) (lb : Array Value) (F : Nat → Prop), Below w1.heap.size w1 W → PredW Tryz.prog 125 lb Cd.vs (pFile a0) F W → Calls Tryz.prog 60 #[v2, .func (.func 125) #[] lb] W fun e w' => e = .returned (.tuple #[.agg y.vs.toArray, .bool g]) ∧ Below W.heap.size W w' from fun W lb F hW hp => by
  rw [hy, hg]
  exact inFindCached_any v2 ca.files _ _ lb F W (HR.out W hW) (enters_of Tryz.func125 (by kernel_rfl) rfl) hp)
 have HW1 := hI hw1
 have HB1 := hI hb1
 clear hst hw1 hb1 r1 r2 r3 r4 he hy hg HR
 obtain ⟨y0, ⟨y1, y2, y3, y4, y5, y6, y7, y8, y9, y10⟩⟩ := y
 go_enter Tryz.func25, Tryz.ntmps25
 go_wp2_with fail
 rw [← HW1.out]
 have BB0 := hI (Below.refl w1.heap.size w1)
 have HBD := hI (show Below w1.heap.size w1 w1.drew from BB0.out.drew)
 have C0 := hI (HS.out _ HBD.out)
 refine wp_region_held (S := (fun W => W.cell? ⟨w.heap.size, 1, none⟩ = some v2)) (by kernel_rfl) ?_
 change wpAnyH _ _ _ _ _ _ _ _ (World.drew _)
 generalize World.drew w1 = WD at HBD C0 ⊢
 refine tkp 0 (.pointer (some ⟨w.heap.size, 1, none⟩)) rfl (by kernel_rfl) q3 (fun w' hS => ?_) C0.out ?_
 · clear hS; go_simp
 try go_simp
 refine tkp 1 (v2) rfl (by kernel_rfl) q3 (fun w' hS => ?_) C0.out ?_
 · go_simp
 try go_simp
 refine tkp 2 (.string a0) rfl (by kernel_rfl) q3 (fun w' hS => ?_) C0.out ?_
 · clear hS; go_simp
 try go_simp
 refine wpAnyH_ready (rs := [3, 8]) (by kernel_rfl) (by simp) ?_
 refine AllReadyH.cons rfl (fun K hK => ?_) (AllReadyH.cons rfl (fun K hK => ?_) AllReadyH.nil)
 · go_simp
   refine (inqFile_any a0 _).mono ?_
   rintro e w1q ⟨lb, rfl, hb, hp⟩
   have HP := hI hp
   have B1q := hI (HBD.out.trans (hb.mono HBD.out.size))
   clear hb hp
   go_simp
   refine hK.out _ _ (HS.out _ B1q.out) (fun S1 => ?_)
   clear hK K S1
   refine wpAnyH_ready (rs := [4, 8]) (by kernel_rfl) (by simp) ?_
   refine AllReadyH.cons rfl (fun K hK => ?_) (AllReadyH.cons rfl (fun K hK => ?_) AllReadyH.nil)
   · go_simp
     refine (HF.out _ lb _ B1q.out HP.out).mono ?_
     rintro e w2q ⟨rfl, hb⟩
     have B2q := hI (B1q.out.trans (hb.mono B1q.out.size))
     clear hb
     go_simp
     refine hK.out _ _ (HS.out _ B2q.out) (fun S1 => ?_)
     clear hK K S1
     refine tkp 5 (.tuple #[.agg (Cd.mk y0 ⟨y1, y2, y3, y4, y5, y6, y7, y8, y9, y10⟩).vs.toArray, .bool g]) rfl (by kernel_rfl) q3 (fun w' hS => ?_) (HS.out _ B2q.out) ?_
     · clear hS; go_simp
     try go_simp
     refine tkp 6 (.agg (⟨y0, ⟨y1, y2, y3, y4, y5, y6, y7, y8, y9, y10⟩⟩ : Cd).vs.toArray) rfl (by kernel_rfl) q3 (fun w' hS => ?_) (HS.out _ B2q.out) ?_
     · clear hS; go_simp
     try go_simp
     refine tkp 7 (.bool g) rfl (by kernel_rfl) q3 (fun w' hS => ?_) (HS.out _ B2q.out) ?_
     · clear hS; go_simp
     try go_simp
     refine rd1 8 (by kernel_rfl) rfl fun K hK => ?_
     go_simp
     obtain ⟨w3q, hw⟩ : ∃ W, W = w2q.alloc (.cells #[.string ⟨#[]⟩, .int .i64 0, .int .i64 0, .int .i64 0, .int .i64 0, .int .i64 0, .int .i64 0, .int .i64 0, .int .i64 0, .int .i64 0, .int .i64 0] 57 (0, 0)) := ⟨_, rfl⟩
     have B3q := hI (show Below w1.heap.size w1 w3q from by rw [hw]; exact B2q.out.alloc B2q.out.size _)
     have NB := hI (show St 57 w2q.heap.size #[.string ⟨#[]⟩, .int .i64 0, .int .i64 0, .int .i64 0, .int .i64 0, .int .i64 0, .int .i64 0, .int .i64 0, .int .i64 0, .int .i64 0, .int .i64 0] w3q from by rw [hw]; exact St.new _ _ _)
     obtain ⟨z, hz⟩ : ∃ z, z = w2q.heap.size := ⟨_, rfl⟩
     have HZ := hI (show w1.heap.size ≤ z from by rw [hz]; exact B2q.out.size)
     rw [← hw, ← hz]
     rw [← hz] at NB
     clear hw hz
     refine hK.out _ _ (HS.out _ B3q.out) (fun S1 => ?_)
     clear hK K S1
     refine rd1 9 (by kernel_rfl) rfl fun K hK => ?_
     refine step_store_row rfl 57 (.tmp 6) (.tmp 14) rfl z (⟨y0, ⟨y1, y2, y3, y4, y5, y6, y7, y8, y9, y10⟩⟩ : Cd).vs.toArray (by first | rfl | simp [Act.eval, Act.put]) (by first | rfl | simp [Act.eval, Act.put]) 57 #[.string ⟨#[]⟩, .int .i64 0, .int .i64 0, .int .i64 0, .int .i64 0, .int .i64 0, .int .i64 0, .int .i64 0, .int .i64 0, .int .i64 0, .int .i64 0] NB.out (by kernel_rfl) rfl (all_oneCell_toArray (Cd.one _)) ?_
     obtain ⟨w9, hw9⟩ : ∃ w9, w9 = w3q.setRow z (⟨y0, ⟨y1, y2, y3, y4, y5, y6, y7, y8, y9, y10⟩⟩ : Cd).vs.toArray := ⟨_, rfl⟩
     rw [← hw9]
     have N9 := hI (show St 57 z (⟨y0, ⟨y1, y2, y3, y4, y5, y6, y7, y8, y9, y10⟩⟩ : Cd).vs.toArray w9 from by rw [hw9]; exact St.row NB.out)
     have B9 := hI (show Below w1.heap.size w1 w9 from by rw [hw9]; exact below_row B3q.out HZ.out _)
     have A9 := hI (show Below w.heap.size w w9 from by rw [hw9]; exact below_row (HB1.out.trans (B3q.out.mono HB1.out.size)) (Nat.le_trans HB1.out.size HZ.out) _)
     have C9 := hI (HS.out _ B9.out)
     clear hw9
     go_simp
     refine hK.out _ _ C9.out (fun S1 => ?_)
     clear hK K S1
     refine rd1 10 (by kernel_rfl) rfl fun K hK => ?_
     go_simp
     refine hK.out _ _ C9.out (fun S1 => ?_)
     clear hK K S1
     refine wpAnyH_done (by kernel_rfl) ?_ _
     have R9 := hI (show w9.rangeAt z 1 [.int .i64 y1, .int .i64 y2, .int .i64 y3, .int .i64 y4, .int .i64 y5, .int .i64 y6, .int .i64 y7, .int .i64 y8, .int .i64 y9, .int .i64 y10] from fun j u hu => N9.out.cell (j := 1 + j) (by rw [List.getElem?_toArray, Nat.add_comm]; exact hu))
     have Z9 := hI (show St 38 (w.heap.size + 1) #[.int .i64 0, .int .i64 0, .int .i64 0, .int .i64 0, .int .i64 0, .int .i64 0, .int .i64 0, .int .i64 0, .int .i64 0, .int .i64 0] w9 from ST2.out.below B9.out)
     go_wp2_with (first | ((with_reducible show wpList _ _ _ ({ dst := _, op := .load 38 _, type := _, pos := _, after := _, guard := _ } :: _) _ _); refine wpList_load_mid rfl 38 _ rfl z 1 (by first | rfl | simp [Act.eval, Act.put]) [.int .i64 y1, .int .i64 y2, .int .i64 y3, .int .i64 y4, .int .i64 y5, .int .i64 y6, .int .i64 y7, .int .i64 y8, .int .i64 y9, .int .i64 y10] _ R9.out Tryz.underlying38 rfl (by kernel_rfl) ?_) | ((with_reducible show wpList _ _ _ ({ dst := _, op := .store 38 _ _, type := _, pos := _, after := _, guard := _ } :: _) _ _); refine wpList_store_st rfl 38 _ _ rfl (w.heap.size + 1) #[.int .i64 y1, .int .i64 y2, .int .i64 y3, .int .i64 y4, .int .i64 y5, .int .i64 y6, .int .i64 y7, .int .i64 y8, .int .i64 y9, .int .i64 y10] (by first | rfl | simp [Act.eval, Act.put]) (by first | rfl | simp [Act.eval, Act.put]) _ Z9.out (by kernel_rfl) rfl (all_oneCell_toArray (by intro u hu; simp only [List.mem_cons, List.not_mem_nil, or_false] at hu; rcases hu with rfl | rfl | rfl | rfl | rfl | rfl | rfl | rfl | rfl | rfl <;> rfl)) ?_; rintro w8 hw8 s8; have S8 := hI s8; have F8 := hI (show Below w.heap.size w w8 from by rw [hw8]; exact below_row A9.out (Nat.le_succ _) _); clear hw8 s8))
     refine ret_cell2 (x := .bool g) rfl (by simp) (by simp) S8.out Tryz.underlying38 rfl (by kernel_rfl) rfl ?_
     exact ⟨rfl, F8.out⟩
   · go_simp
     obtain ⟨w4q, hw⟩ : ∃ W, W = w1q.alloc (.cells #[.string ⟨#[]⟩, .int .i64 0, .int .i64 0, .int .i64 0, .int .i64 0, .int .i64 0, .int .i64 0, .int .i64 0, .int .i64 0, .int .i64 0, .int .i64 0] 57 (0, 0)) := ⟨_, rfl⟩
     have B4q := hI (show Below w1.heap.size w1 w4q from by rw [hw]; exact B1q.out.alloc B1q.out.size _)
     have NB := hI (show St 57 w1q.heap.size #[.string ⟨#[]⟩, .int .i64 0, .int .i64 0, .int .i64 0, .int .i64 0, .int .i64 0, .int .i64 0, .int .i64 0, .int .i64 0, .int .i64 0, .int .i64 0] w4q from by rw [hw]; exact St.new _ _ _)
     have HP := hI (HP.out.later (Frm.of_below (show Below _ _ w4q from by rw [hw]; exact (Below.refl _ _).alloc (Nat.le_refl _) _)) (fun j hj => .inl hj))
     obtain ⟨z, hz⟩ : ∃ z, z = w1q.heap.size := ⟨_, rfl⟩
     have HZ := hI (show w1.heap.size ≤ z from by rw [hz]; exact B1q.out.size)
     rw [← hw, ← hz]
     rw [← hz] at NB
     clear hw hz
     refine hK.out _ _ (HS.out _ B4q.out) (fun S1 => ?_)
     clear hK K S1
     refine rd1 4 (by kernel_rfl) rfl fun K hK => ?_
     go_simp
     refine (HF.out _ lb _ B4q.out HP.out).mono ?_
     rintro e w5q ⟨rfl, hb⟩
     have B5q := hI (B4q.out.trans (hb.mono B4q.out.size))
     have NB := hI (NB.out.below hb)
     clear hb
     go_simp
     refine hK.out _ _ (HS.out _ B5q.out) (fun S1 => ?_)
     clear hK K S1
     refine tkp 5 (.tuple #[.agg (Cd.mk y0 ⟨y1, y2, y3, y4, y5, y6, y7, y8, y9, y10⟩).vs.toArray, .bool g]) rfl (by kernel_rfl) q3 (fun w' hS => ?_) (HS.out _ B5q.out) ?_
     · clear hS; go_simp
     try go_simp
     refine tkp 6 (.agg (⟨y0, ⟨y1, y2, y3, y4, y5, y6, y7, y8, y9, y10⟩⟩ : Cd).vs.toArray) rfl (by kernel_rfl) q3 (fun w' hS => ?_) (HS.out _ B5q.out) ?_
     · clear hS; go_simp
     try go_simp
     refine tkp 7 (.bool g) rfl (by kernel_rfl) q3 (fun w' hS => ?_) (HS.out _ B5q.out) ?_
     · clear hS; go_simp
     try go_simp
     refine rd1 9 (by kernel_rfl) rfl fun K hK => ?_
     refine step_store_row rfl 57 (.tmp 6) (.tmp 14) rfl z (⟨y0, ⟨y1, y2, y3, y4, y5, y6, y7, y8, y9, y10⟩⟩ : Cd).vs.toArray (by first | rfl | simp [Act.eval, Act.put]) (by first | rfl | simp [Act.eval, Act.put]) 57 #[.string ⟨#[]⟩, .int .i64 0, .int .i64 0, .int .i64 0, .int .i64 0, .int .i64 0, .int .i64 0, .int .i64 0, .int .i64 0, .int .i64 0, .int .i64 0] NB.out (by kernel_rfl) rfl (all_oneCell_toArray (Cd.one _)) ?_
     obtain ⟨w9, hw9⟩ : ∃ w9, w9 = w5q.setRow z (⟨y0, ⟨y1, y2, y3, y4, y5, y6, y7, y8, y9, y10⟩⟩ : Cd).vs.toArray := ⟨_, rfl⟩
     rw [← hw9]
     have N9 := hI (show St 57 z (⟨y0, ⟨y1, y2, y3, y4, y5, y6, y7, y8, y9, y10⟩⟩ : Cd).vs.toArray w9 from by rw [hw9]; exact St.row NB.out)
     have B9 := hI (show Below w1.heap.size w1 w9 from by rw [hw9]; exact below_row B5q.out HZ.out _)
     have A9 := hI (show Below w.heap.size w w9 from by rw [hw9]; exact below_row (HB1.out.trans (B5q.out.mono HB1.out.size)) (Nat.le_trans HB1.out.size HZ.out) _)
     have C9 := hI (HS.out _ B9.out)
     clear hw9
     go_simp
     refine hK.out _ _ C9.out (fun S1 => ?_)
     clear hK K S1
     refine rd1 10 (by kernel_rfl) rfl fun K hK => ?_
     go_simp
     refine hK.out _ _ C9.out (fun S1 => ?_)
     clear hK K S1
     refine wpAnyH_done (by kernel_rfl) ?_ _
     have R9 := hI (show w9.rangeAt z 1 [.int .i64 y1, .int .i64 y2, .int .i64 y3, .int .i64 y4, .int .i64 y5, .int .i64 y6, .int .i64 y7, .int .i64 y8, .int .i64 y9, .int .i64 y10] from fun j u hu => N9.out.cell (j := 1 + j) (by rw [List.getElem?_toArray, Nat.add_comm]; exact hu))
     have Z9 := hI (show St 38 (w.heap.size + 1) #[.int .i64 0, .int .i64 0, .int .i64 0, .int .i64 0, .int .i64 0, .int .i64 0, .int .i64 0, .int .i64 0, .int .i64 0, .int .i64 0] w9 from ST2.out.below B9.out)
     go_wp2_with (first | ((with_reducible show wpList _ _ _ ({ dst := _, op := .load 38 _, type := _, pos := _, after := _, guard := _ } :: _) _ _); refine wpList_load_mid rfl 38 _ rfl z 1 (by first | rfl | simp [Act.eval, Act.put]) [.int .i64 y1, .int .i64 y2, .int .i64 y3, .int .i64 y4, .int .i64 y5, .int .i64 y6, .int .i64 y7, .int .i64 y8, .int .i64 y9, .int .i64 y10] _ R9.out Tryz.underlying38 rfl (by kernel_rfl) ?_) | ((with_reducible show wpList _ _ _ ({ dst := _, op := .store 38 _ _, type := _, pos := _, after := _, guard := _ } :: _) _ _); refine wpList_store_st rfl 38 _ _ rfl (w.heap.size + 1) #[.int .i64 y1, .int .i64 y2, .int .i64 y3, .int .i64 y4, .int .i64 y5, .int .i64 y6, .int .i64 y7, .int .i64 y8, .int .i64 y9, .int .i64 y10] (by first | rfl | simp [Act.eval, Act.put]) (by first | rfl | simp [Act.eval, Act.put]) _ Z9.out (by kernel_rfl) rfl (all_oneCell_toArray (by intro u hu; simp only [List.mem_cons, List.not_mem_nil, or_false] at hu; rcases hu with rfl | rfl | rfl | rfl | rfl | rfl | rfl | rfl | rfl | rfl <;> rfl)) ?_; rintro w8 hw8 s8; have S8 := hI s8; have F8 := hI (show Below w.heap.size w w8 from by rw [hw8]; exact below_row A9.out (Nat.le_succ _) _); clear hw8 s8))
     refine ret_cell2 (x := .bool g) rfl (by simp) (by simp) S8.out Tryz.underlying38 rfl (by kernel_rfl) rfl ?_
     exact ⟨rfl, F8.out⟩
 · go_simp
   obtain ⟨w6q, hw⟩ : ∃ W, W = WD.alloc (.cells #[.string ⟨#[]⟩, .int .i64 0, .int .i64 0, .int .i64 0, .int .i64 0, .int .i64 0, .int .i64 0, .int .i64 0, .int .i64 0, .int .i64 0, .int .i64 0] 57 (0, 0)) := ⟨_, rfl⟩
   have B6q := hI (show Below w1.heap.size w1 w6q from by rw [hw]; exact HBD.out.alloc HBD.out.size _)
   have NB := hI (show St 57 WD.heap.size #[.string ⟨#[]⟩, .int .i64 0, .int .i64 0, .int .i64 0, .int .i64 0, .int .i64 0, .int .i64 0, .int .i64 0, .int .i64 0, .int .i64 0, .int .i64 0] w6q from by rw [hw]; exact St.new _ _ _)
   obtain ⟨z, hz⟩ : ∃ z, z = WD.heap.size := ⟨_, rfl⟩
   have HZ := hI (show w1.heap.size ≤ z from by rw [hz]; exact HBD.out.size)
   rw [← hw, ← hz]
   rw [← hz] at NB
   clear hw hz
   refine hK.out _ _ (HS.out _ B6q.out) (fun S1 => ?_)
   clear hK K S1
   refine rd1 3 (by kernel_rfl) rfl fun K hK => ?_
   go_simp
   refine (inqFile_any a0 _).mono ?_
   rintro e w7q ⟨lb, rfl, hb, hp⟩
   have HP := hI hp
   have B7q := hI (B6q.out.trans (hb.mono B6q.out.size))
   have NB := hI (NB.out.below hb)
   clear hb hp
   go_simp
   refine hK.out _ _ (HS.out _ B7q.out) (fun S1 => ?_)
   clear hK K S1
   refine rd1 4 (by kernel_rfl) rfl fun K hK => ?_
   go_simp
   refine (HF.out _ lb _ B7q.out HP.out).mono ?_
   rintro e w8q ⟨rfl, hb⟩
   have B8q := hI (B7q.out.trans (hb.mono B7q.out.size))
   have NB := hI (NB.out.below hb)
   clear hb
   go_simp
   refine hK.out _ _ (HS.out _ B8q.out) (fun S1 => ?_)
   clear hK K S1
   refine tkp 5 (.tuple #[.agg (Cd.mk y0 ⟨y1, y2, y3, y4, y5, y6, y7, y8, y9, y10⟩).vs.toArray, .bool g]) rfl (by kernel_rfl) q3 (fun w' hS => ?_) (HS.out _ B8q.out) ?_
   · clear hS; go_simp
   try go_simp
   refine tkp 6 (.agg (⟨y0, ⟨y1, y2, y3, y4, y5, y6, y7, y8, y9, y10⟩⟩ : Cd).vs.toArray) rfl (by kernel_rfl) q3 (fun w' hS => ?_) (HS.out _ B8q.out) ?_
   · clear hS; go_simp
   try go_simp
   refine tkp 7 (.bool g) rfl (by kernel_rfl) q3 (fun w' hS => ?_) (HS.out _ B8q.out) ?_
   · clear hS; go_simp
   try go_simp
   refine rd1 9 (by kernel_rfl) rfl fun K hK => ?_
   refine step_store_row rfl 57 (.tmp 6) (.tmp 14) rfl z (⟨y0, ⟨y1, y2, y3, y4, y5, y6, y7, y8, y9, y10⟩⟩ : Cd).vs.toArray (by first | rfl | simp [Act.eval, Act.put]) (by first | rfl | simp [Act.eval, Act.put]) 57 #[.string ⟨#[]⟩, .int .i64 0, .int .i64 0, .int .i64 0, .int .i64 0, .int .i64 0, .int .i64 0, .int .i64 0, .int .i64 0, .int .i64 0, .int .i64 0] NB.out (by kernel_rfl) rfl (all_oneCell_toArray (Cd.one _)) ?_
   obtain ⟨w9, hw9⟩ : ∃ w9, w9 = w8q.setRow z (⟨y0, ⟨y1, y2, y3, y4, y5, y6, y7, y8, y9, y10⟩⟩ : Cd).vs.toArray := ⟨_, rfl⟩
   rw [← hw9]
   have N9 := hI (show St 57 z (⟨y0, ⟨y1, y2, y3, y4, y5, y6, y7, y8, y9, y10⟩⟩ : Cd).vs.toArray w9 from by rw [hw9]; exact St.row NB.out)
   have B9 := hI (show Below w1.heap.size w1 w9 from by rw [hw9]; exact below_row B8q.out HZ.out _)
   have A9 := hI (show Below w.heap.size w w9 from by rw [hw9]; exact below_row (HB1.out.trans (B8q.out.mono HB1.out.size)) (Nat.le_trans HB1.out.size HZ.out) _)
   have C9 := hI (HS.out _ B9.out)
   clear hw9
   go_simp
   refine hK.out _ _ C9.out (fun S1 => ?_)
   clear hK K S1
   refine rd1 10 (by kernel_rfl) rfl fun K hK => ?_
   go_simp
   refine hK.out _ _ C9.out (fun S1 => ?_)
   clear hK K S1
   refine wpAnyH_done (by kernel_rfl) ?_ _
   have R9 := hI (show w9.rangeAt z 1 [.int .i64 y1, .int .i64 y2, .int .i64 y3, .int .i64 y4, .int .i64 y5, .int .i64 y6, .int .i64 y7, .int .i64 y8, .int .i64 y9, .int .i64 y10] from fun j u hu => N9.out.cell (j := 1 + j) (by rw [List.getElem?_toArray, Nat.add_comm]; exact hu))
   have Z9 := hI (show St 38 (w.heap.size + 1) #[.int .i64 0, .int .i64 0, .int .i64 0, .int .i64 0, .int .i64 0, .int .i64 0, .int .i64 0, .int .i64 0, .int .i64 0, .int .i64 0] w9 from ST2.out.below B9.out)
   go_wp2_with (first | ((with_reducible show wpList _ _ _ ({ dst := _, op := .load 38 _, type := _, pos := _, after := _, guard := _ } :: _) _ _); refine wpList_load_mid rfl 38 _ rfl z 1 (by first | rfl | simp [Act.eval, Act.put]) [.int .i64 y1, .int .i64 y2, .int .i64 y3, .int .i64 y4, .int .i64 y5, .int .i64 y6, .int .i64 y7, .int .i64 y8, .int .i64 y9, .int .i64 y10] _ R9.out Tryz.underlying38 rfl (by kernel_rfl) ?_) | ((with_reducible show wpList _ _ _ ({ dst := _, op := .store 38 _ _, type := _, pos := _, after := _, guard := _ } :: _) _ _); refine wpList_store_st rfl 38 _ _ rfl (w.heap.size + 1) #[.int .i64 y1, .int .i64 y2, .int .i64 y3, .int .i64 y4, .int .i64 y5, .int .i64 y6, .int .i64 y7, .int .i64 y8, .int .i64 y9, .int .i64 y10] (by first | rfl | simp [Act.eval, Act.put]) (by first | rfl | simp [Act.eval, Act.put]) _ Z9.out (by kernel_rfl) rfl (all_oneCell_toArray (by intro u hu; simp only [List.mem_cons, List.not_mem_nil, or_false] at hu; rcases hu with rfl | rfl | rfl | rfl | rfl | rfl | rfl | rfl | rfl | rfl <;> rfl)) ?_; rintro w8 hw8 s8; have S8 := hI s8; have F8 := hI (show Below w.heap.size w w8 from by rw [hw8]; exact below_row A9.out (Nat.le_succ _) _); clear hw8 s8))
   refine ret_cell2 (x := .bool g) rfl (by simp) (by simp) S8.out Tryz.underlying38 rfl (by kernel_rfl) rfl ?_
   exact ⟨rfl, F8.out⟩
end Go.Proofs.YtngfknplljedeaaGreat
