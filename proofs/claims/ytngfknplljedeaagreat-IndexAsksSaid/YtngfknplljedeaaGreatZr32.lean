/- Lemmas for the laws of index. -/
import Derived.Shelf.Abstract
import Derived.Test.YtngfknplljedeaaGreatZr31
import Derived.Test.YtngfknplljedeaaGreatZrHi
namespace Go.Proofs.YtngfknplljedeaaGreat
open Go.RowKit
theorem Hd.one (x : Hd) : ∀ u ∈ x.vs, u.oneCell' = true := by
 intro u hu
 simp only [Hd.vs, List.mem_cons, List.not_mem_nil, or_false] at hu
 rcases hu with rfl | rfl | rfl <;> rfl
theorem Cd.one (x : Cd) : ∀ u ∈ x.vs, u.oneCell' = true := by
 intro u hu
 simp only [Cd.vs, List.mem_cons, List.not_mem_nil, or_false] at hu
 rcases hu with rfl | rfl | rfl | rfl | rfl | rfl | rfl | rfl | rfl | rfl | rfl <;> rfl
theorem Kn.one (x : Kn) : ∀ u ∈ x.vs, u.oneCell' = true := by
 intro u hu
 simp only [Kn.vs, List.mem_cons, List.not_mem_nil, or_false] at hu
 rcases hu with rfl | rfl | rfl <;> rfl
theorem Bk.one (x : Bk) : ∀ u ∈ x.vs, u.oneCell' = true := by
 intro u hu
 simp only [Bk.vs, List.mem_cons, List.not_mem_nil, or_false] at hu
 rcases hu with rfl | rfl | rfl <;> rfl
theorem Ch.one (x : Ch) : ∀ u ∈ x.vs, u.oneCell' = true := by
 intro u hu
 simp only [Ch.vs, List.mem_cons, List.not_mem_nil, or_false] at hu
 rcases hu with rfl | rfl | rfl | rfl | rfl | rfl | rfl | rfl | rfl | rfl | rfl | rfl | rfl | rfl | rfl | rfl | rfl | rfl <;> rfl
set_option maxRecDepth 100000 in
set_option maxHeartbeats 400000 in
theorem sxIdxHeld_any (v : Value) (xs : List Hd) (p : Hd → Bool) (g : Nat) (lb : Array Value) (F : Nat → Prop) (w : World) (h : RowsAt w.heap.size 3 Hd.vs v xs w) (eg : ∀ args w, (callFunc g args).run Tryz.prog w = .ok (.enter g args) w) (hp : PredW Tryz.prog g lb Hd.vs p F w) :
 Calls Tryz.prog 121 #[v, .func (.func g) #[] lb] w fun e w' => e = .returned (.int .i64 (fnd p xs)) ∧ Below w.heap.size w w' := by
 obtain ⟨ao, cap, b, off, rfl, hl, hx⟩ := h.walk
 obtain ⟨n, hn⟩ : ∃ n, n = xs.length := ⟨_, rfl⟩
 rw [← hn] at hl hx ⊢
 obtain ⟨r, hr⟩ : ∃ r : Int, r = fnd p xs := ⟨_, rfl⟩
 rw [← hr]
 have HN := hI (show (∀ (j : Nat) (y : Hd), j < n → xs[j]? = some y → p y = false) → r = -1 from fun h => by rw [hr]; exact fnd_miss _ _ (fun j y hj => h j y (by omega)))
 have HA := hI (show ∀ (i : Nat) x, xs[i]? = some x → p x = true → (∀ (j : Nat) (y : Hd), j < i → xs[j]? = some y → p y = false) → r = i from fun i x h1 h2 h3 => by rw [hr]; exact fnd_hit _ _ i x h1 h2 h3)
 have HX := hI (show ∀ i, i < n → ∃ x : Hd, xs[i]? = some x ∧ ao = some ⟨b, off, none⟩ ∧ ∀ W, Below w.heap.size w W → W.rangeAt b (off + i * 3) x.vs from fun i hi => by
  obtain ⟨x, e1, e2, e3, e4⟩ := hx i hi
  exact ⟨x, e1, e2, fun W hW j u hu => (hW.cell (p := ⟨b, off + i * 3 + j, none⟩) e3).trans (e4 j u hu)⟩)
 have HP := hI hp
 clear hx h hn hr hp
 go_enter Tryz.func121, Tryz.ntmps121
 go_wp2
 go_loopw [5, 8] (fun _ s8 wr => ∃ i : Nat, i ≤ n ∧ s8 = .int .i64 i ∧ Below w.heap.size w wr ∧ ∀ (j : Nat) (y : Hd), j < i → xs[j]? = some y → p y = false) (fun _ s8 _ => n - (intOf s8).toNat)
 case atStart => exact ⟨0, Nat.zero_le _, rfl, Below.refl _ _, fun j y h => by omega⟩
 case round =>
  obtain ⟨i, hi, rfl, hbel, hm⟩ := hrel
  have HM := hI hm
  have HB := hI hbel
  clear hm hbel
  by_cases hlt : i < n
  · obtain ⟨x, hxi, rfl, hr⟩ := HX.out i hlt
    have HS := hI hxi
    have HR := hI (hr wr HB.out)
    clear hxi hr
    have b0 : (0 : Int) ≤ (i : Int) := by omega
    have b1 : (i : Int) < (n : Int) := by omega
    have hcall := HP.out wr x (Frm.of_below HB.out)
    have HC := hI hcall
    clear hcall
    cases hq : p x with
    | true =>
     rw [hq] at HC
     go_wp2_with (first
      | ((with_reducible show wpList _ _ _ ({ dst := _, op := .load 49 _, type := _, pos := _, after := _, guard := _ } :: _) _ _); refine wpList_load_mid rfl 49 _ rfl b (off + i * 3) (by simp [Act.eval]) x.vs _ HR.out Tryz.underlying49 rfl (by kernel_rfl) ?_)
      | ((with_reducible refine HC.out.mono ?_); rintro e w9 ⟨rfl, hb⟩; have HB9 := hI (HB.out.trans (hb.mono HB.out.size)); clear hb))
     go_returns
     rw [HA.out i x HS.out hq HM.out]
     exact ⟨rfl, HB9.out⟩
    | false =>
     rw [hq] at HC
     go_wp2_with (first
      | ((with_reducible show wpList _ _ _ ({ dst := _, op := .load 49 _, type := _, pos := _, after := _, guard := _ } :: _) _ _); refine wpList_load_mid rfl 49 _ rfl b (off + i * 3) (by simp [Act.eval]) x.vs _ HR.out Tryz.underlying49 rfl (by kernel_rfl) ?_)
      | ((with_reducible refine HC.out.mono ?_); rintro e w9 ⟨rfl, hb⟩; have HB9 := hI (HB.out.trans (hb.mono HB.out.size)); clear hb))
     go_roundw
     case rel => exact ⟨i + 1, by omega, by go_num, HB9.out, fnd_step _ _ i x HS.out hq HM.out⟩
     case measure => simp [intOf]; omega
  · obtain rfl : n = i := by omega
    go_wp2
    go_returns
    rw [HN.out HM.out]
    exact ⟨rfl, HB.out⟩
set_option maxRecDepth 100000 in
set_option maxHeartbeats 400000 in
theorem sxIdxCached_any (v : Value) (xs : List Cd) (p : Cd → Bool) (g : Nat) (lb : Array Value) (F : Nat → Prop) (w : World) (h : RowsAt w.heap.size 11 Cd.vs v xs w) (eg : ∀ args w, (callFunc g args).run Tryz.prog w = .ok (.enter g args) w) (hp : PredW Tryz.prog g lb Cd.vs p F w) :
 Calls Tryz.prog 124 #[v, .func (.func g) #[] lb] w fun e w' => e = .returned (.int .i64 (fnd p xs)) ∧ Below w.heap.size w w' := by
 obtain ⟨ao, cap, b, off, rfl, hl, hx⟩ := h.walk
 obtain ⟨n, hn⟩ : ∃ n, n = xs.length := ⟨_, rfl⟩
 rw [← hn] at hl hx ⊢
 obtain ⟨r, hr⟩ : ∃ r : Int, r = fnd p xs := ⟨_, rfl⟩
 rw [← hr]
 have HN := hI (show (∀ (j : Nat) (y : Cd), j < n → xs[j]? = some y → p y = false) → r = -1 from fun h => by rw [hr]; exact fnd_miss _ _ (fun j y hj => h j y (by omega)))
 have HA := hI (show ∀ (i : Nat) x, xs[i]? = some x → p x = true → (∀ (j : Nat) (y : Cd), j < i → xs[j]? = some y → p y = false) → r = i from fun i x h1 h2 h3 => by rw [hr]; exact fnd_hit _ _ i x h1 h2 h3)
 have HX := hI (show ∀ i, i < n → ∃ x : Cd, xs[i]? = some x ∧ ao = some ⟨b, off, none⟩ ∧ ∀ W, Below w.heap.size w W → W.rangeAt b (off + i * 11) x.vs from fun i hi => by
  obtain ⟨x, e1, e2, e3, e4⟩ := hx i hi
  exact ⟨x, e1, e2, fun W hW j u hu => (hW.cell (p := ⟨b, off + i * 11 + j, none⟩) e3).trans (e4 j u hu)⟩)
 have HP := hI hp
 clear hx h hn hr hp
 go_enter Tryz.func124, Tryz.ntmps124
 go_wp2
 go_loopw [5, 8] (fun _ s8 wr => ∃ i : Nat, i ≤ n ∧ s8 = .int .i64 i ∧ Below w.heap.size w wr ∧ ∀ (j : Nat) (y : Cd), j < i → xs[j]? = some y → p y = false) (fun _ s8 _ => n - (intOf s8).toNat)
 case atStart => exact ⟨0, Nat.zero_le _, rfl, Below.refl _ _, fun j y h => by omega⟩
 case round =>
  obtain ⟨i, hi, rfl, hbel, hm⟩ := hrel
  have HM := hI hm
  have HB := hI hbel
  clear hm hbel
  by_cases hlt : i < n
  · obtain ⟨x, hxi, rfl, hr⟩ := HX.out i hlt
    have HS := hI hxi
    have HR := hI (hr wr HB.out)
    clear hxi hr
    have b0 : (0 : Int) ≤ (i : Int) := by omega
    have b1 : (i : Int) < (n : Int) := by omega
    have hcall := HP.out wr x (Frm.of_below HB.out)
    have HC := hI hcall
    clear hcall
    cases hq : p x with
    | true =>
     rw [hq] at HC
     go_wp2_with (first
      | ((with_reducible show wpList _ _ _ ({ dst := _, op := .load 57 _, type := _, pos := _, after := _, guard := _ } :: _) _ _); refine wpList_load_mid rfl 57 _ rfl b (off + i * 11) (by simp [Act.eval]) x.vs _ HR.out Tryz.underlying57 rfl (by kernel_rfl) ?_)
      | ((with_reducible refine HC.out.mono ?_); rintro e w9 ⟨rfl, hb⟩; have HB9 := hI (HB.out.trans (hb.mono HB.out.size)); clear hb))
     go_returns
     rw [HA.out i x HS.out hq HM.out]
     exact ⟨rfl, HB9.out⟩
    | false =>
     rw [hq] at HC
     go_wp2_with (first
      | ((with_reducible show wpList _ _ _ ({ dst := _, op := .load 57 _, type := _, pos := _, after := _, guard := _ } :: _) _ _); refine wpList_load_mid rfl 57 _ rfl b (off + i * 11) (by simp [Act.eval]) x.vs _ HR.out Tryz.underlying57 rfl (by kernel_rfl) ?_)
      | ((with_reducible refine HC.out.mono ?_); rintro e w9 ⟨rfl, hb⟩; have HB9 := hI (HB.out.trans (hb.mono HB.out.size)); clear hb))
     go_roundw
     case rel => exact ⟨i + 1, by omega, by go_num, HB9.out, fnd_step _ _ i x HS.out hq HM.out⟩
     case measure => simp [intOf]; omega
  · obtain rfl : n = i := by omega
    go_wp2
    go_returns
    rw [HN.out HM.out]
    exact ⟨rfl, HB.out⟩
set_option maxRecDepth 100000 in
set_option maxHeartbeats 400000 in
theorem sxIdxKnown_any (v : Value) (xs : List Kn) (p : Kn → Bool) (g : Nat) (lb : Array Value) (F : Nat → Prop) (w : World) (h : RowsAt w.heap.size 3 Kn.vs v xs w) (eg : ∀ args w, (callFunc g args).run Tryz.prog w = .ok (.enter g args) w) (hp : PredW Tryz.prog g lb Kn.vs p F w) :
 Calls Tryz.prog 126 #[v, .func (.func g) #[] lb] w fun e w' => e = .returned (.int .i64 (fnd p xs)) ∧ Below w.heap.size w w' := by
 obtain ⟨ao, cap, b, off, rfl, hl, hx⟩ := h.walk
 obtain ⟨n, hn⟩ : ∃ n, n = xs.length := ⟨_, rfl⟩
 rw [← hn] at hl hx ⊢
 obtain ⟨r, hr⟩ : ∃ r : Int, r = fnd p xs := ⟨_, rfl⟩
 rw [← hr]
 have HN := hI (show (∀ (j : Nat) (y : Kn), j < n → xs[j]? = some y → p y = false) → r = -1 from fun h => by rw [hr]; exact fnd_miss _ _ (fun j y hj => h j y (by omega)))
 have HA := hI (show ∀ (i : Nat) x, xs[i]? = some x → p x = true → (∀ (j : Nat) (y : Kn), j < i → xs[j]? = some y → p y = false) → r = i from fun i x h1 h2 h3 => by rw [hr]; exact fnd_hit _ _ i x h1 h2 h3)
 have HX := hI (show ∀ i, i < n → ∃ x : Kn, xs[i]? = some x ∧ ao = some ⟨b, off, none⟩ ∧ ∀ W, Below w.heap.size w W → W.rangeAt b (off + i * 3) x.vs from fun i hi => by
  obtain ⟨x, e1, e2, e3, e4⟩ := hx i hi
  exact ⟨x, e1, e2, fun W hW j u hu => (hW.cell (p := ⟨b, off + i * 3 + j, none⟩) e3).trans (e4 j u hu)⟩)
 have HP := hI hp
 clear hx h hn hr hp
 go_enter Tryz.func126, Tryz.ntmps126
 go_wp2
 go_loopw [5, 8] (fun _ s8 wr => ∃ i : Nat, i ≤ n ∧ s8 = .int .i64 i ∧ Below w.heap.size w wr ∧ ∀ (j : Nat) (y : Kn), j < i → xs[j]? = some y → p y = false) (fun _ s8 _ => n - (intOf s8).toNat)
 case atStart => exact ⟨0, Nat.zero_le _, rfl, Below.refl _ _, fun j y h => by omega⟩
 case round =>
  obtain ⟨i, hi, rfl, hbel, hm⟩ := hrel
  have HM := hI hm
  have HB := hI hbel
  clear hm hbel
  by_cases hlt : i < n
  · obtain ⟨x, hxi, rfl, hr⟩ := HX.out i hlt
    have HS := hI hxi
    have HR := hI (hr wr HB.out)
    clear hxi hr
    have b0 : (0 : Int) ≤ (i : Int) := by omega
    have b1 : (i : Int) < (n : Int) := by omega
    have hcall := HP.out wr x (Frm.of_below HB.out)
    have HC := hI hcall
    clear hcall
    cases hq : p x with
    | true =>
     rw [hq] at HC
     go_wp2_with (first
      | ((with_reducible show wpList _ _ _ ({ dst := _, op := .load 61 _, type := _, pos := _, after := _, guard := _ } :: _) _ _); refine wpList_load_mid rfl 61 _ rfl b (off + i * 3) (by simp [Act.eval]) x.vs _ HR.out Tryz.underlying61 rfl (by kernel_rfl) ?_)
      | ((with_reducible refine HC.out.mono ?_); rintro e w9 ⟨rfl, hb⟩; have HB9 := hI (HB.out.trans (hb.mono HB.out.size)); clear hb))
     go_returns
     rw [HA.out i x HS.out hq HM.out]
     exact ⟨rfl, HB9.out⟩
    | false =>
     rw [hq] at HC
     go_wp2_with (first
      | ((with_reducible show wpList _ _ _ ({ dst := _, op := .load 61 _, type := _, pos := _, after := _, guard := _ } :: _) _ _); refine wpList_load_mid rfl 61 _ rfl b (off + i * 3) (by simp [Act.eval]) x.vs _ HR.out Tryz.underlying61 rfl (by kernel_rfl) ?_)
      | ((with_reducible refine HC.out.mono ?_); rintro e w9 ⟨rfl, hb⟩; have HB9 := hI (HB.out.trans (hb.mono HB.out.size)); clear hb))
     go_roundw
     case rel => exact ⟨i + 1, by omega, by go_num, HB9.out, fnd_step _ _ i x HS.out hq HM.out⟩
     case measure => simp [intOf]; omega
  · obtain rfl : n = i := by omega
    go_wp2
    go_returns
    rw [HN.out HM.out]
    exact ⟨rfl, HB.out⟩
set_option maxRecDepth 100000 in
set_option maxHeartbeats 400000 in
theorem sxIdxPlaced_any (v : Value) (xs : List Bk) (p : Bk → Bool) (g : Nat) (lb : Array Value) (F : Nat → Prop) (w : World) (h : RowsAt w.heap.size 3 Bk.vs v xs w) (eg : ∀ args w, (callFunc g args).run Tryz.prog w = .ok (.enter g args) w) (hp : PredW Tryz.prog g lb Bk.vs p F w) :
 Calls Tryz.prog 128 #[v, .func (.func g) #[] lb] w fun e w' => e = .returned (.int .i64 (fnd p xs)) ∧ Below w.heap.size w w' := by
 obtain ⟨ao, cap, b, off, rfl, hl, hx⟩ := h.walk
 obtain ⟨n, hn⟩ : ∃ n, n = xs.length := ⟨_, rfl⟩
 rw [← hn] at hl hx ⊢
 obtain ⟨r, hr⟩ : ∃ r : Int, r = fnd p xs := ⟨_, rfl⟩
 rw [← hr]
 have HN := hI (show (∀ (j : Nat) (y : Bk), j < n → xs[j]? = some y → p y = false) → r = -1 from fun h => by rw [hr]; exact fnd_miss _ _ (fun j y hj => h j y (by omega)))
 have HA := hI (show ∀ (i : Nat) x, xs[i]? = some x → p x = true → (∀ (j : Nat) (y : Bk), j < i → xs[j]? = some y → p y = false) → r = i from fun i x h1 h2 h3 => by rw [hr]; exact fnd_hit _ _ i x h1 h2 h3)
 have HX := hI (show ∀ i, i < n → ∃ x : Bk, xs[i]? = some x ∧ ao = some ⟨b, off, none⟩ ∧ ∀ W, Below w.heap.size w W → W.rangeAt b (off + i * 3) x.vs from fun i hi => by
  obtain ⟨x, e1, e2, e3, e4⟩ := hx i hi
  exact ⟨x, e1, e2, fun W hW j u hu => (hW.cell (p := ⟨b, off + i * 3 + j, none⟩) e3).trans (e4 j u hu)⟩)
 have HP := hI hp
 clear hx h hn hr hp
 go_enter Tryz.func128, Tryz.ntmps128
 go_wp2
 go_loopw [5, 8] (fun _ s8 wr => ∃ i : Nat, i ≤ n ∧ s8 = .int .i64 i ∧ Below w.heap.size w wr ∧ ∀ (j : Nat) (y : Bk), j < i → xs[j]? = some y → p y = false) (fun _ s8 _ => n - (intOf s8).toNat)
 case atStart => exact ⟨0, Nat.zero_le _, rfl, Below.refl _ _, fun j y h => by omega⟩
 case round =>
  obtain ⟨i, hi, rfl, hbel, hm⟩ := hrel
  have HM := hI hm
  have HB := hI hbel
  clear hm hbel
  by_cases hlt : i < n
  · obtain ⟨x, hxi, rfl, hr⟩ := HX.out i hlt
    have HS := hI hxi
    have HR := hI (hr wr HB.out)
    clear hxi hr
    have b0 : (0 : Int) ≤ (i : Int) := by omega
    have b1 : (i : Int) < (n : Int) := by omega
    have hcall := HP.out wr x (Frm.of_below HB.out)
    have HC := hI hcall
    clear hcall
    cases hq : p x with
    | true =>
     rw [hq] at HC
     go_wp2_with (first
      | ((with_reducible show wpList _ _ _ ({ dst := _, op := .load 66 _, type := _, pos := _, after := _, guard := _ } :: _) _ _); refine wpList_load_mid rfl 66 _ rfl b (off + i * 3) (by simp [Act.eval]) x.vs _ HR.out Tryz.underlying66 rfl (by kernel_rfl) ?_)
      | ((with_reducible refine HC.out.mono ?_); rintro e w9 ⟨rfl, hb⟩; have HB9 := hI (HB.out.trans (hb.mono HB.out.size)); clear hb))
     go_returns
     rw [HA.out i x HS.out hq HM.out]
     exact ⟨rfl, HB9.out⟩
    | false =>
     rw [hq] at HC
     go_wp2_with (first
      | ((with_reducible show wpList _ _ _ ({ dst := _, op := .load 66 _, type := _, pos := _, after := _, guard := _ } :: _) _ _); refine wpList_load_mid rfl 66 _ rfl b (off + i * 3) (by simp [Act.eval]) x.vs _ HR.out Tryz.underlying66 rfl (by kernel_rfl) ?_)
      | ((with_reducible refine HC.out.mono ?_); rintro e w9 ⟨rfl, hb⟩; have HB9 := hI (HB.out.trans (hb.mono HB.out.size)); clear hb))
     go_roundw
     case rel => exact ⟨i + 1, by omega, by go_num, HB9.out, fnd_step _ _ i x HS.out hq HM.out⟩
     case measure => simp [intOf]; omega
  · obtain rfl : n = i := by omega
    go_wp2
    go_returns
    rw [HN.out HM.out]
    exact ⟨rfl, HB.out⟩
theorem any_fnd {α : Type} (p : α → Bool) (xs : List α) : xs.any p = decide (0 ≤ fnd p xs) := by
 rcases fnd_cases p xs with ⟨h, hn⟩ | ⟨i, x, h, hx, hp, _⟩
 · rw [h]
   exact (List.any_eq_false.2 fun x hx => by simpa using hn x hx).trans rfl
 · rw [h, List.any_eq_true.2 ⟨x, List.mem_of_getElem? hx, hp⟩]
   exact (decide_eq_true (by omega)).symm
set_option maxRecDepth 100000 in
set_option maxHeartbeats 400000 in
theorem sxHasHeld_any (v : Value) (xs : List Hd) (p : Hd → Bool) (g : Nat) (lb : Array Value) (F : Nat → Prop) (w : World) (h : RowsAt w.heap.size 3 Hd.vs v xs w) (eg : ∀ args w, (callFunc g args).run Tryz.prog w = .ok (.enter g args) w) (hp : PredW Tryz.prog g lb Hd.vs p F w) :
 Calls Tryz.prog 146 #[v, .func (.func g) #[] lb] w fun e w' => e = .returned (.bool (xs.any p)) ∧ Below w.heap.size w w' := by
 rw [any_fnd]
 have HC := hI (sxIdxHeld_any v xs p g lb F w h eg hp)
 generalize fnd p xs = r at HC ⊢
 clear h hp
 go_enter Tryz.func146, Tryz.ntmps146
 go_wp2_with ((with_reducible refine HC.out.mono ?_); rintro e w9 ⟨rfl, hb⟩; have HB9 := hI hb; clear hb)
 go_ret
 exact ⟨rfl, HB9.out⟩
set_option maxRecDepth 100000 in
set_option maxHeartbeats 400000 in
theorem sxHasCached_any (v : Value) (xs : List Cd) (p : Cd → Bool) (g : Nat) (lb : Array Value) (F : Nat → Prop) (w : World) (h : RowsAt w.heap.size 11 Cd.vs v xs w) (eg : ∀ args w, (callFunc g args).run Tryz.prog w = .ok (.enter g args) w) (hp : PredW Tryz.prog g lb Cd.vs p F w) :
 Calls Tryz.prog 151 #[v, .func (.func g) #[] lb] w fun e w' => e = .returned (.bool (xs.any p)) ∧ Below w.heap.size w w' := by
 rw [any_fnd]
 have HC := hI (sxIdxCached_any v xs p g lb F w h eg hp)
 generalize fnd p xs = r at HC ⊢
 clear h hp
 go_enter Tryz.func151, Tryz.ntmps151
 go_wp2_with ((with_reducible refine HC.out.mono ?_); rintro e w9 ⟨rfl, hb⟩; have HB9 := hI hb; clear hb)
 go_ret
 exact ⟨rfl, HB9.out⟩
set_option maxRecDepth 100000 in
set_option maxHeartbeats 400000 in
theorem sxHasPlaced_any (v : Value) (xs : List Bk) (p : Bk → Bool) (g : Nat) (lb : Array Value) (F : Nat → Prop) (w : World) (h : RowsAt w.heap.size 3 Bk.vs v xs w) (eg : ∀ args w, (callFunc g args).run Tryz.prog w = .ok (.enter g args) w) (hp : PredW Tryz.prog g lb Bk.vs p F w) :
 Calls Tryz.prog 158 #[v, .func (.func g) #[] lb] w fun e w' => e = .returned (.bool (xs.any p)) ∧ Below w.heap.size w w' := by
 rw [any_fnd]
 have HC := hI (sxIdxPlaced_any v xs p g lb F w h eg hp)
 generalize fnd p xs = r at HC ⊢
 clear h hp
 go_enter Tryz.func158, Tryz.ntmps158
 go_wp2_with ((with_reducible refine HC.out.mono ?_); rintro e w9 ⟨rfl, hb⟩; have HB9 := hI hb; clear hb)
 go_ret
 exact ⟨rfl, HB9.out⟩
end Go.Proofs.YtngfknplljedeaaGreat
namespace Go.Proofs.YtngfknplljedeaaGreat
open Go.RowKit
section
variable {α : Type}
structure Kept (p : α → Bool) (xs : List α) (i j : Nat) (L : List α) : Prop where
 len : L.length = xs.length
 lt : i < j
 le : j ≤ xs.length
 low : L.take i = (xs.take j).filter fun x => !p x
 high : L.drop j = xs.drop j
theorem Kept.start {p : α → Bool} {xs : List α} {i : Nat} {x : α} (hx : xs[i]? = some x) (hp : p x = true) (hn : ∀ (j : Nat) y, j < i → xs[j]? = some y → p y = false) : Kept p xs i (i + 1) xs := by
 have hi := (List.getElem?_eq_some_iff.1 hx).1
 refine ⟨rfl, Nat.lt_succ_self _, hi, ?_, rfl⟩
 rw [take_one xs i x hx, List.filter_append]
 have e : (xs.take i).filter (fun x => !p x) = xs.take i := List.filter_eq_self.2 fun y hy => by
  obtain ⟨j, hj, rfl⟩ := List.getElem_of_mem hy
  have hj2 : j < i := by rw [List.length_take] at hj; omega
  rw [List.getElem_take, hn j _ hj2 (List.getElem?_eq_getElem _)]
  rfl
 rw [e]
 simp [hp]
theorem Kept.keep {p : α → Bool} {xs : List α} {i j : Nat} {L : List α} {x : α} (h : Kept p xs i j L) (hx : xs[j]? = some x) (hp : p x = false) : Kept p xs (i + 1) (j + 1) (L.set i x) := by
 have hj := (List.getElem?_eq_some_iff.1 hx).1
 have hl := h.len
 have hlt := h.lt
 refine ⟨by rw [List.length_set]; exact hl, by omega, hj, ?_, ?_⟩
 · rw [take_one _ i x (by rw [List.getElem?_set_self (by omega)]), List.take_set_of_le (Nat.le_refl _), h.low, take_one xs j x hx, List.filter_append]
   simp [hp]
 · rw [List.drop_set_of_lt (by omega), ← List.drop_drop, h.high, List.drop_drop]
theorem Kept.skip {p : α → Bool} {xs : List α} {i j : Nat} {L : List α} {x : α} (h : Kept p xs i j L) (hx : xs[j]? = some x) (hp : p x = true) : Kept p xs i (j + 1) L := by
 have hj := (List.getElem?_eq_some_iff.1 hx).1
 refine ⟨h.len, Nat.lt_succ_of_lt h.lt, hj, ?_, ?_⟩
 · rw [h.low, take_one xs j x hx, List.filter_append]
   simp [hp]
 · rw [← List.drop_drop, h.high, List.drop_drop]
theorem Kept.at' {p : α → Bool} {xs : List α} {i j : Nat} {L : List α} {x : α} (h : Kept p xs i j L) (hx : xs[j]? = some x) : L[j]? = some x := by
 have : (L.drop j)[0]? = (xs.drop j)[0]? := by rw [h.high]
 rw [List.getElem?_drop, List.getElem?_drop, Nat.add_zero] at this
 rw [this, hx]
theorem Kept.done {p : α → Bool} {xs : List α} {i : Nat} {L : List α} (h : Kept p xs i xs.length L) : L.take i = xs.filter (fun x => !p x) ∧ (xs.filter fun x => !p x).length = i := by
 have e := h.low
 rw [List.take_length] at e
 refine ⟨e, ?_⟩
 rw [← e, List.length_take, h.len]
 have := h.lt
 omega
theorem Row.range {T : TypeId} {f : α → List Value} {k g : Nat} {w : World} (hf : ∀ x, (f x).length = k) {L : List α} {rest : List Value} (h : Row T f g L rest w) {o m : Nat} (hm : o + m ≤ L.length * k) : w.there g o m := by
 intro j hj
 refine ⟨?_, St.free h _⟩
 have hlt : o + j < (L.flatMap f ++ rest).length := by rw [List.length_append, flat_length hf]; omega
 rw [St.cell h (j := o + j) (by rw [List.getElem?_toArray, List.getElem?_eq_getElem hlt])]
 rfl
theorem filter_none {p : α → Bool} {xs : List α} (h : ∀ x ∈ xs, p x = false) : xs.filter (fun x => !p x) = xs := List.filter_eq_self.2 fun x hx => by rw [h x hx]; rfl
theorem Row.clear {T : TypeId} {f : α → List Value} {k g : Nat} {w : World} (hf : ∀ x, (f x).length = k) {L : List α} {rest : List Value} (h : Row T f g L rest w) {i : Nat} (hi : i ≤ L.length) (zs : List Value) (hz : zs.length = (L.length - i) * k) :
 ∃ rest', Row T f g (L.take i) rest' (w.setCells g (i * k) zs) ∧ (L.take i).length * k + rest'.length = L.length * k + rest.length := by
 have hl : ((L.take i).flatMap f).length = i * k := by rw [flat_length hf, List.length_take]; congr 1; omega
 have hd : ((L.drop i).flatMap f).length = zs.length := by rw [flat_length hf, List.length_drop, hz]
 have e : L.flatMap f ++ rest = (L.take i).flatMap f ++ ((L.drop i).flatMap f ++ rest) := by rw [← List.append_assoc, ← List.flatMap_append, List.take_append_drop]
 have := St.cells zs (i * k) _ w h (by rw [e, List.length_append, List.length_append, hl, hd]; omega)
 rw [e, ← hl, splice_at _ _ _ _ hd] at this
 refine ⟨zs ++ rest, ?_, ?_⟩
 · rw [← hl]; exact this
 · rw [List.length_append, hz, List.length_take, ← Nat.add_assoc, ← Nat.add_mul]
   congr 2
   omega
end
end Go.Proofs.YtngfknplljedeaaGreat
namespace Go.Proofs.YtngfknplljedeaaGreat
open Go.RowKit
set_option maxRecDepth 100000 in
set_option maxHeartbeats 1000000 in
theorem sxDelHeld_any {B : Nat} (v : Value) (xs : List Hd) (p : Hd → Bool) (g : Nat) (lb : Array Value) (w : World) (h : OwnAt 49 3 Hd.vs B v xs w) (hm : xs.length ≤ 1073741823) (eg : ∀ args w, (callFunc g args).run Tryz.prog w = .ok (.enter g args) w) (hp : PredW Tryz.prog g lb Hd.vs p (fun j => v.ownBlock = some j) w) :
 Calls Tryz.prog 148 #[v, .func (.func g) #[] lb] w fun e w' => ∃ v', e = .returned v' ∧ OwnAt 49 3 Hd.vs B v' (xs.filter fun x => !p x) w' ∧ Frm (fun j => v.ownBlock = some j) w w' := by
 have HC := hI (sxIdxHeld_any v xs p g lb _ w (h.rows Hd.vs_length) eg hp)
 have hv0 : ∀ (w : World), (zeroValue 49).run Tryz.prog w = .ok (.agg #[.int .i64 0, .int .i64 0, .string ⟨#[]⟩]) w := fun w => Tryz.zeroValue49 w
 rcases fnd_cases p xs with ⟨hf, hall⟩ | ⟨i0, x0, hf, hx0, hp0, hn0⟩
 · rw [hf] at HC
   rw [filter_none hall]
   have HO := hI h
   obtain ⟨ao, n, cap, rfl⟩ := h.slice
   clear h hall hf hp hv0
   go_enter Tryz.func148, Tryz.ntmps148
   go_wp2_with ((with_reducible refine HC.out.mono ?_); rintro e w9 ⟨rfl, hb⟩; have HB9 := hI hb; clear hb)
   go_returns
   exact ⟨_, rfl, HO.out.below HB9.out, Frm.of_below HB9.out⟩
 · rw [hf] at HC
   have HK0 := hI (Kept.start hx0 hp0 hn0)
   have hi0 := (List.getElem?_eq_some_iff.1 hx0).1
   rcases h.open with ⟨_, rfl⟩ | ⟨b, cap, rest, rfl, hB, hl, hm2, hc, hrow⟩
   · simp at hi0
   · have HB := hI hB
     have HR0 := hI hrow
     have hlt := St.lt hrow
     have HP := hI hp
     obtain ⟨n, hn⟩ : ∃ n, n = xs.length := ⟨_, rfl⟩
     have HNN := hI hn
     rw [← hn] at hl hm hi0 HC hc
     have HCC := hI hc
     have HM2 := hI hm2
     have d0 : ((i0 : Int) == -1) = false := beq_eq_false_iff_ne.2 (by omega)
     have HX := hI (show ∀ j, j < n → ∃ x, xs[j]? = some x from fun j hj => ⟨_, List.getElem?_eq_getElem (by rw [← HNN.out]; exact hj)⟩)
     clear h hx0 hp0 hn0 hf hB hrow hp hn hc hm2
     rw [show (Value.slice (some ⟨b, 0, none⟩) xs.length cap) = Value.slice (some ⟨b, 0, none⟩) n cap from by rw [HNN.out]] at HP ⊢
     go_enter Tryz.func148, Tryz.ntmps148
     go_wp2_with ((with_reducible refine HC.out.mono ?_); rintro e w8 ⟨rfl, hb⟩; have HB8 := hI hb; clear hb)
     go_loopw [5, 6, 7] (fun s5 s6 _ wr => ∃ (i j : Nat) (L : List Hd), s5 = .int .i64 i ∧ s6 = .int .i64 j ∧ Kept p xs i j L ∧ Row 49 Hd.vs b L rest wr ∧ Frm (fun j => j = b) w wr) (fun _ s6 _ _ => n - (intOf s6).toNat)
     case atStart => exact ⟨i0, i0 + 1, xs, rfl, by go_num, HK0.out, HR0.out.below HB8.out, Frm.of_below HB8.out⟩
     case round =>
      obtain ⟨i, j, L, rfl, rfl, hk, hr, hfr⟩ := hrel
      have HK := hI hk
      have HR := hI hr
      have HF := hI hfr
      have hij := hk.lt
      have hjn : j ≤ n := by rw [HNN.out]; exact hk.le
      have hLn := hk.len
      rw [← HNN.out] at hLn
      have HL := hI hLn
      clear hk hr hfr hLn
      by_cases hjl : j < n
      · obtain ⟨x, hx⟩ := HX.out j hjl
        have HXJ := hI hx
        have b0 : (0 : Int) ≤ (j : Int) := by omega
        have b1 : (j : Int) < (n : Int) := by omega
        have b2 : (0 : Int) ≤ (i : Int) := by omega
        have b3 : (i : Int) < (n : Int) := by omega
        have HRJ := hI (HR.out.at' Hd.vs_length (HK.out.at' hx))
        clear hx
        obtain ⟨wa, hwa⟩ : ∃ wa, wa = wr.alloc (.cells #[.int .i64 0, .int .i64 0, .string ⟨#[]⟩] 49 (0, 0)) := ⟨_, rfl⟩
        obtain ⟨q, hq⟩ : ∃ q, q = wr.heap.size := ⟨_, rfl⟩
        have SA := hI (show St 49 q #[.int .i64 0, .int .i64 0, .string ⟨#[]⟩] wa from by rw [hwa, hq]; exact St.new _ _ _)
        have FA := hI (show Frm (fun j => j = b) w wa from by rw [hwa]; exact HF.out.alloc _)
        have hwq : w.heap.size ≤ q := by rw [hq]; exact HF.out.size
        have hbq : b ≠ q := by have := St.lt HR.out; omega
        have HBQ := hI hbq
        have HWQ := hI hwq
        have RA := hI (show Row 49 Hd.vs b L rest wa from by rw [hwa]; exact St.alloc HR.out _)
        have HRA := hI (RA.out.at' Hd.vs_length (HK.out.at' HXJ.out))
        have HWA := hI hwa
        have HQ := hI hq
        clear hwa hq hbq hwq
        obtain ⟨wb, hwb⟩ : ∃ wb, wb = wa.setRow q x.vs.toArray := ⟨_, rfl⟩
        have SB := hI (show St 49 q x.vs.toArray wb from by rw [hwb]; exact St.row SA.out)
        have FB := hI (show Frm (fun j => j = b) w wb from by
         rw [hwb]
         exact FA.out.trans ⟨rfl, rfl, rfl, by simp [World.setRow], fun j hj hn => Go.setRow_other _ _ _ _ (fun e => hn (.inr ⟨by rw [e]; exact HWQ.out, hj⟩))⟩)
        have RB := hI (show Row 49 Hd.vs b L rest wb from by rw [hwb]; exact St.setRow_other RA.out HBQ.out _)
        have HWB := hI hwb
        have HCL := hI (HP.out wb x (FB.out.wide fun j e => by show Value.ownBlock _ = some j; rw [e]; rfl))
        clear hwb
        cases hpx : p x with
        | true =>
         rw [hpx] at HCL
         go_wp2_with (first
          | ((with_reducible show wpList _ _ _ ({ dst := _, op := .load 49 (.tmp 24), type := _, pos := _, after := _, guard := _ } :: _) _ _); refine wpList_load_mid rfl 49 _ rfl b (j * 3) (by first | rfl | simp [Act.eval, Act.put]) x.vs _ HRJ.out Tryz.underlying49 rfl (by kernel_rfl) ?_)
          | ((with_reducible show wpList _ _ _ ({ dst := _, op := .store 49 (.tmp 7) _, type := _, pos := _, after := _, guard := _ } :: _) _ _); rw [← HWA.out, ← HQ.out]; refine wpList_store_st rfl 49 _ _ rfl q x.vs.toArray (by first | rfl | simp [Act.eval, Act.put]) (by first | rfl | simp [Act.eval, Act.put]) _ SA.out (by kernel_rfl) rfl (all_oneCell_toArray (Hd.one x)) ?_; rintro w6 hw6 _; rw [hw6, ← HWB.out]; clear hw6)
          | ((with_reducible show wpList _ _ _ ({ dst := _, op := .load 49 (.tmp 7), type := _, pos := _, after := _, guard := _ } :: _) _ _); refine wpList_load_st rfl 49 _ rfl q (by first | rfl | simp [Act.eval, Act.put]) 49 x.vs.toArray SB.out _ Tryz.underlying49 rfl (by rfl) ?_)
          | ((with_reducible refine HCL.out.mono ?_); rintro e w9 ⟨rfl, hb⟩; have HB9 := hI hb; clear hb))
         go_roundw
         case rel => exact ⟨i, j + 1, L, rfl, by go_num, HK.out.skip HXJ.out hpx, RB.out.below HB9.out, FB.out.next (Frm.of_below HB9.out)⟩
         case measure => simp [intOf]; omega
        | false =>
         rw [hpx] at HCL
         go_wp2_with (first
          | ((with_reducible show wpList _ _ _ ({ dst := _, op := .load 49 (.tmp 24), type := _, pos := _, after := _, guard := _ } :: _) _ _); refine wpList_load_mid rfl 49 _ rfl b (j * 3) (by first | rfl | simp [Act.eval, Act.put]) x.vs _ HRJ.out Tryz.underlying49 rfl (by kernel_rfl) ?_)
          | ((with_reducible show wpList _ _ _ ({ dst := _, op := .store 49 (.tmp 7) _, type := _, pos := _, after := _, guard := _ } :: _) _ _); rw [← HWA.out, ← HQ.out]; refine wpList_store_st rfl 49 _ _ rfl q x.vs.toArray (by first | rfl | simp [Act.eval, Act.put]) (by first | rfl | simp [Act.eval, Act.put]) _ SA.out (by kernel_rfl) rfl (all_oneCell_toArray (Hd.one x)) ?_; rintro w6 hw6 _; rw [hw6, ← HWB.out]; clear hw6)
          | ((with_reducible show wpList _ _ _ ({ dst := some 27, op := .load 49 (.tmp 7), type := _, pos := _, after := _, guard := _ } :: _) _ _); refine wpList_load_st rfl 49 _ rfl q (by first | rfl | simp [Act.eval, Act.put]) 49 x.vs.toArray SB.out _ Tryz.underlying49 rfl (by rfl) ?_)
          | ((with_reducible refine HCL.out.mono ?_); rintro e w9 ⟨rfl, hb⟩; have HB9 := hI hb; have R9 := hI (RB.out.below hb); have S9 := hI (SB.out.below hb); have F9 := hI (FB.out.next (Frm.of_below hb)); clear hb)
          | ((with_reducible show wpList _ _ _ ({ dst := some 32, op := .load 49 (.tmp 7), type := _, pos := _, after := _, guard := _ } :: _) _ _); refine wpList_load_st rfl 49 _ rfl q (by first | rfl | simp [Act.eval, Act.put]) 49 x.vs.toArray S9.out _ Tryz.underlying49 rfl (by rfl) ?_)
          | ((with_reducible show wpList _ _ _ ({ dst := _, op := .store 49 (.tmp 33) _, type := _, pos := _, after := _, guard := _ } :: _) _ _); refine wpList_store_mid rfl 49 _ _ rfl b (i * 3) x.vs.toArray (by first | rfl | simp [Act.eval, Act.put]) (by first | rfl | simp [Act.eval, Act.put]) (R9.out.there Hd.vs_length (by rw [HL.out]; omega)) (by kernel_rfl) (all_oneCell_toArray (Hd.one x)) ?_; have R7 := hI (R9.out.set Hd.vs_length x (show i < L.length from by rw [HL.out]; omega)); have F7 := hI (Frm.cells' (F := fun j => j = b) (g := b) (.inl rfl) x.vs (i * 3) _ F9.out)))
         go_roundw
         case rel => exact ⟨i + 1, j + 1, L.set i x, by go_num, by go_num, HK.out.keep HXJ.out hpx, R7.out, F7.out⟩
         case measure => simp [intOf]; omega
      · obtain rfl : j = n := by omega
        have b1 : ¬ (j : Int) < (j : Int) := by omega
        have b2 : (0 : Int) ≤ (i : Int) := by omega
        have b3 : (i : Int) ≤ (j : Int) := by omega
        have b4 : ¬ cap = i := by omega
        have hzs := zeroCells_size (.agg #[.int .i64 0, .int .i64 0, .string ⟨#[]⟩] : Value).cells (j - i)
        obtain ⟨zs, hzz⟩ : ∃ zs, zs = (Builtin.zeroCells (.agg #[.int .i64 0, .int .i64 0, .string ⟨#[]⟩] : Value).cells (j - i)).toList := ⟨_, rfl⟩
        have hcl : ∀ ty, (Builtin.clear_ #[22] ty #[.slice (some ⟨b, i * 3, none⟩) (j - i) (cap - i)]).run Tryz.prog wr = .ok (.tuple #[]) (wr.setCells b (i * 3) zs) := fun ty => by
         rw [hzz]
         exact run_clear_k wr _ 49 ty (.agg #[.int .i64 0, .int .i64 0, .string ⟨#[]⟩]) 3 Tryz.underlying22 hv0 rfl (by decide) b (i * 3) (j - i) (cap - i) (by omega) (HR.out.range Hd.vs_length (by rw [HL.out, ← Nat.add_mul]; exact Nat.mul_le_mul_right _ (by omega)))
        obtain ⟨rest', hr2, hc2⟩ := HR.out.clear Hd.vs_length (i := i) (by rw [HL.out]; omega) zs (by rw [hzz, Array.length_toList, hzs, HL.out]; rfl)
        obtain ⟨wc, hwc⟩ : ∃ wc, wc = wr.setCells b (i * 3) zs := ⟨_, rfl⟩
        have FC := hI (show Frm (fun j => j = b) w wc from by rw [hwc]; exact Frm.cells' (F := fun j => j = b) (g := b) (.inl rfl) zs _ _ HF.out)
        rw [← hwc] at hr2 hcl
        have RC := hI hr2
        have CC := hI hc2
        clear hr2 hc2 hwc hzs hzz
        go_wp2
        go_ret
        have hk2 := HK.out
        rw [HNN.out] at hk2
        obtain ⟨e1, e2⟩ := hk2.done
        have hli : (L.take i).length = i := by rw [List.length_take, HL.out]; omega
        refine ⟨_, rfl, ?_, FC.out.wide fun j e => by show Value.ownBlock _ = some j; rw [e]; rfl⟩
        have := RC.out.own Hd.vs_length (B := B) (cap := cap) HB.out (by rw [CC.out, HL.out]; exact HCC.out) (by omega) HM2.out
        rw [hli, e1] at this
        exact this
set_option maxRecDepth 100000 in
set_option maxHeartbeats 1000000 in
theorem sxDelCached_any {B : Nat} (v : Value) (xs : List Cd) (p : Cd → Bool) (g : Nat) (lb : Array Value) (w : World) (h : OwnAt 57 11 Cd.vs B v xs w) (hm : xs.length ≤ 1073741823) (eg : ∀ args w, (callFunc g args).run Tryz.prog w = .ok (.enter g args) w) (hp : PredW Tryz.prog g lb Cd.vs p (fun j => v.ownBlock = some j) w) :
 Calls Tryz.prog 154 #[v, .func (.func g) #[] lb] w fun e w' => ∃ v', e = .returned v' ∧ OwnAt 57 11 Cd.vs B v' (xs.filter fun x => !p x) w' ∧ Frm (fun j => v.ownBlock = some j) w w' := by
 have HC := hI (sxIdxCached_any v xs p g lb _ w (h.rows Cd.vs_length) eg hp)
 have hv0 : ∀ (w : World), (zeroValue 57).run Tryz.prog w = .ok (.agg #[.string ⟨#[]⟩, .int .i64 0, .int .i64 0, .int .i64 0, .int .i64 0, .int .i64 0, .int .i64 0, .int .i64 0, .int .i64 0, .int .i64 0, .int .i64 0]) w := fun w => Tryz.zeroValue57 w
 rcases fnd_cases p xs with ⟨hf, hall⟩ | ⟨i0, x0, hf, hx0, hp0, hn0⟩
 · rw [hf] at HC
   rw [filter_none hall]
   have HO := hI h
   obtain ⟨ao, n, cap, rfl⟩ := h.slice
   clear h hall hf hp hv0
   go_enter Tryz.func154, Tryz.ntmps154
   go_wp2_with ((with_reducible refine HC.out.mono ?_); rintro e w9 ⟨rfl, hb⟩; have HB9 := hI hb; clear hb)
   go_returns
   exact ⟨_, rfl, HO.out.below HB9.out, Frm.of_below HB9.out⟩
 · rw [hf] at HC
   have HK0 := hI (Kept.start hx0 hp0 hn0)
   have hi0 := (List.getElem?_eq_some_iff.1 hx0).1
   rcases h.open with ⟨_, rfl⟩ | ⟨b, cap, rest, rfl, hB, hl, hm2, hc, hrow⟩
   · simp at hi0
   · have HB := hI hB
     have HR0 := hI hrow
     have hlt := St.lt hrow
     have HP := hI hp
     obtain ⟨n, hn⟩ : ∃ n, n = xs.length := ⟨_, rfl⟩
     have HNN := hI hn
     rw [← hn] at hl hm hi0 HC hc
     have HCC := hI hc
     have HM2 := hI hm2
     have d0 : ((i0 : Int) == -1) = false := beq_eq_false_iff_ne.2 (by omega)
     have HX := hI (show ∀ j, j < n → ∃ x, xs[j]? = some x from fun j hj => ⟨_, List.getElem?_eq_getElem (by rw [← HNN.out]; exact hj)⟩)
     clear h hx0 hp0 hn0 hf hB hrow hp hn hc hm2
     rw [show (Value.slice (some ⟨b, 0, none⟩) xs.length cap) = Value.slice (some ⟨b, 0, none⟩) n cap from by rw [HNN.out]] at HP ⊢
     go_enter Tryz.func154, Tryz.ntmps154
     go_wp2_with ((with_reducible refine HC.out.mono ?_); rintro e w8 ⟨rfl, hb⟩; have HB8 := hI hb; clear hb)
     go_loopw [5, 6, 7] (fun s5 s6 _ wr => ∃ (i j : Nat) (L : List Cd), s5 = .int .i64 i ∧ s6 = .int .i64 j ∧ Kept p xs i j L ∧ Row 57 Cd.vs b L rest wr ∧ Frm (fun j => j = b) w wr) (fun _ s6 _ _ => n - (intOf s6).toNat)
     case atStart => exact ⟨i0, i0 + 1, xs, rfl, by go_num, HK0.out, HR0.out.below HB8.out, Frm.of_below HB8.out⟩
     case round =>
      obtain ⟨i, j, L, rfl, rfl, hk, hr, hfr⟩ := hrel
      have HK := hI hk
      have HR := hI hr
      have HF := hI hfr
      have hij := hk.lt
      have hjn : j ≤ n := by rw [HNN.out]; exact hk.le
      have hLn := hk.len
      rw [← HNN.out] at hLn
      have HL := hI hLn
      clear hk hr hfr hLn
      by_cases hjl : j < n
      · obtain ⟨x, hx⟩ := HX.out j hjl
        have HXJ := hI hx
        have b0 : (0 : Int) ≤ (j : Int) := by omega
        have b1 : (j : Int) < (n : Int) := by omega
        have b2 : (0 : Int) ≤ (i : Int) := by omega
        have b3 : (i : Int) < (n : Int) := by omega
        have HRJ := hI (HR.out.at' Cd.vs_length (HK.out.at' hx))
        clear hx
        obtain ⟨wa, hwa⟩ : ∃ wa, wa = wr.alloc (.cells #[.string ⟨#[]⟩, .int .i64 0, .int .i64 0, .int .i64 0, .int .i64 0, .int .i64 0, .int .i64 0, .int .i64 0, .int .i64 0, .int .i64 0, .int .i64 0] 57 (0, 0)) := ⟨_, rfl⟩
        obtain ⟨q, hq⟩ : ∃ q, q = wr.heap.size := ⟨_, rfl⟩
        have SA := hI (show St 57 q #[.string ⟨#[]⟩, .int .i64 0, .int .i64 0, .int .i64 0, .int .i64 0, .int .i64 0, .int .i64 0, .int .i64 0, .int .i64 0, .int .i64 0, .int .i64 0] wa from by rw [hwa, hq]; exact St.new _ _ _)
        have FA := hI (show Frm (fun j => j = b) w wa from by rw [hwa]; exact HF.out.alloc _)
        have hwq : w.heap.size ≤ q := by rw [hq]; exact HF.out.size
        have hbq : b ≠ q := by have := St.lt HR.out; omega
        have HBQ := hI hbq
        have HWQ := hI hwq
        have RA := hI (show Row 57 Cd.vs b L rest wa from by rw [hwa]; exact St.alloc HR.out _)
        have HRA := hI (RA.out.at' Cd.vs_length (HK.out.at' HXJ.out))
        have HWA := hI hwa
        have HQ := hI hq
        clear hwa hq hbq hwq
        obtain ⟨wb, hwb⟩ : ∃ wb, wb = wa.setRow q x.vs.toArray := ⟨_, rfl⟩
        have SB := hI (show St 57 q x.vs.toArray wb from by rw [hwb]; exact St.row SA.out)
        have FB := hI (show Frm (fun j => j = b) w wb from by
         rw [hwb]
         exact FA.out.trans ⟨rfl, rfl, rfl, by simp [World.setRow], fun j hj hn => Go.setRow_other _ _ _ _ (fun e => hn (.inr ⟨by rw [e]; exact HWQ.out, hj⟩))⟩)
        have RB := hI (show Row 57 Cd.vs b L rest wb from by rw [hwb]; exact St.setRow_other RA.out HBQ.out _)
        have HWB := hI hwb
        have HCL := hI (HP.out wb x (FB.out.wide fun j e => by show Value.ownBlock _ = some j; rw [e]; rfl))
        clear hwb
        cases hpx : p x with
        | true =>
         rw [hpx] at HCL
         go_wp2_with (first
          | ((with_reducible show wpList _ _ _ ({ dst := _, op := .load 57 (.tmp 24), type := _, pos := _, after := _, guard := _ } :: _) _ _); refine wpList_load_mid rfl 57 _ rfl b (j * 11) (by first | rfl | simp [Act.eval, Act.put]) x.vs _ HRJ.out Tryz.underlying57 rfl (by kernel_rfl) ?_)
          | ((with_reducible show wpList _ _ _ ({ dst := _, op := .store 57 (.tmp 7) _, type := _, pos := _, after := _, guard := _ } :: _) _ _); rw [← HWA.out, ← HQ.out]; refine wpList_store_st rfl 57 _ _ rfl q x.vs.toArray (by first | rfl | simp [Act.eval, Act.put]) (by first | rfl | simp [Act.eval, Act.put]) _ SA.out (by kernel_rfl) rfl (all_oneCell_toArray (Cd.one x)) ?_; rintro w6 hw6 _; rw [hw6, ← HWB.out]; clear hw6)
          | ((with_reducible show wpList _ _ _ ({ dst := _, op := .load 57 (.tmp 7), type := _, pos := _, after := _, guard := _ } :: _) _ _); refine wpList_load_st rfl 57 _ rfl q (by first | rfl | simp [Act.eval, Act.put]) 57 x.vs.toArray SB.out _ Tryz.underlying57 rfl (by rfl) ?_)
          | ((with_reducible refine HCL.out.mono ?_); rintro e w9 ⟨rfl, hb⟩; have HB9 := hI hb; clear hb))
         go_roundw
         case rel => exact ⟨i, j + 1, L, rfl, by go_num, HK.out.skip HXJ.out hpx, RB.out.below HB9.out, FB.out.next (Frm.of_below HB9.out)⟩
         case measure => simp [intOf]; omega
        | false =>
         rw [hpx] at HCL
         go_wp2_with (first
          | ((with_reducible show wpList _ _ _ ({ dst := _, op := .load 57 (.tmp 24), type := _, pos := _, after := _, guard := _ } :: _) _ _); refine wpList_load_mid rfl 57 _ rfl b (j * 11) (by first | rfl | simp [Act.eval, Act.put]) x.vs _ HRJ.out Tryz.underlying57 rfl (by kernel_rfl) ?_)
          | ((with_reducible show wpList _ _ _ ({ dst := _, op := .store 57 (.tmp 7) _, type := _, pos := _, after := _, guard := _ } :: _) _ _); rw [← HWA.out, ← HQ.out]; refine wpList_store_st rfl 57 _ _ rfl q x.vs.toArray (by first | rfl | simp [Act.eval, Act.put]) (by first | rfl | simp [Act.eval, Act.put]) _ SA.out (by kernel_rfl) rfl (all_oneCell_toArray (Cd.one x)) ?_; rintro w6 hw6 _; rw [hw6, ← HWB.out]; clear hw6)
          | ((with_reducible show wpList _ _ _ ({ dst := some 27, op := .load 57 (.tmp 7), type := _, pos := _, after := _, guard := _ } :: _) _ _); refine wpList_load_st rfl 57 _ rfl q (by first | rfl | simp [Act.eval, Act.put]) 57 x.vs.toArray SB.out _ Tryz.underlying57 rfl (by rfl) ?_)
          | ((with_reducible refine HCL.out.mono ?_); rintro e w9 ⟨rfl, hb⟩; have HB9 := hI hb; have R9 := hI (RB.out.below hb); have S9 := hI (SB.out.below hb); have F9 := hI (FB.out.next (Frm.of_below hb)); clear hb)
          | ((with_reducible show wpList _ _ _ ({ dst := some 32, op := .load 57 (.tmp 7), type := _, pos := _, after := _, guard := _ } :: _) _ _); refine wpList_load_st rfl 57 _ rfl q (by first | rfl | simp [Act.eval, Act.put]) 57 x.vs.toArray S9.out _ Tryz.underlying57 rfl (by rfl) ?_)
          | ((with_reducible show wpList _ _ _ ({ dst := _, op := .store 57 (.tmp 33) _, type := _, pos := _, after := _, guard := _ } :: _) _ _); refine wpList_store_mid rfl 57 _ _ rfl b (i * 11) x.vs.toArray (by first | rfl | simp [Act.eval, Act.put]) (by first | rfl | simp [Act.eval, Act.put]) (R9.out.there Cd.vs_length (by rw [HL.out]; omega)) (by kernel_rfl) (all_oneCell_toArray (Cd.one x)) ?_; have R7 := hI (R9.out.set Cd.vs_length x (show i < L.length from by rw [HL.out]; omega)); have F7 := hI (Frm.cells' (F := fun j => j = b) (g := b) (.inl rfl) x.vs (i * 11) _ F9.out)))
         go_roundw
         case rel => exact ⟨i + 1, j + 1, L.set i x, by go_num, by go_num, HK.out.keep HXJ.out hpx, R7.out, F7.out⟩
         case measure => simp [intOf]; omega
      · obtain rfl : j = n := by omega
        have b1 : ¬ (j : Int) < (j : Int) := by omega
        have b2 : (0 : Int) ≤ (i : Int) := by omega
        have b3 : (i : Int) ≤ (j : Int) := by omega
        have b4 : ¬ cap = i := by omega
        have hzs := zeroCells_size (.agg #[.string ⟨#[]⟩, .int .i64 0, .int .i64 0, .int .i64 0, .int .i64 0, .int .i64 0, .int .i64 0, .int .i64 0, .int .i64 0, .int .i64 0, .int .i64 0] : Value).cells (j - i)
        obtain ⟨zs, hzz⟩ : ∃ zs, zs = (Builtin.zeroCells (.agg #[.string ⟨#[]⟩, .int .i64 0, .int .i64 0, .int .i64 0, .int .i64 0, .int .i64 0, .int .i64 0, .int .i64 0, .int .i64 0, .int .i64 0, .int .i64 0] : Value).cells (j - i)).toList := ⟨_, rfl⟩
        have hcl : ∀ ty, (Builtin.clear_ #[23] ty #[.slice (some ⟨b, i * 11, none⟩) (j - i) (cap - i)]).run Tryz.prog wr = .ok (.tuple #[]) (wr.setCells b (i * 11) zs) := fun ty => by
         rw [hzz]
         exact run_clear_k wr _ 57 ty (.agg #[.string ⟨#[]⟩, .int .i64 0, .int .i64 0, .int .i64 0, .int .i64 0, .int .i64 0, .int .i64 0, .int .i64 0, .int .i64 0, .int .i64 0, .int .i64 0]) 11 Tryz.underlying23 hv0 rfl (by decide) b (i * 11) (j - i) (cap - i) (by omega) (HR.out.range Cd.vs_length (by rw [HL.out, ← Nat.add_mul]; exact Nat.mul_le_mul_right _ (by omega)))
        obtain ⟨rest', hr2, hc2⟩ := HR.out.clear Cd.vs_length (i := i) (by rw [HL.out]; omega) zs (by rw [hzz, Array.length_toList, hzs, HL.out]; rfl)
        obtain ⟨wc, hwc⟩ : ∃ wc, wc = wr.setCells b (i * 11) zs := ⟨_, rfl⟩
        have FC := hI (show Frm (fun j => j = b) w wc from by rw [hwc]; exact Frm.cells' (F := fun j => j = b) (g := b) (.inl rfl) zs _ _ HF.out)
        rw [← hwc] at hr2 hcl
        have RC := hI hr2
        have CC := hI hc2
        clear hr2 hc2 hwc hzs hzz
        go_wp2
        go_ret
        have hk2 := HK.out
        rw [HNN.out] at hk2
        obtain ⟨e1, e2⟩ := hk2.done
        have hli : (L.take i).length = i := by rw [List.length_take, HL.out]; omega
        refine ⟨_, rfl, ?_, FC.out.wide fun j e => by show Value.ownBlock _ = some j; rw [e]; rfl⟩
        have := RC.out.own Cd.vs_length (B := B) (cap := cap) HB.out (by rw [CC.out, HL.out]; exact HCC.out) (by omega) HM2.out
        rw [hli, e1] at this
        exact this
set_option maxRecDepth 100000 in
set_option maxHeartbeats 1000000 in
theorem sxDelKnown_any {B : Nat} (v : Value) (xs : List Kn) (p : Kn → Bool) (g : Nat) (lb : Array Value) (w : World) (h : OwnAt 61 3 Kn.vs B v xs w) (hm : xs.length ≤ 1073741823) (eg : ∀ args w, (callFunc g args).run Tryz.prog w = .ok (.enter g args) w) (hp : PredW Tryz.prog g lb Kn.vs p (fun j => v.ownBlock = some j) w) :
 Calls Tryz.prog 156 #[v, .func (.func g) #[] lb] w fun e w' => ∃ v', e = .returned v' ∧ OwnAt 61 3 Kn.vs B v' (xs.filter fun x => !p x) w' ∧ Frm (fun j => v.ownBlock = some j) w w' := by
 have HC := hI (sxIdxKnown_any v xs p g lb _ w (h.rows Kn.vs_length) eg hp)
 have hv0 : ∀ (w : World), (zeroValue 61).run Tryz.prog w = .ok (.agg #[.string ⟨#[]⟩, .string ⟨#[]⟩, .string ⟨#[]⟩]) w := fun w => Tryz.zeroValue61 w
 rcases fnd_cases p xs with ⟨hf, hall⟩ | ⟨i0, x0, hf, hx0, hp0, hn0⟩
 · rw [hf] at HC
   rw [filter_none hall]
   have HO := hI h
   obtain ⟨ao, n, cap, rfl⟩ := h.slice
   clear h hall hf hp hv0
   go_enter Tryz.func156, Tryz.ntmps156
   go_wp2_with ((with_reducible refine HC.out.mono ?_); rintro e w9 ⟨rfl, hb⟩; have HB9 := hI hb; clear hb)
   go_returns
   exact ⟨_, rfl, HO.out.below HB9.out, Frm.of_below HB9.out⟩
 · rw [hf] at HC
   have HK0 := hI (Kept.start hx0 hp0 hn0)
   have hi0 := (List.getElem?_eq_some_iff.1 hx0).1
   rcases h.open with ⟨_, rfl⟩ | ⟨b, cap, rest, rfl, hB, hl, hm2, hc, hrow⟩
   · simp at hi0
   · have HB := hI hB
     have HR0 := hI hrow
     have hlt := St.lt hrow
     have HP := hI hp
     obtain ⟨n, hn⟩ : ∃ n, n = xs.length := ⟨_, rfl⟩
     have HNN := hI hn
     rw [← hn] at hl hm hi0 HC hc
     have HCC := hI hc
     have HM2 := hI hm2
     have d0 : ((i0 : Int) == -1) = false := beq_eq_false_iff_ne.2 (by omega)
     have HX := hI (show ∀ j, j < n → ∃ x, xs[j]? = some x from fun j hj => ⟨_, List.getElem?_eq_getElem (by rw [← HNN.out]; exact hj)⟩)
     clear h hx0 hp0 hn0 hf hB hrow hp hn hc hm2
     rw [show (Value.slice (some ⟨b, 0, none⟩) xs.length cap) = Value.slice (some ⟨b, 0, none⟩) n cap from by rw [HNN.out]] at HP ⊢
     go_enter Tryz.func156, Tryz.ntmps156
     go_wp2_with ((with_reducible refine HC.out.mono ?_); rintro e w8 ⟨rfl, hb⟩; have HB8 := hI hb; clear hb)
     go_loopw [5, 6, 7] (fun s5 s6 _ wr => ∃ (i j : Nat) (L : List Kn), s5 = .int .i64 i ∧ s6 = .int .i64 j ∧ Kept p xs i j L ∧ Row 61 Kn.vs b L rest wr ∧ Frm (fun j => j = b) w wr) (fun _ s6 _ _ => n - (intOf s6).toNat)
     case atStart => exact ⟨i0, i0 + 1, xs, rfl, by go_num, HK0.out, HR0.out.below HB8.out, Frm.of_below HB8.out⟩
     case round =>
      obtain ⟨i, j, L, rfl, rfl, hk, hr, hfr⟩ := hrel
      have HK := hI hk
      have HR := hI hr
      have HF := hI hfr
      have hij := hk.lt
      have hjn : j ≤ n := by rw [HNN.out]; exact hk.le
      have hLn := hk.len
      rw [← HNN.out] at hLn
      have HL := hI hLn
      clear hk hr hfr hLn
      by_cases hjl : j < n
      · obtain ⟨x, hx⟩ := HX.out j hjl
        have HXJ := hI hx
        have b0 : (0 : Int) ≤ (j : Int) := by omega
        have b1 : (j : Int) < (n : Int) := by omega
        have b2 : (0 : Int) ≤ (i : Int) := by omega
        have b3 : (i : Int) < (n : Int) := by omega
        have HRJ := hI (HR.out.at' Kn.vs_length (HK.out.at' hx))
        clear hx
        obtain ⟨wa, hwa⟩ : ∃ wa, wa = wr.alloc (.cells #[.string ⟨#[]⟩, .string ⟨#[]⟩, .string ⟨#[]⟩] 61 (0, 0)) := ⟨_, rfl⟩
        obtain ⟨q, hq⟩ : ∃ q, q = wr.heap.size := ⟨_, rfl⟩
        have SA := hI (show St 61 q #[.string ⟨#[]⟩, .string ⟨#[]⟩, .string ⟨#[]⟩] wa from by rw [hwa, hq]; exact St.new _ _ _)
        have FA := hI (show Frm (fun j => j = b) w wa from by rw [hwa]; exact HF.out.alloc _)
        have hwq : w.heap.size ≤ q := by rw [hq]; exact HF.out.size
        have hbq : b ≠ q := by have := St.lt HR.out; omega
        have HBQ := hI hbq
        have HWQ := hI hwq
        have RA := hI (show Row 61 Kn.vs b L rest wa from by rw [hwa]; exact St.alloc HR.out _)
        have HRA := hI (RA.out.at' Kn.vs_length (HK.out.at' HXJ.out))
        have HWA := hI hwa
        have HQ := hI hq
        clear hwa hq hbq hwq
        obtain ⟨wb, hwb⟩ : ∃ wb, wb = wa.setRow q x.vs.toArray := ⟨_, rfl⟩
        have SB := hI (show St 61 q x.vs.toArray wb from by rw [hwb]; exact St.row SA.out)
        have FB := hI (show Frm (fun j => j = b) w wb from by
         rw [hwb]
         exact FA.out.trans ⟨rfl, rfl, rfl, by simp [World.setRow], fun j hj hn => Go.setRow_other _ _ _ _ (fun e => hn (.inr ⟨by rw [e]; exact HWQ.out, hj⟩))⟩)
        have RB := hI (show Row 61 Kn.vs b L rest wb from by rw [hwb]; exact St.setRow_other RA.out HBQ.out _)
        have HWB := hI hwb
        have HCL := hI (HP.out wb x (FB.out.wide fun j e => by show Value.ownBlock _ = some j; rw [e]; rfl))
        clear hwb
        cases hpx : p x with
        | true =>
         rw [hpx] at HCL
         go_wp2_with (first
          | ((with_reducible show wpList _ _ _ ({ dst := _, op := .load 61 (.tmp 24), type := _, pos := _, after := _, guard := _ } :: _) _ _); refine wpList_load_mid rfl 61 _ rfl b (j * 3) (by first | rfl | simp [Act.eval, Act.put]) x.vs _ HRJ.out Tryz.underlying61 rfl (by kernel_rfl) ?_)
          | ((with_reducible show wpList _ _ _ ({ dst := _, op := .store 61 (.tmp 7) _, type := _, pos := _, after := _, guard := _ } :: _) _ _); rw [← HWA.out, ← HQ.out]; refine wpList_store_st rfl 61 _ _ rfl q x.vs.toArray (by first | rfl | simp [Act.eval, Act.put]) (by first | rfl | simp [Act.eval, Act.put]) _ SA.out (by kernel_rfl) rfl (all_oneCell_toArray (Kn.one x)) ?_; rintro w6 hw6 _; rw [hw6, ← HWB.out]; clear hw6)
          | ((with_reducible show wpList _ _ _ ({ dst := _, op := .load 61 (.tmp 7), type := _, pos := _, after := _, guard := _ } :: _) _ _); refine wpList_load_st rfl 61 _ rfl q (by first | rfl | simp [Act.eval, Act.put]) 61 x.vs.toArray SB.out _ Tryz.underlying61 rfl (by rfl) ?_)
          | ((with_reducible refine HCL.out.mono ?_); rintro e w9 ⟨rfl, hb⟩; have HB9 := hI hb; clear hb))
         go_roundw
         case rel => exact ⟨i, j + 1, L, rfl, by go_num, HK.out.skip HXJ.out hpx, RB.out.below HB9.out, FB.out.next (Frm.of_below HB9.out)⟩
         case measure => simp [intOf]; omega
        | false =>
         rw [hpx] at HCL
         go_wp2_with (first
          | ((with_reducible show wpList _ _ _ ({ dst := _, op := .load 61 (.tmp 24), type := _, pos := _, after := _, guard := _ } :: _) _ _); refine wpList_load_mid rfl 61 _ rfl b (j * 3) (by first | rfl | simp [Act.eval, Act.put]) x.vs _ HRJ.out Tryz.underlying61 rfl (by kernel_rfl) ?_)
          | ((with_reducible show wpList _ _ _ ({ dst := _, op := .store 61 (.tmp 7) _, type := _, pos := _, after := _, guard := _ } :: _) _ _); rw [← HWA.out, ← HQ.out]; refine wpList_store_st rfl 61 _ _ rfl q x.vs.toArray (by first | rfl | simp [Act.eval, Act.put]) (by first | rfl | simp [Act.eval, Act.put]) _ SA.out (by kernel_rfl) rfl (all_oneCell_toArray (Kn.one x)) ?_; rintro w6 hw6 _; rw [hw6, ← HWB.out]; clear hw6)
          | ((with_reducible show wpList _ _ _ ({ dst := some 27, op := .load 61 (.tmp 7), type := _, pos := _, after := _, guard := _ } :: _) _ _); refine wpList_load_st rfl 61 _ rfl q (by first | rfl | simp [Act.eval, Act.put]) 61 x.vs.toArray SB.out _ Tryz.underlying61 rfl (by rfl) ?_)
          | ((with_reducible refine HCL.out.mono ?_); rintro e w9 ⟨rfl, hb⟩; have HB9 := hI hb; have R9 := hI (RB.out.below hb); have S9 := hI (SB.out.below hb); have F9 := hI (FB.out.next (Frm.of_below hb)); clear hb)
          | ((with_reducible show wpList _ _ _ ({ dst := some 32, op := .load 61 (.tmp 7), type := _, pos := _, after := _, guard := _ } :: _) _ _); refine wpList_load_st rfl 61 _ rfl q (by first | rfl | simp [Act.eval, Act.put]) 61 x.vs.toArray S9.out _ Tryz.underlying61 rfl (by rfl) ?_)
          | ((with_reducible show wpList _ _ _ ({ dst := _, op := .store 61 (.tmp 33) _, type := _, pos := _, after := _, guard := _ } :: _) _ _); refine wpList_store_mid rfl 61 _ _ rfl b (i * 3) x.vs.toArray (by first | rfl | simp [Act.eval, Act.put]) (by first | rfl | simp [Act.eval, Act.put]) (R9.out.there Kn.vs_length (by rw [HL.out]; omega)) (by kernel_rfl) (all_oneCell_toArray (Kn.one x)) ?_; have R7 := hI (R9.out.set Kn.vs_length x (show i < L.length from by rw [HL.out]; omega)); have F7 := hI (Frm.cells' (F := fun j => j = b) (g := b) (.inl rfl) x.vs (i * 3) _ F9.out)))
         go_roundw
         case rel => exact ⟨i + 1, j + 1, L.set i x, by go_num, by go_num, HK.out.keep HXJ.out hpx, R7.out, F7.out⟩
         case measure => simp [intOf]; omega
      · obtain rfl : j = n := by omega
        have b1 : ¬ (j : Int) < (j : Int) := by omega
        have b2 : (0 : Int) ≤ (i : Int) := by omega
        have b3 : (i : Int) ≤ (j : Int) := by omega
        have b4 : ¬ cap = i := by omega
        have hzs := zeroCells_size (.agg #[.string ⟨#[]⟩, .string ⟨#[]⟩, .string ⟨#[]⟩] : Value).cells (j - i)
        obtain ⟨zs, hzz⟩ : ∃ zs, zs = (Builtin.zeroCells (.agg #[.string ⟨#[]⟩, .string ⟨#[]⟩, .string ⟨#[]⟩] : Value).cells (j - i)).toList := ⟨_, rfl⟩
        have hcl : ∀ ty, (Builtin.clear_ #[24] ty #[.slice (some ⟨b, i * 3, none⟩) (j - i) (cap - i)]).run Tryz.prog wr = .ok (.tuple #[]) (wr.setCells b (i * 3) zs) := fun ty => by
         rw [hzz]
         exact run_clear_k wr _ 61 ty (.agg #[.string ⟨#[]⟩, .string ⟨#[]⟩, .string ⟨#[]⟩]) 3 Tryz.underlying24 hv0 rfl (by decide) b (i * 3) (j - i) (cap - i) (by omega) (HR.out.range Kn.vs_length (by rw [HL.out, ← Nat.add_mul]; exact Nat.mul_le_mul_right _ (by omega)))
        obtain ⟨rest', hr2, hc2⟩ := HR.out.clear Kn.vs_length (i := i) (by rw [HL.out]; omega) zs (by rw [hzz, Array.length_toList, hzs, HL.out]; rfl)
        obtain ⟨wc, hwc⟩ : ∃ wc, wc = wr.setCells b (i * 3) zs := ⟨_, rfl⟩
        have FC := hI (show Frm (fun j => j = b) w wc from by rw [hwc]; exact Frm.cells' (F := fun j => j = b) (g := b) (.inl rfl) zs _ _ HF.out)
        rw [← hwc] at hr2 hcl
        have RC := hI hr2
        have CC := hI hc2
        clear hr2 hc2 hwc hzs hzz
        go_wp2
        go_ret
        have hk2 := HK.out
        rw [HNN.out] at hk2
        obtain ⟨e1, e2⟩ := hk2.done
        have hli : (L.take i).length = i := by rw [List.length_take, HL.out]; omega
        refine ⟨_, rfl, ?_, FC.out.wide fun j e => by show Value.ownBlock _ = some j; rw [e]; rfl⟩
        have := RC.out.own Kn.vs_length (B := B) (cap := cap) HB.out (by rw [CC.out, HL.out]; exact HCC.out) (by omega) HM2.out
        rw [hli, e1] at this
        exact this
set_option maxRecDepth 100000 in
set_option maxHeartbeats 1000000 in
theorem sxDelPlaced_any {B : Nat} (v : Value) (xs : List Bk) (p : Bk → Bool) (g : Nat) (lb : Array Value) (w : World) (h : OwnAt 66 3 Bk.vs B v xs w) (hm : xs.length ≤ 1073741823) (eg : ∀ args w, (callFunc g args).run Tryz.prog w = .ok (.enter g args) w) (hp : PredW Tryz.prog g lb Bk.vs p (fun j => v.ownBlock = some j) w) :
 Calls Tryz.prog 160 #[v, .func (.func g) #[] lb] w fun e w' => ∃ v', e = .returned v' ∧ OwnAt 66 3 Bk.vs B v' (xs.filter fun x => !p x) w' ∧ Frm (fun j => v.ownBlock = some j) w w' := by
 have HC := hI (sxIdxPlaced_any v xs p g lb _ w (h.rows Bk.vs_length) eg hp)
 have hv0 : ∀ (w : World), (zeroValue 66).run Tryz.prog w = .ok (.agg #[.string ⟨#[]⟩, .int .i64 0, .int .i64 0]) w := fun w => Tryz.zeroValue66 w
 rcases fnd_cases p xs with ⟨hf, hall⟩ | ⟨i0, x0, hf, hx0, hp0, hn0⟩
 · rw [hf] at HC
   rw [filter_none hall]
   have HO := hI h
   obtain ⟨ao, n, cap, rfl⟩ := h.slice
   clear h hall hf hp hv0
   go_enter Tryz.func160, Tryz.ntmps160
   go_wp2_with ((with_reducible refine HC.out.mono ?_); rintro e w9 ⟨rfl, hb⟩; have HB9 := hI hb; clear hb)
   go_returns
   exact ⟨_, rfl, HO.out.below HB9.out, Frm.of_below HB9.out⟩
 · rw [hf] at HC
   have HK0 := hI (Kept.start hx0 hp0 hn0)
   have hi0 := (List.getElem?_eq_some_iff.1 hx0).1
   rcases h.open with ⟨_, rfl⟩ | ⟨b, cap, rest, rfl, hB, hl, hm2, hc, hrow⟩
   · simp at hi0
   · have HB := hI hB
     have HR0 := hI hrow
     have hlt := St.lt hrow
     have HP := hI hp
     obtain ⟨n, hn⟩ : ∃ n, n = xs.length := ⟨_, rfl⟩
     have HNN := hI hn
     rw [← hn] at hl hm hi0 HC hc
     have HCC := hI hc
     have HM2 := hI hm2
     have d0 : ((i0 : Int) == -1) = false := beq_eq_false_iff_ne.2 (by omega)
     have HX := hI (show ∀ j, j < n → ∃ x, xs[j]? = some x from fun j hj => ⟨_, List.getElem?_eq_getElem (by rw [← HNN.out]; exact hj)⟩)
     clear h hx0 hp0 hn0 hf hB hrow hp hn hc hm2
     rw [show (Value.slice (some ⟨b, 0, none⟩) xs.length cap) = Value.slice (some ⟨b, 0, none⟩) n cap from by rw [HNN.out]] at HP ⊢
     go_enter Tryz.func160, Tryz.ntmps160
     go_wp2_with ((with_reducible refine HC.out.mono ?_); rintro e w8 ⟨rfl, hb⟩; have HB8 := hI hb; clear hb)
     go_loopw [5, 6, 7] (fun s5 s6 _ wr => ∃ (i j : Nat) (L : List Bk), s5 = .int .i64 i ∧ s6 = .int .i64 j ∧ Kept p xs i j L ∧ Row 66 Bk.vs b L rest wr ∧ Frm (fun j => j = b) w wr) (fun _ s6 _ _ => n - (intOf s6).toNat)
     case atStart => exact ⟨i0, i0 + 1, xs, rfl, by go_num, HK0.out, HR0.out.below HB8.out, Frm.of_below HB8.out⟩
     case round =>
      obtain ⟨i, j, L, rfl, rfl, hk, hr, hfr⟩ := hrel
      have HK := hI hk
      have HR := hI hr
      have HF := hI hfr
      have hij := hk.lt
      have hjn : j ≤ n := by rw [HNN.out]; exact hk.le
      have hLn := hk.len
      rw [← HNN.out] at hLn
      have HL := hI hLn
      clear hk hr hfr hLn
      by_cases hjl : j < n
      · obtain ⟨x, hx⟩ := HX.out j hjl
        have HXJ := hI hx
        have b0 : (0 : Int) ≤ (j : Int) := by omega
        have b1 : (j : Int) < (n : Int) := by omega
        have b2 : (0 : Int) ≤ (i : Int) := by omega
        have b3 : (i : Int) < (n : Int) := by omega
        have HRJ := hI (HR.out.at' Bk.vs_length (HK.out.at' hx))
        clear hx
        obtain ⟨wa, hwa⟩ : ∃ wa, wa = wr.alloc (.cells #[.string ⟨#[]⟩, .int .i64 0, .int .i64 0] 66 (0, 0)) := ⟨_, rfl⟩
        obtain ⟨q, hq⟩ : ∃ q, q = wr.heap.size := ⟨_, rfl⟩
        have SA := hI (show St 66 q #[.string ⟨#[]⟩, .int .i64 0, .int .i64 0] wa from by rw [hwa, hq]; exact St.new _ _ _)
        have FA := hI (show Frm (fun j => j = b) w wa from by rw [hwa]; exact HF.out.alloc _)
        have hwq : w.heap.size ≤ q := by rw [hq]; exact HF.out.size
        have hbq : b ≠ q := by have := St.lt HR.out; omega
        have HBQ := hI hbq
        have HWQ := hI hwq
        have RA := hI (show Row 66 Bk.vs b L rest wa from by rw [hwa]; exact St.alloc HR.out _)
        have HRA := hI (RA.out.at' Bk.vs_length (HK.out.at' HXJ.out))
        have HWA := hI hwa
        have HQ := hI hq
        clear hwa hq hbq hwq
        obtain ⟨wb, hwb⟩ : ∃ wb, wb = wa.setRow q x.vs.toArray := ⟨_, rfl⟩
        have SB := hI (show St 66 q x.vs.toArray wb from by rw [hwb]; exact St.row SA.out)
        have FB := hI (show Frm (fun j => j = b) w wb from by
         rw [hwb]
         exact FA.out.trans ⟨rfl, rfl, rfl, by simp [World.setRow], fun j hj hn => Go.setRow_other _ _ _ _ (fun e => hn (.inr ⟨by rw [e]; exact HWQ.out, hj⟩))⟩)
        have RB := hI (show Row 66 Bk.vs b L rest wb from by rw [hwb]; exact St.setRow_other RA.out HBQ.out _)
        have HWB := hI hwb
        have HCL := hI (HP.out wb x (FB.out.wide fun j e => by show Value.ownBlock _ = some j; rw [e]; rfl))
        clear hwb
        cases hpx : p x with
        | true =>
         rw [hpx] at HCL
         go_wp2_with (first
          | ((with_reducible show wpList _ _ _ ({ dst := _, op := .load 66 (.tmp 24), type := _, pos := _, after := _, guard := _ } :: _) _ _); refine wpList_load_mid rfl 66 _ rfl b (j * 3) (by first | rfl | simp [Act.eval, Act.put]) x.vs _ HRJ.out Tryz.underlying66 rfl (by kernel_rfl) ?_)
          | ((with_reducible show wpList _ _ _ ({ dst := _, op := .store 66 (.tmp 7) _, type := _, pos := _, after := _, guard := _ } :: _) _ _); rw [← HWA.out, ← HQ.out]; refine wpList_store_st rfl 66 _ _ rfl q x.vs.toArray (by first | rfl | simp [Act.eval, Act.put]) (by first | rfl | simp [Act.eval, Act.put]) _ SA.out (by kernel_rfl) rfl (all_oneCell_toArray (Bk.one x)) ?_; rintro w6 hw6 _; rw [hw6, ← HWB.out]; clear hw6)
          | ((with_reducible show wpList _ _ _ ({ dst := _, op := .load 66 (.tmp 7), type := _, pos := _, after := _, guard := _ } :: _) _ _); refine wpList_load_st rfl 66 _ rfl q (by first | rfl | simp [Act.eval, Act.put]) 66 x.vs.toArray SB.out _ Tryz.underlying66 rfl (by rfl) ?_)
          | ((with_reducible refine HCL.out.mono ?_); rintro e w9 ⟨rfl, hb⟩; have HB9 := hI hb; clear hb))
         go_roundw
         case rel => exact ⟨i, j + 1, L, rfl, by go_num, HK.out.skip HXJ.out hpx, RB.out.below HB9.out, FB.out.next (Frm.of_below HB9.out)⟩
         case measure => simp [intOf]; omega
        | false =>
         rw [hpx] at HCL
         go_wp2_with (first
          | ((with_reducible show wpList _ _ _ ({ dst := _, op := .load 66 (.tmp 24), type := _, pos := _, after := _, guard := _ } :: _) _ _); refine wpList_load_mid rfl 66 _ rfl b (j * 3) (by first | rfl | simp [Act.eval, Act.put]) x.vs _ HRJ.out Tryz.underlying66 rfl (by kernel_rfl) ?_)
          | ((with_reducible show wpList _ _ _ ({ dst := _, op := .store 66 (.tmp 7) _, type := _, pos := _, after := _, guard := _ } :: _) _ _); rw [← HWA.out, ← HQ.out]; refine wpList_store_st rfl 66 _ _ rfl q x.vs.toArray (by first | rfl | simp [Act.eval, Act.put]) (by first | rfl | simp [Act.eval, Act.put]) _ SA.out (by kernel_rfl) rfl (all_oneCell_toArray (Bk.one x)) ?_; rintro w6 hw6 _; rw [hw6, ← HWB.out]; clear hw6)
          | ((with_reducible show wpList _ _ _ ({ dst := some 27, op := .load 66 (.tmp 7), type := _, pos := _, after := _, guard := _ } :: _) _ _); refine wpList_load_st rfl 66 _ rfl q (by first | rfl | simp [Act.eval, Act.put]) 66 x.vs.toArray SB.out _ Tryz.underlying66 rfl (by rfl) ?_)
          | ((with_reducible refine HCL.out.mono ?_); rintro e w9 ⟨rfl, hb⟩; have HB9 := hI hb; have R9 := hI (RB.out.below hb); have S9 := hI (SB.out.below hb); have F9 := hI (FB.out.next (Frm.of_below hb)); clear hb)
          | ((with_reducible show wpList _ _ _ ({ dst := some 32, op := .load 66 (.tmp 7), type := _, pos := _, after := _, guard := _ } :: _) _ _); refine wpList_load_st rfl 66 _ rfl q (by first | rfl | simp [Act.eval, Act.put]) 66 x.vs.toArray S9.out _ Tryz.underlying66 rfl (by rfl) ?_)
          | ((with_reducible show wpList _ _ _ ({ dst := _, op := .store 66 (.tmp 33) _, type := _, pos := _, after := _, guard := _ } :: _) _ _); refine wpList_store_mid rfl 66 _ _ rfl b (i * 3) x.vs.toArray (by first | rfl | simp [Act.eval, Act.put]) (by first | rfl | simp [Act.eval, Act.put]) (R9.out.there Bk.vs_length (by rw [HL.out]; omega)) (by kernel_rfl) (all_oneCell_toArray (Bk.one x)) ?_; have R7 := hI (R9.out.set Bk.vs_length x (show i < L.length from by rw [HL.out]; omega)); have F7 := hI (Frm.cells' (F := fun j => j = b) (g := b) (.inl rfl) x.vs (i * 3) _ F9.out)))
         go_roundw
         case rel => exact ⟨i + 1, j + 1, L.set i x, by go_num, by go_num, HK.out.keep HXJ.out hpx, R7.out, F7.out⟩
         case measure => simp [intOf]; omega
      · obtain rfl : j = n := by omega
        have b1 : ¬ (j : Int) < (j : Int) := by omega
        have b2 : (0 : Int) ≤ (i : Int) := by omega
        have b3 : (i : Int) ≤ (j : Int) := by omega
        have b4 : ¬ cap = i := by omega
        have hzs := zeroCells_size (.agg #[.string ⟨#[]⟩, .int .i64 0, .int .i64 0] : Value).cells (j - i)
        obtain ⟨zs, hzz⟩ : ∃ zs, zs = (Builtin.zeroCells (.agg #[.string ⟨#[]⟩, .int .i64 0, .int .i64 0] : Value).cells (j - i)).toList := ⟨_, rfl⟩
        have hcl : ∀ ty, (Builtin.clear_ #[25] ty #[.slice (some ⟨b, i * 3, none⟩) (j - i) (cap - i)]).run Tryz.prog wr = .ok (.tuple #[]) (wr.setCells b (i * 3) zs) := fun ty => by
         rw [hzz]
         exact run_clear_k wr _ 66 ty (.agg #[.string ⟨#[]⟩, .int .i64 0, .int .i64 0]) 3 Tryz.underlying25 hv0 rfl (by decide) b (i * 3) (j - i) (cap - i) (by omega) (HR.out.range Bk.vs_length (by rw [HL.out, ← Nat.add_mul]; exact Nat.mul_le_mul_right _ (by omega)))
        obtain ⟨rest', hr2, hc2⟩ := HR.out.clear Bk.vs_length (i := i) (by rw [HL.out]; omega) zs (by rw [hzz, Array.length_toList, hzs, HL.out]; rfl)
        obtain ⟨wc, hwc⟩ : ∃ wc, wc = wr.setCells b (i * 3) zs := ⟨_, rfl⟩
        have FC := hI (show Frm (fun j => j = b) w wc from by rw [hwc]; exact Frm.cells' (F := fun j => j = b) (g := b) (.inl rfl) zs _ _ HF.out)
        rw [← hwc] at hr2 hcl
        have RC := hI hr2
        have CC := hI hc2
        clear hr2 hc2 hwc hzs hzz
        go_wp2
        go_ret
        have hk2 := HK.out
        rw [HNN.out] at hk2
        obtain ⟨e1, e2⟩ := hk2.done
        have hli : (L.take i).length = i := by rw [List.length_take, HL.out]; omega
        refine ⟨_, rfl, ?_, FC.out.wide fun j e => by show Value.ownBlock _ = some j; rw [e]; rfl⟩
        have := RC.out.own Bk.vs_length (B := B) (cap := cap) HB.out (by rw [CC.out, HL.out]; exact HCC.out) (by omega) HM2.out
        rw [hli, e1] at this
        exact this
theorem any_short {α : Type} (p : α → Bool) : ∀ xs : List α, decide ((xs.filter fun x => !p x).length < xs.length) = xs.any p
 | [] => rfl
 | x :: xs => by
  have h := List.length_filter_le (fun x => !p x) xs
  rw [List.any_cons, ← any_short p xs]
  cases hp : p x
  · simp [hp]
  · simp [hp]; omega
theorem OwnAt.tag {α : Type} {T : TypeId} {k B : Nat} {f : α → List Value} {v : Value} {xs : List α} {w : World} (h : OwnAt T k f B v xs w) {j : Nat} (hj : v.ownBlock = some j) : ∃ cur, St T j cur w := by
 rcases h.2 with ⟨rfl, _⟩ | ⟨g, cap, cur, rfl, _, hg, _⟩
 · cases hj
 · cases hj
   exact ⟨cur, hg⟩
theorem St.tag {T T' : TypeId} {j : Nat} {c c' : Array Value} {w : World} (h : St T j c w) (h' : St T' j c' w) : T = T' := by
 unfold St at h h'
 rw [h] at h'
 cases h'
 rfl
theorem St.frm {F : Nat → Prop} {T : TypeId} {j : Nat} {c : Array Value} {w w' : World} (h : St T j c w) (hF : Frm F w w') (hn : ¬ F j) : St T j c w' := hF.st h hn
set_option maxRecDepth 100000 in
set_option maxHeartbeats 400000 in
theorem inDropHeld_any {B b : Nat} (v1 v2 v3 v4 : Value) (xs : List Hd) (p : Hd → Bool) (g : Nat) (lb : Array Value) (w : World) (h : OwnAt 49 3 Hd.vs B v1 xs w) (hs : St 27 b #[v1, v2, v3, v4] w) (hm : xs.length ≤ 1073741823) (eg : ∀ args w, (callFunc g args).run Tryz.prog w = .ok (.enter g args) w) (hp : PredW Tryz.prog g lb Hd.vs p (fun j => v1.ownBlock = some j) w) :
 Calls Tryz.prog 113 #[.pointer (some ⟨b, 0, none⟩), .func (.func g) #[] lb] w fun e w' => ∃ v', e = .returned (.bool (xs.any p)) ∧ OwnAt 49 3 Hd.vs B v' (xs.filter fun x => !p x) w' ∧ St 27 b #[v', v2, v3, v4] w' ∧ Frm (fun j => v1.ownBlock = some j ∨ j = b) w w' := by
 have hne : ¬ (v1.ownBlock = some b) := fun e => by
  obtain ⟨cur, hc⟩ := h.tag e
  have := St.tag hc hs
  exact absurd this (by decide)
 have HC := hI (sxDelHeld_any v1 xs p g lb w h hm eg hp)
 rw [← any_short]
 obtain ⟨ys, hys⟩ : ∃ ys, ys = xs.filter fun x => !p x := ⟨_, rfl⟩
 rw [← hys] at HC ⊢
 obtain ⟨n, hn⟩ : ∃ n, n = xs.length := ⟨_, rfl⟩
 obtain ⟨m, hm⟩ : ∃ m, m = ys.length := ⟨_, rfl⟩
 have HM := hI hm
 rw [← hm, ← hn]
 obtain ⟨ao, cap, rfl⟩ : ∃ ao cap, v1 = .slice ao n cap := by
  rcases h.2 with ⟨e, e0⟩ | ⟨g, cap, cur, e, _⟩
  · exact ⟨none, 0, by rw [hn, e0]; exact e⟩
  · exact ⟨_, cap, by rw [hn]; exact e⟩
 have HS := hI hs
 have HNE := hI hne
 have c0 : w.cell? ⟨b, 0, none⟩ = some (.slice ao n cap) := hs.cell rfl
 clear h hp hs hn hm hys hne
 go_enter Tryz.func113, Tryz.ntmps113
 go_wp2_with ((with_reducible refine HC.out.mono ?_); rintro e w9 ⟨v', rfl, ho, hf⟩; obtain ⟨a2, n2, c2, rfl⟩ := ho.slice; have HO := hI ho; have HF := hI hf; have S9 := hI (HS.out.frm hf HNE.out); have c9 : w9.cell? ⟨b, 0, none⟩ = some (.slice ao n cap) := S9.out.cell rfl; have f9 := S9.out.free 0; clear ho hf)
 go_ret
 have hn2 : n2 = m := by
  rcases HO.out.2 with ⟨e, e0⟩ | ⟨g, cap, cur, e, _⟩
  · cases e; rw [HM.out, e0]
  · cases e; rw [HM.out]
 have FS : Frm (fun j => j = b) w9 (w9.setCell ⟨b, 0, none⟩ (.slice a2 n2 c2)) := Frm.setCell (F := fun j => j = b) (Frm.refl _ _) (.inl rfl) _
 refine ⟨.slice a2 n2 c2, by rw [hn2]; rfl, ?_, S9.out.set 0 _, (HF.out.wide fun j e => .inl e).next (FS.wide fun j e => .inr e)⟩
 refine FS.own HO.out fun j hj e => ?_
 subst e
 obtain ⟨cur, hc⟩ := HO.out.tag hj
 exact absurd (St.tag hc S9.out) (by decide)
set_option maxRecDepth 100000 in
set_option maxHeartbeats 400000 in
theorem inDropCached_any {B b : Nat} (v1 v2 v3 v4 : Value) (xs : List Cd) (p : Cd → Bool) (g : Nat) (lb : Array Value) (w : World) (h : OwnAt 57 11 Cd.vs B v2 xs w) (hs : St 27 b #[v1, v2, v3, v4] w) (hm : xs.length ≤ 1073741823) (eg : ∀ args w, (callFunc g args).run Tryz.prog w = .ok (.enter g args) w) (hp : PredW Tryz.prog g lb Cd.vs p (fun j => v2.ownBlock = some j) w) :
 Calls Tryz.prog 116 #[.pointer (some ⟨b, 1, none⟩), .func (.func g) #[] lb] w fun e w' => ∃ v', e = .returned (.bool (xs.any p)) ∧ OwnAt 57 11 Cd.vs B v' (xs.filter fun x => !p x) w' ∧ St 27 b #[v1, v', v3, v4] w' ∧ Frm (fun j => v2.ownBlock = some j ∨ j = b) w w' := by
 have hne : ¬ (v2.ownBlock = some b) := fun e => by
  obtain ⟨cur, hc⟩ := h.tag e
  have := St.tag hc hs
  exact absurd this (by decide)
 have HC := hI (sxDelCached_any v2 xs p g lb w h hm eg hp)
 rw [← any_short]
 obtain ⟨ys, hys⟩ : ∃ ys, ys = xs.filter fun x => !p x := ⟨_, rfl⟩
 rw [← hys] at HC ⊢
 obtain ⟨n, hn⟩ : ∃ n, n = xs.length := ⟨_, rfl⟩
 obtain ⟨m, hm⟩ : ∃ m, m = ys.length := ⟨_, rfl⟩
 have HM := hI hm
 rw [← hm, ← hn]
 obtain ⟨ao, cap, rfl⟩ : ∃ ao cap, v2 = .slice ao n cap := by
  rcases h.2 with ⟨e, e0⟩ | ⟨g, cap, cur, e, _⟩
  · exact ⟨none, 0, by rw [hn, e0]; exact e⟩
  · exact ⟨_, cap, by rw [hn]; exact e⟩
 have HS := hI hs
 have HNE := hI hne
 have c0 : w.cell? ⟨b, 1, none⟩ = some (.slice ao n cap) := hs.cell rfl
 clear h hp hs hn hm hys hne
 go_enter Tryz.func116, Tryz.ntmps116
 go_wp2_with ((with_reducible refine HC.out.mono ?_); rintro e w9 ⟨v', rfl, ho, hf⟩; obtain ⟨a2, n2, c2, rfl⟩ := ho.slice; have HO := hI ho; have HF := hI hf; have S9 := hI (HS.out.frm hf HNE.out); have c9 : w9.cell? ⟨b, 1, none⟩ = some (.slice ao n cap) := S9.out.cell rfl; have f9 := S9.out.free 1; clear ho hf)
 go_ret
 have hn2 : n2 = m := by
  rcases HO.out.2 with ⟨e, e0⟩ | ⟨g, cap, cur, e, _⟩
  · cases e; rw [HM.out, e0]
  · cases e; rw [HM.out]
 have FS : Frm (fun j => j = b) w9 (w9.setCell ⟨b, 1, none⟩ (.slice a2 n2 c2)) := Frm.setCell (F := fun j => j = b) (Frm.refl _ _) (.inl rfl) _
 refine ⟨.slice a2 n2 c2, by rw [hn2]; rfl, ?_, S9.out.set 1 _, (HF.out.wide fun j e => .inl e).next (FS.wide fun j e => .inr e)⟩
 refine FS.own HO.out fun j hj e => ?_
 subst e
 obtain ⟨cur, hc⟩ := HO.out.tag hj
 exact absurd (St.tag hc S9.out) (by decide)
set_option maxRecDepth 100000 in
set_option maxHeartbeats 400000 in
theorem inDropKnown_any {B b : Nat} (v1 v2 v3 v4 : Value) (xs : List Kn) (p : Kn → Bool) (g : Nat) (lb : Array Value) (w : World) (h : OwnAt 61 3 Kn.vs B v3 xs w) (hs : St 27 b #[v1, v2, v3, v4] w) (hm : xs.length ≤ 1073741823) (eg : ∀ args w, (callFunc g args).run Tryz.prog w = .ok (.enter g args) w) (hp : PredW Tryz.prog g lb Kn.vs p (fun j => v3.ownBlock = some j) w) :
 Calls Tryz.prog 118 #[.pointer (some ⟨b, 2, none⟩), .func (.func g) #[] lb] w fun e w' => ∃ v', e = .returned (.bool (xs.any p)) ∧ OwnAt 61 3 Kn.vs B v' (xs.filter fun x => !p x) w' ∧ St 27 b #[v1, v2, v', v4] w' ∧ Frm (fun j => v3.ownBlock = some j ∨ j = b) w w' := by
 have hne : ¬ (v3.ownBlock = some b) := fun e => by
  obtain ⟨cur, hc⟩ := h.tag e
  have := St.tag hc hs
  exact absurd this (by decide)
 have HC := hI (sxDelKnown_any v3 xs p g lb w h hm eg hp)
 rw [← any_short]
 obtain ⟨ys, hys⟩ : ∃ ys, ys = xs.filter fun x => !p x := ⟨_, rfl⟩
 rw [← hys] at HC ⊢
 obtain ⟨n, hn⟩ : ∃ n, n = xs.length := ⟨_, rfl⟩
 obtain ⟨m, hm⟩ : ∃ m, m = ys.length := ⟨_, rfl⟩
 have HM := hI hm
 rw [← hm, ← hn]
 obtain ⟨ao, cap, rfl⟩ : ∃ ao cap, v3 = .slice ao n cap := by
  rcases h.2 with ⟨e, e0⟩ | ⟨g, cap, cur, e, _⟩
  · exact ⟨none, 0, by rw [hn, e0]; exact e⟩
  · exact ⟨_, cap, by rw [hn]; exact e⟩
 have HS := hI hs
 have HNE := hI hne
 have c0 : w.cell? ⟨b, 2, none⟩ = some (.slice ao n cap) := hs.cell rfl
 clear h hp hs hn hm hys hne
 go_enter Tryz.func118, Tryz.ntmps118
 go_wp2_with ((with_reducible refine HC.out.mono ?_); rintro e w9 ⟨v', rfl, ho, hf⟩; obtain ⟨a2, n2, c2, rfl⟩ := ho.slice; have HO := hI ho; have HF := hI hf; have S9 := hI (HS.out.frm hf HNE.out); have c9 : w9.cell? ⟨b, 2, none⟩ = some (.slice ao n cap) := S9.out.cell rfl; have f9 := S9.out.free 2; clear ho hf)
 go_ret
 have hn2 : n2 = m := by
  rcases HO.out.2 with ⟨e, e0⟩ | ⟨g, cap, cur, e, _⟩
  · cases e; rw [HM.out, e0]
  · cases e; rw [HM.out]
 have FS : Frm (fun j => j = b) w9 (w9.setCell ⟨b, 2, none⟩ (.slice a2 n2 c2)) := Frm.setCell (F := fun j => j = b) (Frm.refl _ _) (.inl rfl) _
 refine ⟨.slice a2 n2 c2, by rw [hn2]; rfl, ?_, S9.out.set 2 _, (HF.out.wide fun j e => .inl e).next (FS.wide fun j e => .inr e)⟩
 refine FS.own HO.out fun j hj e => ?_
 subst e
 obtain ⟨cur, hc⟩ := HO.out.tag hj
 exact absurd (St.tag hc S9.out) (by decide)
set_option maxRecDepth 100000 in
set_option maxHeartbeats 400000 in
theorem inDropPlaced_any {B b : Nat} (v1 v2 v3 v4 : Value) (xs : List Bk) (p : Bk → Bool) (g : Nat) (lb : Array Value) (w : World) (h : OwnAt 66 3 Bk.vs B v4 xs w) (hs : St 27 b #[v1, v2, v3, v4] w) (hm : xs.length ≤ 1073741823) (eg : ∀ args w, (callFunc g args).run Tryz.prog w = .ok (.enter g args) w) (hp : PredW Tryz.prog g lb Bk.vs p (fun j => v4.ownBlock = some j) w) :
 Calls Tryz.prog 120 #[.pointer (some ⟨b, 3, none⟩), .func (.func g) #[] lb] w fun e w' => ∃ v', e = .returned (.bool (xs.any p)) ∧ OwnAt 66 3 Bk.vs B v' (xs.filter fun x => !p x) w' ∧ St 27 b #[v1, v2, v3, v'] w' ∧ Frm (fun j => v4.ownBlock = some j ∨ j = b) w w' := by
 have hne : ¬ (v4.ownBlock = some b) := fun e => by
  obtain ⟨cur, hc⟩ := h.tag e
  have := St.tag hc hs
  exact absurd this (by decide)
 have HC := hI (sxDelPlaced_any v4 xs p g lb w h hm eg hp)
 rw [← any_short]
 obtain ⟨ys, hys⟩ : ∃ ys, ys = xs.filter fun x => !p x := ⟨_, rfl⟩
 rw [← hys] at HC ⊢
 obtain ⟨n, hn⟩ : ∃ n, n = xs.length := ⟨_, rfl⟩
 obtain ⟨m, hm⟩ : ∃ m, m = ys.length := ⟨_, rfl⟩
 have HM := hI hm
 rw [← hm, ← hn]
 obtain ⟨ao, cap, rfl⟩ : ∃ ao cap, v4 = .slice ao n cap := by
  rcases h.2 with ⟨e, e0⟩ | ⟨g, cap, cur, e, _⟩
  · exact ⟨none, 0, by rw [hn, e0]; exact e⟩
  · exact ⟨_, cap, by rw [hn]; exact e⟩
 have HS := hI hs
 have HNE := hI hne
 have c0 : w.cell? ⟨b, 3, none⟩ = some (.slice ao n cap) := hs.cell rfl
 clear h hp hs hn hm hys hne
 go_enter Tryz.func120, Tryz.ntmps120
 go_wp2_with ((with_reducible refine HC.out.mono ?_); rintro e w9 ⟨v', rfl, ho, hf⟩; obtain ⟨a2, n2, c2, rfl⟩ := ho.slice; have HO := hI ho; have HF := hI hf; have S9 := hI (HS.out.frm hf HNE.out); have c9 : w9.cell? ⟨b, 3, none⟩ = some (.slice ao n cap) := S9.out.cell rfl; have f9 := S9.out.free 3; clear ho hf)
 go_ret
 have hn2 : n2 = m := by
  rcases HO.out.2 with ⟨e, e0⟩ | ⟨g, cap, cur, e, _⟩
  · cases e; rw [HM.out, e0]
  · cases e; rw [HM.out]
 have FS : Frm (fun j => j = b) w9 (w9.setCell ⟨b, 3, none⟩ (.slice a2 n2 c2)) := Frm.setCell (F := fun j => j = b) (Frm.refl _ _) (.inl rfl) _
 refine ⟨.slice a2 n2 c2, by rw [hn2]; rfl, ?_, S9.out.set 3 _, (HF.out.wide fun j e => .inl e).next (FS.wide fun j e => .inr e)⟩
 refine FS.own HO.out fun j hj e => ?_
 subst e
 obtain ⟨cur, hc⟩ := HO.out.tag hj
 exact absurd (St.tag hc S9.out) (by decide)
end Go.Proofs.YtngfknplljedeaaGreat
namespace Go.Proofs.YtngfknplljedeaaGreat
open Go.RowKit
section
variable {α : Type}
theorem RowsAt.cells {B k : Nat} {f : α → List Value} {xs : List α} {w : World} {b off cap n : Nat} (hf : ∀ x, (f x).length = k) (h : RowsAt B k f (.slice (some ⟨b, off, none⟩) n cap) xs w) : ∀ j u, (xs.flatMap f)[j]? = some u → w.cell? ((⟨b, off, none⟩ : Addr).add j) = some u := by
 obtain ⟨ao, cap2, b2, off2, e, _, hao, hx⟩ := h
 intro j u hu
 have h0 : 0 < xs.length := by
  cases xs with
  | nil => simp at hu
  | cons x xs => simp
 obtain ⟨e2, _⟩ := hao h0
 rw [e2] at e
 cases e
 have := rows_part hf hx 0 xs.length j u (by rwa [List.drop_zero, List.take_length])
 rw [Nat.zero_mul, Nat.add_zero] at this
 rw [Addr.add_mid]
 exact this
end
end Go.Proofs.YtngfknplljedeaaGreat
namespace Go.Proofs.YtngfknplljedeaaGreat
open Go.RowKit
theorem Hd.flat_one (xs : List Hd) : ∀ u ∈ xs.flatMap Hd.vs, u.oneCell' = true := by
 intro u hu
 obtain ⟨x, _, h⟩ := List.mem_flatMap.1 hu
 exact x.one u h
set_option maxRecDepth 100000 in
set_option maxHeartbeats 400000 in
theorem sxClHeld_any (v : Value) (xs : List Hd) (w : World) (h : RowsAt w.heap.size 3 Hd.vs v xs w) (hm : xs.length ≤ 1073741823) :
 Calls Tryz.prog 66 #[v] w fun e w' => ∃ v', e = .returned v' ∧ OwnAt 49 3 Hd.vs w.heap.size v' xs w' ∧ Below w.heap.size w w' := by
 obtain ⟨iz, hiz, hz0, hz1, hz2⟩ := info_parts Tryz.infoHd
 have q22 : ∀ (w : World) (a : Option Addr) (n c n' c' : Nat), (binOp .eql 22 (.slice a n c) (.slice none n' c')).run Tryz.prog w = .ok (.bool a.isNone) w := fun w a n c n' c' => Lib.run_eql_slice_nil w _ _ a n c n' c' Tryz.underlying22
 obtain ⟨n, hn⟩ : ∃ n, n = xs.length := ⟨_, rfl⟩
 have hl := RowsAt.walk h
 obtain ⟨ao, cap, b, off, rfl, hl, _⟩ := hl
 rw [← hn] at h hl hm ⊢
 cases ao with
 | none =>
  have h0 : xs = [] := by
   obtain ⟨_, _, _, _, e, _, h0, _⟩ := h
   cases e
   cases xs with
   | nil => rfl
   | cons x xs => have := (h0 (by simp)).1; cases this
  have H0 := hI h0
  clear h h0 hn
  go_enter Tryz.func66, Tryz.ntmps66
  go_wp2
  go_ret
  rw [H0.out]
  exact ⟨_, rfl, World.ownsRow_nil _ _ _ _, Below.refl _ _⟩
 | some a =>
  have HC := hI (show ∀ j u, (xs.flatMap Hd.vs)[j]? = some u → w.cell? (a.add j) = some u from fun j u hu => by
   have h2 := h
   obtain ⟨ao, cap2, b2, off2, e, _, hao, hx⟩ := h2
   have h0 : 0 < xs.length := by
    cases xs with
    | nil => simp at hu
    | cons x xs => simp
   obtain ⟨e2, _⟩ := hao h0
   rw [e2] at e
   cases e
   exact RowsAt.cells Hd.vs_length h j u hu)
  have HN := hI hn
  have HL := hI (show (xs.flatMap Hd.vs).length = n * 3 from by rw [hn]; exact flat_length Hd.vs_length xs)
  have H1 := hI (Hd.flat_one xs)
  obtain ⟨news, hnews⟩ : ∃ l, l = xs.flatMap Hd.vs := ⟨_, rfl⟩
  rw [← hnews] at HC HL H1
  have HNW := hI hnews
  clear h hn hnews
  go_enter Tryz.func66, Tryz.ntmps66
  go_wp2_with (at_builtin; refine wpList_append_own _ rfl _ _ 22 rfl w.heap.size 49 iz (.agg #[.int .i64 0, .int .i64 0, .string ⟨#[]⟩]) 3 32 Tryz.underlying22 hiz hz0 hz1 hz2 rfl (by decide) _ 0 [] rfl (World.ownsRow_made w #[] 0 (Nat.le_refl _) (Nat.zero_le _) (by simp)) a n cap news rfl HL.out (fun j u hj => Lib.cell?_alloc_some _ (HC.out j u hj)) H1.out (by unfold maxLen; omega) (by omega) (by simp) ?_; intro v9 w9 h9 g9 _; have R9 := hI h9; have B9 := hI (Below.grown ((Below.refl _ w).alloc (Nat.le_refl _) _) g9 (by simp) (fun j hj => Nat.le_of_eq (Option.some.inj hj))); clear h9 g9)
  go_ret
  refine ⟨_, rfl, ?_, B9.out⟩
  have := R9.out
  rw [HNW.out, HN.out] at this
  unfold OwnAt
  simpa using this
theorem Cd.flat_one (xs : List Cd) : ∀ u ∈ xs.flatMap Cd.vs, u.oneCell' = true := by
 intro u hu
 obtain ⟨x, _, h⟩ := List.mem_flatMap.1 hu
 exact x.one u h
set_option maxRecDepth 100000 in
set_option maxHeartbeats 400000 in
theorem sxClCached_any (v : Value) (xs : List Cd) (w : World) (h : RowsAt w.heap.size 11 Cd.vs v xs w) (hm : xs.length ≤ 1073741823) :
 Calls Tryz.prog 67 #[v] w fun e w' => ∃ v', e = .returned v' ∧ OwnAt 57 11 Cd.vs w.heap.size v' xs w' ∧ Below w.heap.size w w' := by
 obtain ⟨iz, hiz, hz0, hz1, hz2⟩ := info_parts Tryz.infoCd
 have q22 : ∀ (w : World) (a : Option Addr) (n c n' c' : Nat), (binOp .eql 23 (.slice a n c) (.slice none n' c')).run Tryz.prog w = .ok (.bool a.isNone) w := fun w a n c n' c' => Lib.run_eql_slice_nil w _ _ a n c n' c' Tryz.underlying23
 obtain ⟨n, hn⟩ : ∃ n, n = xs.length := ⟨_, rfl⟩
 have hl := RowsAt.walk h
 obtain ⟨ao, cap, b, off, rfl, hl, _⟩ := hl
 rw [← hn] at h hl hm ⊢
 cases ao with
 | none =>
  have h0 : xs = [] := by
   obtain ⟨_, _, _, _, e, _, h0, _⟩ := h
   cases e
   cases xs with
   | nil => rfl
   | cons x xs => have := (h0 (by simp)).1; cases this
  have H0 := hI h0
  clear h h0 hn
  go_enter Tryz.func67, Tryz.ntmps67
  go_wp2
  go_ret
  rw [H0.out]
  exact ⟨_, rfl, World.ownsRow_nil _ _ _ _, Below.refl _ _⟩
 | some a =>
  have HC := hI (show ∀ j u, (xs.flatMap Cd.vs)[j]? = some u → w.cell? (a.add j) = some u from fun j u hu => by
   have h2 := h
   obtain ⟨ao, cap2, b2, off2, e, _, hao, hx⟩ := h2
   have h0 : 0 < xs.length := by
    cases xs with
    | nil => simp at hu
    | cons x xs => simp
   obtain ⟨e2, _⟩ := hao h0
   rw [e2] at e
   cases e
   exact RowsAt.cells Cd.vs_length h j u hu)
  have HN := hI hn
  have HL := hI (show (xs.flatMap Cd.vs).length = n * 11 from by rw [hn]; exact flat_length Cd.vs_length xs)
  have H1 := hI (Cd.flat_one xs)
  obtain ⟨news, hnews⟩ : ∃ l, l = xs.flatMap Cd.vs := ⟨_, rfl⟩
  rw [← hnews] at HC HL H1
  have HNW := hI hnews
  clear h hn hnews
  go_enter Tryz.func67, Tryz.ntmps67
  go_wp2_with (at_builtin; refine wpList_append_own _ rfl _ _ 23 rfl w.heap.size 57 iz (.agg #[.string ⟨#[]⟩, .int .i64 0, .int .i64 0, .int .i64 0, .int .i64 0, .int .i64 0, .int .i64 0, .int .i64 0, .int .i64 0, .int .i64 0, .int .i64 0]) 11 96 Tryz.underlying23 hiz hz0 hz1 hz2 rfl (by decide) _ 0 [] rfl (World.ownsRow_made w #[] 0 (Nat.le_refl _) (Nat.zero_le _) (by simp)) a n cap news rfl HL.out (fun j u hj => Lib.cell?_alloc_some _ (HC.out j u hj)) H1.out (by unfold maxLen; omega) (by omega) (by simp) ?_; intro v9 w9 h9 g9 _; have R9 := hI h9; have B9 := hI (Below.grown ((Below.refl _ w).alloc (Nat.le_refl _) _) g9 (by simp) (fun j hj => Nat.le_of_eq (Option.some.inj hj))); clear h9 g9)
  go_ret
  refine ⟨_, rfl, ?_, B9.out⟩
  have := R9.out
  rw [HNW.out, HN.out] at this
  unfold OwnAt
  simpa using this
theorem Kn.flat_one (xs : List Kn) : ∀ u ∈ xs.flatMap Kn.vs, u.oneCell' = true := by
 intro u hu
 obtain ⟨x, _, h⟩ := List.mem_flatMap.1 hu
 exact x.one u h
set_option maxRecDepth 100000 in
set_option maxHeartbeats 400000 in
theorem sxClKnown_any (v : Value) (xs : List Kn) (w : World) (h : RowsAt w.heap.size 3 Kn.vs v xs w) (hm : xs.length ≤ 1073741823) :
 Calls Tryz.prog 68 #[v] w fun e w' => ∃ v', e = .returned v' ∧ OwnAt 61 3 Kn.vs w.heap.size v' xs w' ∧ Below w.heap.size w w' := by
 obtain ⟨iz, hiz, hz0, hz1, hz2⟩ := info_parts Tryz.infoKn
 have q22 : ∀ (w : World) (a : Option Addr) (n c n' c' : Nat), (binOp .eql 24 (.slice a n c) (.slice none n' c')).run Tryz.prog w = .ok (.bool a.isNone) w := fun w a n c n' c' => Lib.run_eql_slice_nil w _ _ a n c n' c' Tryz.underlying24
 obtain ⟨n, hn⟩ : ∃ n, n = xs.length := ⟨_, rfl⟩
 have hl := RowsAt.walk h
 obtain ⟨ao, cap, b, off, rfl, hl, _⟩ := hl
 rw [← hn] at h hl hm ⊢
 cases ao with
 | none =>
  have h0 : xs = [] := by
   obtain ⟨_, _, _, _, e, _, h0, _⟩ := h
   cases e
   cases xs with
   | nil => rfl
   | cons x xs => have := (h0 (by simp)).1; cases this
  have H0 := hI h0
  clear h h0 hn
  go_enter Tryz.func68, Tryz.ntmps68
  go_wp2
  go_ret
  rw [H0.out]
  exact ⟨_, rfl, World.ownsRow_nil _ _ _ _, Below.refl _ _⟩
 | some a =>
  have HC := hI (show ∀ j u, (xs.flatMap Kn.vs)[j]? = some u → w.cell? (a.add j) = some u from fun j u hu => by
   have h2 := h
   obtain ⟨ao, cap2, b2, off2, e, _, hao, hx⟩ := h2
   have h0 : 0 < xs.length := by
    cases xs with
    | nil => simp at hu
    | cons x xs => simp
   obtain ⟨e2, _⟩ := hao h0
   rw [e2] at e
   cases e
   exact RowsAt.cells Kn.vs_length h j u hu)
  have HN := hI hn
  have HL := hI (show (xs.flatMap Kn.vs).length = n * 3 from by rw [hn]; exact flat_length Kn.vs_length xs)
  have H1 := hI (Kn.flat_one xs)
  obtain ⟨news, hnews⟩ : ∃ l, l = xs.flatMap Kn.vs := ⟨_, rfl⟩
  rw [← hnews] at HC HL H1
  have HNW := hI hnews
  clear h hn hnews
  go_enter Tryz.func68, Tryz.ntmps68
  go_wp2_with (at_builtin; refine wpList_append_own _ rfl _ _ 24 rfl w.heap.size 61 iz (.agg #[.string ⟨#[]⟩, .string ⟨#[]⟩, .string ⟨#[]⟩]) 3 48 Tryz.underlying24 hiz hz0 hz1 hz2 rfl (by decide) _ 0 [] rfl (World.ownsRow_made w #[] 0 (Nat.le_refl _) (Nat.zero_le _) (by simp)) a n cap news rfl HL.out (fun j u hj => Lib.cell?_alloc_some _ (HC.out j u hj)) H1.out (by unfold maxLen; omega) (by omega) (by simp) ?_; intro v9 w9 h9 g9 _; have R9 := hI h9; have B9 := hI (Below.grown ((Below.refl _ w).alloc (Nat.le_refl _) _) g9 (by simp) (fun j hj => Nat.le_of_eq (Option.some.inj hj))); clear h9 g9)
  go_ret
  refine ⟨_, rfl, ?_, B9.out⟩
  have := R9.out
  rw [HNW.out, HN.out] at this
  unfold OwnAt
  simpa using this
theorem Bk.flat_one (xs : List Bk) : ∀ u ∈ xs.flatMap Bk.vs, u.oneCell' = true := by
 intro u hu
 obtain ⟨x, _, h⟩ := List.mem_flatMap.1 hu
 exact x.one u h
set_option maxRecDepth 100000 in
set_option maxHeartbeats 400000 in
theorem sxClPlaced_any (v : Value) (xs : List Bk) (w : World) (h : RowsAt w.heap.size 3 Bk.vs v xs w) (hm : xs.length ≤ 1073741823) :
 Calls Tryz.prog 69 #[v] w fun e w' => ∃ v', e = .returned v' ∧ OwnAt 66 3 Bk.vs w.heap.size v' xs w' ∧ Below w.heap.size w w' := by
 obtain ⟨iz, hiz, hz0, hz1, hz2⟩ := info_parts Tryz.infoBk
 have q22 : ∀ (w : World) (a : Option Addr) (n c n' c' : Nat), (binOp .eql 25 (.slice a n c) (.slice none n' c')).run Tryz.prog w = .ok (.bool a.isNone) w := fun w a n c n' c' => Lib.run_eql_slice_nil w _ _ a n c n' c' Tryz.underlying25
 obtain ⟨n, hn⟩ : ∃ n, n = xs.length := ⟨_, rfl⟩
 have hl := RowsAt.walk h
 obtain ⟨ao, cap, b, off, rfl, hl, _⟩ := hl
 rw [← hn] at h hl hm ⊢
 cases ao with
 | none =>
  have h0 : xs = [] := by
   obtain ⟨_, _, _, _, e, _, h0, _⟩ := h
   cases e
   cases xs with
   | nil => rfl
   | cons x xs => have := (h0 (by simp)).1; cases this
  have H0 := hI h0
  clear h h0 hn
  go_enter Tryz.func69, Tryz.ntmps69
  go_wp2
  go_ret
  rw [H0.out]
  exact ⟨_, rfl, World.ownsRow_nil _ _ _ _, Below.refl _ _⟩
 | some a =>
  have HC := hI (show ∀ j u, (xs.flatMap Bk.vs)[j]? = some u → w.cell? (a.add j) = some u from fun j u hu => by
   have h2 := h
   obtain ⟨ao, cap2, b2, off2, e, _, hao, hx⟩ := h2
   have h0 : 0 < xs.length := by
    cases xs with
    | nil => simp at hu
    | cons x xs => simp
   obtain ⟨e2, _⟩ := hao h0
   rw [e2] at e
   cases e
   exact RowsAt.cells Bk.vs_length h j u hu)
  have HN := hI hn
  have HL := hI (show (xs.flatMap Bk.vs).length = n * 3 from by rw [hn]; exact flat_length Bk.vs_length xs)
  have H1 := hI (Bk.flat_one xs)
  obtain ⟨news, hnews⟩ : ∃ l, l = xs.flatMap Bk.vs := ⟨_, rfl⟩
  rw [← hnews] at HC HL H1
  have HNW := hI hnews
  clear h hn hnews
  go_enter Tryz.func69, Tryz.ntmps69
  go_wp2_with (at_builtin; refine wpList_append_own _ rfl _ _ 25 rfl w.heap.size 66 iz (.agg #[.string ⟨#[]⟩, .int .i64 0, .int .i64 0]) 3 32 Tryz.underlying25 hiz hz0 hz1 hz2 rfl (by decide) _ 0 [] rfl (World.ownsRow_made w #[] 0 (Nat.le_refl _) (Nat.zero_le _) (by simp)) a n cap news rfl HL.out (fun j u hj => Lib.cell?_alloc_some _ (HC.out j u hj)) H1.out (by unfold maxLen; omega) (by omega) (by simp) ?_; intro v9 w9 h9 g9 _; have R9 := hI h9; have B9 := hI (Below.grown ((Below.refl _ w).alloc (Nat.le_refl _) _) g9 (by simp) (fun j hj => Nat.le_of_eq (Option.some.inj hj))); clear h9 g9)
  go_ret
  refine ⟨_, rfl, ?_, B9.out⟩
  have := R9.out
  rw [HNW.out, HN.out] at this
  unfold OwnAt
  simpa using this
set_option maxRecDepth 100000 in
set_option maxHeartbeats 400000 in
theorem inqHandlec_any (a0 : Int) (a1 : Int) (b0 b1 : Nat) (x : Hd) (W : World) (c0 : W.cell? ⟨b0, 0, none⟩ = some (.int .i64 a0)) (c1 : W.cell? ⟨b1, 0, none⟩ = some (.int .i64 a1)) (l0 : b0 < W.heap.size) (l1 : b1 < W.heap.size) :
 Calls Tryz.prog 122 #[.agg x.vs.toArray, .pointer (some ⟨b0, 0, none⟩), .pointer (some ⟨b1, 0, none⟩)] W fun e w' => e = .returned (.bool (pHeld a0 a1 x)) ∧ Below W.heap.size W w' := by
 obtain ⟨x0, x1, x2⟩ := x
 show Calls Tryz.prog 122 #[.agg #[.int .i64 x0, .int .i64 x1, .string x2], .pointer (some ⟨b0, 0, none⟩), .pointer (some ⟨b1, 0, none⟩)] W _
 by_cases h0 : x0 = a0
 · have d0 := (show (x0 == a0) = true from beq_iff_eq.2 h0)
   by_cases h1 : x1 = a1
   · have d1 := (show (x1 == a1) = true from beq_iff_eq.2 h1)
     have hv : pHeld a0 a1 (⟨x0, x1, x2⟩ : Hd) = true := by simp [pHeld, h0, h1]
     rw [hv]
     clear hv h0 h1
     go_enter Tryz.func122, Tryz.ntmps122
     go_wp2
     go_ret
     exact ⟨rfl, (Below.refl _ W).alloc (Nat.le_refl _) _⟩
   · have d1 := (show (x1 == a1) = false from beq_eq_false_iff_ne.2 h1)
     have hv : pHeld a0 a1 (⟨x0, x1, x2⟩ : Hd) = false := by simp [pHeld, h0, h1]
     rw [hv]
     clear hv h0 h1
     go_enter Tryz.func122, Tryz.ntmps122
     go_wp2
     go_ret
     exact ⟨rfl, (Below.refl _ W).alloc (Nat.le_refl _) _⟩
 · have d0 := (show (x0 == a0) = false from beq_eq_false_iff_ne.2 h0)
   have hv : pHeld a0 a1 (⟨x0, x1, x2⟩ : Hd) = false := by simp [pHeld, h0]
   rw [hv]
   clear hv h0
   go_enter Tryz.func122, Tryz.ntmps122
   go_wp2
   go_ret
   exact ⟨rfl, (Below.refl _ W).alloc (Nat.le_refl _) _⟩
set_option maxRecDepth 100000 in
set_option maxHeartbeats 400000 in
theorem inqHandle_any (a0 : Int) (a1 : Int) (w : World) :
 Calls Tryz.prog 58 #[.int .i64 a0, .int .i64 a1] w fun e w' => ∃ lb, e = .returned (.func (.func 122) #[] lb) ∧ Below w.heap.size w w' ∧ PredW Tryz.prog 122 lb Hd.vs (pHeld a0 a1) (fun j => j < w.heap.size) w' := by
 go_enter Tryz.func58, Tryz.ntmps58
 go_wp2
 go_ret
 refine ⟨_, rfl, ((Below.refl _ w).alloc (Nat.le_refl _) _).alloc (by simp) _, fun W x hW => ?_⟩
 have s0 := (St.new w 3 #[.int .i64 a0]).alloc (.cells #[.int .i64 a1] 3 (0, 0))
 have s1 := St.new (w.alloc (.cells #[.int .i64 a0] 3 (0, 0))) 3 #[.int .i64 a1]
 rw [show (w.alloc (.cells #[.int .i64 a0] 3 (0, 0))).heap.size = w.heap.size + 1 from by simp] at s1
 have k0 := s0.cell (j := 0) rfl
 have k1 := s1.cell (j := 0) rfl
 have l0 := s0.lt
 have l1 := s1.lt
 have q0 := hW.cell (q := ⟨w.heap.size, 0, none⟩) l0 (Nat.lt_irrefl _)
 have q1 := hW.cell (q := ⟨w.heap.size + 1, 0, none⟩) l1 (fun h => absurd h (by show ¬ w.heap.size + 1 < w.heap.size; omega))
 exact inqHandlec_any a0 a1 _ _ x W (q0.trans k0) (q1.trans k1) (Nat.lt_of_lt_of_le l0 hW.size) (Nat.lt_of_lt_of_le l1 hW.size)
set_option maxRecDepth 100000 in
set_option maxHeartbeats 400000 in
theorem inqForc_any (a0 : ByteArray) (b0 : Nat) (x : Hd) (W : World) (c0 : W.cell? ⟨b0, 0, none⟩ = some (.string a0)) (l0 : b0 < W.heap.size) :
 Calls Tryz.prog 123 #[.agg x.vs.toArray, .pointer (some ⟨b0, 0, none⟩)] W fun e w' => e = .returned (.bool (pIssued a0 x)) ∧ Below W.heap.size W w' := by
 obtain ⟨x0, x1, x2⟩ := x
 show Calls Tryz.prog 123 #[.agg #[.int .i64 x0, .int .i64 x1, .string x2], .pointer (some ⟨b0, 0, none⟩)] W _
 by_cases h0 : x2 = a0
 · have d0 := str_is h0
   have hv : pIssued a0 (⟨x0, x1, x2⟩ : Hd) = true := by simp [pIssued, h0]
   rw [hv]
   clear hv h0
   go_enter Tryz.func123, Tryz.ntmps123
   go_wp2
   go_ret
   exact ⟨rfl, (Below.refl _ W).alloc (Nat.le_refl _) _⟩
 · have d0 := str_not h0
   have hv : pIssued a0 (⟨x0, x1, x2⟩ : Hd) = false := by simp [pIssued, h0]
   rw [hv]
   clear hv h0
   go_enter Tryz.func123, Tryz.ntmps123
   go_wp2
   go_ret
   exact ⟨rfl, (Below.refl _ W).alloc (Nat.le_refl _) _⟩
set_option maxRecDepth 100000 in
set_option maxHeartbeats 400000 in
theorem inqFor_any (a0 : ByteArray) (w : World) :
 Calls Tryz.prog 59 #[.string a0] w fun e w' => ∃ lb, e = .returned (.func (.func 123) #[] lb) ∧ Below w.heap.size w w' ∧ PredW Tryz.prog 123 lb Hd.vs (pIssued a0) (fun j => j < w.heap.size) w' := by
 go_enter Tryz.func59, Tryz.ntmps59
 go_wp2
 go_ret
 refine ⟨_, rfl, (Below.refl _ w).alloc (Nat.le_refl _) _, fun W x hW => ?_⟩
 have k0 := (St.new w 9 #[.string a0]).cell (j := 0) rfl
 have l0 : w.heap.size < (w.alloc (.cells #[.string a0] 9 (0, 0))).heap.size := by simp
 have q0 := hW.cell (q := ⟨w.heap.size, 0, none⟩) l0 (Nat.lt_irrefl _)
 exact inqForc_any a0 _ x W (q0.trans k0) (Nat.lt_of_lt_of_le l0 hW.size)
set_option maxRecDepth 100000 in
set_option maxHeartbeats 400000 in
theorem inqFilec_any (a0 : ByteArray) (b0 : Nat) (x : Cd) (W : World) (c0 : W.cell? ⟨b0, 0, none⟩ = some (.string a0)) (l0 : b0 < W.heap.size) :
 Calls Tryz.prog 125 #[.agg x.vs.toArray, .pointer (some ⟨b0, 0, none⟩)] W fun e w' => e = .returned (.bool (pFile a0 x)) ∧ Below W.heap.size W w' := by
 obtain ⟨x0, ⟨x1, x2, x3, x4, x5, x6, x7, x8, x9, x10⟩⟩ := x
 show Calls Tryz.prog 125 #[.agg #[.string x0, .int .i64 x1, .int .i64 x2, .int .i64 x3, .int .i64 x4, .int .i64 x5, .int .i64 x6, .int .i64 x7, .int .i64 x8, .int .i64 x9, .int .i64 x10], .pointer (some ⟨b0, 0, none⟩)] W _
 by_cases h0 : x0 = a0
 · have d0 := str_is h0
   have hv : pFile a0 (⟨x0, ⟨x1, x2, x3, x4, x5, x6, x7, x8, x9, x10⟩⟩ : Cd) = true := by simp [pFile, h0]
   rw [hv]
   clear hv h0
   go_enter Tryz.func125, Tryz.ntmps125
   go_wp2
   go_ret
   exact ⟨rfl, (Below.refl _ W).alloc (Nat.le_refl _) _⟩
 · have d0 := str_not h0
   have hv : pFile a0 (⟨x0, ⟨x1, x2, x3, x4, x5, x6, x7, x8, x9, x10⟩⟩ : Cd) = false := by simp [pFile, h0]
   rw [hv]
   clear hv h0
   go_enter Tryz.func125, Tryz.ntmps125
   go_wp2
   go_ret
   exact ⟨rfl, (Below.refl _ W).alloc (Nat.le_refl _) _⟩
set_option maxRecDepth 100000 in
set_option maxHeartbeats 400000 in
theorem inqFile_any (a0 : ByteArray) (w : World) :
 Calls Tryz.prog 61 #[.string a0] w fun e w' => ∃ lb, e = .returned (.func (.func 125) #[] lb) ∧ Below w.heap.size w w' ∧ PredW Tryz.prog 125 lb Cd.vs (pFile a0) (fun j => j < w.heap.size) w' := by
 go_enter Tryz.func61, Tryz.ntmps61
 go_wp2
 go_ret
 refine ⟨_, rfl, (Below.refl _ w).alloc (Nat.le_refl _) _, fun W x hW => ?_⟩
 have k0 := (St.new w 9 #[.string a0]).cell (j := 0) rfl
 have l0 : w.heap.size < (w.alloc (.cells #[.string a0] 9 (0, 0))).heap.size := by simp
 have q0 := hW.cell (q := ⟨w.heap.size, 0, none⟩) l0 (Nat.lt_irrefl _)
 exact inqFilec_any a0 _ x W (q0.trans k0) (Nat.lt_of_lt_of_le l0 hW.size)
set_option maxRecDepth 100000 in
set_option maxHeartbeats 400000 in
theorem inqNamec_any (a0 : ByteArray) (a1 : ByteArray) (b0 b1 : Nat) (x : Kn) (W : World) (c0 : W.cell? ⟨b0, 0, none⟩ = some (.string a0)) (c1 : W.cell? ⟨b1, 0, none⟩ = some (.string a1)) (l0 : b0 < W.heap.size) (l1 : b1 < W.heap.size) :
 Calls Tryz.prog 127 #[.agg x.vs.toArray, .pointer (some ⟨b0, 0, none⟩), .pointer (some ⟨b1, 0, none⟩)] W fun e w' => e = .returned (.bool (pName a0 a1 x)) ∧ Below W.heap.size W w' := by
 obtain ⟨x0, x1, x2⟩ := x
 show Calls Tryz.prog 127 #[.agg #[.string x0, .string x1, .string x2], .pointer (some ⟨b0, 0, none⟩), .pointer (some ⟨b1, 0, none⟩)] W _
 by_cases h0 : x0 = a0
 · have d0 := str_is h0
   by_cases h1 : x1 = a1
   · have d1 := str_is h1
     have hv : pName a0 a1 (⟨x0, x1, x2⟩ : Kn) = true := by simp [pName, h0, h1]
     rw [hv]
     clear hv h0 h1
     go_enter Tryz.func127, Tryz.ntmps127
     go_wp2
     go_ret
     exact ⟨rfl, (Below.refl _ W).alloc (Nat.le_refl _) _⟩
   · have d1 := str_not h1
     have hv : pName a0 a1 (⟨x0, x1, x2⟩ : Kn) = false := by simp [pName, h0, h1]
     rw [hv]
     clear hv h0 h1
     go_enter Tryz.func127, Tryz.ntmps127
     go_wp2
     go_ret
     exact ⟨rfl, (Below.refl _ W).alloc (Nat.le_refl _) _⟩
 · have d0 := str_not h0
   have hv : pName a0 a1 (⟨x0, x1, x2⟩ : Kn) = false := by simp [pName, h0]
   rw [hv]
   clear hv h0
   go_enter Tryz.func127, Tryz.ntmps127
   go_wp2
   go_ret
   exact ⟨rfl, (Below.refl _ W).alloc (Nat.le_refl _) _⟩
set_option maxRecDepth 100000 in
set_option maxHeartbeats 400000 in
theorem inqName_any (a0 : ByteArray) (a1 : ByteArray) (w : World) :
 Calls Tryz.prog 63 #[.string a0, .string a1] w fun e w' => ∃ lb, e = .returned (.func (.func 127) #[] lb) ∧ Below w.heap.size w w' ∧ PredW Tryz.prog 127 lb Kn.vs (pName a0 a1) (fun j => j < w.heap.size) w' := by
 go_enter Tryz.func63, Tryz.ntmps63
 go_wp2
 go_ret
 refine ⟨_, rfl, ((Below.refl _ w).alloc (Nat.le_refl _) _).alloc (by simp) _, fun W x hW => ?_⟩
 have s0 := (St.new w 9 #[.string a0]).alloc (.cells #[.string a1] 9 (0, 0))
 have s1 := St.new (w.alloc (.cells #[.string a0] 9 (0, 0))) 9 #[.string a1]
 rw [show (w.alloc (.cells #[.string a0] 9 (0, 0))).heap.size = w.heap.size + 1 from by simp] at s1
 have k0 := s0.cell (j := 0) rfl
 have k1 := s1.cell (j := 0) rfl
 have l0 := s0.lt
 have l1 := s1.lt
 have q0 := hW.cell (q := ⟨w.heap.size, 0, none⟩) l0 (Nat.lt_irrefl _)
 have q1 := hW.cell (q := ⟨w.heap.size + 1, 0, none⟩) l1 (fun h => absurd h (by show ¬ w.heap.size + 1 < w.heap.size; omega))
 exact inqNamec_any a0 a1 _ _ x W (q0.trans k0) (q1.trans k1) (Nat.lt_of_lt_of_le l0 hW.size) (Nat.lt_of_lt_of_le l1 hW.size)
set_option maxRecDepth 100000 in
set_option maxHeartbeats 400000 in
theorem inqBlockc_any (a0 : ByteArray) (a1 : Int) (b0 b1 : Nat) (x : Bk) (W : World) (c0 : W.cell? ⟨b0, 0, none⟩ = some (.string a0)) (c1 : W.cell? ⟨b1, 0, none⟩ = some (.int .i64 a1)) (l0 : b0 < W.heap.size) (l1 : b1 < W.heap.size) :
 Calls Tryz.prog 129 #[.agg x.vs.toArray, .pointer (some ⟨b0, 0, none⟩), .pointer (some ⟨b1, 0, none⟩)] W fun e w' => e = .returned (.bool (pBlock a0 a1 x)) ∧ Below W.heap.size W w' := by
 obtain ⟨x0, x1, x2⟩ := x
 show Calls Tryz.prog 129 #[.agg #[.string x0, .int .i64 x1, .int .i64 x2], .pointer (some ⟨b0, 0, none⟩), .pointer (some ⟨b1, 0, none⟩)] W _
 by_cases h0 : x0 = a0
 · have d0 := str_is h0
   by_cases h1 : x1 = a1
   · have d1 := (show (x1 == a1) = true from beq_iff_eq.2 h1)
     have hv : pBlock a0 a1 (⟨x0, x1, x2⟩ : Bk) = true := by simp [pBlock, h0, h1]
     rw [hv]
     clear hv h0 h1
     go_enter Tryz.func129, Tryz.ntmps129
     go_wp2
     go_ret
     exact ⟨rfl, (Below.refl _ W).alloc (Nat.le_refl _) _⟩
   · have d1 := (show (x1 == a1) = false from beq_eq_false_iff_ne.2 h1)
     have hv : pBlock a0 a1 (⟨x0, x1, x2⟩ : Bk) = false := by simp [pBlock, h0, h1]
     rw [hv]
     clear hv h0 h1
     go_enter Tryz.func129, Tryz.ntmps129
     go_wp2
     go_ret
     exact ⟨rfl, (Below.refl _ W).alloc (Nat.le_refl _) _⟩
 · have d0 := str_not h0
   have hv : pBlock a0 a1 (⟨x0, x1, x2⟩ : Bk) = false := by simp [pBlock, h0]
   rw [hv]
   clear hv h0
   go_enter Tryz.func129, Tryz.ntmps129
   go_wp2
   go_ret
   exact ⟨rfl, (Below.refl _ W).alloc (Nat.le_refl _) _⟩
set_option maxRecDepth 100000 in
set_option maxHeartbeats 400000 in
theorem inqBlock_any (a0 : ByteArray) (a1 : Int) (w : World) :
 Calls Tryz.prog 65 #[.string a0, .int .i64 a1] w fun e w' => ∃ lb, e = .returned (.func (.func 129) #[] lb) ∧ Below w.heap.size w w' ∧ PredW Tryz.prog 129 lb Bk.vs (pBlock a0 a1) (fun j => j < w.heap.size) w' := by
 go_enter Tryz.func65, Tryz.ntmps65
 go_wp2
 go_ret
 refine ⟨_, rfl, ((Below.refl _ w).alloc (Nat.le_refl _) _).alloc (by simp) _, fun W x hW => ?_⟩
 have s0 := (St.new w 9 #[.string a0]).alloc (.cells #[.int .i64 a1] 3 (0, 0))
 have s1 := St.new (w.alloc (.cells #[.string a0] 9 (0, 0))) 3 #[.int .i64 a1]
 rw [show (w.alloc (.cells #[.string a0] 9 (0, 0))).heap.size = w.heap.size + 1 from by simp] at s1
 have k0 := s0.cell (j := 0) rfl
 have k1 := s1.cell (j := 0) rfl
 have l0 := s0.lt
 have l1 := s1.lt
 have q0 := hW.cell (q := ⟨w.heap.size, 0, none⟩) l0 (Nat.lt_irrefl _)
 have q1 := hW.cell (q := ⟨w.heap.size + 1, 0, none⟩) l1 (fun h => absurd h (by show ¬ w.heap.size + 1 < w.heap.size; omega))
 exact inqBlockc_any a0 a1 _ _ x W (q0.trans k0) (q1.trans k1) (Nat.lt_of_lt_of_le l0 hW.size) (Nat.lt_of_lt_of_le l1 hW.size)
end Go.Proofs.YtngfknplljedeaaGreat
