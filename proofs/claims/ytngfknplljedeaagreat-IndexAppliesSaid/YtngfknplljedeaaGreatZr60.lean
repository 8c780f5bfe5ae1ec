/- Lemmas for the laws of index. -/
import Derived.Test.YtngfknplljedeaaGreatZr34
import Derived.Test.YtngfknplljedeaaGreatZr40
import Derived.Test.YtngfknplljedeaaGreatZr49
import Derived.Test.YtngfknplljedeaaGreatZr59
import Derived.Test.YtngfknplljedeaaGreatZrHi
namespace Go.Proofs.YtngfknplljedeaaGreat
open Go.RowKit
set_option maxRecDepth 100000 in
set_option maxHeartbeats 400000 in
theorem sxIdxChange_in (v : Value) (xs : List Ch) (p : Ch → Bool) (g : Nat) (lb : Array Value) (F : Nat → Prop) (w : World) (h : RowsAt w.heap.size 18 Ch.vs v xs w) (eg : ∀ args w, (callFunc g args).run Tryz.prog w = .ok (.enter g args) w) (hp : ∀ (W : World) (x : Ch), x ∈ xs → Frm F w W → Calls Tryz.prog g (#[.agg (Ch.vs x).toArray] ++ lb) W fun e w' => e = .returned (.bool (p x)) ∧ Below W.heap.size W w') :
 Calls Tryz.prog 103 #[v, .func (.func g) #[] lb] w fun e w' => e = .returned (.int .i64 (fnd p xs)) ∧ Below w.heap.size w w' := by
 obtain ⟨ao, cap, b, off, rfl, hl, hx⟩ := h.walk
 obtain ⟨n, hn⟩ : ∃ n, n = xs.length := ⟨_, rfl⟩
 rw [← hn] at hl hx ⊢
 obtain ⟨r, hr⟩ : ∃ r : Int, r = fnd p xs := ⟨_, rfl⟩
 rw [← hr]
 have HN := hI (show (∀ (j : Nat) (y : Ch), j < n → xs[j]? = some y → p y = false) → r = -1 from fun h => by rw [hr]; exact fnd_miss _ _ (fun j y hj => h j y (by omega)))
 have HA := hI (show ∀ (i : Nat) x, xs[i]? = some x → p x = true → (∀ (j : Nat) (y : Ch), j < i → xs[j]? = some y → p y = false) → r = i from fun i x h1 h2 h3 => by rw [hr]; exact fnd_hit _ _ i x h1 h2 h3)
 have HX := hI (show ∀ i, i < n → ∃ x : Ch, xs[i]? = some x ∧ ao = some ⟨b, off, none⟩ ∧ ∀ W, Below w.heap.size w W → W.rangeAt b (off + i * 18) x.vs from fun i hi => by
  obtain ⟨x, e1, e2, e3, e4⟩ := hx i hi
  exact ⟨x, e1, e2, fun W hW j u hu => (hW.cell (p := ⟨b, off + i * 18 + j, none⟩) e3).trans (e4 j u hu)⟩)
 have HP := hI hp
 clear hx h hn hr hp
 go_enter Tryz.func103, Tryz.ntmps103
 go_wp2
 go_loopw [5, 8] (fun _ s8 wr => ∃ i : Nat, i ≤ n ∧ s8 = .int .i64 i ∧ Below w.heap.size w wr ∧ ∀ (j : Nat) (y : Ch), j < i → xs[j]? = some y → p y = false) (fun _ s8 _ => n - (intOf s8).toNat)
 case atStart => exact ⟨0, Nat.zero_le _, rfl, Below.refl _ _, fun j y h => by omega⟩
 case round =>
  obtain ⟨i, hi, rfl, hbel, hm⟩ := hrel
  have HM := hI hm
  have HB := hI hbel
  clear hm hbel
  by_cases hlt : i < n
  · obtain ⟨x, hxi, rfl, hr⟩ := HX.out i hlt
    have HS := hI hxi
    have HR := hI (hr wr HB.out)
    clear hxi hr
    have b0 : (0 : Int) ≤ (i : Int) := by omega
    have b1 : (i : Int) < (n : Int) := by omega
    have hcall := HP.out wr x (List.mem_of_getElem? HS.out) (Frm.of_below HB.out)
    have HC := hI hcall
    clear hcall
    cases hq : p x with
    | true =>
     rw [hq] at HC
     go_wp2_with (first
      | ((with_reducible show wpList _ _ _ ({ dst := _, op := .load 40 _, type := _, pos := _, after := _, guard := _ } :: _) _ _); refine wpList_load_mid rfl 40 _ rfl b (off + i * 18) (by simp [Act.eval]) x.vs _ HR.out Tryz.underlying40 rfl (by kernel_rfl) ?_)
      | ((with_reducible refine HC.out.mono ?_); rintro e w9 ⟨rfl, hb⟩; have HB9 := hI (HB.out.trans (hb.mono HB.out.size)); clear hb))
     go_returns
     rw [HA.out i x HS.out hq HM.out]
     exact ⟨rfl, HB9.out⟩
    | false =>
     rw [hq] at HC
     go_wp2_with (first
      | ((with_reducible show wpList _ _ _ ({ dst := _, op := .load 40 _, type := _, pos := _, after := _, guard := _ } :: _) _ _); refine wpList_load_mid rfl 40 _ rfl b (off + i * 18) (by simp [Act.eval]) x.vs _ HR.out Tryz.underlying40 rfl (by kernel_rfl) ?_)
      | ((with_reducible refine HC.out.mono ?_); rintro e w9 ⟨rfl, hb⟩; have HB9 := hI (HB.out.trans (hb.mono HB.out.size)); clear hb))
     go_roundw
     case rel => exact ⟨i + 1, by omega, by go_num, HB9.out, fnd_step _ _ i x HS.out hq HM.out⟩
     case measure => simp [intOf]; omega
  · obtain rfl : n = i := by omega
    go_wp2
    go_returns
    rw [HN.out HM.out]
    exact ⟨rfl, HB.out⟩
set_option maxRecDepth 100000 in
set_option maxHeartbeats 400000 in
theorem sxHasChange_in (v : Value) (xs : List Ch) (p : Ch → Bool) (g : Nat) (lb : Array Value) (F : Nat → Prop) (w : World) (h : RowsAt w.heap.size 18 Ch.vs v xs w) (eg : ∀ args w, (callFunc g args).run Tryz.prog w = .ok (.enter g args) w) (hp : ∀ (W : World) (x : Ch), x ∈ xs → Frm F w W → Calls Tryz.prog g (#[.agg (Ch.vs x).toArray] ++ lb) W fun e w' => e = .returned (.bool (p x)) ∧ Below W.heap.size W w') :
 Calls Tryz.prog 43 #[v, .func (.func g) #[] lb] w fun e w' => e = .returned (.bool (xs.any p)) ∧ Below w.heap.size w w' := by
 rw [any_fnd]
 have HC := hI (sxIdxChange_in v xs p g lb F w h eg hp)
 generalize fnd p xs = r at HC ⊢
 clear h hp
 go_enter Tryz.func43, Tryz.ntmps43
 go_wp2_with ((with_reducible refine HC.out.mono ?_); rintro e w9 ⟨rfl, hb⟩; have HB9 := hI hb; clear hb)
 go_ret
 exact ⟨rfl, HB9.out⟩
set_option maxRecDepth 100000 in
set_option maxHeartbeats 400000 in
theorem inCheckc_any (x : Ch) (W : World) (hn : x.num) : Calls Tryz.prog 38 #[.agg (Ch.vs x).toArray] W fun e w' => e = .returned (.bool (!x.ok)) ∧ Below W.heap.size W w' := by
 have HC := hI (recCheck_any x (W.alloc (.cells x.vs.toArray 40 (0, 0))) hn)
 have HS := hI (show St 40 W.heap.size x.vs.toArray (W.alloc (.cells x.vs.toArray 40 (0, 0))) from St.new _ _ _)
 obtain ⟨o, ho⟩ : ∃ o, o = x.ok := ⟨_, rfl⟩
 obtain ⟨xv, hxv⟩ : ∃ xv, xv = x.vs.toArray := ⟨_, rfl⟩
 have HV := hI (show (Tryz.prog.info? 40).map (·.size) = some xv.size from by rw [hxv]; kernel_rfl)
 rw [← ho, ← hxv] at HC
 rw [← hxv] at HS
 show Calls Tryz.prog 38 #[.agg (x.vs.toArray)] W _
 rw [← ho, ← hxv]
 clear ho hxv hn
 cases o
 all_goals
  go_enter Tryz.func38, Tryz.ntmps38
  go_wp2_with (first
   | ((with_reducible show wpList _ _ _ ({ dst := _, op := .load 40 _, type := _, pos := _, after := _, guard := _ } :: _) _ _); refine wpList_load_st rfl 40 _ rfl W.heap.size (by first | rfl | simp [Act.eval, Act.put]) 40 xv HS.out _ Tryz.underlying40 rfl HV.out ?_)
   | ((with_reducible refine HC.out.mono ?_); rintro e w9 ⟨rfl, hb⟩; have HB9 := hI (((Below.refl _ W).alloc (Nat.le_refl _) _).trans (hb.mono (by simp))); clear hb))
  go_ret
  exact ⟨rfl, HB9.out⟩
set_option maxRecDepth 100000 in
set_option maxHeartbeats 400000 in
theorem inApartc1_any (W : World) (x : Hd) : Calls Tryz.prog 93 #[.agg (Hd.vs x).toArray] W fun e w' => e = .returned (.string x.up) ∧ Below W.heap.size W w' := by
 obtain ⟨x0, x1, x2⟩ := x
 show Calls Tryz.prog 93 #[.agg #[.int .i64 x0, .int .i64 x1, .string x2]] W fun e w' => e = .returned (.string x2) ∧ _
 go_enter Tryz.func93, Tryz.ntmps93
 go_wp2
 go_ret
 exact ⟨rfl, (Below.refl _ W).alloc (Nat.le_refl _) _⟩
set_option maxRecDepth 100000 in
set_option maxHeartbeats 400000 in
theorem inApartc2_any (W : World) (x : Bk) : Calls Tryz.prog 95 #[.agg (Bk.vs x).toArray] W fun e w' => e = .returned (.int .i64 x.slot) ∧ Below W.heap.size W w' := by
 obtain ⟨x0, x1, x2⟩ := x
 show Calls Tryz.prog 95 #[.agg #[.string x0, .int .i64 x1, .int .i64 x2]] W fun e w' => e = .returned (.int .i64 x2) ∧ _
 go_enter Tryz.func95, Tryz.ntmps95
 go_wp2
 go_ret
 exact ⟨rfl, (Below.refl _ W).alloc (Nat.le_refl _) _⟩
set_option maxRecDepth 100000 in
set_option maxHeartbeats 400000 in
theorem inOfc1_any (W : World) (x : Cd) : Calls Tryz.prog 97 #[.agg (Cd.vs x).toArray] W fun e w' => e = .returned (.string x.up) ∧ Below W.heap.size W w' := by
 obtain ⟨x0, y0, y1, y2, y3, y4, y5, y6, y7, y8, y9⟩ := x
 show Calls Tryz.prog 97 #[.agg #[.string x0, .int .i64 y0, .int .i64 y1, .int .i64 y2, .int .i64 y3, .int .i64 y4, .int .i64 y5, .int .i64 y6, .int .i64 y7, .int .i64 y8, .int .i64 y9]] W fun e w' => e = .returned (.string x0) ∧ _
 go_enter Tryz.func97, Tryz.ntmps97
 go_wp2
 go_ret
 exact ⟨rfl, (Below.refl _ W).alloc (Nat.le_refl _) _⟩
set_option maxRecDepth 100000 in
set_option maxHeartbeats 400000 in
theorem inOfc2_any (W : World) (x : Kn) : Calls Tryz.prog 99 #[.agg (Kn.vs x).toArray] W fun e w' => e = .returned (.string x.dir) ∧ Below W.heap.size W w' := by
 obtain ⟨x0, x1, x2⟩ := x
 show Calls Tryz.prog 99 #[.agg #[.string x0, .string x1, .string x2]] W fun e w' => e = .returned (.string x0) ∧ _
 go_enter Tryz.func99, Tryz.ntmps99
 go_wp2
 go_ret
 exact ⟨rfl, (Below.refl _ W).alloc (Nat.le_refl _) _⟩
set_option maxRecDepth 100000 in
set_option maxHeartbeats 400000 in
theorem inOfc3_any (W : World) (x : Bk) : Calls Tryz.prog 101 #[.agg (Bk.vs x).toArray] W fun e w' => e = .returned (.string x.up) ∧ Below W.heap.size W w' := by
 obtain ⟨x0, x1, x2⟩ := x
 show Calls Tryz.prog 101 #[.agg #[.string x0, .int .i64 x1, .int .i64 x2]] W fun e w' => e = .returned (.string x0) ∧ _
 go_enter Tryz.func101, Tryz.ntmps101
 go_wp2
 go_ret
 exact ⟨rfl, (Below.refl _ W).alloc (Nat.le_refl _) _⟩
theorem nodup_of {α β γ : Type} (f : α → β) (e : β → γ) (he : ∀ a b, e a = e b → a = b) (xs : List α) : (xs.map fun x => e (f x)).Nodup ↔ xs.Pairwise fun a b => f a ≠ f b := by
 rw [List.nodup_iff_pairwise_ne, List.pairwise_map]
 exact ⟨fun h => h.imp fun h g => h (by rw [g]), fun h => h.imp fun h g => h (he _ _ g)⟩
theorem bytes_inj (a b : ByteArray) (h : a.data.toList = b.data.toList) : a = b := ByteArray.ext (Array.toList_inj.1 h)
set_option maxRecDepth 100000 in
set_option maxHeartbeats 400000 in
theorem inDifHeld_any (v : Value) (xs : List Hd) (w : World) (h : RowsAt w.heap.size 3 Hd.vs v xs w) (hm : xs.length ≤ 1073741823) :
 Calls Tryz.prog 92 #[v, .func (.func 93) #[] #[]] w fun e w' => (∃ r, e = .returned (.bool r) ∧ (r = true ↔ xs.Pairwise fun a b => a.up ≠ b.up)) ∧ Below w.heap.size w w' := by
 obtain ⟨q, hq⟩ : ∃ q, q = (valsS (xs.map (fun x : Hd => x.up.data.toList))).length := ⟨_, rfl⟩
 have HC := hI (show Calls Tryz.prog 139 #[v, .func (.func 93) #[] #[]] w fun e w' => (∃ b cap, e = .returned (.slice (some ⟨b, 0, none⟩) q cap)) ∧ Below w.heap.size w w' from (inValHeldS_any v xs (fun x => x.up) 93 w h hm (enters_of Tryz.func93 (by kernel_rfl) rfl) (fun W x => inApartc1_any W x)).mono fun e w' ⟨b, cap, he, _, hb⟩ => ⟨⟨b, cap, by rw [he, hq]⟩, hb⟩)
 have HI := hI (show (q = xs.length) ↔ xs.Pairwise fun a b => a.up ≠ b.up from by
  have := (valsS_of (xs.map (fun x : Hd => x.up.data.toList))).2.2
  rw [← hq, List.length_map] at this
  exact this.trans (nodup_of (fun x : Hd => x.up) (fun s => s.data.toList) bytes_inj xs))
 obtain ⟨ao, cap, b, off, rfl, hl, _⟩ := h.walk
 obtain ⟨n, hn⟩ : ∃ n, n = xs.length := ⟨_, rfl⟩
 rw [← hn] at hl HI HC ⊢
 clear h hn hq
 by_cases hqn : q = n
 · have d0 : ((q : Int) == (n : Int)) = true := by rw [beq_iff_eq]; omega
   go_enter Tryz.func92, Tryz.ntmps92
   go_wp2_with ((with_reducible refine HC.out.mono ?_); rintro e w9 ⟨⟨b9, cap9, rfl⟩, hb⟩; have HB9 := hI hb; clear hb)
   go_ret
   exact ⟨⟨true, rfl, fun _ => HI.out.1 hqn, fun _ => rfl⟩, HB9.out⟩
 · have d0 : ((q : Int) == (n : Int)) = false := by rw [beq_eq_false_iff_ne]; omega
   go_enter Tryz.func92, Tryz.ntmps92
   go_wp2_with ((with_reducible refine HC.out.mono ?_); rintro e w9 ⟨⟨b9, cap9, rfl⟩, hb⟩; have HB9 := hI hb; clear hb)
   go_ret
   exact ⟨⟨false, rfl, fun e => (by cases e), fun hp => absurd (HI.out.2 hp) hqn⟩, HB9.out⟩
set_option maxRecDepth 100000 in
set_option maxHeartbeats 400000 in
theorem inDifPlaced_any (v : Value) (xs : List Bk) (w : World) (h : RowsAt w.heap.size 3 Bk.vs v xs w) (hm : xs.length ≤ 1073741823) :
 Calls Tryz.prog 94 #[v, .func (.func 95) #[] #[]] w fun e w' => (∃ r, e = .returned (.bool r) ∧ (r = true ↔ xs.Pairwise fun a b => a.slot ≠ b.slot)) ∧ Below w.heap.size w w' := by
 obtain ⟨q, hq⟩ : ∃ q, q = (valsI (xs.map (fun x : Bk => x.slot))).length := ⟨_, rfl⟩
 have HC := hI (show Calls Tryz.prog 76 #[v, .func (.func 95) #[] #[]] w fun e w' => (∃ b cap, e = .returned (.slice (some ⟨b, 0, none⟩) q cap)) ∧ Below w.heap.size w w' from (inValPlacedI_any v xs (fun x => x.slot) 95 w h hm (enters_of Tryz.func95 (by kernel_rfl) rfl) (fun W x => inApartc2_any W x)).mono fun e w' ⟨b, cap, he, _, hb⟩ => ⟨⟨b, cap, by rw [he, hq]⟩, hb⟩)
 have HI := hI (show (q = xs.length) ↔ xs.Pairwise fun a b => a.slot ≠ b.slot from by
  have := (valsI_of (xs.map (fun x : Bk => x.slot))).2.2
  rw [← hq, List.length_map] at this
  exact this.trans (nodup_of (fun x : Bk => x.slot) (fun s => s) (fun _ _ h => h) xs))
 obtain ⟨ao, cap, b, off, rfl, hl, _⟩ := h.walk
 obtain ⟨n, hn⟩ : ∃ n, n = xs.length := ⟨_, rfl⟩
 rw [← hn] at hl HI HC ⊢
 clear h hn hq
 by_cases hqn : q = n
 · have d0 : ((q : Int) == (n : Int)) = true := by rw [beq_iff_eq]; omega
   go_enter Tryz.func94, Tryz.ntmps94
   go_wp2_with ((with_reducible refine HC.out.mono ?_); rintro e w9 ⟨⟨b9, cap9, rfl⟩, hb⟩; have HB9 := hI hb; clear hb)
   go_ret
   exact ⟨⟨true, rfl, fun _ => HI.out.1 hqn, fun _ => rfl⟩, HB9.out⟩
 · have d0 : ((q : Int) == (n : Int)) = false := by rw [beq_eq_false_iff_ne]; omega
   go_enter Tryz.func94, Tryz.ntmps94
   go_wp2_with ((with_reducible refine HC.out.mono ?_); rintro e w9 ⟨⟨b9, cap9, rfl⟩, hb⟩; have HB9 := hI hb; clear hb)
   go_ret
   exact ⟨⟨false, rfl, fun e => (by cases e), fun hp => absurd (HI.out.2 hp) hqn⟩, HB9.out⟩
set_option maxRecDepth 100000 in
set_option maxHeartbeats 2000000 in
theorem inInOrder_any (cs : List Value) (ca : CA) (w : World) (h : CAt w.heap.size cs ca w) :
 Calls Tryz.prog 40 #[.agg cs.toArray] w fun e w' => (∃ r, e = .returned (.bool r) ∧ (r = true ↔ (ca.helds.Pairwise fun a b => ltHd a b = true) ∧ (ca.files.Pairwise fun a b => ltCd a b = true) ∧ (ca.names.Pairwise fun a b => ltKn a b = true) ∧ (ca.blocks.Pairwise fun a b => ltBk a b = true))) ∧ Below w.heap.size w w' := by
 obtain ⟨v1, v2, v3, v4, rfl, r1, r2, r3, r4⟩ := h
 obtain ⟨w1, hw1⟩ : ∃ w1, w1 = w.alloc (.cells #[v1, v2, v3, v4] 27 (0, 0)) := ⟨_, rfl⟩
 have hb1 : Below w.heap.size w w1 := by rw [hw1]; exact (Below.refl _ w).alloc (Nat.le_refl _) _
 have st0 : St 27 w.heap.size #[v1, v2, v3, v4] w1 := by rw [hw1]; exact St.new w 27 _
 have up : ∀ {α : Type} {k : Nat} {f : α → List Value} {v : Value} {xs : List α}, RowsAt w.heap.size k f v xs w → ∀ W, Below w1.heap.size w1 W → RowsAt W.heap.size k f v xs W := fun r W hW => (r.below (hb1.trans (hW.mono hb1.size))).raise (Nat.le_trans hb1.size hW.size)
 obtain ⟨e1, he1⟩ : ∃ e : Bool, e = true ↔ (ca.helds.Pairwise fun a b => ltHd a b = true) := by
  by_cases h : (ca.helds.Pairwise fun a b => ltHd a b = true)
  · exact ⟨true, fun _ => h, fun _ => rfl⟩
  · exact ⟨false, fun e => (by cases e), fun e => absurd e h⟩
 have HE1 := hI (show ∀ W, Below w1.heap.size w1 W → Calls Tryz.prog 84 #[v1, .func (.func 85) #[] #[]] W fun e w' => e = .returned (.bool e1) ∧ Below W.heap.size W w' from fun W hW => (inAscHeld_any v1 ca.helds ltHd 85 W (up r1 W hW) ltHd_trans (enters_of Tryz.func85 (by kernel_rfl) rfl) (fun W y x => inOrdHeld_any y x W)).mono fun e w' ⟨⟨r, he, hi⟩, hb⟩ => ⟨by rw [he, show r = e1 from Bool.eq_iff_iff.2 (hi.trans he1.symm)], hb⟩)
 obtain ⟨e2, he2⟩ : ∃ e : Bool, e = true ↔ (ca.files.Pairwise fun a b => ltCd a b = true) := by
  by_cases h : (ca.files.Pairwise fun a b => ltCd a b = true)
  · exact ⟨true, fun _ => h, fun _ => rfl⟩
  · exact ⟨false, fun e => (by cases e), fun e => absurd e h⟩
 have HE2 := hI (show ∀ W, Below w1.heap.size w1 W → Calls Tryz.prog 86 #[v2, .func (.func 87) #[] #[]] W fun e w' => e = .returned (.bool e2) ∧ Below W.heap.size W w' from fun W hW => (inAscCached_any v2 ca.files ltCd 87 W (up r2 W hW) ltCd_trans (enters_of Tryz.func87 (by kernel_rfl) rfl) (fun W y x => inOrdCached_any y x W)).mono fun e w' ⟨⟨r, he, hi⟩, hb⟩ => ⟨by rw [he, show r = e2 from Bool.eq_iff_iff.2 (hi.trans he2.symm)], hb⟩)
 obtain ⟨e3, he3⟩ : ∃ e : Bool, e = true ↔ (ca.names.Pairwise fun a b => ltKn a b = true) := by
  by_cases h : (ca.names.Pairwise fun a b => ltKn a b = true)
  · exact ⟨true, fun _ => h, fun _ => rfl⟩
  · exact ⟨false, fun e => (by cases e), fun e => absurd e h⟩
 have HE3 := hI (show ∀ W, Below w1.heap.size w1 W → Calls Tryz.prog 88 #[v3, .func (.func 89) #[] #[]] W fun e w' => e = .returned (.bool e3) ∧ Below W.heap.size W w' from fun W hW => (inAscKnown_any v3 ca.names ltKn 89 W (up r3 W hW) ltKn_trans (enters_of Tryz.func89 (by kernel_rfl) rfl) (fun W y x => inOrdKnown_any y x W)).mono fun e w' ⟨⟨r, he, hi⟩, hb⟩ => ⟨by rw [he, show r = e3 from Bool.eq_iff_iff.2 (hi.trans he3.symm)], hb⟩)
 obtain ⟨e4, he4⟩ : ∃ e : Bool, e = true ↔ (ca.blocks.Pairwise fun a b => ltBk a b = true) := by
  by_cases h : (ca.blocks.Pairwise fun a b => ltBk a b = true)
  · exact ⟨true, fun _ => h, fun _ => rfl⟩
  · exact ⟨false, fun e => (by cases e), fun e => absurd e h⟩
 have HE4 := hI (show ∀ W, Below w1.heap.size w1 W → Calls Tryz.prog 90 #[v4, .func (.func 91) #[] #[]] W fun e w' => e = .returned (.bool e4) ∧ Below W.heap.size W w' from fun W hW => (inAscPlaced_any v4 ca.blocks ltBk 91 W (up r4 W hW) ltBk_trans (enters_of Tryz.func91 (by kernel_rfl) rfl) (fun W y x => inOrdPlaced_any y x W)).mono fun e w' ⟨⟨r, he, hi⟩, hb⟩ => ⟨by rw [he, show r = e4 from Bool.eq_iff_iff.2 (hi.trans he4.symm)], hb⟩)
 have HS := hI (show ∀ W, Below w1.heap.size w1 W → W.cell? ⟨w.heap.size, 0, none⟩ = some v1 ∧ W.cell? ⟨w.heap.size, 1, none⟩ = some v2 ∧ W.cell? ⟨w.heap.size, 2, none⟩ = some v3 ∧ W.cell? ⟨w.heap.size, 3, none⟩ = some v4 from fun W hW => ⟨(st0.below hW).cell rfl, (st0.below hW).cell rfl, (st0.below hW).cell rfl, (st0.below hW).cell rfl⟩)
 obtain ⟨r, hr⟩ : ∃ r, r = ((e1 && (e2 && (e3 && e4)))) := ⟨_, rfl⟩
 have HI := hI (show r = true ↔ (ca.helds.Pairwise fun a b => ltHd a b = true) ∧ (ca.files.Pairwise fun a b => ltCd a b = true) ∧ (ca.names.Pairwise fun a b => ltKn a b = true) ∧ (ca.blocks.Pairwise fun a b => ltBk a b = true) from by rw [hr]; simp only [Bool.and_eq_true]; rw [he1, he2, he3, he4])
 have HRR := hI hr
 have HW1 := hI hw1
 have HB1 := hI hb1
 have B0 := hI (Below.refl w1.heap.size w1)
 clear hw1 hb1 st0 up r1 r2 r3 r4 he1 he2 he3 he4 hr
 obtain ⟨c10, c11, c12, c13⟩ := HS.out w1 B0.out
 show Calls Tryz.prog 40 #[.agg #[v1, v2, v3, v4]] w _
 cases e1 with
 | false =>
  go_enter Tryz.func40, Tryz.ntmps40
  go_wp2_with fail
  rw [← HW1.out]
  go_wp2_with (first
   | ((with_reducible refine (HE1.out _ B0.out).mono ?_); rintro e wq1 ⟨rfl, hb⟩; have B1 := hI (B0.out.trans (hb.mono B0.out.size)); clear hb; obtain ⟨c20, c21, c22, c23⟩ := HS.out _ B1.out))
  go_ret
  exact ⟨⟨_, rfl, by have := HI.out; rw [HRR.out] at this; exact this⟩, HB1.out.trans (B1.out.mono HB1.out.size)⟩
 | true =>
  cases e2 with
  | false =>
   go_enter Tryz.func40, Tryz.ntmps40
   go_wp2_with fail
   rw [← HW1.out]
   go_wp2_with (first
    | ((with_reducible refine (HE1.out _ B0.out).mono ?_); rintro e wq1 ⟨rfl, hb⟩; have B1 := hI (B0.out.trans (hb.mono B0.out.size)); clear hb; obtain ⟨c20, c21, c22, c23⟩ := HS.out _ B1.out)
    | ((with_reducible refine (HE2.out _ B1.out).mono ?_); rintro e wq2 ⟨rfl, hb⟩; have B2 := hI (B1.out.trans (hb.mono B1.out.size)); clear hb; obtain ⟨c30, c31, c32, c33⟩ := HS.out _ B2.out))
   go_ret
   exact ⟨⟨_, rfl, by have := HI.out; rw [HRR.out] at this; exact this⟩, HB1.out.trans (B2.out.mono HB1.out.size)⟩
  | true =>
   cases e3 with
   | false =>
    go_enter Tryz.func40, Tryz.ntmps40
    go_wp2_with fail
    rw [← HW1.out]
    go_wp2_with (first
     | ((with_reducible refine (HE1.out _ B0.out).mono ?_); rintro e wq1 ⟨rfl, hb⟩; have B1 := hI (B0.out.trans (hb.mono B0.out.size)); clear hb; obtain ⟨c20, c21, c22, c23⟩ := HS.out _ B1.out)
     | ((with_reducible refine (HE2.out _ B1.out).mono ?_); rintro e wq2 ⟨rfl, hb⟩; have B2 := hI (B1.out.trans (hb.mono B1.out.size)); clear hb; obtain ⟨c30, c31, c32, c33⟩ := HS.out _ B2.out)
     | ((with_reducible refine (HE3.out _ B2.out).mono ?_); rintro e wq3 ⟨rfl, hb⟩; have B3 := hI (B2.out.trans (hb.mono B2.out.size)); clear hb; obtain ⟨c40, c41, c42, c43⟩ := HS.out _ B3.out))
    go_ret
    exact ⟨⟨_, rfl, by have := HI.out; rw [HRR.out] at this; exact this⟩, HB1.out.trans (B3.out.mono HB1.out.size)⟩
   | true =>
    cases e4 with
    | false =>
     go_enter Tryz.func40, Tryz.ntmps40
     go_wp2_with fail
     rw [← HW1.out]
     go_wp2_with (first
      | ((with_reducible refine (HE1.out _ B0.out).mono ?_); rintro e wq1 ⟨rfl, hb⟩; have B1 := hI (B0.out.trans (hb.mono B0.out.size)); clear hb; obtain ⟨c20, c21, c22, c23⟩ := HS.out _ B1.out)
      | ((with_reducible refine (HE2.out _ B1.out).mono ?_); rintro e wq2 ⟨rfl, hb⟩; have B2 := hI (B1.out.trans (hb.mono B1.out.size)); clear hb; obtain ⟨c30, c31, c32, c33⟩ := HS.out _ B2.out)
      | ((with_reducible refine (HE3.out _ B2.out).mono ?_); rintro e wq3 ⟨rfl, hb⟩; have B3 := hI (B2.out.trans (hb.mono B2.out.size)); clear hb; obtain ⟨c40, c41, c42, c43⟩ := HS.out _ B3.out)
      | ((with_reducible refine (HE4.out _ B3.out).mono ?_); rintro e wq4 ⟨rfl, hb⟩; have B4 := hI (B3.out.trans (hb.mono B3.out.size)); clear hb; obtain ⟨c50, c51, c52, c53⟩ := HS.out _ B4.out))
     go_ret
     exact ⟨⟨_, rfl, by have := HI.out; rw [HRR.out] at this; exact this⟩, HB1.out.trans (B4.out.mono HB1.out.size)⟩
    | true =>
     go_enter Tryz.func40, Tryz.ntmps40
     go_wp2_with fail
     rw [← HW1.out]
     go_wp2_with (first
      | ((with_reducible refine (HE1.out _ B0.out).mono ?_); rintro e wq1 ⟨rfl, hb⟩; have B1 := hI (B0.out.trans (hb.mono B0.out.size)); clear hb; obtain ⟨c20, c21, c22, c23⟩ := HS.out _ B1.out)
      | ((with_reducible refine (HE2.out _ B1.out).mono ?_); rintro e wq2 ⟨rfl, hb⟩; have B2 := hI (B1.out.trans (hb.mono B1.out.size)); clear hb; obtain ⟨c30, c31, c32, c33⟩ := HS.out _ B2.out)
      | ((with_reducible refine (HE3.out _ B2.out).mono ?_); rintro e wq3 ⟨rfl, hb⟩; have B3 := hI (B2.out.trans (hb.mono B2.out.size)); clear hb; obtain ⟨c40, c41, c42, c43⟩ := HS.out _ B3.out)
      | ((with_reducible refine (HE4.out _ B3.out).mono ?_); rintro e wq4 ⟨rfl, hb⟩; have B4 := hI (B3.out.trans (hb.mono B3.out.size)); clear hb; obtain ⟨c50, c51, c52, c53⟩ := HS.out _ B4.out))
     go_ret
     exact ⟨⟨_, rfl, by have := HI.out; rw [HRR.out] at this; exact this⟩, HB1.out.trans (B4.out.mono HB1.out.size)⟩
set_option maxRecDepth 100000 in
set_option maxHeartbeats 2000000 in
theorem inApart_any (cs : List Value) (ca : CA) (w : World) (h : CAt w.heap.size cs ca w) (hm : ca.lens 1073741823) :
 Calls Tryz.prog 41 #[.agg cs.toArray] w fun e w' => (∃ r, e = .returned (.bool r) ∧ (r = true ↔ (ca.helds.Pairwise fun a b => a.up ≠ b.up) ∧ (ca.blocks.Pairwise fun a b => a.slot ≠ b.slot))) ∧ Below w.heap.size w w' := by
 obtain ⟨v1, v2, v3, v4, rfl, r1, r2, r3, r4⟩ := h
 obtain ⟨w1, hw1⟩ : ∃ w1, w1 = w.alloc (.cells #[v1, v2, v3, v4] 27 (0, 0)) := ⟨_, rfl⟩
 have hb1 : Below w.heap.size w w1 := by rw [hw1]; exact (Below.refl _ w).alloc (Nat.le_refl _) _
 have st0 : St 27 w.heap.size #[v1, v2, v3, v4] w1 := by rw [hw1]; exact St.new w 27 _
 have up : ∀ {α : Type} {k : Nat} {f : α → List Value} {v : Value} {xs : List α}, RowsAt w.heap.size k f v xs w → ∀ W, Below w1.heap.size w1 W → RowsAt W.heap.size k f v xs W := fun r W hW => (r.below (hb1.trans (hW.mono hb1.size))).raise (Nat.le_trans hb1.size hW.size)
 obtain ⟨e1, he1⟩ : ∃ e : Bool, e = true ↔ (ca.helds.Pairwise fun a b => a.up ≠ b.up) := by
  by_cases h : (ca.helds.Pairwise fun a b => a.up ≠ b.up)
  · exact ⟨true, fun _ => h, fun _ => rfl⟩
  · exact ⟨false, fun e => (by cases e), fun e => absurd e h⟩
 have HE1 := hI (show ∀ W, Below w1.heap.size w1 W → Calls Tryz.prog 92 #[v1, .func (.func 93) #[] #[]] W fun e w' => e = .returned (.bool e1) ∧ Below W.heap.size W w' from fun W hW => (inDifHeld_any v1 ca.helds W (up r1 W hW) hm.1).mono fun e w' ⟨⟨r, he, hi⟩, hb⟩ => ⟨by rw [he, show r = e1 from Bool.eq_iff_iff.2 (hi.trans he1.symm)], hb⟩)
 obtain ⟨e2, he2⟩ : ∃ e : Bool, e = true ↔ (ca.blocks.Pairwise fun a b => a.slot ≠ b.slot) := by
  by_cases h : (ca.blocks.Pairwise fun a b => a.slot ≠ b.slot)
  · exact ⟨true, fun _ => h, fun _ => rfl⟩
  · exact ⟨false, fun e => (by cases e), fun e => absurd e h⟩
 have HE2 := hI (show ∀ W, Below w1.heap.size w1 W → Calls Tryz.prog 94 #[v4, .func (.func 95) #[] #[]] W fun e w' => e = .returned (.bool e2) ∧ Below W.heap.size W w' from fun W hW => (inDifPlaced_any v4 ca.blocks W (up r4 W hW) hm.2.2.2).mono fun e w' ⟨⟨r, he, hi⟩, hb⟩ => ⟨by rw [he, show r = e2 from Bool.eq_iff_iff.2 (hi.trans he2.symm)], hb⟩)
 have HS := hI (show ∀ W, Below w1.heap.size w1 W → W.cell? ⟨w.heap.size, 0, none⟩ = some v1 ∧ W.cell? ⟨w.heap.size, 1, none⟩ = some v2 ∧ W.cell? ⟨w.heap.size, 2, none⟩ = some v3 ∧ W.cell? ⟨w.heap.size, 3, none⟩ = some v4 from fun W hW => ⟨(st0.below hW).cell rfl, (st0.below hW).cell rfl, (st0.below hW).cell rfl, (st0.below hW).cell rfl⟩)
 obtain ⟨r, hr⟩ : ∃ r, r = ((e1 && e2)) := ⟨_, rfl⟩
 have HI := hI (show r = true ↔ (ca.helds.Pairwise fun a b => a.up ≠ b.up) ∧ (ca.blocks.Pairwise fun a b => a.slot ≠ b.slot) from by rw [hr]; simp only [Bool.and_eq_true]; rw [he1, he2])
 have HRR := hI hr
 have HW1 := hI hw1
 have HB1 := hI hb1
 have B0 := hI (Below.refl w1.heap.size w1)
 clear hw1 hb1 st0 up r1 r2 r3 r4 he1 he2 hr
 obtain ⟨c10, c11, c12, c13⟩ := HS.out w1 B0.out
 show Calls Tryz.prog 41 #[.agg #[v1, v2, v3, v4]] w _
 cases e1 with
 | false =>
  go_enter Tryz.func41, Tryz.ntmps41
  go_wp2_with fail
  rw [← HW1.out]
  go_wp2_with (first
   | ((with_reducible refine (HE1.out _ B0.out).mono ?_); rintro e wq1 ⟨rfl, hb⟩; have B1 := hI (B0.out.trans (hb.mono B0.out.size)); clear hb; obtain ⟨c20, c21, c22, c23⟩ := HS.out _ B1.out))
  go_ret
  exact ⟨⟨_, rfl, by have := HI.out; rw [HRR.out] at this; exact this⟩, HB1.out.trans (B1.out.mono HB1.out.size)⟩
 | true =>
  cases e2 with
  | false =>
   go_enter Tryz.func41, Tryz.ntmps41
   go_wp2_with fail
   rw [← HW1.out]
   go_wp2_with (first
    | ((with_reducible refine (HE1.out _ B0.out).mono ?_); rintro e wq1 ⟨rfl, hb⟩; have B1 := hI (B0.out.trans (hb.mono B0.out.size)); clear hb; obtain ⟨c20, c21, c22, c23⟩ := HS.out _ B1.out)
    | ((with_reducible refine (HE2.out _ B1.out).mono ?_); rintro e wq2 ⟨rfl, hb⟩; have B2 := hI (B1.out.trans (hb.mono B1.out.size)); clear hb; obtain ⟨c30, c31, c32, c33⟩ := HS.out _ B2.out))
   go_ret
   exact ⟨⟨_, rfl, by have := HI.out; rw [HRR.out] at this; exact this⟩, HB1.out.trans (B2.out.mono HB1.out.size)⟩
  | true =>
   go_enter Tryz.func41, Tryz.ntmps41
   go_wp2_with fail
   rw [← HW1.out]
   go_wp2_with (first
    | ((with_reducible refine (HE1.out _ B0.out).mono ?_); rintro e wq1 ⟨rfl, hb⟩; have B1 := hI (B0.out.trans (hb.mono B0.out.size)); clear hb; obtain ⟨c20, c21, c22, c23⟩ := HS.out _ B1.out)
    | ((with_reducible refine (HE2.out _ B1.out).mono ?_); rintro e wq2 ⟨rfl, hb⟩; have B2 := hI (B1.out.trans (hb.mono B1.out.size)); clear hb; obtain ⟨c30, c31, c32, c33⟩ := HS.out _ B2.out))
   go_ret
   exact ⟨⟨_, rfl, by have := HI.out; rw [HRR.out] at this; exact this⟩, HB1.out.trans (B2.out.mono HB1.out.size)⟩
end Go.Proofs.YtngfknplljedeaaGreat
namespace Go.Proofs.YtngfknplljedeaaGreat
open Go.RowKit Go.Sort
theorem none_left {α β : Type} (f : α → ByteArray) (g : β → ByteArray) (xs : List α) (ys : List β) : (((valsS (xs.map fun x => (f x).data.toList)).filter fun x => !decide (x ∈ valsS (ys.map fun y => (g y).data.toList))).length = 0) ↔ ∀ x ∈ xs, ∃ y ∈ ys, g y = f x := by
 rw [List.length_eq_zero_iff, List.filter_eq_nil_iff]
 have m1 := (valsS_of (xs.map fun x => (f x).data.toList)).2.1
 have m2 := (valsS_of (ys.map fun y => (g y).data.toList)).2.1
 constructor
 · intro h x hx
   have := h _ ((m1 _).2 (List.mem_map_of_mem hx))
   simp only [Bool.not_eq_true, Bool.not_eq_false', decide_eq_true_eq] at this
   obtain ⟨y, hy, e⟩ := List.mem_map.1 ((m2 _).1 this)
   exact ⟨y, hy, bytes_inj _ _ e⟩
 · intro h u hu
   obtain ⟨x, hx, rfl⟩ := List.mem_map.1 ((m1 _).1 hu)
   obtain ⟨y, hy, e⟩ := h x hx
   simp only [Bool.not_eq_true, Bool.not_eq_false', decide_eq_true_eq]
   refine (m2 _).2 (List.mem_map.2 ⟨y, hy, ?_⟩)
   rw [e]
set_option maxRecDepth 100000 in
set_option maxHeartbeats 4000000 in
theorem inOfFiles_any (cs : List Value) (ca : CA) (w : World) (h : CAt w.heap.size cs ca w) (hm : ca.lens 1073741823) :
 Calls Tryz.prog 42 #[.agg cs.toArray] w fun e w' => (∃ r, e = .returned (.bool r) ∧ (r = true ↔ (∀ x ∈ ca.names, ∃ y ∈ ca.files, y.up = x.dir) ∧ ∀ x ∈ ca.blocks, ∃ y ∈ ca.files, y.up = x.up)) ∧ Below w.heap.size w w' := by
 obtain ⟨v1, v2, v3, v4, rfl, r1, r2, r3, r4⟩ := h
 obtain ⟨w1, hw1⟩ : ∃ w1, w1 = w.alloc (.cells #[v1, v2, v3, v4] 27 (0, 0)) := ⟨_, rfl⟩
 have hb1 : Below w.heap.size w w1 := by rw [hw1]; exact (Below.refl _ w).alloc (Nat.le_refl _) _
 have st0 : St 27 w.heap.size #[v1, v2, v3, v4] w1 := by rw [hw1]; exact St.new w 27 _
 have up : ∀ {α : Type} {k : Nat} {f : α → List Value} {v : Value} {xs : List α}, RowsAt w.heap.size k f v xs w → ∀ W, Below w1.heap.size w1 W → RowsAt W.heap.size k f v xs W := fun r W hW => (r.below (hb1.trans (hW.mono hb1.size))).raise (Nat.le_trans hb1.size hW.size)
 obtain ⟨FL, hFL⟩ : ∃ l, l = valsS (ca.files.map fun x => x.up.data.toList) := ⟨_, rfl⟩
 obtain ⟨qF, hqF⟩ : ∃ q, q = FL.length := ⟨_, rfl⟩
 have lF : FL.length ≤ 1073741823 := by
  rw [hFL]
  refine Nat.le_trans (Lib.compact_length_le _) ?_
  rw [List.length_mergeSort, List.length_map]
  exact hm.2.1
 have pF : FL.Pairwise fun a b => Op.bytesLess a b = true := by rw [hFL]; exact (valsS_of _).1
 have HVF := hI (show ∀ W, Below w1.heap.size w1 W → Calls Tryz.prog 96 #[v2, .func (.func 97) #[] #[]] W fun e w' => ∃ b cap, e = .returned (.slice (some ⟨b, 0, none⟩) qF cap) ∧ w'.ownsRow W.heap.size 9 1 (.slice (some ⟨b, 0, none⟩) qF cap) qF (FL.map encStr) ∧ Below W.heap.size W w' from fun W hW => by
  rw [hqF, hFL]
  exact inValCachedS_any v2 ca.files (fun x => x.up) 97 W (up r2 W hW) hm.2.1 (enters_of Tryz.func97 (by kernel_rfl) rfl) (fun W x => inOfc1_any W x))
 obtain ⟨NL, hNL⟩ : ∃ l, l = valsS (ca.names.map fun x => x.dir.data.toList) := ⟨_, rfl⟩
 obtain ⟨qN, hqN⟩ : ∃ q, q = NL.length := ⟨_, rfl⟩
 have lN : NL.length ≤ 1073741823 := by
  rw [hNL]
  refine Nat.le_trans (Lib.compact_length_le _) ?_
  rw [List.length_mergeSort, List.length_map]
  exact hm.2.2.1
 have pN : NL.Pairwise fun a b => Op.bytesLess a b = true := by rw [hNL]; exact (valsS_of _).1
 have HVN := hI (show ∀ W, Below w1.heap.size w1 W → Calls Tryz.prog 98 #[v3, .func (.func 99) #[] #[]] W fun e w' => ∃ b cap, e = .returned (.slice (some ⟨b, 0, none⟩) qN cap) ∧ w'.ownsRow W.heap.size 9 1 (.slice (some ⟨b, 0, none⟩) qN cap) qN (NL.map encStr) ∧ Below W.heap.size W w' from fun W hW => by
  rw [hqN, hNL]
  exact inValKnownS_any v3 ca.names (fun x => x.dir) 99 W (up r3 W hW) hm.2.2.1 (enters_of Tryz.func99 (by kernel_rfl) rfl) (fun W x => inOfc2_any W x))
 obtain ⟨BL, hBL⟩ : ∃ l, l = valsS (ca.blocks.map fun x => x.up.data.toList) := ⟨_, rfl⟩
 obtain ⟨qB, hqB⟩ : ∃ q, q = BL.length := ⟨_, rfl⟩
 have lB : BL.length ≤ 1073741823 := by
  rw [hBL]
  refine Nat.le_trans (Lib.compact_length_le _) ?_
  rw [List.length_mergeSort, List.length_map]
  exact hm.2.2.2
 have pB : BL.Pairwise fun a b => Op.bytesLess a b = true := by rw [hBL]; exact (valsS_of _).1
 have HVB := hI (show ∀ W, Below w1.heap.size w1 W → Calls Tryz.prog 100 #[v4, .func (.func 101) #[] #[]] W fun e w' => ∃ b cap, e = .returned (.slice (some ⟨b, 0, none⟩) qB cap) ∧ w'.ownsRow W.heap.size 9 1 (.slice (some ⟨b, 0, none⟩) qB cap) qB (BL.map encStr) ∧ Below W.heap.size W w' from fun W hW => by
  rw [hqB, hBL]
  exact inValPlacedS_any v4 ca.blocks (fun x => x.up) 101 W (up r4 W hW) hm.2.2.2 (enters_of Tryz.func101 (by kernel_rfl) rfl) (fun W x => inOfc3_any W x))
 obtain ⟨sN, hsN⟩ : ∃ q, q = (NL.filter fun x => !decide (x ∈ FL)).length := ⟨_, rfl⟩
 have HON := hI (show ∀ W B B2 g g2 cap cap2, W.ownsRow B 9 1 (.slice (some ⟨g, 0, none⟩) qN cap) qN (NL.map encStr) → W.ownsRow B2 9 1 (.slice (some ⟨g2, 0, none⟩) qF cap2) qF (FL.map encStr) → g2 ≠ g → Calls Tryz.prog 102 #[.slice (some ⟨g, 0, none⟩) qN cap, .slice (some ⟨g2, 0, none⟩) qF cap2] W fun e w' => e = .returned (.slice (some ⟨g, 0, none⟩) sN cap) ∧ Frm (fun j => j = g) W w' from fun W B B2 g g2 cap cap2 h h2 hne => by
  rw [hsN]
  rw [hqN] at h ⊢
  rw [hqF] at h2 ⊢
  exact (inWithoutS_any W h h2 hne lN lF pF).mono fun e w' ⟨he, _, hf⟩ => ⟨he, hf⟩)
 obtain ⟨sB, hsB⟩ : ∃ q, q = (BL.filter fun x => !decide (x ∈ FL)).length := ⟨_, rfl⟩
 have HOB := hI (show ∀ W B B2 g g2 cap cap2, W.ownsRow B 9 1 (.slice (some ⟨g, 0, none⟩) qB cap) qB (BL.map encStr) → W.ownsRow B2 9 1 (.slice (some ⟨g2, 0, none⟩) qF cap2) qF (FL.map encStr) → g2 ≠ g → Calls Tryz.prog 102 #[.slice (some ⟨g, 0, none⟩) qB cap, .slice (some ⟨g2, 0, none⟩) qF cap2] W fun e w' => e = .returned (.slice (some ⟨g, 0, none⟩) sB cap) ∧ Frm (fun j => j = g) W w' from fun W B B2 g g2 cap cap2 h h2 hne => by
  rw [hsB]
  rw [hqB] at h ⊢
  rw [hqF] at h2 ⊢
  exact (inWithoutS_any W h h2 hne lB lF pF).mono fun e w' ⟨he, _, hf⟩ => ⟨he, hf⟩)
 have HIN := hI (show sN = 0 ↔ ∀ x ∈ ca.names, ∃ y ∈ ca.files, y.up = x.dir from by rw [hsN, hNL, hFL]; exact none_left (fun x : Kn => x.dir) (fun x : Cd => x.up) _ _)
 have HIB := hI (show sB = 0 ↔ ∀ x ∈ ca.blocks, ∃ y ∈ ca.files, y.up = x.up from by rw [hsB, hBL, hFL]; exact none_left (fun x : Bk => x.up) (fun x : Cd => x.up) _ _)
 have lN2 : sN ≤ 1073741823 := by rw [hsN]; exact Nat.le_trans (List.length_filter_le _ _) lN
 have lB2 : sB ≤ 1073741823 := by rw [hsB]; exact Nat.le_trans (List.length_filter_le _ _) lB
 have HS := hI (show ∀ W, Below w1.heap.size w1 W → W.cell? ⟨w.heap.size, 1, none⟩ = some v2 ∧ W.cell? ⟨w.heap.size, 2, none⟩ = some v3 ∧ W.cell? ⟨w.heap.size, 3, none⟩ = some v4 from fun W hW => ⟨(st0.below hW).cell rfl, (st0.below hW).cell rfl, (st0.below hW).cell rfl⟩)
 have HW1 := hI hw1
 have HB1 := hI hb1
 obtain ⟨c11, c12, c13⟩ := HS.out w1 (Below.refl w1.heap.size w1)
 have B0 := hI (Below.refl w1.heap.size w1)
 clear hw1 hb1 st0 up r1 r2 r3 r4 hqF hqN hqB hsN hsB hFL hNL hBL lF lN lB pF pN pB hm
 show Calls Tryz.prog 42 #[.agg #[v1, v2, v3, v4]] w _
 by_cases hn : sN = 0
 · subst hn
   by_cases hb : sB = 0
   · subst hb
     go_enter Tryz.func42, Tryz.ntmps42
     go_wp2_with fail
     rw [← HW1.out]
     go_wp2_with (first
      | ((with_reducible refine (HVF.out _ B0.out).mono ?_); rintro e w2 ⟨bf, kf, rfl, h2, b2⟩; have B2 := hI b2; have RF2 := hI h2; obtain ⟨c21, c22, c23⟩ := HS.out _ b2; clear h2 b2)
      | ((with_reducible refine (HVN.out _ B2.out).mono ?_); rintro e w3 ⟨bn, kn, rfl, h3, b3⟩; have B3 := hI (B2.out.trans (b3.mono B2.out.size)); have RN3 := hI h3; have RF3 := hI (row_frm RF2.out (Frm.of_below (F := fun _ => False) b3) id); have Z3 := hI b3.size; obtain ⟨c31, c32, c33⟩ := HS.out _ B3.out; clear h3 b3)
      | ((with_reducible refine (HVB.out _ B3.out).mono ?_); rintro e w4 ⟨bb, kb, rfl, h4, b4⟩; have B4 := hI (B3.out.trans (b4.mono B3.out.size)); have RB4 := hI h4; have RN4 := hI (row_frm RN3.out (Frm.of_below (F := fun _ => False) b4) id); have RF4 := hI (row_frm RF3.out (Frm.of_below (F := fun _ => False) b4) id); have N1 := hI (show bf ≠ bn from fun e => by have := (ownsRow_at RF2.out).1; have := (ownsRow_at RN3.out).2.1; omega); have N2 := hI (show bf ≠ bb from fun e => by have := (ownsRow_at RF3.out).1; have := (ownsRow_at RB4.out).2.1; omega); have N3 := hI (show bb ≠ bn from fun e => by have := (ownsRow_at RN3.out).1; have := (ownsRow_at RB4.out).2.1; omega); have Z4 := hI b4.size; clear h4 b4)
      | ((with_reducible refine (HON.out _ _ _ _ _ _ _ RN4.out RF4.out N1.out).mono ?_); rintro e w5 ⟨rfl, f5⟩; have F5 := hI f5; have RF5 := hI (row_frm RF4.out f5 N1.out); have RB5 := hI (row_frm RB4.out f5 N3.out); have B5 := hI (B4.out.trans (f5.below B4.out.size (fun j e => by have : j = bn := e; have := (ownsRow_at RN3.out).2.1; have := B2.out.size; omega))); clear f5)
      | ((with_reducible refine (HOB.out _ _ _ _ _ _ _ RB5.out RF5.out N2.out).mono ?_); rintro e w6 ⟨rfl, f6⟩; have B6 := hI (B5.out.trans (f6.below B5.out.size (fun j e => by have : j = bb := e; have := (ownsRow_at RB4.out).2.1; have := B3.out.size; omega))); clear f6))
     go_ret
     exact ⟨⟨true, rfl, fun _ => ⟨HIN.out.1 (by trivial), HIB.out.1 (by trivial)⟩, fun _ => rfl⟩, HB1.out.trans (B6.out.mono HB1.out.size)⟩
   · have d1 : ((sB : Int) == 0) = false := by rw [beq_eq_false_iff_ne]; omega
     go_enter Tryz.func42, Tryz.ntmps42
     go_wp2_with fail
     rw [← HW1.out]
     go_wp2_with (first
      | ((with_reducible refine (HVF.out _ B0.out).mono ?_); rintro e w2 ⟨bf, kf, rfl, h2, b2⟩; have B2 := hI b2; have RF2 := hI h2; obtain ⟨c21, c22, c23⟩ := HS.out _ b2; clear h2 b2)
      | ((with_reducible refine (HVN.out _ B2.out).mono ?_); rintro e w3 ⟨bn, kn, rfl, h3, b3⟩; have B3 := hI (B2.out.trans (b3.mono B2.out.size)); have RN3 := hI h3; have RF3 := hI (row_frm RF2.out (Frm.of_below (F := fun _ => False) b3) id); have Z3 := hI b3.size; obtain ⟨c31, c32, c33⟩ := HS.out _ B3.out; clear h3 b3)
      | ((with_reducible refine (HVB.out _ B3.out).mono ?_); rintro e w4 ⟨bb, kb, rfl, h4, b4⟩; have B4 := hI (B3.out.trans (b4.mono B3.out.size)); have RB4 := hI h4; have RN4 := hI (row_frm RN3.out (Frm.of_below (F := fun _ => False) b4) id); have RF4 := hI (row_frm RF3.out (Frm.of_below (F := fun _ => False) b4) id); have N1 := hI (show bf ≠ bn from fun e => by have := (ownsRow_at RF2.out).1; have := (ownsRow_at RN3.out).2.1; omega); have N2 := hI (show bf ≠ bb from fun e => by have := (ownsRow_at RF3.out).1; have := (ownsRow_at RB4.out).2.1; omega); have N3 := hI (show bb ≠ bn from fun e => by have := (ownsRow_at RN3.out).1; have := (ownsRow_at RB4.out).2.1; omega); have Z4 := hI b4.size; clear h4 b4)
      | ((with_reducible refine (HON.out _ _ _ _ _ _ _ RN4.out RF4.out N1.out).mono ?_); rintro e w5 ⟨rfl, f5⟩; have F5 := hI f5; have RF5 := hI (row_frm RF4.out f5 N1.out); have RB5 := hI (row_frm RB4.out f5 N3.out); have B5 := hI (B4.out.trans (f5.below B4.out.size (fun j e => by have : j = bn := e; have := (ownsRow_at RN3.out).2.1; have := B2.out.size; omega))); clear f5)
      | ((with_reducible refine (HOB.out _ _ _ _ _ _ _ RB5.out RF5.out N2.out).mono ?_); rintro e w6 ⟨rfl, f6⟩; have B6 := hI (B5.out.trans (f6.below B5.out.size (fun j e => by have : j = bb := e; have := (ownsRow_at RB4.out).2.1; have := B3.out.size; omega))); clear f6))
     go_ret
     exact ⟨⟨false, rfl, fun e => (by cases e), fun hp => absurd (HIB.out.2 hp.2) hb⟩, HB1.out.trans (B6.out.mono HB1.out.size)⟩
 · have d1 : ((sN : Int) == 0) = false := by rw [beq_eq_false_iff_ne]; omega
   go_enter Tryz.func42, Tryz.ntmps42
   go_wp2_with fail
   rw [← HW1.out]
   go_wp2_with (first
    | ((with_reducible refine (HVF.out _ B0.out).mono ?_); rintro e w2 ⟨bf, kf, rfl, h2, b2⟩; have B2 := hI b2; have RF2 := hI h2; obtain ⟨c21, c22, c23⟩ := HS.out _ b2; clear h2 b2)
    | ((with_reducible refine (HVN.out _ B2.out).mono ?_); rintro e w3 ⟨bn, kn, rfl, h3, b3⟩; have B3 := hI (B2.out.trans (b3.mono B2.out.size)); have RN3 := hI h3; have RF3 := hI (row_frm RF2.out (Frm.of_below (F := fun _ => False) b3) id); have Z3 := hI b3.size; obtain ⟨c31, c32, c33⟩ := HS.out _ B3.out; clear h3 b3)
    | ((with_reducible refine (HVB.out _ B3.out).mono ?_); rintro e w4 ⟨bb, kb, rfl, h4, b4⟩; have B4 := hI (B3.out.trans (b4.mono B3.out.size)); have RB4 := hI h4; have RN4 := hI (row_frm RN3.out (Frm.of_below (F := fun _ => False) b4) id); have RF4 := hI (row_frm RF3.out (Frm.of_below (F := fun _ => False) b4) id); have N1 := hI (show bf ≠ bn from fun e => by have := (ownsRow_at RF2.out).1; have := (ownsRow_at RN3.out).2.1; omega); have N2 := hI (show bf ≠ bb from fun e => by have := (ownsRow_at RF3.out).1; have := (ownsRow_at RB4.out).2.1; omega); have N3 := hI (show bb ≠ bn from fun e => by have := (ownsRow_at RN3.out).1; have := (ownsRow_at RB4.out).2.1; omega); have Z4 := hI b4.size; clear h4 b4)
    | ((with_reducible refine (HON.out _ _ _ _ _ _ _ RN4.out RF4.out N1.out).mono ?_); rintro e w5 ⟨rfl, f5⟩; have F5 := hI f5; have RF5 := hI (row_frm RF4.out f5 N1.out); have RB5 := hI (row_frm RB4.out f5 N3.out); have B5 := hI (B4.out.trans (f5.below B4.out.size (fun j e => by have : j = bn := e; have := (ownsRow_at RN3.out).2.1; have := B2.out.size; omega))); clear f5))
   go_ret
   exact ⟨⟨false, rfl, fun e => (by cases e), fun hp => absurd (HIN.out.2 hp.1) hn⟩, HB1.out.trans (B5.out.mono HB1.out.size)⟩
set_option maxRecDepth 100000 in
set_option maxHeartbeats 4000000 in
theorem inCheck_any (cs : List Value) (ca : CA) (w : World) (h : CAt w.heap.size cs ca w) (hm : ca.lens 200000000) (hn : ca.num) :
 Calls Tryz.prog 11 #[.agg cs.toArray] w fun e w' => (∃ r : Int, e = .returned (.int .i64 r) ∧ (r = 0 ∨ r = 14) ∧ (r = 0 ↔ ca.Ok)) ∧ Below w.heap.size w w' := by
 have hm1 : ca.lens 1073741823 := hm.mono (by decide)
 obtain ⟨p1, t1, k1, p2, t2, k2, p3, t3, k3, p4, t4, k4, rfl⟩ := h.slices
 obtain ⟨w1, hw1⟩ : ∃ w1, w1 = w.alloc (.cells #[.slice p1 t1 k1, .slice p2 t2 k2, .slice p3 t3 k3, .slice p4 t4 k4] 27 (0, 0)) := ⟨_, rfl⟩
 have hb1 : Below w.heap.size w w1 := by rw [hw1]; exact (Below.refl _ w).alloc (Nat.le_refl _) _
 have st0 : St 27 w.heap.size #[.slice p1 t1 k1, .slice p2 t2 k2, .slice p3 t3 k3, .slice p4 t4 k4] w1 := by rw [hw1]; exact St.new w 27 _
 have up : ∀ W, Below w1.heap.size w1 W → CAt W.heap.size [.slice p1 t1 k1, .slice p2 t2 k2, .slice p3 t3 k3, .slice p4 t4 k4] ca W := fun W hW => (h.below (hb1.trans (hW.mono hb1.size))).raise (Nat.le_trans hb1.size hW.size)
 obtain ⟨e1, he1⟩ : ∃ e : Bool, e = true ↔ ((ca.helds.Pairwise fun a b => ltHd a b = true) ∧ (ca.files.Pairwise fun a b => ltCd a b = true) ∧ (ca.names.Pairwise fun a b => ltKn a b = true) ∧ (ca.blocks.Pairwise fun a b => ltBk a b = true)) := by
  by_cases h : ((ca.helds.Pairwise fun a b => ltHd a b = true) ∧ (ca.files.Pairwise fun a b => ltCd a b = true) ∧ (ca.names.Pairwise fun a b => ltKn a b = true) ∧ (ca.blocks.Pairwise fun a b => ltBk a b = true))
  · exact ⟨true, fun _ => h, fun _ => rfl⟩
  · exact ⟨false, fun e => (by cases e), fun e => absurd e h⟩
 have HE1 := hI (show ∀ W, Below w1.heap.size w1 W → Calls Tryz.prog 40 #[.agg #[.slice p1 t1 k1, .slice p2 t2 k2, .slice p3 t3 k3, .slice p4 t4 k4]] W fun e w' => e = .returned (.bool e1) ∧ Below W.heap.size W w' from fun W hW => (inInOrder_any [.slice p1 t1 k1, .slice p2 t2 k2, .slice p3 t3 k3, .slice p4 t4 k4] ca W (up W hW)).mono fun e w' ⟨⟨r, he, hi⟩, hb⟩ => ⟨by rw [he, show r = e1 from Bool.eq_iff_iff.2 (hi.trans he1.symm)], hb⟩)
 obtain ⟨e2, he2⟩ : ∃ e : Bool, e = true ↔ ((ca.helds.Pairwise fun a b => a.up ≠ b.up) ∧ (ca.blocks.Pairwise fun a b => a.slot ≠ b.slot)) := by
  by_cases h : ((ca.helds.Pairwise fun a b => a.up ≠ b.up) ∧ (ca.blocks.Pairwise fun a b => a.slot ≠ b.slot))
  · exact ⟨true, fun _ => h, fun _ => rfl⟩
  · exact ⟨false, fun e => (by cases e), fun e => absurd e h⟩
 have HE2 := hI (show ∀ W, Below w1.heap.size w1 W → Calls Tryz.prog 41 #[.agg #[.slice p1 t1 k1, .slice p2 t2 k2, .slice p3 t3 k3, .slice p4 t4 k4]] W fun e w' => e = .returned (.bool e2) ∧ Below W.heap.size W w' from fun W hW => (inApart_any [.slice p1 t1 k1, .slice p2 t2 k2, .slice p3 t3 k3, .slice p4 t4 k4] ca W (up W hW) hm1).mono fun e w' ⟨⟨r, he, hi⟩, hb⟩ => ⟨by rw [he, show r = e2 from Bool.eq_iff_iff.2 (hi.trans he2.symm)], hb⟩)
 obtain ⟨e3, he3⟩ : ∃ e : Bool, e = true ↔ ((∀ x ∈ ca.names, ∃ y ∈ ca.files, y.up = x.dir) ∧ ∀ x ∈ ca.blocks, ∃ y ∈ ca.files, y.up = x.up) := by
  by_cases h : ((∀ x ∈ ca.names, ∃ y ∈ ca.files, y.up = x.dir) ∧ ∀ x ∈ ca.blocks, ∃ y ∈ ca.files, y.up = x.up)
  · exact ⟨true, fun _ => h, fun _ => rfl⟩
  · exact ⟨false, fun e => (by cases e), fun e => absurd e h⟩
 have HE3 := hI (show ∀ W, Below w1.heap.size w1 W → Calls Tryz.prog 42 #[.agg #[.slice p1 t1 k1, .slice p2 t2 k2, .slice p3 t3 k3, .slice p4 t4 k4]] W fun e w' => e = .returned (.bool e3) ∧ Below W.heap.size W w' from fun W hW => (inOfFiles_any [.slice p1 t1 k1, .slice p2 t2 k2, .slice p3 t3 k3, .slice p4 t4 k4] ca W (up W hW) hm1).mono fun e w' ⟨⟨r, he, hi⟩, hb⟩ => ⟨by rw [he, show r = e3 from Bool.eq_iff_iff.2 (hi.trans he3.symm)], hb⟩)
 obtain ⟨e4, he4⟩ : ∃ e : Bool, e = ca.changes.any fun x => !x.ok := ⟨_, rfl⟩
 have HCH := hI (show ∀ W, Below w1.heap.size w1 W → Calls Tryz.prog 31 #[.agg #[.slice p1 t1 k1, .slice p2 t2 k2, .slice p3 t3 k3, .slice p4 t4 k4]] W fun e w' => (∃ a n c, e = .returned (.slice a n c) ∧ RowsAt w'.heap.size 18 Ch.vs (.slice a n c) ca.changes w') ∧ Below W.heap.size W w' from fun W hW => (rcChanges_any [.slice p1 t1 k1, .slice p2 t2 k2, .slice p3 t3 k3, .slice p4 t4 k4] ca W (up W hW) (by obtain ⟨q1, q2, q3, q4⟩ := hm; omega)).mono fun e w' ⟨v, he, hr, hb⟩ => by
  obtain ⟨a, c, _, _, rfl, _⟩ := hr.walk
  exact ⟨⟨_, _, _, he, hr⟩, hb⟩)
 have HE4 := hI (show ∀ W v, RowsAt W.heap.size 18 Ch.vs v ca.changes W → Calls Tryz.prog 43 #[v, .func (.func 38) #[] #[]] W fun e w' => e = .returned (.bool e4) ∧ Below W.heap.size W w' from fun W v hv => by
  rw [he4]
  exact sxHasChange_in v ca.changes _ 38 #[] (fun _ => False) W hv (enters_of Tryz.func38 (by kernel_rfl) rfl) (fun W x hx _ => inCheckc_any x W (CA.num_changes hn x hx)))
 have HOK := hI (show (e1 && (e2 && (e3 && !e4))) = true ↔ ca.Ok from by
  simp only [Bool.and_eq_true, Bool.not_eq_true']
  rw [he1, he2, he3, he4, List.any_eq_false]
  constructor
  · rintro ⟨⟨a1, a2, a3, a4⟩, ⟨b1, b2⟩, ⟨c1, c2⟩, d⟩
    exact ⟨a2, a3, c1, fun x hx => by have := d x hx; simpa using this, a1, b1, a4, c2, b2⟩
  · intro o
    exact ⟨⟨o.helds, o.files, o.names, o.blocks⟩, ⟨o.ups, o.slots⟩, ⟨o.dirs, o.ofs⟩, fun x hx => by rw [o.chs x hx]; decide⟩)
 have HS := hI (show ∀ W, Below w1.heap.size w1 W → W.cell? ⟨w.heap.size, 0, none⟩ = some (.slice p1 t1 k1) ∧ W.cell? ⟨w.heap.size, 1, none⟩ = some (.slice p2 t2 k2) ∧ W.cell? ⟨w.heap.size, 2, none⟩ = some (.slice p3 t3 k3) ∧ W.cell? ⟨w.heap.size, 3, none⟩ = some (.slice p4 t4 k4) from fun W hW => ⟨(st0.below hW).cell rfl, (st0.below hW).cell rfl, (st0.below hW).cell rfl, (st0.below hW).cell rfl⟩)
 have HW1 := hI hw1
 have HB1 := hI hb1
 have B0 := hI (Below.refl w1.heap.size w1)
 obtain ⟨c10, c11, c12, c13⟩ := HS.out w1 B0.out
 clear hw1 hb1 st0 up h he1 he2 he3 he4 hm hm1 hn
 show Calls Tryz.prog 11 #[.agg #[.slice p1 t1 k1, .slice p2 t2 k2, .slice p3 t3 k3, .slice p4 t4 k4]] w _
 cases e1 with
 | false =>
  go_enter Tryz.func11, Tryz.ntmps11
  go_wp2_with fail
  rw [← HW1.out]
  go_wp2_with (first
   | ((with_reducible refine (HE1.out _ B0.out).mono ?_); rintro e wq1 ⟨rfl, hb⟩; have B1 := hI (B0.out.trans (hb.mono B0.out.size)); clear hb; obtain ⟨c20, c21, c22, c23⟩ := HS.out _ B1.out))
  go_ret
  exact ⟨⟨14, rfl, .inr rfl, fun e => absurd e (by decide), fun o => absurd (HOK.out.2 o) (by simp)⟩, HB1.out.trans (B1.out.mono HB1.out.size)⟩
 | true =>
  cases e2 with
  | false =>
   go_enter Tryz.func11, Tryz.ntmps11
   go_wp2_with fail
   rw [← HW1.out]
   go_wp2_with (first
    | ((with_reducible refine (HE1.out _ B0.out).mono ?_); rintro e wq1 ⟨rfl, hb⟩; have B1 := hI (B0.out.trans (hb.mono B0.out.size)); clear hb; obtain ⟨c20, c21, c22, c23⟩ := HS.out _ B1.out)
    | ((with_reducible refine (HE2.out _ B1.out).mono ?_); rintro e wq2 ⟨rfl, hb⟩; have B2 := hI (B1.out.trans (hb.mono B1.out.size)); clear hb; obtain ⟨c30, c31, c32, c33⟩ := HS.out _ B2.out))
   go_ret
   exact ⟨⟨14, rfl, .inr rfl, fun e => absurd e (by decide), fun o => absurd (HOK.out.2 o) (by simp)⟩, HB1.out.trans (B2.out.mono HB1.out.size)⟩
  | true =>
   cases e3 with
   | false =>
    go_enter Tryz.func11, Tryz.ntmps11
    go_wp2_with fail
    rw [← HW1.out]
    go_wp2_with (first
     | ((with_reducible refine (HE1.out _ B0.out).mono ?_); rintro e wq1 ⟨rfl, hb⟩; have B1 := hI (B0.out.trans (hb.mono B0.out.size)); clear hb; obtain ⟨c20, c21, c22, c23⟩ := HS.out _ B1.out)
     | ((with_reducible refine (HE2.out _ B1.out).mono ?_); rintro e wq2 ⟨rfl, hb⟩; have B2 := hI (B1.out.trans (hb.mono B1.out.size)); clear hb; obtain ⟨c30, c31, c32, c33⟩ := HS.out _ B2.out)
     | ((with_reducible refine (HE3.out _ B2.out).mono ?_); rintro e wq3 ⟨rfl, hb⟩; have B3 := hI (B2.out.trans (hb.mono B2.out.size)); clear hb; obtain ⟨c40, c41, c42, c43⟩ := HS.out _ B3.out))
    go_ret
    exact ⟨⟨14, rfl, .inr rfl, fun e => absurd e (by decide), fun o => absurd (HOK.out.2 o) (by simp)⟩, HB1.out.trans (B3.out.mono HB1.out.size)⟩
   | true =>
    cases e4 with
    | true =>
     go_enter Tryz.func11, Tryz.ntmps11
     go_wp2_with fail
     rw [← HW1.out]
     go_wp2_with (first
      | ((with_reducible refine (HE1.out _ B0.out).mono ?_); rintro e wq1 ⟨rfl, hb⟩; have B1 := hI (B0.out.trans (hb.mono B0.out.size)); clear hb; obtain ⟨c20, c21, c22, c23⟩ := HS.out _ B1.out)
      | ((with_reducible refine (HE2.out _ B1.out).mono ?_); rintro e wq2 ⟨rfl, hb⟩; have B2 := hI (B1.out.trans (hb.mono B1.out.size)); clear hb; obtain ⟨c30, c31, c32, c33⟩ := HS.out _ B2.out)
      | ((with_reducible refine (HE3.out _ B2.out).mono ?_); rintro e wq3 ⟨rfl, hb⟩; have B3 := hI (B2.out.trans (hb.mono B2.out.size)); clear hb; obtain ⟨c40, c41, c42, c43⟩ := HS.out _ B3.out)
      | ((with_reducible refine (HCH.out _ B3.out).mono ?_); rintro e wq4 ⟨⟨ac, nc, cc, rfl, hr⟩, hb⟩; have B4 := hI (B3.out.trans (hb.mono B3.out.size)); have HR4 := hI hr; clear hb hr)
      | ((with_reducible refine (HE4.out _ _ HR4.out).mono ?_); rintro e wq5 ⟨rfl, hb⟩; have B5 := hI (B4.out.trans (hb.mono B4.out.size)); clear hb))
     go_ret
     exact ⟨⟨14, rfl, .inr rfl, fun e => absurd e (by decide), fun o => absurd (HOK.out.2 o) (by simp)⟩, HB1.out.trans (B5.out.mono HB1.out.size)⟩
    | false =>
     go_enter Tryz.func11, Tryz.ntmps11
     go_wp2_with fail
     rw [← HW1.out]
     go_wp2_with (first
      | ((with_reducible refine (HE1.out _ B0.out).mono ?_); rintro e wq1 ⟨rfl, hb⟩; have B1 := hI (B0.out.trans (hb.mono B0.out.size)); clear hb; obtain ⟨c20, c21, c22, c23⟩ := HS.out _ B1.out)
      | ((with_reducible refine (HE2.out _ B1.out).mono ?_); rintro e wq2 ⟨rfl, hb⟩; have B2 := hI (B1.out.trans (hb.mono B1.out.size)); clear hb; obtain ⟨c30, c31, c32, c33⟩ := HS.out _ B2.out)
      | ((with_reducible refine (HE3.out _ B2.out).mono ?_); rintro e wq3 ⟨rfl, hb⟩; have B3 := hI (B2.out.trans (hb.mono B2.out.size)); clear hb; obtain ⟨c40, c41, c42, c43⟩ := HS.out _ B3.out)
      | ((with_reducible refine (HCH.out _ B3.out).mono ?_); rintro e wq4 ⟨⟨ac, nc, cc, rfl, hr⟩, hb⟩; have B4 := hI (B3.out.trans (hb.mono B3.out.size)); have HR4 := hI hr; clear hb hr)
      | ((with_reducible refine (HE4.out _ _ HR4.out).mono ?_); rintro e wq5 ⟨rfl, hb⟩; have B5 := hI (B4.out.trans (hb.mono B4.out.size)); clear hb))
     go_ret
     exact ⟨⟨0, rfl, .inl rfl, fun _ => HOK.out.1 rfl, fun _ => rfl⟩, HB1.out.trans (B5.out.mono HB1.out.size)⟩
end Go.Proofs.YtngfknplljedeaaGreat
