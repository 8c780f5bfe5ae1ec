/- Lemmas for the laws of index. -/
import Derived.Laws.CopyOwn
import Derived.Lib.AppendZerosOnto
import Derived.Test.YtngfknplljedeaaGreatZr18
import Derived.Test.YtngfknplljedeaaGreatZr27
import Derived.Test.YtngfknplljedeaaGreatZrTk
import Derived.Test.YtngfknplljedeaaGreatZrHi
namespace Go.Proofs.YtngfknplljedeaaGreat
open Go.RowKit
def ord {α : Type} (lt : α → α → Bool) (x y : α) : Int := if lt x y = true then -1 else if lt y x = true then 1 else 0
theorem ord_neg {α : Type} {lt : α → α → Bool} {x y : α} : ord lt x y < 0 ↔ lt x y = true := by
 unfold ord
 cases lt x y <;> cases lt y x <;> simp
theorem ord_zero {α : Type} {lt : α → α → Bool} {x y : α} : ord lt x y = 0 ↔ lt x y = false ∧ lt y x = false := by
 unfold ord
 cases lt x y <;> cases lt y x <;> simp
theorem cmpB_ord : ∀ a b : List UInt8, Lib.compareBytes a b = (if Op.bytesLess a b = true then -1 else if Op.bytesLess b a = true then 1 else 0)
 | [], [] => by simp [Lib.compareBytes, Op.bytesLess]
 | [], b :: m => by simp [Lib.compareBytes, Op.bytesLess]
 | a :: l, [] => by simp [Lib.compareBytes, Op.bytesLess]
 | a :: l, b :: m => by
  rw [Lib.compareBytes, cmpB_ord l m]
  by_cases h : a < b
  · simp [h, Op.bytesLess]
  · by_cases h2 : b < a
    · have e : a ≠ b := fun e => by rw [e] at h2; exact absurd h2 (UInt8.lt_irrefl b)
      simp [h, h2, Op.bytesLess, e]
    · have e : a = b := UInt8.le_antisymm (UInt8.not_lt.1 h2) (UInt8.not_lt.1 h)
      subst e
      simp [Op.bytesLess]
def ilt (a b : Int) : Bool := decide (a < b)
theorem cmpS_ord (a b : ByteArray) : Lib.compareBytes a.data.toList b.data.toList = ord slt a b := by
 rw [cmpB_ord]
 unfold ord slt
 rw [Lib.toList_data, Lib.toList_data]
theorem cNaNI_any (x : Int) (w : World) : Calls Tryz.prog 168 #[.int .i64 x] w fun e w' => e = .returned (.bool false) ∧ w' = w := by
 go_enter Tryz.func168, Tryz.ntmps168
 go_wp2
 go_ret
 exact ⟨by simp, rfl⟩
theorem cmpCompare_any (x y : Int) (w : World) : Calls Tryz.prog 137 #[.int .i64 x, .int .i64 y] w fun e w' => e = .returned (.int .i64 (ord ilt x y)) ∧ w' = w := by
 have HC := hI (fun (z : Int) => cNaNI_any z w)
 by_cases h : x < y
 · have e : ord ilt x y = -1 := by simp [ord, ilt, h]
   rw [e]
   clear e
   go_enter Tryz.func137, Tryz.ntmps137
   go_wp2_with ((with_reducible refine (HC.out _).mono ?_); rintro e w9 ⟨rfl, rfl⟩)
   go_returns
   exact ⟨rfl, rfl⟩
 · by_cases h2 : y < x
   · have e : ord ilt x y = 1 := by simp [ord, ilt, h, h2]
     rw [e]
     clear e
     go_enter Tryz.func137, Tryz.ntmps137
     go_wp2_with ((with_reducible refine (HC.out _).mono ?_); rintro e w9 ⟨rfl, rfl⟩)
     go_returns
     exact ⟨rfl, rfl⟩
   · have e : ord ilt x y = 0 := by simp [ord, ilt, h, h2]
     rw [e]
     clear e
     go_enter Tryz.func137, Tryz.ntmps137
     go_wp2_with ((with_reducible refine (HC.out _).mono ?_); rintro e w9 ⟨rfl, rfl⟩)
     go_returns
     exact ⟨rfl, rfl⟩
theorem strCompare_any (x y : ByteArray) (w : World) : Calls Tryz.prog 138 #[.string x, .string y] w fun e w' => e = .returned (.int .i64 (ord slt x y)) ∧ w' = w := by
 rw [← cmpS_ord]
 exact Tryz.strings_Compare x y w
set_option maxHeartbeats 400000 in
theorem cmpOr_any (x y : Int) (b : Nat) (w : World) (h : St 3 b #[.int .i64 x, .int .i64 y] w) : Calls Tryz.prog 136 #[.slice (some ⟨b, 0, none⟩) 2 2] w fun e w' => e = .returned (.int .i64 (if x = 0 then y else x)) ∧ w' = w := by
 have HS := hI h
 obtain ⟨r, hr⟩ : ∃ r, r = if x = 0 then y else x := ⟨_, rfl⟩
 rw [← hr]
 have HR0 := hI (show x = 0 → r = y from fun e => by rw [hr, if_pos e])
 have HR1 := hI (show x ≠ 0 → r = x from fun e => by rw [hr, if_neg e])
 clear h hr
 go_enter Tryz.func136, Tryz.ntmps136
 go_wp2
 go_loop [5, 8] (fun _ s8 => ∃ i : Nat, i ≤ 2 ∧ s8 = .int .i64 i ∧ (1 ≤ i → x = 0) ∧ (2 ≤ i → y = 0)) (fun _ s8 => 2 - (intOf s8).toNat)
 case atStart => exact ⟨0, by omega, rfl, by omega, by omega⟩
 case round =>
  obtain ⟨i, hi, rfl, h1, h2⟩ := hrel
  have H1 := hI h1
  have H2 := hI h2
  clear h1 h2
  match i, hi with
  | 0, _ =>
   have c0 : w.cell? ⟨b, 0, none⟩ = some (.int .i64 x) := HS.out.cell rfl
   by_cases hx : x = 0
   · have HX := hI hx
     have d0 : (x != 0) = false := by simp [hx]
     clear hx
     go_wp2
     go_round
     case rel => exact ⟨1, by omega, by go_num, fun _ => HX.out, by omega⟩
     case measure => simp [intOf]
   · have HX := hI hx
     have d0 : (x != 0) = true := by simp [hx]
     clear hx
     go_wp2
     go_returns
     rw [HR1.out HX.out]
     exact ⟨rfl, rfl⟩
  | 1, _ =>
   have c0 : w.cell? ⟨b, 1, none⟩ = some (.int .i64 y) := HS.out.cell rfl
   by_cases hx : y = 0
   · have HX := hI hx
     have d0 : (y != 0) = false := by simp [hx]
     clear hx
     go_wp2
     go_round
     case rel => exact ⟨2, by omega, by go_num, fun _ => H1.out (by omega), fun _ => HX.out⟩
     case measure => simp [intOf]
   · have d0 : (y != 0) = true := by simp [hx]
     clear hx
     go_wp2
     go_returns
     rw [HR0.out (H1.out (by omega))]
     exact ⟨rfl, rfl⟩
  | 2, _ =>
   go_wp2
   go_returns
   rw [HR0.out (H1.out (by omega)), H2.out (by omega)]
   exact ⟨rfl, rfl⟩
  | i + 3, hi => omega
theorem ord_or {α β : Type} {l : α → α → Bool} {m : β → β → Bool} (a a' : α) (b b' : β) : (if ord l a a' = 0 then ord m b b' else ord l a a') = ord (fun (x y : α × β) => l x.1 y.1 || (!l y.1 x.1 && m x.2 y.2)) (a, b) (a', b') := by
 unfold ord
 by_cases h1 : l a a' = true <;> by_cases h2 : l a' a = true <;> by_cases h3 : m b b' = true <;> by_cases h4 : m b' b = true <;> simp [h1, h2, h3, h4]
theorem ord_congr {α β : Type} {l : α → α → Bool} {m : β → β → Bool} {x y : α} {u v : β} (h : l x y = m u v) (h2 : l y x = m v u) : ord l x y = ord m u v := by
 unfold ord
 rw [h, h2]
theorem ltHd_or (a b c a' b' c') : ltHd ⟨a, b, c⟩ ⟨a', b', c'⟩ = (ilt a a' || (!ilt a' a && ilt b b')) := by
 unfold ltHd ilt
 by_cases h : a < a' <;> by_cases h2 : a' < a <;> by_cases h3 : a = a' <;> simp [h, h2, h3] <;> omega
theorem slt_eq (a b : ByteArray) : (decide (a = b)) = (!slt a b && !slt b a) := by
 by_cases h : a = b
 · subst h
   simp [slt_irr]
 · cases h1 : slt a b <;> cases h2 : slt b a <;> simp [h]
   exact h (slt_tri a b h1 h2)
theorem ltKn_or (a b c a' b' c') : ltKn ⟨a, b, c⟩ ⟨a', b', c'⟩ = (slt a a' || (!slt a' a && slt b b')) := by
 unfold ltKn
 rw [slt_eq]
 cases slt a a' <;> cases slt a' a <;> cases slt b b' <;> rfl
theorem ltBk_or (a b c a' b' c') : ltBk ⟨a, b, c⟩ ⟨a', b', c'⟩ = (slt a a' || (!slt a' a && ilt b b')) := by
 unfold ltBk ilt
 rw [slt_eq]
 dsimp only
 cases slt a a' <;> cases slt a' a <;> cases decide (b < b') <;> rfl
def ltCd (a b : Cd) : Bool := slt a.up b.up
set_option maxRecDepth 100000 in
set_option maxHeartbeats 1000000 in
theorem inOrdHeld_any (x y : Hd) (w : World) : Calls Tryz.prog 85 #[.agg x.vs.toArray, .agg y.vs.toArray] w fun e w' => e = .returned (.int .i64 (ord ltHd x y)) ∧ Below w.heap.size w w' := by
 obtain ⟨x0, x1, x2⟩ := x
 obtain ⟨y0, y1, y2⟩ := y
 show Calls Tryz.prog 85 #[.agg #[.int .i64 x0, .int .i64 x1, .string x2], .agg #[.int .i64 y0, .int .i64 y1, .string y2]] w _
 obtain ⟨w1, hw1⟩ : ∃ w1, w1 = (w.alloc (.cells #[.int .i64 x0, .int .i64 x1, .string x2] 49 (0, 0))).alloc (.cells #[.int .i64 y0, .int .i64 y1, .string y2] 49 (0, 0)) := ⟨_, rfl⟩
 have hb1 : Below w.heap.size w w1 := by rw [hw1]; exact ((Below.refl _ w).alloc (Nat.le_refl _) _).alloc (by simp) _
 have hs0 : St 49 w.heap.size #[.int .i64 x0, .int .i64 x1, .string x2] w1 := by rw [hw1]; exact (St.new w _ _).alloc _
 have hs1 : St 49 (w.heap.size + 1) #[.int .i64 y0, .int .i64 y1, .string y2] w1 := by rw [hw1]; exact St.new1 w _ _ _
 have HKC := hI (show ∀ W, Below w1.heap.size w1 W → W.cell? ⟨w.heap.size, 0, none⟩ = some (.int .i64 x0) ∧ W.cell? ⟨w.heap.size, 1, none⟩ = some (.int .i64 x1) ∧ W.cell? ⟨w.heap.size + 1, 0, none⟩ = some (.int .i64 y0) ∧ W.cell? ⟨w.heap.size + 1, 1, none⟩ = some (.int .i64 y1) from fun W hW => ⟨(hs0.below hW).cell rfl, (hs0.below hW).cell rfl, (hs1.below hW).cell rfl, (hs1.below hW).cell rfl⟩)
 have HW1 := hI hw1
 have HB1 := hI hb1
 clear hw1 hb1 hs0 hs1
 have e : ord ltHd ⟨x0, x1, x2⟩ ⟨y0, y1, y2⟩ = (if ord ilt x0 y0 = 0 then ord ilt x1 y1 else ord ilt x0 y0) := by
  rw [ord_or]
  exact ord_congr (ltHd_or _ _ _ _ _ _) (ltHd_or _ _ _ _ _ _)
 rw [e]
 have HC0 := hI (fun W => cmpCompare_any x0 y0 W)
 have HC1 := hI (fun W => cmpCompare_any x1 y1 W)
 have HO := hI (fun b W (h : St 3 b #[.int .i64 (ord ilt x0 y0), .int .i64 (ord ilt x1 y1)] W) => cmpOr_any _ _ b W h)
 generalize ord ilt x0 y0 = r0 at HC0 HO ⊢
 generalize ord ilt x1 y1 = r1 at HC1 HO ⊢
 generalize (if r0 = 0 then r1 else r0) = r2 at HO ⊢
 clear e
 go_enter Tryz.func85, Tryz.ntmps85
 go_wp2_with fail
 rw [← HW1.out]
 have HBD := hI (show Below w1.heap.size w1 w1.drew from (Below.refl _ _).drew)
 have C0 := hI (HKC.out _ HBD.out)
 refine wp_region_held (S := (fun W => W.cell? ⟨w.heap.size, 0, none⟩ = some (.int .i64 x0) ∧ W.cell? ⟨w.heap.size, 1, none⟩ = some (.int .i64 x1) ∧ W.cell? ⟨w.heap.size + 1, 0, none⟩ = some (.int .i64 y0) ∧ W.cell? ⟨w.heap.size + 1, 1, none⟩ = some (.int .i64 y1))) (by kernel_rfl) ?_
 change wpAnyH _ _ _ _ _ _ _ _ (World.drew _)
 generalize World.drew w1 = WD at HBD C0 ⊢
 refine tkp 0 (.pointer (some ⟨w.heap.size, 0, none⟩)) rfl (by kernel_rfl) q3 (fun w' hS => ?_) C0.out ?_
 · clear hS; go_simp
 try go_simp
 refine tkp 1 (.int .i64 x0) rfl (by kernel_rfl) q3 (fun w' hS => ?_) C0.out ?_
 · obtain ⟨s0, s1, s2, s3⟩ := hS; go_simp
 try go_simp
 refine tkp 2 (.pointer (some ⟨w.heap.size + 1, 0, none⟩)) rfl (by kernel_rfl) q3 (fun w' hS => ?_) C0.out ?_
 · clear hS; go_simp
 try go_simp
 refine tkp 3 (.int .i64 y0) rfl (by kernel_rfl) q3 (fun w' hS => ?_) C0.out ?_
 · obtain ⟨s0, s1, s2, s3⟩ := hS; go_simp
 try go_simp
 refine tkp 5 (.pointer (some ⟨w.heap.size, 1, none⟩)) rfl (by kernel_rfl) q3 (fun w' hS => ?_) C0.out ?_
 · clear hS; go_simp
 try go_simp
 refine tkp 6 (.int .i64 x1) rfl (by kernel_rfl) q3 (fun w' hS => ?_) C0.out ?_
 · obtain ⟨s0, s1, s2, s3⟩ := hS; go_simp
 try go_simp
 refine tkp 7 (.pointer (some ⟨w.heap.size + 1, 1, none⟩)) rfl (by kernel_rfl) q3 (fun w' hS => ?_) C0.out ?_
 · clear hS; go_simp
 try go_simp
 refine tkp 8 (.int .i64 y1) rfl (by kernel_rfl) q3 (fun w' hS => ?_) C0.out ?_
 · obtain ⟨s0, s1, s2, s3⟩ := hS; go_simp
 try go_simp
 refine rd1 4 (by kernel_rfl) rfl fun K hK => ?_
 go_simp
 refine (HC0.out _).mono ?_
 rintro e w8 ⟨rfl, rfl⟩
 go_simp
 refine hK.out _ _ C0.out (fun S1 => ?_)
 clear hK K S1
 refine rd1 9 (by kernel_rfl) rfl fun K hK => ?_
 go_simp
 refine (HC1.out _).mono ?_
 rintro e w9 ⟨rfl, rfl⟩
 go_simp
 refine hK.out _ _ C0.out (fun S1 => ?_)
 clear hK K S1
 refine rd1 10 (by kernel_rfl) rfl fun K hK => ?_
 go_simp
 have HBE := hI (show Below w1.heap.size w1 (w9.alloc (.cells #[.int .i64 r0, .int .i64 r1] 3 (0, 0))) from HBD.out.alloc HBD.out.size _)
 have SE := hI (St.new w9 3 #[.int .i64 r0, .int .i64 r1])
 have C1 := hI (HKC.out _ HBE.out)
 refine hK.out _ _ C1.out (fun S1 => ?_)
 clear hK K S1
 refine rd1 11 (by kernel_rfl) rfl fun K hK => ?_
 go_simp
 refine (HO.out _ _ SE.out).mono ?_
 rintro e w7 ⟨rfl, rfl⟩
 go_simp
 refine hK.out _ _ C1.out (fun S1 => ?_)
 clear hK K S1
 refine rd1 12 (by kernel_rfl) rfl fun K hK => ?_
 go_simp
 refine hK.out _ _ C1.out (fun S1 => ?_)
 clear hK K S1
 refine wpAnyH_done (by kernel_rfl) ?_ _
 go_wp2
 go_ret
 exact ⟨rfl, HB1.out.trans (HBE.out.mono HB1.out.size)⟩
set_option maxRecDepth 100000 in
set_option maxHeartbeats 1000000 in
theorem inOrdKnown_any (x y : Kn) (w : World) : Calls Tryz.prog 89 #[.agg x.vs.toArray, .agg y.vs.toArray] w fun e w' => e = .returned (.int .i64 (ord ltKn x y)) ∧ Below w.heap.size w w' := by
 obtain ⟨x0, x1, x2⟩ := x
 obtain ⟨y0, y1, y2⟩ := y
 show Calls Tryz.prog 89 #[.agg #[.string x0, .string x1, .string x2], .agg #[.string y0, .string y1, .string y2]] w _
 obtain ⟨w1, hw1⟩ : ∃ w1, w1 = (w.alloc (.cells #[.string x0, .string x1, .string x2] 61 (0, 0))).alloc (.cells #[.string y0, .string y1, .string y2] 61 (0, 0)) := ⟨_, rfl⟩
 have hb1 : Below w.heap.size w w1 := by rw [hw1]; exact ((Below.refl _ w).alloc (Nat.le_refl _) _).alloc (by simp) _
 have hs0 : St 61 w.heap.size #[.string x0, .string x1, .string x2] w1 := by rw [hw1]; exact (St.new w _ _).alloc _
 have hs1 : St 61 (w.heap.size + 1) #[.string y0, .string y1, .string y2] w1 := by rw [hw1]; exact St.new1 w _ _ _
 have HKC := hI (show ∀ W, Below w1.heap.size w1 W → W.cell? ⟨w.heap.size, 0, none⟩ = some (.string x0) ∧ W.cell? ⟨w.heap.size, 1, none⟩ = some (.string x1) ∧ W.cell? ⟨w.heap.size + 1, 0, none⟩ = some (.string y0) ∧ W.cell? ⟨w.heap.size + 1, 1, none⟩ = some (.string y1) from fun W hW => ⟨(hs0.below hW).cell rfl, (hs0.below hW).cell rfl, (hs1.below hW).cell rfl, (hs1.below hW).cell rfl⟩)
 have HW1 := hI hw1
 have HB1 := hI hb1
 clear hw1 hb1 hs0 hs1
 have e : ord ltKn ⟨x0, x1, x2⟩ ⟨y0, y1, y2⟩ = (if ord slt x0 y0 = 0 then ord slt x1 y1 else ord slt x0 y0) := by
  rw [ord_or]
  exact ord_congr (ltKn_or _ _ _ _ _ _) (ltKn_or _ _ _ _ _ _)
 rw [e]
 have HC0 := hI (fun W => strCompare_any x0 y0 W)
 have HC1 := hI (fun W => strCompare_any x1 y1 W)
 have HO := hI (fun b W (h : St 3 b #[.int .i64 (ord slt x0 y0), .int .i64 (ord slt x1 y1)] W) => cmpOr_any _ _ b W h)
 generalize ord slt x0 y0 = r0 at HC0 HO ⊢
 generalize ord slt x1 y1 = r1 at HC1 HO ⊢
 generalize (if r0 = 0 then r1 else r0) = r2 at HO ⊢
 clear e
 go_enter Tryz.func89, Tryz.ntmps89
 go_wp2_with fail
 rw [← HW1.out]
 have HBD := hI (show Below w1.heap.size w1 w1.drew from (Below.refl _ _).drew)
 have C0 := hI (HKC.out _ HBD.out)
 refine wp_region_held (S := (fun W => W.cell? ⟨w.heap.size, 0, none⟩ = some (.string x0) ∧ W.cell? ⟨w.heap.size, 1, none⟩ = some (.string x1) ∧ W.cell? ⟨w.heap.size + 1, 0, none⟩ = some (.string y0) ∧ W.cell? ⟨w.heap.size + 1, 1, none⟩ = some (.string y1))) (by kernel_rfl) ?_
 change wpAnyH _ _ _ _ _ _ _ _ (World.drew _)
 generalize World.drew w1 = WD at HBD C0 ⊢
 refine tkp 0 (.pointer (some ⟨w.heap.size, 0, none⟩)) rfl (by kernel_rfl) q3 (fun w' hS => ?_) C0.out ?_
 · clear hS; go_simp
 try go_simp
 refine tkp 1 (.string x0) rfl (by kernel_rfl) q3 (fun w' hS => ?_) C0.out ?_
 · obtain ⟨s0, s1, s2, s3⟩ := hS; go_simp
 try go_simp
 refine tkp 2 (.pointer (some ⟨w.heap.size + 1, 0, none⟩)) rfl (by kernel_rfl) q3 (fun w' hS => ?_) C0.out ?_
 · clear hS; go_simp
 try go_simp
 refine tkp 3 (.string y0) rfl (by kernel_rfl) q3 (fun w' hS => ?_) C0.out ?_
 · obtain ⟨s0, s1, s2, s3⟩ := hS; go_simp
 try go_simp
 refine tkp 5 (.pointer (some ⟨w.heap.size, 1, none⟩)) rfl (by kernel_rfl) q3 (fun w' hS => ?_) C0.out ?_
 · clear hS; go_simp
 try go_simp
 refine tkp 6 (.string x1) rfl (by kernel_rfl) q3 (fun w' hS => ?_) C0.out ?_
 · obtain ⟨s0, s1, s2, s3⟩ := hS; go_simp
 try go_simp
 refine tkp 7 (.pointer (some ⟨w.heap.size + 1, 1, none⟩)) rfl (by kernel_rfl) q3 (fun w' hS => ?_) C0.out ?_
 · clear hS; go_simp
 try go_simp
 refine tkp 8 (.string y1) rfl (by kernel_rfl) q3 (fun w' hS => ?_) C0.out ?_
 · obtain ⟨s0, s1, s2, s3⟩ := hS; go_simp
 try go_simp
 refine rd1 4 (by kernel_rfl) rfl fun K hK => ?_
 go_simp
 refine (HC0.out _).mono ?_
 rintro e w8 ⟨rfl, rfl⟩
 go_simp
 refine hK.out _ _ C0.out (fun S1 => ?_)
 clear hK K S1
 refine rd1 9 (by kernel_rfl) rfl fun K hK => ?_
 go_simp
 refine (HC1.out _).mono ?_
 rintro e w9 ⟨rfl, rfl⟩
 go_simp
 refine hK.out _ _ C0.out (fun S1 => ?_)
 clear hK K S1
 refine rd1 10 (by kernel_rfl) rfl fun K hK => ?_
 go_simp
 have HBE := hI (show Below w1.heap.size w1 (w9.alloc (.cells #[.int .i64 r0, .int .i64 r1] 3 (0, 0))) from HBD.out.alloc HBD.out.size _)
 have SE := hI (St.new w9 3 #[.int .i64 r0, .int .i64 r1])
 have C1 := hI (HKC.out _ HBE.out)
 refine hK.out _ _ C1.out (fun S1 => ?_)
 clear hK K S1
 refine rd1 11 (by kernel_rfl) rfl fun K hK => ?_
 go_simp
 refine (HO.out _ _ SE.out).mono ?_
 rintro e w7 ⟨rfl, rfl⟩
 go_simp
 refine hK.out _ _ C1.out (fun S1 => ?_)
 clear hK K S1
 refine rd1 12 (by kernel_rfl) rfl fun K hK => ?_
 go_simp
 refine hK.out _ _ C1.out (fun S1 => ?_)
 clear hK K S1
 refine wpAnyH_done (by kernel_rfl) ?_ _
 go_wp2
 go_ret
 exact ⟨rfl, HB1.out.trans (HBE.out.mono HB1.out.size)⟩
set_option maxRecDepth 100000 in
set_option maxHeartbeats 1000000 in
theorem inOrdPlaced_any (x y : Bk) (w : World) : Calls Tryz.prog 91 #[.agg x.vs.toArray, .agg y.vs.toArray] w fun e w' => e = .returned (.int .i64 (ord ltBk x y)) ∧ Below w.heap.size w w' := by
 obtain ⟨x0, x1, x2⟩ := x
 obtain ⟨y0, y1, y2⟩ := y
 show Calls Tryz.prog 91 #[.agg #[.string x0, .int .i64 x1, .int .i64 x2], .agg #[.string y0, .int .i64 y1, .int .i64 y2]] w _
 obtain ⟨w1, hw1⟩ : ∃ w1, w1 = (w.alloc (.cells #[.string x0, .int .i64 x1, .int .i64 x2] 66 (0, 0))).alloc (.cells #[.string y0, .int .i64 y1, .int .i64 y2] 66 (0, 0)) := ⟨_, rfl⟩
 have hb1 : Below w.heap.size w w1 := by rw [hw1]; exact ((Below.refl _ w).alloc (Nat.le_refl _) _).alloc (by simp) _
 have hs0 : St 66 w.heap.size #[.string x0, .int .i64 x1, .int .i64 x2] w1 := by rw [hw1]; exact (St.new w _ _).alloc _
 have hs1 : St 66 (w.heap.size + 1) #[.string y0, .int .i64 y1, .int .i64 y2] w1 := by rw [hw1]; exact St.new1 w _ _ _
 have HKC := hI (show ∀ W, Below w1.heap.size w1 W → W.cell? ⟨w.heap.size, 0, none⟩ = some (.string x0) ∧ W.cell? ⟨w.heap.size, 1, none⟩ = some (.int .i64 x1) ∧ W.cell? ⟨w.heap.size + 1, 0, none⟩ = some (.string y0) ∧ W.cell? ⟨w.heap.size + 1, 1, none⟩ = some (.int .i64 y1) from fun W hW => ⟨(hs0.below hW).cell rfl, (hs0.below hW).cell rfl, (hs1.below hW).cell rfl, (hs1.below hW).cell rfl⟩)
 have HW1 := hI hw1
 have HB1 := hI hb1
 clear hw1 hb1 hs0 hs1
 have e : ord ltBk ⟨x0, x1, x2⟩ ⟨y0, y1, y2⟩ = (if ord slt x0 y0 = 0 then ord ilt x1 y1 else ord slt x0 y0) := by
  rw [ord_or]
  exact ord_congr (ltBk_or _ _ _ _ _ _) (ltBk_or _ _ _ _ _ _)
 rw [e]
 have HC0 := hI (fun W => strCompare_any x0 y0 W)
 have HC1 := hI (fun W => cmpCompare_any x1 y1 W)
 have HO := hI (fun b W (h : St 3 b #[.int .i64 (ord slt x0 y0), .int .i64 (ord ilt x1 y1)] W) => cmpOr_any _ _ b W h)
 generalize ord slt x0 y0 = r0 at HC0 HO ⊢
 generalize ord ilt x1 y1 = r1 at HC1 HO ⊢
 generalize (if r0 = 0 then r1 else r0) = r2 at HO ⊢
 clear e
 go_enter Tryz.func91, Tryz.ntmps91
 go_wp2_with fail
 rw [← HW1.out]
 have HBD := hI (show Below w1.heap.size w1 w1.drew from (Below.refl _ _).drew)
 have C0 := hI (HKC.out _ HBD.out)
 refine wp_region_held (S := (fun W => W.cell? ⟨w.heap.size, 0, none⟩ = some (.string x0) ∧ W.cell? ⟨w.heap.size, 1, none⟩ = some (.int .i64 x1) ∧ W.cell? ⟨w.heap.size + 1, 0, none⟩ = some (.string y0) ∧ W.cell? ⟨w.heap.size + 1, 1, none⟩ = some (.int .i64 y1))) (by kernel_rfl) ?_
 change wpAnyH _ _ _ _ _ _ _ _ (World.drew _)
 generalize World.drew w1 = WD at HBD C0 ⊢
 refine tkp 0 (.pointer (some ⟨w.heap.size, 0, none⟩)) rfl (by kernel_rfl) q3 (fun w' hS => ?_) C0.out ?_
 · clear hS; go_simp
 try go_simp
 refine tkp 1 (.string x0) rfl (by kernel_rfl) q3 (fun w' hS => ?_) C0.out ?_
 · obtain ⟨s0, s1, s2, s3⟩ := hS; go_simp
 try go_simp
 refine tkp 2 (.pointer (some ⟨w.heap.size + 1, 0, none⟩)) rfl (by kernel_rfl) q3 (fun w' hS => ?_) C0.out ?_
 · clear hS; go_simp
 try go_simp
 refine tkp 3 (.string y0) rfl (by kernel_rfl) q3 (fun w' hS => ?_) C0.out ?_
 · obtain ⟨s0, s1, s2, s3⟩ := hS; go_simp
 try go_simp
 refine tkp 5 (.pointer (some ⟨w.heap.size, 1, none⟩)) rfl (by kernel_rfl) q3 (fun w' hS => ?_) C0.out ?_
 · clear hS; go_simp
 try go_simp
 refine tkp 6 (.int .i64 x1) rfl (by kernel_rfl) q3 (fun w' hS => ?_) C0.out ?_
 · obtain ⟨s0, s1, s2, s3⟩ := hS; go_simp
 try go_simp
 refine tkp 7 (.pointer (some ⟨w.heap.size + 1, 1, none⟩)) rfl (by kernel_rfl) q3 (fun w' hS => ?_) C0.out ?_
 · clear hS; go_simp
 try go_simp
 refine tkp 8 (.int .i64 y1) rfl (by kernel_rfl) q3 (fun w' hS => ?_) C0.out ?_
 · obtain ⟨s0, s1, s2, s3⟩ := hS; go_simp
 try go_simp
 refine rd1 4 (by kernel_rfl) rfl fun K hK => ?_
 go_simp
 refine (HC0.out _).mono ?_
 rintro e w8 ⟨rfl, rfl⟩
 go_simp
 refine hK.out _ _ C0.out (fun S1 => ?_)
 clear hK K S1
 refine rd1 9 (by kernel_rfl) rfl fun K hK => ?_
 go_simp
 refine (HC1.out _).mono ?_
 rintro e w9 ⟨rfl, rfl⟩
 go_simp
 refine hK.out _ _ C0.out (fun S1 => ?_)
 clear hK K S1
 refine rd1 10 (by kernel_rfl) rfl fun K hK => ?_
 go_simp
 have HBE := hI (show Below w1.heap.size w1 (w9.alloc (.cells #[.int .i64 r0, .int .i64 r1] 3 (0, 0))) from HBD.out.alloc HBD.out.size _)
 have SE := hI (St.new w9 3 #[.int .i64 r0, .int .i64 r1])
 have C1 := hI (HKC.out _ HBE.out)
 refine hK.out _ _ C1.out (fun S1 => ?_)
 clear hK K S1
 refine rd1 11 (by kernel_rfl) rfl fun K hK => ?_
 go_simp
 refine (HO.out _ _ SE.out).mono ?_
 rintro e w7 ⟨rfl, rfl⟩
 go_simp
 refine hK.out _ _ C1.out (fun S1 => ?_)
 clear hK K S1
 refine rd1 12 (by kernel_rfl) rfl fun K hK => ?_
 go_simp
 refine hK.out _ _ C1.out (fun S1 => ?_)
 clear hK K S1
 refine wpAnyH_done (by kernel_rfl) ?_ _
 go_wp2
 go_ret
 exact ⟨rfl, HB1.out.trans (HBE.out.mono HB1.out.size)⟩
set_option maxRecDepth 100000 in
set_option maxHeartbeats 1000000 in
theorem inOrdCached_any (x y : Cd) (w : World) : Calls Tryz.prog 87 #[.agg x.vs.toArray, .agg y.vs.toArray] w fun e w' => e = .returned (.int .i64 (ord ltCd x y)) ∧ Below w.heap.size w w' := by
 obtain ⟨x0, ⟨x1, x2, x3, x4, x5, x6, x7, x8, x9, x10⟩⟩ := x
 obtain ⟨y0, ⟨y1, y2, y3, y4, y5, y6, y7, y8, y9, y10⟩⟩ := y
 show Calls Tryz.prog 87 #[.agg #[.string x0, .int .i64 x1, .int .i64 x2, .int .i64 x3, .int .i64 x4, .int .i64 x5, .int .i64 x6, .int .i64 x7, .int .i64 x8, .int .i64 x9, .int .i64 x10], .agg #[.string y0, .int .i64 y1, .int .i64 y2, .int .i64 y3, .int .i64 y4, .int .i64 y5, .int .i64 y6, .int .i64 y7, .int .i64 y8, .int .i64 y9, .int .i64 y10]] w _
 obtain ⟨w1, hw1⟩ : ∃ w1, w1 = (w.alloc (.cells #[.string x0, .int .i64 x1, .int .i64 x2, .int .i64 x3, .int .i64 x4, .int .i64 x5, .int .i64 x6, .int .i64 x7, .int .i64 x8, .int .i64 x9, .int .i64 x10] 57 (0, 0))).alloc (.cells #[.string y0, .int .i64 y1, .int .i64 y2, .int .i64 y3, .int .i64 y4, .int .i64 y5, .int .i64 y6, .int .i64 y7, .int .i64 y8, .int .i64 y9, .int .i64 y10] 57 (0, 0)) := ⟨_, rfl⟩
 have hb1 : Below w.heap.size w w1 := by rw [hw1]; exact ((Below.refl _ w).alloc (Nat.le_refl _) _).alloc (by simp) _
 have hs0 : St 57 w.heap.size #[.string x0, .int .i64 x1, .int .i64 x2, .int .i64 x3, .int .i64 x4, .int .i64 x5, .int .i64 x6, .int .i64 x7, .int .i64 x8, .int .i64 x9, .int .i64 x10] w1 := by rw [hw1]; exact (St.new w _ _).alloc _
 have hs1 : St 57 (w.heap.size + 1) #[.string y0, .int .i64 y1, .int .i64 y2, .int .i64 y3, .int .i64 y4, .int .i64 y5, .int .i64 y6, .int .i64 y7, .int .i64 y8, .int .i64 y9, .int .i64 y10] w1 := by rw [hw1]; exact St.new1 w _ _ _
 have k0 : w1.cell? ⟨w.heap.size, 0, none⟩ = some (.string x0) := hs0.cell rfl
 have k1 : w1.cell? ⟨w.heap.size + 1, 0, none⟩ = some (.string y0) := hs1.cell rfl
 have HW1 := hI hw1
 have HB1 := hI hb1
 clear hw1 hb1 hs0 hs1
 have e : ord ltCd ⟨x0, ⟨x1, x2, x3, x4, x5, x6, x7, x8, x9, x10⟩⟩ ⟨y0, ⟨y1, y2, y3, y4, y5, y6, y7, y8, y9, y10⟩⟩ = ord slt x0 y0 := ord_congr rfl rfl
 rw [e]
 have HC := hI (fun W => strCompare_any x0 y0 W)
 generalize ord slt x0 y0 = r at HC ⊢
 clear e
 go_enter Tryz.func87, Tryz.ntmps87
 go_wp2_with fail
 rw [← HW1.out]
 go_wp2_with ((with_reducible refine (HC.out _).mono ?_); rintro e w9 ⟨rfl, rfl⟩)
 go_ret
 exact ⟨rfl, HB1.out⟩
theorem yld_boxi {P : Program} {ops : Array Oper} {S : World → Prop} {op : Oper} {a : Act} (hw : Region.wanted op (yielded ops a.tmps) = true) (ty : TypeId) (x : Operand) (ho : op.op = .load ty x)
 (k : Nat) (hx : a.eval x = .pointer (some ⟨k, 0, none⟩)) (T : TypeId) (cs : Array Value) (hS : ∀ w, S w → St T k cs w) (d : TypeDesc) (hu : P.underlying ty = some d) (hd : (match d with | .struct _ | .array _ _ => true | _ => false) = true) (hi : (P.info? ty).map (·.size) = some cs.size) :
 YieldsIf P ops S op (.agg cs) a := .inl ⟨hw, fun w hw' => by
 unfold execOp
 simp only [ho, hx, Instr.loadAt, Instr.sureAddr, Sem.run_bind, Sem.run_pure, Result.andThen_ok, run_loadVar_row w k T ty cs (0, 0) d (hS w hw') hu hd hi]⟩
end Go.Proofs.YtngfknplljedeaaGreat
namespace Go.Proofs.YtngfknplljedeaaGreat
open Go.RowKit
section
variable {α : Type}
structure Place (lt : α → α → Bool) (xs : List α) (x : α) (i : Nat) : Prop where
 le : i ≤ xs.length
 low : ∀ (j : Nat) y, j < i → xs[j]? = some y → lt y x = true
 high : ∀ (j : Nat) y, i ≤ j → xs[j]? = some y → lt y x = false
def isAt (lt : α → α → Bool) (xs : List α) (x : α) (i : Nat) : Bool := match xs[i]? with | some y => decide (ord lt y x = 0) | none => false
end
end Go.Proofs.YtngfknplljedeaaGreat
namespace Go.Proofs.YtngfknplljedeaaGreat
open Go.RowKit
set_option maxRecDepth 100000 in
set_option maxHeartbeats 2000000 in
theorem sxBsHeld_any (v : Value) (xs : List Hd) (x : Hd) (g : Nat) (w : World) (h : RowsAt w.heap.size 3 Hd.vs v xs w) (hm : xs.length ≤ 1073741823) (eg : ∀ args w, (callFunc g args).run Tryz.prog w = .ok (.enter g args) w)
 (ho : ∀ (W : World) (y z : Hd), Calls Tryz.prog g #[.agg y.vs.toArray, .agg z.vs.toArray] W fun e w' => e = .returned (.int .i64 (ord ltHd y z)) ∧ Below W.heap.size W w')
 (hmono : ∀ (i j : Nat) y z, i ≤ j → xs[i]? = some y → xs[j]? = some z → ltHd z x = true → ltHd y x = true) :
 Calls Tryz.prog 174 #[v, .agg x.vs.toArray, .func (.func g) #[] #[]] w fun e w' => (∃ i : Nat, e = .returned (.tuple #[.int .i64 i, .bool (isAt ltHd xs x i)]) ∧ Place ltHd xs x i) ∧ Below w.heap.size w w' := by
 obtain ⟨w1, hw1⟩ : ∃ w1, w1 = w.alloc (.cells x.vs.toArray 49 (0, 0)) := ⟨_, rfl⟩
 have hb1 : Below w.heap.size w w1 := by rw [hw1]; exact (Below.refl _ w).alloc (Nat.le_refl _) _
 have hst : St 49 w.heap.size x.vs.toArray w1 := by rw [hw1]; exact St.new w _ _
 obtain ⟨ao, cap, b, off, rfl, hl, hx⟩ := h.walk
 obtain ⟨n, hn⟩ : ∃ n, n = xs.length := ⟨_, rfl⟩
 have HN := hI hn
 rw [← hn] at hl hx hm ⊢
 have HX := hI (show ∀ i, i < n → ∃ y : Hd, xs[i]? = some y ∧ ao = some ⟨b, off, none⟩ ∧ ∀ W, Below w1.heap.size w1 W → (W.rangeAt b (off + i * 3) y.vs ∧ St 49 w.heap.size x.vs.toArray W) from fun i hi => by
  obtain ⟨y, e1, e2, e3, e4⟩ := hx i hi
  exact ⟨y, e1, e2, fun W hW => ⟨fun j u hu => ((hb1.trans (hW.mono hb1.size)).cell (p := ⟨b, off + i * 3 + j, none⟩) e3).trans (e4 j u hu), hst.below hW⟩⟩)
 have HXS := hI (show ∀ W, Below w1.heap.size w1 W → St 49 w.heap.size x.vs.toArray W from fun W hW => hst.below hW)
 have HO := hI ho
 have HM := hI hmono
 have HW1 := hI hw1
 have HB1 := hI hb1
 have HLE := hI (show ∀ i, (i : Nat) ≤ n → i ≤ xs.length from fun i hi => by rw [← hn]; exact hi)
 clear hx h hn ho hmono hst hb1 hw1
 go_enter Tryz.func174, Tryz.ntmps174
 go_wp2_with fail
 rw [← HW1.out]
 go_wp2_with fail
 go_loopw [9, 10, 11] (fun s9 s10 _ wr => ∃ lo hi : Nat, s9 = .int .i64 lo ∧ s10 = .int .i64 hi ∧ lo ≤ hi ∧ hi ≤ n ∧ Below w1.heap.size w1 wr ∧ (∀ (j : Nat) y, j < lo → xs[j]? = some y → ltHd y x = true) ∧ (∀ (j : Nat) y, hi ≤ j → xs[j]? = some y → ltHd y x = false)) (fun s9 s10 _ _ => (intOf s10).toNat - (intOf s9).toNat)
 case atStart => exact ⟨0, n, rfl, rfl, Nat.zero_le _, Nat.le_refl _, Below.refl _ _, fun j y h => absurd h (Nat.not_lt_zero _), fun j y h e => by have := (List.getElem?_eq_some_iff.1 e).1; rw [← HN.out] at this; omega⟩
 case round =>
  obtain ⟨lo, hi, rfl, rfl, hlh, hhn, hbel, hlow, hhigh⟩ := hrel
  have HB := hI hbel
  have HLow := hI hlow
  have HHigh := hI hhigh
  clear hbel hlow hhigh
  by_cases hlt : lo < hi
  · obtain ⟨m, hmm⟩ : ∃ m, m = (lo + hi) / 2 := ⟨_, rfl⟩
    obtain ⟨y, hy, rfl, hy2⟩ := HX.out m (by omega)
    have HY := hI hy
    have HY2 := hI hy2
    have m1 : ((lo : Int) + (hi : Int)) / 2 = (m : Int) := by omega
    have m2 : m < n := by omega
    have m3 : lo ≤ m := by omega
    have m4 : m < hi := by omega
    have i0 : (0 : Int) ≤ (m : Int) := by omega
    have i1 : (m : Int) < (n : Int) := by omega
    clear hy hy2 hmm
    have HBD := hI (show Below w1.heap.size w1 wr.drew from HB.out.drew)
    have C0 := hI (HY2.out _ HBD.out)
    go_wp2_with fail
    obtain ⟨r, hr⟩ : ∃ r, r = ord ltHd y x := ⟨_, rfl⟩
    have HCL := hI (fun W => HO.out W y x)
    rw [← hr] at HCL
    have HRR := hI hr
    clear hr
    by_cases hq : r < 0
    · have HQ := hI (show ord ltHd y x < 0 from by rw [← HRR.out]; exact hq)
      have dq : decide (r < 0) = true := decide_eq_true hq
      clear hq
      refine wp_region_held (S := (fun W => W.rangeAt b (off + m * 3) y.vs ∧ St 49 w.heap.size x.vs.toArray W)) (by kernel_rfl) ?_
      change wpAnyH _ _ _ _ _ _ _ _ (World.drew _)
      generalize World.drew wr = WD at HBD C0 ⊢
      refine tkp 0 (.func (.func g) #[] #[]) rfl (by kernel_rfl) q3 (fun w' hS => ?_) C0.out ?_
      · clear hS; go_simp
      try go_simp
      refine tkp 1 (.slice (some ⟨b, off, none⟩) n cap) rfl (by kernel_rfl) q3 (fun w' hS => ?_) C0.out ?_
      · clear hS; go_simp
      try go_simp
      refine tkp 2 (.int .i64 (m : Int)) rfl (by kernel_rfl) q3 (fun w' hS => ?_) C0.out ?_
      · clear hS; go_simp
      try go_simp
      refine tkp 3 (.pointer (some ⟨b, off + m * 3, none⟩)) rfl (by kernel_rfl) q3 (fun w' hS => ?_) C0.out ?_
      · clear hS; go_simp
      try go_simp
      refine tkl 4 (.agg y.vs.toArray) rfl (by kernel_rfl) q3 (yieldsIf_load_mid (by kernel_rfl) 49 (.tmp 27) rfl b (off + m * 3) (by first | rfl | simp [Act.eval, Act.put]) y.vs _ (fun w' hS => hS.1) Tryz.underlying49 rfl (by kernel_rfl)) C0.out ?_
      try go_simp
      refine tkl 5 (.agg x.vs.toArray) rfl (by kernel_rfl) q3 (yld_boxi (by kernel_rfl) 49 (.tmp 4) rfl (w.heap.size) (by first | rfl | simp [Act.eval, Act.put]) 49 x.vs.toArray (fun w' hS => hS.2) _ Tryz.underlying49 rfl (by kernel_rfl)) C0.out ?_
      try go_simp
      refine rd1 6 (by kernel_rfl) rfl fun K hK => ?_
      go_simp
      refine (HCL.out _).mono ?_
      rintro e w7 ⟨rfl, hb⟩
      have B7 := hI (HBD.out.trans (hb.mono HBD.out.size))
      have C7 := hI (HY2.out _ B7.out)
      clear hb
      go_simp
      refine hK.out _ _ C7.out (fun S1 => ?_)
      clear hK K S1
      refine tkp 7 (.bool true) rfl (by kernel_rfl) q3 (fun w' hS => ?_) C7.out ?_
      · clear hS; go_simp
      try go_simp
      refine wpAnyH_done (by kernel_rfl) ?_ _
      go_wp2_with fail
      go_roundw
      case rel => exact ⟨m + 1, hi, by go_num, rfl, by omega, hhn, B7.out, fun j z hj e => HM.out j m z y (by omega) e HY.out (ord_neg.1 HQ.out), HHigh.out⟩
      case measure => simp [intOf]; omega
    · have HQ := hI (show ¬ ord ltHd y x < 0 from by rw [← HRR.out]; exact hq)
      have dq : decide (r < 0) = false := decide_eq_false hq
      clear hq
      refine wp_region_held (S := (fun W => W.rangeAt b (off + m * 3) y.vs ∧ St 49 w.heap.size x.vs.toArray W)) (by kernel_rfl) ?_
      change wpAnyH _ _ _ _ _ _ _ _ (World.drew _)
      generalize World.drew wr = WD at HBD C0 ⊢
      refine tkp 0 (.func (.func g) #[] #[]) rfl (by kernel_rfl) q3 (fun w' hS => ?_) C0.out ?_
      · clear hS; go_simp
      try go_simp
      refine tkp 1 (.slice (some ⟨b, off, none⟩) n cap) rfl (by kernel_rfl) q3 (fun w' hS => ?_) C0.out ?_
      · clear hS; go_simp
      try go_simp
      refine tkp 2 (.int .i64 (m : Int)) rfl (by kernel_rfl) q3 (fun w' hS => ?_) C0.out ?_
      · clear hS; go_simp
      try go_simp
      refine tkp 3 (.pointer (some ⟨b, off + m * 3, none⟩)) rfl (by kernel_rfl) q3 (fun w' hS => ?_) C0.out ?_
      · clear hS; go_simp
      try go_simp
      refine tkl 4 (.agg y.vs.toArray) rfl (by kernel_rfl) q3 (yieldsIf_load_mid (by kernel_rfl) 49 (.tmp 27) rfl b (off + m * 3) (by first | rfl | simp [Act.eval, Act.put]) y.vs _ (fun w' hS => hS.1) Tryz.underlying49 rfl (by kernel_rfl)) C0.out ?_
      try go_simp
      refine tkl 5 (.agg x.vs.toArray) rfl (by kernel_rfl) q3 (yld_boxi (by kernel_rfl) 49 (.tmp 4) rfl (w.heap.size) (by first | rfl | simp [Act.eval, Act.put]) 49 x.vs.toArray (fun w' hS => hS.2) _ Tryz.underlying49 rfl (by kernel_rfl)) C0.out ?_
      try go_simp
      refine rd1 6 (by kernel_rfl) rfl fun K hK => ?_
      go_simp
      refine (HCL.out _).mono ?_
      rintro e w7 ⟨rfl, hb⟩
      have B7 := hI (HBD.out.trans (hb.mono HBD.out.size))
      have C7 := hI (HY2.out _ B7.out)
      clear hb
      go_simp
      refine hK.out _ _ C7.out (fun S1 => ?_)
      clear hK K S1
      refine tkp 7 (.bool false) rfl (by kernel_rfl) q3 (fun w' hS => ?_) C7.out ?_
      · clear hS; go_simp
      try go_simp
      refine wpAnyH_done (by kernel_rfl) ?_ _
      go_wp2_with fail
      go_roundw
      case rel => exact ⟨lo, m, rfl, rfl, by omega, by omega, B7.out, HLow.out, fun j z hj e => by
       cases hz : ltHd z x with
       | false => rfl
       | true => exact absurd (ord_neg.2 (HM.out m j y z (by omega) HY.out e hz)) HQ.out⟩
      case measure => simp [intOf]; omega
  · obtain rfl : lo = hi := by omega
    clear hlt hlh
    have HP := hI (show Place ltHd xs x lo from ⟨HLE.out lo hhn, HLow.out, HHigh.out⟩)
    have HBD := hI (show Below w1.heap.size w1 wr.drew from HB.out.drew)
    by_cases hln : lo < n
    · obtain ⟨y, hy, rfl, hy2⟩ := HX.out lo hln
      have HY2 := hI hy2
      have C0 := hI (HY2.out _ HBD.out)
      have i0 : (0 : Int) ≤ (lo : Int) := by omega
      have i1 : (lo : Int) < (n : Int) := by omega
      have hia : isAt ltHd xs x lo = decide (ord ltHd y x = 0) := by unfold isAt; rw [hy]
      obtain ⟨r, hr⟩ : ∃ r, r = ord ltHd y x := ⟨_, rfl⟩
      have HCL := hI (fun W => HO.out W y x)
      rw [← hr] at HCL hia
      have HIA := hI hia
      obtain ⟨f, hf⟩ : ∃ f, f = (r == 0) := ⟨_, rfl⟩
      have hf2 := hf.symm
      have HFF := hI hf
      clear hy hy2 hia hr hf
      go_wp2_with fail
      refine wp_region_held (S := (fun W => W.rangeAt b (off + lo * 3) y.vs ∧ St 49 w.heap.size x.vs.toArray W)) (by kernel_rfl) ?_
      change wpAnyH _ _ _ _ _ _ _ _ (World.drew _)
      generalize World.drew wr = WD at HBD C0 ⊢
      refine tkp 0 (.int .i64 (lo : Int)) rfl (by kernel_rfl) q3 (fun w' hS => ?_) C0.out ?_
      · clear hS; go_simp
      try go_simp
      refine tkp 1 (.int .i64 (lo : Int)) rfl (by kernel_rfl) q3 (fun w' hS => ?_) C0.out ?_
      · clear hS; go_simp
      try go_simp
      refine tkp 2 (.int .i64 (n : Int)) rfl (by kernel_rfl) q3 (fun w' hS => ?_) C0.out ?_
      · clear hS; go_simp
      try go_simp
      refine tkp 3 (.bool true) rfl (by kernel_rfl) q3 (fun w' hS => ?_) C0.out ?_
      · clear hS; go_simp
      try go_simp
      refine tkp 4 (.bool true) rfl (by kernel_rfl) q3 (fun w' hS => ?_) C0.out ?_
      · clear hS; go_simp
      try go_simp
      refine tkp 5 (.func (.func g) #[] #[]) rfl (by kernel_rfl) q3 (fun w' hS => ?_) C0.out ?_
      · clear hS; go_simp
      try go_simp
      refine tkp 6 (.slice (some ⟨b, off, none⟩) n cap) rfl (by kernel_rfl) q3 (fun w' hS => ?_) C0.out ?_
      · clear hS; go_simp
      try go_simp
      refine tkp 7 (.int .i64 (lo : Int)) rfl (by kernel_rfl) q3 (fun w' hS => ?_) C0.out ?_
      · clear hS; go_simp
      try go_simp
      refine tkp 8 (.pointer (some ⟨b, off + lo * 3, none⟩)) rfl (by kernel_rfl) q3 (fun w' hS => ?_) C0.out ?_
      · clear hS; go_simp
      try go_simp
      refine tkl 9 (.agg y.vs.toArray) rfl (by kernel_rfl) q3 (yieldsIf_load_mid (by kernel_rfl) 49 (.tmp 43) rfl b (off + lo * 3) (by first | rfl | simp [Act.eval, Act.put]) y.vs _ (fun w' hS => hS.1) Tryz.underlying49 rfl (by kernel_rfl)) C0.out ?_
      try go_simp
      refine tkl 10 (.agg x.vs.toArray) rfl (by kernel_rfl) q3 (yld_boxi (by kernel_rfl) 49 (.tmp 4) rfl (w.heap.size) (by first | rfl | simp [Act.eval, Act.put]) 49 x.vs.toArray (fun w' hS => hS.2) _ Tryz.underlying49 rfl (by kernel_rfl)) C0.out ?_
      try go_simp
      refine rd1 11 (by kernel_rfl) rfl fun K hK => ?_
      go_simp
      refine (HCL.out _).mono ?_
      rintro e w7 ⟨rfl, hb⟩
      have B7 := hI (HBD.out.trans (hb.mono HBD.out.size))
      have C7 := hI (HY2.out _ B7.out)
      clear hb
      go_simp
      refine hK.out _ _ C7.out (fun S1 => ?_)
      clear hK K S1
      refine tkp 12 (.bool f) rfl (by kernel_rfl) q3 (fun w' hS => ?_) C7.out ?_
      · clear hS; go_simp
      try go_simp
      refine tkp 13 (.bool f) rfl (by kernel_rfl) q3 (fun w' hS => ?_) C7.out ?_
      · clear hS; go_simp
      try go_simp
      refine rd1 14 (by kernel_rfl) rfl fun K hK => ?_
      go_simp
      refine hK.out _ _ C7.out (fun S1 => ?_)
      clear hK K S1
      refine rd1 15 (by kernel_rfl) rfl fun K hK => ?_
      go_simp
      refine hK.out _ _ C7.out (fun S1 => ?_)
      clear hK K S1
      refine wpAnyH_done (by kernel_rfl) ?_ _
      go_wp2_with fail
      go_ret2
      refine ⟨⟨lo, ?_, HP.out⟩, HB1.out.trans (B7.out.mono HB1.out.size)⟩
      rw [HIA.out, HFF.out]
      rfl
    · have i1 : ¬ (lo : Int) < (n : Int) := by omega
      have hia : isAt ltHd xs x lo = false := by
       unfold isAt
       rw [List.getElem?_eq_none (by rw [← HN.out]; omega)]
      have HIA := hI hia
      have C0 := hI (HXS.out _ HBD.out)
      clear hia
      go_wp2_with fail
      refine wp_region_held (S := (fun W => St 49 w.heap.size x.vs.toArray W)) (by kernel_rfl) ?_
      change wpAnyH _ _ _ _ _ _ _ _ (World.drew _)
      generalize World.drew wr = WD at HBD C0 ⊢
      refine tkp 0 (.int .i64 (lo : Int)) rfl (by kernel_rfl) q3 (fun w' hS => ?_) C0.out ?_
      · clear hS; go_simp
      try go_simp
      refine tkp 1 (.int .i64 (lo : Int)) rfl (by kernel_rfl) q3 (fun w' hS => ?_) C0.out ?_
      · clear hS; go_simp
      try go_simp
      refine tkp 2 (.int .i64 (n : Int)) rfl (by kernel_rfl) q3 (fun w' hS => ?_) C0.out ?_
      · clear hS; go_simp
      try go_simp
      refine tkp 3 (.bool false) rfl (by kernel_rfl) q3 (fun w' hS => ?_) C0.out ?_
      · clear hS; go_simp
      try go_simp
      refine tkp 4 (.bool false) rfl (by kernel_rfl) q3 (fun w' hS => ?_) C0.out ?_
      · clear hS; go_simp
      try go_simp
      refine tku 5 rfl (by kernel_rfl) q3 C0.out ?_
      try go_simp
      refine tku 6 rfl (by kernel_rfl) q3 C0.out ?_
      refine tku 7 rfl (by kernel_rfl) q3 C0.out ?_
      try go_simp
      refine tku 8 rfl (by kernel_rfl) q3 C0.out ?_
      refine tku 9 rfl (by kernel_rfl) q3 C0.out ?_
      try go_simp
      refine tku 10 rfl (by kernel_rfl) q3 C0.out ?_
      refine tku 11 rfl (by kernel_rfl) q3 C0.out ?_
      try go_simp
      refine tku 12 rfl (by kernel_rfl) q3 C0.out ?_
      refine tkp 13 (.bool false) rfl (by kernel_rfl) q3 (fun w' hS => ?_) C0.out ?_
      · clear hS; go_simp
      try go_simp
      refine rd1 14 (by kernel_rfl) rfl fun K hK => ?_
      go_simp
      refine hK.out _ _ C0.out (fun S1 => ?_)
      clear hK K S1
      refine rd1 15 (by kernel_rfl) rfl fun K hK => ?_
      go_simp
      refine hK.out _ _ C0.out (fun S1 => ?_)
      clear hK K S1
      refine wpAnyH_done (by kernel_rfl) ?_ _
      go_wp2_with fail
      go_ret2
      refine ⟨⟨lo, ?_, HP.out⟩, HB1.out.trans (HBD.out.mono HB1.out.size)⟩
      rw [HIA.out]
      rfl
set_option maxRecDepth 100000 in
set_option maxHeartbeats 2000000 in
theorem sxBsCached_any (v : Value) (xs : List Cd) (x : Cd) (g : Nat) (w : World) (h : RowsAt w.heap.size 11 Cd.vs v xs w) (hm : xs.length ≤ 1073741823) (eg : ∀ args w, (callFunc g args).run Tryz.prog w = .ok (.enter g args) w)
 (ho : ∀ (W : World) (y z : Cd), Calls Tryz.prog g #[.agg y.vs.toArray, .agg z.vs.toArray] W fun e w' => e = .returned (.int .i64 (ord ltCd y z)) ∧ Below W.heap.size W w')
 (hmono : ∀ (i j : Nat) y z, i ≤ j → xs[i]? = some y → xs[j]? = some z → ltCd z x = true → ltCd y x = true) :
 Calls Tryz.prog 149 #[v, .agg x.vs.toArray, .func (.func g) #[] #[]] w fun e w' => (∃ i : Nat, e = .returned (.tuple #[.int .i64 i, .bool (isAt ltCd xs x i)]) ∧ Place ltCd xs x i) ∧ Below w.heap.size w w' := by
 obtain ⟨w1, hw1⟩ : ∃ w1, w1 = w.alloc (.cells x.vs.toArray 57 (0, 0)) := ⟨_, rfl⟩
 have hb1 : Below w.heap.size w w1 := by rw [hw1]; exact (Below.refl _ w).alloc (Nat.le_refl _) _
 have hst : St 57 w.heap.size x.vs.toArray w1 := by rw [hw1]; exact St.new w _ _
 obtain ⟨ao, cap, b, off, rfl, hl, hx⟩ := h.walk
 obtain ⟨n, hn⟩ : ∃ n, n = xs.length := ⟨_, rfl⟩
 have HN := hI hn
 rw [← hn] at hl hx hm ⊢
 have HX := hI (show ∀ i, i < n → ∃ y : Cd, xs[i]? = some y ∧ ao = some ⟨b, off, none⟩ ∧ ∀ W, Below w1.heap.size w1 W → (W.rangeAt b (off + i * 11) y.vs ∧ St 57 w.heap.size x.vs.toArray W) from fun i hi => by
  obtain ⟨y, e1, e2, e3, e4⟩ := hx i hi
  exact ⟨y, e1, e2, fun W hW => ⟨fun j u hu => ((hb1.trans (hW.mono hb1.size)).cell (p := ⟨b, off + i * 11 + j, none⟩) e3).trans (e4 j u hu), hst.below hW⟩⟩)
 have HXS := hI (show ∀ W, Below w1.heap.size w1 W → St 57 w.heap.size x.vs.toArray W from fun W hW => hst.below hW)
 have HO := hI ho
 have HM := hI hmono
 have HW1 := hI hw1
 have HB1 := hI hb1
 have HLE := hI (show ∀ i, (i : Nat) ≤ n → i ≤ xs.length from fun i hi => by rw [← hn]; exact hi)
 clear hx h hn ho hmono hst hb1 hw1
 go_enter Tryz.func149, Tryz.ntmps149
 go_wp2_with fail
 rw [← HW1.out]
 go_wp2_with fail
 go_loopw [9, 10, 11] (fun s9 s10 _ wr => ∃ lo hi : Nat, s9 = .int .i64 lo ∧ s10 = .int .i64 hi ∧ lo ≤ hi ∧ hi ≤ n ∧ Below w1.heap.size w1 wr ∧ (∀ (j : Nat) y, j < lo → xs[j]? = some y → ltCd y x = true) ∧ (∀ (j : Nat) y, hi ≤ j → xs[j]? = some y → ltCd y x = false)) (fun s9 s10 _ _ => (intOf s10).toNat - (intOf s9).toNat)
 case atStart => exact ⟨0, n, rfl, rfl, Nat.zero_le _, Nat.le_refl _, Below.refl _ _, fun j y h => absurd h (Nat.not_lt_zero _), fun j y h e => by have := (List.getElem?_eq_some_iff.1 e).1; rw [← HN.out] at this; omega⟩
 case round =>
  obtain ⟨lo, hi, rfl, rfl, hlh, hhn, hbel, hlow, hhigh⟩ := hrel
  have HB := hI hbel
  have HLow := hI hlow
  have HHigh := hI hhigh
  clear hbel hlow hhigh
  by_cases hlt : lo < hi
  · obtain ⟨m, hmm⟩ : ∃ m, m = (lo + hi) / 2 := ⟨_, rfl⟩
    obtain ⟨y, hy, rfl, hy2⟩ := HX.out m (by omega)
    have HY := hI hy
    have HY2 := hI hy2
    have m1 : ((lo : Int) + (hi : Int)) / 2 = (m : Int) := by omega
    have m2 : m < n := by omega
    have m3 : lo ≤ m := by omega
    have m4 : m < hi := by omega
    have i0 : (0 : Int) ≤ (m : Int) := by omega
    have i1 : (m : Int) < (n : Int) := by omega
    clear hy hy2 hmm
    have HBD := hI (show Below w1.heap.size w1 wr.drew from HB.out.drew)
    have C0 := hI (HY2.out _ HBD.out)
    go_wp2_with fail
    obtain ⟨r, hr⟩ : ∃ r, r = ord ltCd y x := ⟨_, rfl⟩
    have HCL := hI (fun W => HO.out W y x)
    rw [← hr] at HCL
    have HRR := hI hr
    clear hr
    by_cases hq : r < 0
    · have HQ := hI (show ord ltCd y x < 0 from by rw [← HRR.out]; exact hq)
      have dq : decide (r < 0) = true := decide_eq_true hq
      clear hq
      refine wp_region_held (S := (fun W => W.rangeAt b (off + m * 11) y.vs ∧ St 57 w.heap.size x.vs.toArray W)) (by kernel_rfl) ?_
      change wpAnyH _ _ _ _ _ _ _ _ (World.drew _)
      generalize World.drew wr = WD at HBD C0 ⊢
      refine tkp 0 (.func (.func g) #[] #[]) rfl (by kernel_rfl) q3 (fun w' hS => ?_) C0.out ?_
      · clear hS; go_simp
      try go_simp
      refine tkp 1 (.slice (some ⟨b, off, none⟩) n cap) rfl (by kernel_rfl) q3 (fun w' hS => ?_) C0.out ?_
      · clear hS; go_simp
      try go_simp
      refine tkp 2 (.int .i64 (m : Int)) rfl (by kernel_rfl) q3 (fun w' hS => ?_) C0.out ?_
      · clear hS; go_simp
      try go_simp
      refine tkp 3 (.pointer (some ⟨b, off + m * 11, none⟩)) rfl (by kernel_rfl) q3 (fun w' hS => ?_) C0.out ?_
      · clear hS; go_simp
      try go_simp
      refine tkl 4 (.agg y.vs.toArray) rfl (by kernel_rfl) q3 (yieldsIf_load_mid (by kernel_rfl) 57 (.tmp 27) rfl b (off + m * 11) (by first | rfl | simp [Act.eval, Act.put]) y.vs _ (fun w' hS => hS.1) Tryz.underlying57 rfl (by kernel_rfl)) C0.out ?_
      try go_simp
      refine tkl 5 (.agg x.vs.toArray) rfl (by kernel_rfl) q3 (yld_boxi (by kernel_rfl) 57 (.tmp 4) rfl (w.heap.size) (by first | rfl | simp [Act.eval, Act.put]) 57 x.vs.toArray (fun w' hS => hS.2) _ Tryz.underlying57 rfl (by kernel_rfl)) C0.out ?_
      try go_simp
      refine rd1 6 (by kernel_rfl) rfl fun K hK => ?_
      go_simp
      refine (HCL.out _).mono ?_
      rintro e w7 ⟨rfl, hb⟩
      have B7 := hI (HBD.out.trans (hb.mono HBD.out.size))
      have C7 := hI (HY2.out _ B7.out)
      clear hb
      go_simp
      refine hK.out _ _ C7.out (fun S1 => ?_)
      clear hK K S1
      refine tkp 7 (.bool true) rfl (by kernel_rfl) q3 (fun w' hS => ?_) C7.out ?_
      · clear hS; go_simp
      try go_simp
      refine wpAnyH_done (by kernel_rfl) ?_ _
      go_wp2_with fail
      go_roundw
      case rel => exact ⟨m + 1, hi, by go_num, rfl, by omega, hhn, B7.out, fun j z hj e => HM.out j m z y (by omega) e HY.out (ord_neg.1 HQ.out), HHigh.out⟩
      case measure => simp [intOf]; omega
    · have HQ := hI (show ¬ ord ltCd y x < 0 from by rw [← HRR.out]; exact hq)
      have dq : decide (r < 0) = false := decide_eq_false hq
      clear hq
      refine wp_region_held (S := (fun W => W.rangeAt b (off + m * 11) y.vs ∧ St 57 w.heap.size x.vs.toArray W)) (by kernel_rfl) ?_
      change wpAnyH _ _ _ _ _ _ _ _ (World.drew _)
      generalize World.drew wr = WD at HBD C0 ⊢
      refine tkp 0 (.func (.func g) #[] #[]) rfl (by kernel_rfl) q3 (fun w' hS => ?_) C0.out ?_
      · clear hS; go_simp
      try go_simp
      refine tkp 1 (.slice (some ⟨b, off, none⟩) n cap) rfl (by kernel_rfl) q3 (fun w' hS => ?_) C0.out ?_
      · clear hS; go_simp
      try go_simp
      refine tkp 2 (.int .i64 (m : Int)) rfl (by kernel_rfl) q3 (fun w' hS => ?_) C0.out ?_
      · clear hS; go_simp
      try go_simp
      refine tkp 3 (.pointer (some ⟨b, off + m * 11, none⟩)) rfl (by kernel_rfl) q3 (fun w' hS => ?_) C0.out ?_
      · clear hS; go_simp
      try go_simp
      refine tkl 4 (.agg y.vs.toArray) rfl (by kernel_rfl) q3 (yieldsIf_load_mid (by kernel_rfl) 57 (.tmp 27) rfl b (off + m * 11) (by first | rfl | simp [Act.eval, Act.put]) y.vs _ (fun w' hS => hS.1) Tryz.underlying57 rfl (by kernel_rfl)) C0.out ?_
      try go_simp
      refine tkl 5 (.agg x.vs.toArray) rfl (by kernel_rfl) q3 (yld_boxi (by kernel_rfl) 57 (.tmp 4) rfl (w.heap.size) (by first | rfl | simp [Act.eval, Act.put]) 57 x.vs.toArray (fun w' hS => hS.2) _ Tryz.underlying57 rfl (by kernel_rfl)) C0.out ?_
      try go_simp
      refine rd1 6 (by kernel_rfl) rfl fun K hK => ?_
      go_simp
      refine (HCL.out _).mono ?_
      rintro e w7 ⟨rfl, hb⟩
      have B7 := hI (HBD.out.trans (hb.mono HBD.out.size))
      have C7 := hI (HY2.out _ B7.out)
      clear hb
      go_simp
      refine hK.out _ _ C7.out (fun S1 => ?_)
      clear hK K S1
      refine tkp 7 (.bool false) rfl (by kernel_rfl) q3 (fun w' hS => ?_) C7.out ?_
      · clear hS; go_simp
      try go_simp
      refine wpAnyH_done (by kernel_rfl) ?_ _
      go_wp2_with fail
      go_roundw
      case rel => exact ⟨lo, m, rfl, rfl, by omega, by omega, B7.out, HLow.out, fun j z hj e => by
       cases hz : ltCd z x with
       | false => rfl
       | true => exact absurd (ord_neg.2 (HM.out m j y z (by omega) HY.out e hz)) HQ.out⟩
      case measure => simp [intOf]; omega
  · obtain rfl : lo = hi := by omega
    clear hlt hlh
    have HP := hI (show Place ltCd xs x lo from ⟨HLE.out lo hhn, HLow.out, HHigh.out⟩)
    have HBD := hI (show Below w1.heap.size w1 wr.drew from HB.out.drew)
    by_cases hln : lo < n
    · obtain ⟨y, hy, rfl, hy2⟩ := HX.out lo hln
      have HY2 := hI hy2
      have C0 := hI (HY2.out _ HBD.out)
      have i0 : (0 : Int) ≤ (lo : Int) := by omega
      have i1 : (lo : Int) < (n : Int) := by omega
      have hia : isAt ltCd xs x lo = decide (ord ltCd y x = 0) := by unfold isAt; rw [hy]
      obtain ⟨r, hr⟩ : ∃ r, r = ord ltCd y x := ⟨_, rfl⟩
      have HCL := hI (fun W => HO.out W y x)
      rw [← hr] at HCL hia
      have HIA := hI hia
      obtain ⟨f, hf⟩ : ∃ f, f = (r == 0) := ⟨_, rfl⟩
      have hf2 := hf.symm
      have HFF := hI hf
      clear hy hy2 hia hr hf
      go_wp2_with fail
      refine wp_region_held (S := (fun W => W.rangeAt b (off + lo * 11) y.vs ∧ St 57 w.heap.size x.vs.toArray W)) (by kernel_rfl) ?_
      change wpAnyH _ _ _ _ _ _ _ _ (World.drew _)
      generalize World.drew wr = WD at HBD C0 ⊢
      refine tkp 0 (.int .i64 (lo : Int)) rfl (by kernel_rfl) q3 (fun w' hS => ?_) C0.out ?_
      · clear hS; go_simp
      try go_simp
      refine tkp 1 (.int .i64 (lo : Int)) rfl (by kernel_rfl) q3 (fun w' hS => ?_) C0.out ?_
      · clear hS; go_simp
      try go_simp
      refine tkp 2 (.int .i64 (n : Int)) rfl (by kernel_rfl) q3 (fun w' hS => ?_) C0.out ?_
      · clear hS; go_simp
      try go_simp
      refine tkp 3 (.bool true) rfl (by kernel_rfl) q3 (fun w' hS => ?_) C0.out ?_
      · clear hS; go_simp
      try go_simp
      refine tkp 4 (.bool true) rfl (by kernel_rfl) q3 (fun w' hS => ?_) C0.out ?_
      · clear hS; go_simp
      try go_simp
      refine tkp 5 (.func (.func g) #[] #[]) rfl (by kernel_rfl) q3 (fun w' hS => ?_) C0.out ?_
      · clear hS; go_simp
      try go_simp
      refine tkp 6 (.slice (some ⟨b, off, none⟩) n cap) rfl (by kernel_rfl) q3 (fun w' hS => ?_) C0.out ?_
      · clear hS; go_simp
      try go_simp
      refine tkp 7 (.int .i64 (lo : Int)) rfl (by kernel_rfl) q3 (fun w' hS => ?_) C0.out ?_
      · clear hS; go_simp
      try go_simp
      refine tkp 8 (.pointer (some ⟨b, off + lo * 11, none⟩)) rfl (by kernel_rfl) q3 (fun w' hS => ?_) C0.out ?_
      · clear hS; go_simp
      try go_simp
      refine tkl 9 (.agg y.vs.toArray) rfl (by kernel_rfl) q3 (yieldsIf_load_mid (by kernel_rfl) 57 (.tmp 43) rfl b (off + lo * 11) (by first | rfl | simp [Act.eval, Act.put]) y.vs _ (fun w' hS => hS.1) Tryz.underlying57 rfl (by kernel_rfl)) C0.out ?_
      try go_simp
      refine tkl 10 (.agg x.vs.toArray) rfl (by kernel_rfl) q3 (yld_boxi (by kernel_rfl) 57 (.tmp 4) rfl (w.heap.size) (by first | rfl | simp [Act.eval, Act.put]) 57 x.vs.toArray (fun w' hS => hS.2) _ Tryz.underlying57 rfl (by kernel_rfl)) C0.out ?_
      try go_simp
      refine rd1 11 (by kernel_rfl) rfl fun K hK => ?_
      go_simp
      refine (HCL.out _).mono ?_
      rintro e w7 ⟨rfl, hb⟩
      have B7 := hI (HBD.out.trans (hb.mono HBD.out.size))
      have C7 := hI (HY2.out _ B7.out)
      clear hb
      go_simp
      refine hK.out _ _ C7.out (fun S1 => ?_)
      clear hK K S1
      refine tkp 12 (.bool f) rfl (by kernel_rfl) q3 (fun w' hS => ?_) C7.out ?_
      · clear hS; go_simp
      try go_simp
      refine tkp 13 (.bool f) rfl (by kernel_rfl) q3 (fun w' hS => ?_) C7.out ?_
      · clear hS; go_simp
      try go_simp
      refine rd1 14 (by kernel_rfl) rfl fun K hK => ?_
      go_simp
      refine hK.out _ _ C7.out (fun S1 => ?_)
      clear hK K S1
      refine rd1 15 (by kernel_rfl) rfl fun K hK => ?_
      go_simp
      refine hK.out _ _ C7.out (fun S1 => ?_)
      clear hK K S1
      refine wpAnyH_done (by kernel_rfl) ?_ _
      go_wp2_with fail
      go_ret2
      refine ⟨⟨lo, ?_, HP.out⟩, HB1.out.trans (B7.out.mono HB1.out.size)⟩
      rw [HIA.out, HFF.out]
      rfl
    · have i1 : ¬ (lo : Int) < (n : Int) := by omega
      have hia : isAt ltCd xs x lo = false := by
       unfold isAt
       rw [List.getElem?_eq_none (by rw [← HN.out]; omega)]
      have HIA := hI hia
      have C0 := hI (HXS.out _ HBD.out)
      clear hia
      go_wp2_with fail
      refine wp_region_held (S := (fun W => St 57 w.heap.size x.vs.toArray W)) (by kernel_rfl) ?_
      change wpAnyH _ _ _ _ _ _ _ _ (World.drew _)
      generalize World.drew wr = WD at HBD C0 ⊢
      refine tkp 0 (.int .i64 (lo : Int)) rfl (by kernel_rfl) q3 (fun w' hS => ?_) C0.out ?_
      · clear hS; go_simp
      try go_simp
      refine tkp 1 (.int .i64 (lo : Int)) rfl (by kernel_rfl) q3 (fun w' hS => ?_) C0.out ?_
      · clear hS; go_simp
      try go_simp
      refine tkp 2 (.int .i64 (n : Int)) rfl (by kernel_rfl) q3 (fun w' hS => ?_) C0.out ?_
      · clear hS; go_simp
      try go_simp
      refine tkp 3 (.bool false) rfl (by kernel_rfl) q3 (fun w' hS => ?_) C0.out ?_
      · clear hS; go_simp
      try go_simp
      refine tkp 4 (.bool false) rfl (by kernel_rfl) q3 (fun w' hS => ?_) C0.out ?_
      · clear hS; go_simp
      try go_simp
      refine tku 5 rfl (by kernel_rfl) q3 C0.out ?_
      try go_simp
      refine tku 6 rfl (by kernel_rfl) q3 C0.out ?_
      refine tku 7 rfl (by kernel_rfl) q3 C0.out ?_
      try go_simp
      refine tku 8 rfl (by kernel_rfl) q3 C0.out ?_
      refine tku 9 rfl (by kernel_rfl) q3 C0.out ?_
      try go_simp
      refine tku 10 rfl (by kernel_rfl) q3 C0.out ?_
      refine tku 11 rfl (by kernel_rfl) q3 C0.out ?_
      try go_simp
      refine tku 12 rfl (by kernel_rfl) q3 C0.out ?_
      refine tkp 13 (.bool false) rfl (by kernel_rfl) q3 (fun w' hS => ?_) C0.out ?_
      · clear hS; go_simp
      try go_simp
      refine rd1 14 (by kernel_rfl) rfl fun K hK => ?_
      go_simp
      refine hK.out _ _ C0.out (fun S1 => ?_)
      clear hK K S1
      refine rd1 15 (by kernel_rfl) rfl fun K hK => ?_
      go_simp
      refine hK.out _ _ C0.out (fun S1 => ?_)
      clear hK K S1
      refine wpAnyH_done (by kernel_rfl) ?_ _
      go_wp2_with fail
      go_ret2
      refine ⟨⟨lo, ?_, HP.out⟩, HB1.out.trans (HBD.out.mono HB1.out.size)⟩
      rw [HIA.out]
      rfl
set_option maxRecDepth 100000 in
set_option maxHeartbeats 2000000 in
theorem sxBsKnown_any (v : Value) (xs : List Kn) (x : Kn) (g : Nat) (w : World) (h : RowsAt w.heap.size 3 Kn.vs v xs w) (hm : xs.length ≤ 1073741823) (eg : ∀ args w, (callFunc g args).run Tryz.prog w = .ok (.enter g args) w)
 (ho : ∀ (W : World) (y z : Kn), Calls Tryz.prog g #[.agg y.vs.toArray, .agg z.vs.toArray] W fun e w' => e = .returned (.int .i64 (ord ltKn y z)) ∧ Below W.heap.size W w')
 (hmono : ∀ (i j : Nat) y z, i ≤ j → xs[i]? = some y → xs[j]? = some z → ltKn z x = true → ltKn y x = true) :
 Calls Tryz.prog 178 #[v, .agg x.vs.toArray, .func (.func g) #[] #[]] w fun e w' => (∃ i : Nat, e = .returned (.tuple #[.int .i64 i, .bool (isAt ltKn xs x i)]) ∧ Place ltKn xs x i) ∧ Below w.heap.size w w' := by
 obtain ⟨w1, hw1⟩ : ∃ w1, w1 = w.alloc (.cells x.vs.toArray 61 (0, 0)) := ⟨_, rfl⟩
 have hb1 : Below w.heap.size w w1 := by rw [hw1]; exact (Below.refl _ w).alloc (Nat.le_refl _) _
 have hst : St 61 w.heap.size x.vs.toArray w1 := by rw [hw1]; exact St.new w _ _
 obtain ⟨ao, cap, b, off, rfl, hl, hx⟩ := h.walk
 obtain ⟨n, hn⟩ : ∃ n, n = xs.length := ⟨_, rfl⟩
 have HN := hI hn
 rw [← hn] at hl hx hm ⊢
 have HX := hI (show ∀ i, i < n → ∃ y : Kn, xs[i]? = some y ∧ ao = some ⟨b, off, none⟩ ∧ ∀ W, Below w1.heap.size w1 W → (W.rangeAt b (off + i * 3) y.vs ∧ St 61 w.heap.size x.vs.toArray W) from fun i hi => by
  obtain ⟨y, e1, e2, e3, e4⟩ := hx i hi
  exact ⟨y, e1, e2, fun W hW => ⟨fun j u hu => ((hb1.trans (hW.mono hb1.size)).cell (p := ⟨b, off + i * 3 + j, none⟩) e3).trans (e4 j u hu), hst.below hW⟩⟩)
 have HXS := hI (show ∀ W, Below w1.heap.size w1 W → St 61 w.heap.size x.vs.toArray W from fun W hW => hst.below hW)
 have HO := hI ho
 have HM := hI hmono
 have HW1 := hI hw1
 have HB1 := hI hb1
 have HLE := hI (show ∀ i, (i : Nat) ≤ n → i ≤ xs.length from fun i hi => by rw [← hn]; exact hi)
 clear hx h hn ho hmono hst hb1 hw1
 go_enter Tryz.func178, Tryz.ntmps178
 go_wp2_with fail
 rw [← HW1.out]
 go_wp2_with fail
 go_loopw [9, 10, 11] (fun s9 s10 _ wr => ∃ lo hi : Nat, s9 = .int .i64 lo ∧ s10 = .int .i64 hi ∧ lo ≤ hi ∧ hi ≤ n ∧ Below w1.heap.size w1 wr ∧ (∀ (j : Nat) y, j < lo → xs[j]? = some y → ltKn y x = true) ∧ (∀ (j : Nat) y, hi ≤ j → xs[j]? = some y → ltKn y x = false)) (fun s9 s10 _ _ => (intOf s10).toNat - (intOf s9).toNat)
 case atStart => exact ⟨0, n, rfl, rfl, Nat.zero_le _, Nat.le_refl _, Below.refl _ _, fun j y h => absurd h (Nat.not_lt_zero _), fun j y h e => by have := (List.getElem?_eq_some_iff.1 e).1; rw [← HN.out] at this; omega⟩
 case round =>
  obtain ⟨lo, hi, rfl, rfl, hlh, hhn, hbel, hlow, hhigh⟩ := hrel
  have HB := hI hbel
  have HLow := hI hlow
  have HHigh := hI hhigh
  clear hbel hlow hhigh
  by_cases hlt : lo < hi
  · obtain ⟨m, hmm⟩ : ∃ m, m = (lo + hi) / 2 := ⟨_, rfl⟩
    obtain ⟨y, hy, rfl, hy2⟩ := HX.out m (by omega)
    have HY := hI hy
    have HY2 := hI hy2
    have m1 : ((lo : Int) + (hi : Int)) / 2 = (m : Int) := by omega
    have m2 : m < n := by omega
    have m3 : lo ≤ m := by omega
    have m4 : m < hi := by omega
    have i0 : (0 : Int) ≤ (m : Int) := by omega
    have i1 : (m : Int) < (n : Int) := by omega
    clear hy hy2 hmm
    have HBD := hI (show Below w1.heap.size w1 wr.drew from HB.out.drew)
    have C0 := hI (HY2.out _ HBD.out)
    go_wp2_with fail
    obtain ⟨r, hr⟩ : ∃ r, r = ord ltKn y x := ⟨_, rfl⟩
    have HCL := hI (fun W => HO.out W y x)
    rw [← hr] at HCL
    have HRR := hI hr
    clear hr
    by_cases hq : r < 0
    · have HQ := hI (show ord ltKn y x < 0 from by rw [← HRR.out]; exact hq)
      have dq : decide (r < 0) = true := decide_eq_true hq
      clear hq
      refine wp_region_held (S := (fun W => W.rangeAt b (off + m * 3) y.vs ∧ St 61 w.heap.size x.vs.toArray W)) (by kernel_rfl) ?_
      change wpAnyH _ _ _ _ _ _ _ _ (World.drew _)
      generalize World.drew wr = WD at HBD C0 ⊢
      refine tkp 0 (.func (.func g) #[] #[]) rfl (by kernel_rfl) q3 (fun w' hS => ?_) C0.out ?_
      · clear hS; go_simp
      try go_simp
      refine tkp 1 (.slice (some ⟨b, off, none⟩) n cap) rfl (by kernel_rfl) q3 (fun w' hS => ?_) C0.out ?_
      · clear hS; go_simp
      try go_simp
      refine tkp 2 (.int .i64 (m : Int)) rfl (by kernel_rfl) q3 (fun w' hS => ?_) C0.out ?_
      · clear hS; go_simp
      try go_simp
      refine tkp 3 (.pointer (some ⟨b, off + m * 3, none⟩)) rfl (by kernel_rfl) q3 (fun w' hS => ?_) C0.out ?_
      · clear hS; go_simp
      try go_simp
      refine tkl 4 (.agg y.vs.toArray) rfl (by kernel_rfl) q3 (yieldsIf_load_mid (by kernel_rfl) 61 (.tmp 27) rfl b (off + m * 3) (by first | rfl | simp [Act.eval, Act.put]) y.vs _ (fun w' hS => hS.1) Tryz.underlying61 rfl (by kernel_rfl)) C0.out ?_
      try go_simp
      refine tkl 5 (.agg x.vs.toArray) rfl (by kernel_rfl) q3 (yld_boxi (by kernel_rfl) 61 (.tmp 4) rfl (w.heap.size) (by first | rfl | simp [Act.eval, Act.put]) 61 x.vs.toArray (fun w' hS => hS.2) _ Tryz.underlying61 rfl (by kernel_rfl)) C0.out ?_
      try go_simp
      refine rd1 6 (by kernel_rfl) rfl fun K hK => ?_
      go_simp
      refine (HCL.out _).mono ?_
      rintro e w7 ⟨rfl, hb⟩
      have B7 := hI (HBD.out.trans (hb.mono HBD.out.size))
      have C7 := hI (HY2.out _ B7.out)
      clear hb
      go_simp
      refine hK.out _ _ C7.out (fun S1 => ?_)
      clear hK K S1
      refine tkp 7 (.bool true) rfl (by kernel_rfl) q3 (fun w' hS => ?_) C7.out ?_
      · clear hS; go_simp
      try go_simp
      refine wpAnyH_done (by kernel_rfl) ?_ _
      go_wp2_with fail
      go_roundw
      case rel => exact ⟨m + 1, hi, by go_num, rfl, by omega, hhn, B7.out, fun j z hj e => HM.out j m z y (by omega) e HY.out (ord_neg.1 HQ.out), HHigh.out⟩
      case measure => simp [intOf]; omega
    · have HQ := hI (show ¬ ord ltKn y x < 0 from by rw [← HRR.out]; exact hq)
      have dq : decide (r < 0) = false := decide_eq_false hq
      clear hq
      refine wp_region_held (S := (fun W => W.rangeAt b (off + m * 3) y.vs ∧ St 61 w.heap.size x.vs.toArray W)) (by kernel_rfl) ?_
      change wpAnyH _ _ _ _ _ _ _ _ (World.drew _)
      generalize World.drew wr = WD at HBD C0 ⊢
      refine tkp 0 (.func (.func g) #[] #[]) rfl (by kernel_rfl) q3 (fun w' hS => ?_) C0.out ?_
      · clear hS; go_simp
      try go_simp
      refine tkp 1 (.slice (some ⟨b, off, none⟩) n cap) rfl (by kernel_rfl) q3 (fun w' hS => ?_) C0.out ?_
      · clear hS; go_simp
      try go_simp
      refine tkp 2 (.int .i64 (m : Int)) rfl (by kernel_rfl) q3 (fun w' hS => ?_) C0.out ?_
      · clear hS; go_simp
      try go_simp
      refine tkp 3 (.pointer (some ⟨b, off + m * 3, none⟩)) rfl (by kernel_rfl) q3 (fun w' hS => ?_) C0.out ?_
      · clear hS; go_simp
      try go_simp
      refine tkl 4 (.agg y.vs.toArray) rfl (by kernel_rfl) q3 (yieldsIf_load_mid (by kernel_rfl) 61 (.tmp 27) rfl b (off + m * 3) (by first | rfl | simp [Act.eval, Act.put]) y.vs _ (fun w' hS => hS.1) Tryz.underlying61 rfl (by kernel_rfl)) C0.out ?_
      try go_simp
      refine tkl 5 (.agg x.vs.toArray) rfl (by kernel_rfl) q3 (yld_boxi (by kernel_rfl) 61 (.tmp 4) rfl (w.heap.size) (by first | rfl | simp [Act.eval, Act.put]) 61 x.vs.toArray (fun w' hS => hS.2) _ Tryz.underlying61 rfl (by kernel_rfl)) C0.out ?_
      try go_simp
      refine rd1 6 (by kernel_rfl) rfl fun K hK => ?_
      go_simp
      refine (HCL.out _).mono ?_
      rintro e w7 ⟨rfl, hb⟩
      have B7 := hI (HBD.out.trans (hb.mono HBD.out.size))
      have C7 := hI (HY2.out _ B7.out)
      clear hb
      go_simp
      refine hK.out _ _ C7.out (fun S1 => ?_)
      clear hK K S1
      refine tkp 7 (.bool false) rfl (by kernel_rfl) q3 (fun w' hS => ?_) C7.out ?_
      · clear hS; go_simp
      try go_simp
      refine wpAnyH_done (by kernel_rfl) ?_ _
      go_wp2_with fail
      go_roundw
      case rel => exact ⟨lo, m, rfl, rfl, by omega, by omega, B7.out, HLow.out, fun j z hj e => by
       cases hz : ltKn z x with
       | false => rfl
       | true => exact absurd (ord_neg.2 (HM.out m j y z (by omega) HY.out e hz)) HQ.out⟩
      case measure => simp [intOf]; omega
  · obtain rfl : lo = hi := by omega
    clear hlt hlh
    have HP := hI (show Place ltKn xs x lo from ⟨HLE.out lo hhn, HLow.out, HHigh.out⟩)
    have HBD := hI (show Below w1.heap.size w1 wr.drew from HB.out.drew)
    by_cases hln : lo < n
    · obtain ⟨y, hy, rfl, hy2⟩ := HX.out lo hln
      have HY2 := hI hy2
      have C0 := hI (HY2.out _ HBD.out)
      have i0 : (0 : Int) ≤ (lo : Int) := by omega
      have i1 : (lo : Int) < (n : Int) := by omega
      have hia : isAt ltKn xs x lo = decide (ord ltKn y x = 0) := by unfold isAt; rw [hy]
      obtain ⟨r, hr⟩ : ∃ r, r = ord ltKn y x := ⟨_, rfl⟩
      have HCL := hI (fun W => HO.out W y x)
      rw [← hr] at HCL hia
      have HIA := hI hia
      obtain ⟨f, hf⟩ : ∃ f, f = (r == 0) := ⟨_, rfl⟩
      have hf2 := hf.symm
      have HFF := hI hf
      clear hy hy2 hia hr hf
      go_wp2_with fail
      refine wp_region_held (S := (fun W => W.rangeAt b (off + lo * 3) y.vs ∧ St 61 w.heap.size x.vs.toArray W)) (by kernel_rfl) ?_
      change wpAnyH _ _ _ _ _ _ _ _ (World.drew _)
      generalize World.drew wr = WD at HBD C0 ⊢
      refine tkp 0 (.int .i64 (lo : Int)) rfl (by kernel_rfl) q3 (fun w' hS => ?_) C0.out ?_
      · clear hS; go_simp
      try go_simp
      refine tkp 1 (.int .i64 (lo : Int)) rfl (by kernel_rfl) q3 (fun w' hS => ?_) C0.out ?_
      · clear hS; go_simp
      try go_simp
      refine tkp 2 (.int .i64 (n : Int)) rfl (by kernel_rfl) q3 (fun w' hS => ?_) C0.out ?_
      · clear hS; go_simp
      try go_simp
      refine tkp 3 (.bool true) rfl (by kernel_rfl) q3 (fun w' hS => ?_) C0.out ?_
      · clear hS; go_simp
      try go_simp
      refine tkp 4 (.bool true) rfl (by kernel_rfl) q3 (fun w' hS => ?_) C0.out ?_
      · clear hS; go_simp
      try go_simp
      refine tkp 5 (.func (.func g) #[] #[]) rfl (by kernel_rfl) q3 (fun w' hS => ?_) C0.out ?_
      · clear hS; go_simp
      try go_simp
      refine tkp 6 (.slice (some ⟨b, off, none⟩) n cap) rfl (by kernel_rfl) q3 (fun w' hS => ?_) C0.out ?_
      · clear hS; go_simp
      try go_simp
      refine tkp 7 (.int .i64 (lo : Int)) rfl (by kernel_rfl) q3 (fun w' hS => ?_) C0.out ?_
      · clear hS; go_simp
      try go_simp
      refine tkp 8 (.pointer (some ⟨b, off + lo * 3, none⟩)) rfl (by kernel_rfl) q3 (fun w' hS => ?_) C0.out ?_
      · clear hS; go_simp
      try go_simp
      refine tkl 9 (.agg y.vs.toArray) rfl (by kernel_rfl) q3 (yieldsIf_load_mid (by kernel_rfl) 61 (.tmp 43) rfl b (off + lo * 3) (by first | rfl | simp [Act.eval, Act.put]) y.vs _ (fun w' hS => hS.1) Tryz.underlying61 rfl (by kernel_rfl)) C0.out ?_
      try go_simp
      refine tkl 10 (.agg x.vs.toArray) rfl (by kernel_rfl) q3 (yld_boxi (by kernel_rfl) 61 (.tmp 4) rfl (w.heap.size) (by first | rfl | simp [Act.eval, Act.put]) 61 x.vs.toArray (fun w' hS => hS.2) _ Tryz.underlying61 rfl (by kernel_rfl)) C0.out ?_
      try go_simp
      refine rd1 11 (by kernel_rfl) rfl fun K hK => ?_
      go_simp
      refine (HCL.out _).mono ?_
      rintro e w7 ⟨rfl, hb⟩
      have B7 := hI (HBD.out.trans (hb.mono HBD.out.size))
      have C7 := hI (HY2.out _ B7.out)
      clear hb
      go_simp
      refine hK.out _ _ C7.out (fun S1 => ?_)
      clear hK K S1
      refine tkp 12 (.bool f) rfl (by kernel_rfl) q3 (fun w' hS => ?_) C7.out ?_
      · clear hS; go_simp
      try go_simp
      refine tkp 13 (.bool f) rfl (by kernel_rfl) q3 (fun w' hS => ?_) C7.out ?_
      · clear hS; go_simp
      try go_simp
      refine rd1 14 (by kernel_rfl) rfl fun K hK => ?_
      go_simp
      refine hK.out _ _ C7.out (fun S1 => ?_)
      clear hK K S1
      refine rd1 15 (by kernel_rfl) rfl fun K hK => ?_
      go_simp
      refine hK.out _ _ C7.out (fun S1 => ?_)
      clear hK K S1
      refine wpAnyH_done (by kernel_rfl) ?_ _
      go_wp2_with fail
      go_ret2
      refine ⟨⟨lo, ?_, HP.out⟩, HB1.out.trans (B7.out.mono HB1.out.size)⟩
      rw [HIA.out, HFF.out]
      rfl
    · have i1 : ¬ (lo : Int) < (n : Int) := by omega
      have hia : isAt ltKn xs x lo = false := by
       unfold isAt
       rw [List.getElem?_eq_none (by rw [← HN.out]; omega)]
      have HIA := hI hia
      have C0 := hI (HXS.out _ HBD.out)
      clear hia
      go_wp2_with fail
      refine wp_region_held (S := (fun W => St 61 w.heap.size x.vs.toArray W)) (by kernel_rfl) ?_
      change wpAnyH _ _ _ _ _ _ _ _ (World.drew _)
      generalize World.drew wr = WD at HBD C0 ⊢
      refine tkp 0 (.int .i64 (lo : Int)) rfl (by kernel_rfl) q3 (fun w' hS => ?_) C0.out ?_
      · clear hS; go_simp
      try go_simp
      refine tkp 1 (.int .i64 (lo : Int)) rfl (by kernel_rfl) q3 (fun w' hS => ?_) C0.out ?_
      · clear hS; go_simp
      try go_simp
      refine tkp 2 (.int .i64 (n : Int)) rfl (by kernel_rfl) q3 (fun w' hS => ?_) C0.out ?_
      · clear hS; go_simp
      try go_simp
      refine tkp 3 (.bool false) rfl (by kernel_rfl) q3 (fun w' hS => ?_) C0.out ?_
      · clear hS; go_simp
      try go_simp
      refine tkp 4 (.bool false) rfl (by kernel_rfl) q3 (fun w' hS => ?_) C0.out ?_
      · clear hS; go_simp
      try go_simp
      refine tku 5 rfl (by kernel_rfl) q3 C0.out ?_
      try go_simp
      refine tku 6 rfl (by kernel_rfl) q3 C0.out ?_
      refine tku 7 rfl (by kernel_rfl) q3 C0.out ?_
      try go_simp
      refine tku 8 rfl (by kernel_rfl) q3 C0.out ?_
      refine tku 9 rfl (by kernel_rfl) q3 C0.out ?_
      try go_simp
      refine tku 10 rfl (by kernel_rfl) q3 C0.out ?_
      refine tku 11 rfl (by kernel_rfl) q3 C0.out ?_
      try go_simp
      refine tku 12 rfl (by kernel_rfl) q3 C0.out ?_
      refine tkp 13 (.bool false) rfl (by kernel_rfl) q3 (fun w' hS => ?_) C0.out ?_
      · clear hS; go_simp
      try go_simp
      refine rd1 14 (by kernel_rfl) rfl fun K hK => ?_
      go_simp
      refine hK.out _ _ C0.out (fun S1 => ?_)
      clear hK K S1
      refine rd1 15 (by kernel_rfl) rfl fun K hK => ?_
      go_simp
      refine hK.out _ _ C0.out (fun S1 => ?_)
      clear hK K S1
      refine wpAnyH_done (by kernel_rfl) ?_ _
      go_wp2_with fail
      go_ret2
      refine ⟨⟨lo, ?_, HP.out⟩, HB1.out.trans (HBD.out.mono HB1.out.size)⟩
      rw [HIA.out]
      rfl
set_option maxRecDepth 100000 in
set_option maxHeartbeats 2000000 in
theorem sxBsPlaced_any (v : Value) (xs : List Bk) (x : Bk) (g : Nat) (w : World) (h : RowsAt w.heap.size 3 Bk.vs v xs w) (hm : xs.length ≤ 1073741823) (eg : ∀ args w, (callFunc g args).run Tryz.prog w = .ok (.enter g args) w)
 (ho : ∀ (W : World) (y z : Bk), Calls Tryz.prog g #[.agg y.vs.toArray, .agg z.vs.toArray] W fun e w' => e = .returned (.int .i64 (ord ltBk y z)) ∧ Below W.heap.size W w')
 (hmono : ∀ (i j : Nat) y z, i ≤ j → xs[i]? = some y → xs[j]? = some z → ltBk z x = true → ltBk y x = true) :
 Calls Tryz.prog 180 #[v, .agg x.vs.toArray, .func (.func g) #[] #[]] w fun e w' => (∃ i : Nat, e = .returned (.tuple #[.int .i64 i, .bool (isAt ltBk xs x i)]) ∧ Place ltBk xs x i) ∧ Below w.heap.size w w' := by
 obtain ⟨w1, hw1⟩ : ∃ w1, w1 = w.alloc (.cells x.vs.toArray 66 (0, 0)) := ⟨_, rfl⟩
 have hb1 : Below w.heap.size w w1 := by rw [hw1]; exact (Below.refl _ w).alloc (Nat.le_refl _) _
 have hst : St 66 w.heap.size x.vs.toArray w1 := by rw [hw1]; exact St.new w _ _
 obtain ⟨ao, cap, b, off, rfl, hl, hx⟩ := h.walk
 obtain ⟨n, hn⟩ : ∃ n, n = xs.length := ⟨_, rfl⟩
 have HN := hI hn
 rw [← hn] at hl hx hm ⊢
 have HX := hI (show ∀ i, i < n → ∃ y : Bk, xs[i]? = some y ∧ ao = some ⟨b, off, none⟩ ∧ ∀ W, Below w1.heap.size w1 W → (W.rangeAt b (off + i * 3) y.vs ∧ St 66 w.heap.size x.vs.toArray W) from fun i hi => by
  obtain ⟨y, e1, e2, e3, e4⟩ := hx i hi
  exact ⟨y, e1, e2, fun W hW => ⟨fun j u hu => ((hb1.trans (hW.mono hb1.size)).cell (p := ⟨b, off + i * 3 + j, none⟩) e3).trans (e4 j u hu), hst.below hW⟩⟩)
 have HXS := hI (show ∀ W, Below w1.heap.size w1 W → St 66 w.heap.size x.vs.toArray W from fun W hW => hst.below hW)
 have HO := hI ho
 have HM := hI hmono
 have HW1 := hI hw1
 have HB1 := hI hb1
 have HLE := hI (show ∀ i, (i : Nat) ≤ n → i ≤ xs.length from fun i hi => by rw [← hn]; exact hi)
 clear hx h hn ho hmono hst hb1 hw1
 go_enter Tryz.func180, Tryz.ntmps180
 go_wp2_with fail
 rw [← HW1.out]
 go_wp2_with fail
 go_loopw [9, 10, 11] (fun s9 s10 _ wr => ∃ lo hi : Nat, s9 = .int .i64 lo ∧ s10 = .int .i64 hi ∧ lo ≤ hi ∧ hi ≤ n ∧ Below w1.heap.size w1 wr ∧ (∀ (j : Nat) y, j < lo → xs[j]? = some y → ltBk y x = true) ∧ (∀ (j : Nat) y, hi ≤ j → xs[j]? = some y → ltBk y x = false)) (fun s9 s10 _ _ => (intOf s10).toNat - (intOf s9).toNat)
 case atStart => exact ⟨0, n, rfl, rfl, Nat.zero_le _, Nat.le_refl _, Below.refl _ _, fun j y h => absurd h (Nat.not_lt_zero _), fun j y h e => by have := (List.getElem?_eq_some_iff.1 e).1; rw [← HN.out] at this; omega⟩
 case round =>
  obtain ⟨lo, hi, rfl, rfl, hlh, hhn, hbel, hlow, hhigh⟩ := hrel
  have HB := hI hbel
  have HLow := hI hlow
  have HHigh := hI hhigh
  clear hbel hlow hhigh
  by_cases hlt : lo < hi
  · obtain ⟨m, hmm⟩ : ∃ m, m = (lo + hi) / 2 := ⟨_, rfl⟩
    obtain ⟨y, hy, rfl, hy2⟩ := HX.out m (by omega)
    have HY := hI hy
    have HY2 := hI hy2
    have m1 : ((lo : Int) + (hi : Int)) / 2 = (m : Int) := by omega
    have m2 : m < n := by omega
    have m3 : lo ≤ m := by omega
    have m4 : m < hi := by omega
    have i0 : (0 : Int) ≤ (m : Int) := by omega
    have i1 : (m : Int) < (n : Int) := by omega
    clear hy hy2 hmm
    have HBD := hI (show Below w1.heap.size w1 wr.drew from HB.out.drew)
    have C0 := hI (HY2.out _ HBD.out)
    go_wp2_with fail
    obtain ⟨r, hr⟩ : ∃ r, r = ord ltBk y x := ⟨_, rfl⟩
    have HCL := hI (fun W => HO.out W y x)
    rw [← hr] at HCL
    have HRR := hI hr
    clear hr
    by_cases hq : r < 0
    · have HQ := hI (show ord ltBk y x < 0 from by rw [← HRR.out]; exact hq)
      have dq : decide (r < 0) = true := decide_eq_true hq
      clear hq
      refine wp_region_held (S := (fun W => W.rangeAt b (off + m * 3) y.vs ∧ St 66 w.heap.size x.vs.toArray W)) (by kernel_rfl) ?_
      change wpAnyH _ _ _ _ _ _ _ _ (World.drew _)
      generalize World.drew wr = WD at HBD C0 ⊢
      refine tkp 0 (.func (.func g) #[] #[]) rfl (by kernel_rfl) q3 (fun w' hS => ?_) C0.out ?_
      · clear hS; go_simp
      try go_simp
      refine tkp 1 (.slice (some ⟨b, off, none⟩) n cap) rfl (by kernel_rfl) q3 (fun w' hS => ?_) C0.out ?_
      · clear hS; go_simp
      try go_simp
      refine tkp 2 (.int .i64 (m : Int)) rfl (by kernel_rfl) q3 (fun w' hS => ?_) C0.out ?_
      · clear hS; go_simp
      try go_simp
      refine tkp 3 (.pointer (some ⟨b, off + m * 3, none⟩)) rfl (by kernel_rfl) q3 (fun w' hS => ?_) C0.out ?_
      · clear hS; go_simp
      try go_simp
      refine tkl 4 (.agg y.vs.toArray) rfl (by kernel_rfl) q3 (yieldsIf_load_mid (by kernel_rfl) 66 (.tmp 27) rfl b (off + m * 3) (by first | rfl | simp [Act.eval, Act.put]) y.vs _ (fun w' hS => hS.1) Tryz.underlying66 rfl (by kernel_rfl)) C0.out ?_
      try go_simp
      refine tkl 5 (.agg x.vs.toArray) rfl (by kernel_rfl) q3 (yld_boxi (by kernel_rfl) 66 (.tmp 4) rfl (w.heap.size) (by first | rfl | simp [Act.eval, Act.put]) 66 x.vs.toArray (fun w' hS => hS.2) _ Tryz.underlying66 rfl (by kernel_rfl)) C0.out ?_
      try go_simp
      refine rd1 6 (by kernel_rfl) rfl fun K hK => ?_
      go_simp
      refine (HCL.out _).mono ?_
      rintro e w7 ⟨rfl, hb⟩
      have B7 := hI (HBD.out.trans (hb.mono HBD.out.size))
      have C7 := hI (HY2.out _ B7.out)
      clear hb
      go_simp
      refine hK.out _ _ C7.out (fun S1 => ?_)
      clear hK K S1
      refine tkp 7 (.bool true) rfl (by kernel_rfl) q3 (fun w' hS => ?_) C7.out ?_
      · clear hS; go_simp
      try go_simp
      refine wpAnyH_done (by kernel_rfl) ?_ _
      go_wp2_with fail
      go_roundw
      case rel => exact ⟨m + 1, hi, by go_num, rfl, by omega, hhn, B7.out, fun j z hj e => HM.out j m z y (by omega) e HY.out (ord_neg.1 HQ.out), HHigh.out⟩
      case measure => simp [intOf]; omega
    · have HQ := hI (show ¬ ord ltBk y x < 0 from by rw [← HRR.out]; exact hq)
      have dq : decide (r < 0) = false := decide_eq_false hq
      clear hq
      refine wp_region_held (S := (fun W => W.rangeAt b (off + m * 3) y.vs ∧ St 66 w.heap.size x.vs.toArray W)) (by kernel_rfl) ?_
      change wpAnyH _ _ _ _ _ _ _ _ (World.drew _)
      generalize World.drew wr = WD at HBD C0 ⊢
      refine tkp 0 (.func (.func g) #[] #[]) rfl (by kernel_rfl) q3 (fun w' hS => ?_) C0.out ?_
      · clear hS; go_simp
      try go_simp
      refine tkp 1 (.slice (some ⟨b, off, none⟩) n cap) rfl (by kernel_rfl) q3 (fun w' hS => ?_) C0.out ?_
      · clear hS; go_simp
      try go_simp
      refine tkp 2 (.int .i64 (m : Int)) rfl (by kernel_rfl) q3 (fun w' hS => ?_) C0.out ?_
      · clear hS; go_simp
      try go_simp
      refine tkp 3 (.pointer (some ⟨b, off + m * 3, none⟩)) rfl (by kernel_rfl) q3 (fun w' hS => ?_) C0.out ?_
      · clear hS; go_simp
      try go_simp
      refine tkl 4 (.agg y.vs.toArray) rfl (by kernel_rfl) q3 (yieldsIf_load_mid (by kernel_rfl) 66 (.tmp 27) rfl b (off + m * 3) (by first | rfl | simp [Act.eval, Act.put]) y.vs _ (fun w' hS => hS.1) Tryz.underlying66 rfl (by kernel_rfl)) C0.out ?_
      try go_simp
      refine tkl 5 (.agg x.vs.toArray) rfl (by kernel_rfl) q3 (yld_boxi (by kernel_rfl) 66 (.tmp 4) rfl (w.heap.size) (by first | rfl | simp [Act.eval, Act.put]) 66 x.vs.toArray (fun w' hS => hS.2) _ Tryz.underlying66 rfl (by kernel_rfl)) C0.out ?_
      try go_simp
      refine rd1 6 (by kernel_rfl) rfl fun K hK => ?_
      go_simp
      refine (HCL.out _).mono ?_
      rintro e w7 ⟨rfl, hb⟩
      have B7 := hI (HBD.out.trans (hb.mono HBD.out.size))
      have C7 := hI (HY2.out _ B7.out)
      clear hb
      go_simp
      refine hK.out _ _ C7.out (fun S1 => ?_)
      clear hK K S1
      refine tkp 7 (.bool false) rfl (by kernel_rfl) q3 (fun w' hS => ?_) C7.out ?_
      · clear hS; go_simp
      try go_simp
      refine wpAnyH_done (by kernel_rfl) ?_ _
      go_wp2_with fail
      go_roundw
      case rel => exact ⟨lo, m, rfl, rfl, by omega, by omega, B7.out, HLow.out, fun j z hj e => by
       cases hz : ltBk z x with
       | false => rfl
       | true => exact absurd (ord_neg.2 (HM.out m j y z (by omega) HY.out e hz)) HQ.out⟩
      case measure => simp [intOf]; omega
  · obtain rfl : lo = hi := by omega
    clear hlt hlh
    have HP := hI (show Place ltBk xs x lo from ⟨HLE.out lo hhn, HLow.out, HHigh.out⟩)
    have HBD := hI (show Below w1.heap.size w1 wr.drew from HB.out.drew)
    by_cases hln : lo < n
    · obtain ⟨y, hy, rfl, hy2⟩ := HX.out lo hln
      have HY2 := hI hy2
      have C0 := hI (HY2.out _ HBD.out)
      have i0 : (0 : Int) ≤ (lo : Int) := by omega
      have i1 : (lo : Int) < (n : Int) := by omega
      have hia : isAt ltBk xs x lo = decide (ord ltBk y x = 0) := by unfold isAt; rw [hy]
      obtain ⟨r, hr⟩ : ∃ r, r = ord ltBk y x := ⟨_, rfl⟩
      have HCL := hI (fun W => HO.out W y x)
      rw [← hr] at HCL hia
      have HIA := hI hia
      obtain ⟨f, hf⟩ : ∃ f, f = (r == 0) := ⟨_, rfl⟩
      have hf2 := hf.symm
      have HFF := hI hf
      clear hy hy2 hia hr hf
      go_wp2_with fail
      refine wp_region_held (S := (fun W => W.rangeAt b (off + lo * 3) y.vs ∧ St 66 w.heap.size x.vs.toArray W)) (by kernel_rfl) ?_
      change wpAnyH _ _ _ _ _ _ _ _ (World.drew _)
      generalize World.drew wr = WD at HBD C0 ⊢
      refine tkp 0 (.int .i64 (lo : Int)) rfl (by kernel_rfl) q3 (fun w' hS => ?_) C0.out ?_
      · clear hS; go_simp
      try go_simp
      refine tkp 1 (.int .i64 (lo : Int)) rfl (by kernel_rfl) q3 (fun w' hS => ?_) C0.out ?_
      · clear hS; go_simp
      try go_simp
      refine tkp 2 (.int .i64 (n : Int)) rfl (by kernel_rfl) q3 (fun w' hS => ?_) C0.out ?_
      · clear hS; go_simp
      try go_simp
      refine tkp 3 (.bool true) rfl (by kernel_rfl) q3 (fun w' hS => ?_) C0.out ?_
      · clear hS; go_simp
      try go_simp
      refine tkp 4 (.bool true) rfl (by kernel_rfl) q3 (fun w' hS => ?_) C0.out ?_
      · clear hS; go_simp
      try go_simp
      refine tkp 5 (.func (.func g) #[] #[]) rfl (by kernel_rfl) q3 (fun w' hS => ?_) C0.out ?_
      · clear hS; go_simp
      try go_simp
      refine tkp 6 (.slice (some ⟨b, off, none⟩) n cap) rfl (by kernel_rfl) q3 (fun w' hS => ?_) C0.out ?_
      · clear hS; go_simp
      try go_simp
      refine tkp 7 (.int .i64 (lo : Int)) rfl (by kernel_rfl) q3 (fun w' hS => ?_) C0.out ?_
      · clear hS; go_simp
      try go_simp
      refine tkp 8 (.pointer (some ⟨b, off + lo * 3, none⟩)) rfl (by kernel_rfl) q3 (fun w' hS => ?_) C0.out ?_
      · clear hS; go_simp
      try go_simp
      refine tkl 9 (.agg y.vs.toArray) rfl (by kernel_rfl) q3 (yieldsIf_load_mid (by kernel_rfl) 66 (.tmp 43) rfl b (off + lo * 3) (by first | rfl | simp [Act.eval, Act.put]) y.vs _ (fun w' hS => hS.1) Tryz.underlying66 rfl (by kernel_rfl)) C0.out ?_
      try go_simp
      refine tkl 10 (.agg x.vs.toArray) rfl (by kernel_rfl) q3 (yld_boxi (by kernel_rfl) 66 (.tmp 4) rfl (w.heap.size) (by first | rfl | simp [Act.eval, Act.put]) 66 x.vs.toArray (fun w' hS => hS.2) _ Tryz.underlying66 rfl (by kernel_rfl)) C0.out ?_
      try go_simp
      refine rd1 11 (by kernel_rfl) rfl fun K hK => ?_
      go_simp
      refine (HCL.out _).mono ?_
      rintro e w7 ⟨rfl, hb⟩
      have B7 := hI (HBD.out.trans (hb.mono HBD.out.size))
      have C7 := hI (HY2.out _ B7.out)
      clear hb
      go_simp
      refine hK.out _ _ C7.out (fun S1 => ?_)
      clear hK K S1
      refine tkp 12 (.bool f) rfl (by kernel_rfl) q3 (fun w' hS => ?_) C7.out ?_
      · clear hS; go_simp
      try go_simp
      refine tkp 13 (.bool f) rfl (by kernel_rfl) q3 (fun w' hS => ?_) C7.out ?_
      · clear hS; go_simp
      try go_simp
      refine rd1 14 (by kernel_rfl) rfl fun K hK => ?_
      go_simp
      refine hK.out _ _ C7.out (fun S1 => ?_)
      clear hK K S1
      refine rd1 15 (by kernel_rfl) rfl fun K hK => ?_
      go_simp
      refine hK.out _ _ C7.out (fun S1 => ?_)
      clear hK K S1
      refine wpAnyH_done (by kernel_rfl) ?_ _
      go_wp2_with fail
      go_ret2
      refine ⟨⟨lo, ?_, HP.out⟩, HB1.out.trans (B7.out.mono HB1.out.size)⟩
      rw [HIA.out, HFF.out]
      rfl
    · have i1 : ¬ (lo : Int) < (n : Int) := by omega
      have hia : isAt ltBk xs x lo = false := by
       unfold isAt
       rw [List.getElem?_eq_none (by rw [← HN.out]; omega)]
      have HIA := hI hia
      have C0 := hI (HXS.out _ HBD.out)
      clear hia
      go_wp2_with fail
      refine wp_region_held (S := (fun W => St 66 w.heap.size x.vs.toArray W)) (by kernel_rfl) ?_
      change wpAnyH _ _ _ _ _ _ _ _ (World.drew _)
      generalize World.drew wr = WD at HBD C0 ⊢
      refine tkp 0 (.int .i64 (lo : Int)) rfl (by kernel_rfl) q3 (fun w' hS => ?_) C0.out ?_
      · clear hS; go_simp
      try go_simp
      refine tkp 1 (.int .i64 (lo : Int)) rfl (by kernel_rfl) q3 (fun w' hS => ?_) C0.out ?_
      · clear hS; go_simp
      try go_simp
      refine tkp 2 (.int .i64 (n : Int)) rfl (by kernel_rfl) q3 (fun w' hS => ?_) C0.out ?_
      · clear hS; go_simp
      try go_simp
      refine tkp 3 (.bool false) rfl (by kernel_rfl) q3 (fun w' hS => ?_) C0.out ?_
      · clear hS; go_simp
      try go_simp
      refine tkp 4 (.bool false) rfl (by kernel_rfl) q3 (fun w' hS => ?_) C0.out ?_
      · clear hS; go_simp
      try go_simp
      refine tku 5 rfl (by kernel_rfl) q3 C0.out ?_
      try go_simp
      refine tku 6 rfl (by kernel_rfl) q3 C0.out ?_
      refine tku 7 rfl (by kernel_rfl) q3 C0.out ?_
      try go_simp
      refine tku 8 rfl (by kernel_rfl) q3 C0.out ?_
      refine tku 9 rfl (by kernel_rfl) q3 C0.out ?_
      try go_simp
      refine tku 10 rfl (by kernel_rfl) q3 C0.out ?_
      refine tku 11 rfl (by kernel_rfl) q3 C0.out ?_
      try go_simp
      refine tku 12 rfl (by kernel_rfl) q3 C0.out ?_
      refine tkp 13 (.bool false) rfl (by kernel_rfl) q3 (fun w' hS => ?_) C0.out ?_
      · clear hS; go_simp
      try go_simp
      refine rd1 14 (by kernel_rfl) rfl fun K hK => ?_
      go_simp
      refine hK.out _ _ C0.out (fun S1 => ?_)
      clear hK K S1
      refine rd1 15 (by kernel_rfl) rfl fun K hK => ?_
      go_simp
      refine hK.out _ _ C0.out (fun S1 => ?_)
      clear hK K S1
      refine wpAnyH_done (by kernel_rfl) ?_ _
      go_wp2_with fail
      go_ret2
      refine ⟨⟨lo, ?_, HP.out⟩, HB1.out.trans (HBD.out.mono HB1.out.size)⟩
      rw [HIA.out]
      rfl
end Go.Proofs.YtngfknplljedeaaGreat
