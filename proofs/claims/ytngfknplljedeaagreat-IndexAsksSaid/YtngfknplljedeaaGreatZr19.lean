/- Lemmas for the laws of index. -/
import Derived.Test.YtngfknplljedeaaGreatZr18
import Derived.Test.YtngfknplljedeaaGreatZrHi
namespace Go.Proofs.YtngfknplljedeaaGreat
open Go.RowKit
section
variable {α : Type}
theorem insTo_succ (ge keep : α → Bool) (x : α) (xs : List α) (i : Nat) (y : α) (h : xs[i]? = some y) : insTo ge keep x xs (i + 1) = ins ge keep x (insTo ge keep x xs i) y := by
 unfold insTo
 rw [take_one xs i y h, List.foldl_append]
 rfl
theorem insTo_le (ge keep : α → Bool) (x : α) (xs : List α) : ∀ i, (insTo ge keep x xs i).1.length ≤ i + (if (insTo ge keep x xs i).2 then 1 else 0) := by
 intro i
 induction i with
 | zero => simp [insTo]
 | succ i ih =>
  by_cases hi : i < xs.length
  · rw [insTo_succ ge keep x xs i _ (List.getElem?_eq_getElem hi)]
    unfold ins
    simp only [List.length_append]
    cases hd : (insTo ge keep x xs i).2 <;> cases hg : ge xs[i] <;> cases hk : keep xs[i] <;> simp [hd] at ih ⊢ <;> omega
  · have e : insTo ge keep x xs (i + 1) = insTo ge keep x xs i := by
     unfold insTo
     rw [List.take_of_length_le (by omega), List.take_of_length_le (by omega)]
    rw [e]
    omega
end
end Go.Proofs.YtngfknplljedeaaGreat
namespace Go.Proofs.YtngfknplljedeaaGreat
open Go.RowKit
set_option maxRecDepth 100000 in
set_option maxHeartbeats 16000000 in
theorem ixputHeld_any {B : Nat} (v : Value) (xs : List Hd) (x : Hd) (w : World) (h : RowsAt B 3 Hd.vs v xs w) (hB : B ≤ w.heap.size) (hn : xs.length ≤ 1073741823) :
 Calls Tryz.prog 49 #[v, .agg x.vs.toArray] w fun e w' => ∃ v', e = .returned v' ∧ OwnAt 49 3 Hd.vs (w.heap.size + 1) v' (putIn (fun y => !ltHd y x) (fun _ => true) x xs) w' ∧ Below w.heap.size w w' := by
 obtain ⟨iz, hiz, hz0, hz1, hz2⟩ := info_parts Tryz.infoHd
 obtain ⟨ao, cap, b, off, rfl, hl, hx⟩ := h.walk
 obtain ⟨n, hnn⟩ : ∃ n, n = xs.length := ⟨_, rfl⟩
 rw [← hnn] at hl hx hn ⊢
 obtain ⟨x0, x1, x2⟩ := x
 obtain ⟨P, hP⟩ : ∃ P : Nat → List Hd × Bool, P = insTo (fun y => !ltHd y (⟨x0, x1, x2⟩ : Hd)) (fun _ => true) (⟨x0, x1, x2⟩ : Hd) xs := ⟨_, rfl⟩
 have HP0 := hI (show P 0 = ([], false) from by rw [hP]; rfl)
 have HPS := hI (show ∀ i y, xs[i]? = some y → P (i + 1) = ins (fun y => !ltHd y (⟨x0, x1, x2⟩ : Hd)) (fun _ => true) (⟨x0, x1, x2⟩ : Hd) (P i) y from fun i y h => by rw [hP]; exact insTo_succ _ _ _ xs i y h)
 have HPL := hI (show ∀ i, (P i).1.length ≤ i + (if (P i).2 then 1 else 0) from fun i => by rw [hP]; exact insTo_le _ _ _ xs i)
 have HPE := hI (show putIn (fun y => !ltHd y (⟨x0, x1, x2⟩ : Hd)) (fun _ => true) (⟨x0, x1, x2⟩ : Hd) xs = (P n).1 ++ (if (P n).2 then [] else [(⟨x0, x1, x2⟩ : Hd)]) from by rw [hP, hnn]; rfl)
 show Calls Tryz.prog 49 #[.slice ao n cap, .agg #[.int .i64 x0, .int .i64 x1, .string x2]] w _
 obtain ⟨w1, hw1⟩ : ∃ w1, w1 = w.alloc (.cells #[.int .i64 x0, .int .i64 x1, .string x2] 49 (0, 0)) := ⟨_, rfl⟩
 have hs1 : w1.heap.size = w.heap.size + 1 := by rw [hw1]; simp
 have hb1 : Below w.heap.size w w1 := by rw [hw1]; exact (Below.refl _ w).alloc (Nat.le_refl _) _
 have hst : St 49 w.heap.size #[.int .i64 x0, .int .i64 x1, .string x2] w1 := by rw [hw1]; exact St.new w 49 _
 have HW1 := hI hw1
 have HB1 := hI hb1
 have HXC := hI (show ∀ W, Below w1.heap.size w1 W → W.cell? ⟨w.heap.size, 0, none⟩ = some (.int .i64 x0) ∧ W.cell? ⟨w.heap.size, 1, none⟩ = some (.int .i64 x1) ∧ W.cell? ⟨w.heap.size, 2, none⟩ = some (.string x2) from fun W hW => by
  have := hst.below hW
  exact ⟨this.cell rfl, this.cell rfl, this.cell rfl⟩)
 have HYC := hI (show ∀ i, i < n → ∃ y : Hd, xs[i]? = some y ∧ ao = some ⟨b, off, none⟩ ∧ ∀ W, Below w1.heap.size w1 W → W.rangeAt b (off + i * 3) y.vs from fun i hi => by
  obtain ⟨y, e1, e2, e3, e4⟩ := hx i hi
  exact ⟨y, e1, e2, fun W hW j u hu => ((hb1.trans (hW.mono hb1.size)).cell (p := ⟨b, off + i * 3 + j, none⟩) (Nat.lt_of_lt_of_le e3 hB)).trans (e4 j u hu)⟩)
 have HLs := hI (fun (y : Hd) W => ixlessHeld_any y (⟨x0, x1, x2⟩ : Hd) W)
 clear hx h hP hb1 hst hw1 hnn hB
 go_enter Tryz.func49, Tryz.ntmps49
 go_wp2
 rw [← HW1.out]
 go_loopw [5, 6, 7] (fun o dd c wr => ∃ (i : Nat) (vv : Value), i ≤ n ∧ c = .int .i64 i ∧ dd = .bool (P i).2 ∧ vv = o ∧ OwnAt 49 3 Hd.vs w1.heap.size vv (P i).1 wr ∧ Below w1.heap.size w1 wr) (fun _ _ c _ => n - (intOf c).toNat)
 case atStart => exact ⟨0, .slice none 0 0, Nat.zero_le _, rfl, by rw [HP0.out], rfl, by rw [HP0.out]; exact World.ownsRow_nil _ _ _ _, Below.refl _ _⟩
 case round =>
  obtain ⟨i, vv, hi, rfl, rfl, rfl, hrow, hbel⟩ := hrel
  have HRow := hI hrow
  have HBel := hI hbel
  have hsz := hbel.size
  have hpl := HPL.out i
  obtain ⟨p1, p2, hp⟩ : ∃ p1 p2, P i = (p1, p2) := ⟨_, _, rfl⟩
  rw [hp] at HRow hpl ⊢
  dsimp only at HRow hpl ⊢
  have HPi := hI hp
  obtain ⟨m, hm⟩ : ∃ m, m = p1.length := ⟨_, rfl⟩
  have HM := hI hm
  rw [← hm] at hpl
  clear hp hrow hbel hm
  by_cases hlt : i < n
  · obtain ⟨y, hyi, rfl, hyc⟩ := HYC.out i hlt
    have HPn := hI (HPS.out i y hyi)
    rw [HPi.out] at HPn
    obtain ⟨y0, y1, y2⟩ := y
    have HYW := hI (show ∀ W, Below w1.heap.size w1 W → W.cell? ⟨b, off + i * 3, none⟩ = some (.int .i64 y0) ∧ W.cell? ⟨b, off + i * 3 + 1, none⟩ = some (.int .i64 y1) ∧ W.cell? ⟨b, off + i * 3 + 2, none⟩ = some (.string y2) from fun W hW => ⟨hyc W hW 0 _ rfl, hyc W hW 1 _ rfl, hyc W hW 2 _ rfl⟩)
    have HLy := hI (fun W => HLs.out (⟨y0, y1, y2⟩ : Hd) W)
    clear hyc hyi
    have i0 : (0 : Int) ≤ (i : Int) := by omega
    have i1 : (i : Int) < (n : Int) := by omega
    have HKC := hI (show ∀ W, Below w1.heap.size w1 W → W.cell? ⟨w.heap.size, 0, none⟩ = some (.int .i64 x0) ∧ W.cell? ⟨w.heap.size, 1, none⟩ = some (.int .i64 x1) ∧ W.cell? ⟨w.heap.size, 2, none⟩ = some (.string x2) ∧ W.cell? ⟨b, off + i * 3, none⟩ = some (.int .i64 y0) ∧ W.cell? ⟨b, off + i * 3 + 1, none⟩ = some (.int .i64 y1) ∧ W.cell? ⟨b, off + i * 3 + 2, none⟩ = some (.string y2) from fun W hW => ⟨(HXC.out W hW).1, (HXC.out W hW).2.1, (HXC.out W hW).2.2, HYW.out W hW⟩)
    have HBD := hI (show Below w1.heap.size w1 wr.drew from HBel.out.drew)
    obtain ⟨c0, c1, c2, k0, k1, k2⟩ := HKC.out wr HBel.out
    have hml : m ≤ i + 1 := by split at hpl <;> omega
    obtain ⟨g, hg⟩ : ∃ g, g = (fun y => !ltHd y (⟨x0, x1, x2⟩ : Hd)) (⟨y0, y1, y2⟩ : Hd) := ⟨_, rfl⟩
    obtain ⟨kq, hk⟩ : ∃ k, k = (fun _ => true) (⟨y0, y1, y2⟩ : Hd) := ⟨_, rfl⟩
    have HIn := hI (show P (i + 1) = ((p1 ++ (if !p2 && g then [(⟨x0, x1, x2⟩ : Hd)] else [])) ++ (if kq then [(⟨y0, y1, y2⟩ : Hd)] else []), p2 || g) from by rw [HPn.out, hg, hk]; rfl)
    clear HPn hpl
    skip
    have hlg : ltHd (⟨y0, y1, y2⟩ : Hd) (⟨x0, x1, x2⟩ : Hd) = !g := by rw [hg]; simp
    rw [hlg] at HLy
    clear hlg hg
    obtain rfl : kq = true := by rw [hk]
    clear hk
    cases p2 with
    | false =>
     cases g with
     | true =>
      go_wp2_with fail
      go_region_held3 (fun W => W.cell? ⟨w.heap.size, 0, none⟩ = some (.int .i64 x0) ∧ W.cell? ⟨w.heap.size, 1, none⟩ = some (.int .i64 x1) ∧ W.cell? ⟨w.heap.size, 2, none⟩ = some (.string x2) ∧ W.cell? ⟨b, off + i * 3, none⟩ = some (.int .i64 y0) ∧ W.cell? ⟨b, off + i * 3 + 1, none⟩ = some (.int .i64 y1) ∧ W.cell? ⟨b, off + i * 3 + 2, none⟩ = some (.string y2)) (first | exact HKC.out _ HBD.out | exact C6.out) (first | (go_at_call 109; (refine (HLy.out _).mono ?_); rintro e6 w6 ⟨rfl, b6⟩; have B6 := hI (HBD.out.trans (b6.mono HBD.out.size)); have C6 := hI (HKC.out _ B6.out); have R6 := hI (OwnAt.below HRow.out (((Below.refl _ wr).drew).trans (b6.mono (Nat.le_refl _)))); clear b6))
      obtain ⟨c6, c7, c8, k6, k7, k8⟩ := C6.out
      go_wp2_with (first | (at_builtin; (refine wpList_append_own _ rfl (.tmp 25) (.tmp 27) 22 rfl w1.heap.size 49 iz (.agg #[.int .i64 0, .int .i64 0, .string ⟨#[]⟩]) 3 32 Tryz.underlying22 hiz hz0 hz1 hz2 rfl (by decide) _ (m) _ (by simp [Act.eval]) ((OwnAt.row R6.out HM.out).alloc _) ⟨(w6).heap.size, 0, none⟩ 1 1 [.int .i64 x0, .int .i64 x1, .string x2] (by simp [Act.eval]) rfl (World.news_of_block (heap_alloc_new (w6) _)) (by intro u hu; simp only [List.mem_cons, List.not_mem_nil, or_false] at hu; rcases hu with rfl | rfl | rfl <;> rfl) (by unfold maxLen; omega) (by omega) (by have := B6.out.size; simp; omega) ?_); intro v8 w8 h8 g8 _; have R8 := hI (OwnAt.more (x := (⟨x0, x1, x2⟩ : Hd)) HM.out h8); have L8 := hI (show m + 1 = (p1 ++ [(⟨x0, x1, x2⟩ : Hd)]).length from by rw [HM.out]; simp); have B8 := hI (Below.grown (B6.out.alloc B6.out.size _) g8 (by have := B6.out.size; simp; omega) (fun j hj => (World.ownsRow.lt (OwnAt.row R6.out HM.out) j hj).1)); obtain ⟨z08, z18, z28, z38, z48, z58⟩ := HKC.out _ B8.out; clear h8 g8) | (at_builtin; (refine wpList_append_own _ rfl (.tmp 29) (.tmp 34) 22 rfl w1.heap.size 49 iz (.agg #[.int .i64 0, .int .i64 0, .string ⟨#[]⟩]) 3 32 Tryz.underlying22 hiz hz0 hz1 hz2 rfl (by decide) _ (m + 1) _ (by simp [Act.eval]) ((OwnAt.row R8.out L8.out).alloc _) ⟨(w8).heap.size, 0, none⟩ 1 1 [.int .i64 y0, .int .i64 y1, .string y2] (by simp [Act.eval]) rfl (World.news_of_block (heap_alloc_new (w8) _)) (by intro u hu; simp only [List.mem_cons, List.not_mem_nil, or_false] at hu; rcases hu with rfl | rfl | rfl <;> rfl) (by unfold maxLen; omega) (by omega) (by have := B8.out.size; simp; omega) ?_); intro v9 w9 h9 g9 _; have R9 := hI (OwnAt.more (x := (⟨y0, y1, y2⟩ : Hd)) L8.out h9); have L9 := hI (show m + 1 + 1 = (p1 ++ [(⟨x0, x1, x2⟩ : Hd)] ++ [(⟨y0, y1, y2⟩ : Hd)]).length from by rw [L8.out]; simp); have B9 := hI (Below.grown (B8.out.alloc B8.out.size _) g9 (by have := B8.out.size; simp; omega) (fun j hj => (World.ownsRow.lt (OwnAt.row R8.out L8.out) j hj).1)); obtain ⟨z09, z19, z29, z39, z49, z59⟩ := HKC.out _ B9.out; clear h9 g9))
      go_roundw
      case rel => exact ⟨i + 1, _, by omega, by go_num, by rw [HIn.out]; rfl, rfl, by rw [HIn.out]; simpa using R9.out, B9.out⟩
      case measure => simp [intOf]; omega
     | false =>
      go_wp2_with fail
      go_region_held3 (fun W => W.cell? ⟨w.heap.size, 0, none⟩ = some (.int .i64 x0) ∧ W.cell? ⟨w.heap.size, 1, none⟩ = some (.int .i64 x1) ∧ W.cell? ⟨w.heap.size, 2, none⟩ = some (.string x2) ∧ W.cell? ⟨b, off + i * 3, none⟩ = some (.int .i64 y0) ∧ W.cell? ⟨b, off + i * 3 + 1, none⟩ = some (.int .i64 y1) ∧ W.cell? ⟨b, off + i * 3 + 2, none⟩ = some (.string y2)) (first | exact HKC.out _ HBD.out | exact C6.out) (first | (go_at_call 109; (refine (HLy.out _).mono ?_); rintro e6 w6 ⟨rfl, b6⟩; have B6 := hI (HBD.out.trans (b6.mono HBD.out.size)); have C6 := hI (HKC.out _ B6.out); have R6 := hI (OwnAt.below HRow.out (((Below.refl _ wr).drew).trans (b6.mono (Nat.le_refl _)))); clear b6))
      obtain ⟨c6, c7, c8, k6, k7, k8⟩ := C6.out
      go_wp2_with (at_builtin; (refine wpList_append_own _ rfl (.tmp 29) (.tmp 34) 22 rfl w1.heap.size 49 iz (.agg #[.int .i64 0, .int .i64 0, .string ⟨#[]⟩]) 3 32 Tryz.underlying22 hiz hz0 hz1 hz2 rfl (by decide) _ (m) _ (by simp [Act.eval]) ((OwnAt.row R6.out HM.out).alloc _) ⟨(w6).heap.size, 0, none⟩ 1 1 [.int .i64 y0, .int .i64 y1, .string y2] (by simp [Act.eval]) rfl (World.news_of_block (heap_alloc_new (w6) _)) (by intro u hu; simp only [List.mem_cons, List.not_mem_nil, or_false] at hu; rcases hu with rfl | rfl | rfl <;> rfl) (by unfold maxLen; omega) (by omega) (by have := B6.out.size; simp; omega) ?_); intro v9 w9 h9 g9 _; have R9 := hI (OwnAt.more (x := (⟨y0, y1, y2⟩ : Hd)) HM.out h9); have L9 := hI (show m + 1 = (p1 ++ [(⟨y0, y1, y2⟩ : Hd)]).length from by rw [HM.out]; simp); have B9 := hI (Below.grown (B6.out.alloc B6.out.size _) g9 (by have := B6.out.size; simp; omega) (fun j hj => (World.ownsRow.lt (OwnAt.row R6.out HM.out) j hj).1)); obtain ⟨z09, z19, z29, z39, z49, z59⟩ := HKC.out _ B9.out; clear h9 g9)
      go_roundw
      case rel => exact ⟨i + 1, _, by omega, by go_num, by rw [HIn.out]; rfl, rfl, by rw [HIn.out]; simpa using R9.out, B9.out⟩
      case measure => simp [intOf]; omega
    | true =>
     go_wp2_with fail
     go_quiet (fail)
     generalize hq6 : wr.drewN nq = w6
     have B6 := hI (show Below w1.heap.size w1 w6 from hq6 ▸ below_drewN HBel.out _)
     have R6 := hI (show OwnAt 49 3 Hd.vs w1.heap.size _ (p1) w6 from hq6 ▸ OwnAt.below HRow.out (below_drewN (Below.refl _ wr) _))
     clear hq6
     obtain ⟨z06, z16, z26, z36, z46, z56⟩ := HKC.out _ B6.out
     go_wp2_with (at_builtin; (refine wpList_append_own _ rfl (.tmp 29) (.tmp 34) 22 rfl w1.heap.size 49 iz (.agg #[.int .i64 0, .int .i64 0, .string ⟨#[]⟩]) 3 32 Tryz.underlying22 hiz hz0 hz1 hz2 rfl (by decide) _ (m) _ (by simp [Act.eval]) ((OwnAt.row R6.out HM.out).alloc _) ⟨(w6).heap.size, 0, none⟩ 1 1 [.int .i64 y0, .int .i64 y1, .string y2] (by simp [Act.eval]) rfl (World.news_of_block (heap_alloc_new (w6) _)) (by intro u hu; simp only [List.mem_cons, List.not_mem_nil, or_false] at hu; rcases hu with rfl | rfl | rfl <;> rfl) (by unfold maxLen; omega) (by omega) (by have := B6.out.size; simp; omega) ?_); intro v9 w9 h9 g9 _; have R9 := hI (OwnAt.more (x := (⟨y0, y1, y2⟩ : Hd)) HM.out h9); have L9 := hI (show m + 1 = (p1 ++ [(⟨y0, y1, y2⟩ : Hd)]).length from by rw [HM.out]; simp); have B9 := hI (Below.grown (B6.out.alloc B6.out.size _) g9 (by have := B6.out.size; simp; omega) (fun j hj => (World.ownsRow.lt (OwnAt.row R6.out HM.out) j hj).1)); obtain ⟨z09, z19, z29, z39, z49, z59⟩ := HKC.out _ B9.out; clear h9 g9)
     go_roundw
     case rel => exact ⟨i + 1, _, by omega, by go_num, by rw [HIn.out]; rfl, rfl, by rw [HIn.out]; simpa using R9.out, B9.out⟩
     case measure => simp [intOf]; omega
  · obtain rfl : n = i := by omega
    obtain ⟨c0, c1, c2⟩ := HXC.out wr HBel.out
    have hml : m ≤ n + 1 := by split at hpl <;> omega
    clear hpl
    cases p2 with
    | false =>
     go_wp2_with (at_builtin; (refine wpList_append_own _ rfl (.tmp 38) (.tmp 40) 22 rfl w1.heap.size 49 iz (.agg #[.int .i64 0, .int .i64 0, .string ⟨#[]⟩]) 3 32 Tryz.underlying22 hiz hz0 hz1 hz2 rfl (by decide) _ (m) _ (by simp [Act.eval]) ((OwnAt.row HRow.out HM.out).alloc _) ⟨(wr).heap.size, 0, none⟩ 1 1 [.int .i64 x0, .int .i64 x1, .string x2] (by simp [Act.eval]) rfl (World.news_of_block (heap_alloc_new (wr) _)) (by intro u hu; simp only [List.mem_cons, List.not_mem_nil, or_false] at hu; rcases hu with rfl | rfl | rfl <;> rfl) (by unfold maxLen; omega) (by omega) (by have := HBel.out.size; simp; omega) ?_); intro v9 w9 h9 g9 _; have R9 := hI (OwnAt.more (x := (⟨x0, x1, x2⟩ : Hd)) HM.out h9); have L9 := hI (show m + 1 = (p1 ++ [(⟨x0, x1, x2⟩ : Hd)]).length from by rw [HM.out]; simp); have B9 := hI (Below.grown (HBel.out.alloc HBel.out.size _) g9 (by have := HBel.out.size; simp; omega) (fun j hj => (World.ownsRow.lt (OwnAt.row HRow.out HM.out) j hj).1)); clear h9 g9)
     go_ret
     refine ⟨_, rfl, ?_, HB1.out.trans (B9.out.mono HB1.out.size)⟩
     rw [HPE.out, HPi.out, ← hs1]
     simpa using R9.out
    | true =>
     go_wp2_with fail
     go_ret
     refine ⟨_, rfl, ?_, HB1.out.trans (HBel.out.mono HB1.out.size)⟩
     rw [HPE.out, HPi.out, ← hs1]
     simpa using HRow.out
set_option maxRecDepth 100000 in
set_option maxHeartbeats 16000000 in
theorem ixputName_any {B : Nat} (v : Value) (xs : List Kn) (x : Kn) (w : World) (h : RowsAt B 3 Kn.vs v xs w) (hB : B ≤ w.heap.size) (hn : xs.length ≤ 1073741823) :
 Calls Tryz.prog 51 #[v, .agg x.vs.toArray] w fun e w' => ∃ v', e = .returned v' ∧ OwnAt 61 3 Kn.vs (w.heap.size + 1) v' (putIn (fun y => !ltKn y x) (fun y => !(decide (y.dir = x.dir) && decide (y.name = x.name))) x xs) w' ∧ Below w.heap.size w w' := by
 obtain ⟨iz, hiz, hz0, hz1, hz2⟩ := info_parts Tryz.infoKn
 obtain ⟨ao, cap, b, off, rfl, hl, hx⟩ := h.walk
 obtain ⟨n, hnn⟩ : ∃ n, n = xs.length := ⟨_, rfl⟩
 rw [← hnn] at hl hx hn ⊢
 obtain ⟨x0, x1, x2⟩ := x
 obtain ⟨P, hP⟩ : ∃ P : Nat → List Kn × Bool, P = insTo (fun y => !ltKn y (⟨x0, x1, x2⟩ : Kn)) (fun y => !(decide (y.dir = (⟨x0, x1, x2⟩ : Kn).dir) && decide (y.name = (⟨x0, x1, x2⟩ : Kn).name))) (⟨x0, x1, x2⟩ : Kn) xs := ⟨_, rfl⟩
 have HP0 := hI (show P 0 = ([], false) from by rw [hP]; rfl)
 have HPS := hI (show ∀ i y, xs[i]? = some y → P (i + 1) = ins (fun y => !ltKn y (⟨x0, x1, x2⟩ : Kn)) (fun y => !(decide (y.dir = (⟨x0, x1, x2⟩ : Kn).dir) && decide (y.name = (⟨x0, x1, x2⟩ : Kn).name))) (⟨x0, x1, x2⟩ : Kn) (P i) y from fun i y h => by rw [hP]; exact insTo_succ _ _ _ xs i y h)
 have HPL := hI (show ∀ i, (P i).1.length ≤ i + (if (P i).2 then 1 else 0) from fun i => by rw [hP]; exact insTo_le _ _ _ xs i)
 have HPE := hI (show putIn (fun y => !ltKn y (⟨x0, x1, x2⟩ : Kn)) (fun y => !(decide (y.dir = (⟨x0, x1, x2⟩ : Kn).dir) && decide (y.name = (⟨x0, x1, x2⟩ : Kn).name))) (⟨x0, x1, x2⟩ : Kn) xs = (P n).1 ++ (if (P n).2 then [] else [(⟨x0, x1, x2⟩ : Kn)]) from by rw [hP, hnn]; rfl)
 show Calls Tryz.prog 51 #[.slice ao n cap, .agg #[.string x0, .string x1, .string x2]] w _
 obtain ⟨w1, hw1⟩ : ∃ w1, w1 = w.alloc (.cells #[.string x0, .string x1, .string x2] 61 (0, 0)) := ⟨_, rfl⟩
 have hs1 : w1.heap.size = w.heap.size + 1 := by rw [hw1]; simp
 have hb1 : Below w.heap.size w w1 := by rw [hw1]; exact (Below.refl _ w).alloc (Nat.le_refl _) _
 have hst : St 61 w.heap.size #[.string x0, .string x1, .string x2] w1 := by rw [hw1]; exact St.new w 61 _
 have HW1 := hI hw1
 have HB1 := hI hb1
 have HXC := hI (show ∀ W, Below w1.heap.size w1 W → W.cell? ⟨w.heap.size, 0, none⟩ = some (.string x0) ∧ W.cell? ⟨w.heap.size, 1, none⟩ = some (.string x1) ∧ W.cell? ⟨w.heap.size, 2, none⟩ = some (.string x2) from fun W hW => by
  have := hst.below hW
  exact ⟨this.cell rfl, this.cell rfl, this.cell rfl⟩)
 have HYC := hI (show ∀ i, i < n → ∃ y : Kn, xs[i]? = some y ∧ ao = some ⟨b, off, none⟩ ∧ ∀ W, Below w1.heap.size w1 W → W.rangeAt b (off + i * 3) y.vs from fun i hi => by
  obtain ⟨y, e1, e2, e3, e4⟩ := hx i hi
  exact ⟨y, e1, e2, fun W hW j u hu => ((hb1.trans (hW.mono hb1.size)).cell (p := ⟨b, off + i * 3 + j, none⟩) (Nat.lt_of_lt_of_le e3 hB)).trans (e4 j u hu)⟩)
 have HLs := hI (fun (y : Kn) W => ixlessKnown_any y (⟨x0, x1, x2⟩ : Kn) W)
 clear hx h hP hb1 hst hw1 hnn hB
 go_enter Tryz.func51, Tryz.ntmps51
 go_wp2
 rw [← HW1.out]
 go_loopw [5, 6, 7] (fun o dd c wr => ∃ (i : Nat) (vv : Value), i ≤ n ∧ c = .int .i64 i ∧ dd = .bool (P i).2 ∧ vv = o ∧ OwnAt 61 3 Kn.vs w1.heap.size vv (P i).1 wr ∧ Below w1.heap.size w1 wr) (fun _ _ c _ => n - (intOf c).toNat)
 case atStart => exact ⟨0, .slice none 0 0, Nat.zero_le _, rfl, by rw [HP0.out], rfl, by rw [HP0.out]; exact World.ownsRow_nil _ _ _ _, Below.refl _ _⟩
 case round =>
  obtain ⟨i, vv, hi, rfl, rfl, rfl, hrow, hbel⟩ := hrel
  have HRow := hI hrow
  have HBel := hI hbel
  have hsz := hbel.size
  have hpl := HPL.out i
  obtain ⟨p1, p2, hp⟩ : ∃ p1 p2, P i = (p1, p2) := ⟨_, _, rfl⟩
  rw [hp] at HRow hpl ⊢
  dsimp only at HRow hpl ⊢
  have HPi := hI hp
  obtain ⟨m, hm⟩ : ∃ m, m = p1.length := ⟨_, rfl⟩
  have HM := hI hm
  rw [← hm] at hpl
  clear hp hrow hbel hm
  by_cases hlt : i < n
  · obtain ⟨y, hyi, rfl, hyc⟩ := HYC.out i hlt
    have HPn := hI (HPS.out i y hyi)
    rw [HPi.out] at HPn
    obtain ⟨y0, y1, y2⟩ := y
    have HYW := hI (show ∀ W, Below w1.heap.size w1 W → W.cell? ⟨b, off + i * 3, none⟩ = some (.string y0) ∧ W.cell? ⟨b, off + i * 3 + 1, none⟩ = some (.string y1) ∧ W.cell? ⟨b, off + i * 3 + 2, none⟩ = some (.string y2) from fun W hW => ⟨hyc W hW 0 _ rfl, hyc W hW 1 _ rfl, hyc W hW 2 _ rfl⟩)
    have HLy := hI (fun W => HLs.out (⟨y0, y1, y2⟩ : Kn) W)
    clear hyc hyi
    have i0 : (0 : Int) ≤ (i : Int) := by omega
    have i1 : (i : Int) < (n : Int) := by omega
    have HKC := hI (show ∀ W, Below w1.heap.size w1 W → W.cell? ⟨w.heap.size, 0, none⟩ = some (.string x0) ∧ W.cell? ⟨w.heap.size, 1, none⟩ = some (.string x1) ∧ W.cell? ⟨w.heap.size, 2, none⟩ = some (.string x2) ∧ W.cell? ⟨b, off + i * 3, none⟩ = some (.string y0) ∧ W.cell? ⟨b, off + i * 3 + 1, none⟩ = some (.string y1) ∧ W.cell? ⟨b, off + i * 3 + 2, none⟩ = some (.string y2) from fun W hW => ⟨(HXC.out W hW).1, (HXC.out W hW).2.1, (HXC.out W hW).2.2, HYW.out W hW⟩)
    have HBD := hI (show Below w1.heap.size w1 wr.drew from HBel.out.drew)
    obtain ⟨c0, c1, c2, k0, k1, k2⟩ := HKC.out wr HBel.out
    have hml : m ≤ i + 1 := by split at hpl <;> omega
    obtain ⟨g, hg⟩ : ∃ g, g = (fun y => !ltKn y (⟨x0, x1, x2⟩ : Kn)) (⟨y0, y1, y2⟩ : Kn) := ⟨_, rfl⟩
    obtain ⟨kq, hk⟩ : ∃ k, k = (fun y => !(decide (y.dir = (⟨x0, x1, x2⟩ : Kn).dir) && decide (y.name = (⟨x0, x1, x2⟩ : Kn).name))) (⟨y0, y1, y2⟩ : Kn) := ⟨_, rfl⟩
    have HIn := hI (show P (i + 1) = ((p1 ++ (if !p2 && g then [(⟨x0, x1, x2⟩ : Kn)] else [])) ++ (if kq then [(⟨y0, y1, y2⟩ : Kn)] else []), p2 || g) from by rw [HPn.out, hg, hk]; rfl)
    clear HPn hpl
    skip
    have hlg : ltKn (⟨y0, y1, y2⟩ : Kn) (⟨x0, x1, x2⟩ : Kn) = !g := by rw [hg]; simp
    rw [hlg] at HLy
    clear hlg hg
    have hkd := hI (show kq = !(decide (y0 = x0) && decide (y1 = x1)) from hk)
    clear hk
    cases p2 with
    | false =>
     cases g with
     | true =>
      go_wp2_with fail
      go_region_held3 (fun W => W.cell? ⟨w.heap.size, 0, none⟩ = some (.string x0) ∧ W.cell? ⟨w.heap.size, 1, none⟩ = some (.string x1) ∧ W.cell? ⟨w.heap.size, 2, none⟩ = some (.string x2) ∧ W.cell? ⟨b, off + i * 3, none⟩ = some (.string y0) ∧ W.cell? ⟨b, off + i * 3 + 1, none⟩ = some (.string y1) ∧ W.cell? ⟨b, off + i * 3 + 2, none⟩ = some (.string y2)) (first | exact HKC.out _ HBD.out | exact C6.out) (first | (go_at_call 44; (refine (HLy.out _).mono ?_); rintro e6 w6 ⟨rfl, b6⟩; have B6 := hI (HBD.out.trans (b6.mono HBD.out.size)); have C6 := hI (HKC.out _ B6.out); have R6 := hI (OwnAt.below HRow.out (((Below.refl _ wr).drew).trans (b6.mono (Nat.le_refl _)))); clear b6))
      obtain ⟨c6, c7, c8, k6, k7, k8⟩ := C6.out
      go_wp2_with (at_builtin; (refine wpList_append_own _ rfl (.tmp 25) (.tmp 27) 24 rfl w1.heap.size 61 iz (.agg #[.string ⟨#[]⟩, .string ⟨#[]⟩, .string ⟨#[]⟩]) 3 48 Tryz.underlying24 hiz hz0 hz1 hz2 rfl (by decide) _ (m) _ (by simp [Act.eval]) ((OwnAt.row R6.out HM.out).alloc _) ⟨(w6).heap.size, 0, none⟩ 1 1 [.string x0, .string x1, .string x2] (by simp [Act.eval]) rfl (World.news_of_block (heap_alloc_new (w6) _)) (by intro u hu; simp only [List.mem_cons, List.not_mem_nil, or_false] at hu; rcases hu with rfl | rfl | rfl <;> rfl) (by unfold maxLen; omega) (by omega) (by have := B6.out.size; simp; omega) ?_); intro v8 w8 h8 g8 _; have R8 := hI (OwnAt.more (x := (⟨x0, x1, x2⟩ : Kn)) HM.out h8); have L8 := hI (show m + 1 = (p1 ++ [(⟨x0, x1, x2⟩ : Kn)]).length from by rw [HM.out]; simp); have B8 := hI (Below.grown (B6.out.alloc B6.out.size _) g8 (by have := B6.out.size; simp; omega) (fun j hj => (World.ownsRow.lt (OwnAt.row R6.out HM.out) j hj).1)); obtain ⟨z08, z18, z28, z38, z48, z58⟩ := HKC.out _ B8.out; clear h8 g8)
      by_cases h0 : y0 = x0
      · have d0 := str_is h0
        by_cases h1 : y1 = x1
        · have d1 := str_is h1
          obtain rfl : kq = false := by rw [hkd.out, decide_eq_true h0, decide_eq_true h1] <;> rfl
          clear h0 h1
          go_quiet (fail)
          generalize hq7 : w8.drewN nq = w7
          have B7 := hI (show Below w1.heap.size w1 w7 from hq7 ▸ below_drewN B8.out _)
          have R7 := hI (show OwnAt 61 3 Kn.vs w1.heap.size _ (p1 ++ [(⟨x0, x1, x2⟩ : Kn)]) w7 from hq7 ▸ OwnAt.below R8.out (below_drewN (Below.refl _ w8) _))
          clear hq7
          obtain ⟨z07, z17, z27, z37, z47, z57⟩ := HKC.out _ B7.out
          go_wp2_with fail
          go_roundw
          case rel => exact ⟨i + 1, _, by omega, by go_num, by rw [HIn.out]; rfl, rfl, by rw [HIn.out]; simpa using R7.out, B7.out⟩
          case measure => simp [intOf]; omega
        · have d1 := str_not h1
          obtain rfl : kq = true := by rw [hkd.out, decide_eq_false h1, Bool.and_false] <;> rfl
          clear h0 h1
          go_quiet (fail)
          generalize hq7 : w8.drewN nq = w7
          have B7 := hI (show Below w1.heap.size w1 w7 from hq7 ▸ below_drewN B8.out _)
          have R7 := hI (show OwnAt 61 3 Kn.vs w1.heap.size _ (p1 ++ [(⟨x0, x1, x2⟩ : Kn)]) w7 from hq7 ▸ OwnAt.below R8.out (below_drewN (Below.refl _ w8) _))
          clear hq7
          obtain ⟨z07, z17, z27, z37, z47, z57⟩ := HKC.out _ B7.out
          go_wp2_with (at_builtin; (refine wpList_append_own _ rfl (.tmp 47) (.tmp 52) 24 rfl w1.heap.size 61 iz (.agg #[.string ⟨#[]⟩, .string ⟨#[]⟩, .string ⟨#[]⟩]) 3 48 Tryz.underlying24 hiz hz0 hz1 hz2 rfl (by decide) _ (m + 1) _ (by simp [Act.eval]) ((OwnAt.row R7.out L8.out).alloc _) ⟨(w7).heap.size, 0, none⟩ 1 1 [.string y0, .string y1, .string y2] (by simp [Act.eval]) rfl (World.news_of_block (heap_alloc_new (w7) _)) (by intro u hu; simp only [List.mem_cons, List.not_mem_nil, or_false] at hu; rcases hu with rfl | rfl | rfl <;> rfl) (by unfold maxLen; omega) (by omega) (by have := B7.out.size; simp; omega) ?_); intro v9 w9 h9 g9 _; have R9 := hI (OwnAt.more (x := (⟨y0, y1, y2⟩ : Kn)) L8.out h9); have L9 := hI (show m + 1 + 1 = (p1 ++ [(⟨x0, x1, x2⟩ : Kn)] ++ [(⟨y0, y1, y2⟩ : Kn)]).length from by rw [L8.out]; simp); have B9 := hI (Below.grown (B7.out.alloc B7.out.size _) g9 (by have := B7.out.size; simp; omega) (fun j hj => (World.ownsRow.lt (OwnAt.row R7.out L8.out) j hj).1)); obtain ⟨z09, z19, z29, z39, z49, z59⟩ := HKC.out _ B9.out; clear h9 g9)
          go_roundw
          case rel => exact ⟨i + 1, _, by omega, by go_num, by rw [HIn.out]; rfl, rfl, by rw [HIn.out]; simpa using R9.out, B9.out⟩
          case measure => simp [intOf]; omega
      · have d0 := str_not h0
        obtain rfl : kq = true := by rw [hkd.out, decide_eq_false h0, Bool.false_and] <;> rfl
        clear h0
        go_quiet (fail)
        generalize hq7 : w8.drewN nq = w7
        have B7 := hI (show Below w1.heap.size w1 w7 from hq7 ▸ below_drewN B8.out _)
        have R7 := hI (show OwnAt 61 3 Kn.vs w1.heap.size _ (p1 ++ [(⟨x0, x1, x2⟩ : Kn)]) w7 from hq7 ▸ OwnAt.below R8.out (below_drewN (Below.refl _ w8) _))
        clear hq7
        obtain ⟨z07, z17, z27, z37, z47, z57⟩ := HKC.out _ B7.out
        go_wp2_with (at_builtin; (refine wpList_append_own _ rfl (.tmp 47) (.tmp 52) 24 rfl w1.heap.size 61 iz (.agg #[.string ⟨#[]⟩, .string ⟨#[]⟩, .string ⟨#[]⟩]) 3 48 Tryz.underlying24 hiz hz0 hz1 hz2 rfl (by decide) _ (m + 1) _ (by simp [Act.eval]) ((OwnAt.row R7.out L8.out).alloc _) ⟨(w7).heap.size, 0, none⟩ 1 1 [.string y0, .string y1, .string y2] (by simp [Act.eval]) rfl (World.news_of_block (heap_alloc_new (w7) _)) (by intro u hu; simp only [List.mem_cons, List.not_mem_nil, or_false] at hu; rcases hu with rfl | rfl | rfl <;> rfl) (by unfold maxLen; omega) (by omega) (by have := B7.out.size; simp; omega) ?_); intro v9 w9 h9 g9 _; have R9 := hI (OwnAt.more (x := (⟨y0, y1, y2⟩ : Kn)) L8.out h9); have L9 := hI (show m + 1 + 1 = (p1 ++ [(⟨x0, x1, x2⟩ : Kn)] ++ [(⟨y0, y1, y2⟩ : Kn)]).length from by rw [L8.out]; simp); have B9 := hI (Below.grown (B7.out.alloc B7.out.size _) g9 (by have := B7.out.size; simp; omega) (fun j hj => (World.ownsRow.lt (OwnAt.row R7.out L8.out) j hj).1)); obtain ⟨z09, z19, z29, z39, z49, z59⟩ := HKC.out _ B9.out; clear h9 g9)
        go_roundw
        case rel => exact ⟨i + 1, _, by omega, by go_num, by rw [HIn.out]; rfl, rfl, by rw [HIn.out]; simpa using R9.out, B9.out⟩
        case measure => simp [intOf]; omega
     | false =>
      go_wp2_with fail
      go_region_held3 (fun W => W.cell? ⟨w.heap.size, 0, none⟩ = some (.string x0) ∧ W.cell? ⟨w.heap.size, 1, none⟩ = some (.string x1) ∧ W.cell? ⟨w.heap.size, 2, none⟩ = some (.string x2) ∧ W.cell? ⟨b, off + i * 3, none⟩ = some (.string y0) ∧ W.cell? ⟨b, off + i * 3 + 1, none⟩ = some (.string y1) ∧ W.cell? ⟨b, off + i * 3 + 2, none⟩ = some (.string y2)) (first | exact HKC.out _ HBD.out | exact C6.out) (first | (go_at_call 44; (refine (HLy.out _).mono ?_); rintro e6 w6 ⟨rfl, b6⟩; have B6 := hI (HBD.out.trans (b6.mono HBD.out.size)); have C6 := hI (HKC.out _ B6.out); have R6 := hI (OwnAt.below HRow.out (((Below.refl _ wr).drew).trans (b6.mono (Nat.le_refl _)))); clear b6))
      obtain ⟨c6, c7, c8, k6, k7, k8⟩ := C6.out
      go_wp2_with fail
      by_cases h0 : y0 = x0
      · have d0 := str_is h0
        by_cases h1 : y1 = x1
        · have d1 := str_is h1
          obtain rfl : kq = false := by rw [hkd.out, decide_eq_true h0, decide_eq_true h1] <;> rfl
          clear h0 h1
          go_quiet (fail)
          generalize hq7 : w6.drewN nq = w7
          have B7 := hI (show Below w1.heap.size w1 w7 from hq7 ▸ below_drewN B6.out _)
          have R7 := hI (show OwnAt 61 3 Kn.vs w1.heap.size _ (p1) w7 from hq7 ▸ OwnAt.below R6.out (below_drewN (Below.refl _ w6) _))
          clear hq7
          obtain ⟨z07, z17, z27, z37, z47, z57⟩ := HKC.out _ B7.out
          go_wp2_with fail
          go_roundw
          case rel => exact ⟨i + 1, _, by omega, by go_num, by rw [HIn.out]; rfl, rfl, by rw [HIn.out]; simpa using R7.out, B7.out⟩
          case measure => simp [intOf]; omega
        · have d1 := str_not h1
          obtain rfl : kq = true := by rw [hkd.out, decide_eq_false h1, Bool.and_false] <;> rfl
          clear h0 h1
          go_quiet (fail)
          generalize hq7 : w6.drewN nq = w7
          have B7 := hI (show Below w1.heap.size w1 w7 from hq7 ▸ below_drewN B6.out _)
          have R7 := hI (show OwnAt 61 3 Kn.vs w1.heap.size _ (p1) w7 from hq7 ▸ OwnAt.below R6.out (below_drewN (Below.refl _ w6) _))
          clear hq7
          obtain ⟨z07, z17, z27, z37, z47, z57⟩ := HKC.out _ B7.out
          go_wp2_with (at_builtin; (refine wpList_append_own _ rfl (.tmp 47) (.tmp 52) 24 rfl w1.heap.size 61 iz (.agg #[.string ⟨#[]⟩, .string ⟨#[]⟩, .string ⟨#[]⟩]) 3 48 Tryz.underlying24 hiz hz0 hz1 hz2 rfl (by decide) _ (m) _ (by simp [Act.eval]) ((OwnAt.row R7.out HM.out).alloc _) ⟨(w7).heap.size, 0, none⟩ 1 1 [.string y0, .string y1, .string y2] (by simp [Act.eval]) rfl (World.news_of_block (heap_alloc_new (w7) _)) (by intro u hu; simp only [List.mem_cons, List.not_mem_nil, or_false] at hu; rcases hu with rfl | rfl | rfl <;> rfl) (by unfold maxLen; omega) (by omega) (by have := B7.out.size; simp; omega) ?_); intro v9 w9 h9 g9 _; have R9 := hI (OwnAt.more (x := (⟨y0, y1, y2⟩ : Kn)) HM.out h9); have L9 := hI (show m + 1 = (p1 ++ [(⟨y0, y1, y2⟩ : Kn)]).length from by rw [HM.out]; simp); have B9 := hI (Below.grown (B7.out.alloc B7.out.size _) g9 (by have := B7.out.size; simp; omega) (fun j hj => (World.ownsRow.lt (OwnAt.row R7.out HM.out) j hj).1)); obtain ⟨z09, z19, z29, z39, z49, z59⟩ := HKC.out _ B9.out; clear h9 g9)
          go_roundw
          case rel => exact ⟨i + 1, _, by omega, by go_num, by rw [HIn.out]; rfl, rfl, by rw [HIn.out]; simpa using R9.out, B9.out⟩
          case measure => simp [intOf]; omega
      · have d0 := str_not h0
        obtain rfl : kq = true := by rw [hkd.out, decide_eq_false h0, Bool.false_and] <;> rfl
        clear h0
        go_quiet (fail)
        generalize hq7 : w6.drewN nq = w7
        have B7 := hI (show Below w1.heap.size w1 w7 from hq7 ▸ below_drewN B6.out _)
        have R7 := hI (show OwnAt 61 3 Kn.vs w1.heap.size _ (p1) w7 from hq7 ▸ OwnAt.below R6.out (below_drewN (Below.refl _ w6) _))
        clear hq7
        obtain ⟨z07, z17, z27, z37, z47, z57⟩ := HKC.out _ B7.out
        go_wp2_with (at_builtin; (refine wpList_append_own _ rfl (.tmp 47) (.tmp 52) 24 rfl w1.heap.size 61 iz (.agg #[.string ⟨#[]⟩, .string ⟨#[]⟩, .string ⟨#[]⟩]) 3 48 Tryz.underlying24 hiz hz0 hz1 hz2 rfl (by decide) _ (m) _ (by simp [Act.eval]) ((OwnAt.row R7.out HM.out).alloc _) ⟨(w7).heap.size, 0, none⟩ 1 1 [.string y0, .string y1, .string y2] (by simp [Act.eval]) rfl (World.news_of_block (heap_alloc_new (w7) _)) (by intro u hu; simp only [List.mem_cons, List.not_mem_nil, or_false] at hu; rcases hu with rfl | rfl | rfl <;> rfl) (by unfold maxLen; omega) (by omega) (by have := B7.out.size; simp; omega) ?_); intro v9 w9 h9 g9 _; have R9 := hI (OwnAt.more (x := (⟨y0, y1, y2⟩ : Kn)) HM.out h9); have L9 := hI (show m + 1 = (p1 ++ [(⟨y0, y1, y2⟩ : Kn)]).length from by rw [HM.out]; simp); have B9 := hI (Below.grown (B7.out.alloc B7.out.size _) g9 (by have := B7.out.size; simp; omega) (fun j hj => (World.ownsRow.lt (OwnAt.row R7.out HM.out) j hj).1)); obtain ⟨z09, z19, z29, z39, z49, z59⟩ := HKC.out _ B9.out; clear h9 g9)
        go_roundw
        case rel => exact ⟨i + 1, _, by omega, by go_num, by rw [HIn.out]; rfl, rfl, by rw [HIn.out]; simpa using R9.out, B9.out⟩
        case measure => simp [intOf]; omega
    | true =>
     go_wp2_with fail
     go_quiet (fail)
     generalize hq6 : wr.drewN nq = w6
     have B6 := hI (show Below w1.heap.size w1 w6 from hq6 ▸ below_drewN HBel.out _)
     have R6 := hI (show OwnAt 61 3 Kn.vs w1.heap.size _ (p1) w6 from hq6 ▸ OwnAt.below HRow.out (below_drewN (Below.refl _ wr) _))
     clear hq6
     obtain ⟨z06, z16, z26, z36, z46, z56⟩ := HKC.out _ B6.out
     go_wp2_with fail
     by_cases h0 : y0 = x0
     · have d0 := str_is h0
       by_cases h1 : y1 = x1
       · have d1 := str_is h1
         obtain rfl : kq = false := by rw [hkd.out, decide_eq_true h0, decide_eq_true h1] <;> rfl
         clear h0 h1
         go_quiet (fail)
         generalize hq7 : w6.drewN nq = w7
         have B7 := hI (show Below w1.heap.size w1 w7 from hq7 ▸ below_drewN B6.out _)
         have R7 := hI (show OwnAt 61 3 Kn.vs w1.heap.size _ (p1) w7 from hq7 ▸ OwnAt.below R6.out (below_drewN (Below.refl _ w6) _))
         clear hq7
         obtain ⟨z07, z17, z27, z37, z47, z57⟩ := HKC.out _ B7.out
         go_wp2_with fail
         go_roundw
         case rel => exact ⟨i + 1, _, by omega, by go_num, by rw [HIn.out]; rfl, rfl, by rw [HIn.out]; simpa using R7.out, B7.out⟩
         case measure => simp [intOf]; omega
       · have d1 := str_not h1
         obtain rfl : kq = true := by rw [hkd.out, decide_eq_false h1, Bool.and_false] <;> rfl
         clear h0 h1
         go_quiet (fail)
         generalize hq7 : w6.drewN nq = w7
         have B7 := hI (show Below w1.heap.size w1 w7 from hq7 ▸ below_drewN B6.out _)
         have R7 := hI (show OwnAt 61 3 Kn.vs w1.heap.size _ (p1) w7 from hq7 ▸ OwnAt.below R6.out (below_drewN (Below.refl _ w6) _))
         clear hq7
         obtain ⟨z07, z17, z27, z37, z47, z57⟩ := HKC.out _ B7.out
         go_wp2_with (at_builtin; (refine wpList_append_own _ rfl (.tmp 47) (.tmp 52) 24 rfl w1.heap.size 61 iz (.agg #[.string ⟨#[]⟩, .string ⟨#[]⟩, .string ⟨#[]⟩]) 3 48 Tryz.underlying24 hiz hz0 hz1 hz2 rfl (by decide) _ (m) _ (by simp [Act.eval]) ((OwnAt.row R7.out HM.out).alloc _) ⟨(w7).heap.size, 0, none⟩ 1 1 [.string y0, .string y1, .string y2] (by simp [Act.eval]) rfl (World.news_of_block (heap_alloc_new (w7) _)) (by intro u hu; simp only [List.mem_cons, List.not_mem_nil, or_false] at hu; rcases hu with rfl | rfl | rfl <;> rfl) (by unfold maxLen; omega) (by omega) (by have := B7.out.size; simp; omega) ?_); intro v9 w9 h9 g9 _; have R9 := hI (OwnAt.more (x := (⟨y0, y1, y2⟩ : Kn)) HM.out h9); have L9 := hI (show m + 1 = (p1 ++ [(⟨y0, y1, y2⟩ : Kn)]).length from by rw [HM.out]; simp); have B9 := hI (Below.grown (B7.out.alloc B7.out.size _) g9 (by have := B7.out.size; simp; omega) (fun j hj => (World.ownsRow.lt (OwnAt.row R7.out HM.out) j hj).1)); obtain ⟨z09, z19, z29, z39, z49, z59⟩ := HKC.out _ B9.out; clear h9 g9)
         go_roundw
         case rel => exact ⟨i + 1, _, by omega, by go_num, by rw [HIn.out]; rfl, rfl, by rw [HIn.out]; simpa using R9.out, B9.out⟩
         case measure => simp [intOf]; omega
     · have d0 := str_not h0
       obtain rfl : kq = true := by rw [hkd.out, decide_eq_false h0, Bool.false_and] <;> rfl
       clear h0
       go_quiet (fail)
       generalize hq7 : w6.drewN nq = w7
       have B7 := hI (show Below w1.heap.size w1 w7 from hq7 ▸ below_drewN B6.out _)
       have R7 := hI (show OwnAt 61 3 Kn.vs w1.heap.size _ (p1) w7 from hq7 ▸ OwnAt.below R6.out (below_drewN (Below.refl _ w6) _))
       clear hq7
       obtain ⟨z07, z17, z27, z37, z47, z57⟩ := HKC.out _ B7.out
       go_wp2_with (at_builtin; (refine wpList_append_own _ rfl (.tmp 47) (.tmp 52) 24 rfl w1.heap.size 61 iz (.agg #[.string ⟨#[]⟩, .string ⟨#[]⟩, .string ⟨#[]⟩]) 3 48 Tryz.underlying24 hiz hz0 hz1 hz2 rfl (by decide) _ (m) _ (by simp [Act.eval]) ((OwnAt.row R7.out HM.out).alloc _) ⟨(w7).heap.size, 0, none⟩ 1 1 [.string y0, .string y1, .string y2] (by simp [Act.eval]) rfl (World.news_of_block (heap_alloc_new (w7) _)) (by intro u hu; simp only [List.mem_cons, List.not_mem_nil, or_false] at hu; rcases hu with rfl | rfl | rfl <;> rfl) (by unfold maxLen; omega) (by omega) (by have := B7.out.size; simp; omega) ?_); intro v9 w9 h9 g9 _; have R9 := hI (OwnAt.more (x := (⟨y0, y1, y2⟩ : Kn)) HM.out h9); have L9 := hI (show m + 1 = (p1 ++ [(⟨y0, y1, y2⟩ : Kn)]).length from by rw [HM.out]; simp); have B9 := hI (Below.grown (B7.out.alloc B7.out.size _) g9 (by have := B7.out.size; simp; omega) (fun j hj => (World.ownsRow.lt (OwnAt.row R7.out HM.out) j hj).1)); obtain ⟨z09, z19, z29, z39, z49, z59⟩ := HKC.out _ B9.out; clear h9 g9)
       go_roundw
       case rel => exact ⟨i + 1, _, by omega, by go_num, by rw [HIn.out]; rfl, rfl, by rw [HIn.out]; simpa using R9.out, B9.out⟩
       case measure => simp [intOf]; omega
  · obtain rfl : n = i := by omega
    obtain ⟨c0, c1, c2⟩ := HXC.out wr HBel.out
    have hml : m ≤ n + 1 := by split at hpl <;> omega
    clear hpl
    cases p2 with
    | false =>
     go_wp2_with (at_builtin; (refine wpList_append_own _ rfl (.tmp 56) (.tmp 58) 24 rfl w1.heap.size 61 iz (.agg #[.string ⟨#[]⟩, .string ⟨#[]⟩, .string ⟨#[]⟩]) 3 48 Tryz.underlying24 hiz hz0 hz1 hz2 rfl (by decide) _ (m) _ (by simp [Act.eval]) ((OwnAt.row HRow.out HM.out).alloc _) ⟨(wr).heap.size, 0, none⟩ 1 1 [.string x0, .string x1, .string x2] (by simp [Act.eval]) rfl (World.news_of_block (heap_alloc_new (wr) _)) (by intro u hu; simp only [List.mem_cons, List.not_mem_nil, or_false] at hu; rcases hu with rfl | rfl | rfl <;> rfl) (by unfold maxLen; omega) (by omega) (by have := HBel.out.size; simp; omega) ?_); intro v9 w9 h9 g9 _; have R9 := hI (OwnAt.more (x := (⟨x0, x1, x2⟩ : Kn)) HM.out h9); have L9 := hI (show m + 1 = (p1 ++ [(⟨x0, x1, x2⟩ : Kn)]).length from by rw [HM.out]; simp); have B9 := hI (Below.grown (HBel.out.alloc HBel.out.size _) g9 (by have := HBel.out.size; simp; omega) (fun j hj => (World.ownsRow.lt (OwnAt.row HRow.out HM.out) j hj).1)); clear h9 g9)
     go_ret
     refine ⟨_, rfl, ?_, HB1.out.trans (B9.out.mono HB1.out.size)⟩
     rw [HPE.out, HPi.out, ← hs1]
     simpa using R9.out
    | true =>
     go_wp2_with fail
     go_ret
     refine ⟨_, rfl, ?_, HB1.out.trans (HBel.out.mono HB1.out.size)⟩
     rw [HPE.out, HPi.out, ← hs1]
     simpa using HRow.out
set_option maxRecDepth 100000 in
set_option maxHeartbeats 16000000 in
theorem ixputBlock_any {B : Nat} (v : Value) (xs : List Bk) (x : Bk) (w : World) (h : RowsAt B 3 Bk.vs v xs w) (hB : B ≤ w.heap.size) (hn : xs.length ≤ 1073741823) :
 Calls Tryz.prog 53 #[v, .agg x.vs.toArray] w fun e w' => ∃ v', e = .returned v' ∧ OwnAt 66 3 Bk.vs (w.heap.size + 1) v' (putIn (fun y => !ltBk y x) (fun y => !(decide (y.up = x.up) && decide (y.no = x.no))) x xs) w' ∧ Below w.heap.size w w' := by
 obtain ⟨iz, hiz, hz0, hz1, hz2⟩ := info_parts Tryz.infoBk
 obtain ⟨ao, cap, b, off, rfl, hl, hx⟩ := h.walk
 obtain ⟨n, hnn⟩ : ∃ n, n = xs.length := ⟨_, rfl⟩
 rw [← hnn] at hl hx hn ⊢
 obtain ⟨x0, x1, x2⟩ := x
 obtain ⟨P, hP⟩ : ∃ P : Nat → List Bk × Bool, P = insTo (fun y => !ltBk y (⟨x0, x1, x2⟩ : Bk)) (fun y => !(decide (y.up = (⟨x0, x1, x2⟩ : Bk).up) && decide (y.no = (⟨x0, x1, x2⟩ : Bk).no))) (⟨x0, x1, x2⟩ : Bk) xs := ⟨_, rfl⟩
 have HP0 := hI (show P 0 = ([], false) from by rw [hP]; rfl)
 have HPS := hI (show ∀ i y, xs[i]? = some y → P (i + 1) = ins (fun y => !ltBk y (⟨x0, x1, x2⟩ : Bk)) (fun y => !(decide (y.up = (⟨x0, x1, x2⟩ : Bk).up) && decide (y.no = (⟨x0, x1, x2⟩ : Bk).no))) (⟨x0, x1, x2⟩ : Bk) (P i) y from fun i y h => by rw [hP]; exact insTo_succ _ _ _ xs i y h)
 have HPL := hI (show ∀ i, (P i).1.length ≤ i + (if (P i).2 then 1 else 0) from fun i => by rw [hP]; exact insTo_le _ _ _ xs i)
 have HPE := hI (show putIn (fun y => !ltBk y (⟨x0, x1, x2⟩ : Bk)) (fun y => !(decide (y.up = (⟨x0, x1, x2⟩ : Bk).up) && decide (y.no = (⟨x0, x1, x2⟩ : Bk).no))) (⟨x0, x1, x2⟩ : Bk) xs = (P n).1 ++ (if (P n).2 then [] else [(⟨x0, x1, x2⟩ : Bk)]) from by rw [hP, hnn]; rfl)
 show Calls Tryz.prog 53 #[.slice ao n cap, .agg #[.string x0, .int .i64 x1, .int .i64 x2]] w _
 obtain ⟨w1, hw1⟩ : ∃ w1, w1 = w.alloc (.cells #[.string x0, .int .i64 x1, .int .i64 x2] 66 (0, 0)) := ⟨_, rfl⟩
 have hs1 : w1.heap.size = w.heap.size + 1 := by rw [hw1]; simp
 have hb1 : Below w.heap.size w w1 := by rw [hw1]; exact (Below.refl _ w).alloc (Nat.le_refl _) _
 have hst : St 66 w.heap.size #[.string x0, .int .i64 x1, .int .i64 x2] w1 := by rw [hw1]; exact St.new w 66 _
 have HW1 := hI hw1
 have HB1 := hI hb1
 have HXC := hI (show ∀ W, Below w1.heap.size w1 W → W.cell? ⟨w.heap.size, 0, none⟩ = some (.string x0) ∧ W.cell? ⟨w.heap.size, 1, none⟩ = some (.int .i64 x1) ∧ W.cell? ⟨w.heap.size, 2, none⟩ = some (.int .i64 x2) from fun W hW => by
  have := hst.below hW
  exact ⟨this.cell rfl, this.cell rfl, this.cell rfl⟩)
 have HYC := hI (show ∀ i, i < n → ∃ y : Bk, xs[i]? = some y ∧ ao = some ⟨b, off, none⟩ ∧ ∀ W, Below w1.heap.size w1 W → W.rangeAt b (off + i * 3) y.vs from fun i hi => by
  obtain ⟨y, e1, e2, e3, e4⟩ := hx i hi
  exact ⟨y, e1, e2, fun W hW j u hu => ((hb1.trans (hW.mono hb1.size)).cell (p := ⟨b, off + i * 3 + j, none⟩) (Nat.lt_of_lt_of_le e3 hB)).trans (e4 j u hu)⟩)
 have HLs := hI (fun (y : Bk) W => ixlessPlaced_any y (⟨x0, x1, x2⟩ : Bk) W)
 clear hx h hP hb1 hst hw1 hnn hB
 go_enter Tryz.func53, Tryz.ntmps53
 go_wp2
 rw [← HW1.out]
 go_loopw [5, 6, 7] (fun o dd c wr => ∃ (i : Nat) (vv : Value), i ≤ n ∧ c = .int .i64 i ∧ dd = .bool (P i).2 ∧ vv = o ∧ OwnAt 66 3 Bk.vs w1.heap.size vv (P i).1 wr ∧ Below w1.heap.size w1 wr) (fun _ _ c _ => n - (intOf c).toNat)
 case atStart => exact ⟨0, .slice none 0 0, Nat.zero_le _, rfl, by rw [HP0.out], rfl, by rw [HP0.out]; exact World.ownsRow_nil _ _ _ _, Below.refl _ _⟩
 case round =>
  obtain ⟨i, vv, hi, rfl, rfl, rfl, hrow, hbel⟩ := hrel
  have HRow := hI hrow
  have HBel := hI hbel
  have hsz := hbel.size
  have hpl := HPL.out i
  obtain ⟨p1, p2, hp⟩ : ∃ p1 p2, P i = (p1, p2) := ⟨_, _, rfl⟩
  rw [hp] at HRow hpl ⊢
  dsimp only at HRow hpl ⊢
  have HPi := hI hp
  obtain ⟨m, hm⟩ : ∃ m, m = p1.length := ⟨_, rfl⟩
  have HM := hI hm
  rw [← hm] at hpl
  clear hp hrow hbel hm
  by_cases hlt : i < n
  · obtain ⟨y, hyi, rfl, hyc⟩ := HYC.out i hlt
    have HPn := hI (HPS.out i y hyi)
    rw [HPi.out] at HPn
    obtain ⟨y0, y1, y2⟩ := y
    have HYW := hI (show ∀ W, Below w1.heap.size w1 W → W.cell? ⟨b, off + i * 3, none⟩ = some (.string y0) ∧ W.cell? ⟨b, off + i * 3 + 1, none⟩ = some (.int .i64 y1) ∧ W.cell? ⟨b, off + i * 3 + 2, none⟩ = some (.int .i64 y2) from fun W hW => ⟨hyc W hW 0 _ rfl, hyc W hW 1 _ rfl, hyc W hW 2 _ rfl⟩)
    have HLy := hI (fun W => HLs.out (⟨y0, y1, y2⟩ : Bk) W)
    clear hyc hyi
    have i0 : (0 : Int) ≤ (i : Int) := by omega
    have i1 : (i : Int) < (n : Int) := by omega
    have HKC := hI (show ∀ W, Below w1.heap.size w1 W → W.cell? ⟨w.heap.size, 0, none⟩ = some (.string x0) ∧ W.cell? ⟨w.heap.size, 1, none⟩ = some (.int .i64 x1) ∧ W.cell? ⟨w.heap.size, 2, none⟩ = some (.int .i64 x2) ∧ W.cell? ⟨b, off + i * 3, none⟩ = some (.string y0) ∧ W.cell? ⟨b, off + i * 3 + 1, none⟩ = some (.int .i64 y1) ∧ W.cell? ⟨b, off + i * 3 + 2, none⟩ = some (.int .i64 y2) from fun W hW => ⟨(HXC.out W hW).1, (HXC.out W hW).2.1, (HXC.out W hW).2.2, HYW.out W hW⟩)
    have HBD := hI (show Below w1.heap.size w1 wr.drew from HBel.out.drew)
    obtain ⟨c0, c1, c2, k0, k1, k2⟩ := HKC.out wr HBel.out
    have hml : m ≤ i + 1 := by split at hpl <;> omega
    obtain ⟨g, hg⟩ : ∃ g, g = (fun y => !ltBk y (⟨x0, x1, x2⟩ : Bk)) (⟨y0, y1, y2⟩ : Bk) := ⟨_, rfl⟩
    obtain ⟨kq, hk⟩ : ∃ k, k = (fun y => !(decide (y.up = (⟨x0, x1, x2⟩ : Bk).up) && decide (y.no = (⟨x0, x1, x2⟩ : Bk).no))) (⟨y0, y1, y2⟩ : Bk) := ⟨_, rfl⟩
    have HIn := hI (show P (i + 1) = ((p1 ++ (if !p2 && g then [(⟨x0, x1, x2⟩ : Bk)] else [])) ++ (if kq then [(⟨y0, y1, y2⟩ : Bk)] else []), p2 || g) from by rw [HPn.out, hg, hk]; rfl)
    clear HPn hpl
    skip
    have hlg : ltBk (⟨y0, y1, y2⟩ : Bk) (⟨x0, x1, x2⟩ : Bk) = !g := by rw [hg]; simp
    rw [hlg] at HLy
    clear hlg hg
    have hkd := hI (show kq = !(decide (y0 = x0) && decide (y1 = x1)) from hk)
    clear hk
    cases p2 with
    | false =>
     cases g with
     | true =>
      go_wp2_with fail
      go_region_held3 (fun W => W.cell? ⟨w.heap.size, 0, none⟩ = some (.string x0) ∧ W.cell? ⟨w.heap.size, 1, none⟩ = some (.int .i64 x1) ∧ W.cell? ⟨w.heap.size, 2, none⟩ = some (.int .i64 x2) ∧ W.cell? ⟨b, off + i * 3, none⟩ = some (.string y0) ∧ W.cell? ⟨b, off + i * 3 + 1, none⟩ = some (.int .i64 y1) ∧ W.cell? ⟨b, off + i * 3 + 2, none⟩ = some (.int .i64 y2)) (first | exact HKC.out _ HBD.out | exact C6.out) (first | (go_at_call 110; (refine (HLy.out _).mono ?_); rintro e6 w6 ⟨rfl, b6⟩; have B6 := hI (HBD.out.trans (b6.mono HBD.out.size)); have C6 := hI (HKC.out _ B6.out); have R6 := hI (OwnAt.below HRow.out (((Below.refl _ wr).drew).trans (b6.mono (Nat.le_refl _)))); clear b6))
      obtain ⟨c6, c7, c8, k6, k7, k8⟩ := C6.out
      go_wp2_with (at_builtin; (refine wpList_append_own _ rfl (.tmp 25) (.tmp 27) 25 rfl w1.heap.size 66 iz (.agg #[.string ⟨#[]⟩, .int .i64 0, .int .i64 0]) 3 32 Tryz.underlying25 hiz hz0 hz1 hz2 rfl (by decide) _ (m) _ (by simp [Act.eval]) ((OwnAt.row R6.out HM.out).alloc _) ⟨(w6).heap.size, 0, none⟩ 1 1 [.string x0, .int .i64 x1, .int .i64 x2] (by simp [Act.eval]) rfl (World.news_of_block (heap_alloc_new (w6) _)) (by intro u hu; simp only [List.mem_cons, List.not_mem_nil, or_false] at hu; rcases hu with rfl | rfl | rfl <;> rfl) (by unfold maxLen; omega) (by omega) (by have := B6.out.size; simp; omega) ?_); intro v8 w8 h8 g8 _; have R8 := hI (OwnAt.more (x := (⟨x0, x1, x2⟩ : Bk)) HM.out h8); have L8 := hI (show m + 1 = (p1 ++ [(⟨x0, x1, x2⟩ : Bk)]).length from by rw [HM.out]; simp); have B8 := hI (Below.grown (B6.out.alloc B6.out.size _) g8 (by have := B6.out.size; simp; omega) (fun j hj => (World.ownsRow.lt (OwnAt.row R6.out HM.out) j hj).1)); obtain ⟨z08, z18, z28, z38, z48, z58⟩ := HKC.out _ B8.out; clear h8 g8)
      by_cases h0 : y0 = x0
      · have d0 := str_is h0
        by_cases h1 : y1 = x1
        · have d1 := (show (y1 == x1) = true from beq_iff_eq.2 h1)
          obtain rfl : kq = false := by rw [hkd.out, decide_eq_true h0, decide_eq_true h1] <;> rfl
          clear h0 h1
          go_quiet (fail)
          generalize hq7 : w8.drewN nq = w7
          have B7 := hI (show Below w1.heap.size w1 w7 from hq7 ▸ below_drewN B8.out _)
          have R7 := hI (show OwnAt 66 3 Bk.vs w1.heap.size _ (p1 ++ [(⟨x0, x1, x2⟩ : Bk)]) w7 from hq7 ▸ OwnAt.below R8.out (below_drewN (Below.refl _ w8) _))
          clear hq7
          obtain ⟨z07, z17, z27, z37, z47, z57⟩ := HKC.out _ B7.out
          go_wp2_with fail
          go_roundw
          case rel => exact ⟨i + 1, _, by omega, by go_num, by rw [HIn.out]; rfl, rfl, by rw [HIn.out]; simpa using R7.out, B7.out⟩
          case measure => simp [intOf]; omega
        · have d1 := (show (y1 == x1) = false from beq_eq_false_iff_ne.2 h1)
          obtain rfl : kq = true := by rw [hkd.out, decide_eq_false h1, Bool.and_false] <;> rfl
          clear h0 h1
          go_quiet (fail)
          generalize hq7 : w8.drewN nq = w7
          have B7 := hI (show Below w1.heap.size w1 w7 from hq7 ▸ below_drewN B8.out _)
          have R7 := hI (show OwnAt 66 3 Bk.vs w1.heap.size _ (p1 ++ [(⟨x0, x1, x2⟩ : Bk)]) w7 from hq7 ▸ OwnAt.below R8.out (below_drewN (Below.refl _ w8) _))
          clear hq7
          obtain ⟨z07, z17, z27, z37, z47, z57⟩ := HKC.out _ B7.out
          go_wp2_with (at_builtin; (refine wpList_append_own _ rfl (.tmp 47) (.tmp 52) 25 rfl w1.heap.size 66 iz (.agg #[.string ⟨#[]⟩, .int .i64 0, .int .i64 0]) 3 32 Tryz.underlying25 hiz hz0 hz1 hz2 rfl (by decide) _ (m + 1) _ (by simp [Act.eval]) ((OwnAt.row R7.out L8.out).alloc _) ⟨(w7).heap.size, 0, none⟩ 1 1 [.string y0, .int .i64 y1, .int .i64 y2] (by simp [Act.eval]) rfl (World.news_of_block (heap_alloc_new (w7) _)) (by intro u hu; simp only [List.mem_cons, List.not_mem_nil, or_false] at hu; rcases hu with rfl | rfl | rfl <;> rfl) (by unfold maxLen; omega) (by omega) (by have := B7.out.size; simp; omega) ?_); intro v9 w9 h9 g9 _; have R9 := hI (OwnAt.more (x := (⟨y0, y1, y2⟩ : Bk)) L8.out h9); have L9 := hI (show m + 1 + 1 = (p1 ++ [(⟨x0, x1, x2⟩ : Bk)] ++ [(⟨y0, y1, y2⟩ : Bk)]).length from by rw [L8.out]; simp); have B9 := hI (Below.grown (B7.out.alloc B7.out.size _) g9 (by have := B7.out.size; simp; omega) (fun j hj => (World.ownsRow.lt (OwnAt.row R7.out L8.out) j hj).1)); obtain ⟨z09, z19, z29, z39, z49, z59⟩ := HKC.out _ B9.out; clear h9 g9)
          go_roundw
          case rel => exact ⟨i + 1, _, by omega, by go_num, by rw [HIn.out]; rfl, rfl, by rw [HIn.out]; simpa using R9.out, B9.out⟩
          case measure => simp [intOf]; omega
      · have d0 := str_not h0
        obtain rfl : kq = true := by rw [hkd.out, decide_eq_false h0, Bool.false_and] <;> rfl
        clear h0
        go_quiet (fail)
        generalize hq7 : w8.drewN nq = w7
        have B7 := hI (show Below w1.heap.size w1 w7 from hq7 ▸ below_drewN B8.out _)
        have R7 := hI (show OwnAt 66 3 Bk.vs w1.heap.size _ (p1 ++ [(⟨x0, x1, x2⟩ : Bk)]) w7 from hq7 ▸ OwnAt.below R8.out (below_drewN (Below.refl _ w8) _))
        clear hq7
        obtain ⟨z07, z17, z27, z37, z47, z57⟩ := HKC.out _ B7.out
        go_wp2_with (at_builtin; (refine wpList_append_own _ rfl (.tmp 47) (.tmp 52) 25 rfl w1.heap.size 66 iz (.agg #[.string ⟨#[]⟩, .int .i64 0, .int .i64 0]) 3 32 Tryz.underlying25 hiz hz0 hz1 hz2 rfl (by decide) _ (m + 1) _ (by simp [Act.eval]) ((OwnAt.row R7.out L8.out).alloc _) ⟨(w7).heap.size, 0, none⟩ 1 1 [.string y0, .int .i64 y1, .int .i64 y2] (by simp [Act.eval]) rfl (World.news_of_block (heap_alloc_new (w7) _)) (by intro u hu; simp only [List.mem_cons, List.not_mem_nil, or_false] at hu; rcases hu with rfl | rfl | rfl <;> rfl) (by unfold maxLen; omega) (by omega) (by have := B7.out.size; simp; omega) ?_); intro v9 w9 h9 g9 _; have R9 := hI (OwnAt.more (x := (⟨y0, y1, y2⟩ : Bk)) L8.out h9); have L9 := hI (show m + 1 + 1 = (p1 ++ [(⟨x0, x1, x2⟩ : Bk)] ++ [(⟨y0, y1, y2⟩ : Bk)]).length from by rw [L8.out]; simp); have B9 := hI (Below.grown (B7.out.alloc B7.out.size _) g9 (by have := B7.out.size; simp; omega) (fun j hj => (World.ownsRow.lt (OwnAt.row R7.out L8.out) j hj).1)); obtain ⟨z09, z19, z29, z39, z49, z59⟩ := HKC.out _ B9.out; clear h9 g9)
        go_roundw
        case rel => exact ⟨i + 1, _, by omega, by go_num, by rw [HIn.out]; rfl, rfl, by rw [HIn.out]; simpa using R9.out, B9.out⟩
        case measure => simp [intOf]; omega
     | false =>
      go_wp2_with fail
      go_region_held3 (fun W => W.cell? ⟨w.heap.size, 0, none⟩ = some (.string x0) ∧ W.cell? ⟨w.heap.size, 1, none⟩ = some (.int .i64 x1) ∧ W.cell? ⟨w.heap.size, 2, none⟩ = some (.int .i64 x2) ∧ W.cell? ⟨b, off + i * 3, none⟩ = some (.string y0) ∧ W.cell? ⟨b, off + i * 3 + 1, none⟩ = some (.int .i64 y1) ∧ W.cell? ⟨b, off + i * 3 + 2, none⟩ = some (.int .i64 y2)) (first | exact HKC.out _ HBD.out | exact C6.out) (first | (go_at_call 110; (refine (HLy.out _).mono ?_); rintro e6 w6 ⟨rfl, b6⟩; have B6 := hI (HBD.out.trans (b6.mono HBD.out.size)); have C6 := hI (HKC.out _ B6.out); have R6 := hI (OwnAt.below HRow.out (((Below.refl _ wr).drew).trans (b6.mono (Nat.le_refl _)))); clear b6))
      obtain ⟨c6, c7, c8, k6, k7, k8⟩ := C6.out
      go_wp2_with fail
      by_cases h0 : y0 = x0
      · have d0 := str_is h0
        by_cases h1 : y1 = x1
        · have d1 := (show (y1 == x1) = true from beq_iff_eq.2 h1)
          obtain rfl : kq = false := by rw [hkd.out, decide_eq_true h0, decide_eq_true h1] <;> rfl
          clear h0 h1
          go_quiet (fail)
          generalize hq7 : w6.drewN nq = w7
          have B7 := hI (show Below w1.heap.size w1 w7 from hq7 ▸ below_drewN B6.out _)
          have R7 := hI (show OwnAt 66 3 Bk.vs w1.heap.size _ (p1) w7 from hq7 ▸ OwnAt.below R6.out (below_drewN (Below.refl _ w6) _))
          clear hq7
          obtain ⟨z07, z17, z27, z37, z47, z57⟩ := HKC.out _ B7.out
          go_wp2_with fail
          go_roundw
          case rel => exact ⟨i + 1, _, by omega, by go_num, by rw [HIn.out]; rfl, rfl, by rw [HIn.out]; simpa using R7.out, B7.out⟩
          case measure => simp [intOf]; omega
        · have d1 := (show (y1 == x1) = false from beq_eq_false_iff_ne.2 h1)
          obtain rfl : kq = true := by rw [hkd.out, decide_eq_false h1, Bool.and_false] <;> rfl
          clear h0 h1
          go_quiet (fail)
          generalize hq7 : w6.drewN nq = w7
          have B7 := hI (show Below w1.heap.size w1 w7 from hq7 ▸ below_drewN B6.out _)
          have R7 := hI (show OwnAt 66 3 Bk.vs w1.heap.size _ (p1) w7 from hq7 ▸ OwnAt.below R6.out (below_drewN (Below.refl _ w6) _))
          clear hq7
          obtain ⟨z07, z17, z27, z37, z47, z57⟩ := HKC.out _ B7.out
          go_wp2_with (at_builtin; (refine wpList_append_own _ rfl (.tmp 47) (.tmp 52) 25 rfl w1.heap.size 66 iz (.agg #[.string ⟨#[]⟩, .int .i64 0, .int .i64 0]) 3 32 Tryz.underlying25 hiz hz0 hz1 hz2 rfl (by decide) _ (m) _ (by simp [Act.eval]) ((OwnAt.row R7.out HM.out).alloc _) ⟨(w7).heap.size, 0, none⟩ 1 1 [.string y0, .int .i64 y1, .int .i64 y2] (by simp [Act.eval]) rfl (World.news_of_block (heap_alloc_new (w7) _)) (by intro u hu; simp only [List.mem_cons, List.not_mem_nil, or_false] at hu; rcases hu with rfl | rfl | rfl <;> rfl) (by unfold maxLen; omega) (by omega) (by have := B7.out.size; simp; omega) ?_); intro v9 w9 h9 g9 _; have R9 := hI (OwnAt.more (x := (⟨y0, y1, y2⟩ : Bk)) HM.out h9); have L9 := hI (show m + 1 = (p1 ++ [(⟨y0, y1, y2⟩ : Bk)]).length from by rw [HM.out]; simp); have B9 := hI (Below.grown (B7.out.alloc B7.out.size _) g9 (by have := B7.out.size; simp; omega) (fun j hj => (World.ownsRow.lt (OwnAt.row R7.out HM.out) j hj).1)); obtain ⟨z09, z19, z29, z39, z49, z59⟩ := HKC.out _ B9.out; clear h9 g9)
          go_roundw
          case rel => exact ⟨i + 1, _, by omega, by go_num, by rw [HIn.out]; rfl, rfl, by rw [HIn.out]; simpa using R9.out, B9.out⟩
          case measure => simp [intOf]; omega
      · have d0 := str_not h0
        obtain rfl : kq = true := by rw [hkd.out, decide_eq_false h0, Bool.false_and] <;> rfl
        clear h0
        go_quiet (fail)
        generalize hq7 : w6.drewN nq = w7
        have B7 := hI (show Below w1.heap.size w1 w7 from hq7 ▸ below_drewN B6.out _)
        have R7 := hI (show OwnAt 66 3 Bk.vs w1.heap.size _ (p1) w7 from hq7 ▸ OwnAt.below R6.out (below_drewN (Below.refl _ w6) _))
        clear hq7
        obtain ⟨z07, z17, z27, z37, z47, z57⟩ := HKC.out _ B7.out
        go_wp2_with (at_builtin; (refine wpList_append_own _ rfl (.tmp 47) (.tmp 52) 25 rfl w1.heap.size 66 iz (.agg #[.string ⟨#[]⟩, .int .i64 0, .int .i64 0]) 3 32 Tryz.underlying25 hiz hz0 hz1 hz2 rfl (by decide) _ (m) _ (by simp [Act.eval]) ((OwnAt.row R7.out HM.out).alloc _) ⟨(w7).heap.size, 0, none⟩ 1 1 [.string y0, .int .i64 y1, .int .i64 y2] (by simp [Act.eval]) rfl (World.news_of_block (heap_alloc_new (w7) _)) (by intro u hu; simp only [List.mem_cons, List.not_mem_nil, or_false] at hu; rcases hu with rfl | rfl | rfl <;> rfl) (by unfold maxLen; omega) (by omega) (by have := B7.out.size; simp; omega) ?_); intro v9 w9 h9 g9 _; have R9 := hI (OwnAt.more (x := (⟨y0, y1, y2⟩ : Bk)) HM.out h9); have L9 := hI (show m + 1 = (p1 ++ [(⟨y0, y1, y2⟩ : Bk)]).length from by rw [HM.out]; simp); have B9 := hI (Below.grown (B7.out.alloc B7.out.size _) g9 (by have := B7.out.size; simp; omega) (fun j hj => (World.ownsRow.lt (OwnAt.row R7.out HM.out) j hj).1)); obtain ⟨z09, z19, z29, z39, z49, z59⟩ := HKC.out _ B9.out; clear h9 g9)
        go_roundw
        case rel => exact ⟨i + 1, _, by omega, by go_num, by rw [HIn.out]; rfl, rfl, by rw [HIn.out]; simpa using R9.out, B9.out⟩
        case measure => simp [intOf]; omega
    | true =>
     go_wp2_with fail
     go_quiet (fail)
     generalize hq6 : wr.drewN nq = w6
     have B6 := hI (show Below w1.heap.size w1 w6 from hq6 ▸ below_drewN HBel.out _)
     have R6 := hI (show OwnAt 66 3 Bk.vs w1.heap.size _ (p1) w6 from hq6 ▸ OwnAt.below HRow.out (below_drewN (Below.refl _ wr) _))
     clear hq6
     obtain ⟨z06, z16, z26, z36, z46, z56⟩ := HKC.out _ B6.out
     go_wp2_with fail
     by_cases h0 : y0 = x0
     · have d0 := str_is h0
       by_cases h1 : y1 = x1
       · have d1 := (show (y1 == x1) = true from beq_iff_eq.2 h1)
         obtain rfl : kq = false := by rw [hkd.out, decide_eq_true h0, decide_eq_true h1] <;> rfl
         clear h0 h1
         go_quiet (fail)
         generalize hq7 : w6.drewN nq = w7
         have B7 := hI (show Below w1.heap.size w1 w7 from hq7 ▸ below_drewN B6.out _)
         have R7 := hI (show OwnAt 66 3 Bk.vs w1.heap.size _ (p1) w7 from hq7 ▸ OwnAt.below R6.out (below_drewN (Below.refl _ w6) _))
         clear hq7
         obtain ⟨z07, z17, z27, z37, z47, z57⟩ := HKC.out _ B7.out
         go_wp2_with fail
         go_roundw
         case rel => exact ⟨i + 1, _, by omega, by go_num, by rw [HIn.out]; rfl, rfl, by rw [HIn.out]; simpa using R7.out, B7.out⟩
         case measure => simp [intOf]; omega
       · have d1 := (show (y1 == x1) = false from beq_eq_false_iff_ne.2 h1)
         obtain rfl : kq = true := by rw [hkd.out, decide_eq_false h1, Bool.and_false] <;> rfl
         clear h0 h1
         go_quiet (fail)
         generalize hq7 : w6.drewN nq = w7
         have B7 := hI (show Below w1.heap.size w1 w7 from hq7 ▸ below_drewN B6.out _)
         have R7 := hI (show OwnAt 66 3 Bk.vs w1.heap.size _ (p1) w7 from hq7 ▸ OwnAt.below R6.out (below_drewN (Below.refl _ w6) _))
         clear hq7
         obtain ⟨z07, z17, z27, z37, z47, z57⟩ := HKC.out _ B7.out
         go_wp2_with (at_builtin; (refine wpList_append_own _ rfl (.tmp 47) (.tmp 52) 25 rfl w1.heap.size 66 iz (.agg #[.string ⟨#[]⟩, .int .i64 0, .int .i64 0]) 3 32 Tryz.underlying25 hiz hz0 hz1 hz2 rfl (by decide) _ (m) _ (by simp [Act.eval]) ((OwnAt.row R7.out HM.out).alloc _) ⟨(w7).heap.size, 0, none⟩ 1 1 [.string y0, .int .i64 y1, .int .i64 y2] (by simp [Act.eval]) rfl (World.news_of_block (heap_alloc_new (w7) _)) (by intro u hu; simp only [List.mem_cons, List.not_mem_nil, or_false] at hu; rcases hu with rfl | rfl | rfl <;> rfl) (by unfold maxLen; omega) (by omega) (by have := B7.out.size; simp; omega) ?_); intro v9 w9 h9 g9 _; have R9 := hI (OwnAt.more (x := (⟨y0, y1, y2⟩ : Bk)) HM.out h9); have L9 := hI (show m + 1 = (p1 ++ [(⟨y0, y1, y2⟩ : Bk)]).length from by rw [HM.out]; simp); have B9 := hI (Below.grown (B7.out.alloc B7.out.size _) g9 (by have := B7.out.size; simp; omega) (fun j hj => (World.ownsRow.lt (OwnAt.row R7.out HM.out) j hj).1)); obtain ⟨z09, z19, z29, z39, z49, z59⟩ := HKC.out _ B9.out; clear h9 g9)
         go_roundw
         case rel => exact ⟨i + 1, _, by omega, by go_num, by rw [HIn.out]; rfl, rfl, by rw [HIn.out]; simpa using R9.out, B9.out⟩
         case measure => simp [intOf]; omega
     · have d0 := str_not h0
       obtain rfl : kq = true := by rw [hkd.out, decide_eq_false h0, Bool.false_and] <;> rfl
       clear h0
       go_quiet (fail)
       generalize hq7 : w6.drewN nq = w7
       have B7 := hI (show Below w1.heap.size w1 w7 from hq7 ▸ below_drewN B6.out _)
       have R7 := hI (show OwnAt 66 3 Bk.vs w1.heap.size _ (p1) w7 from hq7 ▸ OwnAt.below R6.out (below_drewN (Below.refl _ w6) _))
       clear hq7
       obtain ⟨z07, z17, z27, z37, z47, z57⟩ := HKC.out _ B7.out
       go_wp2_with (at_builtin; (refine wpList_append_own _ rfl (.tmp 47) (.tmp 52) 25 rfl w1.heap.size 66 iz (.agg #[.string ⟨#[]⟩, .int .i64 0, .int .i64 0]) 3 32 Tryz.underlying25 hiz hz0 hz1 hz2 rfl (by decide) _ (m) _ (by simp [Act.eval]) ((OwnAt.row R7.out HM.out).alloc _) ⟨(w7).heap.size, 0, none⟩ 1 1 [.string y0, .int .i64 y1, .int .i64 y2] (by simp [Act.eval]) rfl (World.news_of_block (heap_alloc_new (w7) _)) (by intro u hu; simp only [List.mem_cons, List.not_mem_nil, or_false] at hu; rcases hu with rfl | rfl | rfl <;> rfl) (by unfold maxLen; omega) (by omega) (by have := B7.out.size; simp; omega) ?_); intro v9 w9 h9 g9 _; have R9 := hI (OwnAt.more (x := (⟨y0, y1, y2⟩ : Bk)) HM.out h9); have L9 := hI (show m + 1 = (p1 ++ [(⟨y0, y1, y2⟩ : Bk)]).length from by rw [HM.out]; simp); have B9 := hI (Below.grown (B7.out.alloc B7.out.size _) g9 (by have := B7.out.size; simp; omega) (fun j hj => (World.ownsRow.lt (OwnAt.row R7.out HM.out) j hj).1)); obtain ⟨z09, z19, z29, z39, z49, z59⟩ := HKC.out _ B9.out; clear h9 g9)
       go_roundw
       case rel => exact ⟨i + 1, _, by omega, by go_num, by rw [HIn.out]; rfl, rfl, by rw [HIn.out]; simpa using R9.out, B9.out⟩
       case measure => simp [intOf]; omega
  · obtain rfl : n = i := by omega
    obtain ⟨c0, c1, c2⟩ := HXC.out wr HBel.out
    have hml : m ≤ n + 1 := by split at hpl <;> omega
    clear hpl
    cases p2 with
    | false =>
     go_wp2_with (at_builtin; (refine wpList_append_own _ rfl (.tmp 56) (.tmp 58) 25 rfl w1.heap.size 66 iz (.agg #[.string ⟨#[]⟩, .int .i64 0, .int .i64 0]) 3 32 Tryz.underlying25 hiz hz0 hz1 hz2 rfl (by decide) _ (m) _ (by simp [Act.eval]) ((OwnAt.row HRow.out HM.out).alloc _) ⟨(wr).heap.size, 0, none⟩ 1 1 [.string x0, .int .i64 x1, .int .i64 x2] (by simp [Act.eval]) rfl (World.news_of_block (heap_alloc_new (wr) _)) (by intro u hu; simp only [List.mem_cons, List.not_mem_nil, or_false] at hu; rcases hu with rfl | rfl | rfl <;> rfl) (by unfold maxLen; omega) (by omega) (by have := HBel.out.size; simp; omega) ?_); intro v9 w9 h9 g9 _; have R9 := hI (OwnAt.more (x := (⟨x0, x1, x2⟩ : Bk)) HM.out h9); have L9 := hI (show m + 1 = (p1 ++ [(⟨x0, x1, x2⟩ : Bk)]).length from by rw [HM.out]; simp); have B9 := hI (Below.grown (HBel.out.alloc HBel.out.size _) g9 (by have := HBel.out.size; simp; omega) (fun j hj => (World.ownsRow.lt (OwnAt.row HRow.out HM.out) j hj).1)); clear h9 g9)
     go_ret
     refine ⟨_, rfl, ?_, HB1.out.trans (B9.out.mono HB1.out.size)⟩
     rw [HPE.out, HPi.out, ← hs1]
     simpa using R9.out
    | true =>
     go_wp2_with fail
     go_ret
     refine ⟨_, rfl, ?_, HB1.out.trans (HBel.out.mono HB1.out.size)⟩
     rw [HPE.out, HPi.out, ← hs1]
     simpa using HRow.out
set_option maxRecDepth 100000 in
set_option maxHeartbeats 16000000 in
theorem ixputFile_any {B : Nat} (v : Value) (xs : List Cd) (x : Cd) (w : World) (h : RowsAt B 11 Cd.vs v xs w) (hB : B ≤ w.heap.size) (hn : xs.length ≤ 1073741823) :
 Calls Tryz.prog 50 #[v, .agg x.vs.toArray] w fun e w' => ∃ v', e = .returned v' ∧ OwnAt 57 11 Cd.vs (w.heap.size + 1) v' (putIn (fun y => !slt y.up x.up) (fun y => !decide (y.up = x.up)) x xs) w' ∧ Below w.heap.size w w' := by
 obtain ⟨iz, hiz, hz0, hz1, hz2⟩ := info_parts Tryz.infoCd
 obtain ⟨ao, cap, b, off, rfl, hl, hx⟩ := h.walk
 obtain ⟨n, hnn⟩ : ∃ n, n = xs.length := ⟨_, rfl⟩
 rw [← hnn] at hl hx hn ⊢
 obtain ⟨x0, x1, x2, x3, x4, x5, x6, x7, x8, x9, x10⟩ := x
 obtain ⟨P, hP⟩ : ∃ P : Nat → List Cd × Bool, P = insTo (fun y => !slt y.up (⟨x0, x1, x2, x3, x4, x5, x6, x7, x8, x9, x10⟩ : Cd).up) (fun y => !decide (y.up = (⟨x0, x1, x2, x3, x4, x5, x6, x7, x8, x9, x10⟩ : Cd).up)) (⟨x0, x1, x2, x3, x4, x5, x6, x7, x8, x9, x10⟩ : Cd) xs := ⟨_, rfl⟩
 have HP0 := hI (show P 0 = ([], false) from by rw [hP]; rfl)
 have HPS := hI (show ∀ i y, xs[i]? = some y → P (i + 1) = ins (fun y => !slt y.up (⟨x0, x1, x2, x3, x4, x5, x6, x7, x8, x9, x10⟩ : Cd).up) (fun y => !decide (y.up = (⟨x0, x1, x2, x3, x4, x5, x6, x7, x8, x9, x10⟩ : Cd).up)) (⟨x0, x1, x2, x3, x4, x5, x6, x7, x8, x9, x10⟩ : Cd) (P i) y from fun i y h => by rw [hP]; exact insTo_succ _ _ _ xs i y h)
 have HPL := hI (show ∀ i, (P i).1.length ≤ i + (if (P i).2 then 1 else 0) from fun i => by rw [hP]; exact insTo_le _ _ _ xs i)
 have HPE := hI (show putIn (fun y => !slt y.up (⟨x0, x1, x2, x3, x4, x5, x6, x7, x8, x9, x10⟩ : Cd).up) (fun y => !decide (y.up = (⟨x0, x1, x2, x3, x4, x5, x6, x7, x8, x9, x10⟩ : Cd).up)) (⟨x0, x1, x2, x3, x4, x5, x6, x7, x8, x9, x10⟩ : Cd) xs = (P n).1 ++ (if (P n).2 then [] else [(⟨x0, x1, x2, x3, x4, x5, x6, x7, x8, x9, x10⟩ : Cd)]) from by rw [hP, hnn]; rfl)
 show Calls Tryz.prog 50 #[.slice ao n cap, .agg #[.string x0, .int .i64 x1, .int .i64 x2, .int .i64 x3, .int .i64 x4, .int .i64 x5, .int .i64 x6, .int .i64 x7, .int .i64 x8, .int .i64 x9, .int .i64 x10]] w _
 obtain ⟨w1, hw1⟩ : ∃ w1, w1 = w.alloc (.cells #[.string x0, .int .i64 x1, .int .i64 x2, .int .i64 x3, .int .i64 x4, .int .i64 x5, .int .i64 x6, .int .i64 x7, .int .i64 x8, .int .i64 x9, .int .i64 x10] 57 (0, 0)) := ⟨_, rfl⟩
 have hs1 : w1.heap.size = w.heap.size + 1 := by rw [hw1]; simp
 have hb1 : Below w.heap.size w w1 := by rw [hw1]; exact (Below.refl _ w).alloc (Nat.le_refl _) _
 have hst : St 57 w.heap.size #[.string x0, .int .i64 x1, .int .i64 x2, .int .i64 x3, .int .i64 x4, .int .i64 x5, .int .i64 x6, .int .i64 x7, .int .i64 x8, .int .i64 x9, .int .i64 x10] w1 := by rw [hw1]; exact St.new w 57 _
 have HW1 := hI hw1
 have HB1 := hI hb1
 have HXC := hI (show ∀ W, Below w1.heap.size w1 W → W.cell? ⟨w.heap.size, 0, none⟩ = some (.string x0) ∧ W.cell? ⟨w.heap.size, 1, none⟩ = some (.int .i64 x1) ∧ W.cell? ⟨w.heap.size, 2, none⟩ = some (.int .i64 x2) ∧ W.cell? ⟨w.heap.size, 3, none⟩ = some (.int .i64 x3) ∧ W.cell? ⟨w.heap.size, 4, none⟩ = some (.int .i64 x4) ∧ W.cell? ⟨w.heap.size, 5, none⟩ = some (.int .i64 x5) ∧ W.cell? ⟨w.heap.size, 6, none⟩ = some (.int .i64 x6) ∧ W.cell? ⟨w.heap.size, 7, none⟩ = some (.int .i64 x7) ∧ W.cell? ⟨w.heap.size, 8, none⟩ = some (.int .i64 x8) ∧ W.cell? ⟨w.heap.size, 9, none⟩ = some (.int .i64 x9) ∧ W.cell? ⟨w.heap.size, 10, none⟩ = some (.int .i64 x10) from fun W hW => by
  have := hst.below hW
  exact ⟨this.cell rfl, this.cell rfl, this.cell rfl, this.cell rfl, this.cell rfl, this.cell rfl, this.cell rfl, this.cell rfl, this.cell rfl, this.cell rfl, this.cell rfl⟩)
 have HYC := hI (show ∀ i, i < n → ∃ y : Cd, xs[i]? = some y ∧ ao = some ⟨b, off, none⟩ ∧ ∀ W, Below w1.heap.size w1 W → W.rangeAt b (off + i * 11) y.vs from fun i hi => by
  obtain ⟨y, e1, e2, e3, e4⟩ := hx i hi
  exact ⟨y, e1, e2, fun W hW j u hu => ((hb1.trans (hW.mono hb1.size)).cell (p := ⟨b, off + i * 11 + j, none⟩) (Nat.lt_of_lt_of_le e3 hB)).trans (e4 j u hu)⟩)
 clear hx h hP hb1 hst hw1 hnn hB
 go_enter Tryz.func50, Tryz.ntmps50
 go_wp2
 rw [← HW1.out]
 go_loopw [5, 6, 7] (fun o dd c wr => ∃ (i : Nat) (vv : Value), i ≤ n ∧ c = .int .i64 i ∧ dd = .bool (P i).2 ∧ vv = o ∧ OwnAt 57 11 Cd.vs w1.heap.size vv (P i).1 wr ∧ Below w1.heap.size w1 wr) (fun _ _ c _ => n - (intOf c).toNat)
 case atStart => exact ⟨0, .slice none 0 0, Nat.zero_le _, rfl, by rw [HP0.out], rfl, by rw [HP0.out]; exact World.ownsRow_nil _ _ _ _, Below.refl _ _⟩
 case round =>
  obtain ⟨i, vv, hi, rfl, rfl, rfl, hrow, hbel⟩ := hrel
  have HRow := hI hrow
  have HBel := hI hbel
  have hsz := hbel.size
  have hpl := HPL.out i
  obtain ⟨p1, p2, hp⟩ : ∃ p1 p2, P i = (p1, p2) := ⟨_, _, rfl⟩
  rw [hp] at HRow hpl ⊢
  dsimp only at HRow hpl ⊢
  have HPi := hI hp
  obtain ⟨m, hm⟩ : ∃ m, m = p1.length := ⟨_, rfl⟩
  have HM := hI hm
  rw [← hm] at hpl
  clear hp hrow hbel hm
  by_cases hlt : i < n
  · obtain ⟨y, hyi, rfl, hyc⟩ := HYC.out i hlt
    have HPn := hI (HPS.out i y hyi)
    rw [HPi.out] at HPn
    obtain ⟨y0, y1, y2, y3, y4, y5, y6, y7, y8, y9, y10⟩ := y
    have HYW := hI (show ∀ W, Below w1.heap.size w1 W → W.cell? ⟨b, off + i * 11, none⟩ = some (.string y0) ∧ W.cell? ⟨b, off + i * 11 + 1, none⟩ = some (.int .i64 y1) ∧ W.cell? ⟨b, off + i * 11 + 2, none⟩ = some (.int .i64 y2) ∧ W.cell? ⟨b, off + i * 11 + 3, none⟩ = some (.int .i64 y3) ∧ W.cell? ⟨b, off + i * 11 + 4, none⟩ = some (.int .i64 y4) ∧ W.cell? ⟨b, off + i * 11 + 5, none⟩ = some (.int .i64 y5) ∧ W.cell? ⟨b, off + i * 11 + 6, none⟩ = some (.int .i64 y6) ∧ W.cell? ⟨b, off + i * 11 + 7, none⟩ = some (.int .i64 y7) ∧ W.cell? ⟨b, off + i * 11 + 8, none⟩ = some (.int .i64 y8) ∧ W.cell? ⟨b, off + i * 11 + 9, none⟩ = some (.int .i64 y9) ∧ W.cell? ⟨b, off + i * 11 + 10, none⟩ = some (.int .i64 y10) from fun W hW => ⟨hyc W hW 0 _ rfl, hyc W hW 1 _ rfl, hyc W hW 2 _ rfl, hyc W hW 3 _ rfl, hyc W hW 4 _ rfl, hyc W hW 5 _ rfl, hyc W hW 6 _ rfl, hyc W hW 7 _ rfl, hyc W hW 8 _ rfl, hyc W hW 9 _ rfl, hyc W hW 10 _ rfl⟩)
    clear hyc hyi
    have i0 : (0 : Int) ≤ (i : Int) := by omega
    have i1 : (i : Int) < (n : Int) := by omega
    have HKC := hI (show ∀ W, Below w1.heap.size w1 W → W.cell? ⟨w.heap.size, 0, none⟩ = some (.string x0) ∧ W.cell? ⟨w.heap.size, 1, none⟩ = some (.int .i64 x1) ∧ W.cell? ⟨w.heap.size, 2, none⟩ = some (.int .i64 x2) ∧ W.cell? ⟨w.heap.size, 3, none⟩ = some (.int .i64 x3) ∧ W.cell? ⟨w.heap.size, 4, none⟩ = some (.int .i64 x4) ∧ W.cell? ⟨w.heap.size, 5, none⟩ = some (.int .i64 x5) ∧ W.cell? ⟨w.heap.size, 6, none⟩ = some (.int .i64 x6) ∧ W.cell? ⟨w.heap.size, 7, none⟩ = some (.int .i64 x7) ∧ W.cell? ⟨w.heap.size, 8, none⟩ = some (.int .i64 x8) ∧ W.cell? ⟨w.heap.size, 9, none⟩ = some (.int .i64 x9) ∧ W.cell? ⟨w.heap.size, 10, none⟩ = some (.int .i64 x10) ∧ W.cell? ⟨b, off + i * 11, none⟩ = some (.string y0) ∧ W.cell? ⟨b, off + i * 11 + 1, none⟩ = some (.int .i64 y1) ∧ W.cell? ⟨b, off + i * 11 + 2, none⟩ = some (.int .i64 y2) ∧ W.cell? ⟨b, off + i * 11 + 3, none⟩ = some (.int .i64 y3) ∧ W.cell? ⟨b, off + i * 11 + 4, none⟩ = some (.int .i64 y4) ∧ W.cell? ⟨b, off + i * 11 + 5, none⟩ = some (.int .i64 y5) ∧ W.cell? ⟨b, off + i * 11 + 6, none⟩ = some (.int .i64 y6) ∧ W.cell? ⟨b, off + i * 11 + 7, none⟩ = some (.int .i64 y7) ∧ W.cell? ⟨b, off + i * 11 + 8, none⟩ = some (.int .i64 y8) ∧ W.cell? ⟨b, off + i * 11 + 9, none⟩ = some (.int .i64 y9) ∧ W.cell? ⟨b, off + i * 11 + 10, none⟩ = some (.int .i64 y10) from fun W hW => ⟨(HXC.out W hW).1, (HXC.out W hW).2.1, (HXC.out W hW).2.2.1, (HXC.out W hW).2.2.2.1, (HXC.out W hW).2.2.2.2.1, (HXC.out W hW).2.2.2.2.2.1, (HXC.out W hW).2.2.2.2.2.2.1, (HXC.out W hW).2.2.2.2.2.2.2.1, (HXC.out W hW).2.2.2.2.2.2.2.2.1, (HXC.out W hW).2.2.2.2.2.2.2.2.2.1, (HXC.out W hW).2.2.2.2.2.2.2.2.2.2, HYW.out W hW⟩)
    have HBD := hI (show Below w1.heap.size w1 wr.drew from HBel.out.drew)
    obtain ⟨c0, c1, c2, c3, c4, c5, c6, c7, c8, c9, c10, k0, k1, k2, k3, k4, k5, k6, k7, k8, k9, k10⟩ := HKC.out wr HBel.out
    have hml : m ≤ i + 1 := by split at hpl <;> omega
    obtain ⟨g, hg⟩ : ∃ g, g = (fun y => !slt y.up (⟨x0, x1, x2, x3, x4, x5, x6, x7, x8, x9, x10⟩ : Cd).up) (⟨y0, y1, y2, y3, y4, y5, y6, y7, y8, y9, y10⟩ : Cd) := ⟨_, rfl⟩
    obtain ⟨kq, hk⟩ : ∃ k, k = (fun y => !decide (y.up = (⟨x0, x1, x2, x3, x4, x5, x6, x7, x8, x9, x10⟩ : Cd).up)) (⟨y0, y1, y2, y3, y4, y5, y6, y7, y8, y9, y10⟩ : Cd) := ⟨_, rfl⟩
    have HIn := hI (show P (i + 1) = ((p1 ++ (if !p2 && g then [(⟨x0, x1, x2, x3, x4, x5, x6, x7, x8, x9, x10⟩ : Cd)] else [])) ++ (if kq then [(⟨y0, y1, y2, y3, y4, y5, y6, y7, y8, y9, y10⟩ : Cd)] else []), p2 || g) from by rw [HPn.out, hg, hk]; rfl)
    clear HPn hpl
    skip
    have HLG := hI (show Op.bytesLess y0.toList x0.toList = !g from by rw [hg]; simp [slt])
    clear hg
    have hkd := hI (show kq = !decide (y0 = x0) from hk)
    clear hk
    cases p2 with
    | false =>
     cases g with
     | true =>
      go_wp2_with fail
      have d6 : Op.bytesLess y0.toList x0.toList = false := HLG.out
      go_quiet (fail)
      generalize hq6 : wr.drewN nq = w6
      have B6 := hI (show Below w1.heap.size w1 w6 from hq6 ▸ below_drewN HBel.out _)
      have R6 := hI (show OwnAt 57 11 Cd.vs w1.heap.size _ (p1) w6 from hq6 ▸ OwnAt.below HRow.out (below_drewN (Below.refl _ wr) _))
      clear hq6
      obtain ⟨z06, z16, z26, z36, z46, z56, z66, z76, z86, z96, z106, z116, z126, z136, z146, z156, z166, z176, z186, z196, z206, z216⟩ := HKC.out _ B6.out
      go_wp2_with (at_builtin; (refine wpList_append_own _ rfl (.tmp 26) (.tmp 28) 23 rfl w1.heap.size 57 iz (.agg #[.string ⟨#[]⟩, .int .i64 0, .int .i64 0, .int .i64 0, .int .i64 0, .int .i64 0, .int .i64 0, .int .i64 0, .int .i64 0, .int .i64 0, .int .i64 0]) 11 96 Tryz.underlying23 hiz hz0 hz1 hz2 rfl (by decide) _ (m) _ (by simp [Act.eval]) ((OwnAt.row R6.out HM.out).alloc _) ⟨(w6).heap.size, 0, none⟩ 1 1 [.string x0, .int .i64 x1, .int .i64 x2, .int .i64 x3, .int .i64 x4, .int .i64 x5, .int .i64 x6, .int .i64 x7, .int .i64 x8, .int .i64 x9, .int .i64 x10] (by simp [Act.eval]) rfl (World.news_of_block (heap_alloc_new (w6) _)) (by intro u hu; simp only [List.mem_cons, List.not_mem_nil, or_false] at hu; rcases hu with rfl | rfl | rfl | rfl | rfl | rfl | rfl | rfl | rfl | rfl | rfl <;> rfl) (by unfold maxLen; omega) (by omega) (by have := B6.out.size; simp; omega) ?_); intro v8 w8 h8 g8 _; have R8 := hI (OwnAt.more (x := (⟨x0, x1, x2, x3, x4, x5, x6, x7, x8, x9, x10⟩ : Cd)) HM.out h8); have L8 := hI (show m + 1 = (p1 ++ [(⟨x0, x1, x2, x3, x4, x5, x6, x7, x8, x9, x10⟩ : Cd)]).length from by rw [HM.out]; simp); have B8 := hI (Below.grown (B6.out.alloc B6.out.size _) g8 (by have := B6.out.size; simp; omega) (fun j hj => (World.ownsRow.lt (OwnAt.row R6.out HM.out) j hj).1)); obtain ⟨z08, z18, z28, z38, z48, z58, z68, z78, z88, z98, z108, z118, z128, z138, z148, z158, z168, z178, z188, z198, z208, z218⟩ := HKC.out _ B8.out; clear h8 g8)
      by_cases h0 : y0 = x0
      · have d0 := str_is h0
        obtain rfl : kq = false := by rw [hkd.out, decide_eq_true h0] <;> rfl
        clear h0
        go_quiet (fail)
        generalize hq7 : w8.drewN nq = w7
        have B7 := hI (show Below w1.heap.size w1 w7 from hq7 ▸ below_drewN B8.out _)
        have R7 := hI (show OwnAt 57 11 Cd.vs w1.heap.size _ (p1 ++ [(⟨x0, x1, x2, x3, x4, x5, x6, x7, x8, x9, x10⟩ : Cd)]) w7 from hq7 ▸ OwnAt.below R8.out (below_drewN (Below.refl _ w8) _))
        clear hq7
        obtain ⟨z07, z17, z27, z37, z47, z57, z67, z77, z87, z97, z107, z117, z127, z137, z147, z157, z167, z177, z187, z197, z207, z217⟩ := HKC.out _ B7.out
        go_wp2_with fail
        go_roundw
        case rel => exact ⟨i + 1, _, by omega, by go_num, by rw [HIn.out]; rfl, rfl, by rw [HIn.out]; simpa using R7.out, B7.out⟩
        case measure => simp [intOf]; omega
      · have d0 := str_not h0
        obtain rfl : kq = true := by rw [hkd.out, decide_eq_false h0] <;> rfl
        clear h0
        go_quiet (fail)
        generalize hq7 : w8.drewN nq = w7
        have B7 := hI (show Below w1.heap.size w1 w7 from hq7 ▸ below_drewN B8.out _)
        have R7 := hI (show OwnAt 57 11 Cd.vs w1.heap.size _ (p1 ++ [(⟨x0, x1, x2, x3, x4, x5, x6, x7, x8, x9, x10⟩ : Cd)]) w7 from hq7 ▸ OwnAt.below R8.out (below_drewN (Below.refl _ w8) _))
        clear hq7
        obtain ⟨z07, z17, z27, z37, z47, z57, z67, z77, z87, z97, z107, z117, z127, z137, z147, z157, z167, z177, z187, z197, z207, z217⟩ := HKC.out _ B7.out
        go_wp2_with (at_builtin; (refine wpList_append_own _ rfl (.tmp 38) (.tmp 43) 23 rfl w1.heap.size 57 iz (.agg #[.string ⟨#[]⟩, .int .i64 0, .int .i64 0, .int .i64 0, .int .i64 0, .int .i64 0, .int .i64 0, .int .i64 0, .int .i64 0, .int .i64 0, .int .i64 0]) 11 96 Tryz.underlying23 hiz hz0 hz1 hz2 rfl (by decide) _ (m + 1) _ (by simp [Act.eval]) ((OwnAt.row R7.out L8.out).alloc _) ⟨(w7).heap.size, 0, none⟩ 1 1 [.string y0, .int .i64 y1, .int .i64 y2, .int .i64 y3, .int .i64 y4, .int .i64 y5, .int .i64 y6, .int .i64 y7, .int .i64 y8, .int .i64 y9, .int .i64 y10] (by simp [Act.eval]) rfl (World.news_of_block (heap_alloc_new (w7) _)) (by intro u hu; simp only [List.mem_cons, List.not_mem_nil, or_false] at hu; rcases hu with rfl | rfl | rfl | rfl | rfl | rfl | rfl | rfl | rfl | rfl | rfl <;> rfl) (by unfold maxLen; omega) (by omega) (by have := B7.out.size; simp; omega) ?_); intro v9 w9 h9 g9 _; have R9 := hI (OwnAt.more (x := (⟨y0, y1, y2, y3, y4, y5, y6, y7, y8, y9, y10⟩ : Cd)) L8.out h9); have L9 := hI (show m + 1 + 1 = (p1 ++ [(⟨x0, x1, x2, x3, x4, x5, x6, x7, x8, x9, x10⟩ : Cd)] ++ [(⟨y0, y1, y2, y3, y4, y5, y6, y7, y8, y9, y10⟩ : Cd)]).length from by rw [L8.out]; simp); have B9 := hI (Below.grown (B7.out.alloc B7.out.size _) g9 (by have := B7.out.size; simp; omega) (fun j hj => (World.ownsRow.lt (OwnAt.row R7.out L8.out) j hj).1)); obtain ⟨z09, z19, z29, z39, z49, z59, z69, z79, z89, z99, z109, z119, z129, z139, z149, z159, z169, z179, z189, z199, z209, z219⟩ := HKC.out _ B9.out; clear h9 g9)
        go_roundw
        case rel => exact ⟨i + 1, _, by omega, by go_num, by rw [HIn.out]; rfl, rfl, by rw [HIn.out]; simpa using R9.out, B9.out⟩
        case measure => simp [intOf]; omega
     | false =>
      go_wp2_with fail
      have d6 : Op.bytesLess y0.toList x0.toList = true := HLG.out
      go_quiet (fail)
      generalize hq6 : wr.drewN nq = w6
      have B6 := hI (show Below w1.heap.size w1 w6 from hq6 ▸ below_drewN HBel.out _)
      have R6 := hI (show OwnAt 57 11 Cd.vs w1.heap.size _ (p1) w6 from hq6 ▸ OwnAt.below HRow.out (below_drewN (Below.refl _ wr) _))
      clear hq6
      obtain ⟨z06, z16, z26, z36, z46, z56, z66, z76, z86, z96, z106, z116, z126, z136, z146, z156, z166, z176, z186, z196, z206, z216⟩ := HKC.out _ B6.out
      go_wp2_with fail
      by_cases h0 : y0 = x0
      · have d0 := str_is h0
        obtain rfl : kq = false := by rw [hkd.out, decide_eq_true h0] <;> rfl
        clear h0
        go_quiet (fail)
        generalize hq7 : w6.drewN nq = w7
        have B7 := hI (show Below w1.heap.size w1 w7 from hq7 ▸ below_drewN B6.out _)
        have R7 := hI (show OwnAt 57 11 Cd.vs w1.heap.size _ (p1) w7 from hq7 ▸ OwnAt.below R6.out (below_drewN (Below.refl _ w6) _))
        clear hq7
        obtain ⟨z07, z17, z27, z37, z47, z57, z67, z77, z87, z97, z107, z117, z127, z137, z147, z157, z167, z177, z187, z197, z207, z217⟩ := HKC.out _ B7.out
        go_wp2_with fail
        go_roundw
        case rel => exact ⟨i + 1, _, by omega, by go_num, by rw [HIn.out]; rfl, rfl, by rw [HIn.out]; simpa using R7.out, B7.out⟩
        case measure => simp [intOf]; omega
      · have d0 := str_not h0
        obtain rfl : kq = true := by rw [hkd.out, decide_eq_false h0] <;> rfl
        clear h0
        go_quiet (fail)
        generalize hq7 : w6.drewN nq = w7
        have B7 := hI (show Below w1.heap.size w1 w7 from hq7 ▸ below_drewN B6.out _)
        have R7 := hI (show OwnAt 57 11 Cd.vs w1.heap.size _ (p1) w7 from hq7 ▸ OwnAt.below R6.out (below_drewN (Below.refl _ w6) _))
        clear hq7
        obtain ⟨z07, z17, z27, z37, z47, z57, z67, z77, z87, z97, z107, z117, z127, z137, z147, z157, z167, z177, z187, z197, z207, z217⟩ := HKC.out _ B7.out
        go_wp2_with (at_builtin; (refine wpList_append_own _ rfl (.tmp 38) (.tmp 43) 23 rfl w1.heap.size 57 iz (.agg #[.string ⟨#[]⟩, .int .i64 0, .int .i64 0, .int .i64 0, .int .i64 0, .int .i64 0, .int .i64 0, .int .i64 0, .int .i64 0, .int .i64 0, .int .i64 0]) 11 96 Tryz.underlying23 hiz hz0 hz1 hz2 rfl (by decide) _ (m) _ (by simp [Act.eval]) ((OwnAt.row R7.out HM.out).alloc _) ⟨(w7).heap.size, 0, none⟩ 1 1 [.string y0, .int .i64 y1, .int .i64 y2, .int .i64 y3, .int .i64 y4, .int .i64 y5, .int .i64 y6, .int .i64 y7, .int .i64 y8, .int .i64 y9, .int .i64 y10] (by simp [Act.eval]) rfl (World.news_of_block (heap_alloc_new (w7) _)) (by intro u hu; simp only [List.mem_cons, List.not_mem_nil, or_false] at hu; rcases hu with rfl | rfl | rfl | rfl | rfl | rfl | rfl | rfl | rfl | rfl | rfl <;> rfl) (by unfold maxLen; omega) (by omega) (by have := B7.out.size; simp; omega) ?_); intro v9 w9 h9 g9 _; have R9 := hI (OwnAt.more (x := (⟨y0, y1, y2, y3, y4, y5, y6, y7, y8, y9, y10⟩ : Cd)) HM.out h9); have L9 := hI (show m + 1 = (p1 ++ [(⟨y0, y1, y2, y3, y4, y5, y6, y7, y8, y9, y10⟩ : Cd)]).length from by rw [HM.out]; simp); have B9 := hI (Below.grown (B7.out.alloc B7.out.size _) g9 (by have := B7.out.size; simp; omega) (fun j hj => (World.ownsRow.lt (OwnAt.row R7.out HM.out) j hj).1)); obtain ⟨z09, z19, z29, z39, z49, z59, z69, z79, z89, z99, z109, z119, z129, z139, z149, z159, z169, z179, z189, z199, z209, z219⟩ := HKC.out _ B9.out; clear h9 g9)
        go_roundw
        case rel => exact ⟨i + 1, _, by omega, by go_num, by rw [HIn.out]; rfl, rfl, by rw [HIn.out]; simpa using R9.out, B9.out⟩
        case measure => simp [intOf]; omega
    | true =>
     go_wp2_with fail
     go_quiet (fail)
     generalize hq6 : wr.drewN nq = w6
     have B6 := hI (show Below w1.heap.size w1 w6 from hq6 ▸ below_drewN HBel.out _)
     have R6 := hI (show OwnAt 57 11 Cd.vs w1.heap.size _ (p1) w6 from hq6 ▸ OwnAt.below HRow.out (below_drewN (Below.refl _ wr) _))
     clear hq6
     obtain ⟨z06, z16, z26, z36, z46, z56, z66, z76, z86, z96, z106, z116, z126, z136, z146, z156, z166, z176, z186, z196, z206, z216⟩ := HKC.out _ B6.out
     go_wp2_with fail
     by_cases h0 : y0 = x0
     · have d0 := str_is h0
       obtain rfl : kq = false := by rw [hkd.out, decide_eq_true h0] <;> rfl
       clear h0
       go_quiet (fail)
       generalize hq7 : w6.drewN nq = w7
       have B7 := hI (show Below w1.heap.size w1 w7 from hq7 ▸ below_drewN B6.out _)
       have R7 := hI (show OwnAt 57 11 Cd.vs w1.heap.size _ (p1) w7 from hq7 ▸ OwnAt.below R6.out (below_drewN (Below.refl _ w6) _))
       clear hq7
       obtain ⟨z07, z17, z27, z37, z47, z57, z67, z77, z87, z97, z107, z117, z127, z137, z147, z157, z167, z177, z187, z197, z207, z217⟩ := HKC.out _ B7.out
       go_wp2_with fail
       go_roundw
       case rel => exact ⟨i + 1, _, by omega, by go_num, by rw [HIn.out]; rfl, rfl, by rw [HIn.out]; simpa using R7.out, B7.out⟩
       case measure => simp [intOf]; omega
     · have d0 := str_not h0
       obtain rfl : kq = true := by rw [hkd.out, decide_eq_false h0] <;> rfl
       clear h0
       go_quiet (fail)
       generalize hq7 : w6.drewN nq = w7
       have B7 := hI (show Below w1.heap.size w1 w7 from hq7 ▸ below_drewN B6.out _)
       have R7 := hI (show OwnAt 57 11 Cd.vs w1.heap.size _ (p1) w7 from hq7 ▸ OwnAt.below R6.out (below_drewN (Below.refl _ w6) _))
       clear hq7
       obtain ⟨z07, z17, z27, z37, z47, z57, z67, z77, z87, z97, z107, z117, z127, z137, z147, z157, z167, z177, z187, z197, z207, z217⟩ := HKC.out _ B7.out
       go_wp2_with (at_builtin; (refine wpList_append_own _ rfl (.tmp 38) (.tmp 43) 23 rfl w1.heap.size 57 iz (.agg #[.string ⟨#[]⟩, .int .i64 0, .int .i64 0, .int .i64 0, .int .i64 0, .int .i64 0, .int .i64 0, .int .i64 0, .int .i64 0, .int .i64 0, .int .i64 0]) 11 96 Tryz.underlying23 hiz hz0 hz1 hz2 rfl (by decide) _ (m) _ (by simp [Act.eval]) ((OwnAt.row R7.out HM.out).alloc _) ⟨(w7).heap.size, 0, none⟩ 1 1 [.string y0, .int .i64 y1, .int .i64 y2, .int .i64 y3, .int .i64 y4, .int .i64 y5, .int .i64 y6, .int .i64 y7, .int .i64 y8, .int .i64 y9, .int .i64 y10] (by simp [Act.eval]) rfl (World.news_of_block (heap_alloc_new (w7) _)) (by intro u hu; simp only [List.mem_cons, List.not_mem_nil, or_false] at hu; rcases hu with rfl | rfl | rfl | rfl | rfl | rfl | rfl | rfl | rfl | rfl | rfl <;> rfl) (by unfold maxLen; omega) (by omega) (by have := B7.out.size; simp; omega) ?_); intro v9 w9 h9 g9 _; have R9 := hI (OwnAt.more (x := (⟨y0, y1, y2, y3, y4, y5, y6, y7, y8, y9, y10⟩ : Cd)) HM.out h9); have L9 := hI (show m + 1 = (p1 ++ [(⟨y0, y1, y2, y3, y4, y5, y6, y7, y8, y9, y10⟩ : Cd)]).length from by rw [HM.out]; simp); have B9 := hI (Below.grown (B7.out.alloc B7.out.size _) g9 (by have := B7.out.size; simp; omega) (fun j hj => (World.ownsRow.lt (OwnAt.row R7.out HM.out) j hj).1)); obtain ⟨z09, z19, z29, z39, z49, z59, z69, z79, z89, z99, z109, z119, z129, z139, z149, z159, z169, z179, z189, z199, z209, z219⟩ := HKC.out _ B9.out; clear h9 g9)
       go_roundw
       case rel => exact ⟨i + 1, _, by omega, by go_num, by rw [HIn.out]; rfl, rfl, by rw [HIn.out]; simpa using R9.out, B9.out⟩
       case measure => simp [intOf]; omega
  · obtain rfl : n = i := by omega
    obtain ⟨c0, c1, c2, c3, c4, c5, c6, c7, c8, c9, c10⟩ := HXC.out wr HBel.out
    have hml : m ≤ n + 1 := by split at hpl <;> omega
    clear hpl
    cases p2 with
    | false =>
     go_wp2_with (at_builtin; (refine wpList_append_own _ rfl (.tmp 47) (.tmp 49) 23 rfl w1.heap.size 57 iz (.agg #[.string ⟨#[]⟩, .int .i64 0, .int .i64 0, .int .i64 0, .int .i64 0, .int .i64 0, .int .i64 0, .int .i64 0, .int .i64 0, .int .i64 0, .int .i64 0]) 11 96 Tryz.underlying23 hiz hz0 hz1 hz2 rfl (by decide) _ (m) _ (by simp [Act.eval]) ((OwnAt.row HRow.out HM.out).alloc _) ⟨(wr).heap.size, 0, none⟩ 1 1 [.string x0, .int .i64 x1, .int .i64 x2, .int .i64 x3, .int .i64 x4, .int .i64 x5, .int .i64 x6, .int .i64 x7, .int .i64 x8, .int .i64 x9, .int .i64 x10] (by simp [Act.eval]) rfl (World.news_of_block (heap_alloc_new (wr) _)) (by intro u hu; simp only [List.mem_cons, List.not_mem_nil, or_false] at hu; rcases hu with rfl | rfl | rfl | rfl | rfl | rfl | rfl | rfl | rfl | rfl | rfl <;> rfl) (by unfold maxLen; omega) (by omega) (by have := HBel.out.size; simp; omega) ?_); intro v9 w9 h9 g9 _; have R9 := hI (OwnAt.more (x := (⟨x0, x1, x2, x3, x4, x5, x6, x7, x8, x9, x10⟩ : Cd)) HM.out h9); have L9 := hI (show m + 1 = (p1 ++ [(⟨x0, x1, x2, x3, x4, x5, x6, x7, x8, x9, x10⟩ : Cd)]).length from by rw [HM.out]; simp); have B9 := hI (Below.grown (HBel.out.alloc HBel.out.size _) g9 (by have := HBel.out.size; simp; omega) (fun j hj => (World.ownsRow.lt (OwnAt.row HRow.out HM.out) j hj).1)); clear h9 g9)
     go_ret
     refine ⟨_, rfl, ?_, HB1.out.trans (B9.out.mono HB1.out.size)⟩
     rw [HPE.out, HPi.out, ← hs1]
     simpa using R9.out
    | true =>
     go_wp2_with fail
     go_ret
     refine ⟨_, rfl, ?_, HB1.out.trans (HBel.out.mono HB1.out.size)⟩
     rw [HPE.out, HPi.out, ← hs1]
     simpa using HRow.out
end Go.Proofs.YtngfknplljedeaaGreat
namespace Go.Proofs.YtngfknplljedeaaGreat
open Go.RowKit
section
variable {α : Type}
theorem any_hit (p : α → Bool) (xs : List α) (i : Nat) (x : α) (h : xs[i]? = some x) (hp : p x = true) : xs.any p = true := List.any_eq_true.2 ⟨x, List.mem_of_getElem? h, hp⟩
theorem any_miss (p : α → Bool) (xs : List α) (h : ∀ j y, j < xs.length → xs[j]? = some y → p y = false) : xs.any p = false := List.any_eq_false.2 fun y hy => by
 obtain ⟨j, hj, rfl⟩ := List.getElem_of_mem hy
 rw [h j _ hj (List.getElem?_eq_getElem hj)]
 simp
end
end Go.Proofs.YtngfknplljedeaaGreat
namespace Go.Proofs.YtngfknplljedeaaGreat
open Go.RowKit
set_option maxRecDepth 100000 in
set_option maxHeartbeats 4000000 in
theorem ixtaken_any {B : Nat} (cs : List Value) (ca : CA) (x : Ch) (w : World) (h : CAt B cs ca w) (hB : B ≤ w.heap.size) :
 Calls Tryz.prog 52 #[.agg cs.toArray, .agg x.vs.toArray] w fun e w' => e = .returned (.bool (ca.blocks.any (tkn x))) ∧ Below w.heap.size w w' := by
 obtain ⟨v1, v2, v3, v4, rfl, r1, r2, r3, r4⟩ := h
 obtain ⟨ao, cap, b, off, rfl, hl, hx⟩ := r4.walk
 obtain ⟨n, hn⟩ : ∃ n, n = ca.blocks.length := ⟨_, rfl⟩
 rw [← hn] at hl hx ⊢
 obtain ⟨r, hr⟩ : ∃ r, r = ca.blocks.any (tkn x) := ⟨_, rfl⟩
 rw [← hr]
 have HN := hI (show (∀ (j : Nat) (y : Bk), j < n → ca.blocks[j]? = some y → tkn x y = false) → r = false from fun h => by rw [hr]; exact any_miss _ _ (fun j y hj => h j y (by omega)))
 have HA := hI (show ∀ (i : Nat) y, ca.blocks[i]? = some y → tkn x y = true → r = true from fun i y h1 h2 => by rw [hr]; exact any_hit _ _ i y h1 h2)
 obtain ⟨w1, hw1⟩ : ∃ w1, w1 = (w.alloc (.cells #[v1, v2, v3, .slice ao n cap] 27 (0, 0))).alloc (.cells x.vs.toArray 40 (0, 0)) := ⟨_, rfl⟩
 have hb1 : Below w.heap.size w w1 := by rw [hw1]; exact ((Below.refl _ w).alloc (Nat.le_refl _) _).alloc (by simp) _
 have hs1 : w1.heap.size = w.heap.size + 1 + 1 := by rw [hw1]; simp
 have st1 : St 27 w.heap.size #[v1, v2, v3, .slice ao n cap] w1 := by rw [hw1]; exact (St.new w 27 _).alloc _
 have st2 : St 40 (w.heap.size + 1) x.vs.toArray w1 := by rw [hw1]; exact by rw [show w.heap.size + 1 = (w.alloc (.cells #[v1, v2, v3, .slice ao n cap] 27 (0, 0))).heap.size from by simp]; exact St.new _ _ _
 have HCC := hI (show ∀ W, Below w1.heap.size w1 W → W.cell? ⟨w.heap.size, 3, none⟩ = some (.slice ao n cap) ∧ W.cell? ⟨w.heap.size + 1, 3, none⟩ = some (.string x.up) ∧ W.cell? ⟨w.heap.size + 1, 16, none⟩ = some (.int .i64 x.no) ∧ W.cell? ⟨w.heap.size + 1, 17, none⟩ = some (.int .i64 x.slot) from fun W hW => ⟨(st1.below hW).cell rfl, (st2.below hW).cell rfl, (st2.below hW).cell rfl, (st2.below hW).cell rfl⟩)
 have HW1 := hI hw1
 have HB1 := hI hb1
 have HX := hI (show ∀ i, i < n → ∃ y : Bk, ca.blocks[i]? = some y ∧ ao = some ⟨b, off, none⟩ ∧ ∀ W, Below w1.heap.size w1 W → W.rangeAt b (off + i * 3) y.vs from fun i hi => by
  obtain ⟨y, e1, e2, e3, e4⟩ := hx i hi
  exact ⟨y, e1, e2, fun W hW j u hu => ((hb1.trans (hW.mono hb1.size)).cell (p := ⟨b, off + i * 3 + j, none⟩) (Nat.lt_of_lt_of_le e3 hB)).trans (e4 j u hu)⟩)
 clear hx r1 r2 r3 r4 hn hr hb1 hw1 st1 st2 hB
 show Calls Tryz.prog 52 #[.agg #[v1, v2, v3, .slice ao n cap], .agg x.vs.toArray] w _
 go_enter Tryz.func52, Tryz.ntmps52
 go_wp2
 rw [← HW1.out]
 go_loopw [5] (fun c wr => ∃ i : Nat, i ≤ n ∧ c = .int .i64 i ∧ (∀ (j : Nat) (y : Bk), j < i → ca.blocks[j]? = some y → tkn x y = false) ∧ Below w1.heap.size w1 wr) (fun c _ => n - (intOf c).toNat)
 case atStart => exact ⟨0, Nat.zero_le _, rfl, fun j y h => by omega, Below.refl _ _⟩
 case round =>
  obtain ⟨i, hi, rfl, hm, hbel⟩ := hrel
  have HM := hI hm
  have HBel := hI hbel
  have hsz := hbel.size
  obtain ⟨c0, c1, c2, c3⟩ := HCC.out wr hbel
  have q0 : w.heap.size < wr.heap.size := by omega
  have q1 : w.heap.size + 1 < wr.heap.size := by omega
  clear hm hbel
  by_cases hlt : i < n
  · obtain ⟨y, hyi, rfl, hyc⟩ := HX.out i hlt
    have HS := hI hyi
    have b0 : (0 : Int) ≤ (i : Int) := by omega
    have b1 : (i : Int) < (n : Int) := by omega
    have k0 : wr.cell? ⟨b, off + i * 3, none⟩ = some (.string y.up) := hyc wr HBel.out 0 _ rfl
    have k1 : wr.cell? ⟨b, off + i * 3 + 1, none⟩ = some (.int .i64 y.no) := hyc wr HBel.out 1 _ rfl
    have k2 : wr.cell? ⟨b, off + i * 3 + 2, none⟩ = some (.int .i64 y.slot) := hyc wr HBel.out 2 _ rfl
    clear hyc hyi
    by_cases h2 : y.slot = x.slot
    · have d2 : (y.slot == x.slot) = true := beq_iff_eq.2 h2
      by_cases h0 : y.up = x.up
      · have d0 := str_is h0
        by_cases h1 : y.no = x.no
        · have d1 : (y.no == x.no) = true := beq_iff_eq.2 h1
          have HP := hI (show tkn x y = false from by unfold tkn; rw [decide_eq_true h0, decide_eq_true h1, decide_eq_true h2] <;> rfl)
          clear h0 h1 h2
          go_wp2
          go_roundw
          case rel => exact ⟨i + 1, by omega, by go_num, fnd_step _ _ i y HS.out HP.out HM.out, HBel.out.alloc HBel.out.size _⟩
          case measure => simp [intOf]; omega
        · have d1 : (y.no == x.no) = false := beq_eq_false_iff_ne.2 h1
          have HP := hI (show tkn x y = true from by unfold tkn; rw [decide_eq_true h0, decide_eq_false h1, decide_eq_true h2] <;> rfl)
          clear h0 h1 h2
          go_wp2
          go_returns
          rw [HA.out i y HS.out HP.out]
          exact ⟨rfl, HB1.out.trans ((HBel.out.alloc HBel.out.size _).mono HB1.out.size)⟩
      · have d0 := str_not h0
        have HP := hI (show tkn x y = true from by unfold tkn; rw [decide_eq_false h0, decide_eq_true h2] <;> rfl)
        clear h0 h2
        go_wp2
        go_returns
        rw [HA.out i y HS.out HP.out]
        exact ⟨rfl, HB1.out.trans ((HBel.out.alloc HBel.out.size _).mono HB1.out.size)⟩
    · have d2 : (y.slot == x.slot) = false := beq_eq_false_iff_ne.2 h2
      have HP := hI (show tkn x y = false from by unfold tkn; rw [decide_eq_false h2, Bool.false_and] <;> rfl)
      clear h2
      go_wp2
      go_roundw
      case rel => exact ⟨i + 1, by omega, by go_num, fnd_step _ _ i y HS.out HP.out HM.out, HBel.out.alloc HBel.out.size _⟩
      case measure => simp [intOf]; omega
  · obtain rfl : n = i := by omega
    go_wp2
    go_returns
    rw [HN.out HM.out]
    exact ⟨rfl, HB1.out.trans (HBel.out.mono HB1.out.size)⟩
end Go.Proofs.YtngfknplljedeaaGreat
namespace Go.Proofs.YtngfknplljedeaaGreat
open Go.RowKit
section
variable {α : Type}
def fil (q : α → Bool) (xs : List α) (i : Nat) : List α := (xs.take i).filter q
theorem fil_succ (q : α → Bool) (xs : List α) (i : Nat) (y : α) (h : xs[i]? = some y) : fil q xs (i + 1) = fil q xs i ++ (if q y then [y] else []) := by
 unfold fil
 rw [take_one xs i y h, List.filter_append]
 congr 1
 cases hq : q y <;> simp [List.filter, hq]
theorem fil_le (q : α → Bool) (xs : List α) (i : Nat) : (fil q xs i).length ≤ i := by
 unfold fil
 refine Nat.le_trans (List.length_filter_le _ _) ?_
 simp
 omega
theorem fil_all (q : α → Bool) (xs : List α) : fil q xs xs.length = xs.filter q := by unfold fil; rw [List.take_length]
theorem OwnAt.one {T : TypeId} {k : Nat} {f : α → List Value} {B : Nat} {v : Value} {xs : List α} {w : World} (h : OwnAt T k f B v xs w) : v.oneCell' = true := by
 rcases h.2 with ⟨hv, _⟩ | ⟨g, cap, cur, hv, _⟩ <;> rw [hv] <;> rfl
theorem RowsAt.one {B k : Nat} {f : α → List Value} {v : Value} {xs : List α} {w : World} (h : RowsAt B k f v xs w) : v.oneCell' = true := by
 obtain ⟨ao, cap, b, off, rfl, _⟩ := h
 rfl
end
end Go.Proofs.YtngfknplljedeaaGreat
namespace Go.Proofs.YtngfknplljedeaaGreat
open Go.RowKit
set_option maxRecDepth 100000 in
set_option maxHeartbeats 3000000 in
theorem ixbare_own {B : Nat} (v1 v2 v3 v4 : Value) (ca : CA) (u : ByteArray) (w : World) (h : CAt B [v1, v2, v3, v4] ca w) (hB : B ≤ w.heap.size) (hm3 : ca.names.length ≤ 1073741823) (hm4 : ca.blocks.length ≤ 1073741823) :
 Calls Tryz.prog 111 #[.agg #[v1, v2, v3, v4], .string u] w fun e w' => ∃ vn vb, e = .returned (.agg #[v1, v2, vn, vb]) ∧ OwnAt 61 3 Kn.vs w.heap.size vn (ca.bare u).names w' ∧ OwnAt 66 3 Bk.vs w.heap.size vb (ca.bare u).blocks w' ∧ Below w.heap.size w w' := by
 obtain ⟨iz, hiz, hz0, hz1, hz2⟩ := info_parts Tryz.infoKn
 obtain ⟨jz, hjz, jz0, jz1, jz2⟩ := info_parts Tryz.infoBk
 obtain ⟨_, _, _, _, e, r1, r2, r3, r4⟩ := h
 cases e
 obtain ⟨ao, cap, b, off, rfl, hl, hx⟩ := r3.walk
 obtain ⟨ao4, cap4, b4, off4, rfl, hl4, hx4⟩ := r4.walk
 obtain ⟨n, hn⟩ : ∃ n, n = ca.names.length := ⟨_, rfl⟩
 obtain ⟨n4, hn4⟩ : ∃ n, n = ca.blocks.length := ⟨_, rfl⟩
 rw [← hn] at hl hx hm3 ⊢
 rw [← hn4] at hl4 hx4 hm4 ⊢
 obtain ⟨P, hP⟩ : ∃ P, P = fil (fun y : Kn => !decide (y.dir = u)) ca.names := ⟨_, rfl⟩
 obtain ⟨G, hG⟩ : ∃ G, G = fil (fun y : Bk => !decide (y.up = u)) ca.blocks := ⟨_, rfl⟩
 have HP0 := hI (show P 0 = [] from by rw [hP]; rfl)
 have HG0 := hI (show G 0 = [] from by rw [hG]; rfl)
 have HPS := hI (show ∀ i y, ca.names[i]? = some y → P (i + 1) = P i ++ (if !decide (y.dir = u) then [y] else []) from fun i y h => by rw [hP]; exact fil_succ _ _ i y h)
 have HGS := hI (show ∀ i y, ca.blocks[i]? = some y → G (i + 1) = G i ++ (if !decide (y.up = u) then [y] else []) from fun i y h => by rw [hG]; exact fil_succ _ _ i y h)
 have HPL := hI (show ∀ i, (P i).length ≤ i from fun i => by rw [hP]; exact fil_le _ _ i)
 have HGL := hI (show ∀ i, (G i).length ≤ i from fun i => by rw [hG]; exact fil_le _ _ i)
 have HBa := hI (show ca.bare u = ⟨ca.helds, ca.files, P n, G n4⟩ from by rw [hP, hG, hn, hn4, fil_all, fil_all]; rfl)
 obtain ⟨s3, hs3⟩ : ∃ s, s = Value.slice ao n cap := ⟨_, rfl⟩
 have o1 := r1.one
 have o2 := r2.one
 obtain ⟨w1, hw1⟩ : ∃ w1, w1 = (w.alloc (.cells #[v1, v2, .slice ao n cap, .slice ao4 n4 cap4] 27 (0, 0))).alloc (.cells #[.slice none 0 0, .slice none 0 0, .slice none 0 0, .slice none 0 0] 27 (0, 0)) := ⟨_, rfl⟩
 have hb1 : Below w.heap.size w w1 := by rw [hw1]; exact ((Below.refl _ w).alloc (Nat.le_refl _) _).alloc (by simp) _
 have hs1 : w1.heap.size = w.heap.size + 1 + 1 := by rw [hw1]; simp
 have st1 : St 27 w.heap.size #[v1, v2, .slice ao n cap, .slice ao4 n4 cap4] w1 := by rw [hw1]; exact (St.new w 27 _).alloc _
 have st2 : St 27 (w.heap.size + 1) #[.slice none 0 0, .slice none 0 0, .slice none 0 0, .slice none 0 0] w1 := by rw [hw1]; rw [show w.heap.size + 1 = (w.alloc (.cells #[v1, v2, .slice ao n cap, .slice ao4 n4 cap4] 27 (0, 0))).heap.size from by simp]; exact St.new _ _ _
 have ST1 := hI (show ∀ W, Below w1.heap.size w1 W → St 27 w.heap.size #[v1, v2, .slice ao n cap, .slice ao4 n4 cap4] W from fun W hW => st1.below hW)
 have ST2 := hI (show ∀ W, Below w1.heap.size w1 W → St 27 (w.heap.size + 1) #[.slice none 0 0, .slice none 0 0, .slice none 0 0, .slice none 0 0] W from fun W hW => st2.below hW)
 have HW1 := hI hw1
 have HB1 := hI hb1
 have HX := hI (show ∀ i, i < n → ∃ y : Kn, ca.names[i]? = some y ∧ ao = some ⟨b, off, none⟩ ∧ ∀ W, Below w1.heap.size w1 W → W.rangeAt b (off + i * 3) y.vs from fun i hi => by
  obtain ⟨y, e1, e2, e3, e4⟩ := hx i hi
  exact ⟨y, e1, e2, fun W hW j u hu => ((hb1.trans (hW.mono hb1.size)).cell (p := ⟨b, off + i * 3 + j, none⟩) (Nat.lt_of_lt_of_le e3 hB)).trans (e4 j u hu)⟩)
 have HX4 := hI (show ∀ i, i < n4 → ∃ y : Bk, ca.blocks[i]? = some y ∧ ao4 = some ⟨b4, off4, none⟩ ∧ ∀ W, Below w1.heap.size w1 W → W.rangeAt b4 (off4 + i * 3) y.vs from fun i hi => by
  obtain ⟨y, e1, e2, e3, e4⟩ := hx4 i hi
  exact ⟨y, e1, e2, fun W hW j u hu => ((hb1.trans (hW.mono hb1.size)).cell (p := ⟨b4, off4 + i * 3 + j, none⟩) (Nat.lt_of_lt_of_le e3 hB)).trans (e4 j u hu)⟩)
 clear hx hx4 r1 r2 r3 r4 hn hn4 hb1 hw1 st1 st2 hB hP hG hs3 s3
 show Calls Tryz.prog 111 #[.agg #[v1, v2, .slice ao n cap, .slice ao4 n4 cap4], .string u] w _
 go_enter Tryz.func111, Tryz.ntmps111
 go_wp2
 rw [← HW1.out]
 go_loopw [5, 6] (fun o c wr => ∃ (i : Nat) (vv : Value), i ≤ n ∧ c = .int .i64 i ∧ vv = o ∧ OwnAt 61 3 Kn.vs w1.heap.size vv (P i) wr ∧ Below w1.heap.size w1 wr) (fun _ c _ => n - (intOf c).toNat)
 case atStart => exact ⟨0, .slice none 0 0, Nat.zero_le _, rfl, rfl, by rw [HP0.out]; exact World.ownsRow_nil _ _ _ _, Below.refl _ _⟩
 case round =>
  obtain ⟨i, vv, hi, rfl, rfl, hrow, hbel⟩ := hrel
  have HRow := hI hrow
  have HBel := hI hbel
  have hsz := hbel.size
  have hpl := HPL.out i
  obtain ⟨p1, hp⟩ : ∃ p1, P i = p1 := ⟨_, rfl⟩
  rw [hp] at HRow hpl
  have HPi := hI hp
  obtain ⟨m, hm⟩ : ∃ m, m = p1.length := ⟨_, rfl⟩
  have HM := hI hm
  rw [← hm] at hpl
  have c0 : wr.cell? ⟨w.heap.size, 2, none⟩ = some (.slice ao n cap) := (ST1.out wr hbel).cell rfl
  clear hp hrow hbel hm
  by_cases hlt : i < n
  · obtain ⟨y, hyi, rfl, hyc⟩ := HX.out i hlt
    have HPn := hI (HPS.out i y hyi)
    rw [HPi.out] at HPn
    obtain ⟨y0, y1, y2⟩ := y
    have i0 : (0 : Int) ≤ (i : Int) := by omega
    have i1 : (i : Int) < (n : Int) := by omega
    have k0 : wr.cell? ⟨b, off + i * 3, none⟩ = some (.string y0) := hyc wr HBel.out 0 _ rfl
    have k1 : wr.cell? ⟨b, off + i * 3 + 1, none⟩ = some (.string y1) := hyc wr HBel.out 1 _ rfl
    have k2 : wr.cell? ⟨b, off + i * 3 + 2, none⟩ = some (.string y2) := hyc wr HBel.out 2 _ rfl
    clear hyc hyi
    dsimp only at HPn
    by_cases h0 : y0 = u
    · have d0 := str_is h0
      have HIn := hI (show P (i + 1) = p1 from by rw [HPn.out, decide_eq_true h0]; simp)
      clear h0 HPn
      go_wp2
      go_roundw
      case rel => exact ⟨i + 1, _, by omega, by go_num, rfl, by rw [HIn.out]; exact HRow.out, HBel.out⟩
      case measure => simp [intOf]; omega
    · have d0 := str_not h0
      have HIn := hI (show P (i + 1) = p1 ++ [⟨y0, y1, y2⟩] from by rw [HPn.out, decide_eq_false h0]; simp)
      clear h0 HPn
      go_wp2_with (at_builtin; (refine wpList_append_own _ rfl (.tmp 24) (.tmp 30) 24 rfl w1.heap.size 61 iz (.agg #[.string ⟨#[]⟩, .string ⟨#[]⟩, .string ⟨#[]⟩]) 3 48 Tryz.underlying24 hiz hz0 hz1 hz2 rfl (by decide) _ m _ (by simp [Act.eval]) ((OwnAt.row HRow.out HM.out).alloc _) ⟨(wr).heap.size, 0, none⟩ 1 1 [.string y0, .string y1, .string y2] (by simp [Act.eval]) rfl (World.news_of_block (heap_alloc_new (wr) _)) (by intro u hu; simp only [List.mem_cons, List.not_mem_nil, or_false] at hu; rcases hu with rfl | rfl | rfl <;> rfl) (by unfold maxLen; omega) (by omega) (by have := HBel.out.size; simp; omega) ?_); intro v9 w9 h9 g9 _; have R9 := hI (OwnAt.more (x := (⟨y0, y1, y2⟩ : Kn)) HM.out h9); have B9 := hI (Below.grown (HBel.out.alloc HBel.out.size _) g9 (by have := HBel.out.size; simp; omega) (fun j hj => (World.ownsRow.lt (OwnAt.row HRow.out HM.out) j hj).1)); clear h9 g9)
      go_roundw
      case rel => exact ⟨i + 1, _, by omega, by go_num, rfl, by rw [HIn.out]; exact R9.out, B9.out⟩
      case measure => simp [intOf]; omega
  · obtain rfl : n = i := by omega
    obtain ⟨w2, hw2⟩ : ∃ w2, w2 = wr := ⟨_, rfl⟩
    subst hw2
    go_wp2_with fail
    go_loopw [7, 8] (fun o c wr => ∃ (i : Nat) (v7 : Value), i ≤ n4 ∧ c = .int .i64 i ∧ v7 = o ∧ OwnAt 66 3 Bk.vs w2.heap.size v7 (G i) wr ∧ Below w2.heap.size w2 wr) (fun _ c _ => n4 - (intOf c).toNat)
    case atStart => exact ⟨0, .slice none 0 0, Nat.zero_le _, rfl, rfl, by rw [HG0.out]; exact World.ownsRow_nil _ _ _ _, Below.refl _ _⟩
    case round =>
     obtain ⟨i, v7, hi, rfl, rfl, hrow, hbel⟩ := hrel
     have HRow4 := hI hrow
     have HBel4 := hI (HBel.out.trans (hbel.mono HBel.out.size))
     have HB24 := hI hbel
     have hsz4 := HBel4.out.size
     have hsz24 := hbel.size
     have hpl4 := HGL.out i
     obtain ⟨p4, hp⟩ : ∃ p1, G i = p1 := ⟨_, rfl⟩
     rw [hp] at HRow4 hpl4
     have HGi := hI hp
     obtain ⟨m4, hm⟩ : ∃ m, m = p4.length := ⟨_, rfl⟩
     have HM4 := hI hm
     rw [← hm] at hpl4
     have c4 : wr.cell? ⟨w.heap.size, 3, none⟩ = some (.slice ao4 n4 cap4) := (ST1.out wr HBel4.out).cell rfl
     clear hp hrow hbel hm
     by_cases hlt4 : i < n4
     · obtain ⟨y, hyi, rfl, hyc⟩ := HX4.out i hlt4
       have HGn := hI (HGS.out i y hyi)
       rw [HGi.out] at HGn
       obtain ⟨y0, y1, y2⟩ := y
       have i0 : (0 : Int) ≤ (i : Int) := by omega
       have i1 : (i : Int) < (n4 : Int) := by omega
       have k0 : wr.cell? ⟨b4, off4 + i * 3, none⟩ = some (.string y0) := hyc wr HBel4.out 0 _ rfl
       have k1 : wr.cell? ⟨b4, off4 + i * 3 + 1, none⟩ = some (.int .i64 y1) := hyc wr HBel4.out 1 _ rfl
       have k2 : wr.cell? ⟨b4, off4 + i * 3 + 2, none⟩ = some (.int .i64 y2) := hyc wr HBel4.out 2 _ rfl
       clear hyc hyi
       dsimp only at HGn
       by_cases h0 : y0 = u
       · have d0 := str_is h0
         have HIn := hI (show G (i + 1) = p4 from by rw [HGn.out, decide_eq_true h0]; simp)
         clear h0 HGn
         go_wp2
         go_roundw
         case rel => exact ⟨i + 1, _, by omega, by go_num, rfl, by rw [HIn.out]; exact HRow4.out, HB24.out⟩
         case measure => simp [intOf]; omega
       · have d0 := str_not h0
         have HIn := hI (show G (i + 1) = p4 ++ [⟨y0, y1, y2⟩] from by rw [HGn.out, decide_eq_false h0]; simp)
         clear h0 HGn
         go_wp2_with (at_builtin; (refine wpList_append_own _ rfl (.tmp 47) (.tmp 53) 25 rfl w2.heap.size 66 jz (.agg #[.string ⟨#[]⟩, .int .i64 0, .int .i64 0]) 3 32 Tryz.underlying25 hjz jz0 jz1 jz2 rfl (by decide) _ m4 _ (by simp [Act.eval]) ((OwnAt.row HRow4.out HM4.out).alloc _) ⟨(wr).heap.size, 0, none⟩ 1 1 [.string y0, .int .i64 y1, .int .i64 y2] (by simp [Act.eval]) rfl (World.news_of_block (heap_alloc_new (wr) _)) (by intro u hu; simp only [List.mem_cons, List.not_mem_nil, or_false] at hu; rcases hu with rfl | rfl | rfl <;> rfl) (by unfold maxLen; omega) (by omega) (by have := HB24.out.size; simp; omega) ?_); intro v9 w9 h9 g9 _; have R9 := hI (OwnAt.more (x := (⟨y0, y1, y2⟩ : Bk)) HM4.out h9); have B9 := hI (Below.grown (HB24.out.alloc HB24.out.size _) g9 (by have := HB24.out.size; simp; omega) (fun j hj => (World.ownsRow.lt (OwnAt.row HRow4.out HM4.out) j hj).1)); clear h9 g9)
         go_roundw
         case rel => exact ⟨i + 1, _, by omega, by go_num, rfl, by rw [HIn.out]; exact R9.out, B9.out⟩
         case measure => simp [intOf]; omega
     · obtain rfl : n4 = i := by omega
       have RN := hI (OwnAt.below HRow.out (HB24.out.mono (Nat.le_refl _)))
       have ST := hI (ST1.out wr HBel4.out)
       have ST0 := hI (ST2.out wr HBel4.out)
       have on := HRow.out.one
       have ob := HRow4.out.one
       obtain ⟨a5, l5, c5, rfl⟩ := HRow.out.slice
       obtain ⟨a7, l7, c7, rfl⟩ := HRow4.out.slice
       have c3 : wr.cell? ⟨w.heap.size, 2, none⟩ = some (.slice ao n cap) := ST.out.cell rfl
       have f3 := ST.out.free 2
       have f4 := ST.out.free 3
       have q0 : w.heap.size < wr.heap.size := by omega
       have SL := hI (show St 27 w.heap.size #[v1, v2, .slice a5 l5 c5, .slice a7 l7 c7] ((wr.setCell ⟨w.heap.size, 2, none⟩ (.slice a5 l5 c5)).setCell ⟨w.heap.size, 3, none⟩ (.slice a7 l7 c7)) from (ST.out.set 2 _).set 3 _)
       have SD := hI (show St 27 (w.heap.size + 1) #[.slice none 0 0, .slice none 0 0, .slice none 0 0, .slice none 0 0] ((wr.setCell ⟨w.heap.size, 2, none⟩ (.slice a5 l5 c5)).setCell ⟨w.heap.size, 3, none⟩ (.slice a7 l7 c7)) from (ST0.out.other _ _ _ (by omega)).other _ _ _ (by omega))
       go_wp2_with (first
        | ((with_reducible show wpList _ _ _ ({ dst := _, op := .load 27 _, type := _, pos := _, after := _, guard := _ } :: _) _ _); refine wpList_load_st rfl 27 _ rfl w.heap.size (by simp [Act.eval]) 27 #[v1, v2, .slice a5 l5 c5, .slice a7 l7 c7] SL.out _ Tryz.underlying27 rfl (by kernel_rfl) ?_)
        | ((with_reducible show wpList _ _ _ ({ dst := _, op := .store 27 _ _, type := _, pos := _, after := _, guard := _ } :: _) _ _); refine wpList_store_st rfl 27 _ _ rfl (w.heap.size + 1) #[v1, v2, .slice a5 l5 c5, .slice a7 l7 c7] (by simp [Act.eval, Act.put]) (by simp [Act.eval, Act.put]) _ SD.out (by kernel_rfl) rfl (by simp [o1, o2, on, ob]) ?_; rintro w9 hw9 s9; have S9 := hI s9; have HW9 := hI hw9; clear hw9 s9))
       have FR : Frm (fun j => j = w.heap.size ∨ j = w.heap.size + 1) wr w9 := by
        rw [HW9.out]
        exact (((Frm.refl _ wr).setCell (.inl (.inl rfl)) _).setCell (.inl (.inl rfl)) _).next ⟨rfl, rfl, rfl, by simp, fun j hj hn => Go.setRow_other _ _ j _ (fun e => hn (.inr e))⟩
       have RK := FR.own RN.out fun k hk e => by
        have := (World.ownsRow.lt RN.out k hk).1
        rcases e with e | e <;> omega
       have RB := FR.own HRow4.out fun k hk e => by
        have := (World.ownsRow.lt HRow4.out k hk).1
        rcases e with e | e <;> omega
       have BW : Below w.heap.size w w9 := (HB1.out.trans (HBel4.out.mono HB1.out.size)).trans (FR.below (by omega) (fun j e => by rcases e with e | e <;> omega))
       refine ret_cell (r := 4) rfl (by simp [Act.put]) S9.out Tryz.underlying27 rfl (by kernel_rfl) rfl ?_
       rw [HBa.out, HPi.out, HGi.out]
       exact ⟨_, _, rfl, OwnAt.low RK HB1.out.size, OwnAt.low RB (by omega), BW⟩
end Go.Proofs.YtngfknplljedeaaGreat
namespace Go.Proofs.YtngfknplljedeaaGreat
open Go.RowKit
section
variable {α : Type}
theorem flat_take (f : α → List Value) (xs : List α) (i : Nat) : (xs.take i).flatMap f ++ (xs.drop (i + 1)).flatMap f = (xs.eraseIdx i).flatMap f := by rw [← List.flatMap_append, List.eraseIdx_eq_take_drop_succ]
theorem fnd_nat (p : α → Bool) (xs : List α) : fnd p xs < 0 ∨ ∃ i : Nat, fnd p xs = i ∧ i < xs.length := by
 rcases fnd_cases p xs with ⟨h, _⟩ | ⟨i, x, h, hx, _⟩
 · left; rw [h]; decide
 · exact .inr ⟨i, h, (List.getElem?_eq_some_iff.1 hx).1⟩
end
end Go.Proofs.YtngfknplljedeaaGreat
namespace Go.Proofs.YtngfknplljedeaaGreat
open Go.RowKit
def CKeep (B n : Nat) (cs : List Value) (c : CA) (w : World) : Prop := ∀ wy, Frm (fun j => B ≤ j ∧ j < n) w wy → CAt wy.heap.size cs c wy
end Go.Proofs.YtngfknplljedeaaGreat
