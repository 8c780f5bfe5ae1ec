/- Lemmas for the laws of index. -/
import Derived.Sort.OwnSortedInts
import Derived.Test.YtngfknplljedeaaGreatZr25
import Derived.Test.YtngfknplljedeaaGreatZr28
import Derived.Test.YtngfknplljedeaaGreatZr32
import Derived.Test.YtngfknplljedeaaGreatZrHi
namespace Go.Proofs.YtngfknplljedeaaGreat
open Go.RowKit Go.Sort Go.Shelf
theorem ownsRow_cut {w : World} {B : Nat} {e : TypeId} {g n m cap : Nat} {xs : List Value} (h : w.ownsRow B e 1 (.slice (some ⟨g, 0, none⟩) n cap) n xs) (hm : m ≤ n) : w.ownsRow B e 1 (.slice (some ⟨g, 0, none⟩) m cap) m (xs.take m) := by
 have hl := h.1
 rcases h.2 with ⟨e, _⟩ | ⟨g', cap', cur, e, hB, hg, h1, h2, h3, h4⟩
 · cases e
 · cases e
   refine ⟨by rw [List.length_take]; omega, .inr ⟨_, _, cur, rfl, hB, hg, by omega, h2, h3, ?_⟩⟩
   rw [← h4, List.take_take, Nat.mul_one, Nat.mul_one, Nat.min_eq_left hm]
theorem ownsRow_at {w : World} {B : Nat} {e : TypeId} {g n cap : Nat} {xs : List Value} (h : w.ownsRow B e 1 (.slice (some ⟨g, 0, none⟩) n cap) n xs) : g < w.heap.size ∧ B ≤ g ∧ n ≤ cap ∧ cap ≤ maxLen ∧ ∀ (j : Nat) (u : Value), xs[j]? = some u → w.cell? ⟨g, j, none⟩ = some u := by
 have hl := h.1
 rcases h.2 with ⟨e, _⟩ | ⟨g', cap', cur, e, hB, hg, h1, h2, h3, h4⟩
 · cases e
 · cases e
   refine ⟨(Array.getElem?_eq_some_iff.1 hg).1, hB, h1, h2, fun j u hu => ?_⟩
   have hj := (List.getElem?_eq_some_iff.1 hu).1
   rw [h.cellAt j (by omega)]
   exact hu
theorem wpList_mk0 {P : Program} {ops : Array Oper} {rest : List Oper} {o : Oper} {a : Act} {w : World} {Q : Exit → Act → World → Prop} (hgd : o.guard = none) (t e : TypeId) (x y : Operand) (ho : o.op = .makeSlice t x y) (i : TypeInfo) (z : Value)
 (ht : P.underlying t = some (.slice e)) (hi : P.info? e = some i) (hz : i.zero = some z) (hs : i.size = 1) (hz1 : z.cells = #[z]) (n : Nat) (hx : a.eval x = .int .i64 (0 : Int)) (hy : a.eval y = .int .i64 (n : Int)) (hbytes : (i.bytes : Int) * n ≤ 281474976710656) (h63 : (n : Int) ≤ 9223372036854775807)
 (h : ∀ w', Hid (w'.ownsRow w.heap.size e 1 (.slice (some ⟨w.heap.size, 0, none⟩) 0 n) 0 []) → Below w.heap.size w w' → wpList P ops Q rest (a.put o.dst (.slice (some ⟨w.heap.size, 0, none⟩) 0 n)) w') : wpList P ops Q (o :: rest) a w := by
 refine wpList_plain hgd fun K hK => ?_
 have hrun := run_make (P := P) w t e i z ht hi hz .i64 .i64 0 n (by omega) (by omega) hbytes h63
 simp only [Int.toNat_natCast, Int.toNat_zero] at hrun
 unfold Oper.wp execOp
 simp only [ho, hx, hy, Sem.run_bind, hrun, Result.andThen_ok]
 have e1 : madeCells z.cells (n * i.size) = (List.replicate n z).toArray := by
  rw [hz1, hs, Nat.mul_one]
  apply Array.ext'
  rw [toList_madeCells_one]
 rw [e1]
 refine hK _ _ (h _ ?_ ((Below.refl _ w).alloc (Nat.le_refl _) _))
 exact ⟨rfl, .inr ⟨_, _, _, rfl, Nat.le_refl _, heap_alloc_new w _, Nat.zero_le _, by unfold maxLen; omega, by simp, by simp⟩⟩
theorem sortI_own {B g cap : Nat} {L : List (Int)} {w : World} (h : w.ownsRow B 3 1 (.slice (some ⟨g, 0, none⟩) L.length cap) L.length (L.map (Value.int .i64))) (hm : L.length ≤ 1073741823) :
 Calls Tryz.prog 133 #[.slice (some ⟨g, 0, none⟩) L.length cap] w fun e w' => e = .returned (.tuple #[]) ∧ w'.ownsRow B 3 1 (.slice (some ⟨g, 0, none⟩) L.length cap) L.length ((L.mergeSort fun x y => decide (x ≤ y)).map (Value.int .i64)) ∧ Frm (fun j => j = g) w w' := by
 rcases h.2 with ⟨e, _⟩ | ⟨g', cap', cur, e, hB, hg, h1, h2, h3, h4⟩
 · cases e
 · cases e
   refine (Tryz.slices_Sort_int g 0 cap L w (holds_of_blockI hg (by simpa using h4)) (Array.getElem?_eq_some_iff.1 hg).1 (by omega)).mono ?_
   rintro e w' ⟨rfl, n, os, rfl⟩
   exact ⟨rfl, ownsRow_sortedI (by simp) hB hg h1 h2 h3, (Frm.refl _ w).grown (grownBy_sortedI _) (fun k e => .inl (Option.some.inj e).symm)⟩
theorem laidI {B g cap q : Nat} {L M : List (Int)} {w : World} (z : Int) (h : w.ownsRow B 3 1 (.slice (some ⟨g, 0, none⟩) L.length cap) L.length (L.map (Value.int .i64))) (hM : M.length ≤ L.length) :
 (putRow (Value.int .i64) (Sort.ahead w q) g 0 (M ++ List.replicate (L.length - M.length) z).toArray).ownsRow B 3 1 (.slice (some ⟨g, 0, none⟩) M.length cap) M.length (M.map (Value.int .i64)) ∧ Frm (fun j => j = g) w (putRow (Value.int .i64) (Sort.ahead w q) g 0 (M ++ List.replicate (L.length - M.length) z).toArray) := by
 rcases h.2 with ⟨e, _⟩ | ⟨g', cap', cur, e, hB, hg, h1, h2, h3, h4⟩
 · cases e
 · cases e
   rw [← Go.Sort.grow_empty (putRow (Value.int .i64) (Sort.ahead w q) g 0 _)]
   have r := ownsRow_sortedI (n := q) (os := #[]) (ss := L) (ts := M ++ List.replicate (L.length - M.length) z) (by simp; omega) hB hg h1 h2 h3
   have r2 := ownsRow_cut r hM
   rw [List.map_append, List.take_append_of_le_length (by simp), List.take_of_length_le (by simp)] at r2
   exact ⟨r2, (Frm.refl _ w).grown (grownBy_sortedI _) (fun k e => .inl (Option.some.inj e).symm)⟩
theorem compactI_own {B g cap : Nat} {L : List (Int)} {w : World} (h : w.ownsRow B 3 1 (.slice (some ⟨g, 0, none⟩) L.length cap) L.length (L.map (Value.int .i64))) (hm : L.length ≤ 1073741823) :
 Calls Tryz.prog 134 #[.slice (some ⟨g, 0, none⟩) L.length cap] w fun e w' => e = .returned (.slice (some ⟨g, 0, none⟩) (Lib.compact L).length cap) ∧ w'.ownsRow B 3 1 (.slice (some ⟨g, 0, none⟩) (Lib.compact L).length cap) (Lib.compact L).length ((Lib.compact L).map (Value.int .i64)) ∧ Frm (fun j => j = g) w w' := by
 have h0 := h
 rcases h.2 with ⟨e, _⟩ | ⟨g', cap', cur, e, hB, hg, h1, h2, h3, h4⟩
 · cases e
 · cases e
   refine (Tryz.slices_Compact_int g 0 cap L w (holds_of_blockI hg (by simpa using h4)) (by omega) h1).mono ?_
   rintro e w' ⟨rfl, q, rfl⟩
   exact ⟨rfl, laidI _ h0 (Lib.compact_length_le L)⟩
end Go.Proofs.YtngfknplljedeaaGreat
namespace Go.Proofs.YtngfknplljedeaaGreat
open Go.RowKit Go.Sort
set_option maxRecDepth 100000 in
set_option maxHeartbeats 4000000 in
theorem inValPlacedI_any (v : Value) (xs : List Bk) (of : Bk → Int) (g : Nat) (w : World) (h : RowsAt w.heap.size 3 Bk.vs v xs w) (hm : xs.length ≤ 1073741823) (eg : ∀ args w, (callFunc g args).run Tryz.prog w = .ok (.enter g args) w) (hof : ∀ W x, Calls Tryz.prog g #[.agg (Bk.vs x).toArray] W fun e w' => e = .returned (.int .i64 (of x)) ∧ Below W.heap.size W w') :
 Calls Tryz.prog 76 #[v, .func (.func g) #[] #[]] w fun e w' => ∃ b cap, e = .returned (.slice (some ⟨b, 0, none⟩) (valsI (xs.map (fun x => of x))).length cap) ∧ w'.ownsRow w.heap.size 3 1 (.slice (some ⟨b, 0, none⟩) (valsI (xs.map (fun x => of x))).length cap) (valsI (xs.map (fun x => of x))).length ((valsI (xs.map (fun x => of x))).map (Value.int .i64)) ∧ Below w.heap.size w w' := by
 obtain ⟨iz, hiz, hz0, hz1, hz2⟩ := info_parts Tryz.infoInt
 obtain ⟨ao, cap, b, off, rfl, hl, hx⟩ := h.walk
 obtain ⟨n, hn⟩ : ∃ n, n = xs.length := ⟨_, rfl⟩
 rw [← hn] at hl hx hm ⊢
 obtain ⟨M, hM⟩ : ∃ M : List (Int), M = xs.map (fun x => of x) := ⟨_, rfl⟩
 rw [← hM]
 obtain ⟨VL, hVL⟩ : ∃ VL, VL = valsI M := ⟨_, rfl⟩
 rw [← hVL]
 obtain ⟨q, hq⟩ : ∃ q, q = VL.length := ⟨_, rfl⟩
 rw [← hq]
 have HVL := hI hVL
 have HQ := hI hq
 clear hVL hq
 have HN := hI (show n = M.length from by rw [hn, hM]; simp)
 have HX := hI (show ∀ i, i < n → ∃ x : Bk, xs[i]? = some x ∧ M.take (i + 1) = M.take i ++ [(fun x => of x) x] ∧ ao = some ⟨b, off, none⟩ ∧ ∀ W, Below w.heap.size w W → W.rangeAt b (off + i * 3) x.vs from fun i hi => by
  obtain ⟨x, e1, e2, e3, e4⟩ := hx i hi
  refine ⟨x, e1, ?_, e2, fun W hW j u hu => (hW.cell (p := ⟨b, off + i * 3 + j, none⟩) e3).trans (e4 j u hu)⟩
  exact take_one M i _ (by rw [hM]; simp [e1]))
 have HF := hI hof
 have hb8 : (iz.bytes : Int) * (n : Int) ≤ 281474976710656 := by rw [hz2]; omega
 clear hx h hn hM hof
 go_enter Tryz.func76, Tryz.ntmps76
 go_wp2_with ((with_reducible show wpList _ _ _ ({ dst := _, op := .makeSlice _ _ _, type := _, pos := _, after := _, guard := _ } :: _) _ _); refine wpList_mk0 rfl 71 3 _ _ rfl iz (.int .i64 0) Tryz.underlying71 hiz hz0 hz1 rfl n (by simp [Act.eval]) (by simp [Act.eval]) hb8 (by omega) ?_; intro w3 h3 b3; have H3 := hI h3.out; have B3 := hI b3; clear h3 b3)
 go_loopw [5, 13] (fun o c wr => ∃ (i g0 cap0 : Nat), i ≤ n ∧ c = .int .i64 i ∧ o = .slice (some ⟨g0, 0, none⟩) i cap0 ∧ wr.ownsRow w.heap.size 3 1 (.slice (some ⟨g0, 0, none⟩) i cap0) i ((M.take i).map (Value.int .i64)) ∧ Below w.heap.size w wr) (fun _ c _ => n - (intOf c).toNat)
 case atStart => exact ⟨0, _, _, Nat.zero_le _, rfl, rfl, H3.out, B3.out⟩
 case round =>
  obtain ⟨i, g0, cap0, hi, rfl, rfl, hrow, hbel⟩ := hrel
  have HO := hI hrow
  have HB := hI hbel
  clear hrow hbel
  by_cases hlt : i < n
  · obtain ⟨x, hxi, hT, rfl, hr⟩ := HX.out i hlt
    have HT := hI hT
    obtain ⟨xv, hxv⟩ : ∃ xv, xv = x.vs := ⟨_, rfl⟩
    obtain ⟨s, hs⟩ : ∃ s, s = of x := ⟨_, rfl⟩
    have HR := hI (show wr.rangeAt b (off + i * 3) xv from by rw [hxv]; exact hr wr HB.out)
    have HV := hI (show xv.length = 3 from by rw [hxv]; rfl)
    have HV1 := hI (show xv.toArray.all (·.oneCell') = true from by rw [hxv]; exact all_oneCell_toArray (Bk.one x))
    have HG := hI (show ∀ W, Calls Tryz.prog g #[.agg xv.toArray] W fun e w' => e = .returned (.int .i64 s) ∧ Below W.heap.size W w' from fun W => by rw [hxv, hs]; exact HF.out W x)
    have HS := hI hs
    have i0 : (0 : Int) ≤ (i : Int) := by omega
    have i1 : (i : Int) < (n : Int) := by omega
    obtain ⟨w7, hw7⟩ : ∃ W, W = wr.alloc (.cells xv.toArray 66 (0, 0)) := ⟨_, rfl⟩
    have b7 : Below wr.heap.size wr w7 := by rw [hw7]; exact (Below.refl _ _).alloc (Nat.le_refl _) _
    have S7 := hI (show St 66 wr.heap.size xv.toArray w7 from by rw [hw7]; exact St.new _ _ _)
    have B7 := hI (show Below w.heap.size w w7 from HB.out.trans (b7.mono HB.out.size))
    have b7' := hI b7
    have HW7 := hI hw7
    clear hr hxi hxv hw7 hT hs b7
    go_wp2_with (first
     | ((with_reducible show wpList _ _ _ ({ dst := some 16, op := .load 66 _, type := _, pos := _, after := _, guard := _ } :: _) _ _); refine wpList_load_mid rfl 66 _ rfl b (off + i * 3) (by first | rfl | simp [Act.eval, Act.put]) xv _ HR.out Tryz.underlying66 rfl (by rw [HV.out]; kernel_rfl) ?_)
     | ((with_reducible show wpList _ _ _ ({ dst := _, op := .store 66 (.tmp 7) _, type := _, pos := _, after := _, guard := _ } :: _) _ _); refine wpList_store_st rfl 66 _ _ rfl wr.heap.size xv.toArray (by first | rfl | simp [Act.eval, Act.put]) (by first | rfl | simp [Act.eval, Act.put]) _ (St.new wr _ _) (by simp only [List.size_toArray, HV.out]; kernel_rfl) (by simp only [List.size_toArray, HV.out]; rfl) HV1.out ?_; rintro wq rfl -; rw [alloc_row, ← HW7.out])
     | ((with_reducible show wpList _ _ _ ({ dst := some 19, op := .load 66 _, type := _, pos := _, after := _, guard := _ } :: _) _ _); refine wpList_load_st rfl 66 _ rfl wr.heap.size (by first | rfl | simp [Act.eval, Act.put]) 66 xv.toArray S7.out _ Tryz.underlying66 rfl (by simp only [List.size_toArray, HV.out]; kernel_rfl) ?_)
     | ((with_reducible refine (HG.out _).mono ?_); rintro e w8 ⟨rfl, b8⟩; have O8 := hI ((Frm.of_below (F := fun _ => False) (b7'.out.trans (b8.mono b7'.out.size))).own HO.out (fun _ _ e => e)); have B8 := hI (B7.out.trans (b8.mono B7.out.size)); have z8 := B8.out.size; clear b8)
     | (at_builtin; go_must (refine wpList_append_lies _ rfl (.tmp 17) (.tmp 21) 71 rfl w.heap.size 3 iz (.int .i64 0) 1 8 Tryz.underlying71 hiz hz0 hz1 hz2 rfl (by decide) (.slice (some ⟨g0, 0, none⟩) i cap0) i _ (by simp [Act.eval]) (O8.out.alloc _) ⟨w8.heap.size, 0, none⟩ 1 1 [.int .i64 s] (by simp [Act.eval]) rfl (World.news_of_block (heap_alloc_new w8 _)) (by intro u hu; simp at hu; subst hu; rfl) (by decide) (by unfold maxLen; omega) (by omega) (by simp; omega) (w8.heap.size + 1) (by simp) ?_); intro g1 cap6 w6 h1 hg _ _; have H6 := hI h1; have B6 := hI (Below.grown (B8.out.alloc B8.out.size _) hg (by simp; exact Nat.le_trans B8.out.size (Nat.le_succ _)) (fun k hk => (World.ownsRow.lt O8.out k hk).1)); clear h1 hg))
    go_roundw
    case rel =>
     refine ⟨i + 1, _, _, hlt, by go_num, rfl, ?_, B6.out⟩
     rw [HT.out, List.map_append, List.map_singleton, ← HS.out]
     exact H6.out
    case measure => simp [intOf]; omega
  · obtain rfl : i = n := by omega
    have hrow := HO.out
    rw [HN.out, List.take_length, ← HN.out] at hrow
    have hM : M.length ≤ 1073741823 := by rw [← HN.out]; exact hm
    have HSo := hI (show Calls Tryz.prog 133 #[.slice (some ⟨g0, 0, none⟩) i cap0] wr fun e w' => e = .returned (.tuple #[]) ∧ w'.ownsRow w.heap.size 3 1 (.slice (some ⟨g0, 0, none⟩) i cap0) i ((M.mergeSort fun x y => decide (x ≤ y)).map (Value.int .i64)) ∧ Frm (fun j => j = g0) wr w' from by
     have := sortI_own (w := wr) (L := M) (g := g0) (cap := cap0) (B := w.heap.size) (by rw [← HN.out]; exact hrow) hM
     rw [← HN.out] at this
     exact this)
    have HCp := hI (show ∀ W, W.ownsRow w.heap.size 3 1 (.slice (some ⟨g0, 0, none⟩) i cap0) i ((M.mergeSort fun x y => decide (x ≤ y)).map (Value.int .i64)) → Calls Tryz.prog 134 #[.slice (some ⟨g0, 0, none⟩) i cap0] W fun e w' => e = .returned (.slice (some ⟨g0, 0, none⟩) q cap0) ∧ w'.ownsRow w.heap.size 3 1 (.slice (some ⟨g0, 0, none⟩) q cap0) q (VL.map (Value.int .i64)) ∧ Frm (fun j => j = g0) W w' from fun W hW => by
     have he : i = (M.mergeSort fun x y => decide (x ≤ y)).length := by rw [List.length_mergeSort]; exact HN.out
     have := compactI_own (w := W) (L := M.mergeSort fun x y => decide (x ≤ y)) (g := g0) (cap := cap0) (B := w.heap.size) (by rw [← he]; exact hW) (by rw [← he]; exact hm)
     rw [← he] at this
     rw [HQ.out, HVL.out]
     exact this)
    have hg0 := (World.ownsRow.lt HO.out g0 rfl).1
    clear hrow hM
    go_wp2_with (first
     | (go_at_call 133; go_must (with_reducible refine HSo.out.mono ?_); rintro e w4 ⟨rfl, h4, f4⟩; have H4 := hI h4; have F4 := hI f4; clear h4 f4)
     | (go_at_call 134; go_must (with_reducible refine (HCp.out _ H4.out).mono ?_); rintro e w5 ⟨rfl, h5, f5⟩; have H5 := hI h5; have F5 := hI f5; clear h5 f5))
    go_ret
    refine ⟨_, _, rfl, H5.out, HB.out.trans (((F4.out.next F5.out).below (B := w.heap.size) HB.out.size fun j e => ?_))⟩
    have : j = g0 := e
    omega
end Go.Proofs.YtngfknplljedeaaGreat
