/- Lemmas for the laws of index. -/
import Derived.Test.YtngfknplljedeaaGreatZr26
import Derived.Test.YtngfknplljedeaaGreatZr29
import Derived.Test.YtngfknplljedeaaGreatZr33
import Derived.Test.YtngfknplljedeaaGreatZrHi
namespace Go.Proofs.YtngfknplljedeaaGreat
open Go.RowKit Go.Sort Go.Shelf
theorem sortS_own {B g cap : Nat} {L : List (List UInt8)} {w : World} (h : w.ownsRow B 9 1 (.slice (some ⟨g, 0, none⟩) L.length cap) L.length (L.map encStr)) (hm : L.length ≤ 1073741823) :
 Calls Tryz.prog 140 #[.slice (some ⟨g, 0, none⟩) L.length cap] w fun e w' => e = .returned (.tuple #[]) ∧ w'.ownsRow B 9 1 (.slice (some ⟨g, 0, none⟩) L.length cap) L.length ((L.mergeSort fun x y => decide (x ≤ y)).map encStr) ∧ Frm (fun j => j = g) w w' := by
 rcases h.2 with ⟨e, _⟩ | ⟨g', cap', cur, e, hB, hg, h1, h2, h3, h4⟩
 · cases e
 · cases e
   refine (Tryz.slices_Sort_string g 0 cap L w (holds_of_block hg (by simpa using h4)) (Array.getElem?_eq_some_iff.1 hg).1 (by omega)).mono ?_
   rintro e w' ⟨rfl, n, os, rfl⟩
   exact ⟨rfl, ownsRow_sorted (by simp) hB hg h1 h2 h3, (Frm.refl _ w).grown (grownBy_sorted _) (fun k e => .inl (Option.some.inj e).symm)⟩
theorem laidS {B g cap q : Nat} {L M : List (List UInt8)} {w : World} (z : List UInt8) (h : w.ownsRow B 9 1 (.slice (some ⟨g, 0, none⟩) L.length cap) L.length (L.map encStr)) (hM : M.length ≤ L.length) :
 (putRow encStr (Sort.ahead w q) g 0 (M ++ List.replicate (L.length - M.length) z).toArray).ownsRow B 9 1 (.slice (some ⟨g, 0, none⟩) M.length cap) M.length (M.map encStr) ∧ Frm (fun j => j = g) w (putRow encStr (Sort.ahead w q) g 0 (M ++ List.replicate (L.length - M.length) z).toArray) := by
 rcases h.2 with ⟨e, _⟩ | ⟨g', cap', cur, e, hB, hg, h1, h2, h3, h4⟩
 · cases e
 · cases e
   rw [← Go.Sort.grow_empty (putRow encStr (Sort.ahead w q) g 0 _)]
   have r := ownsRow_sorted (n := q) (os := #[]) (ss := L) (ts := M ++ List.replicate (L.length - M.length) z) (by simp; omega) hB hg h1 h2 h3
   have r2 := ownsRow_cut r hM
   rw [List.map_append, List.take_append_of_le_length (by simp), List.take_of_length_le (by simp)] at r2
   exact ⟨r2, (Frm.refl _ w).grown (grownBy_sorted _) (fun k e => .inl (Option.some.inj e).symm)⟩
theorem compactS_own {B g cap : Nat} {L : List (List UInt8)} {w : World} (h : w.ownsRow B 9 1 (.slice (some ⟨g, 0, none⟩) L.length cap) L.length (L.map encStr)) (hm : L.length ≤ 1073741823) :
 Calls Tryz.prog 141 #[.slice (some ⟨g, 0, none⟩) L.length cap] w fun e w' => e = .returned (.slice (some ⟨g, 0, none⟩) (Lib.compact L).length cap) ∧ w'.ownsRow B 9 1 (.slice (some ⟨g, 0, none⟩) (Lib.compact L).length cap) (Lib.compact L).length ((Lib.compact L).map encStr) ∧ Frm (fun j => j = g) w w' := by
 have h0 := h
 rcases h.2 with ⟨e, _⟩ | ⟨g', cap', cur, e, hB, hg, h1, h2, h3, h4⟩
 · cases e
 · cases e
   refine (Tryz.slices_Compact_string g 0 cap L w (holds_of_block hg (by simpa using h4)) (by omega) h1).mono ?_
   rintro e w' ⟨rfl, q, rfl⟩
   exact ⟨rfl, laidS _ h0 (Lib.compact_length_le L)⟩
def Tryz.laysBsS_ren : Go.Shelf.Ren := ⟨fun | 26 => 144 | 33 => 172 | 34 => 173 | 38 => 201 | n => n, fun | 24 => 136 | 3 => 3 | 4 => 4 | 9 => 9 | 40 => 202 | 0 => 0 | n => n, fun | n => n⟩
theorem Tryz.laysBsS : Go.Proofs.Lays2.n26 Tryz.prog Tryz.laysBsS_ren := {
 mixed := by kernel_rfl
 f26 := Tryz.func144.trans (congrArg some (by kernel_rfl))
 f33 := Tryz.func172.trans (congrArg some (by kernel_rfl))
 f34 := Tryz.func173.trans (congrArg some (by kernel_rfl))
 f38 := Tryz.func201.trans (congrArg some (by kernel_rfl))
 t0 := Tryz.underlying0
 a0 := Tryz.isAgg0
 z0 := Tryz.sizeOf0
 v0 := Tryz.zeroValue0
 t3 := Tryz.underlying3
 a3 := Tryz.isAgg3
 z3 := Tryz.sizeOf3
 v3 := Tryz.zeroValue3
 t4 := Tryz.underlying4
 a4 := Tryz.isAgg4
 z4 := Tryz.sizeOf4
 v4 := Tryz.zeroValue4
 t9 := Tryz.underlying9
 a9 := Tryz.isAgg9
 z9 := Tryz.sizeOf9
 v9 := Tryz.zeroValue9
 t24 := Tryz.underlying136
 a24 := Tryz.isAgg136
 z24 := Tryz.sizeOf136
 v24 := Tryz.zeroValue136
 t40 := Tryz.underlying202
 a40 := Tryz.isAgg202
 z40 := Tryz.sizeOf202
 v40 := Tryz.zeroValue202 }
theorem bsS_own {g cap : Nat} {L : List (List UInt8)} {x : List UInt8} {w : World} (hc : ∀ (j : Nat) (u : Value), (L.map encStr)[j]? = some u → w.cell? ⟨g, j, none⟩ = some u) (hm : L.length ≤ 1073741823) (hs : L.Pairwise fun a b => Op.bytesLess a b = true) :
 Calls Tryz.prog 144 #[.slice (some ⟨g, 0, none⟩) L.length cap, encStr x] w fun e w' => ∃ i : Int, e = .returned (.tuple #[.int .i64 i, .bool (decide (x ∈ L))]) ∧ ∃ q, w' = w.drewN q := by
 refine (Any2.slices_BinarySearch_string Tryz.laysBsS g 0 L.length cap (fun t => ⟨(L.getD t []).toArray⟩) ⟨x.toArray⟩ w (by omega) (fun j hj => ?_)).mono ?_
 · rw [Nat.zero_add]
   refine hc j _ ?_
   simp [hj]
 · rintro e w' ⟨rfl, h⟩
   have hS : ∀ t, (⟨(L.getD t []).toArray⟩ : ByteArray).toList = L.getD t [] := fun t => by rw [Lib.toList_data]
   have hx : (⟨x.toArray⟩ : ByteArray).toList = x := by rw [Lib.toList_data]
   have := bs_finds L x (fun t => L.getD t []) (fun j hj => by simp [hj]) hs
   simp only [hS, hx]
   refine ⟨_, congrArg (fun b => Ending.returned (Value.tuple #[.int .i64 ((Lib.bsGo (fun t => Op.bytesLess (L.getD t []) x) L.length 0 L.length : Nat) : Int), .bool b])) ((decide_eq_decide.2 (and_congr_right fun _ => ?_)).trans this), h⟩
   constructor
   · intro e
     have := congrArg ByteArray.toList e
     rw [hx] at this
     exact (hS _).symm.trans this
   · intro e
     rw [e]
set_option maxRecDepth 100000 in
set_option maxHeartbeats 1000000 in
theorem inWithoutcS_any {g cap q : Nat} {M : List (List UInt8)} (x : List UInt8) (w : World) (hq : w.cell? ⟨q, 0, none⟩ = some (.slice (some ⟨g, 0, none⟩) M.length cap)) (hc : ∀ (j : Nat) (u : Value), (M.map encStr)[j]? = some u → w.cell? ⟨g, j, none⟩ = some u) (hm : M.length ≤ 1073741823) (hs : M.Pairwise fun a b => Op.bytesLess a b = true) :
 Calls Tryz.prog 143 #[encStr x, .pointer (some ⟨q, 0, none⟩)] w fun e w' => e = .returned (.bool (decide (x ∈ M))) ∧ ∃ k, w' = w.drewN k := by
 have HC := hI (bsS_own (cap := cap) (x := x) hc hm hs)
 obtain ⟨m, hmm⟩ : ∃ m, m = M.length := ⟨_, rfl⟩
 obtain ⟨f, hf⟩ : ∃ f, f = decide (x ∈ M) := ⟨_, rfl⟩
 rw [← hmm] at hq hm HC
 rw [← hf] at HC ⊢
 clear hc hs hmm hf
 obtain ⟨y, hy⟩ : ∃ y, y = encStr x := ⟨_, rfl⟩
 rw [← hy] at HC ⊢
 clear hy
 go_enter Tryz.func143, Tryz.ntmps143
 go_wp2_with ((with_reducible refine HC.out.mono ?_); rintro e w8 ⟨i, rfl, k, rfl⟩)
 go_ret
 exact ⟨rfl, k, rfl⟩
set_option maxRecDepth 100000 in
set_option maxHeartbeats 1000000 in
theorem inWithoutS_any {B B2 g g2 cap cap2 : Nat} {L M : List (List UInt8)} (w : World) (h : w.ownsRow B 9 1 (.slice (some ⟨g, 0, none⟩) L.length cap) L.length (L.map encStr)) (h2 : w.ownsRow B2 9 1 (.slice (some ⟨g2, 0, none⟩) M.length cap2) M.length (M.map encStr)) (hne : g2 ≠ g) (hl : L.length ≤ 1073741823) (hm : M.length ≤ 1073741823) (hs : M.Pairwise fun a b => Op.bytesLess a b = true) :
 Calls Tryz.prog 102 #[.slice (some ⟨g, 0, none⟩) L.length cap, .slice (some ⟨g2, 0, none⟩) M.length cap2] w fun e w' => e = .returned (.slice (some ⟨g, 0, none⟩) (L.filter fun x => !decide (x ∈ M)).length cap) ∧ w'.ownsRow B 9 1 (.slice (some ⟨g, 0, none⟩) (L.filter fun x => !decide (x ∈ M)).length cap) (L.filter fun x => !decide (x ∈ M)).length ((L.filter fun x => !decide (x ∈ M)).map encStr) ∧ Frm (fun j => j = g) w w' := by
 obtain ⟨w1, hw1⟩ : ∃ w1, w1 = w.alloc (.cells #[.slice (some ⟨g2, 0, none⟩) M.length cap2] 136 (0, 0)) := ⟨_, rfl⟩
 have hb1 : Below w.heap.size w w1 := by rw [hw1]; exact (Below.refl _ w).alloc (Nat.le_refl _) _
 have s1 : St 136 w.heap.size #[.slice (some ⟨g2, 0, none⟩) M.length cap2] w1 := by rw [hw1]; exact St.new _ _ _
 have h' : w1.ownsRow B 9 1 (.slice (some ⟨g, 0, none⟩) L.length cap) L.length (L.map encStr) := (Frm.of_below (F := fun _ => False) hb1).own h (fun _ _ e => e)
 have h2' : w1.ownsRow B2 9 1 (.slice (some ⟨g2, 0, none⟩) M.length cap2) M.length (M.map encStr) := (Frm.of_below (F := fun _ => False) hb1).own h2 (fun _ _ e => e)
 obtain ⟨lg, _, _, _, _⟩ := ownsRow_at h
 obtain ⟨lg2, _, _, _, hc2⟩ := ownsRow_at h2'
 have HP : ∀ W (x : List UInt8), Frm (fun j => j = g) w1 W → Calls Tryz.prog 143 (#[encStr x] ++ #[.pointer (some ⟨w.heap.size, 0, none⟩)]) W fun e w' => e = .returned (.bool (decide (x ∈ M))) ∧ ∃ k, w' = W.drewN k := fun W x hW => inWithoutcS_any x W ((show St 136 w.heap.size #[.slice (some ⟨g2, 0, none⟩) M.length cap2] W from hW.st s1 (by omega)).cell rfl) (fun j u hu => (hW.cell (q := ⟨g2, j, none⟩) lg2 hne).trans (hc2 j u hu)) hm hs
 have HD := hI (show Calls Tryz.prog 142 #[.slice (some ⟨g, 0, none⟩) L.length cap, .func (.func 143) #[] #[.pointer (some ⟨w.heap.size, 0, none⟩)]] w1 fun e w' => e = .returned (.slice (some ⟨g, 0, none⟩) (L.filter fun x => !decide (x ∈ M)).length cap) ∧ w'.ownsRow B 9 1 (.slice (some ⟨g, 0, none⟩) (L.filter fun x => !decide (x ∈ M)).length cap) (L.filter fun x => !decide (x ∈ M)).length ((L.filter fun x => !decide (x ∈ M)).map encStr) ∧ Frm (fun j => j = g) w1 w' from by
  have h0 := h'
  rcases h'.2 with ⟨e, _⟩ | ⟨g', cap', cur, e, hB, hg, k1, k2, k3, k4⟩
  · cases e
  · cases e
    have := Tryz.slices_DeleteFunc_f142 encStr (fun _ => rfl) (fun x => decide (x ∈ M)) 143 #[.pointer (some ⟨w.heap.size, 0, none⟩)] (enters_of Tryz.func143 (by kernel_rfl) rfl) ([] : List UInt8) Tryz.zeroValue9 g 0 cap L.toArray w1 (fun W x hW => HP W x (Frm.of_below hW)) (fun n os dk x hd => HP _ x ((Frm.refl _ w1).grown (grownBy_sorted _) (fun k e => .inl (Option.some.inj e).symm))) (holds_of_block hg (by simpa using k4)) (by simp; omega) (by simpa using k1)
    simp only [List.size_toArray] at this
    refine this.mono ?_
    rintro e w' ⟨rfl, q, rfl⟩
    exact ⟨rfl, laidS _ h0 (List.length_filter_le _ _)⟩)
 have HW1 := hI hw1
 have HB1 := hI hb1
 obtain ⟨r, hr⟩ : ∃ r, r = L.filter fun x => !decide (x ∈ M) := ⟨_, rfl⟩
 rw [← hr] at HD ⊢
 obtain ⟨n, hn⟩ : ∃ n, n = L.length := ⟨_, rfl⟩
 obtain ⟨m, hmm⟩ : ∃ m, m = M.length := ⟨_, rfl⟩
 rw [← hn] at HD ⊢
 rw [← hmm] at HW1 ⊢
 clear HP hb1 hw1 s1 h' h2' lg lg2 hc2 h h2 hr hn hmm hl hm hs
 go_enter Tryz.func102, Tryz.ntmps102
 go_wp2_with (rw [← HW1.out]; (with_reducible refine HD.out.mono ?_); rintro e w8 ⟨rfl, h8, f8⟩; have H8 := hI h8; have F8 := hI f8; clear h8 f8)
 go_ret
 exact ⟨rfl, H8.out, (Frm.of_below HB1.out).next F8.out⟩
end Go.Proofs.YtngfknplljedeaaGreat
namespace Go.Proofs.YtngfknplljedeaaGreat
open Go.RowKit Go.Sort
theorem Tryz.infoStrY : (Tryz.prog.info? 9).map (fun i => (i.zero, i.size, i.bytes)) = some (some (.string ⟨#[]⟩), 1, 16) := by kernel_rfl
set_option maxRecDepth 100000 in
set_option maxHeartbeats 4000000 in
theorem inValHeldS_any (v : Value) (xs : List Hd) (of : Hd → ByteArray) (g : Nat) (w : World) (h : RowsAt w.heap.size 3 Hd.vs v xs w) (hm : xs.length ≤ 1073741823) (eg : ∀ args w, (callFunc g args).run Tryz.prog w = .ok (.enter g args) w) (hof : ∀ W x, Calls Tryz.prog g #[.agg (Hd.vs x).toArray] W fun e w' => e = .returned (.string (of x)) ∧ Below W.heap.size W w') :
 Calls Tryz.prog 139 #[v, .func (.func g) #[] #[]] w fun e w' => ∃ b cap, e = .returned (.slice (some ⟨b, 0, none⟩) (valsS (xs.map (fun x => (of x).data.toList))).length cap) ∧ w'.ownsRow w.heap.size 9 1 (.slice (some ⟨b, 0, none⟩) (valsS (xs.map (fun x => (of x).data.toList))).length cap) (valsS (xs.map (fun x => (of x).data.toList))).length ((valsS (xs.map (fun x => (of x).data.toList))).map encStr) ∧ Below w.heap.size w w' := by
 obtain ⟨iz, hiz, hz0, hz1, hz2⟩ := info_parts Tryz.infoStrY
 obtain ⟨ao, cap, b, off, rfl, hl, hx⟩ := h.walk
 obtain ⟨n, hn⟩ : ∃ n, n = xs.length := ⟨_, rfl⟩
 rw [← hn] at hl hx hm ⊢
 obtain ⟨M, hM⟩ : ∃ M : List (List UInt8), M = xs.map (fun x => (of x).data.toList) := ⟨_, rfl⟩
 rw [← hM]
 obtain ⟨VL, hVL⟩ : ∃ VL, VL = valsS M := ⟨_, rfl⟩
 rw [← hVL]
 obtain ⟨q, hq⟩ : ∃ q, q = VL.length := ⟨_, rfl⟩
 rw [← hq]
 have HVL := hI hVL
 have HQ := hI hq
 clear hVL hq
 have HN := hI (show n = M.length from by rw [hn, hM]; simp)
 have HX := hI (show ∀ i, i < n → ∃ x : Hd, xs[i]? = some x ∧ M.take (i + 1) = M.take i ++ [(fun x => (of x).data.toList) x] ∧ ao = some ⟨b, off, none⟩ ∧ ∀ W, Below w.heap.size w W → W.rangeAt b (off + i * 3) x.vs from fun i hi => by
  obtain ⟨x, e1, e2, e3, e4⟩ := hx i hi
  refine ⟨x, e1, ?_, e2, fun W hW j u hu => (hW.cell (p := ⟨b, off + i * 3 + j, none⟩) e3).trans (e4 j u hu)⟩
  exact take_one M i _ (by rw [hM]; simp [e1]))
 have HF := hI hof
 have hb8 : (iz.bytes : Int) * (n : Int) ≤ 281474976710656 := by rw [hz2]; omega
 clear hx h hn hM hof
 go_enter Tryz.func139, Tryz.ntmps139
 go_wp2_with ((with_reducible show wpList _ _ _ ({ dst := _, op := .makeSlice _ _ _, type := _, pos := _, after := _, guard := _ } :: _) _ _); refine wpList_mk0 rfl 136 9 _ _ rfl iz (.string ⟨#[]⟩) Tryz.underlying136 hiz hz0 hz1 rfl n (by simp [Act.eval]) (by simp [Act.eval]) hb8 (by omega) ?_; intro w3 h3 b3; have H3 := hI h3.out; have B3 := hI b3; clear h3 b3)
 go_loopw [5, 13] (fun o c wr => ∃ (i g0 cap0 : Nat), i ≤ n ∧ c = .int .i64 i ∧ o = .slice (some ⟨g0, 0, none⟩) i cap0 ∧ wr.ownsRow w.heap.size 9 1 (.slice (some ⟨g0, 0, none⟩) i cap0) i ((M.take i).map encStr) ∧ Below w.heap.size w wr) (fun _ c _ => n - (intOf c).toNat)
 case atStart => exact ⟨0, _, _, Nat.zero_le _, rfl, rfl, H3.out, B3.out⟩
 case round =>
  obtain ⟨i, g0, cap0, hi, rfl, rfl, hrow, hbel⟩ := hrel
  have HO := hI hrow
  have HB := hI hbel
  clear hrow hbel
  by_cases hlt : i < n
  · obtain ⟨x, hxi, hT, rfl, hr⟩ := HX.out i hlt
    have HT := hI hT
    obtain ⟨xv, hxv⟩ : ∃ xv, xv = x.vs := ⟨_, rfl⟩
    obtain ⟨s, hs⟩ : ∃ s, s = of x := ⟨_, rfl⟩
    have HR := hI (show wr.rangeAt b (off + i * 3) xv from by rw [hxv]; exact hr wr HB.out)
    have HV := hI (show xv.length = 3 from by rw [hxv]; rfl)
    have HV1 := hI (show xv.toArray.all (·.oneCell') = true from by rw [hxv]; exact all_oneCell_toArray (Hd.one x))
    have HG := hI (show ∀ W, Calls Tryz.prog g #[.agg xv.toArray] W fun e w' => e = .returned (.string s) ∧ Below W.heap.size W w' from fun W => by rw [hxv, hs]; exact HF.out W x)
    have HS := hI hs
    have i0 : (0 : Int) ≤ (i : Int) := by omega
    have i1 : (i : Int) < (n : Int) := by omega
    obtain ⟨w7, hw7⟩ : ∃ W, W = wr.alloc (.cells xv.toArray 49 (0, 0)) := ⟨_, rfl⟩
    have b7 : Below wr.heap.size wr w7 := by rw [hw7]; exact (Below.refl _ _).alloc (Nat.le_refl _) _
    have S7 := hI (show St 49 wr.heap.size xv.toArray w7 from by rw [hw7]; exact St.new _ _ _)
    have B7 := hI (show Below w.heap.size w w7 from HB.out.trans (b7.mono HB.out.size))
    have b7' := hI b7
    have HW7 := hI hw7
    clear hr hxi hxv hw7 hT hs b7
    go_wp2_with (first
     | ((with_reducible show wpList _ _ _ ({ dst := some 16, op := .load 49 _, type := _, pos := _, after := _, guard := _ } :: _) _ _); refine wpList_load_mid rfl 49 _ rfl b (off + i * 3) (by first | rfl | simp [Act.eval, Act.put]) xv _ HR.out Tryz.underlying49 rfl (by rw [HV.out]; kernel_rfl) ?_)
     | ((with_reducible show wpList _ _ _ ({ dst := _, op := .store 49 (.tmp 7) _, type := _, pos := _, after := _, guard := _ } :: _) _ _); refine wpList_store_st rfl 49 _ _ rfl wr.heap.size xv.toArray (by first | rfl | simp [Act.eval, Act.put]) (by first | rfl | simp [Act.eval, Act.put]) _ (St.new wr _ _) (by simp only [List.size_toArray, HV.out]; kernel_rfl) (by simp only [List.size_toArray, HV.out]; rfl) HV1.out ?_; rintro wq rfl -; rw [alloc_row, ← HW7.out])
     | ((with_reducible show wpList _ _ _ ({ dst := some 19, op := .load 49 _, type := _, pos := _, after := _, guard := _ } :: _) _ _); refine wpList_load_st rfl 49 _ rfl wr.heap.size (by first | rfl | simp [Act.eval, Act.put]) 49 xv.toArray S7.out _ Tryz.underlying49 rfl (by simp only [List.size_toArray, HV.out]; kernel_rfl) ?_)
     | ((with_reducible refine (HG.out _).mono ?_); rintro e w8 ⟨rfl, b8⟩; have O8 := hI ((Frm.of_below (F := fun _ => False) (b7'.out.trans (b8.mono b7'.out.size))).own HO.out (fun _ _ e => e)); have B8 := hI (B7.out.trans (b8.mono B7.out.size)); have z8 := B8.out.size; clear b8)
     | (at_builtin; go_must (refine wpList_append_lies _ rfl (.tmp 17) (.tmp 21) 136 rfl w.heap.size 9 iz (.string ⟨#[]⟩) 1 16 Tryz.underlying136 hiz hz0 hz1 hz2 rfl (by decide) (.slice (some ⟨g0, 0, none⟩) i cap0) i _ (by simp [Act.eval]) (O8.out.alloc _) ⟨w8.heap.size, 0, none⟩ 1 1 [.string s] (by simp [Act.eval]) rfl (World.news_of_block (heap_alloc_new w8 _)) (by intro u hu; simp at hu; subst hu; rfl) (by decide) (by unfold maxLen; omega) (by omega) (by simp; omega) (w8.heap.size + 1) (by simp) ?_); intro g1 cap6 w6 h1 hg _ _; have H6 := hI h1; have B6 := hI (Below.grown (B8.out.alloc B8.out.size _) hg (by simp; exact Nat.le_trans B8.out.size (Nat.le_succ _)) (fun k hk => (World.ownsRow.lt O8.out k hk).1)); clear h1 hg))
    go_roundw
    case rel =>
     refine ⟨i + 1, _, _, hlt, by go_num, rfl, ?_, B6.out⟩
     rw [HT.out, List.map_append, List.map_singleton, ← HS.out]
     exact H6.out
    case measure => simp [intOf]; omega
  · obtain rfl : i = n := by omega
    have hrow := HO.out
    rw [HN.out, List.take_length, ← HN.out] at hrow
    have hM : M.length ≤ 1073741823 := by rw [← HN.out]; exact hm
    have HSo := hI (show Calls Tryz.prog 140 #[.slice (some ⟨g0, 0, none⟩) i cap0] wr fun e w' => e = .returned (.tuple #[]) ∧ w'.ownsRow w.heap.size 9 1 (.slice (some ⟨g0, 0, none⟩) i cap0) i ((M.mergeSort fun x y => decide (x ≤ y)).map encStr) ∧ Frm (fun j => j = g0) wr w' from by
     have := sortS_own (w := wr) (L := M) (g := g0) (cap := cap0) (B := w.heap.size) (by rw [← HN.out]; exact hrow) hM
     rw [← HN.out] at this
     exact this)
    have HCp := hI (show ∀ W, W.ownsRow w.heap.size 9 1 (.slice (some ⟨g0, 0, none⟩) i cap0) i ((M.mergeSort fun x y => decide (x ≤ y)).map encStr) → Calls Tryz.prog 141 #[.slice (some ⟨g0, 0, none⟩) i cap0] W fun e w' => e = .returned (.slice (some ⟨g0, 0, none⟩) q cap0) ∧ w'.ownsRow w.heap.size 9 1 (.slice (some ⟨g0, 0, none⟩) q cap0) q (VL.map encStr) ∧ Frm (fun j => j = g0) W w' from fun W hW => by
     have he : i = (M.mergeSort fun x y => decide (x ≤ y)).length := by rw [List.length_mergeSort]; exact HN.out
     have := compactS_own (w := W) (L := M.mergeSort fun x y => decide (x ≤ y)) (g := g0) (cap := cap0) (B := w.heap.size) (by rw [← he]; exact hW) (by rw [← he]; exact hm)
     rw [← he] at this
     rw [HQ.out, HVL.out]
     exact this)
    have hg0 := (World.ownsRow.lt HO.out g0 rfl).1
    clear hrow hM
    go_wp2_with (first
     | (go_at_call 140; go_must (with_reducible refine HSo.out.mono ?_); rintro e w4 ⟨rfl, h4, f4⟩; have H4 := hI h4; have F4 := hI f4; clear h4 f4)
     | (go_at_call 141; go_must (with_reducible refine (HCp.out _ H4.out).mono ?_); rintro e w5 ⟨rfl, h5, f5⟩; have H5 := hI h5; have F5 := hI f5; clear h5 f5))
    go_ret
    refine ⟨_, _, rfl, H5.out, HB.out.trans (((F4.out.next F5.out).below (B := w.heap.size) HB.out.size fun j e => ?_))⟩
    have : j = g0 := e
    omega
set_option maxRecDepth 100000 in
set_option maxHeartbeats 4000000 in
theorem inValCachedS_any (v : Value) (xs : List Cd) (of : Cd → ByteArray) (g : Nat) (w : World) (h : RowsAt w.heap.size 11 Cd.vs v xs w) (hm : xs.length ≤ 1073741823) (eg : ∀ args w, (callFunc g args).run Tryz.prog w = .ok (.enter g args) w) (hof : ∀ W x, Calls Tryz.prog g #[.agg (Cd.vs x).toArray] W fun e w' => e = .returned (.string (of x)) ∧ Below W.heap.size W w') :
 Calls Tryz.prog 96 #[v, .func (.func g) #[] #[]] w fun e w' => ∃ b cap, e = .returned (.slice (some ⟨b, 0, none⟩) (valsS (xs.map (fun x => (of x).data.toList))).length cap) ∧ w'.ownsRow w.heap.size 9 1 (.slice (some ⟨b, 0, none⟩) (valsS (xs.map (fun x => (of x).data.toList))).length cap) (valsS (xs.map (fun x => (of x).data.toList))).length ((valsS (xs.map (fun x => (of x).data.toList))).map encStr) ∧ Below w.heap.size w w' := by
 obtain ⟨iz, hiz, hz0, hz1, hz2⟩ := info_parts Tryz.infoStrY
 obtain ⟨ao, cap, b, off, rfl, hl, hx⟩ := h.walk
 obtain ⟨n, hn⟩ : ∃ n, n = xs.length := ⟨_, rfl⟩
 rw [← hn] at hl hx hm ⊢
 obtain ⟨M, hM⟩ : ∃ M : List (List UInt8), M = xs.map (fun x => (of x).data.toList) := ⟨_, rfl⟩
 rw [← hM]
 obtain ⟨VL, hVL⟩ : ∃ VL, VL = valsS M := ⟨_, rfl⟩
 rw [← hVL]
 obtain ⟨q, hq⟩ : ∃ q, q = VL.length := ⟨_, rfl⟩
 rw [← hq]
 have HVL := hI hVL
 have HQ := hI hq
 clear hVL hq
 have HN := hI (show n = M.length from by rw [hn, hM]; simp)
 have HX := hI (show ∀ i, i < n → ∃ x : Cd, xs[i]? = some x ∧ M.take (i + 1) = M.take i ++ [(fun x => (of x).data.toList) x] ∧ ao = some ⟨b, off, none⟩ ∧ ∀ W, Below w.heap.size w W → W.rangeAt b (off + i * 11) x.vs from fun i hi => by
  obtain ⟨x, e1, e2, e3, e4⟩ := hx i hi
  refine ⟨x, e1, ?_, e2, fun W hW j u hu => (hW.cell (p := ⟨b, off + i * 11 + j, none⟩) e3).trans (e4 j u hu)⟩
  exact take_one M i _ (by rw [hM]; simp [e1]))
 have HF := hI hof
 have hb8 : (iz.bytes : Int) * (n : Int) ≤ 281474976710656 := by rw [hz2]; omega
 clear hx h hn hM hof
 go_enter Tryz.func96, Tryz.ntmps96
 go_wp2_with ((with_reducible show wpList _ _ _ ({ dst := _, op := .makeSlice _ _ _, type := _, pos := _, after := _, guard := _ } :: _) _ _); refine wpList_mk0 rfl 136 9 _ _ rfl iz (.string ⟨#[]⟩) Tryz.underlying136 hiz hz0 hz1 rfl n (by simp [Act.eval]) (by simp [Act.eval]) hb8 (by omega) ?_; intro w3 h3 b3; have H3 := hI h3.out; have B3 := hI b3; clear h3 b3)
 go_loopw [5, 13] (fun o c wr => ∃ (i g0 cap0 : Nat), i ≤ n ∧ c = .int .i64 i ∧ o = .slice (some ⟨g0, 0, none⟩) i cap0 ∧ wr.ownsRow w.heap.size 9 1 (.slice (some ⟨g0, 0, none⟩) i cap0) i ((M.take i).map encStr) ∧ Below w.heap.size w wr) (fun _ c _ => n - (intOf c).toNat)
 case atStart => exact ⟨0, _, _, Nat.zero_le _, rfl, rfl, H3.out, B3.out⟩
 case round =>
  obtain ⟨i, g0, cap0, hi, rfl, rfl, hrow, hbel⟩ := hrel
  have HO := hI hrow
  have HB := hI hbel
  clear hrow hbel
  by_cases hlt : i < n
  · obtain ⟨x, hxi, hT, rfl, hr⟩ := HX.out i hlt
    have HT := hI hT
    obtain ⟨xv, hxv⟩ : ∃ xv, xv = x.vs := ⟨_, rfl⟩
    obtain ⟨s, hs⟩ : ∃ s, s = of x := ⟨_, rfl⟩
    have HR := hI (show wr.rangeAt b (off + i * 11) xv from by rw [hxv]; exact hr wr HB.out)
    have HV := hI (show xv.length = 11 from by rw [hxv]; rfl)
    have HV1 := hI (show xv.toArray.all (·.oneCell') = true from by rw [hxv]; exact all_oneCell_toArray (Cd.one x))
    have HG := hI (show ∀ W, Calls Tryz.prog g #[.agg xv.toArray] W fun e w' => e = .returned (.string s) ∧ Below W.heap.size W w' from fun W => by rw [hxv, hs]; exact HF.out W x)
    have HS := hI hs
    have i0 : (0 : Int) ≤ (i : Int) := by omega
    have i1 : (i : Int) < (n : Int) := by omega
    obtain ⟨w7, hw7⟩ : ∃ W, W = wr.alloc (.cells xv.toArray 57 (0, 0)) := ⟨_, rfl⟩
    have b7 : Below wr.heap.size wr w7 := by rw [hw7]; exact (Below.refl _ _).alloc (Nat.le_refl _) _
    have S7 := hI (show St 57 wr.heap.size xv.toArray w7 from by rw [hw7]; exact St.new _ _ _)
    have B7 := hI (show Below w.heap.size w w7 from HB.out.trans (b7.mono HB.out.size))
    have b7' := hI b7
    have HW7 := hI hw7
    clear hr hxi hxv hw7 hT hs b7
    go_wp2_with (first
     | ((with_reducible show wpList _ _ _ ({ dst := some 16, op := .load 57 _, type := _, pos := _, after := _, guard := _ } :: _) _ _); refine wpList_load_mid rfl 57 _ rfl b (off + i * 11) (by first | rfl | simp [Act.eval, Act.put]) xv _ HR.out Tryz.underlying57 rfl (by rw [HV.out]; kernel_rfl) ?_)
     | ((with_reducible show wpList _ _ _ ({ dst := _, op := .store 57 (.tmp 7) _, type := _, pos := _, after := _, guard := _ } :: _) _ _); refine wpList_store_st rfl 57 _ _ rfl wr.heap.size xv.toArray (by first | rfl | simp [Act.eval, Act.put]) (by first | rfl | simp [Act.eval, Act.put]) _ (St.new wr _ _) (by simp only [List.size_toArray, HV.out]; kernel_rfl) (by simp only [List.size_toArray, HV.out]; rfl) HV1.out ?_; rintro wq rfl -; rw [alloc_row, ← HW7.out])
     | ((with_reducible show wpList _ _ _ ({ dst := some 19, op := .load 57 _, type := _, pos := _, after := _, guard := _ } :: _) _ _); refine wpList_load_st rfl 57 _ rfl wr.heap.size (by first | rfl | simp [Act.eval, Act.put]) 57 xv.toArray S7.out _ Tryz.underlying57 rfl (by simp only [List.size_toArray, HV.out]; kernel_rfl) ?_)
     | ((with_reducible refine (HG.out _).mono ?_); rintro e w8 ⟨rfl, b8⟩; have O8 := hI ((Frm.of_below (F := fun _ => False) (b7'.out.trans (b8.mono b7'.out.size))).own HO.out (fun _ _ e => e)); have B8 := hI (B7.out.trans (b8.mono B7.out.size)); have z8 := B8.out.size; clear b8)
     | (at_builtin; go_must (refine wpList_append_lies _ rfl (.tmp 17) (.tmp 21) 136 rfl w.heap.size 9 iz (.string ⟨#[]⟩) 1 16 Tryz.underlying136 hiz hz0 hz1 hz2 rfl (by decide) (.slice (some ⟨g0, 0, none⟩) i cap0) i _ (by simp [Act.eval]) (O8.out.alloc _) ⟨w8.heap.size, 0, none⟩ 1 1 [.string s] (by simp [Act.eval]) rfl (World.news_of_block (heap_alloc_new w8 _)) (by intro u hu; simp at hu; subst hu; rfl) (by decide) (by unfold maxLen; omega) (by omega) (by simp; omega) (w8.heap.size + 1) (by simp) ?_); intro g1 cap6 w6 h1 hg _ _; have H6 := hI h1; have B6 := hI (Below.grown (B8.out.alloc B8.out.size _) hg (by simp; exact Nat.le_trans B8.out.size (Nat.le_succ _)) (fun k hk => (World.ownsRow.lt O8.out k hk).1)); clear h1 hg))
    go_roundw
    case rel =>
     refine ⟨i + 1, _, _, hlt, by go_num, rfl, ?_, B6.out⟩
     rw [HT.out, List.map_append, List.map_singleton, ← HS.out]
     exact H6.out
    case measure => simp [intOf]; omega
  · obtain rfl : i = n := by omega
    have hrow := HO.out
    rw [HN.out, List.take_length, ← HN.out] at hrow
    have hM : M.length ≤ 1073741823 := by rw [← HN.out]; exact hm
    have HSo := hI (show Calls Tryz.prog 140 #[.slice (some ⟨g0, 0, none⟩) i cap0] wr fun e w' => e = .returned (.tuple #[]) ∧ w'.ownsRow w.heap.size 9 1 (.slice (some ⟨g0, 0, none⟩) i cap0) i ((M.mergeSort fun x y => decide (x ≤ y)).map encStr) ∧ Frm (fun j => j = g0) wr w' from by
     have := sortS_own (w := wr) (L := M) (g := g0) (cap := cap0) (B := w.heap.size) (by rw [← HN.out]; exact hrow) hM
     rw [← HN.out] at this
     exact this)
    have HCp := hI (show ∀ W, W.ownsRow w.heap.size 9 1 (.slice (some ⟨g0, 0, none⟩) i cap0) i ((M.mergeSort fun x y => decide (x ≤ y)).map encStr) → Calls Tryz.prog 141 #[.slice (some ⟨g0, 0, none⟩) i cap0] W fun e w' => e = .returned (.slice (some ⟨g0, 0, none⟩) q cap0) ∧ w'.ownsRow w.heap.size 9 1 (.slice (some ⟨g0, 0, none⟩) q cap0) q (VL.map encStr) ∧ Frm (fun j => j = g0) W w' from fun W hW => by
     have he : i = (M.mergeSort fun x y => decide (x ≤ y)).length := by rw [List.length_mergeSort]; exact HN.out
     have := compactS_own (w := W) (L := M.mergeSort fun x y => decide (x ≤ y)) (g := g0) (cap := cap0) (B := w.heap.size) (by rw [← he]; exact hW) (by rw [← he]; exact hm)
     rw [← he] at this
     rw [HQ.out, HVL.out]
     exact this)
    have hg0 := (World.ownsRow.lt HO.out g0 rfl).1
    clear hrow hM
    go_wp2_with (first
     | (go_at_call 140; go_must (with_reducible refine HSo.out.mono ?_); rintro e w4 ⟨rfl, h4, f4⟩; have H4 := hI h4; have F4 := hI f4; clear h4 f4)
     | (go_at_call 141; go_must (with_reducible refine (HCp.out _ H4.out).mono ?_); rintro e w5 ⟨rfl, h5, f5⟩; have H5 := hI h5; have F5 := hI f5; clear h5 f5))
    go_ret
    refine ⟨_, _, rfl, H5.out, HB.out.trans (((F4.out.next F5.out).below (B := w.heap.size) HB.out.size fun j e => ?_))⟩
    have : j = g0 := e
    omega
set_option maxRecDepth 100000 in
set_option maxHeartbeats 4000000 in
theorem inValKnownS_any (v : Value) (xs : List Kn) (of : Kn → ByteArray) (g : Nat) (w : World) (h : RowsAt w.heap.size 3 Kn.vs v xs w) (hm : xs.length ≤ 1073741823) (eg : ∀ args w, (callFunc g args).run Tryz.prog w = .ok (.enter g args) w) (hof : ∀ W x, Calls Tryz.prog g #[.agg (Kn.vs x).toArray] W fun e w' => e = .returned (.string (of x)) ∧ Below W.heap.size W w') :
 Calls Tryz.prog 98 #[v, .func (.func g) #[] #[]] w fun e w' => ∃ b cap, e = .returned (.slice (some ⟨b, 0, none⟩) (valsS (xs.map (fun x => (of x).data.toList))).length cap) ∧ w'.ownsRow w.heap.size 9 1 (.slice (some ⟨b, 0, none⟩) (valsS (xs.map (fun x => (of x).data.toList))).length cap) (valsS (xs.map (fun x => (of x).data.toList))).length ((valsS (xs.map (fun x => (of x).data.toList))).map encStr) ∧ Below w.heap.size w w' := by
 obtain ⟨iz, hiz, hz0, hz1, hz2⟩ := info_parts Tryz.infoStrY
 obtain ⟨ao, cap, b, off, rfl, hl, hx⟩ := h.walk
 obtain ⟨n, hn⟩ : ∃ n, n = xs.length := ⟨_, rfl⟩
 rw [← hn] at hl hx hm ⊢
 obtain ⟨M, hM⟩ : ∃ M : List (List UInt8), M = xs.map (fun x => (of x).data.toList) := ⟨_, rfl⟩
 rw [← hM]
 obtain ⟨VL, hVL⟩ : ∃ VL, VL = valsS M := ⟨_, rfl⟩
 rw [← hVL]
 obtain ⟨q, hq⟩ : ∃ q, q = VL.length := ⟨_, rfl⟩
 rw [← hq]
 have HVL := hI hVL
 have HQ := hI hq
 clear hVL hq
 have HN := hI (show n = M.length from by rw [hn, hM]; simp)
 have HX := hI (show ∀ i, i < n → ∃ x : Kn, xs[i]? = some x ∧ M.take (i + 1) = M.take i ++ [(fun x => (of x).data.toList) x] ∧ ao = some ⟨b, off, none⟩ ∧ ∀ W, Below w.heap.size w W → W.rangeAt b (off + i * 3) x.vs from fun i hi => by
  obtain ⟨x, e1, e2, e3, e4⟩ := hx i hi
  refine ⟨x, e1, ?_, e2, fun W hW j u hu => (hW.cell (p := ⟨b, off + i * 3 + j, none⟩) e3).trans (e4 j u hu)⟩
  exact take_one M i _ (by rw [hM]; simp [e1]))
 have HF := hI hof
 have hb8 : (iz.bytes : Int) * (n : Int) ≤ 281474976710656 := by rw [hz2]; omega
 clear hx h hn hM hof
 go_enter Tryz.func98, Tryz.ntmps98
 go_wp2_with ((with_reducible show wpList _ _ _ ({ dst := _, op := .makeSlice _ _ _, type := _, pos := _, after := _, guard := _ } :: _) _ _); refine wpList_mk0 rfl 136 9 _ _ rfl iz (.string ⟨#[]⟩) Tryz.underlying136 hiz hz0 hz1 rfl n (by simp [Act.eval]) (by simp [Act.eval]) hb8 (by omega) ?_; intro w3 h3 b3; have H3 := hI h3.out; have B3 := hI b3; clear h3 b3)
 go_loopw [5, 13] (fun o c wr => ∃ (i g0 cap0 : Nat), i ≤ n ∧ c = .int .i64 i ∧ o = .slice (some ⟨g0, 0, none⟩) i cap0 ∧ wr.ownsRow w.heap.size 9 1 (.slice (some ⟨g0, 0, none⟩) i cap0) i ((M.take i).map encStr) ∧ Below w.heap.size w wr) (fun _ c _ => n - (intOf c).toNat)
 case atStart => exact ⟨0, _, _, Nat.zero_le _, rfl, rfl, H3.out, B3.out⟩
 case round =>
  obtain ⟨i, g0, cap0, hi, rfl, rfl, hrow, hbel⟩ := hrel
  have HO := hI hrow
  have HB := hI hbel
  clear hrow hbel
  by_cases hlt : i < n
  · obtain ⟨x, hxi, hT, rfl, hr⟩ := HX.out i hlt
    have HT := hI hT
    obtain ⟨xv, hxv⟩ : ∃ xv, xv = x.vs := ⟨_, rfl⟩
    obtain ⟨s, hs⟩ : ∃ s, s = of x := ⟨_, rfl⟩
    have HR := hI (show wr.rangeAt b (off + i * 3) xv from by rw [hxv]; exact hr wr HB.out)
    have HV := hI (show xv.length = 3 from by rw [hxv]; rfl)
    have HV1 := hI (show xv.toArray.all (·.oneCell') = true from by rw [hxv]; exact all_oneCell_toArray (Kn.one x))
    have HG := hI (show ∀ W, Calls Tryz.prog g #[.agg xv.toArray] W fun e w' => e = .returned (.string s) ∧ Below W.heap.size W w' from fun W => by rw [hxv, hs]; exact HF.out W x)
    have HS := hI hs
    have i0 : (0 : Int) ≤ (i : Int) := by omega
    have i1 : (i : Int) < (n : Int) := by omega
    obtain ⟨w7, hw7⟩ : ∃ W, W = wr.alloc (.cells xv.toArray 61 (0, 0)) := ⟨_, rfl⟩
    have b7 : Below wr.heap.size wr w7 := by rw [hw7]; exact (Below.refl _ _).alloc (Nat.le_refl _) _
    have S7 := hI (show St 61 wr.heap.size xv.toArray w7 from by rw [hw7]; exact St.new _ _ _)
    have B7 := hI (show Below w.heap.size w w7 from HB.out.trans (b7.mono HB.out.size))
    have b7' := hI b7
    have HW7 := hI hw7
    clear hr hxi hxv hw7 hT hs b7
    go_wp2_with (first
     | ((with_reducible show wpList _ _ _ ({ dst := some 16, op := .load 61 _, type := _, pos := _, after := _, guard := _ } :: _) _ _); refine wpList_load_mid rfl 61 _ rfl b (off + i * 3) (by first | rfl | simp [Act.eval, Act.put]) xv _ HR.out Tryz.underlying61 rfl (by rw [HV.out]; kernel_rfl) ?_)
     | ((with_reducible show wpList _ _ _ ({ dst := _, op := .store 61 (.tmp 7) _, type := _, pos := _, after := _, guard := _ } :: _) _ _); refine wpList_store_st rfl 61 _ _ rfl wr.heap.size xv.toArray (by first | rfl | simp [Act.eval, Act.put]) (by first | rfl | simp [Act.eval, Act.put]) _ (St.new wr _ _) (by simp only [List.size_toArray, HV.out]; kernel_rfl) (by simp only [List.size_toArray, HV.out]; rfl) HV1.out ?_; rintro wq rfl -; rw [alloc_row, ← HW7.out])
     | ((with_reducible show wpList _ _ _ ({ dst := some 19, op := .load 61 _, type := _, pos := _, after := _, guard := _ } :: _) _ _); refine wpList_load_st rfl 61 _ rfl wr.heap.size (by first | rfl | simp [Act.eval, Act.put]) 61 xv.toArray S7.out _ Tryz.underlying61 rfl (by simp only [List.size_toArray, HV.out]; kernel_rfl) ?_)
     | ((with_reducible refine (HG.out _).mono ?_); rintro e w8 ⟨rfl, b8⟩; have O8 := hI ((Frm.of_below (F := fun _ => False) (b7'.out.trans (b8.mono b7'.out.size))).own HO.out (fun _ _ e => e)); have B8 := hI (B7.out.trans (b8.mono B7.out.size)); have z8 := B8.out.size; clear b8)
     | (at_builtin; go_must (refine wpList_append_lies _ rfl (.tmp 17) (.tmp 21) 136 rfl w.heap.size 9 iz (.string ⟨#[]⟩) 1 16 Tryz.underlying136 hiz hz0 hz1 hz2 rfl (by decide) (.slice (some ⟨g0, 0, none⟩) i cap0) i _ (by simp [Act.eval]) (O8.out.alloc _) ⟨w8.heap.size, 0, none⟩ 1 1 [.string s] (by simp [Act.eval]) rfl (World.news_of_block (heap_alloc_new w8 _)) (by intro u hu; simp at hu; subst hu; rfl) (by decide) (by unfold maxLen; omega) (by omega) (by simp; omega) (w8.heap.size + 1) (by simp) ?_); intro g1 cap6 w6 h1 hg _ _; have H6 := hI h1; have B6 := hI (Below.grown (B8.out.alloc B8.out.size _) hg (by simp; exact Nat.le_trans B8.out.size (Nat.le_succ _)) (fun k hk => (World.ownsRow.lt O8.out k hk).1)); clear h1 hg))
    go_roundw
    case rel =>
     refine ⟨i + 1, _, _, hlt, by go_num, rfl, ?_, B6.out⟩
     rw [HT.out, List.map_append, List.map_singleton, ← HS.out]
     exact H6.out
    case measure => simp [intOf]; omega
  · obtain rfl : i = n := by omega
    have hrow := HO.out
    rw [HN.out, List.take_length, ← HN.out] at hrow
    have hM : M.length ≤ 1073741823 := by rw [← HN.out]; exact hm
    have HSo := hI (show Calls Tryz.prog 140 #[.slice (some ⟨g0, 0, none⟩) i cap0] wr fun e w' => e = .returned (.tuple #[]) ∧ w'.ownsRow w.heap.size 9 1 (.slice (some ⟨g0, 0, none⟩) i cap0) i ((M.mergeSort fun x y => decide (x ≤ y)).map encStr) ∧ Frm (fun j => j = g0) wr w' from by
     have := sortS_own (w := wr) (L := M) (g := g0) (cap := cap0) (B := w.heap.size) (by rw [← HN.out]; exact hrow) hM
     rw [← HN.out] at this
     exact this)
    have HCp := hI (show ∀ W, W.ownsRow w.heap.size 9 1 (.slice (some ⟨g0, 0, none⟩) i cap0) i ((M.mergeSort fun x y => decide (x ≤ y)).map encStr) → Calls Tryz.prog 141 #[.slice (some ⟨g0, 0, none⟩) i cap0] W fun e w' => e = .returned (.slice (some ⟨g0, 0, none⟩) q cap0) ∧ w'.ownsRow w.heap.size 9 1 (.slice (some ⟨g0, 0, none⟩) q cap0) q (VL.map encStr) ∧ Frm (fun j => j = g0) W w' from fun W hW => by
     have he : i = (M.mergeSort fun x y => decide (x ≤ y)).length := by rw [List.length_mergeSort]; exact HN.out
     have := compactS_own (w := W) (L := M.mergeSort fun x y => decide (x ≤ y)) (g := g0) (cap := cap0) (B := w.heap.size) (by rw [← he]; exact hW) (by rw [← he]; exact hm)
     rw [← he] at this
     rw [HQ.out, HVL.out]
     exact this)
    have hg0 := (World.ownsRow.lt HO.out g0 rfl).1
    clear hrow hM
    go_wp2_with (first
     | (go_at_call 140; go_must (with_reducible refine HSo.out.mono ?_); rintro e w4 ⟨rfl, h4, f4⟩; have H4 := hI h4; have F4 := hI f4; clear h4 f4)
     | (go_at_call 141; go_must (with_reducible refine (HCp.out _ H4.out).mono ?_); rintro e w5 ⟨rfl, h5, f5⟩; have H5 := hI h5; have F5 := hI f5; clear h5 f5))
    go_ret
    refine ⟨_, _, rfl, H5.out, HB.out.trans (((F4.out.next F5.out).below (B := w.heap.size) HB.out.size fun j e => ?_))⟩
    have : j = g0 := e
    omega
set_option maxRecDepth 100000 in
set_option maxHeartbeats 4000000 in
theorem inValPlacedS_any (v : Value) (xs : List Bk) (of : Bk → ByteArray) (g : Nat) (w : World) (h : RowsAt w.heap.size 3 Bk.vs v xs w) (hm : xs.length ≤ 1073741823) (eg : ∀ args w, (callFunc g args).run Tryz.prog w = .ok (.enter g args) w) (hof : ∀ W x, Calls Tryz.prog g #[.agg (Bk.vs x).toArray] W fun e w' => e = .returned (.string (of x)) ∧ Below W.heap.size W w') :
 Calls Tryz.prog 100 #[v, .func (.func g) #[] #[]] w fun e w' => ∃ b cap, e = .returned (.slice (some ⟨b, 0, none⟩) (valsS (xs.map (fun x => (of x).data.toList))).length cap) ∧ w'.ownsRow w.heap.size 9 1 (.slice (some ⟨b, 0, none⟩) (valsS (xs.map (fun x => (of x).data.toList))).length cap) (valsS (xs.map (fun x => (of x).data.toList))).length ((valsS (xs.map (fun x => (of x).data.toList))).map encStr) ∧ Below w.heap.size w w' := by
 obtain ⟨iz, hiz, hz0, hz1, hz2⟩ := info_parts Tryz.infoStrY
 obtain ⟨ao, cap, b, off, rfl, hl, hx⟩ := h.walk
 obtain ⟨n, hn⟩ : ∃ n, n = xs.length := ⟨_, rfl⟩
 rw [← hn] at hl hx hm ⊢
 obtain ⟨M, hM⟩ : ∃ M : List (List UInt8), M = xs.map (fun x => (of x).data.toList) := ⟨_, rfl⟩
 rw [← hM]
 obtain ⟨VL, hVL⟩ : ∃ VL, VL = valsS M := ⟨_, rfl⟩
 rw [← hVL]
 obtain ⟨q, hq⟩ : ∃ q, q = VL.length := ⟨_, rfl⟩
 rw [← hq]
 have HVL := hI hVL
 have HQ := hI hq
 clear hVL hq
 have HN := hI (show n = M.length from by rw [hn, hM]; simp)
 have HX := hI (show ∀ i, i < n → ∃ x : Bk, xs[i]? = some x ∧ M.take (i + 1) = M.take i ++ [(fun x => (of x).data.toList) x] ∧ ao = some ⟨b, off, none⟩ ∧ ∀ W, Below w.heap.size w W → W.rangeAt b (off + i * 3) x.vs from fun i hi => by
  obtain ⟨x, e1, e2, e3, e4⟩ := hx i hi
  refine ⟨x, e1, ?_, e2, fun W hW j u hu => (hW.cell (p := ⟨b, off + i * 3 + j, none⟩) e3).trans (e4 j u hu)⟩
  exact take_one M i _ (by rw [hM]; simp [e1]))
 have HF := hI hof
 have hb8 : (iz.bytes : Int) * (n : Int) ≤ 281474976710656 := by rw [hz2]; omega
 clear hx h hn hM hof
 go_enter Tryz.func100, Tryz.ntmps100
 go_wp2_with ((with_reducible show wpList _ _ _ ({ dst := _, op := .makeSlice _ _ _, type := _, pos := _, after := _, guard := _ } :: _) _ _); refine wpList_mk0 rfl 136 9 _ _ rfl iz (.string ⟨#[]⟩) Tryz.underlying136 hiz hz0 hz1 rfl n (by simp [Act.eval]) (by simp [Act.eval]) hb8 (by omega) ?_; intro w3 h3 b3; have H3 := hI h3.out; have B3 := hI b3; clear h3 b3)
 go_loopw [5, 13] (fun o c wr => ∃ (i g0 cap0 : Nat), i ≤ n ∧ c = .int .i64 i ∧ o = .slice (some ⟨g0, 0, none⟩) i cap0 ∧ wr.ownsRow w.heap.size 9 1 (.slice (some ⟨g0, 0, none⟩) i cap0) i ((M.take i).map encStr) ∧ Below w.heap.size w wr) (fun _ c _ => n - (intOf c).toNat)
 case atStart => exact ⟨0, _, _, Nat.zero_le _, rfl, rfl, H3.out, B3.out⟩
 case round =>
  obtain ⟨i, g0, cap0, hi, rfl, rfl, hrow, hbel⟩ := hrel
  have HO := hI hrow
  have HB := hI hbel
  clear hrow hbel
  by_cases hlt : i < n
  · obtain ⟨x, hxi, hT, rfl, hr⟩ := HX.out i hlt
    have HT := hI hT
    obtain ⟨xv, hxv⟩ : ∃ xv, xv = x.vs := ⟨_, rfl⟩
    obtain ⟨s, hs⟩ : ∃ s, s = of x := ⟨_, rfl⟩
    have HR := hI (show wr.rangeAt b (off + i * 3) xv from by rw [hxv]; exact hr wr HB.out)
    have HV := hI (show xv.length = 3 from by rw [hxv]; rfl)
    have HV1 := hI (show xv.toArray.all (·.oneCell') = true from by rw [hxv]; exact all_oneCell_toArray (Bk.one x))
    have HG := hI (show ∀ W, Calls Tryz.prog g #[.agg xv.toArray] W fun e w' => e = .returned (.string s) ∧ Below W.heap.size W w' from fun W => by rw [hxv, hs]; exact HF.out W x)
    have HS := hI hs
    have i0 : (0 : Int) ≤ (i : Int) := by omega
    have i1 : (i : Int) < (n : Int) := by omega
    obtain ⟨w7, hw7⟩ : ∃ W, W = wr.alloc (.cells xv.toArray 66 (0, 0)) := ⟨_, rfl⟩
    have b7 : Below wr.heap.size wr w7 := by rw [hw7]; exact (Below.refl _ _).alloc (Nat.le_refl _) _
    have S7 := hI (show St 66 wr.heap.size xv.toArray w7 from by rw [hw7]; exact St.new _ _ _)
    have B7 := hI (show Below w.heap.size w w7 from HB.out.trans (b7.mono HB.out.size))
    have b7' := hI b7
    have HW7 := hI hw7
    clear hr hxi hxv hw7 hT hs b7
    go_wp2_with (first
     | ((with_reducible show wpList _ _ _ ({ dst := some 16, op := .load 66 _, type := _, pos := _, after := _, guard := _ } :: _) _ _); refine wpList_load_mid rfl 66 _ rfl b (off + i * 3) (by first | rfl | simp [Act.eval, Act.put]) xv _ HR.out Tryz.underlying66 rfl (by rw [HV.out]; kernel_rfl) ?_)
     | ((with_reducible show wpList _ _ _ ({ dst := _, op := .store 66 (.tmp 7) _, type := _, pos := _, after := _, guard := _ } :: _) _ _); refine wpList_store_st rfl 66 _ _ rfl wr.heap.size xv.toArray (by first | rfl | simp [Act.eval, Act.put]) (by first | rfl | simp [Act.eval, Act.put]) _ (St.new wr _ _) (by simp only [List.size_toArray, HV.out]; kernel_rfl) (by simp only [List.size_toArray, HV.out]; rfl) HV1.out ?_; rintro wq rfl -; rw [alloc_row, ← HW7.out])
     | ((with_reducible show wpList _ _ _ ({ dst := some 19, op := .load 66 _, type := _, pos := _, after := _, guard := _ } :: _) _ _); refine wpList_load_st rfl 66 _ rfl wr.heap.size (by first | rfl | simp [Act.eval, Act.put]) 66 xv.toArray S7.out _ Tryz.underlying66 rfl (by simp only [List.size_toArray, HV.out]; kernel_rfl) ?_)
     | ((with_reducible refine (HG.out _).mono ?_); rintro e w8 ⟨rfl, b8⟩; have O8 := hI ((Frm.of_below (F := fun _ => False) (b7'.out.trans (b8.mono b7'.out.size))).own HO.out (fun _ _ e => e)); have B8 := hI (B7.out.trans (b8.mono B7.out.size)); have z8 := B8.out.size; clear b8)
     | (at_builtin; go_must (refine wpList_append_lies _ rfl (.tmp 17) (.tmp 21) 136 rfl w.heap.size 9 iz (.string ⟨#[]⟩) 1 16 Tryz.underlying136 hiz hz0 hz1 hz2 rfl (by decide) (.slice (some ⟨g0, 0, none⟩) i cap0) i _ (by simp [Act.eval]) (O8.out.alloc _) ⟨w8.heap.size, 0, none⟩ 1 1 [.string s] (by simp [Act.eval]) rfl (World.news_of_block (heap_alloc_new w8 _)) (by intro u hu; simp at hu; subst hu; rfl) (by decide) (by unfold maxLen; omega) (by omega) (by simp; omega) (w8.heap.size + 1) (by simp) ?_); intro g1 cap6 w6 h1 hg _ _; have H6 := hI h1; have B6 := hI (Below.grown (B8.out.alloc B8.out.size _) hg (by simp; exact Nat.le_trans B8.out.size (Nat.le_succ _)) (fun k hk => (World.ownsRow.lt O8.out k hk).1)); clear h1 hg))
    go_roundw
    case rel =>
     refine ⟨i + 1, _, _, hlt, by go_num, rfl, ?_, B6.out⟩
     rw [HT.out, List.map_append, List.map_singleton, ← HS.out]
     exact H6.out
    case measure => simp [intOf]; omega
  · obtain rfl : i = n := by omega
    have hrow := HO.out
    rw [HN.out, List.take_length, ← HN.out] at hrow
    have hM : M.length ≤ 1073741823 := by rw [← HN.out]; exact hm
    have HSo := hI (show Calls Tryz.prog 140 #[.slice (some ⟨g0, 0, none⟩) i cap0] wr fun e w' => e = .returned (.tuple #[]) ∧ w'.ownsRow w.heap.size 9 1 (.slice (some ⟨g0, 0, none⟩) i cap0) i ((M.mergeSort fun x y => decide (x ≤ y)).map encStr) ∧ Frm (fun j => j = g0) wr w' from by
     have := sortS_own (w := wr) (L := M) (g := g0) (cap := cap0) (B := w.heap.size) (by rw [← HN.out]; exact hrow) hM
     rw [← HN.out] at this
     exact this)
    have HCp := hI (show ∀ W, W.ownsRow w.heap.size 9 1 (.slice (some ⟨g0, 0, none⟩) i cap0) i ((M.mergeSort fun x y => decide (x ≤ y)).map encStr) → Calls Tryz.prog 141 #[.slice (some ⟨g0, 0, none⟩) i cap0] W fun e w' => e = .returned (.slice (some ⟨g0, 0, none⟩) q cap0) ∧ w'.ownsRow w.heap.size 9 1 (.slice (some ⟨g0, 0, none⟩) q cap0) q (VL.map encStr) ∧ Frm (fun j => j = g0) W w' from fun W hW => by
     have he : i = (M.mergeSort fun x y => decide (x ≤ y)).length := by rw [List.length_mergeSort]; exact HN.out
     have := compactS_own (w := W) (L := M.mergeSort fun x y => decide (x ≤ y)) (g := g0) (cap := cap0) (B := w.heap.size) (by rw [← he]; exact hW) (by rw [← he]; exact hm)
     rw [← he] at this
     rw [HQ.out, HVL.out]
     exact this)
    have hg0 := (World.ownsRow.lt HO.out g0 rfl).1
    clear hrow hM
    go_wp2_with (first
     | (go_at_call 140; go_must (with_reducible refine HSo.out.mono ?_); rintro e w4 ⟨rfl, h4, f4⟩; have H4 := hI h4; have F4 := hI f4; clear h4 f4)
     | (go_at_call 141; go_must (with_reducible refine (HCp.out _ H4.out).mono ?_); rintro e w5 ⟨rfl, h5, f5⟩; have H5 := hI h5; have F5 := hI f5; clear h5 f5))
    go_ret
    refine ⟨_, _, rfl, H5.out, HB.out.trans (((F4.out.next F5.out).below (B := w.heap.size) HB.out.size fun j e => ?_))⟩
    have : j = g0 := e
    omega
end Go.Proofs.YtngfknplljedeaaGreat
