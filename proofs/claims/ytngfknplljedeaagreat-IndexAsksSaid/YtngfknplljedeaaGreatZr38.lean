/- Lemmas for the laws of index. -/
import Derived.Great.BuildSlice
import Derived.Shelf.Abstract
import Derived.Test.YtngfknplljedeaaGreatZr31
import Derived.Test.YtngfknplljedeaaGreatZr37
import Derived.Test.YtngfknplljedeaaGreatZrHi
namespace Go.Proofs.YtngfknplljedeaaGreat
open Go.RowKit
theorem lis10 {b : Nat} {T : TypeId} {fr : Nat × Nat} {w : World} {a0 a1 a2 a3 a4 a5 a6 a7 a8 a9 : Int} (h : w.heap[b]? = some (.cells #[.int .i64 a0, .int .i64 1, .int .i64 7, .int .i64 a1, .int .i64 0, .int .i64 4095, .int .i64 a2, .int .i64 0, .int .i64 4294967295, .int .i64 a3, .int .i64 0, .int .i64 4294967295, .int .i64 a4, .int .i64 0, .int .i64 4294967295, .int .i64 a5, .int .i64 0, .int .i64 9223372036854775807, .int .i64 a6, .int .i64 0, .int .i64 4294967295, .int .i64 a7, .int .i64 0, .int .i64 9223372036854775807, .int .i64 a8, .int .i64 0, .int .i64 9223372036854775807, .int .i64 a9, .int .i64 0, .int .i64 9223372036854775807] T fr)) : Lis b [⟨a0, 1, 7⟩, ⟨a1, 0, 4095⟩, ⟨a2, 0, 4294967295⟩, ⟨a3, 0, 4294967295⟩, ⟨a4, 0, 4294967295⟩, ⟨a5, 0, 9223372036854775807⟩, ⟨a6, 0, 4294967295⟩, ⟨a7, 0, 9223372036854775807⟩, ⟨a8, 0, 9223372036854775807⟩, ⟨a9, 0, 9223372036854775807⟩] w := by
 intro j l hj
 match j, hj with
 | 0, hj => cases hj; simp [World.cell?, h]
 | 1, hj => cases hj; simp [World.cell?, h]
 | 2, hj => cases hj; simp [World.cell?, h]
 | 3, hj => cases hj; simp [World.cell?, h]
 | 4, hj => cases hj; simp [World.cell?, h]
 | 5, hj => cases hj; simp [World.cell?, h]
 | 6, hj => cases hj; simp [World.cell?, h]
 | 7, hj => cases hj; simp [World.cell?, h]
 | 8, hj => cases hj; simp [World.cell?, h]
 | 9, hj => cases hj; simp [World.cell?, h]
 | j + 10, hj => simp at hj
theorem infoLim : (Tryz.prog.info? 178).map (fun i => (i.zero, i.size, i.bytes)) = some (some (.agg #[.int .i64 0, .int .i64 0, .int .i64 0]), 3, 24) := by kernel_rfl
theorem run_lims (W : World) (c0 c1 c2 c3 c4 c5 c6 c7 c8 c9 : Array Value) (h0 : c0.size = 3) (h1 : c1.size = 3) (h2 : c2.size = 3) (h3 : c3.size = 3) (h4 : c4.size = 3) (h5 : c5.size = 3) (h6 : c6.size = 3) (h7 : c7.size = 3) (h8 : c8.size = 3) (h9 : c9.size = 3) :
 (Instr.buildSlice 205 10 #[(0, .agg c0), (1, .agg c1), (2, .agg c2), (3, .agg c3), (4, .agg c4), (5, .agg c5), (6, .agg c6), (7, .agg c7), (8, .agg c8), (9, .agg c9)]).run Tryz.prog W = .ok (.slice (some ⟨W.heap.size, 0, none⟩) 10 10) (W.alloc (.cells ([c0, c1, c2, c3, c4, c5, c6, c7, c8, c9].flatMap Array.toList).toArray 178)) := by
 obtain ⟨i0, hi, hz0, hz1, hz2⟩ := info_parts infoLim
 refine run_buildSlice W 205 178 10 _ _ i0 _ Tryz.underlying205 hi hz0 (by rw [hz1]; decide) (by rw [hz1]; decide) ?_
 rw [hz1]
 have hfw := Great.fill_whole (s := 3) (by decide) [.agg c0, .agg c1, .agg c2, .agg c3, .agg c4, .agg c5, .agg c6, .agg c7, .agg c8, .agg c9] ((Array.range (10 * 3)).map ((Value.agg #[.int .i64 0, .int .i64 0, .int .i64 0]).cells[· % (Value.agg #[.int .i64 0, .int .i64 0, .int .i64 0]).cells.size]!)) (by
  intro v hv
  simp only [List.mem_cons, List.not_mem_nil, or_false] at hv
  rcases hv with rfl | rfl | rfl | rfl | rfl | rfl | rfl | rfl | rfl | rfl <;> first | exact h0 | exact h1 | exact h2 | exact h3 | exact h4 | exact h5 | exact h6 | exact h7 | exact h8 | exact h9) (by simp)
 exact hfw
set_option maxRecDepth 100000 in
set_option maxHeartbeats 2000000 in
theorem atCheck_any (a : Pa) (w : World) (hn : a.num) : Calls Tryz.prog 83 #[.agg a.vs.toArray] w fun e w' => e = .returned (.int .i64 (if okPa a then 0 else 14)) ∧ Below w.heap.size w w' := by
 obtain ⟨a0, a1, a2, a3, a4, a5, a6, a7, a8, a9⟩ := a
 show Calls Tryz.prog 83 #[.agg #[.int .i64 a0, .int .i64 a1, .int .i64 a2, .int .i64 a3, .int .i64 a4, .int .i64 a5, .int .i64 a6, .int .i64 a7, .int .i64 a8, .int .i64 a9]] w _
 obtain ⟨ls, hls⟩ : ∃ ls : List Li, ls = [⟨a0, 1, 7⟩, ⟨a1, 0, 4095⟩, ⟨a2, 0, 4294967295⟩, ⟨a3, 0, 4294967295⟩, ⟨a4, 0, 4294967295⟩, ⟨a5, 0, 9223372036854775807⟩, ⟨a6, 0, 4294967295⟩, ⟨a7, 0, 9223372036854775807⟩, ⟨a8, 0, 9223372036854775807⟩, ⟨a9, 0, 9223372036854775807⟩] := ⟨_, rfl⟩
 have hz : ls.length = 10 := by rw [hls]; rfl
 have ha : ls.any Li.out = !okPa ⟨a0, a1, a2, a3, a4, a5, a6, a7, a8, a9⟩ := by
  rw [hls, Bool.eq_iff_iff]
  simp only [List.any_cons, List.any_nil, Li.out, okPa, okIn, Bool.or_eq_true, Bool.not_eq_true', Bool.and_eq_false_iff, decide_eq_true_eq, decide_eq_false_iff_not, Bool.false_eq_true, or_false, gt_iff_lt, Int.not_le]
  simp only [Pa.num, i64] at hn
  omega
 obtain ⟨r, hr⟩ : ∃ r : Int, r = if okPa ⟨a0, a1, a2, a3, a4, a5, a6, a7, a8, a9⟩ then 0 else 14 := ⟨_, rfl⟩
 rw [← hr]
 have hr2 : (if ls.any Li.out then (14 : Int) else 0) = r := by rw [ha, hr]; cases okPa ⟨a0, a1, a2, a3, a4, a5, a6, a7, a8, a9⟩ <;> rfl
 have HLI := fun b c W hb h => ainLimits_any b c ls W (by rw [hz]; decide) hb h
 rw [hz, hr2] at HLI
 obtain ⟨w2, hw2⟩ : ∃ w2, w2 = (w.alloc (.cells #[.int .i64 a0, .int .i64 a1, .int .i64 a2, .int .i64 a3, .int .i64 a4, .int .i64 a5, .int .i64 a6, .int .i64 a7, .int .i64 a8, .int .i64 a9] 38 (0, 0))).alloc (.cells #[.int .i64 a0, .int .i64 1, .int .i64 7, .int .i64 a1, .int .i64 0, .int .i64 4095, .int .i64 a2, .int .i64 0, .int .i64 4294967295, .int .i64 a3, .int .i64 0, .int .i64 4294967295, .int .i64 a4, .int .i64 0, .int .i64 4294967295, .int .i64 a5, .int .i64 0, .int .i64 9223372036854775807, .int .i64 a6, .int .i64 0, .int .i64 4294967295, .int .i64 a7, .int .i64 0, .int .i64 9223372036854775807, .int .i64 a8, .int .i64 0, .int .i64 9223372036854775807, .int .i64 a9, .int .i64 0, .int .i64 9223372036854775807] 178 (0, 0)) := ⟨_, rfl⟩
 have hst : St 178 (w.heap.size + 1) #[.int .i64 a0, .int .i64 1, .int .i64 7, .int .i64 a1, .int .i64 0, .int .i64 4095, .int .i64 a2, .int .i64 0, .int .i64 4294967295, .int .i64 a3, .int .i64 0, .int .i64 4294967295, .int .i64 a4, .int .i64 0, .int .i64 4294967295, .int .i64 a5, .int .i64 0, .int .i64 9223372036854775807, .int .i64 a6, .int .i64 0, .int .i64 4294967295, .int .i64 a7, .int .i64 0, .int .i64 9223372036854775807, .int .i64 a8, .int .i64 0, .int .i64 9223372036854775807, .int .i64 a9, .int .i64 0, .int .i64 9223372036854775807] w2 := by rw [hw2]; exact St.new2l w _ _ _
 have HC := hI (HLI (w.heap.size + 1) 10 w2 hst.lt (hls ▸ lis10 (a0 := a0) (a1 := a1) (a2 := a2) (a3 := a3) (a4 := a4) (a5 := a5) (a6 := a6) (a7 := a7) (a8 := a8) (a9 := a9) hst))
 have HW2 := hI hw2
 have HB2 := hI (show Below w.heap.size w w2 from by rw [hw2]; exact below_alloc2 w _ _)
 clear hls hz ha hr hr2 HLI hn hst hw2
 go_enter Tryz.func83, Tryz.ntmps83
 go_wp2_with (first | ((with_reducible show wpList _ _ _ ({ dst := _, op := .buildSlice _ _ _, type := _, pos := _, after := _, guard := _ } :: _) _ _); refine wpList_buildSlice_as rfl 205 178 10 _ rfl #[(0, .agg #[.int .i64 a0, .int .i64 1, .int .i64 7]), (1, .agg #[.int .i64 a1, .int .i64 0, .int .i64 4095]), (2, .agg #[.int .i64 a2, .int .i64 0, .int .i64 4294967295]), (3, .agg #[.int .i64 a3, .int .i64 0, .int .i64 4294967295]), (4, .agg #[.int .i64 a4, .int .i64 0, .int .i64 4294967295]), (5, .agg #[.int .i64 a5, .int .i64 0, .int .i64 9223372036854775807]), (6, .agg #[.int .i64 a6, .int .i64 0, .int .i64 4294967295]), (7, .agg #[.int .i64 a7, .int .i64 0, .int .i64 9223372036854775807]), (8, .agg #[.int .i64 a8, .int .i64 0, .int .i64 9223372036854775807]), (9, .agg #[.int .i64 a9, .int .i64 0, .int .i64 9223372036854775807])] #[.int .i64 a0, .int .i64 1, .int .i64 7, .int .i64 a1, .int .i64 0, .int .i64 4095, .int .i64 a2, .int .i64 0, .int .i64 4294967295, .int .i64 a3, .int .i64 0, .int .i64 4294967295, .int .i64 a4, .int .i64 0, .int .i64 4294967295, .int .i64 a5, .int .i64 0, .int .i64 9223372036854775807, .int .i64 a6, .int .i64 0, .int .i64 4294967295, .int .i64 a7, .int .i64 0, .int .i64 9223372036854775807, .int .i64 a8, .int .i64 0, .int .i64 9223372036854775807, .int .i64 a9, .int .i64 0, .int .i64 9223372036854775807] (by rfl) (fun W => run_lims W #[.int .i64 a0, .int .i64 1, .int .i64 7] #[.int .i64 a1, .int .i64 0, .int .i64 4095] #[.int .i64 a2, .int .i64 0, .int .i64 4294967295] #[.int .i64 a3, .int .i64 0, .int .i64 4294967295] #[.int .i64 a4, .int .i64 0, .int .i64 4294967295] #[.int .i64 a5, .int .i64 0, .int .i64 9223372036854775807] #[.int .i64 a6, .int .i64 0, .int .i64 4294967295] #[.int .i64 a7, .int .i64 0, .int .i64 9223372036854775807] #[.int .i64 a8, .int .i64 0, .int .i64 9223372036854775807] #[.int .i64 a9, .int .i64 0, .int .i64 9223372036854775807] rfl rfl rfl rfl rfl rfl rfl rfl rfl rfl) ?_; rw [show (w.alloc (.cells #[.int .i64 a0, .int .i64 a1, .int .i64 a2, .int .i64 a3, .int .i64 a4, .int .i64 a5, .int .i64 a6, .int .i64 a7, .int .i64 a8, .int .i64 a9] 38 (0, 0))).alloc (.cells #[.int .i64 a0, .int .i64 1, .int .i64 7, .int .i64 a1, .int .i64 0, .int .i64 4095, .int .i64 a2, .int .i64 0, .int .i64 4294967295, .int .i64 a3, .int .i64 0, .int .i64 4294967295, .int .i64 a4, .int .i64 0, .int .i64 4294967295, .int .i64 a5, .int .i64 0, .int .i64 9223372036854775807, .int .i64 a6, .int .i64 0, .int .i64 4294967295, .int .i64 a7, .int .i64 0, .int .i64 9223372036854775807, .int .i64 a8, .int .i64 0, .int .i64 9223372036854775807, .int .i64 a9, .int .i64 0, .int .i64 9223372036854775807] 178 (0, 0)) = w2 from HW2.out.symm]) | ((with_reducible refine HC.out.mono ?_); rintro e w9 ⟨rfl, hb⟩; have HB9 := hI (HB2.out.trans (hb.mono HB2.out.size)); clear hb))
 go_ret
 exact ⟨rfl, HB9.out⟩
set_option maxRecDepth 100000 in
set_option maxHeartbeats 1000000 in
theorem recC2_st (k g o : Nat) (cs : Array Value) (n : Int) (least most : Int) (b : Bool) (w : World) (hkg : k ≠ g) (h1 : St 40 k cs w) (hc : cs[o]? = some (.int .i64 n)) (h2 : St 4 g #[.bool b] w) :
 Calls Tryz.prog 79 #[.pointer (some ⟨k, o, none⟩), .int .i64 least, .int .i64 most, .pointer (some ⟨g, 0, none⟩)] w fun e w' => e = .returned (.tuple #[]) ∧ St 40 k (cs.setIfInBounds o (.int .i64 0)) w' ∧ St 4 g #[.bool (b && (decide (least ≤ n) && decide (n ≤ most)))] w' ∧ Frm (fun j => j = k ∨ j = g) w w' := by
 have c1 : w.cell? ⟨k, o, none⟩ = some (.int .i64 n) := h1.cell hc
 have c2 : w.cell? ⟨g, 0, none⟩ = some (.bool b) := h2.cell rfl
 have f1 := h1.free o
 have f2 := h2.free 0
 obtain ⟨c, hcc⟩ : ∃ c, c = (b && (decide (least ≤ n) && decide (n ≤ most))) := ⟨_, rfl⟩
 rw [← hcc]
 have HC := hI hcc
 have KEY := hI (show ∀ b' : Bool, b' = c → (St 40 k (cs.setIfInBounds o (.int .i64 0)) ((w.setCell ⟨g, 0, none⟩ (.bool b')).setCell ⟨k, o, none⟩ (.int .i64 0)) ∧ St 4 g #[.bool c] ((w.setCell ⟨g, 0, none⟩ (.bool b')).setCell ⟨k, o, none⟩ (.int .i64 0)) ∧ Frm (fun j => j = k ∨ j = g) w ((w.setCell ⟨g, 0, none⟩ (.bool b')).setCell ⟨k, o, none⟩ (.int .i64 0))) from fun b' hb' => by
  subst hb'
  refine ⟨(h1.other g 0 _ hkg.symm).set o (.int .i64 0), (h2.set 0 (.bool b')).other k o _ hkg, ?_⟩
  exact Frm.setCell (F := fun j => j = k ∨ j = g) (Frm.setCell (F := fun j => j = k ∨ j = g) (Frm.refl _ _) (.inl (.inr rfl)) _) (.inl (.inl rfl)) _)
 clear h1 h2 hc hcc
 cases b with
 | false =>
  go_enter Tryz.func79, Tryz.ntmps79
  go_wp2
  go_end0
  refine ⟨rfl, KEY.out _ ?_⟩
  rw [HC.out]; rfl
 | true =>
  by_cases q1 : least ≤ n
  · have dq1 := decide_eq_true q1
    by_cases q2 : n ≤ most
    · have dq2 := decide_eq_true q2
      go_enter Tryz.func79, Tryz.ntmps79
      go_wp2
      go_end0
      refine ⟨rfl, KEY.out _ ?_⟩
      rw [HC.out, dq1, dq2]; rfl
    · have dq2 := decide_eq_false q2
      go_enter Tryz.func79, Tryz.ntmps79
      go_wp2
      go_end0
      refine ⟨rfl, KEY.out _ ?_⟩
      rw [HC.out, dq1, dq2]; rfl
  · have dq1 := decide_eq_false q1
    go_enter Tryz.func79, Tryz.ntmps79
    go_wp2
    go_end0
    refine ⟨rfl, KEY.out _ ?_⟩
    rw [HC.out, dq1]; rfl
set_option maxRecDepth 100000 in
set_option maxHeartbeats 1000000 in
theorem recC3_st (k g o : Nat) (cs : Array Value) (n : Int) (least : Int) (b : Bool) (w : World) (hkg : k ≠ g) (h1 : St 40 k cs w) (hc : cs[o]? = some (.int .i64 n)) (h2 : St 4 g #[.bool b] w) :
 Calls Tryz.prog 80 #[.pointer (some ⟨k, o, none⟩), .int .i64 least, .pointer (some ⟨g, 0, none⟩)] w fun e w' => e = .returned (.tuple #[]) ∧ St 40 k (cs.setIfInBounds o (.int .i64 0)) w' ∧ St 4 g #[.bool (b && (decide (least ≤ n)))] w' ∧ Frm (fun j => j = k ∨ j = g) w w' := by
 have c1 : w.cell? ⟨k, o, none⟩ = some (.int .i64 n) := h1.cell hc
 have c2 : w.cell? ⟨g, 0, none⟩ = some (.bool b) := h2.cell rfl
 have f1 := h1.free o
 have f2 := h2.free 0
 obtain ⟨c, hcc⟩ : ∃ c, c = (b && (decide (least ≤ n))) := ⟨_, rfl⟩
 rw [← hcc]
 have HC := hI hcc
 have KEY := hI (show ∀ b' : Bool, b' = c → (St 40 k (cs.setIfInBounds o (.int .i64 0)) ((w.setCell ⟨g, 0, none⟩ (.bool b')).setCell ⟨k, o, none⟩ (.int .i64 0)) ∧ St 4 g #[.bool c] ((w.setCell ⟨g, 0, none⟩ (.bool b')).setCell ⟨k, o, none⟩ (.int .i64 0)) ∧ Frm (fun j => j = k ∨ j = g) w ((w.setCell ⟨g, 0, none⟩ (.bool b')).setCell ⟨k, o, none⟩ (.int .i64 0))) from fun b' hb' => by
  subst hb'
  refine ⟨(h1.other g 0 _ hkg.symm).set o (.int .i64 0), (h2.set 0 (.bool b')).other k o _ hkg, ?_⟩
  exact Frm.setCell (F := fun j => j = k ∨ j = g) (Frm.setCell (F := fun j => j = k ∨ j = g) (Frm.refl _ _) (.inl (.inr rfl)) _) (.inl (.inl rfl)) _)
 clear h1 h2 hc hcc
 cases b with
 | false =>
  go_enter Tryz.func80, Tryz.ntmps80
  go_wp2
  go_end0
  refine ⟨rfl, KEY.out _ ?_⟩
  rw [HC.out]; rfl
 | true =>
  by_cases q1 : least ≤ n
  · have dq1 := decide_eq_true q1
    go_enter Tryz.func80, Tryz.ntmps80
    go_wp2
    go_end0
    refine ⟨rfl, KEY.out _ ?_⟩
    rw [HC.out, dq1]; rfl
  · have dq1 := decide_eq_false q1
    go_enter Tryz.func80, Tryz.ntmps80
    go_wp2
    go_end0
    refine ⟨rfl, KEY.out _ ?_⟩
    rw [HC.out, dq1]; rfl
set_option maxRecDepth 100000 in
set_option maxHeartbeats 1000000 in
theorem recC4_stg (k g o : Nat) (cs : Array Value) (s : ByteArray) (least most : Int) (b : Bool) (w : World) (hkg : k ≠ g) (h1 : St 40 k cs w) (hc : cs[o]? = some (.string s)) (h2 : St 4 g #[.bool b] w) :
 Calls Tryz.prog 81 #[.pointer (some ⟨k, o, none⟩), .int .i64 least, .int .i64 most, .pointer (some ⟨g, 0, none⟩)] w fun e w' => e = .returned (.tuple #[]) ∧ St 40 k (cs.setIfInBounds o (.string ⟨#[]⟩)) w' ∧ St 4 g #[.bool (b && (decide (least ≤ (s.size : Int)) && decide ((s.size : Int) ≤ most)))] w' ∧ Frm (fun j => j = k ∨ j = g) w w' := by
 have c1 : w.cell? ⟨k, o, none⟩ = some (.string s) := h1.cell hc
 have c2 : w.cell? ⟨g, 0, none⟩ = some (.bool b) := h2.cell rfl
 have f1 := h1.free o
 have f2 := h2.free 0
 obtain ⟨c, hcc⟩ : ∃ c, c = (b && (decide (least ≤ (s.size : Int)) && decide ((s.size : Int) ≤ most))) := ⟨_, rfl⟩
 rw [← hcc]
 have HC := hI hcc
 have KEY := hI (show ∀ b' : Bool, b' = c → (St 40 k (cs.setIfInBounds o (.string ⟨#[]⟩)) ((w.setCell ⟨g, 0, none⟩ (.bool b')).setCell ⟨k, o, none⟩ (.string ⟨#[]⟩)) ∧ St 4 g #[.bool c] ((w.setCell ⟨g, 0, none⟩ (.bool b')).setCell ⟨k, o, none⟩ (.string ⟨#[]⟩)) ∧ Frm (fun j => j = k ∨ j = g) w ((w.setCell ⟨g, 0, none⟩ (.bool b')).setCell ⟨k, o, none⟩ (.string ⟨#[]⟩))) from fun b' hb' => by
  subst hb'
  refine ⟨(h1.other g 0 _ hkg.symm).set o (.string ⟨#[]⟩), (h2.set 0 (.bool b')).other k o _ hkg, ?_⟩
  exact Frm.setCell (F := fun j => j = k ∨ j = g) (Frm.setCell (F := fun j => j = k ∨ j = g) (Frm.refl _ _) (.inl (.inr rfl)) _) (.inl (.inl rfl)) _)
 clear h1 h2 hc hcc
 cases b with
 | false =>
  go_enter Tryz.func81, Tryz.ntmps81
  go_wp2
  go_end0
  refine ⟨rfl, KEY.out _ ?_⟩
  rw [HC.out]; rfl
 | true =>
  by_cases q1 : least ≤ (s.size : Int)
  · have dq1 := decide_eq_true q1
    by_cases q2 : (s.size : Int) ≤ most
    · have dq2 := decide_eq_true q2
      go_enter Tryz.func81, Tryz.ntmps81
      go_wp2
      go_end0
      refine ⟨rfl, KEY.out _ ?_⟩
      rw [HC.out, dq1, dq2]; rfl
    · have dq2 := decide_eq_false q2
      go_enter Tryz.func81, Tryz.ntmps81
      go_wp2
      go_end0
      refine ⟨rfl, KEY.out _ ?_⟩
      rw [HC.out, dq1, dq2]; rfl
  · have dq1 := decide_eq_false q1
    go_enter Tryz.func81, Tryz.ntmps81
    go_wp2
    go_end0
    refine ⟨rfl, KEY.out _ ?_⟩
    rw [HC.out, dq1]; rfl
set_option maxRecDepth 100000 in
set_option maxHeartbeats 2000000 in
theorem recC5_st (k g : Nat) (x : Ch) (b : Bool) (w : World) (hkg : k ≠ g) (hn : x.attr.num) (h1 : St 40 k x.vs.toArray w) (h2 : St 4 g #[.bool b] w) :
 Calls Tryz.prog 82 #[.pointer (some ⟨k, 6, none⟩), .pointer (some ⟨g, 0, none⟩)] w fun e w' => e = .returned (.tuple #[]) ∧ St 40 k ({ x with attr := Pa.zero } : Ch).vs.toArray w' ∧ St 4 g #[.bool (b && okPa x.attr)] w' ∧ Frm (fun j => j = k ∨ j = g) w w' := by
 have HC := hI (fun W => atCheck_any x.attr W hn)
 obtain ⟨y0, y1, y2, y3, y4, y5, ⟨a0, a1, a2, a3, a4, a5, a6, a7, a8, a9⟩, y7, y8⟩ := x
 obtain ⟨f, hf⟩ : ∃ f, f = okPa ⟨a0, a1, a2, a3, a4, a5, a6, a7, a8, a9⟩ := ⟨_, rfl⟩
 have HC := hI (show ∀ W, Calls Tryz.prog 83 #[.agg #[.int .i64 a0, .int .i64 a1, .int .i64 a2, .int .i64 a3, .int .i64 a4, .int .i64 a5, .int .i64 a6, .int .i64 a7, .int .i64 a8, .int .i64 a9]] W fun e w' => e = .returned (.int .i64 (if f then 0 else 14)) ∧ Below W.heap.size W w' from fun W => by rw [hf]; exact HC.out W)
 obtain ⟨c, hcc⟩ : ∃ c, c = (b && okPa ⟨a0, a1, a2, a3, a4, a5, a6, a7, a8, a9⟩) := ⟨_, rfl⟩
 dsimp only
 rw [← hcc]
 have HCC := hI (show c = (b && f) from by rw [hcc, hf])
 have c2 : w.cell? ⟨g, 0, none⟩ = some (.bool b) := h2.cell rfl
 have k0 : w.cell? ⟨k, 6, none⟩ = some (.int .i64 a0) := h1.cell rfl
 have k1 : w.cell? ⟨k, 7, none⟩ = some (.int .i64 a1) := h1.cell rfl
 have k2 : w.cell? ⟨k, 8, none⟩ = some (.int .i64 a2) := h1.cell rfl
 have k3 : w.cell? ⟨k, 9, none⟩ = some (.int .i64 a3) := h1.cell rfl
 have k4 : w.cell? ⟨k, 10, none⟩ = some (.int .i64 a4) := h1.cell rfl
 have k5 : w.cell? ⟨k, 11, none⟩ = some (.int .i64 a5) := h1.cell rfl
 have k6 : w.cell? ⟨k, 12, none⟩ = some (.int .i64 a6) := h1.cell rfl
 have k7 : w.cell? ⟨k, 13, none⟩ = some (.int .i64 a7) := h1.cell rfl
 have k8 : w.cell? ⟨k, 14, none⟩ = some (.int .i64 a8) := h1.cell rfl
 have k9 : w.cell? ⟨k, 15, none⟩ = some (.int .i64 a9) := h1.cell rfl
 have f2 := h2.free 0
 have F1 := hI h1
 have F2 := hI h2
 have KEY := hI (show ∀ (b' : Bool) (W : World), b' = c → Below w.heap.size w W → (St 40 k ({ kind := y0, epoch := y1, serial := y2, up := y3, name := y4, child := y5, attr := Pa.zero, no := y7, slot := y8 } : Ch).vs.toArray ((W.setCell ⟨g, 0, none⟩ (.bool b')).setCells k 6 Pa.zero.vs) ∧ St 4 g #[.bool c] ((W.setCell ⟨g, 0, none⟩ (.bool b')).setCells k 6 Pa.zero.vs) ∧ Frm (fun j => j = k ∨ j = g) w ((W.setCell ⟨g, 0, none⟩ (.bool b')).setCells k 6 Pa.zero.vs)) from fun b' W hb' hW => by
  subst hb'
  have a1 := (h1.below hW).other g 0 (.bool b') hkg.symm
  have a2 := (h2.below hW).set 0 (.bool b')
  have fr : Frm (fun j => j = k) (W.setCell ⟨g, 0, none⟩ (.bool b')) ((W.setCell ⟨g, 0, none⟩ (.bool b')).setCells k 6 Pa.zero.vs) := Frm.cells' (F := fun j => j = k) (g := k) (.inl rfl) _ _ _ (Frm.refl _ _)
  refine ⟨St.cells Pa.zero.vs 6 _ _ a1 (by show 6 + 10 ≤ 18; decide), fr.st a2 hkg.symm, ?_⟩
  exact (Frm.setCell (F := fun j => j = k ∨ j = g) (Frm.of_below hW) (.inl (.inr rfl)) _).next (fr.wide fun j e => .inl e))
 have TH := hI (show ∀ (b' : Bool) (W : World), Below w.heap.size w W → (W.setCell ⟨g, 0, none⟩ (.bool b')).there k 6 10 from fun b' W hW => by
  have a1 := (h1.below hW).other g 0 (.bool b') hkg.symm
  intro j hj
  refine ⟨?_, a1.free _⟩
  rw [a1.cell (j := 6 + j) (by rw [List.getElem?_toArray, List.getElem?_eq_getElem (by show 6 + j < 18; omega)])]
  rfl)
 have HQ := hI (show ∀ W, Below w.heap.size w W → W.frozen? ⟨g, 0, none⟩ = false ∧ W.cell? ⟨g, 0, none⟩ = some (.bool b) from fun W hW => ⟨(h2.below hW).free 0, (h2.below hW).cell rfl⟩)
 clear h1 h2 hcc hf
 cases b with
 | false =>
  go_enter Tryz.func82, Tryz.ntmps82
  go_wp2_with ((with_reducible show wpList _ _ _ ({ dst := _, op := .store 38 _ _, type := _, pos := _, after := _, guard := _ } :: _) _ _); refine wpList_store_mid rfl 38 _ _ rfl k 6 Pa.zero.vs.toArray (by first | (simp [Act.eval]; done) | (simp [Act.eval]; rfl)) (by first | (simp [Act.eval]; done) | (simp [Act.eval]; rfl)) (TH.out _ w (Below.refl _ _)) (by kernel_rfl) (by kernel_rfl) ?_)
  go_end0
  exact ⟨rfl, KEY.out _ w (by rw [HCC.out]; rfl) (Below.refl _ _)⟩
 | true =>
  cases f with
  | false =>
   go_enter Tryz.func82, Tryz.ntmps82
   go_wp2_with (first | ((with_reducible refine (HC.out _).mono ?_); rintro e w9 ⟨rfl, hb⟩; obtain ⟨q1, q2⟩ := HQ.out w9 hb; have B9 := hI hb; clear hb) | ((with_reducible show wpList _ _ _ ({ dst := _, op := .store 38 _ _, type := _, pos := _, after := _, guard := _ } :: _) _ _); refine wpList_store_mid rfl 38 _ _ rfl k 6 Pa.zero.vs.toArray (by first | (simp [Act.eval]; done) | (simp [Act.eval]; rfl)) (by first | (simp [Act.eval]; done) | (simp [Act.eval]; rfl)) (TH.out _ w9 B9.out) (by kernel_rfl) (by kernel_rfl) ?_))
   go_end0
   exact ⟨rfl, KEY.out _ w9 (by rw [HCC.out]; rfl) B9.out⟩
  | true =>
   go_enter Tryz.func82, Tryz.ntmps82
   go_wp2_with (first | ((with_reducible refine (HC.out _).mono ?_); rintro e w9 ⟨rfl, hb⟩; obtain ⟨q1, q2⟩ := HQ.out w9 hb; have B9 := hI hb; clear hb) | ((with_reducible show wpList _ _ _ ({ dst := _, op := .store 38 _ _, type := _, pos := _, after := _, guard := _ } :: _) _ _); refine wpList_store_mid rfl 38 _ _ rfl k 6 Pa.zero.vs.toArray (by first | (simp [Act.eval]; done) | (simp [Act.eval]; rfl)) (by first | (simp [Act.eval]; done) | (simp [Act.eval]; rfl)) (TH.out _ w9 B9.out) (by kernel_rfl) (by kernel_rfl) ?_))
   go_end0
   exact ⟨rfl, KEY.out _ w9 (by rw [HCC.out]; rfl) B9.out⟩
structure VL (k g cb : Nat) (x : Ch) (b : Bool) (w W : World) : Prop where
 ch : St 40 k x.vs.toArray W
 ok : St 4 g #[.bool b] W
 cod : St 124 cb (lookFn g) W
 fr : Frm (fun j => j = k ∨ j = g) w W
 ne : k ≠ g ∧ cb ≠ k ∧ cb ≠ g
theorem VL.drew {k g cb : Nat} {x : Ch} {b : Bool} {w W : World} (h : VL k g cb x b w W) : VL k g cb x b w W.drew := ⟨h.ch, h.ok, h.cod, h.fr.drew, h.ne⟩
theorem VL.next {k g cb : Nat} {x y : Ch} {b c : Bool} {w W W' : World} (h : VL k g cb x b w W) (h1 : St 40 k y.vs.toArray W') (h2 : St 4 g #[.bool c] W') (hf : Frm (fun j => j = k ∨ j = g) W W') : VL k g cb y c w W' :=
 ⟨h1, h2, hf.st h.cod (fun e => by rcases e with e | e; exact h.ne.2.1 e; exact h.ne.2.2 e), h.fr.next hf, h.ne⟩
theorem VL.e_ {k g cb : Nat} {x : Ch} {b : Bool} {w W : World} (h : VL k g cb x b w W) : Calls Tryz.prog 79 #[.pointer (some ⟨k, 1, none⟩), .int .i64 1, .int .i64 4294967295, .pointer (some ⟨g, 0, none⟩)] W fun e w' => e = .returned (.tuple #[]) ∧ VL k g cb { x with epoch := 0 } (b && (decide (1 ≤ x.epoch) && decide (x.epoch ≤ 4294967295))) w w' :=
 (recC2_st k g 1 x.vs.toArray x.epoch 1 4294967295 b W h.ne.1 h.ch rfl h.ok).mono fun _ _ ⟨he, h1, h2, h3⟩ => ⟨he, h.next h1 h2 h3⟩
theorem VL.s_ {k g cb : Nat} {x : Ch} {b : Bool} {w W : World} (h : VL k g cb x b w W) : Calls Tryz.prog 80 #[.pointer (some ⟨k, 2, none⟩), .int .i64 1, .pointer (some ⟨g, 0, none⟩)] W fun e w' => e = .returned (.tuple #[]) ∧ VL k g cb { x with serial := 0 } (b && (decide (1 ≤ x.serial))) w w' :=
 (recC3_st k g 2 x.vs.toArray x.serial 1 b W h.ne.1 h.ch rfl h.ok).mono fun _ _ ⟨he, h1, h2, h3⟩ => ⟨he, h.next h1 h2 h3⟩
theorem VL.u_ {k g cb : Nat} {x : Ch} {b : Bool} {w W : World} (h : VL k g cb x b w W) : Calls Tryz.prog 81 #[.pointer (some ⟨k, 3, none⟩), .int .i64 1, .int .i64 64, .pointer (some ⟨g, 0, none⟩)] W fun e w' => e = .returned (.tuple #[]) ∧ VL k g cb { x with up := ⟨#[]⟩ } (b && (decide (1 ≤ (x.up.size : Int)) && decide ((x.up.size : Int) ≤ 64))) w w' :=
 (recC4_stg k g 3 x.vs.toArray x.up 1 64 b W h.ne.1 h.ch rfl h.ok).mono fun _ _ ⟨he, h1, h2, h3⟩ => ⟨he, h.next h1 h2 h3⟩
theorem VL.n_ {k g cb : Nat} {x : Ch} {b : Bool} {w W : World} (h : VL k g cb x b w W) : Calls Tryz.prog 81 #[.pointer (some ⟨k, 4, none⟩), .int .i64 1, .int .i64 255, .pointer (some ⟨g, 0, none⟩)] W fun e w' => e = .returned (.tuple #[]) ∧ VL k g cb { x with name := ⟨#[]⟩ } (b && (decide (1 ≤ (x.name.size : Int)) && decide ((x.name.size : Int) ≤ 255))) w w' :=
 (recC4_stg k g 4 x.vs.toArray x.name 1 255 b W h.ne.1 h.ch rfl h.ok).mono fun _ _ ⟨he, h1, h2, h3⟩ => ⟨he, h.next h1 h2 h3⟩
theorem VL.c_ {k g cb : Nat} {x : Ch} {b : Bool} {w W : World} (h : VL k g cb x b w W) : Calls Tryz.prog 81 #[.pointer (some ⟨k, 5, none⟩), .int .i64 0, .int .i64 64, .pointer (some ⟨g, 0, none⟩)] W fun e w' => e = .returned (.tuple #[]) ∧ VL k g cb { x with child := ⟨#[]⟩ } (b && (decide (0 ≤ (x.child.size : Int)) && decide ((x.child.size : Int) ≤ 64))) w w' :=
 (recC4_stg k g 5 x.vs.toArray x.child 0 64 b W h.ne.1 h.ch rfl h.ok).mono fun _ _ ⟨he, h1, h2, h3⟩ => ⟨he, h.next h1 h2 h3⟩
theorem VL.a_ {k g cb : Nat} {x : Ch} {b : Bool} {w W : World} (h : VL k g cb x b w W) (hn : x.attr.num) : Calls Tryz.prog 82 #[.pointer (some ⟨k, 6, none⟩), .pointer (some ⟨g, 0, none⟩)] W fun e w' => e = .returned (.tuple #[]) ∧ VL k g cb { x with attr := Pa.zero } (b && okPa x.attr) w w' :=
 (recC5_st k g x b W h.ne.1 hn h.ch h.ok).mono fun _ _ ⟨he, h1, h2, h3⟩ => ⟨he, h.next h1 h2 h3⟩
theorem VL.b_ {k g cb : Nat} {x : Ch} {b : Bool} {w W : World} (h : VL k g cb x b w W) : Calls Tryz.prog 79 #[.pointer (some ⟨k, 16, none⟩), .int .i64 0, .int .i64 65535, .pointer (some ⟨g, 0, none⟩)] W fun e w' => e = .returned (.tuple #[]) ∧ VL k g cb { x with no := 0 } (b && (decide (0 ≤ x.no) && decide (x.no ≤ 65535))) w w' :=
 (recC2_st k g 16 x.vs.toArray x.no 0 65535 b W h.ne.1 h.ch rfl h.ok).mono fun _ _ ⟨he, h1, h2, h3⟩ => ⟨he, h.next h1 h2 h3⟩
theorem VL.t_ {k g cb : Nat} {x : Ch} {b : Bool} {w W : World} (h : VL k g cb x b w W) : Calls Tryz.prog 79 #[.pointer (some ⟨k, 17, none⟩), .int .i64 0, .int .i64 65535, .pointer (some ⟨g, 0, none⟩)] W fun e w' => e = .returned (.tuple #[]) ∧ VL k g cb { x with slot := 0 } (b && (decide (0 ≤ x.slot) && decide (x.slot ≤ 65535))) w w' :=
 (recC2_st k g 17 x.vs.toArray x.slot 0 65535 b W h.ne.1 h.ch rfl h.ok).mono fun _ _ ⟨he, h1, h2, h3⟩ => ⟨he, h.next h1 h2 h3⟩
set_option maxRecDepth 100000 in
set_option maxHeartbeats 2000000 in
theorem visit_1 (k g : Nat) (x : Ch) (w : World) (hk : x.kind = 1) (hn : x.attr.num) (hkg : k ≠ g) (h1 : St 40 k x.vs.toArray w) (h2 : St 4 g #[.bool true] w) :
 Calls Tryz.prog 77 #[.slice (some ⟨k, 0, none⟩) 1 1, .agg #[.func (.func 78) #[] #[], .func (.func 79) #[] #[.pointer (some ⟨g, 0, none⟩)], .func (.func 80) #[] #[.pointer (some ⟨g, 0, none⟩)], .func (.func 81) #[] #[.pointer (some ⟨g, 0, none⟩)], .func (.func 82) #[] #[.pointer (some ⟨g, 0, none⟩)]]] w
  fun e w' => e = .returned (.bool true) ∧ St 40 k ({ x with epoch := 0, serial := 0, up := ⟨#[]⟩ } : Ch).vs.toArray w' ∧ St 4 g #[.bool (((true && (decide (1 ≤ x.epoch) && decide (x.epoch ≤ 4294967295))) && (decide (1 ≤ x.serial))) && (decide (1 ≤ (x.up.size : Int)) && decide ((x.up.size : Int) ≤ 64)))] w' ∧ Frm (fun j => j = k ∨ j = g) w w' := by
 obtain ⟨W0, hW0⟩ : ∃ W0, W0 = w.alloc (.cells #[.func (.func 78) #[] #[], .func (.func 79) #[] #[.pointer (some ⟨g, 0, none⟩)], .func (.func 80) #[] #[.pointer (some ⟨g, 0, none⟩)], .func (.func 81) #[] #[.pointer (some ⟨g, 0, none⟩)], .func (.func 82) #[] #[.pointer (some ⟨g, 0, none⟩)]] 124 (0, 0)) := ⟨_, rfl⟩
 obtain ⟨cb, hcb⟩ : ∃ cb, cb = w.heap.size := ⟨_, rfl⟩
 have lk := h1.lt
 have lg := h2.lt
 have v0 : VL k g cb x true w W0 := by
  rw [hW0]
  exact ⟨h1.alloc _, h2.alloc _, by rw [hcb]; exact St.new w _ _, (Frm.refl _ _).alloc _, hkg, by omega, by omega⟩
 have c0 : ∀ W b y, VL k g cb y b w W → W.cell? ⟨k, 0, none⟩ = some (.int .i64 y.kind) := fun W b y v => v.ch.cell rfl
 have HK0 := hI (show ∀ W b y, VL k g cb y b w W → y.kind = x.kind → W.cell? ⟨k, 0, none⟩ = some (.int .i64 1) from fun W b y v e => by rw [c0 W b y v, e, hk])
 have HFN := hI (show ∀ W b y, VL k g cb y b w W → W.cell? ⟨cb, 0, none⟩ = some (.func (.func 78) #[] #[]) ∧ W.cell? ⟨cb, 1, none⟩ = some (.func (.func 79) #[] #[.pointer (some ⟨g, 0, none⟩)]) ∧ W.cell? ⟨cb, 2, none⟩ = some (.func (.func 80) #[] #[.pointer (some ⟨g, 0, none⟩)]) ∧ W.cell? ⟨cb, 3, none⟩ = some (.func (.func 81) #[] #[.pointer (some ⟨g, 0, none⟩)]) ∧ W.cell? ⟨cb, 4, none⟩ = some (.func (.func 82) #[] #[.pointer (some ⟨g, 0, none⟩)]) from fun W b y v => ⟨v.cod.cell rfl, v.cod.cell rfl, v.cod.cell rfl, v.cod.cell rfl, v.cod.cell rfl⟩)
 obtain ⟨W1, hW1⟩ : ∃ W1, W1 = W0.drew := ⟨_, rfl⟩
 have v1 : VL k g cb x true w W1 := by rw [hW1]; exact v0.drew
 have d0 := HK0.out _ _ _ v1 rfl
 obtain ⟨f0, _, _, _, _⟩ := HFN.out _ _ _ v1
 have HV1 := hI v1
 have HW := hI hW0
 have HV := hI hW1
 have HCB := hI hcb
 have HN := hI hn
 clear h1 h2 v0 v1 hW0 hW1 hcb hn c0 lk lg hkg hk
 go_enter Tryz.func77, Tryz.ntmps77
 go_wp2
 rw [← HW.out, ← HCB.out]
 refine wp_scope_from 4 visC rfl ?_
 go_wp2
 go_step3
 go_wp2_with fail
 go_region
 rw [← HV.out]
 go_wp2_with fail
 go_still_tail 5, (by kernel_rfl)
 change wpList _ _ _ _ _ W1.drew
 obtain ⟨X0, hX0⟩ : ∃ X0, X0 = W1.drew := ⟨_, rfl⟩
 have V0 := hI (show VL k g cb x true w X0 from by rw [hX0]; exact HV1.out.drew)
 have HX0 := hI hX0
 have d1 := HK0.out _ _ _ V0.out rfl
 obtain ⟨_, g1, g2, g3, g4⟩ := HFN.out _ _ _ V0.out
 clear hX0
 go_wp2_with ((with_reducible refine (recC1_any _ _).mono ?_); rintro e w1 ⟨rfl, rfl⟩; rw [← HX0.out])
 refine wp_goto (scopeFrom_goto rfl ?_)
 go_wp2_with fail
 go_still_tail 5, (by kernel_rfl)
 change wpList _ _ _ _ _ X0.drew
 have CL0 := hI (V0.out.drew.e_)
 go_wp2_with ((with_reducible refine CL0.out.mono ?_); rintro e X1 ⟨rfl, hv⟩; have V1 := hI hv; have dd1 := HK0.out _ _ _ hv rfl; obtain ⟨_, p11, p12, p13, p14⟩ := HFN.out _ _ _ hv; clear hv)
 go_wp2_with fail
 go_still_tail 5, (by kernel_rfl)
 change wpList _ _ _ _ _ X1.drew
 have CL1 := hI (V1.out.drew.s_)
 go_wp2_with ((with_reducible refine CL1.out.mono ?_); rintro e X2 ⟨rfl, hv⟩; have V2 := hI hv; have dd2 := HK0.out _ _ _ hv rfl; obtain ⟨_, p21, p22, p23, p24⟩ := HFN.out _ _ _ hv; clear hv)
 go_wp2_with fail
 go_step3
 go_wp2_with fail
 go_still_tail 5, (by kernel_rfl)
 change wpList _ _ _ _ _ X2.drew
 have CL2 := hI (V2.out.drew.u_)
 go_wp2_with ((with_reducible refine CL2.out.mono ?_); rintro e X3 ⟨rfl, hv⟩; have V3 := hI hv; have dd3 := HK0.out _ _ _ hv rfl; obtain ⟨_, p31, p32, p33, p34⟩ := HFN.out _ _ _ hv; clear hv)
 refine wp_goto (scopeFrom_goto rfl ?_)
 go_wp2_with fail
 rw [scopeFrom_ret]
 go_ret
 exact ⟨rfl, V3.out.ch, V3.out.ok, V3.out.fr⟩
set_option maxRecDepth 100000 in
set_option maxHeartbeats 2000000 in
theorem visit_2 (k g : Nat) (x : Ch) (w : World) (hk : x.kind = 2) (hn : x.attr.num) (hkg : k ≠ g) (h1 : St 40 k x.vs.toArray w) (h2 : St 4 g #[.bool true] w) :
 Calls Tryz.prog 77 #[.slice (some ⟨k, 0, none⟩) 1 1, .agg #[.func (.func 78) #[] #[], .func (.func 79) #[] #[.pointer (some ⟨g, 0, none⟩)], .func (.func 80) #[] #[.pointer (some ⟨g, 0, none⟩)], .func (.func 81) #[] #[.pointer (some ⟨g, 0, none⟩)], .func (.func 82) #[] #[.pointer (some ⟨g, 0, none⟩)]]] w
  fun e w' => e = .returned (.bool true) ∧ St 40 k ({ x with epoch := 0, serial := 0 } : Ch).vs.toArray w' ∧ St 4 g #[.bool ((true && (decide (1 ≤ x.epoch) && decide (x.epoch ≤ 4294967295))) && (decide (1 ≤ x.serial)))] w' ∧ Frm (fun j => j = k ∨ j = g) w w' := by
 obtain ⟨W0, hW0⟩ : ∃ W0, W0 = w.alloc (.cells #[.func (.func 78) #[] #[], .func (.func 79) #[] #[.pointer (some ⟨g, 0, none⟩)], .func (.func 80) #[] #[.pointer (some ⟨g, 0, none⟩)], .func (.func 81) #[] #[.pointer (some ⟨g, 0, none⟩)], .func (.func 82) #[] #[.pointer (some ⟨g, 0, none⟩)]] 124 (0, 0)) := ⟨_, rfl⟩
 obtain ⟨cb, hcb⟩ : ∃ cb, cb = w.heap.size := ⟨_, rfl⟩
 have lk := h1.lt
 have lg := h2.lt
 have v0 : VL k g cb x true w W0 := by
  rw [hW0]
  exact ⟨h1.alloc _, h2.alloc _, by rw [hcb]; exact St.new w _ _, (Frm.refl _ _).alloc _, hkg, by omega, by omega⟩
 have c0 : ∀ W b y, VL k g cb y b w W → W.cell? ⟨k, 0, none⟩ = some (.int .i64 y.kind) := fun W b y v => v.ch.cell rfl
 have HK0 := hI (show ∀ W b y, VL k g cb y b w W → y.kind = x.kind → W.cell? ⟨k, 0, none⟩ = some (.int .i64 2) from fun W b y v e => by rw [c0 W b y v, e, hk])
 have HFN := hI (show ∀ W b y, VL k g cb y b w W → W.cell? ⟨cb, 0, none⟩ = some (.func (.func 78) #[] #[]) ∧ W.cell? ⟨cb, 1, none⟩ = some (.func (.func 79) #[] #[.pointer (some ⟨g, 0, none⟩)]) ∧ W.cell? ⟨cb, 2, none⟩ = some (.func (.func 80) #[] #[.pointer (some ⟨g, 0, none⟩)]) ∧ W.cell? ⟨cb, 3, none⟩ = some (.func (.func 81) #[] #[.pointer (some ⟨g, 0, none⟩)]) ∧ W.cell? ⟨cb, 4, none⟩ = some (.func (.func 82) #[] #[.pointer (some ⟨g, 0, none⟩)]) from fun W b y v => ⟨v.cod.cell rfl, v.cod.cell rfl, v.cod.cell rfl, v.cod.cell rfl, v.cod.cell rfl⟩)
 obtain ⟨W1, hW1⟩ : ∃ W1, W1 = W0.drew := ⟨_, rfl⟩
 have v1 : VL k g cb x true w W1 := by rw [hW1]; exact v0.drew
 have d0 := HK0.out _ _ _ v1 rfl
 obtain ⟨f0, _, _, _, _⟩ := HFN.out _ _ _ v1
 have HV1 := hI v1
 have HW := hI hW0
 have HV := hI hW1
 have HCB := hI hcb
 have HN := hI hn
 clear h1 h2 v0 v1 hW0 hW1 hcb hn c0 lk lg hkg hk
 go_enter Tryz.func77, Tryz.ntmps77
 go_wp2
 rw [← HW.out, ← HCB.out]
 refine wp_scope_from 4 visC rfl ?_
 go_wp2
 go_step3
 go_wp2_with fail
 go_region
 rw [← HV.out]
 go_wp2_with fail
 go_still_tail 5, (by kernel_rfl)
 change wpList _ _ _ _ _ W1.drew
 obtain ⟨X0, hX0⟩ : ∃ X0, X0 = W1.drew := ⟨_, rfl⟩
 have V0 := hI (show VL k g cb x true w X0 from by rw [hX0]; exact HV1.out.drew)
 have HX0 := hI hX0
 have d1 := HK0.out _ _ _ V0.out rfl
 obtain ⟨_, g1, g2, g3, g4⟩ := HFN.out _ _ _ V0.out
 clear hX0
 go_wp2_with ((with_reducible refine (recC1_any _ _).mono ?_); rintro e w1 ⟨rfl, rfl⟩; rw [← HX0.out])
 refine wp_goto (scopeFrom_goto rfl ?_)
 go_wp2_with fail
 go_still_tail 5, (by kernel_rfl)
 change wpList _ _ _ _ _ X0.drew
 have CL0 := hI (V0.out.drew.e_)
 go_wp2_with ((with_reducible refine CL0.out.mono ?_); rintro e X1 ⟨rfl, hv⟩; have V1 := hI hv; have dd1 := HK0.out _ _ _ hv rfl; obtain ⟨_, p11, p12, p13, p14⟩ := HFN.out _ _ _ hv; clear hv)
 go_wp2_with fail
 go_still_tail 5, (by kernel_rfl)
 change wpList _ _ _ _ _ X1.drew
 have CL1 := hI (V1.out.drew.s_)
 go_wp2_with ((with_reducible refine CL1.out.mono ?_); rintro e X2 ⟨rfl, hv⟩; have V2 := hI hv; have dd2 := HK0.out _ _ _ hv rfl; obtain ⟨_, p21, p22, p23, p24⟩ := HFN.out _ _ _ hv; clear hv)
 refine wp_goto (scopeFrom_goto rfl ?_)
 go_wp2_with fail
 rw [scopeFrom_ret]
 go_ret
 exact ⟨rfl, V2.out.ch, V2.out.ok, V2.out.fr⟩
set_option maxRecDepth 100000 in
set_option maxHeartbeats 2000000 in
theorem visit_3 (k g : Nat) (x : Ch) (w : World) (hk : x.kind = 3) (hn : x.attr.num) (hkg : k ≠ g) (h1 : St 40 k x.vs.toArray w) (h2 : St 4 g #[.bool true] w) :
 Calls Tryz.prog 77 #[.slice (some ⟨k, 0, none⟩) 1 1, .agg #[.func (.func 78) #[] #[], .func (.func 79) #[] #[.pointer (some ⟨g, 0, none⟩)], .func (.func 80) #[] #[.pointer (some ⟨g, 0, none⟩)], .func (.func 81) #[] #[.pointer (some ⟨g, 0, none⟩)], .func (.func 82) #[] #[.pointer (some ⟨g, 0, none⟩)]]] w
  fun e w' => e = .returned (.bool true) ∧ St 40 k ({ x with up := ⟨#[]⟩, attr := Pa.zero } : Ch).vs.toArray w' ∧ St 4 g #[.bool ((true && (decide (1 ≤ (x.up.size : Int)) && decide ((x.up.size : Int) ≤ 64))) && okPa x.attr)] w' ∧ Frm (fun j => j = k ∨ j = g) w w' := by
 obtain ⟨W0, hW0⟩ : ∃ W0, W0 = w.alloc (.cells #[.func (.func 78) #[] #[], .func (.func 79) #[] #[.pointer (some ⟨g, 0, none⟩)], .func (.func 80) #[] #[.pointer (some ⟨g, 0, none⟩)], .func (.func 81) #[] #[.pointer (some ⟨g, 0, none⟩)], .func (.func 82) #[] #[.pointer (some ⟨g, 0, none⟩)]] 124 (0, 0)) := ⟨_, rfl⟩
 obtain ⟨cb, hcb⟩ : ∃ cb, cb = w.heap.size := ⟨_, rfl⟩
 have lk := h1.lt
 have lg := h2.lt
 have v0 : VL k g cb x true w W0 := by
  rw [hW0]
  exact ⟨h1.alloc _, h2.alloc _, by rw [hcb]; exact St.new w _ _, (Frm.refl _ _).alloc _, hkg, by omega, by omega⟩
 have c0 : ∀ W b y, VL k g cb y b w W → W.cell? ⟨k, 0, none⟩ = some (.int .i64 y.kind) := fun W b y v => v.ch.cell rfl
 have HK0 := hI (show ∀ W b y, VL k g cb y b w W → y.kind = x.kind → W.cell? ⟨k, 0, none⟩ = some (.int .i64 3) from fun W b y v e => by rw [c0 W b y v, e, hk])
 have HFN := hI (show ∀ W b y, VL k g cb y b w W → W.cell? ⟨cb, 0, none⟩ = some (.func (.func 78) #[] #[]) ∧ W.cell? ⟨cb, 1, none⟩ = some (.func (.func 79) #[] #[.pointer (some ⟨g, 0, none⟩)]) ∧ W.cell? ⟨cb, 2, none⟩ = some (.func (.func 80) #[] #[.pointer (some ⟨g, 0, none⟩)]) ∧ W.cell? ⟨cb, 3, none⟩ = some (.func (.func 81) #[] #[.pointer (some ⟨g, 0, none⟩)]) ∧ W.cell? ⟨cb, 4, none⟩ = some (.func (.func 82) #[] #[.pointer (some ⟨g, 0, none⟩)]) from fun W b y v => ⟨v.cod.cell rfl, v.cod.cell rfl, v.cod.cell rfl, v.cod.cell rfl, v.cod.cell rfl⟩)
 obtain ⟨W1, hW1⟩ : ∃ W1, W1 = W0.drew := ⟨_, rfl⟩
 have v1 : VL k g cb x true w W1 := by rw [hW1]; exact v0.drew
 have d0 := HK0.out _ _ _ v1 rfl
 obtain ⟨f0, _, _, _, _⟩ := HFN.out _ _ _ v1
 have HV1 := hI v1
 have HW := hI hW0
 have HV := hI hW1
 have HCB := hI hcb
 have HN := hI hn
 clear h1 h2 v0 v1 hW0 hW1 hcb hn c0 lk lg hkg hk
 go_enter Tryz.func77, Tryz.ntmps77
 go_wp2
 rw [← HW.out, ← HCB.out]
 refine wp_scope_from 4 visC rfl ?_
 go_wp2
 go_step3
 go_wp2_with fail
 go_region
 rw [← HV.out]
 go_wp2_with fail
 go_still_tail 5, (by kernel_rfl)
 change wpList _ _ _ _ _ W1.drew
 obtain ⟨X0, hX0⟩ : ∃ X0, X0 = W1.drew := ⟨_, rfl⟩
 have V0 := hI (show VL k g cb x true w X0 from by rw [hX0]; exact HV1.out.drew)
 have HX0 := hI hX0
 have d1 := HK0.out _ _ _ V0.out rfl
 obtain ⟨_, g1, g2, g3, g4⟩ := HFN.out _ _ _ V0.out
 clear hX0
 go_wp2_with ((with_reducible refine (recC1_any _ _).mono ?_); rintro e w1 ⟨rfl, rfl⟩; rw [← HX0.out])
 refine wp_goto (scopeFrom_goto rfl ?_)
 go_wp2_with fail
 go_still_tail 5, (by kernel_rfl)
 change wpList _ _ _ _ _ X0.drew
 have CL0 := hI (V0.out.drew.u_)
 go_wp2_with ((with_reducible refine CL0.out.mono ?_); rintro e X1 ⟨rfl, hv⟩; have V1 := hI hv; have dd1 := HK0.out _ _ _ hv rfl; obtain ⟨_, p11, p12, p13, p14⟩ := HFN.out _ _ _ hv; clear hv)
 refine wp_goto (scopeFrom_goto rfl ?_)
 go_wp2_with fail
 go_still_tail 5, (by kernel_rfl)
 change wpList _ _ _ _ _ X1.drew
 have CL1 := hI (V1.out.drew.a_ HN.out)
 go_wp2_with ((with_reducible refine CL1.out.mono ?_); rintro e X2 ⟨rfl, hv⟩; have V2 := hI hv; have dd2 := HK0.out _ _ _ hv rfl; obtain ⟨_, p21, p22, p23, p24⟩ := HFN.out _ _ _ hv; clear hv)
 refine wp_goto (scopeFrom_goto rfl ?_)
 go_wp2_with fail
 rw [scopeFrom_ret]
 go_ret
 exact ⟨rfl, V2.out.ch, V2.out.ok, V2.out.fr⟩
set_option maxRecDepth 100000 in
set_option maxHeartbeats 2000000 in
theorem visit_4 (k g : Nat) (x : Ch) (w : World) (hk : x.kind = 4) (hn : x.attr.num) (hkg : k ≠ g) (h1 : St 40 k x.vs.toArray w) (h2 : St 4 g #[.bool true] w) :
 Calls Tryz.prog 77 #[.slice (some ⟨k, 0, none⟩) 1 1, .agg #[.func (.func 78) #[] #[], .func (.func 79) #[] #[.pointer (some ⟨g, 0, none⟩)], .func (.func 80) #[] #[.pointer (some ⟨g, 0, none⟩)], .func (.func 81) #[] #[.pointer (some ⟨g, 0, none⟩)], .func (.func 82) #[] #[.pointer (some ⟨g, 0, none⟩)]]] w
  fun e w' => e = .returned (.bool true) ∧ St 40 k ({ x with up := ⟨#[]⟩ } : Ch).vs.toArray w' ∧ St 4 g #[.bool (true && (decide (1 ≤ (x.up.size : Int)) && decide ((x.up.size : Int) ≤ 64)))] w' ∧ Frm (fun j => j = k ∨ j = g) w w' := by
 obtain ⟨W0, hW0⟩ : ∃ W0, W0 = w.alloc (.cells #[.func (.func 78) #[] #[], .func (.func 79) #[] #[.pointer (some ⟨g, 0, none⟩)], .func (.func 80) #[] #[.pointer (some ⟨g, 0, none⟩)], .func (.func 81) #[] #[.pointer (some ⟨g, 0, none⟩)], .func (.func 82) #[] #[.pointer (some ⟨g, 0, none⟩)]] 124 (0, 0)) := ⟨_, rfl⟩
 obtain ⟨cb, hcb⟩ : ∃ cb, cb = w.heap.size := ⟨_, rfl⟩
 have lk := h1.lt
 have lg := h2.lt
 have v0 : VL k g cb x true w W0 := by
  rw [hW0]
  exact ⟨h1.alloc _, h2.alloc _, by rw [hcb]; exact St.new w _ _, (Frm.refl _ _).alloc _, hkg, by omega, by omega⟩
 have c0 : ∀ W b y, VL k g cb y b w W → W.cell? ⟨k, 0, none⟩ = some (.int .i64 y.kind) := fun W b y v => v.ch.cell rfl
 have HK0 := hI (show ∀ W b y, VL k g cb y b w W → y.kind = x.kind → W.cell? ⟨k, 0, none⟩ = some (.int .i64 4) from fun W b y v e => by rw [c0 W b y v, e, hk])
 have HFN := hI (show ∀ W b y, VL k g cb y b w W → W.cell? ⟨cb, 0, none⟩ = some (.func (.func 78) #[] #[]) ∧ W.cell? ⟨cb, 1, none⟩ = some (.func (.func 79) #[] #[.pointer (some ⟨g, 0, none⟩)]) ∧ W.cell? ⟨cb, 2, none⟩ = some (.func (.func 80) #[] #[.pointer (some ⟨g, 0, none⟩)]) ∧ W.cell? ⟨cb, 3, none⟩ = some (.func (.func 81) #[] #[.pointer (some ⟨g, 0, none⟩)]) ∧ W.cell? ⟨cb, 4, none⟩ = some (.func (.func 82) #[] #[.pointer (some ⟨g, 0, none⟩)]) from fun W b y v => ⟨v.cod.cell rfl, v.cod.cell rfl, v.cod.cell rfl, v.cod.cell rfl, v.cod.cell rfl⟩)
 obtain ⟨W1, hW1⟩ : ∃ W1, W1 = W0.drew := ⟨_, rfl⟩
 have v1 : VL k g cb x true w W1 := by rw [hW1]; exact v0.drew
 have d0 := HK0.out _ _ _ v1 rfl
 obtain ⟨f0, _, _, _, _⟩ := HFN.out _ _ _ v1
 have HV1 := hI v1
 have HW := hI hW0
 have HV := hI hW1
 have HCB := hI hcb
 have HN := hI hn
 clear h1 h2 v0 v1 hW0 hW1 hcb hn c0 lk lg hkg hk
 go_enter Tryz.func77, Tryz.ntmps77
 go_wp2
 rw [← HW.out, ← HCB.out]
 refine wp_scope_from 4 visC rfl ?_
 go_wp2
 go_step3
 go_wp2_with fail
 go_region
 rw [← HV.out]
 go_wp2_with fail
 go_still_tail 5, (by kernel_rfl)
 change wpList _ _ _ _ _ W1.drew
 obtain ⟨X0, hX0⟩ : ∃ X0, X0 = W1.drew := ⟨_, rfl⟩
 have V0 := hI (show VL k g cb x true w X0 from by rw [hX0]; exact HV1.out.drew)
 have HX0 := hI hX0
 have d1 := HK0.out _ _ _ V0.out rfl
 obtain ⟨_, g1, g2, g3, g4⟩ := HFN.out _ _ _ V0.out
 clear hX0
 go_wp2_with ((with_reducible refine (recC1_any _ _).mono ?_); rintro e w1 ⟨rfl, rfl⟩; rw [← HX0.out])
 refine wp_goto (scopeFrom_goto rfl ?_)
 go_wp2_with fail
 go_still_tail 5, (by kernel_rfl)
 change wpList _ _ _ _ _ X0.drew
 have CL0 := hI (V0.out.drew.u_)
 go_wp2_with ((with_reducible refine CL0.out.mono ?_); rintro e X1 ⟨rfl, hv⟩; have V1 := hI hv; have dd1 := HK0.out _ _ _ hv rfl; obtain ⟨_, p11, p12, p13, p14⟩ := HFN.out _ _ _ hv; clear hv)
 refine wp_goto (scopeFrom_goto rfl ?_)
 go_wp2_with fail
 rw [scopeFrom_ret]
 go_ret
 exact ⟨rfl, V1.out.ch, V1.out.ok, V1.out.fr⟩
set_option maxRecDepth 100000 in
set_option maxHeartbeats 2000000 in
theorem visit_5 (k g : Nat) (x : Ch) (w : World) (hk : x.kind = 5) (hn : x.attr.num) (hkg : k ≠ g) (h1 : St 40 k x.vs.toArray w) (h2 : St 4 g #[.bool true] w) :
 Calls Tryz.prog 77 #[.slice (some ⟨k, 0, none⟩) 1 1, .agg #[.func (.func 78) #[] #[], .func (.func 79) #[] #[.pointer (some ⟨g, 0, none⟩)], .func (.func 80) #[] #[.pointer (some ⟨g, 0, none⟩)], .func (.func 81) #[] #[.pointer (some ⟨g, 0, none⟩)], .func (.func 82) #[] #[.pointer (some ⟨g, 0, none⟩)]]] w
  fun e w' => e = .returned (.bool true) ∧ St 40 k ({ x with up := ⟨#[]⟩ } : Ch).vs.toArray w' ∧ St 4 g #[.bool (true && (decide (1 ≤ (x.up.size : Int)) && decide ((x.up.size : Int) ≤ 64)))] w' ∧ Frm (fun j => j = k ∨ j = g) w w' := by
 obtain ⟨W0, hW0⟩ : ∃ W0, W0 = w.alloc (.cells #[.func (.func 78) #[] #[], .func (.func 79) #[] #[.pointer (some ⟨g, 0, none⟩)], .func (.func 80) #[] #[.pointer (some ⟨g, 0, none⟩)], .func (.func 81) #[] #[.pointer (some ⟨g, 0, none⟩)], .func (.func 82) #[] #[.pointer (some ⟨g, 0, none⟩)]] 124 (0, 0)) := ⟨_, rfl⟩
 obtain ⟨cb, hcb⟩ : ∃ cb, cb = w.heap.size := ⟨_, rfl⟩
 have lk := h1.lt
 have lg := h2.lt
 have v0 : VL k g cb x true w W0 := by
  rw [hW0]
  exact ⟨h1.alloc _, h2.alloc _, by rw [hcb]; exact St.new w _ _, (Frm.refl _ _).alloc _, hkg, by omega, by omega⟩
 have c0 : ∀ W b y, VL k g cb y b w W → W.cell? ⟨k, 0, none⟩ = some (.int .i64 y.kind) := fun W b y v => v.ch.cell rfl
 have HK0 := hI (show ∀ W b y, VL k g cb y b w W → y.kind = x.kind → W.cell? ⟨k, 0, none⟩ = some (.int .i64 5) from fun W b y v e => by rw [c0 W b y v, e, hk])
 have HFN := hI (show ∀ W b y, VL k g cb y b w W → W.cell? ⟨cb, 0, none⟩ = some (.func (.func 78) #[] #[]) ∧ W.cell? ⟨cb, 1, none⟩ = some (.func (.func 79) #[] #[.pointer (some ⟨g, 0, none⟩)]) ∧ W.cell? ⟨cb, 2, none⟩ = some (.func (.func 80) #[] #[.pointer (some ⟨g, 0, none⟩)]) ∧ W.cell? ⟨cb, 3, none⟩ = some (.func (.func 81) #[] #[.pointer (some ⟨g, 0, none⟩)]) ∧ W.cell? ⟨cb, 4, none⟩ = some (.func (.func 82) #[] #[.pointer (some ⟨g, 0, none⟩)]) from fun W b y v => ⟨v.cod.cell rfl, v.cod.cell rfl, v.cod.cell rfl, v.cod.cell rfl, v.cod.cell rfl⟩)
 obtain ⟨W1, hW1⟩ : ∃ W1, W1 = W0.drew := ⟨_, rfl⟩
 have v1 : VL k g cb x true w W1 := by rw [hW1]; exact v0.drew
 have d0 := HK0.out _ _ _ v1 rfl
 obtain ⟨f0, _, _, _, _⟩ := HFN.out _ _ _ v1
 have HV1 := hI v1
 have HW := hI hW0
 have HV := hI hW1
 have HCB := hI hcb
 have HN := hI hn
 clear h1 h2 v0 v1 hW0 hW1 hcb hn c0 lk lg hkg hk
 go_enter Tryz.func77, Tryz.ntmps77
 go_wp2
 rw [← HW.out, ← HCB.out]
 refine wp_scope_from 4 visC rfl ?_
 go_wp2
 go_step3
 go_wp2_with fail
 go_region
 rw [← HV.out]
 go_wp2_with fail
 go_still_tail 5, (by kernel_rfl)
 change wpList _ _ _ _ _ W1.drew
 obtain ⟨X0, hX0⟩ : ∃ X0, X0 = W1.drew := ⟨_, rfl⟩
 have V0 := hI (show VL k g cb x true w X0 from by rw [hX0]; exact HV1.out.drew)
 have HX0 := hI hX0
 have d1 := HK0.out _ _ _ V0.out rfl
 obtain ⟨_, g1, g2, g3, g4⟩ := HFN.out _ _ _ V0.out
 clear hX0
 go_wp2_with ((with_reducible refine (recC1_any _ _).mono ?_); rintro e w1 ⟨rfl, rfl⟩; rw [← HX0.out])
 refine wp_goto (scopeFrom_goto rfl ?_)
 go_wp2_with fail
 go_still_tail 5, (by kernel_rfl)
 change wpList _ _ _ _ _ X0.drew
 have CL0 := hI (V0.out.drew.u_)
 go_wp2_with ((with_reducible refine CL0.out.mono ?_); rintro e X1 ⟨rfl, hv⟩; have V1 := hI hv; have dd1 := HK0.out _ _ _ hv rfl; obtain ⟨_, p11, p12, p13, p14⟩ := HFN.out _ _ _ hv; clear hv)
 refine wp_goto (scopeFrom_goto rfl ?_)
 go_wp2_with fail
 rw [scopeFrom_ret]
 go_ret
 exact ⟨rfl, V1.out.ch, V1.out.ok, V1.out.fr⟩
set_option maxRecDepth 100000 in
set_option maxHeartbeats 2000000 in
theorem visit_6 (k g : Nat) (x : Ch) (w : World) (hk : x.kind = 6) (hn : x.attr.num) (hkg : k ≠ g) (h1 : St 40 k x.vs.toArray w) (h2 : St 4 g #[.bool true] w) :
 Calls Tryz.prog 77 #[.slice (some ⟨k, 0, none⟩) 1 1, .agg #[.func (.func 78) #[] #[], .func (.func 79) #[] #[.pointer (some ⟨g, 0, none⟩)], .func (.func 80) #[] #[.pointer (some ⟨g, 0, none⟩)], .func (.func 81) #[] #[.pointer (some ⟨g, 0, none⟩)], .func (.func 82) #[] #[.pointer (some ⟨g, 0, none⟩)]]] w
  fun e w' => e = .returned (.bool true) ∧ St 40 k ({ x with up := ⟨#[]⟩, name := ⟨#[]⟩, child := ⟨#[]⟩ } : Ch).vs.toArray w' ∧ St 4 g #[.bool (((true && (decide (1 ≤ (x.up.size : Int)) && decide ((x.up.size : Int) ≤ 64))) && (decide (1 ≤ (x.name.size : Int)) && decide ((x.name.size : Int) ≤ 255))) && (decide (0 ≤ (x.child.size : Int)) && decide ((x.child.size : Int) ≤ 64)))] w' ∧ Frm (fun j => j = k ∨ j = g) w w' := by
 obtain ⟨W0, hW0⟩ : ∃ W0, W0 = w.alloc (.cells #[.func (.func 78) #[] #[], .func (.func 79) #[] #[.pointer (some ⟨g, 0, none⟩)], .func (.func 80) #[] #[.pointer (some ⟨g, 0, none⟩)], .func (.func 81) #[] #[.pointer (some ⟨g, 0, none⟩)], .func (.func 82) #[] #[.pointer (some ⟨g, 0, none⟩)]] 124 (0, 0)) := ⟨_, rfl⟩
 obtain ⟨cb, hcb⟩ : ∃ cb, cb = w.heap.size := ⟨_, rfl⟩
 have lk := h1.lt
 have lg := h2.lt
 have v0 : VL k g cb x true w W0 := by
  rw [hW0]
  exact ⟨h1.alloc _, h2.alloc _, by rw [hcb]; exact St.new w _ _, (Frm.refl _ _).alloc _, hkg, by omega, by omega⟩
 have c0 : ∀ W b y, VL k g cb y b w W → W.cell? ⟨k, 0, none⟩ = some (.int .i64 y.kind) := fun W b y v => v.ch.cell rfl
 have HK0 := hI (show ∀ W b y, VL k g cb y b w W → y.kind = x.kind → W.cell? ⟨k, 0, none⟩ = some (.int .i64 6) from fun W b y v e => by rw [c0 W b y v, e, hk])
 have HFN := hI (show ∀ W b y, VL k g cb y b w W → W.cell? ⟨cb, 0, none⟩ = some (.func (.func 78) #[] #[]) ∧ W.cell? ⟨cb, 1, none⟩ = some (.func (.func 79) #[] #[.pointer (some ⟨g, 0, none⟩)]) ∧ W.cell? ⟨cb, 2, none⟩ = some (.func (.func 80) #[] #[.pointer (some ⟨g, 0, none⟩)]) ∧ W.cell? ⟨cb, 3, none⟩ = some (.func (.func 81) #[] #[.pointer (some ⟨g, 0, none⟩)]) ∧ W.cell? ⟨cb, 4, none⟩ = some (.func (.func 82) #[] #[.pointer (some ⟨g, 0, none⟩)]) from fun W b y v => ⟨v.cod.cell rfl, v.cod.cell rfl, v.cod.cell rfl, v.cod.cell rfl, v.cod.cell rfl⟩)
 obtain ⟨W1, hW1⟩ : ∃ W1, W1 = W0.drew := ⟨_, rfl⟩
 have v1 : VL k g cb x true w W1 := by rw [hW1]; exact v0.drew
 have d0 := HK0.out _ _ _ v1 rfl
 obtain ⟨f0, _, _, _, _⟩ := HFN.out _ _ _ v1
 have HV1 := hI v1
 have HW := hI hW0
 have HV := hI hW1
 have HCB := hI hcb
 have HN := hI hn
 clear h1 h2 v0 v1 hW0 hW1 hcb hn c0 lk lg hkg hk
 go_enter Tryz.func77, Tryz.ntmps77
 go_wp2
 rw [← HW.out, ← HCB.out]
 refine wp_scope_from 4 visC rfl ?_
 go_wp2
 go_step3
 go_wp2_with fail
 go_region
 rw [← HV.out]
 go_wp2_with fail
 go_still_tail 5, (by kernel_rfl)
 change wpList _ _ _ _ _ W1.drew
 obtain ⟨X0, hX0⟩ : ∃ X0, X0 = W1.drew := ⟨_, rfl⟩
 have V0 := hI (show VL k g cb x true w X0 from by rw [hX0]; exact HV1.out.drew)
 have HX0 := hI hX0
 have d1 := HK0.out _ _ _ V0.out rfl
 obtain ⟨_, g1, g2, g3, g4⟩ := HFN.out _ _ _ V0.out
 clear hX0
 go_wp2_with ((with_reducible refine (recC1_any _ _).mono ?_); rintro e w1 ⟨rfl, rfl⟩; rw [← HX0.out])
 refine wp_goto (scopeFrom_goto rfl ?_)
 go_wp2_with fail
 go_still_tail 5, (by kernel_rfl)
 change wpList _ _ _ _ _ X0.drew
 have CL0 := hI (V0.out.drew.u_)
 go_wp2_with ((with_reducible refine CL0.out.mono ?_); rintro e X1 ⟨rfl, hv⟩; have V1 := hI hv; have dd1 := HK0.out _ _ _ hv rfl; obtain ⟨_, p11, p12, p13, p14⟩ := HFN.out _ _ _ hv; clear hv)
 refine wp_goto (scopeFrom_goto rfl ?_)
 go_wp2_with fail
 go_still_tail 5, (by kernel_rfl)
 change wpList _ _ _ _ _ X1.drew
 have CL1 := hI (V1.out.drew.n_)
 go_wp2_with ((with_reducible refine CL1.out.mono ?_); rintro e X2 ⟨rfl, hv⟩; have V2 := hI hv; have dd2 := HK0.out _ _ _ hv rfl; obtain ⟨_, p21, p22, p23, p24⟩ := HFN.out _ _ _ hv; clear hv)
 go_wp2_with fail
 go_still_tail 5, (by kernel_rfl)
 change wpList _ _ _ _ _ X2.drew
 have CL2 := hI (V2.out.drew.c_)
 go_wp2_with ((with_reducible refine CL2.out.mono ?_); rintro e X3 ⟨rfl, hv⟩; have V3 := hI hv; have dd3 := HK0.out _ _ _ hv rfl; obtain ⟨_, p31, p32, p33, p34⟩ := HFN.out _ _ _ hv; clear hv)
 refine wp_goto (scopeFrom_goto rfl ?_)
 go_wp2_with fail
 rw [scopeFrom_ret]
 go_ret
 exact ⟨rfl, V3.out.ch, V3.out.ok, V3.out.fr⟩
set_option maxRecDepth 100000 in
set_option maxHeartbeats 2000000 in
theorem visit_7 (k g : Nat) (x : Ch) (w : World) (hk : x.kind = 7) (hn : x.attr.num) (hkg : k ≠ g) (h1 : St 40 k x.vs.toArray w) (h2 : St 4 g #[.bool true] w) :
 Calls Tryz.prog 77 #[.slice (some ⟨k, 0, none⟩) 1 1, .agg #[.func (.func 78) #[] #[], .func (.func 79) #[] #[.pointer (some ⟨g, 0, none⟩)], .func (.func 80) #[] #[.pointer (some ⟨g, 0, none⟩)], .func (.func 81) #[] #[.pointer (some ⟨g, 0, none⟩)], .func (.func 82) #[] #[.pointer (some ⟨g, 0, none⟩)]]] w
  fun e w' => e = .returned (.bool true) ∧ St 40 k ({ x with up := ⟨#[]⟩, name := ⟨#[]⟩ } : Ch).vs.toArray w' ∧ St 4 g #[.bool ((true && (decide (1 ≤ (x.up.size : Int)) && decide ((x.up.size : Int) ≤ 64))) && (decide (1 ≤ (x.name.size : Int)) && decide ((x.name.size : Int) ≤ 255)))] w' ∧ Frm (fun j => j = k ∨ j = g) w w' := by
 obtain ⟨W0, hW0⟩ : ∃ W0, W0 = w.alloc (.cells #[.func (.func 78) #[] #[], .func (.func 79) #[] #[.pointer (some ⟨g, 0, none⟩)], .func (.func 80) #[] #[.pointer (some ⟨g, 0, none⟩)], .func (.func 81) #[] #[.pointer (some ⟨g, 0, none⟩)], .func (.func 82) #[] #[.pointer (some ⟨g, 0, none⟩)]] 124 (0, 0)) := ⟨_, rfl⟩
 obtain ⟨cb, hcb⟩ : ∃ cb, cb = w.heap.size := ⟨_, rfl⟩
 have lk := h1.lt
 have lg := h2.lt
 have v0 : VL k g cb x true w W0 := by
  rw [hW0]
  exact ⟨h1.alloc _, h2.alloc _, by rw [hcb]; exact St.new w _ _, (Frm.refl _ _).alloc _, hkg, by omega, by omega⟩
 have c0 : ∀ W b y, VL k g cb y b w W → W.cell? ⟨k, 0, none⟩ = some (.int .i64 y.kind) := fun W b y v => v.ch.cell rfl
 have HK0 := hI (show ∀ W b y, VL k g cb y b w W → y.kind = x.kind → W.cell? ⟨k, 0, none⟩ = some (.int .i64 7) from fun W b y v e => by rw [c0 W b y v, e, hk])
 have HFN := hI (show ∀ W b y, VL k g cb y b w W → W.cell? ⟨cb, 0, none⟩ = some (.func (.func 78) #[] #[]) ∧ W.cell? ⟨cb, 1, none⟩ = some (.func (.func 79) #[] #[.pointer (some ⟨g, 0, none⟩)]) ∧ W.cell? ⟨cb, 2, none⟩ = some (.func (.func 80) #[] #[.pointer (some ⟨g, 0, none⟩)]) ∧ W.cell? ⟨cb, 3, none⟩ = some (.func (.func 81) #[] #[.pointer (some ⟨g, 0, none⟩)]) ∧ W.cell? ⟨cb, 4, none⟩ = some (.func (.func 82) #[] #[.pointer (some ⟨g, 0, none⟩)]) from fun W b y v => ⟨v.cod.cell rfl, v.cod.cell rfl, v.cod.cell rfl, v.cod.cell rfl, v.cod.cell rfl⟩)
 obtain ⟨W1, hW1⟩ : ∃ W1, W1 = W0.drew := ⟨_, rfl⟩
 have v1 : VL k g cb x true w W1 := by rw [hW1]; exact v0.drew
 have d0 := HK0.out _ _ _ v1 rfl
 obtain ⟨f0, _, _, _, _⟩ := HFN.out _ _ _ v1
 have HV1 := hI v1
 have HW := hI hW0
 have HV := hI hW1
 have HCB := hI hcb
 have HN := hI hn
 clear h1 h2 v0 v1 hW0 hW1 hcb hn c0 lk lg hkg hk
 go_enter Tryz.func77, Tryz.ntmps77
 go_wp2
 rw [← HW.out, ← HCB.out]
 refine wp_scope_from 4 visC rfl ?_
 go_wp2
 go_step3
 go_wp2_with fail
 go_region
 rw [← HV.out]
 go_wp2_with fail
 go_still_tail 5, (by kernel_rfl)
 change wpList _ _ _ _ _ W1.drew
 obtain ⟨X0, hX0⟩ : ∃ X0, X0 = W1.drew := ⟨_, rfl⟩
 have V0 := hI (show VL k g cb x true w X0 from by rw [hX0]; exact HV1.out.drew)
 have HX0 := hI hX0
 have d1 := HK0.out _ _ _ V0.out rfl
 obtain ⟨_, g1, g2, g3, g4⟩ := HFN.out _ _ _ V0.out
 clear hX0
 go_wp2_with ((with_reducible refine (recC1_any _ _).mono ?_); rintro e w1 ⟨rfl, rfl⟩; rw [← HX0.out])
 refine wp_goto (scopeFrom_goto rfl ?_)
 go_wp2_with fail
 go_still_tail 5, (by kernel_rfl)
 change wpList _ _ _ _ _ X0.drew
 have CL0 := hI (V0.out.drew.u_)
 go_wp2_with ((with_reducible refine CL0.out.mono ?_); rintro e X1 ⟨rfl, hv⟩; have V1 := hI hv; have dd1 := HK0.out _ _ _ hv rfl; obtain ⟨_, p11, p12, p13, p14⟩ := HFN.out _ _ _ hv; clear hv)
 refine wp_goto (scopeFrom_goto rfl ?_)
 go_wp2_with fail
 go_still_tail 5, (by kernel_rfl)
 change wpList _ _ _ _ _ X1.drew
 have CL1 := hI (V1.out.drew.n_)
 go_wp2_with ((with_reducible refine CL1.out.mono ?_); rintro e X2 ⟨rfl, hv⟩; have V2 := hI hv; have dd2 := HK0.out _ _ _ hv rfl; obtain ⟨_, p21, p22, p23, p24⟩ := HFN.out _ _ _ hv; clear hv)
 refine wp_goto (scopeFrom_goto rfl ?_)
 go_wp2_with fail
 rw [scopeFrom_ret]
 go_ret
 exact ⟨rfl, V2.out.ch, V2.out.ok, V2.out.fr⟩
set_option maxRecDepth 100000 in
set_option maxHeartbeats 2000000 in
theorem visit_8 (k g : Nat) (x : Ch) (w : World) (hk : x.kind = 8) (hn : x.attr.num) (hkg : k ≠ g) (h1 : St 40 k x.vs.toArray w) (h2 : St 4 g #[.bool true] w) :
 Calls Tryz.prog 77 #[.slice (some ⟨k, 0, none⟩) 1 1, .agg #[.func (.func 78) #[] #[], .func (.func 79) #[] #[.pointer (some ⟨g, 0, none⟩)], .func (.func 80) #[] #[.pointer (some ⟨g, 0, none⟩)], .func (.func 81) #[] #[.pointer (some ⟨g, 0, none⟩)], .func (.func 82) #[] #[.pointer (some ⟨g, 0, none⟩)]]] w
  fun e w' => e = .returned (.bool true) ∧ St 40 k ({ x with up := ⟨#[]⟩, no := 0, slot := 0 } : Ch).vs.toArray w' ∧ St 4 g #[.bool (((true && (decide (1 ≤ (x.up.size : Int)) && decide ((x.up.size : Int) ≤ 64))) && (decide (0 ≤ x.no) && decide (x.no ≤ 65535))) && (decide (0 ≤ x.slot) && decide (x.slot ≤ 65535)))] w' ∧ Frm (fun j => j = k ∨ j = g) w w' := by
 obtain ⟨W0, hW0⟩ : ∃ W0, W0 = w.alloc (.cells #[.func (.func 78) #[] #[], .func (.func 79) #[] #[.pointer (some ⟨g, 0, none⟩)], .func (.func 80) #[] #[.pointer (some ⟨g, 0, none⟩)], .func (.func 81) #[] #[.pointer (some ⟨g, 0, none⟩)], .func (.func 82) #[] #[.pointer (some ⟨g, 0, none⟩)]] 124 (0, 0)) := ⟨_, rfl⟩
 obtain ⟨cb, hcb⟩ : ∃ cb, cb = w.heap.size := ⟨_, rfl⟩
 have lk := h1.lt
 have lg := h2.lt
 have v0 : VL k g cb x true w W0 := by
  rw [hW0]
  exact ⟨h1.alloc _, h2.alloc _, by rw [hcb]; exact St.new w _ _, (Frm.refl _ _).alloc _, hkg, by omega, by omega⟩
 have c0 : ∀ W b y, VL k g cb y b w W → W.cell? ⟨k, 0, none⟩ = some (.int .i64 y.kind) := fun W b y v => v.ch.cell rfl
 have HK0 := hI (show ∀ W b y, VL k g cb y b w W → y.kind = x.kind → W.cell? ⟨k, 0, none⟩ = some (.int .i64 8) from fun W b y v e => by rw [c0 W b y v, e, hk])
 have HFN := hI (show ∀ W b y, VL k g cb y b w W → W.cell? ⟨cb, 0, none⟩ = some (.func (.func 78) #[] #[]) ∧ W.cell? ⟨cb, 1, none⟩ = some (.func (.func 79) #[] #[.pointer (some ⟨g, 0, none⟩)]) ∧ W.cell? ⟨cb, 2, none⟩ = some (.func (.func 80) #[] #[.pointer (some ⟨g, 0, none⟩)]) ∧ W.cell? ⟨cb, 3, none⟩ = some (.func (.func 81) #[] #[.pointer (some ⟨g, 0, none⟩)]) ∧ W.cell? ⟨cb, 4, none⟩ = some (.func (.func 82) #[] #[.pointer (some ⟨g, 0, none⟩)]) from fun W b y v => ⟨v.cod.cell rfl, v.cod.cell rfl, v.cod.cell rfl, v.cod.cell rfl, v.cod.cell rfl⟩)
 obtain ⟨W1, hW1⟩ : ∃ W1, W1 = W0.drew := ⟨_, rfl⟩
 have v1 : VL k g cb x true w W1 := by rw [hW1]; exact v0.drew
 have d0 := HK0.out _ _ _ v1 rfl
 obtain ⟨f0, _, _, _, _⟩ := HFN.out _ _ _ v1
 have HV1 := hI v1
 have HW := hI hW0
 have HV := hI hW1
 have HCB := hI hcb
 have HN := hI hn
 clear h1 h2 v0 v1 hW0 hW1 hcb hn c0 lk lg hkg hk
 go_enter Tryz.func77, Tryz.ntmps77
 go_wp2
 rw [← HW.out, ← HCB.out]
 refine wp_scope_from 4 visC rfl ?_
 go_wp2
 go_step3
 go_wp2_with fail
 go_region
 rw [← HV.out]
 go_wp2_with fail
 go_still_tail 5, (by kernel_rfl)
 change wpList _ _ _ _ _ W1.drew
 obtain ⟨X0, hX0⟩ : ∃ X0, X0 = W1.drew := ⟨_, rfl⟩
 have V0 := hI (show VL k g cb x true w X0 from by rw [hX0]; exact HV1.out.drew)
 have HX0 := hI hX0
 have d1 := HK0.out _ _ _ V0.out rfl
 obtain ⟨_, g1, g2, g3, g4⟩ := HFN.out _ _ _ V0.out
 clear hX0
 go_wp2_with ((with_reducible refine (recC1_any _ _).mono ?_); rintro e w1 ⟨rfl, rfl⟩; rw [← HX0.out])
 refine wp_goto (scopeFrom_goto rfl ?_)
 go_wp2_with fail
 go_still_tail 5, (by kernel_rfl)
 change wpList _ _ _ _ _ X0.drew
 have CL0 := hI (V0.out.drew.u_)
 go_wp2_with ((with_reducible refine CL0.out.mono ?_); rintro e X1 ⟨rfl, hv⟩; have V1 := hI hv; have dd1 := HK0.out _ _ _ hv rfl; obtain ⟨_, p11, p12, p13, p14⟩ := HFN.out _ _ _ hv; clear hv)
 refine wp_goto (scopeFrom_goto rfl ?_)
 go_wp2_with fail
 go_still_tail 5, (by kernel_rfl)
 change wpList _ _ _ _ _ X1.drew
 have CL1 := hI (V1.out.drew.b_)
 go_wp2_with ((with_reducible refine CL1.out.mono ?_); rintro e X2 ⟨rfl, hv⟩; have V2 := hI hv; have dd2 := HK0.out _ _ _ hv rfl; obtain ⟨_, p21, p22, p23, p24⟩ := HFN.out _ _ _ hv; clear hv)
 go_wp2_with fail
 go_still_tail 5, (by kernel_rfl)
 change wpList _ _ _ _ _ X2.drew
 have CL2 := hI (V2.out.drew.t_)
 go_wp2_with ((with_reducible refine CL2.out.mono ?_); rintro e X3 ⟨rfl, hv⟩; have V3 := hI hv; have dd3 := HK0.out _ _ _ hv rfl; obtain ⟨_, p31, p32, p33, p34⟩ := HFN.out _ _ _ hv; clear hv)
 refine wp_goto (scopeFrom_goto rfl ?_)
 go_wp2_with fail
 rw [scopeFrom_ret]
 go_ret
 exact ⟨rfl, V3.out.ch, V3.out.ok, V3.out.fr⟩
set_option maxRecDepth 100000 in
set_option maxHeartbeats 2000000 in
theorem visit_9 (k g : Nat) (x : Ch) (w : World) (hk : x.kind = 9) (hn : x.attr.num) (hkg : k ≠ g) (h1 : St 40 k x.vs.toArray w) (h2 : St 4 g #[.bool true] w) :
 Calls Tryz.prog 77 #[.slice (some ⟨k, 0, none⟩) 1 1, .agg #[.func (.func 78) #[] #[], .func (.func 79) #[] #[.pointer (some ⟨g, 0, none⟩)], .func (.func 80) #[] #[.pointer (some ⟨g, 0, none⟩)], .func (.func 81) #[] #[.pointer (some ⟨g, 0, none⟩)], .func (.func 82) #[] #[.pointer (some ⟨g, 0, none⟩)]]] w
  fun e w' => e = .returned (.bool true) ∧ St 40 k ({ x with up := ⟨#[]⟩, no := 0 } : Ch).vs.toArray w' ∧ St 4 g #[.bool ((true && (decide (1 ≤ (x.up.size : Int)) && decide ((x.up.size : Int) ≤ 64))) && (decide (0 ≤ x.no) && decide (x.no ≤ 65535)))] w' ∧ Frm (fun j => j = k ∨ j = g) w w' := by
 obtain ⟨W0, hW0⟩ : ∃ W0, W0 = w.alloc (.cells #[.func (.func 78) #[] #[], .func (.func 79) #[] #[.pointer (some ⟨g, 0, none⟩)], .func (.func 80) #[] #[.pointer (some ⟨g, 0, none⟩)], .func (.func 81) #[] #[.pointer (some ⟨g, 0, none⟩)], .func (.func 82) #[] #[.pointer (some ⟨g, 0, none⟩)]] 124 (0, 0)) := ⟨_, rfl⟩
 obtain ⟨cb, hcb⟩ : ∃ cb, cb = w.heap.size := ⟨_, rfl⟩
 have lk := h1.lt
 have lg := h2.lt
 have v0 : VL k g cb x true w W0 := by
  rw [hW0]
  exact ⟨h1.alloc _, h2.alloc _, by rw [hcb]; exact St.new w _ _, (Frm.refl _ _).alloc _, hkg, by omega, by omega⟩
 have c0 : ∀ W b y, VL k g cb y b w W → W.cell? ⟨k, 0, none⟩ = some (.int .i64 y.kind) := fun W b y v => v.ch.cell rfl
 have HK0 := hI (show ∀ W b y, VL k g cb y b w W → y.kind = x.kind → W.cell? ⟨k, 0, none⟩ = some (.int .i64 9) from fun W b y v e => by rw [c0 W b y v, e, hk])
 have HFN := hI (show ∀ W b y, VL k g cb y b w W → W.cell? ⟨cb, 0, none⟩ = some (.func (.func 78) #[] #[]) ∧ W.cell? ⟨cb, 1, none⟩ = some (.func (.func 79) #[] #[.pointer (some ⟨g, 0, none⟩)]) ∧ W.cell? ⟨cb, 2, none⟩ = some (.func (.func 80) #[] #[.pointer (some ⟨g, 0, none⟩)]) ∧ W.cell? ⟨cb, 3, none⟩ = some (.func (.func 81) #[] #[.pointer (some ⟨g, 0, none⟩)]) ∧ W.cell? ⟨cb, 4, none⟩ = some (.func (.func 82) #[] #[.pointer (some ⟨g, 0, none⟩)]) from fun W b y v => ⟨v.cod.cell rfl, v.cod.cell rfl, v.cod.cell rfl, v.cod.cell rfl, v.cod.cell rfl⟩)
 obtain ⟨W1, hW1⟩ : ∃ W1, W1 = W0.drew := ⟨_, rfl⟩
 have v1 : VL k g cb x true w W1 := by rw [hW1]; exact v0.drew
 have d0 := HK0.out _ _ _ v1 rfl
 obtain ⟨f0, _, _, _, _⟩ := HFN.out _ _ _ v1
 have HV1 := hI v1
 have HW := hI hW0
 have HV := hI hW1
 have HCB := hI hcb
 have HN := hI hn
 clear h1 h2 v0 v1 hW0 hW1 hcb hn c0 lk lg hkg hk
 go_enter Tryz.func77, Tryz.ntmps77
 go_wp2
 rw [← HW.out, ← HCB.out]
 refine wp_scope_from 4 visC rfl ?_
 go_wp2
 go_step3
 go_wp2_with fail
 go_region
 rw [← HV.out]
 go_wp2_with fail
 go_still_tail 5, (by kernel_rfl)
 change wpList _ _ _ _ _ W1.drew
 obtain ⟨X0, hX0⟩ : ∃ X0, X0 = W1.drew := ⟨_, rfl⟩
 have V0 := hI (show VL k g cb x true w X0 from by rw [hX0]; exact HV1.out.drew)
 have HX0 := hI hX0
 have d1 := HK0.out _ _ _ V0.out rfl
 obtain ⟨_, g1, g2, g3, g4⟩ := HFN.out _ _ _ V0.out
 clear hX0
 go_wp2_with ((with_reducible refine (recC1_any _ _).mono ?_); rintro e w1 ⟨rfl, rfl⟩; rw [← HX0.out])
 refine wp_goto (scopeFrom_goto rfl ?_)
 go_wp2_with fail
 go_still_tail 5, (by kernel_rfl)
 change wpList _ _ _ _ _ X0.drew
 have CL0 := hI (V0.out.drew.u_)
 go_wp2_with ((with_reducible refine CL0.out.mono ?_); rintro e X1 ⟨rfl, hv⟩; have V1 := hI hv; have dd1 := HK0.out _ _ _ hv rfl; obtain ⟨_, p11, p12, p13, p14⟩ := HFN.out _ _ _ hv; clear hv)
 refine wp_goto (scopeFrom_goto rfl ?_)
 go_wp2_with fail
 go_still_tail 5, (by kernel_rfl)
 change wpList _ _ _ _ _ X1.drew
 have CL1 := hI (V1.out.drew.b_)
 go_wp2_with ((with_reducible refine CL1.out.mono ?_); rintro e X2 ⟨rfl, hv⟩; have V2 := hI hv; have dd2 := HK0.out _ _ _ hv rfl; obtain ⟨_, p21, p22, p23, p24⟩ := HFN.out _ _ _ hv; clear hv)
 refine wp_goto (scopeFrom_goto rfl ?_)
 go_wp2_with fail
 rw [scopeFrom_ret]
 go_ret
 exact ⟨rfl, V2.out.ch, V2.out.ok, V2.out.fr⟩
set_option maxRecDepth 100000 in
set_option maxHeartbeats 2000000 in
theorem visit_0 (k g : Nat) (x : Ch) (w : World) (hk : x.kind ≠ 1 ∧ x.kind ≠ 2 ∧ x.kind ≠ 3 ∧ x.kind ≠ 4 ∧ x.kind ≠ 5 ∧ x.kind ≠ 6 ∧ x.kind ≠ 7 ∧ x.kind ≠ 8 ∧ x.kind ≠ 9) (hn : x.attr.num) (hkg : k ≠ g) (h1 : St 40 k x.vs.toArray w) (h2 : St 4 g #[.bool true] w) :
 Calls Tryz.prog 77 #[.slice (some ⟨k, 0, none⟩) 1 1, .agg #[.func (.func 78) #[] #[], .func (.func 79) #[] #[.pointer (some ⟨g, 0, none⟩)], .func (.func 80) #[] #[.pointer (some ⟨g, 0, none⟩)], .func (.func 81) #[] #[.pointer (some ⟨g, 0, none⟩)], .func (.func 82) #[] #[.pointer (some ⟨g, 0, none⟩)]]] w
  fun e w' => e = .returned (.bool false) ∧ St 40 k (x : Ch).vs.toArray w' ∧ St 4 g #[.bool true] w' ∧ Frm (fun j => j = k ∨ j = g) w w' := by
 obtain ⟨W0, hW0⟩ : ∃ W0, W0 = w.alloc (.cells #[.func (.func 78) #[] #[], .func (.func 79) #[] #[.pointer (some ⟨g, 0, none⟩)], .func (.func 80) #[] #[.pointer (some ⟨g, 0, none⟩)], .func (.func 81) #[] #[.pointer (some ⟨g, 0, none⟩)], .func (.func 82) #[] #[.pointer (some ⟨g, 0, none⟩)]] 124 (0, 0)) := ⟨_, rfl⟩
 obtain ⟨cb, hcb⟩ : ∃ cb, cb = w.heap.size := ⟨_, rfl⟩
 have lk := h1.lt
 have lg := h2.lt
 have v0 : VL k g cb x true w W0 := by
  rw [hW0]
  exact ⟨h1.alloc _, h2.alloc _, by rw [hcb]; exact St.new w _ _, (Frm.refl _ _).alloc _, hkg, by omega, by omega⟩
 have c0 : ∀ W b y, VL k g cb y b w W → W.cell? ⟨k, 0, none⟩ = some (.int .i64 y.kind) := fun W b y v => v.ch.cell rfl
 have HK0 := hI (show ∀ W b y, VL k g cb y b w W → y.kind = x.kind → W.cell? ⟨k, 0, none⟩ = some (.int .i64 x.kind) from fun W b y v e => by rw [c0 W b y v, e])
 have HFN := hI (show ∀ W b y, VL k g cb y b w W → W.cell? ⟨cb, 0, none⟩ = some (.func (.func 78) #[] #[]) ∧ W.cell? ⟨cb, 1, none⟩ = some (.func (.func 79) #[] #[.pointer (some ⟨g, 0, none⟩)]) ∧ W.cell? ⟨cb, 2, none⟩ = some (.func (.func 80) #[] #[.pointer (some ⟨g, 0, none⟩)]) ∧ W.cell? ⟨cb, 3, none⟩ = some (.func (.func 81) #[] #[.pointer (some ⟨g, 0, none⟩)]) ∧ W.cell? ⟨cb, 4, none⟩ = some (.func (.func 82) #[] #[.pointer (some ⟨g, 0, none⟩)]) from fun W b y v => ⟨v.cod.cell rfl, v.cod.cell rfl, v.cod.cell rfl, v.cod.cell rfl, v.cod.cell rfl⟩)
 obtain ⟨W1, hW1⟩ : ∃ W1, W1 = W0.drew := ⟨_, rfl⟩
 have v1 : VL k g cb x true w W1 := by rw [hW1]; exact v0.drew
 have d0 := HK0.out _ _ _ v1 rfl
 obtain ⟨f0, _, _, _, _⟩ := HFN.out _ _ _ v1
 have HV1 := hI v1
 have HW := hI hW0
 have HV := hI hW1
 have HCB := hI hcb
 have HN := hI hn
 have e1 : (x.kind == 1) = false := beq_eq_false_iff_ne.2 hk.1
 have e2 : (x.kind == 2) = false := beq_eq_false_iff_ne.2 hk.2.1
 have e3 : (x.kind == 3) = false := beq_eq_false_iff_ne.2 hk.2.2.1
 have e4 : (x.kind == 4) = false := beq_eq_false_iff_ne.2 hk.2.2.2.1
 have e5 : (x.kind == 5) = false := beq_eq_false_iff_ne.2 hk.2.2.2.2.1
 have e6 : (x.kind == 6) = false := beq_eq_false_iff_ne.2 hk.2.2.2.2.2.1
 have e7 : (x.kind == 7) = false := beq_eq_false_iff_ne.2 hk.2.2.2.2.2.2.1
 have e8 : (x.kind == 8) = false := beq_eq_false_iff_ne.2 hk.2.2.2.2.2.2.2.1
 have e9 : (x.kind == 9) = false := beq_eq_false_iff_ne.2 hk.2.2.2.2.2.2.2.2
 clear h1 h2 v0 v1 hW0 hW1 hcb hn c0 lk lg hkg hk
 go_enter Tryz.func77, Tryz.ntmps77
 go_wp2
 rw [← HW.out, ← HCB.out]
 refine wp_scope_from 4 visC rfl ?_
 go_wp2
 go_step3
 go_wp2_with fail
 go_region
 rw [← HV.out]
 go_wp2_with fail
 go_still_tail 5, (by kernel_rfl)
 change wpList _ _ _ _ _ W1.drew
 go_wp2_with ((with_reducible refine (recC1_any _ _).mono ?_); rintro e w1 ⟨rfl, rfl⟩)
 rw [scopeFrom_ret]
 go_ret
 exact ⟨rfl, HV1.out.drew.ch, HV1.out.drew.ok, HV1.out.drew.fr⟩
end Go.Proofs.YtngfknplljedeaaGreat
