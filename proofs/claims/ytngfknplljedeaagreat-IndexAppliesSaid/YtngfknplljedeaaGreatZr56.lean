/- Lemmas for the laws of index. -/
import Derived.Test.YtngfknplljedeaaGreatZr45
import Derived.Test.YtngfknplljedeaaGreatZr52
import Derived.Test.YtngfknplljedeaaGreatZrHi
namespace Go.Proofs.YtngfknplljedeaaGreat
open Go.RowKit
theorem ite_or {c : CA} {p : Prop} [Decidable p] {a b : CA × Bool} (ha : a = (c, false) ∨ a.2 = true) (hb : b = (c, false) ∨ b.2 = true) : (if p then a else b) = (c, false) ∨ (if p then a else b).2 = true := by
 by_cases h : p
 · rw [if_pos h]; exact ha
 · rw [if_neg h]; exact hb
theorem CA.goes_or (c : CA) (x : Ch) : c.goes x = (c, false) ∨ (c.goes x).2 = true := by
 unfold CA.goes
 exact ite_or (ite_or (.inl rfl) (.inr rfl)) (ite_or (ite_or (.inl rfl) (.inr rfl)) (ite_or (ite_or (.inl rfl) (.inr rfl)) (ite_or (ite_or (.inl rfl) (.inr rfl)) (ite_or (.inl rfl) (.inr rfl)))))
theorem CA.apply_or (c : CA) (x : Ch) : c.apply x = (c, false) ∨ (c.apply x).2 = true := by
 unfold CA.apply
 exact ite_or (.inl rfl) (ite_or (ite_or (.inl rfl) (.inr rfl)) (ite_or (.inr rfl) (ite_or (ite_or (.inl rfl) (.inr rfl)) (ite_or (ite_or (.inl rfl) (.inr rfl)) (c.goes_or x)))))
theorem CA.apply_kept (c : CA) (x : Ch) (h : (c.apply x).2 = false) : (c.apply x).1 = c := by
 rcases c.apply_or x with e | e
 · rw [e]
 · rw [h] at e; cases e
theorem CA.all_one (c : CA) (x : Ch) : c.all [x] = if (c.apply x).2 = true then ((c.apply x).1, true) else (c, false) := by
 by_cases h : (c.apply x).2 = true
 · simp [CA.all, CA.allFrom, h]
 · simp [CA.all, CA.allFrom, h]
theorem CA.all_apply (c : CA) (x : Ch) : c.all [x] = c.apply x := by
 rw [CA.all_one]
 cases h : (c.apply x).2 with
 | true =>
  rw [if_pos rfl]
  exact Prod.ext rfl h.symm
 | false =>
  rw [if_neg (by decide)]
  exact Prod.ext (CA.apply_kept c x h).symm h.symm
theorem infoChZ : (Tryz.prog.info? 40).map (fun i => (i.zero, i.size, i.bytes)) = some (some (.agg #[.int .i64 0, .int .i64 0, .int .i64 0, .string ⟨#[]⟩, .string ⟨#[]⟩, .string ⟨#[]⟩, .int .i64 0, .int .i64 0, .int .i64 0, .int .i64 0, .int .i64 0, .int .i64 0, .int .i64 0, .int .i64 0, .int .i64 0, .int .i64 0, .int .i64 0, .int .i64 0]), 18, 168) := by kernel_rfl
theorem run_ch1 (W : World) (c0 : Array Value) (h0 : c0.size = 18) :
 (Instr.buildSlice 33 1 #[(0, .agg c0)]).run Tryz.prog W = .ok (.slice (some ⟨W.heap.size, 0, none⟩) 1 1) (W.alloc (.cells c0 40)) := by
 obtain ⟨i0, hi, hz0, hz1, hz2⟩ := info_parts infoChZ
 refine run_buildSlice W 33 40 1 _ _ i0 _ Tryz.underlying33 hi hz0 (by rw [hz1]; decide) (by rw [hz1]; decide) ?_
 rw [hz1]
 have hfw := Great.fill_whole (s := 18) (by decide) [.agg c0] ((Array.range (1 * 18)).map ((Value.agg #[.int .i64 0, .int .i64 0, .int .i64 0, .string ⟨#[]⟩, .string ⟨#[]⟩, .string ⟨#[]⟩, .int .i64 0, .int .i64 0, .int .i64 0, .int .i64 0, .int .i64 0, .int .i64 0, .int .i64 0, .int .i64 0, .int .i64 0, .int .i64 0, .int .i64 0, .int .i64 0]).cells[· % (Value.agg #[.int .i64 0, .int .i64 0, .int .i64 0, .string ⟨#[]⟩, .string ⟨#[]⟩, .string ⟨#[]⟩, .int .i64 0, .int .i64 0, .int .i64 0, .int .i64 0, .int .i64 0, .int .i64 0, .int .i64 0, .int .i64 0, .int .i64 0, .int .i64 0, .int .i64 0, .int .i64 0]).cells.size]!)) (by
  intro v hv
  simp only [List.mem_cons, List.not_mem_nil, or_false] at hv
  rcases hv with rfl
  exact h0) (by simp)
 rw [show ([Value.agg c0].flatMap fun v => v.cells.toList).toArray = c0 from by simp [Value.cells]] at hfw
 exact hfw
set_option maxRecDepth 100000 in
set_option maxHeartbeats 4000000 in
theorem inApply_any (cs : List Value) (ca : CA) (x : Ch) (w : World) (h : CAt w.heap.size cs ca w) (ho : ca.Ok) (hm : ca.lens 1073740000) (hx : x.num) :
 Calls Tryz.prog 15 #[.agg cs.toArray, .agg x.vs.toArray] w fun e w' => ∃ ds, e = .returned (.tuple #[.agg ds.toArray, .bool (ca.apply x).2]) ∧ CAt w'.heap.size ds (ca.apply x).1 w' ∧ Below w.heap.size w w' := by
 obtain ⟨p1, t1, k1, p2, t2, k2, p3, t3, k3, p4, t4, k4, rfl⟩ := h.slices
 obtain ⟨xv, hxv⟩ : ∃ xv, xv = x.vs.toArray := ⟨_, rfl⟩
 have HV := hI (show xv.size = 18 from by rw [hxv]; rfl)
 obtain ⟨w1, hw1⟩ : ∃ w1, w1 = ((w.alloc (.cells #[.slice p1 t1 k1, .slice p2 t2 k2, .slice p3 t3 k3, .slice p4 t4 k4] 27 (0, 0))).alloc (.cells xv 40 (0, 0))).alloc (.cells #[.slice none 0 0, .slice none 0 0, .slice none 0 0, .slice none 0 0] 27 (0, 0)) := ⟨_, rfl⟩
 have hb1 : Below w.heap.size w w1 := by rw [hw1]; exact (((Below.refl _ w).alloc (Nat.le_refl _) _).alloc (by simp) _).alloc (by simp; omega) _
 have hs1 : w1.heap.size = w.heap.size + 1 + 1 + 1 := by rw [hw1]; simp
 have st1 : St 40 (w.heap.size + 1) xv w1 := by rw [hw1]; exact (St.new1 w _ _ _).alloc _
 have st2 : St 27 (w.heap.size + 1 + 1) #[.slice none 0 0, .slice none 0 0, .slice none 0 0, .slice none 0 0] w1 := by rw [hw1]; exact St.new2 w _ _ _ _
 obtain ⟨w2, hw2⟩ : ∃ w2, w2 = w1.alloc (.cells xv 40 (0, 0)) := ⟨_, rfl⟩
 have hb2 : Below w1.heap.size w1 w2 := by rw [hw2]; exact (Below.refl _ w1).alloc (Nat.le_refl _) _
 have s3 : St 40 w1.heap.size ([x].flatMap Ch.vs).toArray w2 := by rw [hw2, hxv, show ([x].flatMap Ch.vs) = x.vs from by simp]; exact St.new _ _ _
 obtain ⟨g, hg⟩ : ∃ g, g = (ca.apply x).2 := ⟨_, rfl⟩
 obtain ⟨cd, hcd⟩ : ∃ c, c = (ca.apply x).1 := ⟨_, rfl⟩
 have HA := hI (show Calls Tryz.prog 19 #[.agg #[.slice p1 t1 k1, .slice p2 t2 k2, .slice p3 t3 k3, .slice p4 t4 k4], .slice (some ⟨w1.heap.size, 0, none⟩) 1 1] w2 fun e w' => ∃ a1 n1 c1 a2 n2 c2 a3 n3 c3 a4 n4 c4, e = .returned (.tuple #[.agg #[.slice a1 n1 c1, .slice a2 n2 c2, .slice a3 n3 c3, .slice a4 n4 c4], .bool g]) ∧ CAt w'.heap.size [.slice a1 n1 c1, .slice a2 n2 c2, .slice a3 n3 c3, .slice a4 n4 c4] cd w' ∧ Below w1.heap.size w1 w' from by
  have hb := hb1.trans (hb2.mono hb1.size)
  refine (inAll_any [.slice p1 t1 k1, .slice p2 t2 k2, .slice p3 t3 k3, .slice p4 t4 k4] ca (.slice (some ⟨w1.heap.size, 0, none⟩) 1 1) [x] w2 ((h.below hb).raise hb.size) ho 1073740000 hm (RowsAt.made Ch.vs_length s3 (by simp)) (by simp) (fun y hy => by rw [List.mem_singleton] at hy; rw [hy]; exact hx)).mono ?_
  rintro e w' ⟨ds, he, hc, hb3⟩
  rw [CA.all_apply, ← hg] at he
  rw [CA.all_apply, ← hcd] at hc
  obtain ⟨a1, n1, c1, a2, n2, c2, a3, n3, c3, a4, n4, c4, rfl⟩ := hc.slices
  exact ⟨_, _, _, _, _, _, _, _, _, _, _, _, he, hc, hb2.trans (hb3.mono hb2.size)⟩)
 rw [← hg, ← hcd]
 have HW1 := hI hw1
 have HW2 := hI hw2
 have HB1 := hI hb1
 have HZ1 := hI hs1
 have ST1 := hI st1
 have HT := hI (show ∀ W, Below w1.heap.size w1 W → St 27 (w.heap.size + 1 + 1) #[.slice none 0 0, .slice none 0 0, .slice none 0 0, .slice none 0 0] W from fun W hW => st2.below hW)
 show Calls Tryz.prog 15 #[.agg #[.slice p1 t1 k1, .slice p2 t2 k2, .slice p3 t3 k3, .slice p4 t4 k4], .agg x.vs.toArray] w _
 rw [← hxv]
 clear hg hcd hb1 hb2 s3 st1 st2 hw1 hw2 hs1 h ho hm hx hxv
 go_enter Tryz.func15, Tryz.ntmps15
 go_wp2_with (first
  | ((with_reducible show wpList _ _ _ ({ dst := some 7, op := .load 40 _, type := _, pos := _, after := _, guard := _ } :: _) _ _); rw [← HW1.out]; refine wpList_load_st rfl 40 _ rfl (w.heap.size + 1) (by first | rfl | simp [Act.eval, Act.put]) 40 xv ST1.out _ Tryz.underlying40 rfl (by rw [HV.out]; kernel_rfl) ?_)
  | ((with_reducible show wpList _ _ _ ({ dst := _, op := .buildSlice _ _ _, type := _, pos := _, after := _, guard := _ } :: _) _ _); refine wpList_buildSlice_as rfl 33 40 1 _ rfl #[(0, .agg xv)] xv (by first | rfl | simp [Act.eval, Act.put]) (fun W => run_ch1 W xv HV.out) ?_; rw [show w1.alloc (.cells xv 40) = w2 from HW2.out.symm])
  | ((with_reducible refine HA.out.mono ?_); rintro e w5 ⟨a1, n1, c1, a2, n2, c2, a3, n3, c3, a4, n4, c4, rfl, h5, b5⟩; have H5 := hI h5; have B5 := hI b5; clear h5 b5)
  | ((with_reducible show wpList _ _ _ ({ dst := _, op := .store 27 (.tmp 4) _, type := _, pos := _, after := _, guard := _ } :: _) _ _); refine wpList_store_st rfl 27 _ _ rfl (w.heap.size + 1 + 1) #[.slice a1 n1 c1, .slice a2 n2 c2, .slice a3 n3 c3, .slice a4 n4 c4] (by first | rfl | simp [Act.eval, Act.put]) (by first | rfl | simp [Act.eval, Act.put]) _ (HT.out _ B5.out) (by kernel_rfl) rfl (by simp [Value.oneCell']) ?_; rintro w10 hw10 sw10; have Hw10 := hI hw10; have Sw10 := hI sw10; clear hw10 sw10))
 refine ret_cell2 (r := 4) (t := 5) (x := .bool g) rfl (by first | (simp; done) | simp [Act.put]) (by first | (simp; done) | simp [Act.put]) Sw10.out Tryz.underlying27 rfl (by kernel_rfl) rfl ?_
 refine ⟨[.slice a1 n1 c1, .slice a2 n2 c2, .slice a3 n3 c3, .slice a4 n4 c4], rfl, ?_, by rw [Hw10.out]; exact below_row (HB1.out.trans (B5.out.mono HB1.out.size)) (by omega) _⟩
 have h0 : InBox 27 (w.heap.size + 1 + 1) [.slice none 0 0, .slice none 0 0, .slice none 0 0, .slice none 0 0] CA.none w5 := ⟨HT.out _ B5.out, zero_at _ _⟩
 rw [Hw10.out]
 exact (h0.put H5.out).at'
end Go.Proofs.YtngfknplljedeaaGreat
