/- Lemmas for the laws of index. -/
import Derived.Test.YtngfknplljedeaaGreatZr46
import Derived.Test.YtngfknplljedeaaGreatZrTk
import Derived.Test.YtngfknplljedeaaGreatZrHi
namespace Go.Proofs.YtngfknplljedeaaGreat
open Go.RowKit
set_option maxRecDepth 100000 in
set_option maxHeartbeats 4000000 in
theorem ixLarge_any (cs : List Value) (ca : CA) (w : World) (h : CAt w.heap.size cs ca w) :
 Calls Tryz.prog 9 #[.agg cs.toArray] w fun e w' => BigSays ca e ∧ Below w.heap.size w w' := by
 have HCC := hI (show ∀ W, Below w.heap.size w W → CAt W.heap.size cs ca W from fun W hW => (h.below hW).raise hW.size)
 obtain ⟨v1, v2, v3, v4, rfl, r1, r2, r3, r4⟩ := h
 obtain ⟨a1, c1, _, _, rfl, _⟩ := r1
 obtain ⟨a2, c2, _, _, rfl, _⟩ := r2
 obtain ⟨a3, c3, _, _, rfl, _⟩ := r3
 obtain ⟨a4, c4, _, _, rfl, _⟩ := r4
 obtain ⟨n1, hn1⟩ : ∃ n, n = ca.helds.length := ⟨_, rfl⟩
 obtain ⟨n2, hn2⟩ : ∃ n, n = ca.files.length := ⟨_, rfl⟩
 obtain ⟨n3, hn3⟩ : ∃ n, n = ca.names.length := ⟨_, rfl⟩
 obtain ⟨n4, hn4⟩ : ∃ n, n = ca.blocks.length := ⟨_, rfl⟩
 rw [← hn1, ← hn2, ← hn3, ← hn4] at HCC ⊢
 obtain ⟨w1, hw1⟩ : ∃ w1, w1 = w.alloc (.cells #[.slice a1 n1 c1, .slice a2 n2 c2, .slice a3 n3 c3, .slice a4 n4 c4] 27 (0, 0)) := ⟨_, rfl⟩
 have hb1 : Below w.heap.size w w1 := by rw [hw1]; exact (Below.refl _ w).alloc (Nat.le_refl _) _
 have hs1 : w1.heap.size = w.heap.size + 1 := by rw [hw1]; simp
 have hst : St 27 w.heap.size #[.slice a1 n1 c1, .slice a2 n2 c2, .slice a3 n3 c3, .slice a4 n4 c4] w1 := by rw [hw1]; exact St.new w 27 _
 have HCb := hI (show ∀ W, Below w1.heap.size w1 W → W.cell? ⟨w.heap.size, 0, none⟩ = some (.slice a1 n1 c1) ∧ W.cell? ⟨w.heap.size, 1, none⟩ = some (.slice a2 n2 c2) ∧ W.cell? ⟨w.heap.size, 2, none⟩ = some (.slice a3 n3 c3) ∧ W.cell? ⟨w.heap.size, 3, none⟩ = some (.slice a4 n4 c4) from fun W hW => by
  have := hst.below hW
  exact ⟨this.cell rfl, this.cell rfl, this.cell rfl, this.cell rfl⟩)
 have HW1 := hI hw1
 have HB1 := hI hb1
 obtain ⟨e1, e2, e3, e4⟩ := HCb.out w1 (Below.refl _ _)
 have HN := hI (show n1 ≤ 60 → n2 ≤ 60 → n3 ≤ 60 → n4 ≤ 60 → ca.lens 60 from fun h1 h2 h3 h4 => ⟨by omega, by omega, by omega, by omega⟩)
 have HCh := hI (show n1 + n2 + n3 + n4 ≤ 1073741824 → ∀ W, Below w1.heap.size w1 W → Calls Tryz.prog 37 #[.agg #[.slice a1 n1 c1, .slice a2 n2 c2, .slice a3 n3 c3, .slice a4 n4 c4]] W fun e w' => ∃ ac nc cc, e = .returned (.slice ac nc cc) ∧ nc ≤ cc ∧ nc ≤ 9223372036854775807 ∧ nc = ca.changes.length ∧ RowsAt w'.heap.size 18 Ch.vs (.slice ac nc cc) ca.changes w' ∧ Below W.heap.size W w' from fun hm W hW =>
  (rxChanges_any [.slice a1 n1 c1, .slice a2 n2 c2, .slice a3 n3 c3, .slice a4 n4 c4] ca W (HCC.out W (hb1.trans (hW.mono hb1.size))) (by omega)).mono fun e w' ⟨u, he, hr, hb⟩ => by
   have hr := hr.rows
   have hr2 := hr
   obtain ⟨ac, cc, _, _, hu, ⟨hl1, hl2⟩, _⟩ := hr2
   rw [hu] at hr he
   exact ⟨ac, ca.changes.length, cc, he, hl2, hl1, rfl, hr, hb⟩)
 clear hb1 hw1 hst HCC hn1 hn2 hn3 hn4
 show Calls Tryz.prog 9 #[.agg #[.slice a1 n1 c1, .slice a2 n2 c2, .slice a3 n3 c3, .slice a4 n4 c4]] w _
 by_cases g1 : 60 < n1
 · have d1 : decide ((n1 : Int) > 60) = true := decide_eq_true (by omega)
   go_enter Tryz.func9, Tryz.ntmps9
   go_wp2_with fail
   rw [← HW1.out]
   go_quiet (fail)
   go_wp2_with fail
   go_ret
   exact ⟨BigSays.yes _, below_drewN HB1.out _⟩
 have d1 : decide ((n1 : Int) > 60) = false := decide_eq_false (by omega)
 by_cases g2 : 60 < n2
 · have d2 : decide ((n2 : Int) > 60) = true := decide_eq_true (by omega)
   go_enter Tryz.func9, Tryz.ntmps9
   go_wp2_with fail
   rw [← HW1.out]
   go_quiet (fail)
   go_wp2_with fail
   go_ret
   exact ⟨BigSays.yes _, below_drewN HB1.out _⟩
 have d2 : decide ((n2 : Int) > 60) = false := decide_eq_false (by omega)
 by_cases g3 : 60 < n3
 · have d3 : decide ((n3 : Int) > 60) = true := decide_eq_true (by omega)
   go_enter Tryz.func9, Tryz.ntmps9
   go_wp2_with fail
   rw [← HW1.out]
   go_quiet (fail)
   go_wp2_with fail
   go_ret
   exact ⟨BigSays.yes _, below_drewN HB1.out _⟩
 have d3 : decide ((n3 : Int) > 60) = false := decide_eq_false (by omega)
 by_cases g4 : 60 < n4
 · have d4 : decide ((n4 : Int) > 60) = true := decide_eq_true (by omega)
   go_enter Tryz.func9, Tryz.ntmps9
   go_wp2_with fail
   rw [← HW1.out]
   go_quiet (fail)
   go_wp2_with fail
   go_ret
   exact ⟨BigSays.yes _, below_drewN HB1.out _⟩
 have d4 : decide ((n4 : Int) > 60) = false := decide_eq_false (by omega)
 have HLn := hI (HN.out (by omega) (by omega) (by omega) (by omega))
 have HCh := hI (HCh.out (by omega))
 clear HN
 go_enter Tryz.func9, Tryz.ntmps9
 go_wp2_with fail
 rw [← HW1.out]
 have HBD := hI (show Below w1.heap.size w1 w1.drew from (Below.refl _ _).drew)
 have C0 := hI (HCb.out _ HBD.out)
 clear e1 e2 e3 e4
 refine wp_region_held (S := fun W => W.cell? ⟨w.heap.size, 0, none⟩ = some (.slice a1 n1 c1) ∧ W.cell? ⟨w.heap.size, 1, none⟩ = some (.slice a2 n2 c2) ∧ W.cell? ⟨w.heap.size, 2, none⟩ = some (.slice a3 n3 c3) ∧ W.cell? ⟨w.heap.size, 3, none⟩ = some (.slice a4 n4 c4)) (by kernel_rfl) ?_
 change wpAnyH _ _ _ _ _ _ _ _ (World.drew _)
 generalize World.drew w1 = WD at HBD C0 ⊢
 refine tkp 0 (.pointer (some ⟨w.heap.size, 0, none⟩)) rfl (by kernel_rfl) q3 (fun w' hS => ?_) C0.out ?_
 · clear hS; go_simp
 try go_simp
 refine tkp 1 (.slice a1 n1 c1) rfl (by kernel_rfl) q3 (fun w' hS => ?_) C0.out ?_
 · obtain ⟨s0, s1, s2, s3⟩ := hS; go_simp
 try go_simp
 refine tkp 2 (.int .i64 n1) rfl (by kernel_rfl) q3 (fun w' hS => ?_) C0.out ?_
 · clear hS; go_simp
 try go_simp
 refine tkp 3 (.bool false) rfl (by kernel_rfl) q3 (fun w' hS => ?_) C0.out ?_
 · clear hS; go_simp
 try go_simp
 refine tkp 4 (.bool false) rfl (by kernel_rfl) q3 (fun w' hS => ?_) C0.out ?_
 · clear hS; go_simp
 try go_simp
 refine tkp 5 (.pointer (some ⟨w.heap.size, 1, none⟩)) rfl (by kernel_rfl) q3 (fun w' hS => ?_) C0.out ?_
 · clear hS; go_simp
 try go_simp
 refine tkp 6 (.slice a2 n2 c2) rfl (by kernel_rfl) q3 (fun w' hS => ?_) C0.out ?_
 · obtain ⟨s0, s1, s2, s3⟩ := hS; go_simp
 try go_simp
 refine tkp 7 (.int .i64 n2) rfl (by kernel_rfl) q3 (fun w' hS => ?_) C0.out ?_
 · clear hS; go_simp
 try go_simp
 refine tkp 8 (.bool false) rfl (by kernel_rfl) q3 (fun w' hS => ?_) C0.out ?_
 · clear hS; go_simp
 try go_simp
 refine tkp 9 (.bool false) rfl (by kernel_rfl) q3 (fun w' hS => ?_) C0.out ?_
 · clear hS; go_simp
 try go_simp
 refine tkp 10 (.bool false) rfl (by kernel_rfl) q3 (fun w' hS => ?_) C0.out ?_
 · clear hS; go_simp
 try go_simp
 refine tkp 11 (.pointer (some ⟨w.heap.size, 2, none⟩)) rfl (by kernel_rfl) q3 (fun w' hS => ?_) C0.out ?_
 · clear hS; go_simp
 try go_simp
 refine tkp 12 (.slice a3 n3 c3) rfl (by kernel_rfl) q3 (fun w' hS => ?_) C0.out ?_
 · obtain ⟨s0, s1, s2, s3⟩ := hS; go_simp
 try go_simp
 refine tkp 13 (.int .i64 n3) rfl (by kernel_rfl) q3 (fun w' hS => ?_) C0.out ?_
 · clear hS; go_simp
 try go_simp
 refine tkp 14 (.bool false) rfl (by kernel_rfl) q3 (fun w' hS => ?_) C0.out ?_
 · clear hS; go_simp
 try go_simp
 refine tkp 15 (.bool false) rfl (by kernel_rfl) q3 (fun w' hS => ?_) C0.out ?_
 · clear hS; go_simp
 try go_simp
 refine tkp 16 (.bool false) rfl (by kernel_rfl) q3 (fun w' hS => ?_) C0.out ?_
 · clear hS; go_simp
 try go_simp
 refine tkp 17 (.pointer (some ⟨w.heap.size, 3, none⟩)) rfl (by kernel_rfl) q3 (fun w' hS => ?_) C0.out ?_
 · clear hS; go_simp
 try go_simp
 refine tkp 18 (.slice a4 n4 c4) rfl (by kernel_rfl) q3 (fun w' hS => ?_) C0.out ?_
 · obtain ⟨s0, s1, s2, s3⟩ := hS; go_simp
 try go_simp
 refine tkp 19 (.int .i64 n4) rfl (by kernel_rfl) q3 (fun w' hS => ?_) C0.out ?_
 · clear hS; go_simp
 try go_simp
 refine tkp 20 (.bool false) rfl (by kernel_rfl) q3 (fun w' hS => ?_) C0.out ?_
 · clear hS; go_simp
 try go_simp
 refine tkp 21 (.bool false) rfl (by kernel_rfl) q3 (fun w' hS => ?_) C0.out ?_
 · clear hS; go_simp
 try go_simp
 refine tkp 22 (.bool false) rfl (by kernel_rfl) q3 (fun w' hS => ?_) C0.out ?_
 · clear hS; go_simp
 try go_simp
 refine tkp 23 (.agg #[.slice a1 n1 c1, .slice a2 n2 c2, .slice a3 n3 c3, .slice a4 n4 c4]) rfl (by kernel_rfl) q3 (fun w' hS => ?_) C0.out ?_
 · obtain ⟨s0, s1, s2, s3⟩ := hS; go_simp
 try go_simp
 refine tkp 25 (.agg #[.slice a1 n1 c1, .slice a2 n2 c2, .slice a3 n3 c3, .slice a4 n4 c4]) rfl (by kernel_rfl) q3 (fun w' hS => ?_) C0.out ?_
 · obtain ⟨s0, s1, s2, s3⟩ := hS; go_simp
 try go_simp
 refine rd1 24 (by kernel_rfl) rfl fun K hK => ?_
 go_simp
 refine (HCh.out _ HBD.out).mono ?_
 rintro e5 w5 ⟨ac, nc, cc, rfl, hcc, hcm, hnc, h5, b5⟩
 have B5 := hI (HBD.out.trans (b5.mono HBD.out.size))
 have C5 := hI (HCb.out _ B5.out)
 have H5 := hI h5
 have HNc := hI hnc
 clear b5 h5 hnc
 go_simp
 refine hK.out _ _ C5.out (fun S1 => ?_)
 clear hK K S1
 refine rd1 26 (by kernel_rfl) rfl fun K hK => ?_
 go_simp
 refine (HCh.out _ B5.out).mono ?_
 rintro e6 w6 ⟨ac2, nc2, cc2, rfl, hcc2, hcm2, hnc2, h6, b6⟩
 have B6 := hI (B5.out.trans (b6.mono B5.out.size))
 have C6 := hI (HCb.out _ B6.out)
 have H56 := hI b6
 clear h6 b6
 obtain rfl : nc2 = nc := by rw [hnc2, HNc.out]
 clear hnc2
 go_simp
 refine hK.out _ _ C6.out (fun S1 => ?_)
 clear hK K S1
 obtain ⟨m, hm⟩ : ∃ m, m = (if nc2 < 40 then nc2 else 40) := ⟨_, rfl⟩
 have hmn : m ≤ nc2 := by rw [hm]; split <;> omega
 have mm : (if (nc2 : Int) < 40 then (nc2 : Int) else 40) = (m : Int) := by rw [hm]; split <;> (split <;> omega)
 have mn : min (40 : Int) (nc2 : Int) = (m : Int) := by rw [hm]; split <;> omega
 clear hm
 have m0 : (0 : Int) ≤ (m : Int) := by omega
 have m1 : (m : Int) ≤ (cc : Int) := by omega
 have m2 : decide ((m : Int) ≤ (cc : Int)) = true := decide_eq_true m1
 have HLg := hI (rxLarge_any (.slice ac m cc) (ca.changes.take m) w6 (((H5.out).begin (m := m) (by rw [← HNc.out]; exact hmn)).below H56.out))
 refine tkp 27 (.int .i64 nc2) rfl (by kernel_rfl) q3 (fun w' hS => ?_) C6.out ?_
 · clear hS; go_simp
 try go_simp
 refine tkp 28 (.int .i64 m) rfl (by kernel_rfl) q3 (fun w' hS => ?_) C6.out ?_
 · clear hS; go_simp
 try go_simp
 refine tkp 29 (.slice ac m cc) rfl (by kernel_rfl) q3 (fun w' hS => ?_) C6.out ?_
 · clear hS; go_simp
 try go_simp
 refine rd1 30 (by kernel_rfl) rfl fun K hK => ?_
 go_simp
 refine HLg.out.mono ?_
 rintro e7 w7 ⟨⟨r, rfl, _⟩, rfl⟩
 go_simp
 refine hK.out _ _ C6.out (fun S1 => ?_)
 clear hK K S1
 refine tkp 31 (.bool r) rfl (by kernel_rfl) q3 (fun w' hS => ?_) C6.out ?_
 · clear hS; go_simp
 try go_simp
 refine rd1 32 (by kernel_rfl) rfl fun K hK => ?_
 go_simp
 refine hK.out _ _ C6.out (fun S1 => ?_)
 clear hK K S1
 refine wpAnyH_done (by kernel_rfl) ?_ _
 go_wp2_with fail
 go_ret
 exact ⟨BigSays.any _ r HLn.out, HB1.out.trans (B6.out.mono HB1.out.size)⟩
end Go.Proofs.YtngfknplljedeaaGreat
