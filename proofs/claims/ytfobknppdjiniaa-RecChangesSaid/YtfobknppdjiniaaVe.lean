/- The law of the changes that make a cache: its walk. -/
import Derived.Test.YtfobknppdjiniaaVp
namespace Go.Proofs.Ytfobknppdjiniaa
open Go.RowKit

set_option maxRecDepth 100000 in
set_option maxHeartbeats 4000000 in
theorem rchanges_walk (cs : List Value) (ca : CA) (w : World) (h : CAt w.heap.size cs ca w) :
    Calls Try.prog 3 #[.agg cs.toArray] w fun e w' => e = .returned (.bool true) ∧ Below w.heap.size w w' := by
  have hs := h
  obtain ⟨v1, v2, v3, v4, rfl, r1, r2, r3, r4⟩ := h
  obtain ⟨ao1, cap1, b1, off1, rfl, hl1, _⟩ := r1.walk
  obtain ⟨ao2, cap2, b2, off2, rfl, hl2, _⟩ := r2.walk
  obtain ⟨ao3, cap3, b3, off3, rfl, hl3, _⟩ := r3.walk
  obtain ⟨ao4, cap4, b4, off4, rfl, hl4, _⟩ := r4.walk
  obtain ⟨n1, hn1⟩ : ∃ n, n = ca.helds.length := ⟨_, rfl⟩
  obtain ⟨n2, hn2⟩ : ∃ n, n = ca.files.length := ⟨_, rfl⟩
  obtain ⟨n3, hn3⟩ : ∃ n, n = ca.names.length := ⟨_, rfl⟩
  obtain ⟨n4, hn4⟩ : ∃ n, n = ca.blocks.length := ⟨_, rfl⟩
  rw [← hn1, ← hn2, ← hn3, ← hn4] at hs ⊢
  have HK := Lib.hid (fun W (hW : Below w.heap.size w W) => (rxknown_any W).mono (R' := fun e w' => e = .returned (.bool true) ∧ Below w.heap.size w w') fun e w' ⟨he, hb⟩ => ⟨he, hW.trans (hb.mono hW.size)⟩)
  obtain ⟨w1, hw1⟩ : ∃ w1, w1 = w.alloc (.cells #[.slice ao1 n1 cap1, .slice ao2 n2 cap2, .slice ao3 n3 cap3, .slice ao4 n4 cap4] 27 (0, 0)) := ⟨_, rfl⟩
  have hs1 : w1.heap.size = w.heap.size + 1 := by rw [hw1]; simp
  have hb1 : Below w.heap.size w w1 := by rw [hw1]; exact (Below.refl _ w).alloc (Nat.le_refl _) _
  have hst : St 27 w.heap.size #[.slice ao1 n1 cap1, .slice ao2 n2 cap2, .slice ao3 n3 cap3, .slice ao4 n4 cap4] w1 := by rw [hw1]; exact St.new w 27 _
  have HC := Lib.hid (show ∀ W, Below w1.heap.size w1 W → W.cell? ⟨w.heap.size, 0, none⟩ = some (.slice ao1 n1 cap1) ∧ W.cell? ⟨w.heap.size, 1, none⟩ = some (.slice ao2 n2 cap2) ∧ W.cell? ⟨w.heap.size, 2, none⟩ = some (.slice ao3 n3 cap3) ∧ W.cell? ⟨w.heap.size, 3, none⟩ = some (.slice ao4 n4 cap4) from fun W hW => by
    have := hst.below hW
    exact ⟨this.cell rfl, this.cell rfl, this.cell rfl, this.cell rfl⟩)
  have HW1 := Lib.hid hw1
  have HB1 := Lib.hid hb1
  have HD1 := Lib.hid (show Below w1.heap.size w1 w1.drew from (Below.refl _ w1).drew)
  obtain ⟨c0, c1, c2, c3⟩ := HC.out w1 (Below.refl _ w1)
  clear hst hl1 hl2 hl3 hl4 r1 r2 r3 r4
  by_cases g : n1 ≤ 100 ∧ n2 ≤ 100 ∧ n3 ≤ 100 ∧ n4 ≤ 100
  · obtain ⟨g1, g2, g3, g4⟩ := g
    have d1 : decide ((n1 : Int) > 100) = false := decide_eq_false (by omega)
    have d2 : decide ((n2 : Int) > 100) = false := decide_eq_false (by omega)
    have d3 : decide ((n3 : Int) > 100) = false := decide_eq_false (by omega)
    have d4 : decide ((n4 : Int) > 100) = false := decide_eq_false (by omega)
    have hsum : ca.helds.length + ca.files.length + ca.names.length + ca.blocks.length ≤ 1073741824 := by omega
    have HS := Lib.hid (show ∀ W, Below w1.heap.size w1 W → CAt W.heap.size [.slice ao1 n1 cap1, .slice ao2 n2 cap2, .slice ao3 n3 cap3, .slice ao4 n4 cap4] ca W from fun W hW => by
      have hb : Below w.heap.size w W := hb1.trans (hW.mono hb1.size)
      obtain ⟨a1, a2, a3, a4, e, q1, q2, q3, q4⟩ := hs.below hb
      exact ⟨a1, a2, a3, a4, e, q1.raise hb.size, q2.raise hb.size, q3.raise hb.size, q4.raise hb.size⟩)
    have HA := Lib.hid (show ∀ W, Below w1.heap.size w1 W → Calls Try.prog 6 #[.agg #[.slice ao1 n1 cap1, .slice ao2 n2 cap2, .slice ao3 n3 cap3, .slice ao4 n4 cap4]] W fun e w' => ∃ v, e = .returned v ∧ RowsAt w'.heap.size 18 Ch.vs v ca.changes w' ∧ Below w1.heap.size w1 w' from fun W hW =>
      (rcChanges_any _ ca W (HS.out W hW) hsum).mono fun e w' ⟨v, he, hr, hb⟩ => ⟨v, he, hr, hW.trans (hb.mono hW.size)⟩)
    have HR := Lib.hid (show ∀ v W, RowsAt W.heap.size 18 Ch.vs v ca.changes W → Below w1.heap.size w1 W → Calls Try.prog 7 #[.agg #[.slice ao1 n1 cap1, .slice ao2 n2 cap2, .slice ao3 n3 cap3, .slice ao4 n4 cap4]] W fun e w' => ∃ v2, e = .returned v2 ∧ (RowsAt w'.heap.size 18 Ch.vs v ca.changes w' ∧ RowsAt w'.heap.size 18 Ch.vs v2 ca.changes w') ∧ Below w1.heap.size w1 w' from fun v W hv hW =>
      (rxChanges_any _ ca W (HS.out W hW) hsum).mono fun e w' ⟨v2, he, hr, hb⟩ => ⟨v2, he, ⟨(hv.below hb).raise hb.size, ChRow.rows hr⟩, hW.trans (hb.mono hW.size)⟩)
    have HE := Lib.hid (show ∀ v v2 W, RowsAt W.heap.size 18 Ch.vs v ca.changes W ∧ RowsAt W.heap.size 18 Ch.vs v2 ca.changes W → Below w1.heap.size w1 W → Calls Try.prog 5 #[v, v2] W fun e w' => e = .returned (.bool true) ∧ Below w1.heap.size w1 w' from fun v v2 W hv hW =>
      (rxSame_any v v2 _ _ W hv.1 hv.2).mono fun e w' ⟨he, hb⟩ => ⟨by rw [he, decide_eq_true rfl], hW.trans (hb.mono hW.size)⟩)
    have HKn := Lib.hid (show ∀ W, Below w1.heap.size w1 W → Calls Try.prog 4 #[] W fun e w' => e = .returned (.bool true) ∧ Below w1.heap.size w1 w' from fun W hW =>
      (rxknown_any W).mono fun e w' ⟨he, hb⟩ => ⟨he, hW.trans (hb.mono hW.size)⟩)
    clear hs hsum hb1 g1 g2 g3 g4 HK hn1 hn2 hn3 hn4 hw1
    go_enter Try.func3, Try.ntmps3
    go_wp2_with fail
    rw [← HW1.out]
    go_wp2_with fail
    go_region_held3 (fun W => W.cell? ⟨w.heap.size, 0, none⟩ = some (.slice ao1 n1 cap1) ∧ W.cell? ⟨w.heap.size, 1, none⟩ = some (.slice ao2 n2 cap2) ∧ W.cell? ⟨w.heap.size, 2, none⟩ = some (.slice ao3 n3 cap3) ∧ W.cell? ⟨w.heap.size, 3, none⟩ = some (.slice ao4 n4 cap4)) (first | exact HC.out _ HD1.out | exact HC.out _ B2.out | exact HC.out _ B3.out | exact HC.out _ B4.out | exact HC.out _ B5.out) (first
      | (go_at_call 6; (refine (HA.out _ HD1.out).mono ?_); rintro e2 w2 ⟨u1, rfl, s2, b2⟩; have S2 := Lib.hid s2; have B2 := Lib.hid b2; clear s2 b2)
      | (go_at_call 7; (refine (HR.out _ _ S2.out B2.out).mono ?_); rintro e3 w3 ⟨u2, rfl, s3, b3⟩; have S3 := Lib.hid s3; have B3 := Lib.hid b3; clear s3 b3)
      | (go_at_call 5; (refine (HE.out _ _ _ S3.out B3.out).mono ?_); rintro e4 w4 ⟨rfl, b4⟩; have B4 := Lib.hid b4; clear b4)
      | (go_at_call 4; (refine (HKn.out _ B4.out).mono ?_); rintro e5 w5 ⟨rfl, b5⟩; have B5 := Lib.hid b5; clear b5))
    all_goals (
      go_wp2_with fail
      go_ret
      exact ⟨rfl, HB1.out.trans (B5.out.mono HB1.out.size)⟩)
  · have HK1 := Lib.hid (HK.out w1 hb1)
    clear HC HD1 HK hs hn1 hn2 hn3 hn4 hw1
    by_cases g1 : 100 < n1
    · have d1 : decide ((n1 : Int) > 100) = true := decide_eq_true (by omega)
      clear g g1
      go_enter Try.func3, Try.ntmps3
      go_wp2_with (go_at_call 4; rw [← HW1.out]; go_must (with_reducible refine HK1.out.mono ?_); rintro e w2 ⟨rfl, b2⟩)
      go_ret
      exact ⟨rfl, b2⟩
    have d1 : decide ((n1 : Int) > 100) = false := decide_eq_false (by omega)
    by_cases g2 : 100 < n2
    · have d2 : decide ((n2 : Int) > 100) = true := decide_eq_true (by omega)
      clear g g1 g2
      go_enter Try.func3, Try.ntmps3
      go_wp2_with (go_at_call 4; rw [← HW1.out]; go_must (with_reducible refine HK1.out.mono ?_); rintro e w2 ⟨rfl, b2⟩)
      go_ret
      exact ⟨rfl, b2⟩
    have d2 : decide ((n2 : Int) > 100) = false := decide_eq_false (by omega)
    by_cases g3 : 100 < n3
    · have d3 : decide ((n3 : Int) > 100) = true := decide_eq_true (by omega)
      clear g g1 g2 g3
      go_enter Try.func3, Try.ntmps3
      go_wp2_with (go_at_call 4; rw [← HW1.out]; go_must (with_reducible refine HK1.out.mono ?_); rintro e w2 ⟨rfl, b2⟩)
      go_ret
      exact ⟨rfl, b2⟩
    have d3 : decide ((n3 : Int) > 100) = false := decide_eq_false (by omega)
    have d4 : decide ((n4 : Int) > 100) = true := decide_eq_true (by omega)
    clear g g1 g2 g3
    go_enter Try.func3, Try.ntmps3
    go_wp2_with (go_at_call 4; rw [← HW1.out]; go_must (with_reducible refine HK1.out.mono ?_); rintro e w2 ⟨rfl, b2⟩)
    go_ret
    exact ⟨rfl, b2⟩
end Go.Proofs.Ytfobknppdjiniaa
