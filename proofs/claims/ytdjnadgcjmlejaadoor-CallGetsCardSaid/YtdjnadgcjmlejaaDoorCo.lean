/- attr: the reference's bytes of options and changes (as XAf has them, under names that stand beside the readers'). -/
import Derived.Test.YtdjnadgcjmlejaaDoorAd
import Derived.Deep.RegionHeld3
import Derived.Test.YtdjnadgcjmlejaaDoorRf
namespace Go.Proofs.YtdjnadgcjmlejaaDoor
open Go.Joins Go.RowKit

set_option maxRecDepth 100000 in
theorem rfOptB_any (is : Bool) (n most : Int) (w : World) (h : okPo ⟨is, n⟩ most = true) (hn : n ≤ 9223372036854775807) :
    Calls Tryd.prog 27 #[.agg #[.bool is, .int .i64 n]] w fun e w' => e = .returned (.string (str (poBytes ⟨is, n⟩))) ∧ Below w.heap.size w w' := by
  cases is
  · have e : poBytes ⟨false, n⟩ = be 4 (if false then 1 else 0) := rfl
    rw [e]
    have HT := Lib.hid (fun w => rTruth_any false w)
    obtain ⟨b0, hb0⟩ : ∃ b, b = be 4 (if false then 1 else 0) := ⟨_, rfl⟩
    rw [← hb0] at HT ⊢
    clear hb0 e
    go_enter Tryd.func27, Tryd.ntmps27
    go_wp2_with fail
    go_must (refine (HT.out _).mono ?_)
    rintro e w1 ⟨rfl, b1⟩
    go_wp2_with fail
    go_ret
    exact ⟨rfl, (below_alloc1 w _).trans (b1.mono (by simp))⟩
  · have h0 : 0 ≤ n := by
      have := (okIn_iff n most).1 h
      exact this.1
    obtain ⟨m, rfl⟩ := Int.eq_ofNat_of_zero_le h0
    have e : poBytes ⟨true, (m : Int)⟩ = be 4 (if true then 1 else 0) ++ be 8 m := rfl
    rw [e, ← str_append]
    have HT := Lib.hid (fun w => rTruth_any true w)
    have HN := Lib.hid (fun w => rNum_any m 8 w (by omega) (by omega))
    have l0 : (str (be 4 (if true then 1 else 0))).size = 4 := by rw [str_size, be_length]
    have l1 : (str (be 8 m)).size = 8 := by rw [str_size, be_length]
    obtain ⟨u, hu⟩ : ∃ b, b = str (be 4 (if true then 1 else 0)) := ⟨_, rfl⟩
    obtain ⟨v, hv⟩ : ∃ b, b = str (be 8 m) := ⟨_, rfl⟩
    rw [← hu] at HT l0 ⊢
    rw [← hv] at HN l1 ⊢
    have tt : St 26 w.heap.size #[.bool true, .int .i64 m] (w.alloc (.cells #[.bool true, .int .i64 m] 26 (0, 0))).drew := St.new w 26 _
    have ff : Below w.heap.size w (w.alloc (.cells #[.bool true, .int .i64 m] 26 (0, 0))).drew := (below_alloc1 w _).drew
    clear hu hv e h h0
    go_enter Tryd.func27, Tryd.ntmps27
    go_wp2_with fail
    go_region_held3 (fun w' => w'.cell? ⟨w.heap.size, 1, none⟩ = some (.int .i64 m))
      (first | assumption | (simp; done))
      (first
        | (go_at_call 63; go_must (refine (HT.out _).mono ?_); rintro e ww ⟨rfl, bb⟩; have g := st_step (k := w.heap.size) (T := 26) (cs := #[.bool true, .int .i64 m]) (w := w) bb (by assumption) (by assumption); have tt := g.1; have qq := tt.cell (j := 1) rfl; have ff := g.2; clear g)
        | (go_at_call 25; go_must (refine (HN.out _).mono ?_); rintro e ww ⟨rfl, bb⟩; have g := st_step (k := w.heap.size) (T := 26) (cs := #[.bool true, .int .i64 m]) (w := w) bb (by assumption) (by assumption); have tt := g.1; have qq := tt.cell (j := 1) rfl; have ff := g.2; clear g))
    go_wp2
    go_ret
    exact ⟨rfl, by assumption⟩

set_option maxHeartbeats 2000000 in
set_option maxRecDepth 100000 in
theorem afSetBytes_at (s : Ps) (w : World) (hs : okPs s = true) (hn : s.num) : Calls Tryd.prog 26 #[s.val] w fun e w' => e = .returned (.string (str (psBytes s))) ∧ Below w.heap.size w w' := by
  obtain ⟨⟨i0, n0⟩, ⟨i1, n1⟩, ⟨i2, n2⟩, ⟨i3, n3⟩, ⟨i4, n4⟩⟩ := s
  simp only [okPs, Bool.and_eq_true] at hs
  obtain ⟨⟨⟨⟨s0, s1⟩, s2⟩, s3⟩, s4⟩ := hs
  obtain ⟨h0, h1, h2, h3, h4⟩ := hn
  simp only [Ps.val, Ps.vs, Po.vs, List.cons_append, List.nil_append, psBytes]
  have O0 := fun w => rfOptB_any i0 n0 _ w s0 h0.2
  have l0 : (str (poBytes ⟨i0, n0⟩)).size ≤ 12 := by rw [str_size]; exact poBytes_len _
  have O1 := fun w => rfOptB_any i1 n1 _ w s1 h1.2
  have l1 : (str (poBytes ⟨i1, n1⟩)).size ≤ 12 := by rw [str_size]; exact poBytes_len _
  have O2 := fun w => rfOptB_any i2 n2 _ w s2 h2.2
  have l2 : (str (poBytes ⟨i2, n2⟩)).size ≤ 12 := by rw [str_size]; exact poBytes_len _
  have O3 := fun w => rfOptB_any i3 n3 _ w s3 h3.2
  have l3 : (str (poBytes ⟨i3, n3⟩)).size ≤ 12 := by rw [str_size]; exact poBytes_len _
  have O4 := fun w => rfOptB_any i4 n4 _ w s4 h4.2
  have l4 : (str (poBytes ⟨i4, n4⟩)).size ≤ 12 := by rw [str_size]; exact poBytes_len _
  rw [← str_append, ← str_append, ← str_append, ← str_append]
  obtain ⟨p0, hp0⟩ : ∃ p, p = str (poBytes ⟨i0, n0⟩) := ⟨_, rfl⟩
  rw [← hp0] at O0 l0 ⊢
  replace O0 := Lib.hid O0
  obtain ⟨p1, hp1⟩ : ∃ p, p = str (poBytes ⟨i1, n1⟩) := ⟨_, rfl⟩
  rw [← hp1] at O1 l1 ⊢
  replace O1 := Lib.hid O1
  obtain ⟨p2, hp2⟩ : ∃ p, p = str (poBytes ⟨i2, n2⟩) := ⟨_, rfl⟩
  rw [← hp2] at O2 l2 ⊢
  replace O2 := Lib.hid O2
  obtain ⟨p3, hp3⟩ : ∃ p, p = str (poBytes ⟨i3, n3⟩) := ⟨_, rfl⟩
  rw [← hp3] at O3 l3 ⊢
  replace O3 := Lib.hid O3
  obtain ⟨p4, hp4⟩ : ∃ p, p = str (poBytes ⟨i4, n4⟩) := ⟨_, rfl⟩
  rw [← hp4] at O4 l4 ⊢
  replace O4 := Lib.hid O4
  clear hp0 s0 h0 hp1 s1 h1 hp2 s2 h2 hp3 s3 h3 hp4 s4 h4
  have tt : St 28 w.heap.size #[.bool i0, .int .i64 n0, .bool i1, .int .i64 n1, .bool i2, .int .i64 n2, .bool i3, .int .i64 n3, .bool i4, .int .i64 n4] (w.alloc (.cells #[.bool i0, .int .i64 n0, .bool i1, .int .i64 n1, .bool i2, .int .i64 n2, .bool i3, .int .i64 n3, .bool i4, .int .i64 n4] 28 (0, 0))).drew := St.new w 28 _
  have ff : Below w.heap.size w (w.alloc (.cells #[.bool i0, .int .i64 n0, .bool i1, .int .i64 n1, .bool i2, .int .i64 n2, .bool i3, .int .i64 n3, .bool i4, .int .i64 n4] 28 (0, 0))).drew := (below_alloc1 w _).drew
  have z1 : ¬ 9223372036854775807 < p0.size + p1.size := by omega
  have z2 : ¬ 9223372036854775807 < p0.size + p1.size + p2.size := by omega
  have z3 : ¬ 9223372036854775807 < p0.size + p1.size + p2.size + p3.size := by omega
  have z4 : ¬ 9223372036854775807 < p0.size + p1.size + p2.size + p3.size + p4.size := by omega
  clear l0 l1 l2 l3 l4
  go_enter Tryd.func26, Tryd.ntmps26
  go_wp2_with fail
  go_region_held3 (fun w' => w'.cell? ⟨w.heap.size, 0, none⟩ = some (.bool i0) ∧ w'.cell? ⟨w.heap.size, 1, none⟩ = some (.int .i64 n0) ∧ w'.cell? ⟨w.heap.size, 2, none⟩ = some (.bool i1) ∧ w'.cell? ⟨w.heap.size, 3, none⟩ = some (.int .i64 n1) ∧ w'.cell? ⟨w.heap.size, 4, none⟩ = some (.bool i2) ∧ w'.cell? ⟨w.heap.size, 5, none⟩ = some (.int .i64 n2) ∧ w'.cell? ⟨w.heap.size, 6, none⟩ = some (.bool i3) ∧ w'.cell? ⟨w.heap.size, 7, none⟩ = some (.int .i64 n3) ∧ w'.cell? ⟨w.heap.size, 8, none⟩ = some (.bool i4) ∧ w'.cell? ⟨w.heap.size, 9, none⟩ = some (.int .i64 n4))
    (first | assumption | (simp; done))
    (first
      | (go_at_call 27; with_reducible refine (O0.out _).mono ?_; rintro e ww ⟨rfl, bb⟩; have g := st_step (k := w.heap.size) (T := 28) (cs := #[.bool i0, .int .i64 n0, .bool i1, .int .i64 n1, .bool i2, .int .i64 n2, .bool i3, .int .i64 n3, .bool i4, .int .i64 n4]) (w := w) bb (by assumption) (by assumption); have tt := g.1; have qq := tt.cell10; have ff := g.2; clear g)
      | (go_at_call 27; with_reducible refine (O1.out _).mono ?_; rintro e ww ⟨rfl, bb⟩; have g := st_step (k := w.heap.size) (T := 28) (cs := #[.bool i0, .int .i64 n0, .bool i1, .int .i64 n1, .bool i2, .int .i64 n2, .bool i3, .int .i64 n3, .bool i4, .int .i64 n4]) (w := w) bb (by assumption) (by assumption); have tt := g.1; have qq := tt.cell10; have ff := g.2; clear g)
      | (go_at_call 27; with_reducible refine (O2.out _).mono ?_; rintro e ww ⟨rfl, bb⟩; have g := st_step (k := w.heap.size) (T := 28) (cs := #[.bool i0, .int .i64 n0, .bool i1, .int .i64 n1, .bool i2, .int .i64 n2, .bool i3, .int .i64 n3, .bool i4, .int .i64 n4]) (w := w) bb (by assumption) (by assumption); have tt := g.1; have qq := tt.cell10; have ff := g.2; clear g)
      | (go_at_call 27; with_reducible refine (O3.out _).mono ?_; rintro e ww ⟨rfl, bb⟩; have g := st_step (k := w.heap.size) (T := 28) (cs := #[.bool i0, .int .i64 n0, .bool i1, .int .i64 n1, .bool i2, .int .i64 n2, .bool i3, .int .i64 n3, .bool i4, .int .i64 n4]) (w := w) bb (by assumption) (by assumption); have tt := g.1; have qq := tt.cell10; have ff := g.2; clear g)
      | (go_at_call 27; with_reducible refine (O4.out _).mono ?_; rintro e ww ⟨rfl, bb⟩; have g := st_step (k := w.heap.size) (T := 28) (cs := #[.bool i0, .int .i64 n0, .bool i1, .int .i64 n1, .bool i2, .int .i64 n2, .bool i3, .int .i64 n3, .bool i4, .int .i64 n4]) (w := w) bb (by assumption) (by assumption); have tt := g.1; have qq := tt.cell10; have ff := g.2; clear g))
  go_wp2
  go_ret
  exact ⟨rfl, by assumption⟩
end Go.Proofs.YtdjnadgcjmlejaaDoor
