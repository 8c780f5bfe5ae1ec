/- Lemmas for the laws of index. -/
import Derived.Test.YtngfknplljedeaaGreatZr08
import Derived.Test.YtngfknplljedeaaGreatZr13
import Derived.Test.YtngfknplljedeaaGreatZrHi
namespace Go.Proofs.YtngfknplljedeaaGreat
open Go.RowKit
set_option maxRecDepth 100000 in
set_option maxHeartbeats 8000000 in
theorem recChanges_any (cs : List Value) (ca : CA) (w : World) (h : CAt w.heap.size cs ca w) (hn : ca.helds.length + ca.files.length + ca.names.length + ca.blocks.length ≤ 1073741824) :
 Calls Tryz.prog 31 #[.agg cs.toArray] w fun e w' => ∃ v, e = .returned v ∧ ChRow 40 (w.heap.size + 1) v ca.changes w' ∧ Below w.heap.size w w' := by
 obtain ⟨iz, hiz, hz0, hz1, hz2⟩ := info_parts Tryz.infoCh
 obtain ⟨v1, v2, v3, v4, rfl, r1, r2, r3, r4⟩ := h
 obtain ⟨ao1, cap1, b1, off1, rfl, hl1, hx1⟩ := r1.walk
 obtain ⟨n1, hn1⟩ : ∃ n, n = ca.helds.length := ⟨_, rfl⟩
 obtain ⟨ao2, cap2, b2, off2, rfl, hl2, hx2⟩ := r2.walk
 obtain ⟨n2, hn2⟩ : ∃ n, n = ca.files.length := ⟨_, rfl⟩
 obtain ⟨ao3, cap3, b3, off3, rfl, hl3, hx3⟩ := r3.walk
 obtain ⟨n3, hn3⟩ : ∃ n, n = ca.names.length := ⟨_, rfl⟩
 obtain ⟨ao4, cap4, b4, off4, rfl, hl4, hx4⟩ := r4.walk
 obtain ⟨n4, hn4⟩ : ∃ n, n = ca.blocks.length := ⟨_, rfl⟩
 rw [← hn1] at hl1 hx1
 rw [← hn2] at hl2 hx2
 rw [← hn3] at hl3 hx3
 rw [← hn4] at hl4 hx4
 rw [← hn1, ← hn2, ← hn3, ← hn4] at hn ⊢
 have HX1 := hI (show ∀ W, Below w.heap.size w W → ∀ i, i < n1 → ∃ x : Hd, ca.helds[i]? = some x ∧ ao1 = some ⟨b1, off1, none⟩ ∧ W.rangeAt b1 (off1 + i * 3) x.vs from fun W hW i hi => by
  obtain ⟨x, e1, e2, e3, e4⟩ := hx1 i hi
  exact ⟨x, e1, e2, fun j u hu => (hW.cell (p := ⟨b1, off1 + i * 3 + j, none⟩) e3).trans (e4 j u hu)⟩)
 have HX2 := hI (show ∀ W, Below w.heap.size w W → ∀ i, i < n2 → ∃ x : Cd, ca.files[i]? = some x ∧ ao2 = some ⟨b2, off2, none⟩ ∧ W.rangeAt b2 (off2 + i * 11) x.vs from fun W hW i hi => by
  obtain ⟨x, e1, e2, e3, e4⟩ := hx2 i hi
  exact ⟨x, e1, e2, fun j u hu => (hW.cell (p := ⟨b2, off2 + i * 11 + j, none⟩) e3).trans (e4 j u hu)⟩)
 have HX3 := hI (show ∀ W, Below w.heap.size w W → ∀ i, i < n3 → ∃ x : Kn, ca.names[i]? = some x ∧ ao3 = some ⟨b3, off3, none⟩ ∧ W.rangeAt b3 (off3 + i * 3) x.vs from fun W hW i hi => by
  obtain ⟨x, e1, e2, e3, e4⟩ := hx3 i hi
  exact ⟨x, e1, e2, fun j u hu => (hW.cell (p := ⟨b3, off3 + i * 3 + j, none⟩) e3).trans (e4 j u hu)⟩)
 have HX4 := hI (show ∀ W, Below w.heap.size w W → ∀ i, i < n4 → ∃ x : Bk, ca.blocks[i]? = some x ∧ ao4 = some ⟨b4, off4, none⟩ ∧ W.rangeAt b4 (off4 + i * 3) x.vs from fun W hW i hi => by
  obtain ⟨x, e1, e2, e3, e4⟩ := hx4 i hi
  exact ⟨x, e1, e2, fun j u hu => (hW.cell (p := ⟨b4, off4 + i * 3 + j, none⟩) e3).trans (e4 j u hu)⟩)
 have HN := hI (And.intro hn1 (And.intro hn2 (And.intro hn3 hn4)))
 obtain ⟨w1, hw1⟩ : ∃ w1, w1 = w.alloc (.cells #[.slice ao1 n1 cap1, .slice ao2 n2 cap2, .slice ao3 n3 cap3, .slice ao4 n4 cap4] 27 (0, 0)) := ⟨_, rfl⟩
 have hs1 : w1.heap.size = w.heap.size + 1 := by rw [hw1]; simp
 have hb1 : Below w.heap.size w w1 := by rw [hw1]; exact (Below.refl _ w).alloc (Nat.le_refl _) _
 have hst : St 27 w.heap.size #[.slice ao1 n1 cap1, .slice ao2 n2 cap2, .slice ao3 n3 cap3, .slice ao4 n4 cap4] w1 := by rw [hw1]; exact St.new w 27 _
 have HC := hI (show ∀ W, Below w1.heap.size w1 W → Below w.heap.size w W ∧ W.cell? ⟨w.heap.size, 0, none⟩ = some (.slice ao1 n1 cap1) ∧ W.cell? ⟨w.heap.size, 1, none⟩ = some (.slice ao2 n2 cap2) ∧ W.cell? ⟨w.heap.size, 2, none⟩ = some (.slice ao3 n3 cap3) ∧ W.cell? ⟨w.heap.size, 3, none⟩ = some (.slice ao4 n4 cap4) from fun W hW => by
  have := hst.below hW
  exact ⟨hb1.trans (hW.mono hb1.size), this.cell rfl, this.cell rfl, this.cell rfl, this.cell rfl⟩)
 have HW1 := hI hw1
 clear hx1 hx2 hx3 hx4 hn1 hn2 hn3 hn4 r1 r2 r3 r4 hb1 hst hw1
 obtain ⟨hbw, e1, e2, e3, e4⟩ := HC.out w1 (Below.refl _ w1)
 go_enter Tryz.func31, Tryz.ntmps31
 go_wp2_with fail
 rw [← HW1.out]
 go_wp2
 go_loopw [3, 15] (fun o c wr => ∃ (i : Nat) (vv : Value), i ≤ n1 ∧ c = .int .i64 i ∧ vv = o ∧ ChRow 40 w1.heap.size vv (upTo ca i 0 0 0) wr ∧ Below w1.heap.size w1 wr) (fun _ c _ => n1 - (intOf c).toNat)
 case atStart => exact ⟨0, .slice none 0 0, Nat.zero_le _, rfl, rfl, World.ownsRow_nil _ _ _ _, Below.refl _ _⟩
 case round =>
  obtain ⟨i, vv, hi, rfl, rfl, hrow, hbel⟩ := hrel
  obtain ⟨hbw, e1, e2, e3, e4⟩ := HC.out wr hbel
  have HRow := hI hrow
  have HBel := hI hbel
  by_cases hlt : i < n1
  · obtain ⟨x, hxi, rfl, hr⟩ := HX1.out wr hbw i hlt
    have HU := hI (upTo_h ca i x hxi)
    have hm := upTo_length ca i 0 0 0
    obtain ⟨m, hm2⟩ : ∃ m, m = (upTo ca i 0 0 0).length := ⟨_, rfl⟩
    rw [← hm2] at hm
    have HRw := hI (show wr.ownsRow w1.heap.size 40 18 vv m ((upTo ca i 0 0 0).flatMap Ch.vs) from by rw [hm2]; exact hrow)
    have HM := hI hm2
    obtain ⟨e, s, u⟩ := x
    have HR := hI hr
    have i0 : (0 : Int) ≤ (i : Int) := by omega
    have i1 : (i : Int) < (n1 : Int) := by omega
    have hsz : w1.heap.size ≤ wr.heap.size := hbel.size
    clear hrow hbel hbw hr hxi hm2 e1 e2 e3 e4
    go_wp2_with (first
     | ((with_reducible show wpList _ _ _ ({ dst := _, op := .load 49 (.tmp 17), type := _, pos := _, after := _, guard := _ } :: _) _ _); refine wpList_load_mid rfl 49 _ rfl b1 (off1 + i * 3) rfl [.int .i64 e, .int .i64 s, .string u] _ HR.out Tryz.underlying49 rfl (by kernel_rfl) ?_)
     | ((with_reducible show wpList _ _ _ ({ dst := _, op := .store 49 (.tmp 5) _, type := _, pos := _, after := _, guard := _ } :: _) _ _); refine wpList_store_st rfl 49 _ _ rfl wr.heap.size #[.int .i64 e, .int .i64 s, .string u] rfl rfl _ (St.new wr _ _) (by kernel_rfl) rfl rfl ?_; rintro w6 rfl -; rw [alloc_row])
     | (at_builtin; refine wpList_append_lies _ rfl (.tmp 19) (.tmp 27) 33 rfl w1.heap.size 40 iz chZero 18 168 Tryz.underlying33 hiz hz0 hz1 hz2 rfl (by decide) vv _ _ (by simp [Act.eval]) ((HRw.out.alloc _).alloc _) ⟨wr.heap.size + 1, 0, none⟩ 1 1 [.int .i64 1, .int .i64 e, .int .i64 s, .string u, .string ⟨#[]⟩, .string ⟨#[]⟩, .int .i64 0, .int .i64 0, .int .i64 0, .int .i64 0, .int .i64 0, .int .i64 0, .int .i64 0, .int .i64 0, .int .i64 0, .int .i64 0, .int .i64 0, .int .i64 0] (by simp [Act.eval]) rfl (World.news_of_block (by simpa using heap_alloc_new (wr.alloc _) _)) (by repeat (first | exact List.forall_mem_nil _ | refine List.forall_mem_cons.2 ⟨rfl, ?_⟩)) (by decide) (by unfold maxLen; omega) (by omega) (by simp; omega) _ (by simp; rfl) ?_; intro g cap w3 h1 hg _ _; have H3 := hI h1; have B3 := hI (Below.grown ((HBel.out.alloc hsz _).alloc (by simp; omega) _) hg (by simp; omega) (fun j hj => (World.ownsRow.lt HRw.out j hj).1)); clear h1 hg))
    go_round
    case rel => exact ⟨i + 1, _, by omega, by go_num, rfl, by rw [HU.out]; exact ChRow.more HM.out H3.out, B3.out⟩
    case measure => simp [intOf]; omega
  · obtain rfl : n1 = i := by omega
    clear hrow hbel hbw
    go_wp2
    go_loopw [3, 33] (fun o c wr => ∃ (i : Nat) (vv : Value), i ≤ n2 ∧ c = .int .i64 i ∧ vv = o ∧ ChRow 40 w1.heap.size vv (upTo ca n1 i 0 0) wr ∧ Below w1.heap.size w1 wr) (fun _ c _ => n2 - (intOf c).toNat)
    case atStart => exact ⟨0, _, Nat.zero_le _, rfl, rfl, HRow.out, HBel.out⟩
    case round =>
     obtain ⟨i, vv, hi, rfl, rfl, hrow, hbel⟩ := hrel
     obtain ⟨hbw, e1, e2, e3, e4⟩ := HC.out wr hbel
     have HRow := hI hrow
     have HBel := hI hbel
     by_cases hlt : i < n2
     · obtain ⟨x, hxi, rfl, hr⟩ := HX2.out wr hbw i hlt
       have HU := hI (upTo_f ca n1 i x hxi)
       have hm := upTo_length ca n1 i 0 0
       obtain ⟨m, hm2⟩ : ∃ m, m = (upTo ca n1 i 0 0).length := ⟨_, rfl⟩
       rw [← hm2] at hm
       have HRw := hI (show wr.ownsRow w1.heap.size 40 18 vv m ((upTo ca n1 i 0 0).flatMap Ch.vs) from by rw [hm2]; exact hrow)
       have HM := hI hm2
       obtain ⟨u, ⟨a0, a1, a2, a3, a4, a5, a6, a7, a8, a9⟩⟩ := x
       have HR := hI hr
       have i0 : (0 : Int) ≤ (i : Int) := by omega
       have i1 : (i : Int) < (n2 : Int) := by omega
       have hsz : w1.heap.size ≤ wr.heap.size := hbel.size
       clear hrow hbel hbw hr hxi hm2 e1 e2 e3 e4
       go_wp2_with (first
        | ((with_reducible show wpList _ _ _ ({ dst := _, op := .load 57 (.tmp 35), type := _, pos := _, after := _, guard := _ } :: _) _ _); refine wpList_load_mid rfl 57 _ rfl b2 (off2 + i * 11) rfl [.string u, .int .i64 a0, .int .i64 a1, .int .i64 a2, .int .i64 a3, .int .i64 a4, .int .i64 a5, .int .i64 a6, .int .i64 a7, .int .i64 a8, .int .i64 a9] _ HR.out Tryz.underlying57 rfl (by kernel_rfl) ?_)
        | ((with_reducible show wpList _ _ _ ({ dst := _, op := .store 57 (.tmp 7) _, type := _, pos := _, after := _, guard := _ } :: _) _ _); refine wpList_store_st rfl 57 _ _ rfl wr.heap.size #[.string u, .int .i64 a0, .int .i64 a1, .int .i64 a2, .int .i64 a3, .int .i64 a4, .int .i64 a5, .int .i64 a6, .int .i64 a7, .int .i64 a8, .int .i64 a9] rfl rfl _ (St.new wr _ _) (by kernel_rfl) rfl rfl ?_; rintro w6 rfl -; rw [alloc_row])
        | (at_builtin; refine wpList_append_lies _ rfl (.tmp 37) (.tmp 43) 33 rfl w1.heap.size 40 iz chZero 18 168 Tryz.underlying33 hiz hz0 hz1 hz2 rfl (by decide) vv _ _ (by simp [Act.eval]) ((HRw.out.alloc _).alloc _) ⟨wr.heap.size + 1, 0, none⟩ 1 1 [.int .i64 3, .int .i64 0, .int .i64 0, .string u, .string ⟨#[]⟩, .string ⟨#[]⟩, .int .i64 a0, .int .i64 a1, .int .i64 a2, .int .i64 a3, .int .i64 a4, .int .i64 a5, .int .i64 a6, .int .i64 a7, .int .i64 a8, .int .i64 a9, .int .i64 0, .int .i64 0] (by simp [Act.eval]) rfl (World.news_of_block (by simpa using heap_alloc_new (wr.alloc _) _)) (by repeat (first | exact List.forall_mem_nil _ | refine List.forall_mem_cons.2 ⟨rfl, ?_⟩)) (by decide) (by unfold maxLen; omega) (by omega) (by simp; omega) _ (by simp; rfl) ?_; intro g cap w3 h1 hg _ _; have H3 := hI h1; have B3 := hI (Below.grown ((HBel.out.alloc hsz _).alloc (by simp; omega) _) hg (by simp; omega) (fun j hj => (World.ownsRow.lt HRw.out j hj).1)); clear h1 hg))
       go_round
       case rel => exact ⟨i + 1, _, by omega, by go_num, rfl, by rw [HU.out]; exact ChRow.more HM.out H3.out, B3.out⟩
       case measure => simp [intOf]; omega
     · obtain rfl : n2 = i := by omega
       clear hrow hbel hbw
       go_wp2
       go_loopw [3, 49] (fun o c wr => ∃ (i : Nat) (vv : Value), i ≤ n3 ∧ c = .int .i64 i ∧ vv = o ∧ ChRow 40 w1.heap.size vv (upTo ca n1 n2 i 0) wr ∧ Below w1.heap.size w1 wr) (fun _ c _ => n3 - (intOf c).toNat)
       case atStart => exact ⟨0, _, Nat.zero_le _, rfl, rfl, HRow.out, HBel.out⟩
       case round =>
        obtain ⟨i, vv, hi, rfl, rfl, hrow, hbel⟩ := hrel
        obtain ⟨hbw, e1, e2, e3, e4⟩ := HC.out wr hbel
        have HRow := hI hrow
        have HBel := hI hbel
        by_cases hlt : i < n3
        · obtain ⟨x, hxi, rfl, hr⟩ := HX3.out wr hbw i hlt
          have HU := hI (upTo_n ca n1 n2 i x hxi)
          have hm := upTo_length ca n1 n2 i 0
          obtain ⟨m, hm2⟩ : ∃ m, m = (upTo ca n1 n2 i 0).length := ⟨_, rfl⟩
          rw [← hm2] at hm
          have HRw := hI (show wr.ownsRow w1.heap.size 40 18 vv m ((upTo ca n1 n2 i 0).flatMap Ch.vs) from by rw [hm2]; exact hrow)
          have HM := hI hm2
          obtain ⟨d, nm, u⟩ := x
          have HR := hI hr
          have i0 : (0 : Int) ≤ (i : Int) := by omega
          have i1 : (i : Int) < (n3 : Int) := by omega
          have hsz : w1.heap.size ≤ wr.heap.size := hbel.size
          clear hrow hbel hbw hr hxi hm2 e1 e2 e3 e4
          go_wp2_with (first
           | ((with_reducible show wpList _ _ _ ({ dst := _, op := .load 61 (.tmp 51), type := _, pos := _, after := _, guard := _ } :: _) _ _); refine wpList_load_mid rfl 61 _ rfl b3 (off3 + i * 3) rfl [.string d, .string nm, .string u] _ HR.out Tryz.underlying61 rfl (by kernel_rfl) ?_)
           | ((with_reducible show wpList _ _ _ ({ dst := _, op := .store 61 (.tmp 9) _, type := _, pos := _, after := _, guard := _ } :: _) _ _); refine wpList_store_st rfl 61 _ _ rfl wr.heap.size #[.string d, .string nm, .string u] rfl rfl _ (St.new wr _ _) (by kernel_rfl) rfl rfl ?_; rintro w6 rfl -; rw [alloc_row])
           | (at_builtin; refine wpList_append_lies _ rfl (.tmp 53) (.tmp 61) 33 rfl w1.heap.size 40 iz chZero 18 168 Tryz.underlying33 hiz hz0 hz1 hz2 rfl (by decide) vv _ _ (by simp [Act.eval]) ((HRw.out.alloc _).alloc _) ⟨wr.heap.size + 1, 0, none⟩ 1 1 [.int .i64 6, .int .i64 0, .int .i64 0, .string d, .string nm, .string u, .int .i64 0, .int .i64 0, .int .i64 0, .int .i64 0, .int .i64 0, .int .i64 0, .int .i64 0, .int .i64 0, .int .i64 0, .int .i64 0, .int .i64 0, .int .i64 0] (by simp [Act.eval]) rfl (World.news_of_block (by simpa using heap_alloc_new (wr.alloc _) _)) (by repeat (first | exact List.forall_mem_nil _ | refine List.forall_mem_cons.2 ⟨rfl, ?_⟩)) (by decide) (by unfold maxLen; omega) (by omega) (by simp; omega) _ (by simp; rfl) ?_; intro g cap w3 h1 hg _ _; have H3 := hI h1; have B3 := hI (Below.grown ((HBel.out.alloc hsz _).alloc (by simp; omega) _) hg (by simp; omega) (fun j hj => (World.ownsRow.lt HRw.out j hj).1)); clear h1 hg))
          go_round
          case rel => exact ⟨i + 1, _, by omega, by go_num, rfl, by rw [HU.out]; exact ChRow.more HM.out H3.out, B3.out⟩
          case measure => simp [intOf]; omega
        · obtain rfl : n3 = i := by omega
          clear hrow hbel hbw
          go_wp2
          go_loopw [3, 67] (fun o c wr => ∃ (i : Nat) (vv : Value), i ≤ n4 ∧ c = .int .i64 i ∧ vv = o ∧ ChRow 40 w1.heap.size vv (upTo ca n1 n2 n3 i) wr ∧ Below w1.heap.size w1 wr) (fun _ c _ => n4 - (intOf c).toNat)
          case atStart => exact ⟨0, _, Nat.zero_le _, rfl, rfl, HRow.out, HBel.out⟩
          case round =>
           obtain ⟨i, vv, hi, rfl, rfl, hrow, hbel⟩ := hrel
           obtain ⟨hbw, e1, e2, e3, e4⟩ := HC.out wr hbel
           have HRow := hI hrow
           have HBel := hI hbel
           by_cases hlt : i < n4
           · obtain ⟨x, hxi, rfl, hr⟩ := HX4.out wr hbw i hlt
             have HU := hI (upTo_b ca n1 n2 n3 i x hxi)
             have hm := upTo_length ca n1 n2 n3 i
             obtain ⟨m, hm2⟩ : ∃ m, m = (upTo ca n1 n2 n3 i).length := ⟨_, rfl⟩
             rw [← hm2] at hm
             have HRw := hI (show wr.ownsRow w1.heap.size 40 18 vv m ((upTo ca n1 n2 n3 i).flatMap Ch.vs) from by rw [hm2]; exact hrow)
             have HM := hI hm2
             obtain ⟨u, no, sl⟩ := x
             have HR := hI hr
             have i0 : (0 : Int) ≤ (i : Int) := by omega
             have i1 : (i : Int) < (n4 : Int) := by omega
             have hsz : w1.heap.size ≤ wr.heap.size := hbel.size
             clear hrow hbel hbw hr hxi hm2 e1 e2 e3 e4
             go_wp2_with (first
              | ((with_reducible show wpList _ _ _ ({ dst := _, op := .load 66 (.tmp 69), type := _, pos := _, after := _, guard := _ } :: _) _ _); refine wpList_load_mid rfl 66 _ rfl b4 (off4 + i * 3) rfl [.string u, .int .i64 no, .int .i64 sl] _ HR.out Tryz.underlying66 rfl (by kernel_rfl) ?_)
              | ((with_reducible show wpList _ _ _ ({ dst := _, op := .store 66 (.tmp 11) _, type := _, pos := _, after := _, guard := _ } :: _) _ _); refine wpList_store_st rfl 66 _ _ rfl wr.heap.size #[.string u, .int .i64 no, .int .i64 sl] rfl rfl _ (St.new wr _ _) (by kernel_rfl) rfl rfl ?_; rintro w6 rfl -; rw [alloc_row])
              | (at_builtin; refine wpList_append_lies _ rfl (.tmp 71) (.tmp 79) 33 rfl w1.heap.size 40 iz chZero 18 168 Tryz.underlying33 hiz hz0 hz1 hz2 rfl (by decide) vv _ _ (by simp [Act.eval]) ((HRw.out.alloc _).alloc _) ⟨wr.heap.size + 1, 0, none⟩ 1 1 [.int .i64 8, .int .i64 0, .int .i64 0, .string u, .string ⟨#[]⟩, .string ⟨#[]⟩, .int .i64 0, .int .i64 0, .int .i64 0, .int .i64 0, .int .i64 0, .int .i64 0, .int .i64 0, .int .i64 0, .int .i64 0, .int .i64 0, .int .i64 no, .int .i64 sl] (by simp [Act.eval]) rfl (World.news_of_block (by simpa using heap_alloc_new (wr.alloc _) _)) (by repeat (first | exact List.forall_mem_nil _ | refine List.forall_mem_cons.2 ⟨rfl, ?_⟩)) (by decide) (by unfold maxLen; omega) (by omega) (by simp; omega) _ (by simp; rfl) ?_; intro g cap w3 h1 hg _ _; have H3 := hI h1; have B3 := hI (Below.grown ((HBel.out.alloc hsz _).alloc (by simp; omega) _) hg (by simp; omega) (fun j hj => (World.ownsRow.lt HRw.out j hj).1)); clear h1 hg))
             go_round
             case rel => exact ⟨i + 1, _, by omega, by go_num, rfl, by rw [HU.out]; exact ChRow.more HM.out H3.out, B3.out⟩
             case measure => simp [intOf]; omega
           · obtain rfl : n4 = i := by omega
             go_wp2
             go_ret
             refine ⟨_, rfl, ?_, hbw⟩
             obtain ⟨q1, q2, q3, q4⟩ := HN.out
             have := HRow.out
             rw [q1, q2, q3, q4, upTo_all, hs1] at this
             exact this
theorem rcChanges_any (cs : List Value) (ca : CA) (w : World) (h : CAt w.heap.size cs ca w) (hn : ca.helds.length + ca.files.length + ca.names.length + ca.blocks.length ≤ 1073741824) :
 Calls Tryz.prog 31 #[.agg cs.toArray] w fun e w' => ∃ v, e = .returned v ∧ RowsAt w'.heap.size 18 Ch.vs v ca.changes w' ∧ Below w.heap.size w w' :=
 (recChanges_any cs ca w h hn).mono fun _ _ ⟨v, he, hr, hb⟩ => ⟨v, he, hr.rows, hb⟩
end Go.Proofs.YtngfknplljedeaaGreat
