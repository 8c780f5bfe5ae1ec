/- Lemmas for the laws of index. -/
import Derived.Deep.RegionHeld3
import Derived.Deep.WholeRow
import Derived.Laws.AppendOwnNone
import Derived.StillTailTactics
import Derived.Test.YtngfknplljedeaaGreatZr10
import Derived.Test.YtngfknplljedeaaGreatZrHi
namespace Go.Proofs.YtngfknplljedeaaGreat
open Go.RowKit
def chZero : Value := .agg #[.int .i64 0, .int .i64 0, .int .i64 0, .string ⟨#[]⟩, .string ⟨#[]⟩, .string ⟨#[]⟩, .int .i64 0, .int .i64 0, .int .i64 0, .int .i64 0, .int .i64 0, .int .i64 0, .int .i64 0, .int .i64 0, .int .i64 0, .int .i64 0, .int .i64 0, .int .i64 0]
theorem Tryz.infoCh : (Tryz.prog.info? 40).map (fun i => (i.zero, i.size, i.bytes)) = some (some chZero, 18, 168) := by kernel_rfl
theorem ChRow.more {T : TypeId} {B : Nat} {v : Value} {xs : List Ch} {x : Ch} {n : Nat} {w : World} (hn : n = xs.length) (h : w.ownsRow B T 18 v (n + 1) (xs.flatMap Ch.vs ++ x.vs)) : ChRow T B v (xs ++ [x]) w := by
 unfold ChRow
 rw [List.length_append, List.length_singleton, ← hn, List.flatMap_append, List.flatMap_singleton]
 exact h
def upTo (c : CA) (a b d e : Nat) : List Ch := (c.helds.take a).map Hd.ch ++ (c.files.take b).map Cd.ch ++ (c.names.take d).map Kn.ch ++ (c.blocks.take e).map Bk.ch
theorem upTo_length (c : CA) (a b d e : Nat) : (upTo c a b d e).length ≤ a + b + d + e := by
 unfold upTo
 simp only [List.length_append, List.length_map, List.length_take]
 omega
theorem upTo_all (c : CA) : upTo c c.helds.length c.files.length c.names.length c.blocks.length = c.changes := by
 unfold upTo CA.changes
 rw [List.take_length, List.take_length, List.take_length, List.take_length]
theorem upTo_h (c : CA) (i : Nat) (x : Hd) (h : c.helds[i]? = some x) : upTo c (i + 1) 0 0 0 = upTo c i 0 0 0 ++ [x.ch] := by
 unfold upTo
 rw [take_one c.helds i x h]
 simp
theorem upTo_f (c : CA) (a i : Nat) (x : Cd) (h : c.files[i]? = some x) : upTo c a (i + 1) 0 0 = upTo c a i 0 0 ++ [x.ch] := by
 unfold upTo
 rw [take_one c.files i x h]
 simp
theorem upTo_n (c : CA) (a b i : Nat) (x : Kn) (h : c.names[i]? = some x) : upTo c a b (i + 1) 0 = upTo c a b i 0 ++ [x.ch] := by
 unfold upTo
 rw [take_one c.names i x h]
 simp
theorem upTo_b (c : CA) (a b d i : Nat) (x : Bk) (h : c.blocks[i]? = some x) : upTo c a b d (i + 1) = upTo c a b d i ++ [x.ch] := by
 unfold upTo
 rw [take_one c.blocks i x h]
 simp
set_option maxRecDepth 100000 in
set_option maxHeartbeats 8000000 in
theorem rxChanges_any (cs : List Value) (ca : CA) (w : World) (h : CAt w.heap.size cs ca w) (hn : ca.helds.length + ca.files.length + ca.names.length + ca.blocks.length ≤ 1073741824) :
 Calls Tryz.prog 37 #[.agg cs.toArray] w fun e w' => ∃ v, e = .returned v ∧ ChRow 40 (w.heap.size + 1) v ca.changes w' ∧ Below w.heap.size w w' := by
 obtain ⟨iz, hiz, hz0, hz1, hz2⟩ := info_parts Tryz.infoCh
 obtain ⟨v1, v2, v3, v4, rfl, r1, r2, r3, r4⟩ := h
 obtain ⟨ao1, cap1, b1, off1, rfl, hl1, hx1⟩ := r1.walk
 obtain ⟨n1, hn1⟩ : ∃ n, n = ca.helds.length := ⟨_, rfl⟩
 obtain ⟨ao2, cap2, b2, off2, rfl, hl2, hx2⟩ := r2.walk
 obtain ⟨n2, hn2⟩ : ∃ n, n = ca.files.length := ⟨_, rfl⟩
 obtain ⟨ao3, cap3, b3, off3, rfl, hl3, hx3⟩ := r3.walk
 obtain ⟨n3, hn3⟩ : ∃ n, n = ca.names.length := ⟨_, rfl⟩
 obtain ⟨ao4, cap4, b4, off4, rfl, hl4, hx4⟩ := r4.walk
 obtain ⟨n4, hn4⟩ : ∃ n, n = ca.blocks.length := ⟨_, rfl⟩
 rw [← hn1] at hl1 hx1
 rw [← hn2] at hl2 hx2
 rw [← hn3] at hl3 hx3
 rw [← hn4] at hl4 hx4
 rw [← hn1, ← hn2, ← hn3, ← hn4] at hn ⊢
 have HX1 := hI (show ∀ W, Below w.heap.size w W → ∀ i, i < n1 → ∃ x : Hd, ca.helds[i]? = some x ∧ ao1 = some ⟨b1, off1, none⟩ ∧ W.rangeAt b1 (off1 + i * 3) x.vs from fun W hW i hi => by
  obtain ⟨x, e1, e2, e3, e4⟩ := hx1 i hi
  exact ⟨x, e1, e2, fun j u hu => (hW.cell (p := ⟨b1, off1 + i * 3 + j, none⟩) e3).trans (e4 j u hu)⟩)
 have HX2 := hI (show ∀ W, Below w.heap.size w W → ∀ i, i < n2 → ∃ x : Cd, ca.files[i]? = some x ∧ ao2 = some ⟨b2, off2, none⟩ ∧ W.rangeAt b2 (off2 + i * 11) x.vs from fun W hW i hi => by
  obtain ⟨x, e1, e2, e3, e4⟩ := hx2 i hi
  exact ⟨x, e1, e2, fun j u hu => (hW.cell (p := ⟨b2, off2 + i * 11 + j, none⟩) e3).trans (e4 j u hu)⟩)
 have HX3 := hI (show ∀ W, Below w.heap.size w W → ∀ i, i < n3 → ∃ x : Kn, ca.names[i]? = some x ∧ ao3 = some ⟨b3, off3, none⟩ ∧ W.rangeAt b3 (off3 + i * 3) x.vs from fun W hW i hi => by
  obtain ⟨x, e1, e2, e3, e4⟩ := hx3 i hi
  exact ⟨x, e1, e2, fun j u hu => (hW.cell (p := ⟨b3, off3 + i * 3 + j, none⟩) e3).trans (e4 j u hu)⟩)
 have HX4 := hI (show ∀ W, Below w.heap.size w W → ∀ i, i < n4 → ∃ x : Bk, ca.blocks[i]? = some x ∧ ao4 = some ⟨b4, off4, none⟩ ∧ W.rangeAt b4 (off4 + i * 3) x.vs from fun W hW i hi => by
  obtain ⟨x, e1, e2, e3, e4⟩ := hx4 i hi
  exact ⟨x, e1, e2, fun j u hu => (hW.cell (p := ⟨b4, off4 + i * 3 + j, none⟩) e3).trans (e4 j u hu)⟩)
 have HN := hI (And.intro hn1 (And.intro hn2 (And.intro hn3 hn4)))
 obtain ⟨w1, hw1⟩ : ∃ w1, w1 = w.alloc (.cells #[.slice ao1 n1 cap1, .slice ao2 n2 cap2, .slice ao3 n3 cap3, .slice ao4 n4 cap4] 27 (0, 0)) := ⟨_, rfl⟩
 have hs1 : w1.heap.size = w.heap.size + 1 := by rw [hw1]; simp
 have hb1 : Below w.heap.size w w1 := by rw [hw1]; exact (Below.refl _ w).alloc (Nat.le_refl _) _
 have hst : St 27 w.heap.size #[.slice ao1 n1 cap1, .slice ao2 n2 cap2, .slice ao3 n3 cap3, .slice ao4 n4 cap4] w1 := by rw [hw1]; exact St.new w 27 _
 have HC := hI (show ∀ W, Below w1.heap.size w1 W → Below w.heap.size w W ∧ W.cell? ⟨w.heap.size, 0, none⟩ = some (.slice ao1 n1 cap1) ∧ W.cell? ⟨w.heap.size, 1, none⟩ = some (.slice ao2 n2 cap2) ∧ W.cell? ⟨w.heap.size, 2, none⟩ = some (.slice ao3 n3 cap3) ∧ W.cell? ⟨w.heap.size, 3, none⟩ = some (.slice ao4 n4 cap4) from fun W hW => by
  have := hst.below hW
  exact ⟨hb1.trans (hW.mono hb1.size), this.cell rfl, this.cell rfl, this.cell rfl, this.cell rfl⟩)
 have HW1 := hI hw1
 clear hx1 hx2 hx3 hx4 hn1 hn2 hn3 hn4 r1 r2 r3 r4 hb1 hst hw1
 go_enter Tryz.func37, Tryz.ntmps37
 go_wp2
 rw [← HW1.out]
 go_loopw [3, 4] (fun o c wr => ∃ (i : Nat) (vv : Value), i ≤ n1 ∧ c = .int .i64 i ∧ vv = o ∧ ChRow 40 w1.heap.size vv (upTo ca i 0 0 0) wr ∧ Below w1.heap.size w1 wr) (fun _ c _ => n1 - (intOf c).toNat)
 case atStart => exact ⟨0, .slice none 0 0, Nat.zero_le _, rfl, rfl, World.ownsRow_nil _ _ _ _, Below.refl _ _⟩
 case round =>
  obtain ⟨i, vv, hi, rfl, rfl, hrow, hbel⟩ := hrel
  obtain ⟨hbw, e1, e2, e3, e4⟩ := HC.out wr hbel
  have HRow := hI hrow
  have HBel := hI hbel
  by_cases hlt : i < n1
  · obtain ⟨x, hxi, rfl, hr⟩ := HX1.out wr hbw i hlt
    have HU := hI (upTo_h ca i x hxi)
    have hm := upTo_length ca i 0 0 0
    obtain ⟨m, hm2⟩ : ∃ m, m = (upTo ca i 0 0 0).length := ⟨_, rfl⟩
    rw [← hm2] at hm
    have HRw := hI (show wr.ownsRow w1.heap.size 40 18 vv m ((upTo ca i 0 0 0).flatMap Ch.vs) from by rw [hm2]; exact hrow)
    have HM := hI hm2
    obtain ⟨e, s, u⟩ := x
    have k0 : wr.cell? ⟨b1, off1 + i * 3, none⟩ = some (.int .i64 e) := hr 0 _ rfl
    have k1 : wr.cell? ⟨b1, off1 + i * 3 + 1, none⟩ = some (.int .i64 s) := hr 1 _ rfl
    have k2 : wr.cell? ⟨b1, off1 + i * 3 + 2, none⟩ = some (.string u) := hr 2 _ rfl
    have i0 : (0 : Int) ≤ (i : Int) := by omega
    have i1 : (i : Int) < (n1 : Int) := by omega
    have hsz : w1.heap.size ≤ wr.heap.size := hbel.size
    skip
    have HXI := hI hxi
    clear hrow hbel hbw hr hxi hm2
    go_wp2_with fail
    have KC := hI (show ∀ W, Below w1.heap.size w1 W → W.cell? ⟨w.heap.size, 0, none⟩ = some (.slice (some ⟨b1, off1, none⟩) n1 cap1) ∧ W.cell? ⟨b1, off1 + i * 3, none⟩ = some (.int .i64 e) ∧ W.cell? ⟨b1, off1 + i * 3 + 1, none⟩ = some (.int .i64 s) ∧ W.cell? ⟨b1, off1 + i * 3 + 2, none⟩ = some (.string u) from fun W hW => by
     have hc := HC.out W hW
     obtain ⟨y, y1, _, y3⟩ := HX1.out W hc.1 i hlt
     rw [HXI.out] at y1
     cases y1
     exact ⟨hc.2.1, y3 0 _ rfl, y3 1 _ rfl, y3 2 _ rfl⟩)
    go_region_held3 (fun W => W.cell? ⟨w.heap.size, 0, none⟩ = some (.slice (some ⟨b1, off1, none⟩) n1 cap1) ∧ W.cell? ⟨b1, off1 + i * 3, none⟩ = some (.int .i64 e) ∧ W.cell? ⟨b1, off1 + i * 3 + 1, none⟩ = some (.int .i64 s) ∧ W.cell? ⟨b1, off1 + i * 3 + 2, none⟩ = some (.string u)) (first | exact KC.out _ HBel.out.drew | exact KC.out _ (HBel.out.drew.alloc hsz _) | exact KC.out _ (HBel.out.alloc hsz _).drew | exact KC.out _ B3.out) (first | (refine step_append_lies _ rfl (.tmp 15) (.tmp 35) 33 rfl w1.heap.size 40 iz chZero 18 168 Tryz.underlying33 hiz hz0 hz1 hz2 rfl (by decide) vv _ _ (by simp [Act.eval]) ((HRw.out.alloc _).drew) ⟨wr.heap.size, 0, none⟩ 1 1 [.int .i64 1, .int .i64 e, .int .i64 s, .string u, .string ⟨#[]⟩, .string ⟨#[]⟩, .int .i64 0, .int .i64 0, .int .i64 0, .int .i64 0, .int .i64 0, .int .i64 0, .int .i64 0, .int .i64 0, .int .i64 0, .int .i64 0, .int .i64 0, .int .i64 0] (by simp [Act.eval]) rfl (World.news_of_block (w := (wr.alloc _).drew) (heap_alloc_new wr _)) (by repeat (first | exact List.forall_mem_nil _ | refine List.forall_mem_cons.2 ⟨rfl, ?_⟩)) (by decide) (by unfold maxLen; omega) (by omega) (by simp; omega) _ (by simp; rfl) ?_; intro g cap w3 h1 hg _ _; have H3 := hI h1; have B3 := hI (Below.grown ((HBel.out.alloc hsz _).drew) hg (by simp; omega) (fun j hj => (World.ownsRow.lt HRw.out j hj).1)); clear h1 hg))
    all_goals (
     go_wp2
     go_round
     case rel => exact ⟨i + 1, _, by omega, by go_num, rfl, by rw [HU.out]; exact ChRow.more HM.out H3.out, B3.out⟩
     case measure => simp [intOf]; omega)
  · obtain rfl : n1 = i := by omega
    clear hrow hbel hbw
    go_wp2
    go_loopw [3, 5] (fun o c wr => ∃ (i : Nat) (vv : Value), i ≤ n2 ∧ c = .int .i64 i ∧ vv = o ∧ ChRow 40 w1.heap.size vv (upTo ca n1 i 0 0) wr ∧ Below w1.heap.size w1 wr) (fun _ c _ => n2 - (intOf c).toNat)
    case atStart => exact ⟨0, _, Nat.zero_le _, rfl, rfl, HRow.out, HBel.out⟩
    case round =>
     obtain ⟨i, vv, hi, rfl, rfl, hrow, hbel⟩ := hrel
     obtain ⟨hbw, e1, e2, e3, e4⟩ := HC.out wr hbel
     have HRow := hI hrow
     have HBel := hI hbel
     by_cases hlt : i < n2
     · obtain ⟨x, hxi, rfl, hr⟩ := HX2.out wr hbw i hlt
       have HU := hI (upTo_f ca n1 i x hxi)
       have hm := upTo_length ca n1 i 0 0
       obtain ⟨m, hm2⟩ : ∃ m, m = (upTo ca n1 i 0 0).length := ⟨_, rfl⟩
       rw [← hm2] at hm
       have HRw := hI (show wr.ownsRow w1.heap.size 40 18 vv m ((upTo ca n1 i 0 0).flatMap Ch.vs) from by rw [hm2]; exact hrow)
       have HM := hI hm2
       obtain ⟨u, ⟨a0, a1, a2, a3, a4, a5, a6, a7, a8, a9⟩⟩ := x
       have k0 : wr.cell? ⟨b2, off2 + i * 11, none⟩ = some (.string u) := hr 0 _ rfl
       have k1 : wr.cell? ⟨b2, off2 + i * 11 + 1, none⟩ = some (.int .i64 a0) := hr 1 _ rfl
       have k2 : wr.cell? ⟨b2, off2 + i * 11 + 2, none⟩ = some (.int .i64 a1) := hr 2 _ rfl
       have k3 : wr.cell? ⟨b2, off2 + i * 11 + 3, none⟩ = some (.int .i64 a2) := hr 3 _ rfl
       have k4 : wr.cell? ⟨b2, off2 + i * 11 + 4, none⟩ = some (.int .i64 a3) := hr 4 _ rfl
       have k5 : wr.cell? ⟨b2, off2 + i * 11 + 5, none⟩ = some (.int .i64 a4) := hr 5 _ rfl
       have k6 : wr.cell? ⟨b2, off2 + i * 11 + 6, none⟩ = some (.int .i64 a5) := hr 6 _ rfl
       have k7 : wr.cell? ⟨b2, off2 + i * 11 + 7, none⟩ = some (.int .i64 a6) := hr 7 _ rfl
       have k8 : wr.cell? ⟨b2, off2 + i * 11 + 8, none⟩ = some (.int .i64 a7) := hr 8 _ rfl
       have k9 : wr.cell? ⟨b2, off2 + i * 11 + 9, none⟩ = some (.int .i64 a8) := hr 9 _ rfl
       have k10 : wr.cell? ⟨b2, off2 + i * 11 + 10, none⟩ = some (.int .i64 a9) := hr 10 _ rfl
       have i0 : (0 : Int) ≤ (i : Int) := by omega
       have i1 : (i : Int) < (n2 : Int) := by omega
       have hsz : w1.heap.size ≤ wr.heap.size := hbel.size
       skip
       have HXI := hI hxi
       clear hrow hbel hbw hr hxi hm2
       go_wp2_with fail
       have KC := hI (show ∀ W, Below w1.heap.size w1 W → W.cell? ⟨w.heap.size, 1, none⟩ = some (.slice (some ⟨b2, off2, none⟩) n2 cap2) ∧ W.cell? ⟨b2, off2 + i * 11, none⟩ = some (.string u) ∧ W.cell? ⟨b2, off2 + i * 11 + 1, none⟩ = some (.int .i64 a0) ∧ W.cell? ⟨b2, off2 + i * 11 + 2, none⟩ = some (.int .i64 a1) ∧ W.cell? ⟨b2, off2 + i * 11 + 3, none⟩ = some (.int .i64 a2) ∧ W.cell? ⟨b2, off2 + i * 11 + 4, none⟩ = some (.int .i64 a3) ∧ W.cell? ⟨b2, off2 + i * 11 + 5, none⟩ = some (.int .i64 a4) ∧ W.cell? ⟨b2, off2 + i * 11 + 6, none⟩ = some (.int .i64 a5) ∧ W.cell? ⟨b2, off2 + i * 11 + 7, none⟩ = some (.int .i64 a6) ∧ W.cell? ⟨b2, off2 + i * 11 + 8, none⟩ = some (.int .i64 a7) ∧ W.cell? ⟨b2, off2 + i * 11 + 9, none⟩ = some (.int .i64 a8) ∧ W.cell? ⟨b2, off2 + i * 11 + 10, none⟩ = some (.int .i64 a9) from fun W hW => by
        have hc := HC.out W hW
        obtain ⟨y, y1, _, y3⟩ := HX2.out W hc.1 i hlt
        rw [HXI.out] at y1
        cases y1
        exact ⟨hc.2.2.1, y3 0 _ rfl, y3 1 _ rfl, y3 2 _ rfl, y3 3 _ rfl, y3 4 _ rfl, y3 5 _ rfl, y3 6 _ rfl, y3 7 _ rfl, y3 8 _ rfl, y3 9 _ rfl, y3 10 _ rfl⟩)
       go_region_held3 (fun W => W.cell? ⟨w.heap.size, 1, none⟩ = some (.slice (some ⟨b2, off2, none⟩) n2 cap2) ∧ W.cell? ⟨b2, off2 + i * 11, none⟩ = some (.string u) ∧ W.cell? ⟨b2, off2 + i * 11 + 1, none⟩ = some (.int .i64 a0) ∧ W.cell? ⟨b2, off2 + i * 11 + 2, none⟩ = some (.int .i64 a1) ∧ W.cell? ⟨b2, off2 + i * 11 + 3, none⟩ = some (.int .i64 a2) ∧ W.cell? ⟨b2, off2 + i * 11 + 4, none⟩ = some (.int .i64 a3) ∧ W.cell? ⟨b2, off2 + i * 11 + 5, none⟩ = some (.int .i64 a4) ∧ W.cell? ⟨b2, off2 + i * 11 + 6, none⟩ = some (.int .i64 a5) ∧ W.cell? ⟨b2, off2 + i * 11 + 7, none⟩ = some (.int .i64 a6) ∧ W.cell? ⟨b2, off2 + i * 11 + 8, none⟩ = some (.int .i64 a7) ∧ W.cell? ⟨b2, off2 + i * 11 + 9, none⟩ = some (.int .i64 a8) ∧ W.cell? ⟨b2, off2 + i * 11 + 10, none⟩ = some (.int .i64 a9)) (first | exact KC.out _ HBel.out.drew | exact KC.out _ (HBel.out.drew.alloc hsz _) | exact KC.out _ (HBel.out.alloc hsz _).drew | exact KC.out _ B3.out) (first | (refine step_append_lies _ rfl (.tmp 44) (.tmp 58) 33 rfl w1.heap.size 40 iz chZero 18 168 Tryz.underlying33 hiz hz0 hz1 hz2 rfl (by decide) vv _ _ (by simp [Act.eval]) ((HRw.out.alloc _).drew) ⟨wr.heap.size, 0, none⟩ 1 1 [.int .i64 3, .int .i64 0, .int .i64 0, .string u, .string ⟨#[]⟩, .string ⟨#[]⟩, .int .i64 a0, .int .i64 a1, .int .i64 a2, .int .i64 a3, .int .i64 a4, .int .i64 a5, .int .i64 a6, .int .i64 a7, .int .i64 a8, .int .i64 a9, .int .i64 0, .int .i64 0] (by simp [Act.eval]) rfl (World.news_of_block (w := (wr.alloc _).drew) (heap_alloc_new wr _)) (by repeat (first | exact List.forall_mem_nil _ | refine List.forall_mem_cons.2 ⟨rfl, ?_⟩)) (by decide) (by unfold maxLen; omega) (by omega) (by simp; omega) _ (by simp; rfl) ?_; intro g cap w3 h1 hg _ _; have H3 := hI h1; have B3 := hI (Below.grown ((HBel.out.alloc hsz _).drew) hg (by simp; omega) (fun j hj => (World.ownsRow.lt HRw.out j hj).1)); clear h1 hg))
       all_goals (
        go_wp2
        go_round
        case rel => exact ⟨i + 1, _, by omega, by go_num, rfl, by rw [HU.out]; exact ChRow.more HM.out H3.out, B3.out⟩
        case measure => simp [intOf]; omega)
     · obtain rfl : n2 = i := by omega
       clear hrow hbel hbw
       go_wp2
       go_loopw [3, 6] (fun o c wr => ∃ (i : Nat) (vv : Value), i ≤ n3 ∧ c = .int .i64 i ∧ vv = o ∧ ChRow 40 w1.heap.size vv (upTo ca n1 n2 i 0) wr ∧ Below w1.heap.size w1 wr) (fun _ c _ => n3 - (intOf c).toNat)
       case atStart => exact ⟨0, _, Nat.zero_le _, rfl, rfl, HRow.out, HBel.out⟩
       case round =>
        obtain ⟨i, vv, hi, rfl, rfl, hrow, hbel⟩ := hrel
        obtain ⟨hbw, e1, e2, e3, e4⟩ := HC.out wr hbel
        have HRow := hI hrow
        have HBel := hI hbel
        by_cases hlt : i < n3
        · obtain ⟨x, hxi, rfl, hr⟩ := HX3.out wr hbw i hlt
          have HU := hI (upTo_n ca n1 n2 i x hxi)
          have hm := upTo_length ca n1 n2 i 0
          obtain ⟨m, hm2⟩ : ∃ m, m = (upTo ca n1 n2 i 0).length := ⟨_, rfl⟩
          rw [← hm2] at hm
          have HRw := hI (show wr.ownsRow w1.heap.size 40 18 vv m ((upTo ca n1 n2 i 0).flatMap Ch.vs) from by rw [hm2]; exact hrow)
          have HM := hI hm2
          obtain ⟨d, nm, u⟩ := x
          have k0 : wr.cell? ⟨b3, off3 + i * 3, none⟩ = some (.string d) := hr 0 _ rfl
          have k1 : wr.cell? ⟨b3, off3 + i * 3 + 1, none⟩ = some (.string nm) := hr 1 _ rfl
          have k2 : wr.cell? ⟨b3, off3 + i * 3 + 2, none⟩ = some (.string u) := hr 2 _ rfl
          have i0 : (0 : Int) ≤ (i : Int) := by omega
          have i1 : (i : Int) < (n3 : Int) := by omega
          have hsz : w1.heap.size ≤ wr.heap.size := hbel.size
          skip
          have HXI := hI hxi
          clear hrow hbel hbw hr hxi hm2
          go_wp2_with fail
          have KC := hI (show ∀ W, Below w1.heap.size w1 W → W.cell? ⟨w.heap.size, 2, none⟩ = some (.slice (some ⟨b3, off3, none⟩) n3 cap3) ∧ W.cell? ⟨b3, off3 + i * 3, none⟩ = some (.string d) ∧ W.cell? ⟨b3, off3 + i * 3 + 1, none⟩ = some (.string nm) ∧ W.cell? ⟨b3, off3 + i * 3 + 2, none⟩ = some (.string u) from fun W hW => by
           have hc := HC.out W hW
           obtain ⟨y, y1, _, y3⟩ := HX3.out W hc.1 i hlt
           rw [HXI.out] at y1
           cases y1
           exact ⟨hc.2.2.2.1, y3 0 _ rfl, y3 1 _ rfl, y3 2 _ rfl⟩)
          go_region_held3 (fun W => W.cell? ⟨w.heap.size, 2, none⟩ = some (.slice (some ⟨b3, off3, none⟩) n3 cap3) ∧ W.cell? ⟨b3, off3 + i * 3, none⟩ = some (.string d) ∧ W.cell? ⟨b3, off3 + i * 3 + 1, none⟩ = some (.string nm) ∧ W.cell? ⟨b3, off3 + i * 3 + 2, none⟩ = some (.string u)) (first | exact KC.out _ HBel.out.drew | exact KC.out _ (HBel.out.drew.alloc hsz _) | exact KC.out _ (HBel.out.alloc hsz _).drew | exact KC.out _ B3.out) (first | (refine step_append_lies _ rfl (.tmp 67) (.tmp 87) 33 rfl w1.heap.size 40 iz chZero 18 168 Tryz.underlying33 hiz hz0 hz1 hz2 rfl (by decide) vv _ _ (by simp [Act.eval]) ((HRw.out.alloc _).drew) ⟨wr.heap.size, 0, none⟩ 1 1 [.int .i64 6, .int .i64 0, .int .i64 0, .string d, .string nm, .string u, .int .i64 0, .int .i64 0, .int .i64 0, .int .i64 0, .int .i64 0, .int .i64 0, .int .i64 0, .int .i64 0, .int .i64 0, .int .i64 0, .int .i64 0, .int .i64 0] (by simp [Act.eval]) rfl (World.news_of_block (w := (wr.alloc _).drew) (heap_alloc_new wr _)) (by repeat (first | exact List.forall_mem_nil _ | refine List.forall_mem_cons.2 ⟨rfl, ?_⟩)) (by decide) (by unfold maxLen; omega) (by omega) (by simp; omega) _ (by simp; rfl) ?_; intro g cap w3 h1 hg _ _; have H3 := hI h1; have B3 := hI (Below.grown ((HBel.out.alloc hsz _).drew) hg (by simp; omega) (fun j hj => (World.ownsRow.lt HRw.out j hj).1)); clear h1 hg))
          all_goals (
           go_wp2
           go_round
           case rel => exact ⟨i + 1, _, by omega, by go_num, rfl, by rw [HU.out]; exact ChRow.more HM.out H3.out, B3.out⟩
           case measure => simp [intOf]; omega)
        · obtain rfl : n3 = i := by omega
          clear hrow hbel hbw
          go_wp2
          go_loopw [3, 7] (fun o c wr => ∃ (i : Nat) (vv : Value), i ≤ n4 ∧ c = .int .i64 i ∧ vv = o ∧ ChRow 40 w1.heap.size vv (upTo ca n1 n2 n3 i) wr ∧ Below w1.heap.size w1 wr) (fun _ c _ => n4 - (intOf c).toNat)
          case atStart => exact ⟨0, _, Nat.zero_le _, rfl, rfl, HRow.out, HBel.out⟩
          case round =>
           obtain ⟨i, vv, hi, rfl, rfl, hrow, hbel⟩ := hrel
           obtain ⟨hbw, e1, e2, e3, e4⟩ := HC.out wr hbel
           have HRow := hI hrow
           have HBel := hI hbel
           by_cases hlt : i < n4
           · obtain ⟨x, hxi, rfl, hr⟩ := HX4.out wr hbw i hlt
             have HU := hI (upTo_b ca n1 n2 n3 i x hxi)
             have hm := upTo_length ca n1 n2 n3 i
             obtain ⟨m, hm2⟩ : ∃ m, m = (upTo ca n1 n2 n3 i).length := ⟨_, rfl⟩
             rw [← hm2] at hm
             have HRw := hI (show wr.ownsRow w1.heap.size 40 18 vv m ((upTo ca n1 n2 n3 i).flatMap Ch.vs) from by rw [hm2]; exact hrow)
             have HM := hI hm2
             obtain ⟨u, no, sl⟩ := x
             have k0 : wr.cell? ⟨b4, off4 + i * 3, none⟩ = some (.string u) := hr 0 _ rfl
             have k1 : wr.cell? ⟨b4, off4 + i * 3 + 1, none⟩ = some (.int .i64 no) := hr 1 _ rfl
             have k2 : wr.cell? ⟨b4, off4 + i * 3 + 2, none⟩ = some (.int .i64 sl) := hr 2 _ rfl
             have i0 : (0 : Int) ≤ (i : Int) := by omega
             have i1 : (i : Int) < (n4 : Int) := by omega
             have hsz : w1.heap.size ≤ wr.heap.size := hbel.size
             skip
             have HXI := hI hxi
             clear hrow hbel hbw hr hxi hm2
             go_wp2_with fail
             have KC := hI (show ∀ W, Below w1.heap.size w1 W → W.cell? ⟨w.heap.size, 3, none⟩ = some (.slice (some ⟨b4, off4, none⟩) n4 cap4) ∧ W.cell? ⟨b4, off4 + i * 3, none⟩ = some (.string u) ∧ W.cell? ⟨b4, off4 + i * 3 + 1, none⟩ = some (.int .i64 no) ∧ W.cell? ⟨b4, off4 + i * 3 + 2, none⟩ = some (.int .i64 sl) from fun W hW => by
              have hc := HC.out W hW
              obtain ⟨y, y1, _, y3⟩ := HX4.out W hc.1 i hlt
              rw [HXI.out] at y1
              cases y1
              exact ⟨hc.2.2.2.2, y3 0 _ rfl, y3 1 _ rfl, y3 2 _ rfl⟩)
             go_region_held3 (fun W => W.cell? ⟨w.heap.size, 3, none⟩ = some (.slice (some ⟨b4, off4, none⟩) n4 cap4) ∧ W.cell? ⟨b4, off4 + i * 3, none⟩ = some (.string u) ∧ W.cell? ⟨b4, off4 + i * 3 + 1, none⟩ = some (.int .i64 no) ∧ W.cell? ⟨b4, off4 + i * 3 + 2, none⟩ = some (.int .i64 sl)) (first | exact KC.out _ HBel.out.drew | exact KC.out _ (HBel.out.drew.alloc hsz _) | exact KC.out _ (HBel.out.alloc hsz _).drew | exact KC.out _ B3.out) (first | (refine step_append_lies _ rfl (.tmp 96) (.tmp 116) 33 rfl w1.heap.size 40 iz chZero 18 168 Tryz.underlying33 hiz hz0 hz1 hz2 rfl (by decide) vv _ _ (by simp [Act.eval]) ((HRw.out.alloc _).drew) ⟨wr.heap.size, 0, none⟩ 1 1 [.int .i64 8, .int .i64 0, .int .i64 0, .string u, .string ⟨#[]⟩, .string ⟨#[]⟩, .int .i64 0, .int .i64 0, .int .i64 0, .int .i64 0, .int .i64 0, .int .i64 0, .int .i64 0, .int .i64 0, .int .i64 0, .int .i64 0, .int .i64 no, .int .i64 sl] (by simp [Act.eval]) rfl (World.news_of_block (w := (wr.alloc _).drew) (heap_alloc_new wr _)) (by repeat (first | exact List.forall_mem_nil _ | refine List.forall_mem_cons.2 ⟨rfl, ?_⟩)) (by decide) (by unfold maxLen; omega) (by omega) (by simp; omega) _ (by simp; rfl) ?_; intro g cap w3 h1 hg _ _; have H3 := hI h1; have B3 := hI (Below.grown ((HBel.out.alloc hsz _).drew) hg (by simp; omega) (fun j hj => (World.ownsRow.lt HRw.out j hj).1)); clear h1 hg))
             all_goals (
              go_wp2
              go_round
              case rel => exact ⟨i + 1, _, by omega, by go_num, rfl, by rw [HU.out]; exact ChRow.more HM.out H3.out, B3.out⟩
              case measure => simp [intOf]; omega)
           · obtain rfl : n4 = i := by omega
             go_wp2
             go_returns
             refine ⟨_, rfl, ?_, hbw⟩
             obtain ⟨q1, q2, q3, q4⟩ := HN.out
             have := HRow.out
             rw [q1, q2, q3, q4, upTo_all, hs1] at this
             exact this
end Go.Proofs.YtngfknplljedeaaGreat
