/- The law's step on no disk. -/
import Derived.Test.YtfipojmgmmjnmaaDr
namespace Go.Proofs.Ytfipojmgmmjnmaa
open Go.RowKit

set_option maxRecDepth 100000 in
set_option maxHeartbeats 1000000 in
theorem dkdo_none (d v : Value) (x : Sp) (w : World) (hks : x.keep.length ≤ 1073741824) (hv : Ints (fun b => b < w.heap.size) v x.keep w) (h : NoD d w) :
    Calls Try.prog 14 #[d, .agg (spcells x v)] w fun e w' => e = .returned (.tuple #[.string ⟨#[]⟩, .int .i64 1]) ∧ Below w.heap.size w w' := by
  obtain ⟨kind, i, s, keep⟩ := x
  obtain ⟨i0, hi, hz0, hz1, hz2⟩ := info_parts Try.infoInt
  obtain ⟨cs, hcs⟩ : ∃ cs, cs = spcells ⟨kind, i, s, keep⟩ v := ⟨_, rfl⟩
  have T0 := St.new w 36 (spcells ⟨kind, i, s, keep⟩ v)
  rw [← hcs] at T0 ⊢
  have b0 : (w.alloc (.cells cs 36 (0, 0))).cell? ⟨w.heap.size, 0, none⟩ = some (.int .i64 kind) := T0.cell (by rw [hcs]; rfl)
  have b1 : (w.alloc (.cells cs 36 (0, 0))).cell? ⟨w.heap.size, 1, none⟩ = some (.int .i64 i) := T0.cell (by rw [hcs]; rfl)
  have b2 : (w.alloc (.cells cs 36 (0, 0))).cell? ⟨w.heap.size, 2, none⟩ = some (.string s) := T0.cell (by rw [hcs]; rfl)
  have b3 : (w.alloc (.cells cs 36 (0, 0))).cell? ⟨w.heap.size, 3, none⟩ = some v := T0.cell (by rw [hcs]; rfl)
  have hb1 : Below w.heap.size w (w.alloc (.cells cs 36 (0, 0))) := (Below.refl _ w).alloc (Nat.le_refl _) _
  have HB1 := Lib.hid hb1
  have HD := Lib.hid (h.below hb1)
  obtain ⟨dd, hdd⟩ : ∃ dd, dd = d := ⟨_, rfl⟩
  rw [← hdd] at HD ⊢
  by_cases k4 : kind = 4
  · subst k4
    obtain ⟨ao, kc, kb, ko, rfl, ⟨hkl, hkn⟩, hka, hkx⟩ := hv
    have hlt : w.heap.size < (w.alloc (.cells cs 36 (0, 0))).heap.size := by simp
    have hown : ((w.alloc (.cells cs 36 (0, 0))).alloc (.cells #[] 3 (0, 0))).ownsRow w.heap.size 3 1 (.slice (some ⟨w.heap.size + 1, 0, none⟩) 0 0) 0 [] := by
      have h := World.ownsRow_made (base := w.heap.size) (e := 3) (size := 1) (w.alloc (.cells cs 36 (0, 0))) #[] 0 (by omega) (by decide) (by simp)
      rwa [show (w.alloc (.cells cs 36 (0, 0))).heap.size = w.heap.size + 1 from by simp] at h
    have hb2 : Below w.heap.size w ((w.alloc (.cells cs 36 (0, 0))).alloc (.cells #[] 3 (0, 0))) := hb1.alloc (by simp) _
    have HO := Lib.hid hown
    have HB2 := Lib.hid hb2
    have HCr := Lib.hid (fun W k (hW : Below w.heap.size w W) => dCrash_no d k W (h.below hW))
    rw [← hdd] at HCr
    have b4 : ((w.alloc (.cells cs 36 (0, 0))).alloc (.cells #[] 3 (0, 0))).cell? ⟨w.heap.size, 3, none⟩ = (w.alloc (.cells cs 36 (0, 0))).cell? ⟨w.heap.size, 3, none⟩ := World.cell?_of_block (Below.heap_alloc _ _ _ hlt)
    rw [b3] at b4
    clear T0 hown hb2 h hcs hlt b3 b1 b2 hb1 hdd
    cases ao with
    | none =>
      obtain rfl : kc = 0 := hkn rfl
      have hk0 : keep = [] := by
        rcases Nat.eq_zero_or_pos keep.length with h | h
        · exact List.length_eq_zero_iff.1 h
        · have := (hka h).1; cases this
      subst hk0
      have b4 : ((w.alloc (.cells cs 36 (0, 0))).alloc (.cells #[] 3 (0, 0))).cell? ⟨w.heap.size, 3, none⟩ = some (.slice none 0 0) := b4
      clear hka hkx hkn hkl hks
      go_enter Try.func14, Try.ntmps14
      go_wp2_with (first | (at_builtin; go_must (refine wpList_append_own_none rfl (.tmp 29) (.tmp 31) 34 rfl w.heap.size 3 i0 1 Try.underlying34 hi _ _ _ (by simp [Act.eval]) HO.out (by simp [Act.eval]) ?_)) | (go_at_call 21; go_must (with_reducible refine (HCr.out _ _ HB2.out).mono ?_); rintro e w1 ⟨rfl, rfl⟩))
      go_ret2
      exact ⟨rfl, HB2.out⟩
    | some ad =>
      have HX := Lib.hid (show ∀ j u, (keep.map (Value.int .i64))[j]? = some u → ((w.alloc (.cells cs 36 (0, 0))).alloc (.cells #[] 3 (0, 0))).cell? (ad.add j) = some u from fun j u hu => by
        rw [List.getElem?_map] at hu
        obtain ⟨y, hy, rfl⟩ := Option.map_eq_some_iff.1 hu
        have hl : 0 < keep.length := by have := (List.getElem?_eq_some_iff.1 hy).1; omega
        obtain ⟨q1, q2, q3⟩ := hka hl
        injection q1 with q1
        subst q1
        rw [Addr.add_mid]
        exact (HB2.out.cell (p := ⟨kb, ko + j, none⟩) q2).trans (hkx j y hy))
      obtain ⟨n, hn⟩ : ∃ n, n = keep.length := ⟨_, rfl⟩
      rw [← hn] at b4 hks
      have HN := Lib.hid hn
      clear hka hkx hkn hkl hn
      go_enter Try.func14, Try.ntmps14
      go_wp2_with (first | (at_builtin; go_must (refine wpList_append_own _ rfl (.tmp 29) (.tmp 31) 34 rfl w.heap.size 3 i0 (.int .i64 0) 1 8 Try.underlying34 hi hz0 hz1 hz2 rfl (by decide) _ 0 [] (by simp [Act.eval]) HO.out ad n kc (keep.map (Value.int .i64)) (by simp [Act.eval]) (by rw [List.length_map, ← HN.out]; omega) HX.out (by intro u hu; obtain ⟨y, _, rfl⟩ := List.mem_map.1 hu; rfl) (by unfold maxLen; omega) (by omega) (by simp; omega) ?_); intro v' w2 h1 hg _; have HG := Lib.hid (show Below w.heap.size w w2 from HB2.out.grown hg (by simp; omega) (fun k hk => by simp [Value.ownBlock] at hk; omega)); clear h1 hg) | (go_at_call 21; go_must (with_reducible refine (HCr.out _ _ HG.out).mono ?_); rintro e w1 ⟨rfl, rfl⟩))
      go_ret2
      exact ⟨rfl, HG.out⟩
  · have d4 : (kind == 4) = false := by rw [beq_eq_false_iff_ne]; exact k4
    have HW := Lib.hid (dWrite_no dd i s _ HD.out)
    have HBa := Lib.hid (dBarrier_no dd _ HD.out)
    have HA := Lib.hid (dArm_no dd i _ HD.out)
    have HR := Lib.hid (dRead_no dd i _ HD.out)
    clear T0 hcs hdd h hv hks HD hb1
    by_cases k1 : kind = 1
    · subst k1
      clear d4
      go_enter Try.func14, Try.ntmps14
      go_wp2_with (go_at_call 22; go_must (with_reducible refine HW.out.mono ?_); rintro e w1 ⟨rfl, rfl⟩)
      go_ret2
      exact ⟨rfl, HB1.out⟩
    · have d1 : (kind == 1) = false := by rw [beq_eq_false_iff_ne]; exact k1
      by_cases k2 : kind = 2
      · subst k2
        clear d4 d1
        go_enter Try.func14, Try.ntmps14
        go_wp2_with (go_at_call 24; go_must (with_reducible refine HBa.out.mono ?_); rintro e w1 ⟨rfl, rfl⟩)
        go_ret2
        exact ⟨rfl, HB1.out⟩
      · have d2 : (kind == 2) = false := by rw [beq_eq_false_iff_ne]; exact k2
        by_cases k3 : kind = 3
        · subst k3
          clear d4 d1 d2
          go_enter Try.func14, Try.ntmps14
          go_wp2_with (go_at_call 35; go_must (with_reducible refine HA.out.mono ?_); rintro e w1 ⟨rfl, rfl⟩)
          go_ret2
          exact ⟨rfl, HB1.out⟩
        · have d3 : (kind == 3) = false := by rw [beq_eq_false_iff_ne]; exact k3
          go_enter Try.func14, Try.ntmps14
          go_wp2_with (go_at_call 25; go_must (with_reducible refine HR.out.mono ?_); rintro e w1 ⟨rfl, rfl⟩)
          go_ret2
          exact ⟨rfl, HB1.out⟩
end Go.Proofs.Ytfipojmgmmjnmaa
