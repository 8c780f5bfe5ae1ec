/- What a disk keeps: the law's walk. -/
import Derived.Test.YtfipojmgmmjnmaaDy
import Derived.StillTailTactics
namespace Go.Proofs.Ytfipojmgmmjnmaa
open Go.RowKit

/-- Steps as a loop reads them: each step's cells, its number, and what it may keep, in every later world. -/
def Has (W0 : World) (ao : Option Addr) (b off n : Nat) (xs : List Sp) : Prop :=
  ∀ k, k < n → ∃ (x : Sp) (kv : Value), xs[k]? = some x ∧ ao = some ⟨b, off, none⟩ ∧ x.num ∧ x.s.size ≤ 200 ∧ x.keep.length ≤ 1073741824 ∧
    ∀ W, Below W0.heap.size W0 W → W.rangeAt b (off + k * 4) (spcells x kv).toList ∧ Ints (fun j => j < W0.heap.size) kv x.keep W ∧
      W.cell? ⟨b, off + k * 4, none⟩ = some (.int .i64 x.kind) ∧ W.cell? ⟨b, off + k * 4 + 1, none⟩ = some (.int .i64 x.i) ∧ W.cell? ⟨b, off + k * 4 + 2, none⟩ = some (.string x.s)
theorem has_of {w : World} {ao : Option Addr} {cap : Nat} {xs : List Sp} (hl : largeSp xs = false) (h : Steps w.heap.size (.slice ao xs.length cap) xs w) : xs.length ≤ 60 ∧ ∃ b off, Has w ao b off xs.length xs := by
  obtain ⟨_, _, b, off, hat⟩ := steps_at h
  refine ⟨?_, b, off, fun k hk => ?_⟩
  · unfold largeSp at hl
    rw [Bool.or_eq_false_iff] at hl
    have := of_decide_eq_false hl.2
    omega
  · obtain ⟨x, kv, g1, g2, g3, g4⟩ := hat k hk
    have hb := not_large hl k x g1
    refine ⟨x, kv, g1, g2, g3, hb.1, by omega, fun W hW => ?_⟩
    obtain ⟨r, i⟩ := g4 W hW
    exact ⟨r, i, r 0 _ rfl, r 1 _ rfl, r 2 _ rfl⟩

set_option maxRecDepth 100000 in
set_option maxHeartbeats 4000000 in
theorem keeps_walk (ao bo ko : Option Addr) (ac bc kc : Nat) (xs ys : List Sp) (keep : List Int) (w : World) (h1 : largeSp xs = false) (h2 : largeSp ys = false) (h3 : keep.length ≤ 60)
    (hx : Steps w.heap.size (.slice ao xs.length ac) xs w) (hy : Steps w.heap.size (.slice bo ys.length bc) ys w) (hk : Ints (fun j => j < w.heap.size) (.slice ko keep.length kc) keep w) :
    Calls Try.prog 4 #[.slice ao xs.length ac, .slice bo ys.length bc, .slice ko keep.length kc] w fun e w' => e = .returned (.bool true) ∧ Below w.heap.size w w' := by
  have HLx := Lib.hid (show Calls Try.prog 9 #[.slice ao xs.length ac] w fun e w' => e = .returned (.bool false) ∧ w = w' from by have := dkLarge_any w.heap.size _ xs w hx; rw [h1] at this; exact this)
  have HLy := Lib.hid (show Calls Try.prog 9 #[.slice bo ys.length bc] w fun e w' => e = .returned (.bool false) ∧ w = w' from by have := dkLarge_any w.heap.size _ ys w hy; rw [h2] at this; exact this)
  obtain ⟨i0, hi, hz0, hz1, hz2⟩ := info_parts Try.infoWrite
  obtain ⟨nx, b1, o1, hX⟩ := has_of h1 hx
  obtain ⟨ny, b2, o2, hY⟩ := has_of h2 hy
  have HX := Lib.hid hX
  have HY := Lib.hid hY
  have HK := Lib.hid (fun W (hW : Below w.heap.size w W) => hk.below hW)
  obtain ⟨n, hn⟩ : ∃ n, n = xs.length := ⟨_, rfl⟩
  obtain ⟨m, hm⟩ : ∃ m, m = ys.length := ⟨_, rfl⟩
  obtain ⟨kn, hkn⟩ : ∃ kn, kn = keep.length := ⟨_, rfl⟩
  rw [← hn] at HLx HX nx ⊢
  rw [← hm] at HLy HY ny ⊢
  rw [← hkn] at HK h3 ⊢
  have HNew := Lib.hid (show Calls Try.prog 11 #[.int .i64 8] w fun e w' => ∃ p, e = .returned (.tuple #[.pointer (some ⟨p, 0, none⟩), .int .i64 0]) ∧ PD w.heap.size p (fun j => w.heap.size ≤ j ∧ j < w'.heap.size) (DS.new 8) w' ∧ Below w.heap.size w w' from dNew_ok 8 w (by omega) (by omega))
  have d3 : decide ((kn : Int) > 60) = false := decide_eq_false (by omega)
  clear h1 h2 hx hy hk hX hY hn hm hkn h3
  go_enter Try.func4, Try.ntmps4
  go_wp2_with (first
    | (go_at_call 9; (with_reducible refine HLx.out.mono ?_); rintro e w1 ⟨rfl, rfl⟩)
    | (go_at_call 9; (with_reducible refine HLy.out.mono ?_); rintro e w1 ⟨rfl, rfl⟩)
    | (go_at_call 11; go_must (with_reducible refine HNew.out.mono ?_); rintro e w1 ⟨p, rfl, hp, b1⟩; have S1 := Lib.hid (K1.new hp b1); clear hp b1))
  clear HLx HLy HNew d3
  go_loopw [9] (fun c wr => ∃ k : Nat, k ≤ n ∧ c = .int .i64 k ∧ K1 w p k wr) (fun c _ => n - (intOf c).toNat)
  case atStart => exact ⟨0, Nat.zero_le _, rfl, S1.out⟩
  case round =>
    obtain ⟨k, hk, rfl, hK⟩ := hrel
    by_cases hlt : k < n
    · obtain ⟨x, kv, hxk, rfl, hxn, _, hks, hW⟩ := HX.out k hlt
      obtain ⟨hR, hI, _⟩ := hW wr hK.b0
      have HC := Lib.hid (hK.step (by omega) x kv hxn hks hI)
      have HR := Lib.hid hR
      have hb0 : (0 : Int) ≤ (k : Int) := by omega
      have hb1 : (k : Int) < (n : Int) := by omega
      clear hR hI hK hxk hxn hks hW HY HK
      go_wp2_with (first
        | ((with_reducible show wpList _ _ _ ({ dst := _, op := .load _ (.tmp 45), .. } :: _) _ _); refine wpList_load_mid rfl 36 (.tmp 45) rfl b1 (o1 + k * 4) (by simp [Act.eval]) (spcells x kv).toList _ HR.out Try.underlying36 rfl (by kernel_rfl) ?_)
        | (go_at_call 14; go_must (with_reducible refine HC.out.mono ?_); rintro a2 w2 ⟨⟨r2, e2, rfl⟩, h2⟩; have H2 := Lib.hid h2; clear h2))
      go_roundw
      case rel => exact ⟨k + 1, by omega, by go_num, H2.out⟩
      case measure => simp [intOf]; omega
    · obtain rfl : k = n := by omega
      have HC := Lib.hid (hK.crash (by omega))
      clear hK HX S1
      go_wp2_with (first
        | (go_at_call 21; go_must (with_reducible refine HC.out.mono ?_); rintro a2 w2 ⟨⟨e2, rfl⟩, h2⟩; have H2 := Lib.hid h2; clear h2)
        | (go_at_call 20; go_must (with_reducible refine H2.out.mono ?_); rintro a3 w3 ⟨va, K, rfl, h3⟩; have H3 := Lib.hid h3; clear h3))
      go_loopw [11, 12] (fun v c wr => ∃ (j : Nat) (l : List (Nat × ByteArray)), j ≤ m ∧ l.length ≤ j ∧ c = .int .i64 j ∧ K3 w p (60 + j) K va v l l wr) (fun _ c _ => m - (intOf c).toNat)
      case atStart => exact ⟨0, [], Nat.zero_le _, by simp, rfl, H3.out.more (by omega)⟩
      case round =>
        obtain ⟨j, l, hj, hlj, rfl, hK⟩ := hrel
        by_cases hlt : j < m
        · obtain ⟨x, kv, hyj, rfl, hxn, hxs, hks, hW⟩ := HY.out j hlt
          obtain ⟨_, _, c0, c1, c2⟩ := hW wr hK.b0
          have HK3 := Lib.hid hK
          have HW := Lib.hid hW
          have hb0 : (0 : Int) ≤ (j : Int) := by omega
          have hb1 : (j : Int) < (m : Int) := by omega
          have hxs2 := hxs
          obtain ⟨kind, i, s, keep2⟩ := x
          simp only at c0 c1 c2 hxs hxs2
          clear hyj hxn hks hW
          by_cases hk1 : kind = 1
          · subst hk1
            clear hK
            go_wp2_with fail
            go_still_tail 11, (by kernel_rfl)
            change wpList _ _ _ _ _ wr.drew
            obtain ⟨e, hc⟩ := (HK3.out.drewN 1).write (by omega) (by omega) i s
            have HC2 := Lib.hid (show Calls Try.prog 22 #[.pointer (some ⟨p, 0, none⟩), .int .i64 i, .string s] wr.drew _ from hc)
            clear hc
            by_cases he : e = 0
            · subst he
              go_wp2_with (go_at_call 22; go_must (with_reducible refine HC2.out.mono ?_); rintro a4 w4 ⟨rfl, h4⟩; have H4 := Lib.hid h4; clear h4)
              obtain ⟨i, rfl⟩ : ∃ q : Nat, i = (q : Int) := by
                rcases H4.out with h | h
                · exact absurd rfl h.1
                · exact ⟨i.toNat, by have := h.2.1; omega⟩
              have h4 : s.size ≤ 128 ∧ K3 w p (60 + j + 1) K va u11 (l ++ [(i, blank s)]) l w4 := by
                rcases H4.out with h | h
                · exact absurd rfl h.1
                · exact ⟨h.2.2.1, h.2.2.2⟩
              obtain ⟨h128, h4⟩ := h4
              obtain ⟨_, _, _, f1, f2⟩ := HW.out w4 h4.b0
              have HBl := Lib.hid (fun W => dkBlank_any s W (by omega))
              obtain ⟨bs, hbs⟩ : ∃ bs, bs = blank s := ⟨_, rfl⟩
              rw [← hbs] at HBl h4
              have hw := h4.own
              have hsz := h4.b0.size
              have H5 := Lib.hid h4
              have HBS := Lib.hid hbs
              have hlb : l.length ≤ 60 := by omega
              clear h4 c0 c1 c2 hbs H4 HC2 hxs hxs2 h128
              go_wp2_with fail
              go_region_law (first | (refine step_append_lies _ rfl (.tmp 77) (.tmp 90) 41 rfl w.heap.size 51 i0 (.agg #[.int .i64 0, .string ⟨#[]⟩]) 2 24 Try.underlying41 hi hz0 hz1 hz2 rfl (by decide) u11 _ _ (by simp [Act.eval]) ((hw.alloc _).drew) ⟨w4.heap.size, 0, none⟩ 1 1 [.int .i64 (i : Int), .string bs] (by simp [Act.eval]) rfl (World.news_of_block (w := (w4.alloc _).drew) (heap_alloc_new w4 _)) (by intro u hu; simp at hu; rcases hu with rfl | rfl <;> rfl) (by decide) (by unfold maxLen; omega) (by omega) (by simp; omega) _ (by simp; rfl) ?_; intro g cap w6 h1 hg hat hl2) | (go_simp; go_at_call 23; refine (HBl.out _).mono ?_; rintro e w' ⟨rfl, rfl⟩))
              all_goals
                have H6 := Lib.hid (H5.out.push h1 hg hat)
                clear h1 hg hat hl2 hw f1 f2
                go_wp2_with fail
                go_roundw
                case rel => exact ⟨j + 1, l ++ [(i, bs)], by omega, by rw [List.length_append]; simp; omega, by go_num, H6.out.more (by omega)⟩
                case measure => simp [intOf]; omega
            · have d2 : (e == 0) = false := by rw [beq_eq_false_iff_ne]; exact he
              have HE := Lib.hid he
              clear he c1 c2
              go_wp2_with (go_at_call 22; go_must (with_reducible refine HC2.out.mono ?_); rintro a4 w4 ⟨rfl, h4⟩; have H4 := Lib.hid h4; clear h4)
              go_roundw
              case rel =>
                refine ⟨j + 1, l, by omega, by omega, by go_num, ?_⟩
                rcases H4.out with h | h
                · exact h.2.more (by omega)
                · exact absurd h.1 HE.out
              case measure => simp [intOf]; omega
          · have d1 : (kind != 1) = true := by rw [bne_iff_ne]; exact hk1
            clear hK hk1
            go_wp2_with fail
            go_roundw
            case rel => exact ⟨j + 1, l, by omega, by omega, by go_num, HK3.out.more (by omega)⟩
            case measure => simp [intOf]; omega
        · obtain rfl : j = m := by omega
          have HKI := Lib.hid (HK.out wr hK.b0)
          obtain ⟨aa, ca, rfl⟩ := hK.vas
          have HC := Lib.hid (hK.last (by omega) HKI.out)
          clear hK HK HKI HY H3 H2
          go_wp2_with (first
            | (go_at_call 21; go_must (with_reducible refine HC.out.mono ?_); rintro a5 w5 ⟨⟨e5, rfl⟩, h5⟩; have H5 := Lib.hid h5; clear h5)
            | (go_at_call 20; go_must (with_reducible refine H5.out.mono ?_); rintro a6 w6 ⟨vb, K', rfl, h6⟩; obtain ⟨ab, cb, bb, ob, hvb, gb⟩ := h6.sb.get8 h6.len'; subst hvb; have H6 := Lib.hid h6; have GB := Lib.hid gb; clear h6 gb))
          obtain ⟨va1, va2, hA⟩ := H6.out.sa.at8 H6.out.len
          obtain ⟨ro, rc, hrv, hrow⟩ := H6.out.row
          subst hrv
          obtain ⟨ln, hln⟩ : ∃ ln, ln = l.length := ⟨_, rfl⟩
          rw [← hln] at hrow ⊢
          have hlnb : ln ≤ 60 := by omega
          have HA := Lib.hid hA
          have HL := Lib.hid hln
          have HRow := Lib.hid hrow
          clear hA hrow hln
          go_loopw [14, 15, 16] (fun c _ _ wr' => ∃ (k' q : Nat), k' ≤ 8 ∧ c = .int .i64 k' ∧ wr' = w6.drewN q) (fun c _ _ _ => 8 - (intOf c).toNat)
          case atStart => exact ⟨0, 0, by omega, rfl, rfl⟩
          case round =>
            obtain ⟨k', q, hk', rfl, rfl⟩ := hrel
            by_cases hlt : k' < 8
            · obtain ⟨s, t, hs, ht, hst⟩ := H6.out.sector k' hlt
              obtain ⟨rfl, c1⟩ := HA.out k' s hs
              obtain ⟨rfl, c2⟩ := GB.out k' t ht
              have c1 : (w6.drewN q).cell? ⟨va1, va2 + k', none⟩ = some (.string s) := c1
              have c2 : (w6.drewN q).cell? ⟨bb, ob + k', none⟩ = some (.string t) := c2
              obtain ⟨b0, hb0⟩ : ∃ b0, b0 = decide (t = s) := ⟨_, rfl⟩
              have hbe : (t.toList == s.toList) = b0 := by rw [hb0]; exact toList_eq t s
              have HST := Lib.hid (show (b0 || saidB k' t l) = true by rw [hb0]; exact hst)
              have g0 : (0 : Int) ≤ (k' : Int) := by omega
              have g1 : (k' : Int) < 8 := by omega
              clear hs ht hst hb0
              go_wp2_with fail
              go_quiet (fail)
              go_wp2_with fail
              generalize hW7 : (w6.drewN q).drewN nq = w7
              have c2' : w7.cell? ⟨bb, ob + k', none⟩ = some (.string t) := by rw [← hW7]; exact c2
              have HR7 := Lib.hid (show ∀ i, i < ln → ∃ (g : Nat) (x : Nat × ByteArray), l[i]? = some x ∧ ro = some ⟨g, 0, none⟩ ∧ w7.cell? ⟨g, i * 2, none⟩ = some (.int .i64 (x.1 : Int)) ∧ w7.cell? ⟨g, i * 2 + 1, none⟩ = some (.string x.2) from by rw [← hW7]; exact HRow.out)
              have H7 := Lib.hid hW7
              clear hW7 c1 c2 hbe
              go_loopw [15, 16] (fun v c wi => ∃ (i q' : Nat), i ≤ ln ∧ c = .int .i64 i ∧ v = .bool (b0 || saidB k' t (l.take i)) ∧ wi = w7.drewN q') (fun _ c _ => ln - (intOf c).toNat)
              case atStart => exact ⟨0, 0, Nat.zero_le _, rfl, by rw [List.take_zero]; simp [saidB], rfl⟩
              case round =>
                obtain ⟨i, q', hi', rfl, rfl, rfl⟩ := hrel
                obtain ⟨sb, hsb⟩ : ∃ sb, sb = (b0 || saidB k' t (l.take i)) := ⟨_, rfl⟩
                rw [← hsb]
                have HSB := Lib.hid hsb
                clear hsb
                by_cases hil : i < ln
                · obtain ⟨g, x, hxi, rfl, y1, y2⟩ := HR7.out i hil
                  have y1 : (w7.drewN q').cell? ⟨g, i * 2, none⟩ = some (.int .i64 (x.1 : Int)) := y1
                  have y2 : (w7.drewN q').cell? ⟨g, i * 2 + 1, none⟩ = some (.string x.2) := y2
                  have y3 : (w7.drewN q').cell? ⟨bb, ob + k', none⟩ = some (.string t) := c2'
                  have i0 : (0 : Int) ≤ (i : Int) := by omega
                  have i1 : (i : Int) < (ln : Int) := by omega
                  have HSA := Lib.hid (said_at k' t l i x hxi)
                  clear hxi
                  cases sb with
                  | true =>
                    go_wp2_with fail
                    go_quiet (fail)
                    go_wp2_with fail
                    go_roundw
                    case rel => exact ⟨i + 1, _, by omega, by go_num, by rw [HSA.out, ← Bool.or_assoc, ← HSB.out]; rfl, rfl⟩
                    case measure => simp [intOf]; omega
                  | false =>
                    by_cases hxk : x.1 = k'
                    · have d1 : ((x.1 : Int) == (k' : Int)) = true := by rw [hxk]; simp
                      obtain ⟨b2', hb2'⟩ : ∃ b, b = decide (x.2 = t) := ⟨_, rfl⟩
                      have d2 : (x.2.toList == t.toList) = b2' := by rw [hb2']; exact toList_eq x.2 t
                      have HXK := Lib.hid (And.intro hxk hb2')
                      clear hxk hb2'
                      go_wp2_with fail
                      go_quiet (fail)
                      go_wp2_with fail
                      go_roundw
                      case rel => exact ⟨i + 1, _, by omega, by go_num, by rw [HSA.out, ← Bool.or_assoc, ← HSB.out, decide_eq_true HXK.out.1, ← HXK.out.2]; rfl, rfl⟩
                      case measure => simp [intOf]; omega
                    · have d1 : ((x.1 : Int) == (k' : Int)) = false := by rw [beq_eq_false_iff_ne]; omega
                      have HXK := Lib.hid hxk
                      clear hxk
                      go_wp2_with fail
                      go_quiet (fail)
                      go_wp2_with fail
                      go_roundw
                      case rel => exact ⟨i + 1, _, by omega, by go_num, by rw [HSA.out, ← Bool.or_assoc, ← HSB.out, decide_eq_false HXK.out]; rfl, rfl⟩
                      case measure => simp [intOf]; omega
                · obtain rfl : i = ln := by omega
                  obtain rfl : sb = true := by
                    rw [HSB.out, List.take_of_length_le (by rw [← HL.out]; exact Nat.le_refl _)]
                    exact HST.out
                  clear c2'
                  go_wp2_with fail
                  go_roundw
                  case rel => exact ⟨k' + 1, q + (nq + q'), by omega, by go_num, by rw [← H7.out, World.drewN_drewN, World.drewN_drewN]⟩
                  case measure => simp [intOf]; omega
            · obtain rfl : k' = 8 := by omega
              have HFn := Lib.hid ((H6.out.drewN q).fin (by omega))
              have HBl := Lib.hid (fun W => dkBlank_any ⟨#[122]⟩ W (by decide))
              obtain ⟨bz, hbz⟩ : ∃ bz, bz = blank ⟨#[122]⟩ := ⟨_, rfl⟩
              rw [← hbz] at HFn HBl
              have HKn := Lib.hid (fun W (hW : Below w.heap.size w W) => (dkknown_any W).mono (R' := fun e w' => e = .returned (.bool true) ∧ Below w.heap.size w w') fun e w' ⟨he, hb⟩ => ⟨he, hW.trans (hb.mono hW.size)⟩)
              clear hbz
              go_wp2_with (first
                | (go_at_call 22; go_must (with_reducible refine HFn.out.mono ?_); rintro a7 w7 ⟨⟨e7, rfl⟩, h7⟩; have G7 := Lib.hid h7; clear h7)
                | (go_at_call 24; go_must (with_reducible refine G7.out.mono ?_); rintro a8 w8 ⟨rfl, h8⟩; have G8 := Lib.hid h8; clear h8)
                | (go_at_call 21; go_must (with_reducible refine G8.out.mono ?_); rintro a9 w9 ⟨⟨e9, rfl⟩, h9⟩; have G9 := Lib.hid h9; clear h9)
                | (go_at_call 25; go_must (with_reducible refine G9.out.mono ?_); rintro a10 w10 ⟨rfl, h10⟩; have G10 := Lib.hid h10; clear h10)
                | (go_at_call 23; go_must (with_reducible refine (HBl.out _).mono ?_); rintro a11 w11 ⟨rfl, rfl⟩)
                | (go_at_call 10; go_must (with_reducible refine (HKn.out _ G10.out).mono ?_); rintro a12 w12 ⟨rfl, h12⟩; have G12 := Lib.hid h12; clear h12))
              go_ret
              exact ⟨rfl, G12.out⟩
end Go.Proofs.Ytfipojmgmmjnmaa
