/- The law of what is spared: its walk. -/
import Derived.Test.YtokchikihacalaaKg
namespace Go.Proofs.Ytokchikihacalaa
open Go.RowKit

/-- All that was touched and is there is marked. -/
def Told (ts : List ByteArray) (i : Nat) (l : List (ByteArray × Bool)) : Prop := ∀ (j : Nat) (t : ByteArray), j < i → ts[j]? = some t → t ∈ keys l → (t, true) ∈ l

set_option maxRecDepth 100000 in
set_option maxHeartbeats 4000000 in
theorem kspares_any (v1 v2 : Value) (ks ts : List ByteArray) (w : World) (h1 : Txts w.heap.size v1 ks w) (h2 : Txts w.heap.size v2 ts w) :
    Calls Try.prog 4 #[v1, v2] w fun e w' => e = .returned (.bool true) ∧ Below w.heap.size w w' := by
  obtain ⟨ao, cap1, b1, off1, rfl, hl1, hx1⟩ := h1
  obtain ⟨bo, cap2, b2, off2, rfl, hl2, hx2⟩ := h2
  obtain ⟨m1, hm1⟩ : ∃ m, m = ks.length := ⟨_, rfl⟩
  obtain ⟨m2, hm2⟩ : ∃ m, m = ts.length := ⟨_, rfl⟩
  rw [← hm1] at hl1 hx1 ⊢
  rw [← hm2] at hl2 hx2 ⊢
  have HX1 := Lib.hid (show ∀ W, Below w.heap.size w W → ∀ k, k < m1 → ∃ x : ByteArray, ao = some ⟨b1, off1, none⟩ ∧ x.size ≤ 9223372036854775807 ∧ W.cell? ⟨b1, off1 + k, none⟩ = some (.string x) from fun W hW k hk => by
    obtain ⟨x, e1, e2, e3, e5, e4⟩ := hx1 k hk
    exact ⟨x, e2, e5, (hW.cell (p := ⟨b1, off1 + k, none⟩) e3).trans e4⟩)
  have HX2 := Lib.hid (show ∀ W, Below w.heap.size w W → ∀ k, k < m2 → ∃ x : ByteArray, ts[k]? = some x ∧ bo = some ⟨b2, off2, none⟩ ∧ x.size ≤ 9223372036854775807 ∧ W.cell? ⟨b2, off2 + k, none⟩ = some (.string x) from fun W hW k hk => by
    obtain ⟨x, e1, e2, e3, e5, e4⟩ := hx2 k hk
    exact ⟨x, e1, e2, e5, (hW.cell (p := ⟨b2, off2 + k, none⟩) e3).trans e4⟩)
  have HNew := Lib.hid (kNew_any w)
  have HK := Lib.hid (fun W (hW : Below w.heap.size w W) => (lkknown_any W).mono (R' := fun e w' => e = .returned (.bool true) ∧ Below w.heap.size w w') fun e w' ⟨he, hb⟩ => ⟨he, hW.trans (hb.mono hW.size)⟩)
  have HK0 := Lib.hid (lkknown_any w)
  have HM2 := Lib.hid hm2
  clear hx1 hx2 hm1 hm2
  by_cases g1 : 40 < m1
  · have d1 : decide ((m1 : Int) > 40) = true := decide_eq_true (by omega)
    clear g1 HX1 HX2 HNew HK
    go_enter Try.func4, Try.ntmps4
    go_wp2_with (go_at_call 11; go_must (with_reducible refine HK0.out.mono ?_); rintro e w2 ⟨rfl, b2⟩)
    go_ret
    exact ⟨rfl, b2⟩
  have d1 : decide ((m1 : Int) > 40) = false := decide_eq_false (by omega)
  by_cases g2 : 40 < m2
  · have d2 : decide ((m2 : Int) > 40) = true := decide_eq_true (by omega)
    clear g1 g2 HX1 HX2 HNew HK
    go_enter Try.func4, Try.ntmps4
    go_wp2_with (go_at_call 11; go_must (with_reducible refine HK0.out.mono ?_); rintro e w2 ⟨rfl, b2⟩)
    go_ret
    exact ⟨rfl, b2⟩
  have d2 : decide ((m2 : Int) > 40) = false := decide_eq_false (by omega)
  clear HK0
  go_enter Try.func4, Try.ntmps4
  go_wp2_with (go_at_call 12; go_must (with_reducible refine HNew.out.mono ?_); rintro e w1 ⟨p, rfl, hp, b1⟩; have P0 := Lib.hid (show KC w p 0 [] w1 from ⟨_, hp, by simp, b1⟩); clear hp b1)
  clear HNew d1 d2
  go_loopw [6] (fun c wr => ∃ (i : Nat) (l : List (ByteArray × Bool)), i ≤ m1 ∧ c = .int .i64 i ∧ KC w p i l wr ∧ (0 < i → 0 < l.length)) (fun c _ => m1 - (intOf c).toNat)
  case atStart => exact ⟨0, [], Nat.zero_le _, rfl, P0.out, fun h => by omega⟩
  case round =>
    obtain ⟨i, l, hi, rfl, hC, hpos⟩ := hrel
    have HC := Lib.hid hC
    have HPos := Lib.hid hpos
    clear hpos
    by_cases hlt : i < m1
    · obtain ⟨x, rfl, hz, c0⟩ := HX1.out wr hC.bel i hlt
      have hb0 : (0 : Int) ≤ (i : Int) := by omega
      have hb1 : (i : Int) < (m1 : Int) := by omega
      by_cases hs : 100 < x.size
      · have s1 : decide ((x.size : Int) > 100) = true := decide_eq_true (by omega)
        have HKr := Lib.hid (HK.out wr hC.bel)
        clear hC hs HX1 HX2 HK P0
        go_wp2_with (go_at_call 11; go_must (with_reducible refine HKr.out.mono ?_); rintro e w2 ⟨rfl, b2⟩)
        go_ret
        exact ⟨rfl, b2⟩
      · have s1 : decide ((x.size : Int) > 100) = false := decide_eq_false (by omega)
        have HT := Lib.hid (hC.touch (by omega) x hz)
        have HPS := Lib.hid (ktouch_pos l x)
        clear hC hs HX2 HK P0
        go_wp2_with (go_at_call 13; go_must (with_reducible refine HT.out.mono ?_); rintro e w2 ⟨rfl, h2⟩; have H2 := Lib.hid h2; clear h2)
        go_roundw
        case rel => exact ⟨i + 1, _, by omega, by go_num, H2.out, fun _ => HPS.out⟩
        case measure => simp [intOf]; omega
    · obtain rfl : i = m1 := by omega
      have HV := Lib.hid (hC.victim (by omega))
      clear hC HX1 P0
      by_cases hl0 : l.length = 0
      · have hi0 : i = 0 := by
          have := HPos.out
          omega
        subst hi0
        have HV := Lib.hid (HV.out.mono (R' := fun e w' => e = .returned (.tuple #[.string (vic l), .bool false]) ∧ Below w.heap.size w w') fun e w' ⟨he, h0⟩ => ⟨by rw [he, decide_eq_false (by omega)], h0.bel⟩)
        clear hl0
        go_wp2_with (first
          | (go_at_call 18; go_must (with_reducible refine HV.out.mono ?_); rintro e w2 ⟨rfl, h2⟩; have H2 := Lib.hid h2; clear h2)
          | (go_at_call 11; go_must (with_reducible refine (HK.out _ H2.out).mono ?_); rintro e w3 ⟨rfl, b3⟩))
        go_ret
        exact ⟨rfl, b3⟩
      · have HV := Lib.hid (HV.out.mono (R' := fun e w' => e = .returned (.tuple #[.string (vic l), .bool true]) ∧ KC w p i (kspin l) w') fun e w' ⟨he, h0⟩ => ⟨by rw [he, decide_eq_true (by omega)], h0⟩)
        clear hl0
        go_wp2_with (go_at_call 18; go_must (with_reducible refine HV.out.mono ?_); rintro e w2 ⟨rfl, h2⟩; have H2 := Lib.hid h2; clear h2)
        obtain ⟨n0, hn0⟩ : ∃ n0, n0 = i := ⟨_, rfl⟩
        go_loopw [9] (fun c wr => ∃ (j : Nat) (l2 : List (ByteArray × Bool)), j ≤ m2 ∧ c = .int .i64 j ∧ KC w p (i + j) l2 wr ∧ Told ts j l2) (fun c _ => m2 - (intOf c).toNat)
        case atStart => exact ⟨0, _, Nat.zero_le _, rfl, H2.out, fun j t h => by omega⟩
        case round =>
          obtain ⟨j, l2, hj, rfl, hC, hT⟩ := hrel
          have HC2 := Lib.hid hC
          have HT2 := Lib.hid hT
          clear hT
          by_cases hlt2 : j < m2
          · obtain ⟨x, hxt, rfl, hz, c0⟩ := HX2.out wr hC.bel j hlt2
            have HXT := Lib.hid hxt
            have hb0 : (0 : Int) ≤ (j : Int) := by omega
            have hb1 : (j : Int) < (m2 : Int) := by omega
            have HH := Lib.hid (hC.has x hz)
            cases hin : inK x l2 with
            | true =>
              rw [hin] at HH
              have HTo := Lib.hid (fun W (h : KC w p (i + j) l2 W) => h.touch (by omega) x hz)
              have HTh := Lib.hid (ktouch_there l2 x ((inK_iff x l2).1 hin))
              have C1 := Lib.hid (show ∀ W, KC w p (i + j) l2 W → W.cell? ⟨b2, off2 + j, none⟩ = some (.string x) from fun W h => by
                obtain ⟨y, hy, _, _, hc⟩ := HX2.out W h.bel j hlt2
                rw [HXT.out] at hy
                cases hy
                exact hc)
              clear hC hxt hin HX2 HK H2 HV
              go_wp2_with (first
                | (go_at_call 21; go_must (with_reducible refine HH.out.mono ?_); rintro e w3 ⟨rfl, h3⟩; have H3 := Lib.hid h3; have c1 := C1.out _ h3; clear h3)
                | (go_at_call 13; go_must (with_reducible refine (HTo.out _ H3.out).mono ?_); rintro e w4 ⟨rfl, h4⟩; have H4 := Lib.hid h4; clear h4))
              go_roundw
              case rel =>
                refine ⟨j + 1, _, by omega, by go_num, H4.out, fun k t hk ht hkt => ?_⟩
                rw [HTh.out.1] at hkt
                by_cases hkj : k = j
                · subst hkj
                  rw [HXT.out] at ht
                  cases ht
                  exact HTh.out.2.1
                · exact HTh.out.2.2 t (HT2.out k t (by omega) ht hkt)
              case measure => simp [intOf]; omega
            | false =>
              rw [hin] at HH
              have HNo := Lib.hid (show x ∉ keys l2 from fun h => by rw [(inK_iff x l2).2 h] at hin; cases hin)
              clear hC hxt hin HX2 HK H2 HV
              go_wp2_with (go_at_call 21; go_must (with_reducible refine HH.out.mono ?_); rintro e w3 ⟨rfl, h3⟩; have H3 := Lib.hid h3; clear h3)
              go_roundw
              case rel =>
                refine ⟨j + 1, _, by omega, by go_num, (show KC w p (i + (j + 1)) l2 _ from by obtain ⟨F, q1, q2, q3⟩ := H3.out; exact ⟨F, q1, by omega, q3⟩), fun k t hk ht hkt => ?_⟩
                by_cases hkj : k = j
                · subst hkj
                  rw [HXT.out] at ht
                  cases ht
                  exact absurd hkt HNo.out
                · exact HT2.out k t (by omega) ht hkt
              case measure => simp [intOf]; omega
          · obtain rfl : j = m2 := by omega
            have HKe := Lib.hid hC.keys
            have hkl : (keys l2).length = l2.length := by simp [keys]
            have HKL := Lib.hid hkl
            have HND := Lib.hid (mkd_at l2 hC.nodup)
            have HNo := Lib.hid hC.nodup
            clear hC hkl HV H2 HPos
            go_wp2_with (go_at_call 22; go_must (with_reducible refine HKe.out.mono ?_); rintro e w3 ⟨v3, rfl, hs3, h3⟩; have H3 := Lib.hid h3; obtain ⟨ao3, cap3, bb3, off3, rfl, hl3, hat3⟩ := strs_walk hs3; have HAT := Lib.hid hat3; clear hs3 h3 hat3)
            obtain ⟨n2, hn2⟩ : ∃ n2, n2 = (keys l2).length := ⟨_, rfl⟩
            rw [← hn2] at HAT hl3 ⊢
            have HN2 := Lib.hid hn2
            clear hn2
            have HLN := Lib.hid (show l2.length = n2 by rw [HN2.out, HKL.out])
            have HKA := Lib.hid (show ∀ i, i < n2 → ∃ x, l2[i]? = some x ∧ (keys l2)[i]? = some x.1 from fun i hi => ⟨l2[i]'(by rw [HLN.out]; exact hi), List.getElem?_eq_getElem (by rw [HLN.out]; exact hi), keys_at (List.getElem?_eq_getElem (by rw [HLN.out]; exact hi))⟩)
            have HAL := Lib.hid (show ∀ (i : Nat) x, l2[i]? = some x → (l2.take (i + 1)).all (·.2) = ((l2.take i).all (·.2) && x.2) from fun i x h => all_at h)
            have HMK := Lib.hid (fun s (hs : s ∈ keys l2) W (h : KC w p (i + j) l2 W) => h.marked s (h.small s hs))
            go_loopw [10, 12] (fun a c wr => ∃ i' : Nat, i' ≤ n2 ∧ c = .int .i64 i' ∧ a = .bool ((l2.take i').all (·.2)) ∧ KC w p (i + j) l2 wr ∧ Below w3.heap.size w3 wr) (fun _ c _ => n2 - (intOf c).toNat)
            case atStart => exact ⟨0, Nat.zero_le _, rfl, rfl, H3.out, Below.refl _ _⟩
            case round =>
              obtain ⟨i2, hi2, rfl, rfl, hCr, hwr⟩ := hrel
              have HCr := Lib.hid hCr
              have HWR := Lib.hid hwr
              by_cases hlt3 : i2 < n2
              · obtain ⟨y, hyi, hki⟩ := HKA.out i2 hlt3
                obtain ⟨x, hxi, rfl, hbb, c2⟩ := HAT.out i2 hlt3
                rw [hki] at hxi
                obtain rfl : y.1 = x := by injection hxi
                have c2 : wr.cell? ⟨bb3, off3 + i2, none⟩ = some (.string y.1) := (hwr.cell (p := ⟨bb3, off3 + i2, none⟩) hbb).trans c2
                have hb0 : (0 : Int) ≤ (i2 : Int) := by omega
                have hb1 : (i2 : Int) < (n2 : Int) := by omega
                have HM := Lib.hid (HMK.out y.1 (List.mem_of_getElem? hki) wr hCr)
                rw [HND.out i2 y hyi] at HM
                have HA := Lib.hid (HAL.out i2 y hyi)
                clear hyi hki hxi hwr hCr
                cases hall : (l2.take i2).all (·.2) with
                | true =>
                  rw [hall] at HA
                  have HA := Lib.hid (show (l2.take (i2 + 1)).all (·.2) = y.2 by rw [HA.out, Bool.true_and])
                  clear hall
                  go_wp2_with (go_at_call 23; go_must (with_reducible refine HM.out.mono ?_); rintro e w5 ⟨rfl, h5, b5⟩)
                  go_roundw
                  case rel => exact ⟨i2 + 1, by omega, by go_num, by rw [HA.out], h5, HWR.out.trans (b5.mono HWR.out.size)⟩
                  case measure => simp [intOf]; omega
                | false =>
                  rw [hall] at HA
                  have HA := Lib.hid (show (l2.take (i2 + 1)).all (·.2) = false by rw [HA.out, Bool.false_and])
                  clear hall HM
                  go_wp2_with fail
                  go_roundw
                  case rel => exact ⟨i2 + 1, by omega, by go_num, by rw [HA.out], HCr.out, HWR.out⟩
                  case measure => simp [intOf]; omega
              · obtain rfl : i2 = n2 := by omega
                obtain ⟨al, hal⟩ : ∃ al, al = l2.all (·.2) := ⟨_, rfl⟩
                have hal2 : (l2.take i2).all (·.2) = al := by rw [← HLN.out, List.take_length, hal]
                rw [hal2]
                have HV3 := Lib.hid (hCr.victim (by omega))
                have HNoSp := Lib.hid (show al = false → ∀ (k : Nat), ts[k]? ≠ some (vic l2) from fun h k hk => by
                  rw [hal] at h
                  obtain ⟨s, hs, hsm⟩ := lead_all l2 h
                  have e : vic l2 = s := by unfold vic; rw [hs]; rfl
                  rw [e] at hk
                  have hkl := (List.getElem?_eq_some_iff.1 hk).1
                  exact one_mark HNo.out (HT2.out k s (by rw [HM2.out]; exact hkl) hk (List.mem_of_getElem? (keys_at (List.mem_iff_getElem?.1 hsm).choose_spec))) hsm)
                obtain ⟨vi, hvi⟩ : ∃ vi, vi = vic l2 := ⟨_, rfl⟩
                rw [← hvi] at HV3 HNoSp
                have HVB := Lib.hid (fun W (h : KC w p (i + j) (kspin l2) W) => h.bel)
                clear hwr hCr hal hal2 hvi HAT HKA HAL HMK HND HN2 HKL HLN H3 HKe
                go_wp2_with (go_at_call 18; go_must (with_reducible refine HV3.out.mono ?_); rintro e w6 ⟨rfl, h6⟩; have B6 := Lib.hid (HVB.out _ h6); clear h6)
                go_loopw [15] (fun c wr => ∃ k : Nat, k ≤ j ∧ c = .int .i64 k ∧ Below w.heap.size w wr) (fun c _ => j - (intOf c).toNat)
                case atStart => exact ⟨0, Nat.zero_le _, rfl, B6.out⟩
                case round =>
                  obtain ⟨k, hk, rfl, hbr⟩ := hrel
                  have HBr := Lib.hid hbr
                  by_cases hlt4 : k < j
                  · obtain ⟨x, hxt, rfl, _, c0⟩ := HX2.out wr hbr k hlt4
                    have hb0 : (0 : Int) ≤ (k : Int) := by omega
                    have hb1 : (k : Int) < (j : Int) := by omega
                    by_cases hxv : x = vi
                    · have se := str_eq hxv
                      cases al with
                      | true =>
                        clear hbr hxt hxv
                        go_wp2_with fail
                        go_roundw
                        case rel => exact ⟨k + 1, by omega, by go_num, HBr.out⟩
                        case measure => simp [intOf]; omega
                      | false =>
                        rw [hxv] at hxt
                        exact absurd hxt (HNoSp.out rfl k)
                    · have se := str_ne hxv
                      clear hbr hxt hxv
                      go_wp2_with fail
                      go_roundw
                      case rel => exact ⟨k + 1, by omega, by go_num, HBr.out⟩
                      case measure => simp [intOf]; omega
                  · obtain rfl : k = j := by omega
                    have HKl := Lib.hid (HK.out wr hbr)
                    clear hbr
                    go_wp2_with (go_at_call 11; go_must (with_reducible refine HKl.out.mono ?_); rintro e w7 ⟨rfl, b7⟩)
                    go_ret
                    exact ⟨rfl, b7⟩
end Go.Proofs.Ytokchikihacalaa
