/- Names: the reference's Show, walked. -/
import Derived.Test.YteijcfmgaljjaaaDoorNi
namespace Go.Proofs.YteijcfmgaljjaaaDoor
open Go.RowKit

def digitsB : ByteArray := ⟨#[48, 49, 50, 51, 52, 53, 54, 55, 56, 57, 97, 98, 99, 100, 101, 102]⟩
theorem digit_cut : ∀ (k : Nat), k < 16 → digitsB.extract k (k + 1) = str [dig k] := by decide +kernel

set_option maxHeartbeats 4000000 in
set_option maxRecDepth 1000000 in
theorem mShow_eq (s : ByteArray) (w : World) (hs : s.size ≤ 16777216) :
    Calls Tryd.prog 15 #[.string s] w fun e w' => e = .returned (.string (str (showB s))) ∧ Below w.heap.size w w' := by
  by_cases h0 : s.size = 0
  · have hse : s = ⟨#[]⟩ := by
      apply ByteArray.ext
      exact Array.eq_empty_of_size_eq_zero h0
    subst hse
    go_enter Tryd.func15, Tryd.ntmps15
    go_wp2_with fail
    go_ret
    exact ⟨rfl, Below.refl _ _⟩
  · have hde : s.data.isEmpty = false := by
      rw [Array.isEmpty_eq_false_iff]
      intro h
      exact h0 (by show s.data.size = 0; rw [h]; rfl)
    have htl : s.toList.isEmpty = s.data.isEmpty := by rw [Lib.toList_data s, Array.isEmpty_toList]
    have hemp : s.toList.isEmpty = false := by rw [htl, hde]
    have hne : ¬ s.toList = [] := by
      intro h; rw [h] at hemp; cases hemp
    have hsb : showB s = refFrom s s.size 0 := by
      unfold showB
      rw [if_neg h0, ref_show s s.size s.size s.size 0 (by omega) (by omega) (by omega)]
    have HSB := Lib.hid hsb
    clear htl hsb
    go_enter Tryd.func15, Tryd.ntmps15
    go_wp2_with fail
    go_loopw [4, 5] (fun o i wr => ∃ (pos fuel : Nat) (u : ByteArray) (acc : List UInt8), o = .string u ∧ u = str acc ∧ i = .int .i64 pos ∧ acc ++ refFrom s fuel pos = showB s ∧ s.size ≤ pos + fuel ∧ pos ≤ s.size ∧ acc.length ≤ 3 * pos ∧ Below w.heap.size w wr) (fun _ i _ => s.size - (intOf i).toNat)
    case atStart => exact ⟨0, s.size, ⟨#[]⟩, [], rfl, rfl, rfl, HSB.out.symm, by omega, by omega, by simp, Below.refl _ _⟩
    case round =>
      obtain ⟨pos, fuel, u, acc, rfl, hu, rfl, hacc, hfu, hps, hal, hbw⟩ := hrel
      have hul : u.size ≤ 3 * pos := by rw [hu, str_size]; omega
      have HU := Lib.hid hu
      have HA := Lib.hid hacc
      clear hu hacc
      by_cases hp : pos < s.size
      · obtain ⟨f, rfl⟩ : ∃ m, fuel = m + 1 := ⟨fuel - 1, by omega⟩
        have hstep : refFrom s (f + 1) pos = if 0 < (msz (Utf8.decode s pos)).1 ∧ plainN (msz (Utf8.decode s pos)).2 = true then (s.data.toList.drop pos).take (msz (Utf8.decode s pos)).1 ++ refFrom s f (pos + (msz (Utf8.decode s pos)).1) else hexOf (s[pos]'hp) ++ refFrom s f (pos + 1) := by
          simp only [refFrom, dif_pos hp]
        have hin := decode_in s pos hp
        have hrl := decode_le s pos
        have HM := Lib.hid (fun W => msize_at s pos (by omega) hp W)
        have hmb : (msz (Utf8.decode s pos)).1 ≤ (Utf8.decode s pos).2 ∧ (msz (Utf8.decode s pos)).2 ≤ 2147483647 := by
          unfold msz
          split
          · exact ⟨Nat.zero_le _, by simp⟩
          · exact ⟨Nat.le_refl _, hrl⟩
        obtain ⟨m, hm⟩ : ∃ m, m = msz (Utf8.decode s pos) := ⟨_, rfl⟩
        rw [← hm] at hstep HM hmb
        clear hm
        obtain ⟨n, v⟩ := m
        dsimp only at hstep HM hmb
        have hb0 : (0 : Int) ≤ (pos : Int) := by omega
        have hb1 : (pos : Int) < (s.size : Int) := by omega
        have hdl : decide ((pos : Int) < (s.size : Int)) = true := by simpa using hp
        have HST := Lib.hid hstep
        have HP := Lib.hid (fun W => mplain_eq v W hmb.2)
        clear hstep
        by_cases hn0 : 0 < n
        · have hnd : decide ((n : Int) > 0) = true := by simp; omega
          cases hpl : plainN v with
          | true =>
            have HPL := Lib.hid hpl
            rw [hpl] at HP
            clear hpl
            have hw1 : IntKind.i64.wrap ((pos : Int) + (n : Int)) = (pos : Int) + (n : Int) := by rw [IntKind.wrap_i64]; omega
            have hc0 : (pos : Int) ≤ (pos : Int) + (n : Int) := by omega
            have hc1 : (pos : Int) + (n : Int) ≤ (s.size : Int) := by omega
            have hc2 : ((pos : Int) + (n : Int)).toNat = pos + n := by omega
            have hcut : s.extract pos (pos + n) = str ((s.data.toList.drop pos).take n) := by
              apply ByteArray.ext
              apply Array.toList_inj.1
              simp [str, ByteArray.data_extract]
            have hcz : (s.extract pos (pos + n)).size = n := by rw [ByteArray.size_extract]; omega
            obtain ⟨y, hy⟩ : ∃ y, s.extract pos (pos + n) = y := ⟨_, rfl⟩
            rw [hy] at hcut hcz
            have HY := Lib.hid hcut
            clear hcut
            go_wp2_with fail
            go_must (refine (HM.out _).mono ?_)
            rintro e w2 ⟨rfl, b2⟩
            go_wp2_with fail
            go_must (refine (HP.out _).mono ?_)
            rintro e w3 ⟨rfl, rfl⟩
            go_wp2_with fail
            go_roundw
            case rel =>
              refine ⟨pos + n, f, u ++ y, acc ++ (s.data.toList.drop pos).take n, rfl, by rw [HU.out, HY.out, str_append], by go_num, ?_, by omega, by omega, by rw [List.length_append, List.length_take]; omega, hbw.trans (b2.mono hbw.size)⟩
              rw [List.append_assoc, ← HA.out, HST.out, if_pos ⟨hn0, HPL.out⟩]
            case measure => simp [intOf]; omega
          | false =>
            have HPL := Lib.hid hpl
            rw [hpl] at HP
            clear hpl
            obtain ⟨b, hb⟩ : ∃ b, (s[pos]'hp).toNat = b := ⟨_, rfl⟩
            have hbt : b < 256 := by rw [← hb]; exact (s[pos]'hp).toNat_lt
            have hwb : IntKind.i64.wrap (b : Int) = (b : Int) := by rw [IntKind.wrap_i64]; omega
            obtain ⟨q1, hq1⟩ : ∃ q1, q1 = b / 16 := ⟨_, rfl⟩
            obtain ⟨q2, hq2⟩ : ∃ q2, q2 = b % 16 := ⟨_, rfl⟩
            have hq1b : q1 < 16 := by omega
            have hq2b : q2 < 16 := by omega
            have e1 : (b : Int).tdiv 16 = (q1 : Int) := by rw [Int.tdiv_eq_ediv_of_nonneg (by omega)]; omega
            have e2 : (b : Int).tmod 16 = (q2 : Int) := by rw [Int.tmod_eq_emod_of_nonneg (by omega)]; omega
            have e3 : (b : Int) / 16 = (q1 : Int) := by omega
            have e4 : (b : Int) % 16 = (q2 : Int) := by omega
            have hx1 : hexOf (s[pos]'hp) = [37, dig q1, dig q2] := by unfold hexOf; rw [hb, hq1, hq2]
            have z1 : (⟨#[48, 49, 50, 51, 52, 53, 54, 55, 56, 57, 97, 98, 99, 100, 101, 102]⟩ : ByteArray).extract q1 (q1 + 1) = str [dig q1] := digit_cut q1 hq1b
            have z2 : (⟨#[48, 49, 50, 51, 52, 53, 54, 55, 56, 57, 97, 98, 99, 100, 101, 102]⟩ : ByteArray).extract q2 (q2 + 1) = str [dig q2] := digit_cut q2 hq2b
            have y1z : (str [dig q1]).size = 1 := str_size _
            have y2z : (str [dig q2]).size = 1 := str_size _
            obtain ⟨y1, hy1⟩ : ∃ y, str [dig q1] = y := ⟨_, rfl⟩
            obtain ⟨y2, hy2⟩ : ∃ y, str [dig q2] = y := ⟨_, rfl⟩
            rw [hy1] at z1 y1z
            rw [hy2] at z2 y2z
            have HH := Lib.hid (And.intro hx1 (And.intro hy1 hy2))
            have w1 : IntKind.i64.wrap ((q1 : Int) + 1) = (q1 : Int) + 1 := by rw [IntKind.wrap_i64]; omega
            have w2' : IntKind.i64.wrap ((q2 : Int) + 1) = (q2 : Int) + 1 := by rw [IntKind.wrap_i64]; omega
            have a1 : (0 : Int) ≤ (q1 : Int) := by omega
            have a2 : (q1 : Int) ≤ (q1 : Int) + 1 := by omega
            have a3 : (q1 : Int) + 1 ≤ 16 := by omega
            have a4 : ((q1 : Int) + 1).toNat = q1 + 1 := by omega
            have a5 : (0 : Int) ≤ (q2 : Int) := by omega
            have a6 : (q2 : Int) ≤ (q2 : Int) + 1 := by omega
            have a7 : (q2 : Int) + 1 ≤ 16 := by omega
            have a8 : ((q2 : Int) + 1).toNat = q2 + 1 := by omega
            have wp : IntKind.i64.wrap ((pos : Int) + 1) = (pos : Int) + 1 := by rw [IntKind.wrap_i64]; omega
            clear hx1 hy1 hy2 hq1 hq2
            go_wp2_with fail
            go_must (refine (HM.out _).mono ?_)
            rintro e w2 ⟨rfl, b2⟩
            go_wp2_with fail
            go_must (refine (HP.out _).mono ?_)
            rintro e w3 ⟨rfl, rfl⟩
            go_wp2_with fail
            go_quiet (fail)
            go_wp2_with fail
            go_roundw
            case rel =>
              refine ⟨pos + 1, f, _, acc ++ hexOf (s[pos]'hp), rfl, ?_, by go_num, ?_, by omega, by omega, by rw [List.length_append]; simp [hexOf]; omega, below_drewN (hbw.trans (b2.mono hbw.size)) _⟩
              · rw [HH.out.1, ← HH.out.2.1, ← HH.out.2.2, HU.out, show (⟨#[37]⟩ : ByteArray) = str [37] from rfl, str_append, str_append, str_append]
                simp
              · rw [List.append_assoc, ← HA.out, HST.out, if_neg (fun h => by rw [HPL.out] at h; cases h.2)]
            case measure => simp [intOf]; omega
        · have hnd : decide ((n : Int) > 0) = false := by simp; omega
          obtain ⟨b, hb⟩ : ∃ b, (s[pos]'hp).toNat = b := ⟨_, rfl⟩
          have hbt : b < 256 := by rw [← hb]; exact (s[pos]'hp).toNat_lt
          have hwb : IntKind.i64.wrap (b : Int) = (b : Int) := by rw [IntKind.wrap_i64]; omega
          obtain ⟨q1, hq1⟩ : ∃ q1, q1 = b / 16 := ⟨_, rfl⟩
          obtain ⟨q2, hq2⟩ : ∃ q2, q2 = b % 16 := ⟨_, rfl⟩
          have hq1b : q1 < 16 := by omega
          have hq2b : q2 < 16 := by omega
          have e1 : (b : Int).tdiv 16 = (q1 : Int) := by rw [Int.tdiv_eq_ediv_of_nonneg (by omega)]; omega
          have e2 : (b : Int).tmod 16 = (q2 : Int) := by rw [Int.tmod_eq_emod_of_nonneg (by omega)]; omega
          have e3 : (b : Int) / 16 = (q1 : Int) := by omega
          have e4 : (b : Int) % 16 = (q2 : Int) := by omega
          have hx1 : hexOf (s[pos]'hp) = [37, dig q1, dig q2] := by unfold hexOf; rw [hb, hq1, hq2]
          have z1 : (⟨#[48, 49, 50, 51, 52, 53, 54, 55, 56, 57, 97, 98, 99, 100, 101, 102]⟩ : ByteArray).extract q1 (q1 + 1) = str [dig q1] := digit_cut q1 hq1b
          have z2 : (⟨#[48, 49, 50, 51, 52, 53, 54, 55, 56, 57, 97, 98, 99, 100, 101, 102]⟩ : ByteArray).extract q2 (q2 + 1) = str [dig q2] := digit_cut q2 hq2b
          have y1z : (str [dig q1]).size = 1 := str_size _
          have y2z : (str [dig q2]).size = 1 := str_size _
          obtain ⟨y1, hy1⟩ : ∃ y, str [dig q1] = y := ⟨_, rfl⟩
          obtain ⟨y2, hy2⟩ : ∃ y, str [dig q2] = y := ⟨_, rfl⟩
          rw [hy1] at z1 y1z
          rw [hy2] at z2 y2z
          have HH := Lib.hid (And.intro hx1 (And.intro hy1 hy2))
          have w1 : IntKind.i64.wrap ((q1 : Int) + 1) = (q1 : Int) + 1 := by rw [IntKind.wrap_i64]; omega
          have w2' : IntKind.i64.wrap ((q2 : Int) + 1) = (q2 : Int) + 1 := by rw [IntKind.wrap_i64]; omega
          have a1 : (0 : Int) ≤ (q1 : Int) := by omega
          have a2 : (q1 : Int) ≤ (q1 : Int) + 1 := by omega
          have a3 : (q1 : Int) + 1 ≤ 16 := by omega
          have a4 : ((q1 : Int) + 1).toNat = q1 + 1 := by omega
          have a5 : (0 : Int) ≤ (q2 : Int) := by omega
          have a6 : (q2 : Int) ≤ (q2 : Int) + 1 := by omega
          have a7 : (q2 : Int) + 1 ≤ 16 := by omega
          have a8 : ((q2 : Int) + 1).toNat = q2 + 1 := by omega
          have wp : IntKind.i64.wrap ((pos : Int) + 1) = (pos : Int) + 1 := by rw [IntKind.wrap_i64]; omega
          clear hx1 hy1 hy2 hq1 hq2
          go_wp2_with fail
          go_must (refine (HM.out _).mono ?_)
          rintro e w2 ⟨rfl, b2⟩
          go_wp2_with fail
          go_quiet (fail)
          go_wp2_with fail
          go_roundw
          case rel =>
            refine ⟨pos + 1, f, _, acc ++ hexOf (s[pos]'hp), rfl, ?_, by go_num, ?_, by omega, by omega, by rw [List.length_append]; simp [hexOf]; omega, below_drewN (hbw.trans (b2.mono hbw.size)) _⟩
            · rw [HH.out.1, ← HH.out.2.1, ← HH.out.2.2, HU.out, show (⟨#[37]⟩ : ByteArray) = str [37] from rfl, str_append, str_append, str_append]
              simp
            · rw [List.append_assoc, ← HA.out, HST.out, if_neg (fun h => hn0 h.1)]
          case measure => simp [intOf]; omega
      · obtain rfl : pos = s.size := by omega
        have hdl : decide ((s.size : Int) < (s.size : Int)) = false := by simp
        go_wp2_with fail
        go_ret
        refine ⟨?_, hbw⟩
        have h := HA.out
        rw [refFrom_end s fuel s.size hp, List.append_nil] at h
        rw [← h, ← HU.out]
        rfl
end Go.Proofs.YteijcfmgaljjaaaDoor
