/- The reference's reader: texts of so many bytes. -/
import Derived.Test.YtdjnadgcjmlejaaDoorRs
namespace Go.Proofs.YtdjnadgcjmlejaaDoor
open Go.RowKit

theorem ext_get (s : ByteArray) (m b i : Nat) (h : m + i < b) : (s.extract m b).data.toList[i]? = s.data.toList[m + i]? := by
  have e : (s.extract m b).data.toList = (s.data.toList.drop m).take (b - m) := by
    simp [ByteArray.data_extract]
  rw [e, List.getElem?_take, if_pos (by omega), List.getElem?_drop]
theorem allZero_of {s : ByteArray} {m b : Nat} (hb : b ≤ s.size) (h : ∀ t, m ≤ t → t < b → s.data.toList[t]? = some 0) : allZero (s.extract m b).data.toList = true := by
  unfold allZero
  rw [List.all_eq_true]
  intro x hx
  obtain ⟨i, hi⟩ := List.mem_iff_getElem?.1 hx
  have hlt : i < (s.extract m b).data.toList.length := (List.getElem?_eq_some_iff.1 hi).1
  rw [len_data, ByteArray.size_extract] at hlt
  rw [ext_get s m b i (by omega), h (m + i) (by omega) (by omega)] at hi
  cases hi
  rfl
theorem allZero_at {s : ByteArray} {m b t : Nat} (h : allZero (s.extract m b).data.toList = true) (h1 : m ≤ t) (h2 : t < b) {x : UInt8} (hx : s.data.toList[t]? = some x) : x = 0 := by
  unfold allZero at h
  rw [List.all_eq_true] at h
  obtain ⟨i, rfl⟩ : ∃ i, t = m + i := ⟨t - m, by omega⟩
  rw [← ext_get s m b i (by omega)] at hx
  have := h x (List.mem_iff_getElem?.2 ⟨i, hx⟩)
  simpa using this
theorem rest_cut {S rest : ByteArray} {p m : Nat} (hr : rest = S.extract p S.size) (hm : p + m ≤ S.size) : rest.extract 0 m = S.extract p (p + m) := by
  rw [hr]
  apply ByteArray.ext
  simp [ByteArray.data_extract, Array.extract_extract]
  rw [Nat.min_eq_left hm]

set_option maxRecDepth 100000 in
set_option maxHeartbeats 1000000 in
theorem rfFixed_short1 (k m : Nat) (S rest : ByteArray) (w : World) (hS : S.size ≤ 1073741824) (hs : rest.size < m) (h : Rf k S rest 0 w) :
    Calls Tryd.prog 64 #[.pointer (some ⟨k, 0, none⟩), .int .i64 m] w fun r w' => Rook k S ⟨#[]⟩ 10 (.string ⟨#[]⟩) w r w' := by
  obtain ⟨p, hp, hst, hr⟩ := h
  have hr := hr rfl
  have c0 : w.cell? ⟨k, 0, none⟩ = some (.string S) := hst.cell rfl
  have c1 : w.cell? ⟨k, 1, none⟩ = some (.int .i64 (p : Int)) := hst.cell rfl
  have c2 : w.cell? ⟨k, 2, none⟩ = some (.int .i64 0) := hst.cell rfl
  have f2 := hst.free 2
  have hsz : rest.size = S.size - p := by rw [hr, ByteArray.size_extract]; omega
  have hw : IntKind.i64.wrap ((S.size : Int) - (p : Int)) = (S.size : Int) - (p : Int) := by rw [IntKind.wrap_i64]; omega
  have hn0 : decide ((m : Int) < 0) = false := by simp
  have hpn := padN_lt m
  have hpz : (m + padN m) % 4 = 0 := by unfold padN; omega
  have HN := Lib.hid (show ∀ i, i < padN m → ¬ (m + i) % 4 = 0 from fun i hi => by unfold padN at hi; omega)
  have HST := Lib.hid hst
  have HR := Lib.hid hr
  clear hst hr
  have hd : decide ((m : Int) > (S.size : Int) - (p : Int)) = true := by simp; omega
  go_enter Tryd.func64, Tryd.ntmps64
  go_wp2
  go_loopw [5] (fun v wr => ∃ a j : Nat, a = m + j ∧ j ≤ padN m ∧ v = .int .i64 (a : Int) ∧ St 51 k #[.string S, .int .i64 p, .int .i64 0] wr ∧ Keep k none w wr) (fun v _ => (m + 4 - (intOf v).toNat))
  case atStart => exact ⟨m, 0, rfl, Nat.zero_le _, rfl, HST.out, (Keep.refl k none w)⟩
  case round =>
    obtain ⟨a, j, ha, hj, rfl, hst, hk⟩ := hrel
    have c0 : wr.cell? ⟨k, 0, none⟩ = some (.string S) := hst.cell rfl
    have c1 : wr.cell? ⟨k, 1, none⟩ = some (.int .i64 (p : Int)) := hst.cell rfl
    have c2 : wr.cell? ⟨k, 2, none⟩ = some (.int .i64 0) := hst.cell rfl
    have f1 := hst.free 1
    have f2 := hst.free 2
    have HA := Lib.hid ha
    have hae : a ≤ m + 3 ∧ m ≤ a := by omega
    clear ha
    by_cases h4 : a % 4 = 0
    · have h4b : (((a : Int) % 4) != 0) = false := by rw [bne_eq_false_iff_eq]; omega
      clear h4
      go_wp2
      go_quiet (fail)
      go_wp2
      go_ret
      refine ⟨rfl, ⟨p, hp, ?_, fun h => by cases h⟩, (hk.drewN _).put 2 _⟩
      have := hst.set 2 (.int .i64 10)
      exact this
    · have h4b : (((a : Int) % 4) != 0) = true := by rw [bne_iff_ne]; omega
      have hjl : j < padN m := by
        apply Nat.lt_of_le_of_ne hj
        rintro rfl
        exact h4 (HA.out ▸ hpz)
      by_cases hl : a ≤ S.size
      · have hlb : decide ((a : Int) ≤ (S.size : Int)) = true := by simpa using hl
        have hwa : IntKind.i64.wrap ((a : Int) + 1) = (a : Int) + 1 := by rw [IntKind.wrap_i64]; omega
        clear h4
        go_wp2
        go_roundw
        case rel => exact ⟨a + 1, j + 1, by rw [HA.out]; omega, by omega, by go_num, hst, hk⟩
        case measure => simp [intOf]; omega
      · have hlb : decide ((a : Int) ≤ (S.size : Int)) = false := by simpa using hl
        clear h4
        go_wp2
        go_quiet (fail)
        go_wp2
        go_ret
        refine ⟨rfl, ⟨p, hp, ?_, fun h => by cases h⟩, (hk.drewN _).put 2 _⟩
        have := hst.set 2 (.int .i64 10)
        exact this

set_option maxRecDepth 100000 in
set_option maxHeartbeats 1000000 in
theorem rfFixed_short2 (k m : Nat) (S rest : ByteArray) (w : World) (hS : S.size ≤ 1073741824) (hm : m ≤ rest.size) (hs : rest.size < m + padN m) (h : Rf k S rest 0 w) :
    Calls Tryd.prog 64 #[.pointer (some ⟨k, 0, none⟩), .int .i64 m] w fun r w' => Rook k S ⟨#[]⟩ 10 (.string ⟨#[]⟩) w r w' := by
  obtain ⟨p, hp, hst, hr⟩ := h
  have hr := hr rfl
  have c0 : w.cell? ⟨k, 0, none⟩ = some (.string S) := hst.cell rfl
  have c1 : w.cell? ⟨k, 1, none⟩ = some (.int .i64 (p : Int)) := hst.cell rfl
  have c2 : w.cell? ⟨k, 2, none⟩ = some (.int .i64 0) := hst.cell rfl
  have f2 := hst.free 2
  have hsz : rest.size = S.size - p := by rw [hr, ByteArray.size_extract]; omega
  have hw : IntKind.i64.wrap ((S.size : Int) - (p : Int)) = (S.size : Int) - (p : Int) := by rw [IntKind.wrap_i64]; omega
  have hn0 : decide ((m : Int) < 0) = false := by simp
  have hpn := padN_lt m
  have hpz : (m + padN m) % 4 = 0 := by unfold padN; omega
  have HN := Lib.hid (show ∀ i, i < padN m → ¬ (m + i) % 4 = 0 from fun i hi => by unfold padN at hi; omega)
  have HST := Lib.hid hst
  have HR := Lib.hid hr
  clear hst hr
  have hd : decide ((m : Int) > (S.size : Int) - (p : Int)) = false := by simp; omega
  go_enter Tryd.func64, Tryd.ntmps64
  go_wp2
  go_loopw [5] (fun v wr => ∃ a j : Nat, a = m + j ∧ j ≤ padN m ∧ v = .int .i64 (a : Int) ∧ St 51 k #[.string S, .int .i64 p, .int .i64 0] wr ∧ Keep k none w wr) (fun v _ => (m + 4 - (intOf v).toNat))
  case atStart => exact ⟨m, 0, rfl, Nat.zero_le _, rfl, HST.out, (Keep.refl k none w)⟩
  case round =>
    obtain ⟨a, j, ha, hj, rfl, hst, hk⟩ := hrel
    have c0 : wr.cell? ⟨k, 0, none⟩ = some (.string S) := hst.cell rfl
    have c1 : wr.cell? ⟨k, 1, none⟩ = some (.int .i64 (p : Int)) := hst.cell rfl
    have c2 : wr.cell? ⟨k, 2, none⟩ = some (.int .i64 0) := hst.cell rfl
    have f1 := hst.free 1
    have f2 := hst.free 2
    have HA := Lib.hid ha
    have hae : a ≤ m + 3 ∧ m ≤ a := by omega
    clear ha
    by_cases h4 : a % 4 = 0
    · have h4b : (((a : Int) % 4) != 0) = false := by rw [bne_eq_false_iff_eq]; omega
      have hjp : j = padN m := Nat.le_antisymm hj (Nat.le_of_not_lt fun hlt => HN.out j hlt (HA.out ▸ h4))
      have hg : decide ((a : Int) > (S.size : Int) - (p : Int)) = true := by have := HA.out; simp; omega
      clear h4
      go_wp2
      go_quiet (fail)
      go_wp2
      go_ret
      refine ⟨rfl, ⟨p, hp, ?_, fun h => by cases h⟩, (hk.drewN _).put 2 _⟩
      have := hst.set 2 (.int .i64 10)
      exact this
    · have h4b : (((a : Int) % 4) != 0) = true := by rw [bne_iff_ne]; omega
      have hjl : j < padN m := by
        apply Nat.lt_of_le_of_ne hj
        rintro rfl
        exact h4 (HA.out ▸ hpz)
      by_cases hl : a ≤ S.size
      · have hlb : decide ((a : Int) ≤ (S.size : Int)) = true := by simpa using hl
        have hwa : IntKind.i64.wrap ((a : Int) + 1) = (a : Int) + 1 := by rw [IntKind.wrap_i64]; omega
        clear h4
        go_wp2
        go_roundw
        case rel => exact ⟨a + 1, j + 1, by rw [HA.out]; omega, by omega, by go_num, hst, hk⟩
        case measure => simp [intOf]; omega
      · have hlb : decide ((a : Int) ≤ (S.size : Int)) = false := by simpa using hl
        have hg : decide ((a : Int) > (S.size : Int) - (p : Int)) = true := by simp; omega
        clear h4
        go_wp2
        go_quiet (fail)
        go_wp2
        go_ret
        refine ⟨rfl, ⟨p, hp, ?_, fun h => by cases h⟩, (hk.drewN _).put 2 _⟩
        have := hst.set 2 (.int .i64 10)
        exact this

set_option maxRecDepth 100000 in
set_option maxHeartbeats 1000000 in
theorem rfFixed_pad (k m : Nat) (S rest : ByteArray) (w : World) (hS : S.size ≤ 1073741824) (hs : m + padN m ≤ rest.size) (hz : allZero (rest.extract m (m + padN m)).data.toList = false) (h : Rf k S rest 0 w) :
    Calls Tryd.prog 64 #[.pointer (some ⟨k, 0, none⟩), .int .i64 m] w fun r w' => Rook k S ⟨#[]⟩ 11 (.string ⟨#[]⟩) w r w' := by
  obtain ⟨p, hp, hst, hr⟩ := h
  have hr := hr rfl
  have c0 : w.cell? ⟨k, 0, none⟩ = some (.string S) := hst.cell rfl
  have c1 : w.cell? ⟨k, 1, none⟩ = some (.int .i64 (p : Int)) := hst.cell rfl
  have c2 : w.cell? ⟨k, 2, none⟩ = some (.int .i64 0) := hst.cell rfl
  have f2 := hst.free 2
  have hsz : rest.size = S.size - p := by rw [hr, ByteArray.size_extract]; omega
  have hw : IntKind.i64.wrap ((S.size : Int) - (p : Int)) = (S.size : Int) - (p : Int) := by rw [IntKind.wrap_i64]; omega
  have hn0 : decide ((m : Int) < 0) = false := by simp
  have hpn := padN_lt m
  have hpz : (m + padN m) % 4 = 0 := by unfold padN; omega
  have HN := Lib.hid (show ∀ i, i < padN m → ¬ (m + i) % 4 = 0 from fun i hi => by unfold padN at hi; omega)
  have HST := Lib.hid hst
  have HR := Lib.hid hr
  clear hst hr
  have hd : decide ((m : Int) > (S.size : Int) - (p : Int)) = false := by simp; omega
  have HZZ := Lib.hid hz
  clear hz
  go_enter Tryd.func64, Tryd.ntmps64
  go_wp2
  go_loopw [5] (fun v wr => ∃ a j : Nat, a = m + j ∧ j ≤ padN m ∧ v = .int .i64 (a : Int) ∧ St 51 k #[.string S, .int .i64 p, .int .i64 0] wr ∧ Keep k none w wr) (fun v _ => (m + 4 - (intOf v).toNat))
  case atStart => exact ⟨m, 0, rfl, Nat.zero_le _, rfl, HST.out, (Keep.refl k none w)⟩
  case round =>
    obtain ⟨a, j, ha, hj, rfl, hst, hk⟩ := hrel
    have c0 : wr.cell? ⟨k, 0, none⟩ = some (.string S) := hst.cell rfl
    have c1 : wr.cell? ⟨k, 1, none⟩ = some (.int .i64 (p : Int)) := hst.cell rfl
    have c2 : wr.cell? ⟨k, 2, none⟩ = some (.int .i64 0) := hst.cell rfl
    have f1 := hst.free 1
    have f2 := hst.free 2
    have HA := Lib.hid ha
    have hae : a ≤ m + 3 ∧ m ≤ a := by omega
    clear ha
    by_cases h4 : a % 4 = 0
    · have h4b : (((a : Int) % 4) != 0) = false := by rw [bne_eq_false_iff_eq]; omega
      have hjp : j = padN m := Nat.le_antisymm hj (Nat.le_of_not_lt fun hlt => HN.out j hlt (HA.out ▸ h4))
      have hae2 : a = m + padN m := by rw [HA.out, hjp]
      have HA2 := Lib.hid hae2
      have hap : a ≤ S.size - p := by omega
      have hg : decide ((a : Int) > (S.size : Int) - (p : Int)) = false := by simp; omega
      have h5 : wr.cell? ⟨k, 0, none⟩ = some (.string S) := c0
      clear h4 hae2 hj hjp
      go_wp2
      go_quiet (fail)
      go_wp2
      go_loopw [6] (fun v wr => ∃ i : Nat, m ≤ i ∧ i ≤ a ∧ v = .int .i64 (i : Int) ∧ (∀ t, m ≤ t → t < i → rest.data.toList[t]? = some 0) ∧ St 51 k #[.string S, .int .i64 p, .int .i64 0] wr ∧ Keep k none w wr) (fun v _ => (a - (intOf v).toNat))
      case atStart => exact ⟨m, Nat.le_refl _, hae.2, rfl, fun t h1 h2 => absurd h2 (Nat.not_lt.2 h1), hst, hk.drewN _⟩
      case round =>
        clear c0 c1 c2 f1 f2 h5 hst hk
        obtain ⟨i, hmi, hia, rfl, hzs, hst, hk⟩ := hrel
        have c0 : wr.cell? ⟨k, 0, none⟩ = some (.string S) := hst.cell rfl
        have c1 : wr.cell? ⟨k, 1, none⟩ = some (.int .i64 (p : Int)) := hst.cell rfl
        have c2 : wr.cell? ⟨k, 2, none⟩ = some (.int .i64 0) := hst.cell rfl
        have f1 := hst.free 1
        have f2 := hst.free 2
        have HZS := Lib.hid hzs
        clear hzs
        by_cases hlt : i < a
        · have hpi : p + i < S.size := by omega
          have hlb : decide ((i : Int) < (a : Int)) = true := by simpa using hlt
          have hget := rest_get HR.out hpi
          have hw1 : IntKind.i64.wrap ((p : Int) + (i : Int)) = (p : Int) + (i : Int) := by rw [IntKind.wrap_i64]; omega
          have hb0 : (0 : Int) ≤ (p : Int) + (i : Int) := by omega
          have hb1 : (p : Int) + (i : Int) < (S.size : Int) := by omega
          have hb2 : ((p : Int) + (i : Int)).toNat = p + i := by omega
          have hw2 : IntKind.i64.wrap ((i : Int) + 1) = (i : Int) + 1 := by rw [IntKind.wrap_i64]; omega
          have HG := Lib.hid hget
          clear hget
          by_cases hz0 : S[p + i]'hpi = 0
          · have hzb : ((((S[p + i]'hpi).toNat : Int)) != 0) = false := by rw [hz0]; rfl
            have HZ0 := Lib.hid hz0
            clear hz0
            go_wp2
            go_quiet (fail)
            go_wp2
            go_roundw
            case rel =>
              refine ⟨i + 1, by omega, by omega, by go_num, ?_, hst, hk.drewN _⟩
              intro t h1 h2
              by_cases e : t = i
              · subst e
                rw [HG.out, HZ0.out]
              · exact HZS.out t h1 (by omega)
            case measure => simp [intOf]; omega
          · have hzb : ((((S[p + i]'hpi).toNat : Int)) != 0) = true := by
              rw [bne_iff_ne]
              intro h
              apply hz0
              apply UInt8.toNat_inj.1
              have : (0 : UInt8).toNat = 0 := rfl
              omega
            clear hz0
            go_wp2
            go_quiet (fail)
            go_wp2
            go_ret
            refine ⟨rfl, ⟨p, hp, ?_, fun h => by cases h⟩, (hk.drewN _).put 2 _⟩
            have := hst.set 2 (.int .i64 11)
            exact this
        · obtain rfl : a = i := by omega
          have hlb : decide ((a : Int) < (a : Int)) = false := by simp
          exact absurd (allZero_of (by omega) HZS.out) (by rw [HA2.out, HZZ.out]; simp)
    · have h4b : (((a : Int) % 4) != 0) = true := by rw [bne_iff_ne]; omega
      have hjl : j < padN m := by
        apply Nat.lt_of_le_of_ne hj
        rintro rfl
        exact h4 (HA.out ▸ hpz)
      by_cases hl : a ≤ S.size
      · have hlb : decide ((a : Int) ≤ (S.size : Int)) = true := by simpa using hl
        have hwa : IntKind.i64.wrap ((a : Int) + 1) = (a : Int) + 1 := by rw [IntKind.wrap_i64]; omega
        clear h4
        go_wp2
        go_roundw
        case rel => exact ⟨a + 1, j + 1, by rw [HA.out]; omega, by omega, by go_num, hst, hk⟩
        case measure => simp [intOf]; omega
      · have hlb : decide ((a : Int) ≤ (S.size : Int)) = false := by simpa using hl
        exact absurd (show a ≤ S.size by have := HA.out; omega) hl

set_option maxRecDepth 100000 in
set_option maxHeartbeats 1000000 in
theorem rfFixed_ok (k m : Nat) (S rest : ByteArray) (w : World) (hS : S.size ≤ 1073741824) (hs : m + padN m ≤ rest.size) (hz : allZero (rest.extract m (m + padN m)).data.toList = true) (h : Rf k S rest 0 w) :
    Calls Tryd.prog 64 #[.pointer (some ⟨k, 0, none⟩), .int .i64 m] w fun r w' => Rook k S (rest.extract (m + padN m) rest.size) 0 (.string (rest.extract 0 m)) w r w' := by
  obtain ⟨p, hp, hst, hr⟩ := h
  have hr := hr rfl
  have c0 : w.cell? ⟨k, 0, none⟩ = some (.string S) := hst.cell rfl
  have c1 : w.cell? ⟨k, 1, none⟩ = some (.int .i64 (p : Int)) := hst.cell rfl
  have c2 : w.cell? ⟨k, 2, none⟩ = some (.int .i64 0) := hst.cell rfl
  have f2 := hst.free 2
  have hsz : rest.size = S.size - p := by rw [hr, ByteArray.size_extract]; omega
  have hw : IntKind.i64.wrap ((S.size : Int) - (p : Int)) = (S.size : Int) - (p : Int) := by rw [IntKind.wrap_i64]; omega
  have hn0 : decide ((m : Int) < 0) = false := by simp
  have hpn := padN_lt m
  have hpz : (m + padN m) % 4 = 0 := by unfold padN; omega
  have HN := Lib.hid (show ∀ i, i < padN m → ¬ (m + i) % 4 = 0 from fun i hi => by unfold padN at hi; omega)
  have HST := Lib.hid hst
  have HR := Lib.hid hr
  clear hst hr
  have hd : decide ((m : Int) > (S.size : Int) - (p : Int)) = false := by simp; omega
  have HZZ := Lib.hid hz
  clear hz
  go_enter Tryd.func64, Tryd.ntmps64
  go_wp2
  go_loopw [5] (fun v wr => ∃ a j : Nat, a = m + j ∧ j ≤ padN m ∧ v = .int .i64 (a : Int) ∧ St 51 k #[.string S, .int .i64 p, .int .i64 0] wr ∧ Keep k none w wr) (fun v _ => (m + 4 - (intOf v).toNat))
  case atStart => exact ⟨m, 0, rfl, Nat.zero_le _, rfl, HST.out, (Keep.refl k none w)⟩
  case round =>
    obtain ⟨a, j, ha, hj, rfl, hst, hk⟩ := hrel
    have c0 : wr.cell? ⟨k, 0, none⟩ = some (.string S) := hst.cell rfl
    have c1 : wr.cell? ⟨k, 1, none⟩ = some (.int .i64 (p : Int)) := hst.cell rfl
    have c2 : wr.cell? ⟨k, 2, none⟩ = some (.int .i64 0) := hst.cell rfl
    have f1 := hst.free 1
    have f2 := hst.free 2
    have HA := Lib.hid ha
    have hae : a ≤ m + 3 ∧ m ≤ a := by omega
    clear ha
    by_cases h4 : a % 4 = 0
    · have h4b : (((a : Int) % 4) != 0) = false := by rw [bne_eq_false_iff_eq]; omega
      have hjp : j = padN m := Nat.le_antisymm hj (Nat.le_of_not_lt fun hlt => HN.out j hlt (HA.out ▸ h4))
      have hae2 : a = m + padN m := by rw [HA.out, hjp]
      have HA2 := Lib.hid hae2
      have hap : a ≤ S.size - p := by omega
      have hg : decide ((a : Int) > (S.size : Int) - (p : Int)) = false := by simp; omega
      have h5 : wr.cell? ⟨k, 0, none⟩ = some (.string S) := c0
      clear h4 hae2 hj hjp
      go_wp2
      go_quiet (fail)
      go_wp2
      go_loopw [6] (fun v wr => ∃ i : Nat, m ≤ i ∧ i ≤ a ∧ v = .int .i64 (i : Int) ∧ (∀ t, m ≤ t → t < i → rest.data.toList[t]? = some 0) ∧ St 51 k #[.string S, .int .i64 p, .int .i64 0] wr ∧ Keep k none w wr) (fun v _ => (a - (intOf v).toNat))
      case atStart => exact ⟨m, Nat.le_refl _, hae.2, rfl, fun t h1 h2 => absurd h2 (Nat.not_lt.2 h1), hst, hk.drewN _⟩
      case round =>
        clear c0 c1 c2 f1 f2 h5 hst hk
        obtain ⟨i, hmi, hia, rfl, hzs, hst, hk⟩ := hrel
        have c0 : wr.cell? ⟨k, 0, none⟩ = some (.string S) := hst.cell rfl
        have c1 : wr.cell? ⟨k, 1, none⟩ = some (.int .i64 (p : Int)) := hst.cell rfl
        have c2 : wr.cell? ⟨k, 2, none⟩ = some (.int .i64 0) := hst.cell rfl
        have f1 := hst.free 1
        have f2 := hst.free 2
        have HZS := Lib.hid hzs
        clear hzs
        by_cases hlt : i < a
        · have hpi : p + i < S.size := by omega
          have hlb : decide ((i : Int) < (a : Int)) = true := by simpa using hlt
          have hget := rest_get HR.out hpi
          have hw1 : IntKind.i64.wrap ((p : Int) + (i : Int)) = (p : Int) + (i : Int) := by rw [IntKind.wrap_i64]; omega
          have hb0 : (0 : Int) ≤ (p : Int) + (i : Int) := by omega
          have hb1 : (p : Int) + (i : Int) < (S.size : Int) := by omega
          have hb2 : ((p : Int) + (i : Int)).toNat = p + i := by omega
          have hw2 : IntKind.i64.wrap ((i : Int) + 1) = (i : Int) + 1 := by rw [IntKind.wrap_i64]; omega
          have HG := Lib.hid hget
          clear hget
          by_cases hz0 : S[p + i]'hpi = 0
          · have hzb : ((((S[p + i]'hpi).toNat : Int)) != 0) = false := by rw [hz0]; rfl
            have HZ0 := Lib.hid hz0
            clear hz0
            go_wp2
            go_quiet (fail)
            go_wp2
            go_roundw
            case rel =>
              refine ⟨i + 1, by omega, by omega, by go_num, ?_, hst, hk.drewN _⟩
              intro t h1 h2
              by_cases e : t = i
              · subst e
                rw [HG.out, HZ0.out]
              · exact HZS.out t h1 (by omega)
            case measure => simp [intOf]; omega
          · have hzb : ((((S[p + i]'hpi).toNat : Int)) != 0) = true := by
              rw [bne_iff_ne]
              intro h
              apply hz0
              apply UInt8.toNat_inj.1
              have : (0 : UInt8).toNat = 0 := rfl
              omega
            exact absurd (allZero_at HZZ.out hmi (by rw [← HA2.out]; exact hlt) HG.out) hz0
        · obtain rfl : a = i := by omega
          have hlb : decide ((a : Int) < (a : Int)) = false := by simp
          have hw3 : IntKind.i64.wrap ((p : Int) + (m : Int)) = (p : Int) + (m : Int) := by rw [IntKind.wrap_i64]; omega
          have hw4 : IntKind.i64.wrap ((p : Int) + (a : Int)) = (p : Int) + (a : Int) := by rw [IntKind.wrap_i64]; omega
          have hcut := rest_cut (m := m) HR.out (by omega)
          have HC := Lib.hid hcut
          have hb0 : (0 : Int) ≤ (p : Int) := by omega
          have hb1 : (p : Int) ≤ (p : Int) + (m : Int) := by omega
          have hb2 : (p : Int) + (m : Int) ≤ (S.size : Int) := by omega
          have hb3 : ((p : Int) + (m : Int)).toNat = p + m := by omega
          clear hcut
          go_wp2
          go_quiet (fail)
          go_wp2
          go_ret
          refine ⟨?_, ⟨p + a, by omega, ?_, fun _ => ?_⟩, (hk.drewN _).put 1 _⟩
          · show Ending.returned (.string _) = _
            rw [HC.out]
          · have := hst.set 1 (.int .i64 ((p : Int) + (a : Int)))
            exact this
          · rw [← HA2.out]
            exact rest_next HR.out
    · have h4b : (((a : Int) % 4) != 0) = true := by rw [bne_iff_ne]; omega
      have hjl : j < padN m := by
        apply Nat.lt_of_le_of_ne hj
        rintro rfl
        exact h4 (HA.out ▸ hpz)
      by_cases hl : a ≤ S.size
      · have hlb : decide ((a : Int) ≤ (S.size : Int)) = true := by simpa using hl
        have hwa : IntKind.i64.wrap ((a : Int) + 1) = (a : Int) + 1 := by rw [IntKind.wrap_i64]; omega
        clear h4
        go_wp2
        go_roundw
        case rel => exact ⟨a + 1, j + 1, by rw [HA.out]; omega, by omega, by go_num, hst, hk⟩
        case measure => simp [intOf]; omega
      · have hlb : decide ((a : Int) ≤ (S.size : Int)) = false := by simpa using hl
        exact absurd (show a ≤ S.size by have := HA.out; omega) hl

theorem rdFixed_err {n : Int} {s : ByteArray} {e : Int} (h : e ≠ 0) : rdFixed n s e = (s, e, ⟨#[]⟩) := by
  unfold rdFixed rdFail
  by_cases h1 : n < 0
  · rw [if_pos h1, if_pos h]
  · rw [if_neg h1]
    by_cases h2 : (s.size : Int) < n
    · rw [if_pos h2, if_pos h]
    · rw [if_neg h2, if_pos h]

theorem rfFixed_any (k : Nat) (n : Int) (S rest : ByteArray) (e : Int) (w : World) (hS : S.size ≤ 1073741824) (h : Rf k S rest e w) :
    Calls Tryd.prog 64 #[.pointer (some ⟨k, 0, none⟩), .int .i64 n] w fun r w' => Rook k S (rdFixed n rest e).1 (rdFixed n rest e).2.1 (.string (rdFixed n rest e).2.2) w r w' := by
  by_cases he : e = 0
  · subst he
    by_cases h1 : n < 0
    · have ed : rdFixed n rest 0 = (⟨#[]⟩, 2, ⟨#[]⟩) := by unfold rdFixed rdFail; rw [if_pos h1]; rfl
      rw [ed]
      exact rfFixed_low k n S rest w h1 h
    · obtain ⟨m, rfl⟩ : ∃ m : Nat, n = m := ⟨n.toNat, by omega⟩
      by_cases h2 : (rest.size : Int) < m
      · have ed : rdFixed m rest 0 = (⟨#[]⟩, 10, ⟨#[]⟩) := by unfold rdFixed rdFail; rw [if_neg h1, if_pos h2]; rfl
        rw [ed]
        exact rfFixed_short1 k m S rest w hS (by omega) h
      · by_cases h3 : rest.size < m + padN m
        · have ed : rdFixed m rest 0 = (⟨#[]⟩, 10, ⟨#[]⟩) := by unfold rdFixed; rw [if_neg h1, if_neg h2, if_neg (by simp), if_pos (by simpa using h3)]
          rw [ed]
          exact rfFixed_short2 k m S rest w hS (by omega) h3 h
        · by_cases h4 : allZero (rest.extract m (m + padN m)).data.toList = false
          · have ed : rdFixed m rest 0 = (⟨#[]⟩, 11, ⟨#[]⟩) := by unfold rdFixed; rw [if_neg h1, if_neg h2, if_neg (by simp), if_neg (by simpa using h3), if_pos (by rw [Int.toNat_natCast]; exact h4)]
            rw [ed]
            exact rfFixed_pad k m S rest w hS (by omega) h4 h
          · have ed : rdFixed m rest 0 = (rest.extract (m + padN m) rest.size, 0, rest.extract 0 m) := by unfold rdFixed; rw [if_neg h1, if_neg h2, if_neg (by simp), if_neg (by simpa using h3), if_neg (by rw [Int.toNat_natCast]; exact h4), Int.toNat_natCast]
            rw [ed]
            exact rfFixed_ok k m S rest w hS (by omega) (by simpa using h4) h
  · rw [rdFixed_err he]
    exact rfFixed_err k n S rest e w he h

set_option maxRecDepth 100000 in
set_option maxHeartbeats 1000000 in
theorem rfText_any (k : Nat) (most : Int) (S s : ByteArray) (e : Int) (w : World) (hS : S.size ≤ 1073741824) (h : Rf k S s e w) :
    Calls Tryd.prog 28 #[.pointer (some ⟨k, 0, none⟩), .int .i64 most] w fun r w' => Rook k S (rdOpaque most s e).1 (rdOpaque most s e).2.1 (.string (rdOpaque most s e).2.2) w r w' := by
  have hu := rfU4_any k S s e w hS h
  have hz := rdU32_zero (s := s) (e := e)
  have hop : rdOpaque most s e = if most < (rdU32 s e).2.2 then ((rdFail 4 (rdU32 s e).1 (rdU32 s e).2.1).1, (rdFail 4 (rdU32 s e).1 (rdU32 s e).2.1).2, ⟨#[]⟩) else rdFixed (rdU32 s e).2.2 (rdU32 s e).1 (rdU32 s e).2.1 := rfl
  rw [hop]
  clear hop
  obtain ⟨u, hue⟩ : ∃ u, u = rdU32 s e := ⟨_, rfl⟩
  rw [← hue] at hu hz ⊢
  clear hue
  obtain ⟨s1, e1, n1⟩ := u
  dsimp only at hu hz ⊢
  by_cases h1 : e1 = 0
  · subst h1
    by_cases h2 : most < n1
    · rw [if_pos h2]
      have hd : decide (n1 > most) = true := by simpa using h2
      have HU := Lib.hid hu
      clear hu hz
      go_enter Tryd.func28, Tryd.ntmps28
      go_wp2_with (go_at_call 29; go_must (refine HU.out.mono ?_); rintro e w1 ⟨rfl, ⟨p, hp, hst, hr⟩, hk⟩; have c2 : w1.cell? ⟨k, 2, none⟩ = some (.int .i64 0) := hst.cell rfl; have f2 := hst.free 2)
      go_ret
      refine ⟨rfl, ⟨p, hp, ?_, fun h => by cases h⟩, hk.put 2 _⟩
      have := hst.set 2 (.int .i64 4)
      exact this
    · rw [if_neg h2]
      have hd : decide (n1 > most) = false := by simpa using h2
      have hf : ∀ w1, Rf k S s1 0 w1 → Calls Tryd.prog 64 #[.pointer (some ⟨k, 0, none⟩), .int .i64 n1] w1 fun r w' => Rook k S (rdFixed n1 s1 0).1 (rdFixed n1 s1 0).2.1 (.string (rdFixed n1 s1 0).2.2) w1 r w' := fun w1 h1 => rfFixed_any k n1 S s1 0 w1 hS h1
      obtain ⟨x, hx⟩ : ∃ x, x = rdFixed n1 s1 0 := ⟨_, rfl⟩
      rw [← hx] at hf ⊢
      have HF := Lib.hid hf
      have HU := Lib.hid hu
      clear hu hz hf hx
      go_enter Tryd.func28, Tryd.ntmps28
      go_wp2_with (first | (go_at_call 29; go_must (refine HU.out.mono ?_); rintro e w1 ⟨rfl, ⟨p, hp, hst, hr⟩, hk⟩; have c2 : w1.cell? ⟨k, 2, none⟩ = some (.int .i64 0) := hst.cell rfl) | (go_at_call 64; go_must (refine (HF.out _ ⟨p, hp, hst, fun _ => hr trivial⟩).mono ?_); rintro e w2 ⟨rfl, hr2, hk2⟩))
      go_ret
      exact ⟨rfl, hr2, hk.trans hk2 (.inl rfl)⟩
  · have hz := hz h1
    subst hz
    have e2 : (if most < 0 then ((rdFail 4 s1 e1).1, (rdFail 4 s1 e1).2, (⟨#[]⟩ : ByteArray)) else rdFixed 0 s1 e1) = (s1, e1, ⟨#[]⟩) := by
      rw [rdFixed_err h1]
      by_cases h2 : most < 0
      · rw [if_pos h2]; unfold rdFail; rw [if_pos h1]
      · rw [if_neg h2]
    rw [e2]
    have HU := Lib.hid hu
    have hd : (e1 == 0) = false := by simpa using h1
    clear hu e2
    go_enter Tryd.func28, Tryd.ntmps28
    go_wp2_with (go_at_call 29; go_must (refine HU.out.mono ?_); rintro e w1 ⟨rfl, ⟨p, hp, hst, hr⟩, hk⟩; have c2 : w1.cell? ⟨k, 2, none⟩ = some (.int .i64 e1) := hst.cell rfl)
    go_ret
    exact ⟨rfl, ⟨p, hp, hst, hr⟩, hk⟩
end Go.Proofs.YtdjnadgcjmlejaaDoor
