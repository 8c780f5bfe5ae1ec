/- Messages: the program's number, skip, rest, hasBytes, rejected. -/
import Derived.Test.YtimbcombhdgjiaaDoorMw
import Derived.Test.YtimbcombhdgjiaaDoorRz
import Derived.Test.YtimbcombhdgjiaaDoorMs
namespace Go.Proofs.YtimbcombhdgjiaaDoor
open Go.RowKit
set_option linter.unusedSimpArgs false
set_option linter.unusedVariables false

/-- The empty struct that is thrown when a number is missing. -/
def thrown : List PanicEntry := [{ v := .iface 51 (.agg #[]), recovered := false }]

theorem extract_off (s : ByteArray) (a n : Nat) (h : a + n ≤ s.size) : (s.extract a s.size).extract n (s.extract a s.size).size = s.extract (a + n) s.size := by
  apply ByteArray.ext
  apply Array.toList_inj.1
  simp only [ByteArray.data_extract, Array.toList_extract, List.extract_eq_take_drop, ByteArray.size_extract, List.drop_drop, List.drop_take, List.take_take]
  congr 1
  omega
theorem rdU32_at (s : ByteArray) (i : Nat) (h : 4 * i + 4 ≤ s.size) : rdU32 (s.extract (4 * i) s.size) 0 = (s.extract (4 * (i + 1)) s.size, 0, atW s i) := by
  unfold rdU32 atW
  rw [if_neg (by simp), if_neg (by rw [ByteArray.size_extract]; omega), if_neg (by omega), extract_off s (4 * i) 4 (by omega), extract_first s (4 * i) 4 h]
  rfl
set_option maxRecDepth 100000 in
theorem mnext_at (k i : Nat) (s : ByteArray) (w : World) (h : Rd k (s.extract (4 * i) s.size) 0 w) (hs : 4 * i + 4 ≤ s.size) :
    Calls Tryd.prog 33 #[.pointer (some ⟨k, 0, none⟩)] w fun e w' => e = .returned (.int .i64 (atW s i)) ∧ Rd k (s.extract (4 * (i + 1)) s.size) 0 w' ∧ Keep k none w w' := by
  have HT := rU32_at k (s.extract (4 * i) s.size) 0 w h
  rw [rdU32_at s i hs] at HT
  dsimp only at HT
  obtain ⟨s1, hs1⟩ : ∃ x, x = s.extract (4 * (i + 1)) s.size := ⟨_, rfl⟩
  obtain ⟨n, hn⟩ : ∃ x, x = atW s i := ⟨_, rfl⟩
  rw [← hs1, ← hn] at HT ⊢
  replace HT := Lib.hid HT
  clear hs1 hn h hs
  go_enter Tryd.func33, Tryd.ntmps33
  go_wp2_with (first
    | (go_at_call 39; go_must (refine (HT.out).mono ?_); rintro r w1 ⟨rfl, g1, k1⟩)
    | (go_at_call 40; go_must (refine (rErr_at k s1 0 _ g1).mono ?_); rintro r w2 ⟨rfl, rfl⟩))
  go_ret
  exact ⟨rfl, g1, k1⟩
set_option maxRecDepth 100000 in
theorem mnext_gone (k i : Nat) (s : ByteArray) (w : World) (h : Rd k (s.extract (4 * i) s.size) 0 w) (hs : s.size < 4 * i + 4) :
    Calls Tryd.prog 33 #[.pointer (some ⟨k, 0, none⟩)] w fun e w' => e = .panicked thrown ∧ Keep k none w w' := by
  have HT := rU32_at k (s.extract (4 * i) s.size) 0 w h
  have he : rdU32 (s.extract (4 * i) s.size) 0 = (⟨#[]⟩, 10, 0) := by unfold rdU32; rw [if_neg (by simp), if_pos (by rw [ByteArray.size_extract]; omega)]
  rw [he] at HT
  dsimp only at HT
  replace HT := Lib.hid HT
  clear he h hs
  go_enter Tryd.func33, Tryd.ntmps33
  go_wp2_with (first
    | (go_at_call 39; go_must (refine (HT.out).mono ?_); rintro r w1 ⟨rfl, g1, k1⟩)
    | (go_at_call 40; go_must (refine (rErr_at k ⟨#[]⟩ 10 _ g1).mono ?_); rintro r w2 ⟨rfl, rfl⟩))
  simp only [bodyPost]
  exact ⟨trivial, rfl, k1⟩

set_option maxRecDepth 100000 in
set_option maxHeartbeats 1000000 in
theorem rcskip_at (k i n : Nat) (s : ByteArray) (w : World) (h : Rd k (s.extract (4 * i) s.size) 0 w) (hs : 4 * (i + n) ≤ s.size) (hn : n ≤ 10) :
    Calls Tryd.prog 42 #[.pointer (some ⟨k, 0, none⟩), .int .i64 n] w fun e w' => e = .returned (.tuple #[]) ∧ Rd k (s.extract (4 * (i + n)) s.size) 0 w' ∧ Keep k none w w' := by
  have HR := Lib.hid h
  have HS := Lib.hid hs
  have HN := Lib.hid hn
  clear h hs hn
  go_enter Tryd.func42, Tryd.ntmps42
  go_wp2_with fail
  go_loopw [5] (fun c wr => ∃ j : Nat, j ≤ n ∧ c = .int .i64 j ∧ Rd k (s.extract (4 * (i + j)) s.size) 0 wr ∧ Keep k none w wr) (fun c _ => n - (intOf c).toNat)
  case atStart => exact ⟨0, Nat.zero_le _, rfl, HR.out, Keep.refl _ _ _⟩
  case round =>
    obtain ⟨j, hj, rfl, hr, hk⟩ := hrel
    have hss := HS.out
    have hnn := HN.out
    by_cases hlt : j < n
    · have hd : decide ((j : Int) < (n : Int)) = true := by simpa using hlt
      have hw1 : IntKind.i64.wrap ((j : Int) + 1) = (j : Int) + 1 := by rw [IntKind.wrap_i64]; omega
      have HX := Lib.hid (mnext_at k (i + j) s wr hr (by omega))
      have HK := Lib.hid hk
      clear hr hk
      go_wp2_with (go_at_call 33; go_must (refine HX.out.mono ?_); rintro e w4 ⟨rfl, g4, k4⟩; have G4 := Lib.hid g4; have K4 := Lib.hid k4; clear g4 k4)
      go_roundw
      case rel => exact ⟨j + 1, hlt, by go_num, G4.out, HK.out.trans K4.out (.inl rfl)⟩
      case measure => simp [intOf]; omega
    · obtain rfl : j = n := by omega
      have hd : decide ((j : Int) < (j : Int)) = false := by simp
      have HX := Lib.hid hr
      have HK := Lib.hid hk
      clear hr hk
      go_wp2_with fail
      go_end0
      exact ⟨rfl, HX.out, HK.out⟩
set_option maxRecDepth 100000 in
set_option maxHeartbeats 1000000 in
theorem rcskip_gone (k i n : Nat) (s : ByteArray) (w : World) (h : Rd k (s.extract (4 * i) s.size) 0 w) (h0 : 4 * i ≤ s.size) (hs : s.size < 4 * (i + n)) (hn : n ≤ 10) :
    Calls Tryd.prog 42 #[.pointer (some ⟨k, 0, none⟩), .int .i64 n] w fun e w' => e = .panicked thrown ∧ Keep k none w w' := by
  have HR := Lib.hid h
  have HS := Lib.hid hs
  have HN := Lib.hid hn
  have H0 := Lib.hid h0
  clear h hs hn h0
  go_enter Tryd.func42, Tryd.ntmps42
  go_wp2_with fail
  go_loopw [5] (fun c wr => ∃ j : Nat, j ≤ n ∧ c = .int .i64 j ∧ 4 * (i + j) ≤ s.size ∧ Rd k (s.extract (4 * (i + j)) s.size) 0 wr ∧ Keep k none w wr) (fun c _ => n - (intOf c).toNat)
  case atStart => exact ⟨0, Nat.zero_le _, rfl, H0.out, HR.out, Keep.refl _ _ _⟩
  case round =>
    obtain ⟨j, hj, rfl, hle, hr, hk⟩ := hrel
    have hss := HS.out
    have hnn := HN.out
    by_cases hlt : j < n
    · have hd : decide ((j : Int) < (n : Int)) = true := by simpa using hlt
      have hw1 : IntKind.i64.wrap ((j : Int) + 1) = (j : Int) + 1 := by rw [IntKind.wrap_i64]; omega
      have HK := Lib.hid hk
      by_cases hth : 4 * (i + j) + 4 ≤ s.size
      · have HX := Lib.hid (mnext_at k (i + j) s wr hr hth)
        have HT := Lib.hid hth
        clear hr hk hle hth
        go_wp2_with (go_at_call 33; go_must (refine HX.out.mono ?_); rintro e w4 ⟨rfl, g4, k4⟩; have G4 := Lib.hid g4; have K4 := Lib.hid k4; clear g4 k4)
        go_roundw
        case rel => exact ⟨j + 1, hlt, by go_num, (by have := HT.out; omega), G4.out, HK.out.trans K4.out (.inl rfl)⟩
        case measure => simp [intOf]; omega
      · have HX := Lib.hid (mnext_gone k (i + j) s wr hr (by omega))
        clear hr hk hle hth
        go_wp2_with (go_at_call 33; go_must (refine HX.out.mono ?_); rintro e w4 ⟨rfl, k4⟩; have K4 := Lib.hid k4; clear k4)
        simp only [bodyPost]
        exact ⟨trivial, trivial, HK.out.trans K4.out (.inl rfl)⟩
    · exfalso; omega

/-- What rest takes: all that is left, if four divides how much that is. -/
def restOf (s : ByteArray) (i : Nat) : ByteArray := if s.size % 4 = 0 then s.extract (4 * i) s.size else ⟨#[]⟩
theorem rdFixed_rest (s : ByteArray) (i : Nat) (h : 4 * i ≤ s.size) : (rdFixed ((s.extract (4 * i) s.size).size : Int) (s.extract (4 * i) s.size) 0).2.2 = restOf s i := by
  have hz : (s.extract (4 * i) s.size).size = s.size - 4 * i := by rw [ByteArray.size_extract]; omega
  unfold rdFixed restOf
  rw [if_neg (by omega), if_neg (by omega), if_neg (by simp), Int.toNat_natCast]
  by_cases h4 : s.size % 4 = 0
  · have hp : padN (s.extract (4 * i) s.size).size = 0 := by unfold padN; omega
    rw [if_pos h4, hp, Nat.add_zero, if_neg (by omega), if_neg]
    · show (s.extract (4 * i) s.size).extract 0 (s.extract (4 * i) s.size).size = _
      apply ByteArray.ext
      have hmin : min (4 * i + (s.size - 4 * i)) s.size = s.size := by omega
      simp [hmin]
    · have : ((s.extract (4 * i) s.size).extract (s.extract (4 * i) s.size).size (s.extract (4 * i) s.size).size).data.toList = [] := by
        rw [← List.length_eq_zero_iff, len_data, ByteArray.size_extract]; omega
      rw [this]
      simp [allZero]
  · have hp : 0 < padN (s.extract (4 * i) s.size).size := by unfold padN; omega
    rw [if_neg h4, if_pos (by omega)]
set_option maxRecDepth 100000 in
set_option maxHeartbeats 1000000 in
theorem rcrest_at (k i : Nat) (s : ByteArray) (w : World) (hz : s.size ≤ 2048) (h : Rd k (s.extract (4 * i) s.size) 0 w) (hs : 4 * i ≤ s.size) :
    Calls Tryd.prog 43 #[.pointer (some ⟨k, 0, none⟩)] w fun e w' => e = .returned (.string (restOf s i)) ∧ Keep k none w w' := by
  have hsz : (s.extract (4 * i) s.size).size ≤ 1073741824 := by rw [ByteArray.size_extract]; omega
  rw [← rdFixed_rest s i hs]
  obtain ⟨t, ht⟩ : ∃ t, t = s.extract (4 * i) s.size := ⟨_, rfl⟩
  rw [← ht] at h hsz ⊢
  have HL := Lib.hid (rLeft_at k t 0 w h)
  have HF := rFixed_any k (t.size : Int) t 0 w hsz h
  obtain ⟨q, hq⟩ : ∃ q, q = rdFixed (t.size : Int) t 0 := ⟨_, rfl⟩
  rw [← hq] at HF ⊢
  replace HF := Lib.hid HF
  clear hq ht h hsz hs hz
  go_enter Tryd.func43, Tryd.ntmps43
  go_wp2_with (first
    | (go_at_call 49; go_must (refine HL.out.mono ?_); rintro r w1 ⟨rfl, rfl⟩)
    | (go_at_call 48; go_must (refine HF.out.mono ?_); rintro r w2 ⟨rfl, g2, k2⟩))
  go_ret
  exact ⟨rfl, k2⟩
theorem rcrejected_any (x a : Int) (w : World) : Calls Tryd.prog 41 #[.int .i64 x, .int .i64 a] w fun e w' => e = .returned (.tuple #[.agg (Mg.arr { Mg.zero with xid := x, accept := a }), .int .i64 0]) ∧ Below w.heap.size w w' := by
  have hb : Tryd.prog.built 25 [(0, .int .i64 x), (5, .int .i64 a)] = some (Mg.arr { Mg.zero with xid := x, accept := a }) := by kernel_rfl
  go_enter Tryd.func41, Tryd.ntmps41
  go_wp2
  refine ret_cell2 (r := 4) (t := 5) (k := w.heap.size) (T := 25) Tryd.results41 rfl rfl (St.new _ _ _) Tryd.underlying25 rfl (by kernel_rfl) rfl ?_
  exact ⟨rfl, below_one _ _⟩
/-- Is a message one that has these bytes? -/
def hasB (m : Mg) (s : ByteArray) : Bool := okMg m && decide (str (mgBytes m) = s)
set_option maxRecDepth 100000 in
set_option maxHeartbeats 1000000 in
theorem rchasBytes_any (m : Mg) (s : ByteArray) (w : World) (hm : m.body.size ≤ 3000) : Calls Tryd.prog 44 #[.agg m.arr, .string s] w fun e w' => e = .returned (.bool (hasB m s)) ∧ Below w.heap.size w w' := by
  have HP := fun w => mPut_any m w hm
  unfold hasB
  have h3 : m.arr.size = 10 := rfl
  obtain ⟨row, hrow⟩ : ∃ row, row = m.arr := ⟨_, rfl⟩
  obtain ⟨p, hp⟩ : ∃ p, p = (if okMg m then str (mgBytes m) else ⟨#[]⟩) := ⟨_, rfl⟩
  have hpost : (okMg m && decide (str (mgBytes m) = s)) = (((if okMg m then (0 : Int) else 14) == 0) && (p.toList == s.toList)) := by
    rw [toList_eq, hp]
    cases okMg m <;> rfl
  rw [hpost]
  obtain ⟨c, hc⟩ : ∃ c, c = (if okMg m then (0 : Int) else 14) := ⟨_, rfl⟩
  rw [← hrow, ← hp, ← hc] at HP
  rw [← hrow, ← hc]
  rw [← hrow] at h3
  obtain ⟨b1, hb1⟩ : ∃ b, (c == 0) = b := ⟨_, rfl⟩
  rw [hb1]
  have S0 := Lib.hid (St.new w 25 row)
  have L0 := Lib.hid (below_one w (.cells row 25 (0, 0)))
  have H3 := Lib.hid h3
  replace HP := Lib.hid HP
  clear hpost hrow hp hc h3 hm
  cases b1
  · go_enter Tryd.func44, Tryd.ntmps44
    go_wp2_with (first
      | (go_at_call 7; go_must (refine (HP.out _).mono ?_); rintro e w1 ⟨rfl, b1⟩; have L1 := Lib.hid (L0.out.trans (b1.mono L0.out.size)); clear b1)
      | ((with_reducible show wpList _ _ _ ({ dst := _, op := .load 25 (.tmp 2), type := _, pos := _, after := _, guard := _ } :: _) _ _); refine wpList_load_stg (by rfl) 25 _ rfl w.heap.size rfl 25 row S0.out _ Tryd.underlying25 rfl (by rw [H3.out]; kernel_rfl) ?_))
    go_ret
    exact ⟨rfl, L1.out⟩
  · go_enter Tryd.func44, Tryd.ntmps44
    go_wp2_with (first
      | (go_at_call 7; go_must (refine (HP.out _).mono ?_); rintro e w1 ⟨rfl, b1⟩; have L1 := Lib.hid (L0.out.trans (b1.mono L0.out.size)); clear b1)
      | ((with_reducible show wpList _ _ _ ({ dst := _, op := .load 25 (.tmp 2), type := _, pos := _, after := _, guard := _ } :: _) _ _); refine wpList_load_stg (by rfl) 25 _ rfl w.heap.size rfl 25 row S0.out _ Tryd.underlying25 rfl (by rw [H3.out]; kernel_rfl) ?_))
    go_ret
    exact ⟨by simp, L1.out⟩
end Go.Proofs.YtimbcombhdgjiaaDoor
