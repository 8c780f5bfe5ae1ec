/- Calls: the reference's bytes of a call that may be. -/
import Derived.Test.YtdjnadgcjmlejaaDoorCo
import Derived.Test.YtdjnadgcjmlejaaDoorCg
namespace Go.Proofs.YtdjnadgcjmlejaaDoor
open Go.RowKit Go.Joins

theorem okPo_i64 {o : Po} {most : Int} (hm : most ≤ most64) (h : okPo o most = true) : o.num := by
  unfold most64 at hm
  rcases (okPo_iff o most).1 h with ⟨_, h1, h2⟩ | ⟨_, h1⟩
  · exact ⟨by omega, by omega⟩
  · exact ⟨by omega, by omega⟩
theorem okPs_num {s : Ps} (h : okPs s = true) : s.num := by
  simp only [okPs, Bool.and_eq_true] at h
  obtain ⟨⟨⟨⟨h0, h1⟩, h2⟩, h3⟩, h4⟩ := h
  exact ⟨okPo_i64 (by decide) h0, okPo_i64 (by decide) h1, okPo_i64 (by decide) h2, okPo_i64 (by decide) h3, okPo_i64 (by decide) h4⟩
theorem ref_text (t : ByteArray) (m : Nat) (hm : m ≤ 300) (h : decide (t.size ≤ m) = true) (w : World) : Calls Tryd.prog 24 #[.string t] w fun e w' => e = .returned (.string (str (putOpaque t).2)) ∧ Below w.heap.size w w' := by
  simp only [decide_eq_true_eq] at h
  have e : (putOpaque t).2 = be 4 t.size ++ padded t := by unfold putOpaque; rw [if_neg (by omega)]
  rw [e]
  exact rText_any t w (by omega)
theorem ref_u64 (n : Int) (h : okIn n most64 = true) (w : World) : Calls Tryd.prog 25 #[.int .i64 n, .int .i64 8] w fun e w' => e = .returned (.string (str (putU64 n).2)) ∧ Below w.heap.size w w' := by
  obtain ⟨h0, h1⟩ := (okIn_iff _ _).1 h
  unfold most64 at h1
  obtain ⟨m, rfl⟩ := Int.eq_ofNat_of_zero_le h0
  rw [putU64_ok h0, Int.toNat_natCast]
  exact rNum_any m 8 w (by omega) (by omega)
theorem ref_u32 (n : Int) (h : okIn n 4294967295 = true) (w : World) : Calls Tryd.prog 25 #[.int .i64 n, .int .i64 4] w fun e w' => e = .returned (.string (str (putU32 n).2)) ∧ Below w.heap.size w w' := by
  obtain ⟨h0, h1⟩ := (okIn_iff _ _).1 h
  obtain ⟨m, rfl⟩ := Int.eq_ofNat_of_zero_le h0
  rw [putU32_ok h0 h1, Int.toNat_natCast]
  exact rNum_any m 4 w (by omega) (by omega)
theorem ref_set (s : Ps) (h : okPs s = true) (w : World) : Calls Tryd.prog 26 #[s.val] w fun e w' => e = .returned (.string (str (psPut s))) ∧ Below w.heap.size w w' := by
  unfold psPut
  rw [if_pos h]
  exact afSetBytes_at s w h (okPs_num h)
theorem ref_opt (q : Po) (h : okPo q most64 = true) (w : World) : Calls Tryd.prog 27 #[.agg #[.bool q.is, .int .i64 q.n]] w fun e w' => e = .returned (.string (str (putOpt q.is q.n).2)) ∧ Below w.heap.size w w' := by
  rw [putOpt_bytes h]
  exact rfOptB_any q.is q.n most64 w h (okPo_i64 (Int.le_refl _) h).2

set_option maxRecDepth 100000 in
set_option maxHeartbeats 8000000 in
theorem cfBytes_any (c : Cl) (w : World) (hok : ∀ l ∈ flds c.proc, okL l c = true) (hc : c.small) : Calls Tryd.prog 17 #[.agg c.arr] w fun e w' => e = .returned (.string (str (clBytes c))) ∧ Below w.heap.size w w' := by
  have HF := Lib.hid (fun W => cfFields_any c.proc W)
  have hlen := flds_len c.proc
  have hfs := fstr_size c.proc
  have hget := @fstr_get c.proc
  unfold clBytes
  have st0 := Lib.hid (St.new w 30 c.arr)
  have c0 : (w.alloc (.cells c.arr 30 (0, 0))).cell? ⟨w.heap.size, 0, none⟩ = some (.int .i64 c.proc) := st0.out.cell rfl
  obtain ⟨ls, hls⟩ : ∃ ls, ls = flds c.proc := ⟨_, rfl⟩
  obtain ⟨fs, hfe⟩ : ∃ fs, fs = fstr c.proc := ⟨_, rfl⟩
  rw [← hfe] at HF hfs
  rw [← hls] at hlen hfs hok ⊢
  have hget : ∀ (i : Nat) (l : Lt), ls[i]? = some l → ∀ (hi : i < fs.size), (fs[i]'hi) = l.b := by
    intro i l h hi
    subst hls hfe
    exact hget h hi
  obtain ⟨cs, hcs⟩ : ∃ cs, cs = c.arr := ⟨_, rfl⟩
  rw [← hcs] at st0 c0 ⊢
  have hsz5 : fs.size ≤ 5 := by rw [hfs]; exact hlen
  have HG := Lib.hid hget
  have HS := Lib.hid hfs
  have HO := Lib.hid hok
  have HC := Lib.hid hcs
  clear hget hfs hls hfe hok hcs
  go_enter Tryd.func17, Tryd.ntmps17
  go_wp2_with (go_at_call 8; go_must (refine (HF.out _).mono ?_); rintro e w1 ⟨rfl, b1⟩)
  have s1 := Lib.hid (st0.out.below b1)
  have f1 := Lib.hid ((below_alloc1 w _).trans (b1.mono (by simp)))
  clear b1 c0
  go_loopw [4, 5] (fun s i wr => ∃ j : Nat, j ≤ ls.length ∧ i = .int .i64 j ∧ s = .string (str (wrs (ls.take j) c)) ∧ St 30 w.heap.size cs wr ∧ Below w.heap.size w wr) (fun _ i _ => ls.length - (intOf i).toNat)
  case atStart => exact ⟨0, Nat.zero_le _, rfl, rfl, s1.out, f1.out⟩
  case round =>
    obtain ⟨i, hi, rfl, rfl, st, hb⟩ := hrel
    have ST := Lib.hid st
    have HB := Lib.hid hb
    clear st hb s1 f1
    by_cases hlt : i < ls.length
    · obtain ⟨l, hl⟩ : ∃ l, ls[i]? = some l := ⟨_, List.getElem?_eq_getElem hlt⟩
      have hsz : i < fs.size := by rw [HS.out]; exact hlt
      have hgl := HG.out i l hl hsz
      have hol := HO.out l (List.mem_of_getElem? hl)
      have htk : wrs (ls.take (i + 1)) c = wrs (ls.take i) c ++ wrL l c := by
        rw [List.take_add_one, hl]
        exact wrs_snoc _ _ _
      have hyl : (str (wrs (ls.take i) c)).size ≤ 1550 := by
        have := wrs_len c hc (ls.take i)
        rw [List.length_take] at this
        rw [str_size]
        have := HS.out
        omega
      have hzl : (str (wrL l c)).size ≤ 310 := by rw [str_size]; exact wrL_len l c hc
      have hsum : str (wrs (ls.take (i + 1)) c) = str (wrs (ls.take i) c) ++ str (wrL l c) := by rw [htk, str_append]
      obtain ⟨u, hu⟩ : ∃ u, u = str (wrs (ls.take i) c) := ⟨_, rfl⟩
      rw [← hu] at hsum hyl ⊢
      have HT := Lib.hid hsum
      have b0 : (0 : Int) ≤ (i : Int) := by omega
      have b1 : (i : Int) < (fs.size : Int) := by omega
      have hd : decide ((i : Int) < (fs.size : Int)) = true := by simpa using hsz
      have hw1 : IntKind.i64.wrap ((i : Int) + 1) = (i : Int) + 1 := by rw [IntKind.wrap_i64]; omega
      clear htk hsum hu hl
      cases l
      · have hgl : fs[i]'hsz = 102 := hgl
        have HL := fun W => ref_text c.fh _ (by decide) hol W
        have hzl : (str ((putOpaque c.fh).2)).size ≤ 310 := hzl
        have HT2 := HT.out
        change str (wrs (ls.take (i + 1)) c) = u ++ str ((putOpaque c.fh).2) at HT2
        obtain ⟨v, hv⟩ : ∃ v, v = str ((putOpaque c.fh).2) := ⟨_, rfl⟩
        rw [← hv] at HL hzl HT2
        have HT3 := Lib.hid HT2
        replace HL := Lib.hid HL
        have hno : ¬ 9223372036854775807 < u.size + v.size := by omega
        clear HT2 HT hv hol
        have d1 : wr.cell? ⟨w.heap.size, 1, none⟩ = some (.string c.fh) := (HC.out ▸ ST.out).cell rfl
        go_wp2_with fail
        go_must (refine (HL.out _).mono ?_)
        rintro e w3 ⟨rfl, b3⟩
        have ST3 := Lib.hid (ST.out.below b3)
        have HB3 := Lib.hid (HB.out.trans (b3.mono HB.out.size))
        clear b3
        go_wp2_with fail
        go_roundw
        case rel => exact ⟨i + 1, hlt, by go_num, by rw [HT3.out], ST3.out, HB3.out⟩
        case measure => simp [intOf]; omega
      · have hgl : fs[i]'hsz = 110 := hgl
        have HL := fun W => ref_text c.name _ (by decide) hol W
        have hzl : (str ((putOpaque c.name).2)).size ≤ 310 := hzl
        have HT2 := HT.out
        change str (wrs (ls.take (i + 1)) c) = u ++ str ((putOpaque c.name).2) at HT2
        obtain ⟨v, hv⟩ : ∃ v, v = str ((putOpaque c.name).2) := ⟨_, rfl⟩
        rw [← hv] at HL hzl HT2
        have HT3 := Lib.hid HT2
        replace HL := Lib.hid HL
        have hno : ¬ 9223372036854775807 < u.size + v.size := by omega
        clear HT2 HT hv hol
        have d2 : wr.cell? ⟨w.heap.size, 2, none⟩ = some (.string c.name) := (HC.out ▸ ST.out).cell rfl
        go_wp2_with fail
        go_must (refine (HL.out _).mono ?_)
        rintro e w3 ⟨rfl, b3⟩
        have ST3 := Lib.hid (ST.out.below b3)
        have HB3 := Lib.hid (HB.out.trans (b3.mono HB.out.size))
        clear b3
        go_wp2_with fail
        go_roundw
        case rel => exact ⟨i + 1, hlt, by go_num, by rw [HT3.out], ST3.out, HB3.out⟩
        case measure => simp [intOf]; omega
      · have hgl : fs[i]'hsz = 70 := hgl
        have HL := fun W => ref_text c.fh2 _ (by decide) hol W
        have hzl : (str ((putOpaque c.fh2).2)).size ≤ 310 := hzl
        have HT2 := HT.out
        change str (wrs (ls.take (i + 1)) c) = u ++ str ((putOpaque c.fh2).2) at HT2
        obtain ⟨v, hv⟩ : ∃ v, v = str ((putOpaque c.fh2).2) := ⟨_, rfl⟩
        rw [← hv] at HL hzl HT2
        have HT3 := Lib.hid HT2
        replace HL := Lib.hid HL
        have hno : ¬ 9223372036854775807 < u.size + v.size := by omega
        clear HT2 HT hv hol
        have d3 : wr.cell? ⟨w.heap.size, 3, none⟩ = some (.string c.fh2) := (HC.out ▸ ST.out).cell rfl
        go_wp2_with fail
        go_must (refine (HL.out _).mono ?_)
        rintro e w3 ⟨rfl, b3⟩
        have ST3 := Lib.hid (ST.out.below b3)
        have HB3 := Lib.hid (HB.out.trans (b3.mono HB.out.size))
        clear b3
        go_wp2_with fail
        go_roundw
        case rel => exact ⟨i + 1, hlt, by go_num, by rw [HT3.out], ST3.out, HB3.out⟩
        case measure => simp [intOf]; omega
      · have hgl : fs[i]'hsz = 78 := hgl
        have HL := fun W => ref_text c.name2 _ (by decide) hol W
        have hzl : (str ((putOpaque c.name2).2)).size ≤ 310 := hzl
        have HT2 := HT.out
        change str (wrs (ls.take (i + 1)) c) = u ++ str ((putOpaque c.name2).2) at HT2
        obtain ⟨v, hv⟩ : ∃ v, v = str ((putOpaque c.name2).2) := ⟨_, rfl⟩
        rw [← hv] at HL hzl HT2
        have HT3 := Lib.hid HT2
        replace HL := Lib.hid HL
        have hno : ¬ 9223372036854775807 < u.size + v.size := by omega
        clear HT2 HT hv hol
        have d4 : wr.cell? ⟨w.heap.size, 4, none⟩ = some (.string c.name2) := (HC.out ▸ ST.out).cell rfl
        go_wp2_with fail
        go_must (refine (HL.out _).mono ?_)
        rintro e w3 ⟨rfl, b3⟩
        have ST3 := Lib.hid (ST.out.below b3)
        have HB3 := Lib.hid (HB.out.trans (b3.mono HB.out.size))
        clear b3
        go_wp2_with fail
        go_roundw
        case rel => exact ⟨i + 1, hlt, by go_num, by rw [HT3.out], ST3.out, HB3.out⟩
        case measure => simp [intOf]; omega
      · have hgl : fs[i]'hsz = 111 := hgl
        have HL := fun W => ref_u64 c.offset hol W
        have hzl : (str ((putU64 c.offset).2)).size ≤ 310 := hzl
        have HT2 := HT.out
        change str (wrs (ls.take (i + 1)) c) = u ++ str ((putU64 c.offset).2) at HT2
        obtain ⟨v, hv⟩ : ∃ v, v = str ((putU64 c.offset).2) := ⟨_, rfl⟩
        rw [← hv] at HL hzl HT2
        have HT3 := Lib.hid HT2
        replace HL := Lib.hid HL
        have hno : ¬ 9223372036854775807 < u.size + v.size := by omega
        clear HT2 HT hv hol
        have d5 : wr.cell? ⟨w.heap.size, 5, none⟩ = some (.int .i64 c.offset) := (HC.out ▸ ST.out).cell rfl
        go_wp2_with fail
        go_must (refine (HL.out _).mono ?_)
        rintro e w3 ⟨rfl, b3⟩
        have ST3 := Lib.hid (ST.out.below b3)
        have HB3 := Lib.hid (HB.out.trans (b3.mono HB.out.size))
        clear b3
        go_wp2_with fail
        go_roundw
        case rel => exact ⟨i + 1, hlt, by go_num, by rw [HT3.out], ST3.out, HB3.out⟩
        case measure => simp [intOf]; omega
      · have hgl : fs[i]'hsz = 99 := hgl
        have HL := fun W => ref_u32 c.count hol W
        have hzl : (str ((putU32 c.count).2)).size ≤ 310 := hzl
        have HT2 := HT.out
        change str (wrs (ls.take (i + 1)) c) = u ++ str ((putU32 c.count).2) at HT2
        obtain ⟨v, hv⟩ : ∃ v, v = str ((putU32 c.count).2) := ⟨_, rfl⟩
        rw [← hv] at HL hzl HT2
        have HT3 := Lib.hid HT2
        replace HL := Lib.hid HL
        have hno : ¬ 9223372036854775807 < u.size + v.size := by omega
        clear HT2 HT hv hol
        have d6 : wr.cell? ⟨w.heap.size, 6, none⟩ = some (.int .i64 c.count) := (HC.out ▸ ST.out).cell rfl
        go_wp2_with fail
        go_must (refine (HL.out _).mono ?_)
        rintro e w3 ⟨rfl, b3⟩
        have ST3 := Lib.hid (ST.out.below b3)
        have HB3 := Lib.hid (HB.out.trans (b3.mono HB.out.size))
        clear b3
        go_wp2_with fail
        go_roundw
        case rel => exact ⟨i + 1, hlt, by go_num, by rw [HT3.out], ST3.out, HB3.out⟩
        case measure => simp [intOf]; omega
      · have hgl : fs[i]'hsz = 104 := hgl
        have HL := fun W => ref_u32 c.how hol W
        have hzl : (str ((putU32 c.how).2)).size ≤ 310 := hzl
        have HT2 := HT.out
        change str (wrs (ls.take (i + 1)) c) = u ++ str ((putU32 c.how).2) at HT2
        obtain ⟨v, hv⟩ : ∃ v, v = str ((putU32 c.how).2) := ⟨_, rfl⟩
        rw [← hv] at HL hzl HT2
        have HT3 := Lib.hid HT2
        replace HL := Lib.hid HL
        have hno : ¬ 9223372036854775807 < u.size + v.size := by omega
        clear HT2 HT hv hol
        have d7 : wr.cell? ⟨w.heap.size, 7, none⟩ = some (.int .i64 c.how) := (HC.out ▸ ST.out).cell rfl
        go_wp2_with fail
        go_must (refine (HL.out _).mono ?_)
        rintro e w3 ⟨rfl, b3⟩
        have ST3 := Lib.hid (ST.out.below b3)
        have HB3 := Lib.hid (HB.out.trans (b3.mono HB.out.size))
        clear b3
        go_wp2_with fail
        go_roundw
        case rel => exact ⟨i + 1, hlt, by go_num, by rw [HT3.out], ST3.out, HB3.out⟩
        case measure => simp [intOf]; omega
      · have hgl : fs[i]'hsz = 100 := hgl
        have HL := fun W => ref_text c.data _ (by decide) hol W
        have hzl : (str ((putOpaque c.data).2)).size ≤ 310 := hzl
        have HT2 := HT.out
        change str (wrs (ls.take (i + 1)) c) = u ++ str ((putOpaque c.data).2) at HT2
        obtain ⟨v, hv⟩ : ∃ v, v = str ((putOpaque c.data).2) := ⟨_, rfl⟩
        rw [← hv] at HL hzl HT2
        have HT3 := Lib.hid HT2
        replace HL := Lib.hid HL
        have hno : ¬ 9223372036854775807 < u.size + v.size := by omega
        clear HT2 HT hv hol
        have d8 : wr.cell? ⟨w.heap.size, 8, none⟩ = some (.string c.data) := (HC.out ▸ ST.out).cell rfl
        go_wp2_with fail
        go_must (refine (HL.out _).mono ?_)
        rintro e w3 ⟨rfl, b3⟩
        have ST3 := Lib.hid (ST.out.below b3)
        have HB3 := Lib.hid (HB.out.trans (b3.mono HB.out.size))
        clear b3
        go_wp2_with fail
        go_roundw
        case rel => exact ⟨i + 1, hlt, by go_num, by rw [HT3.out], ST3.out, HB3.out⟩
        case measure => simp [intOf]; omega
      · have hgl : fs[i]'hsz = 115 := hgl
        have HL := fun W => ref_set c.set hol W
        have hzl : (str (psPut c.set)).size ≤ 310 := hzl
        have HT2 := HT.out
        change str (wrs (ls.take (i + 1)) c) = u ++ str (psPut c.set) at HT2
        obtain ⟨v, hv⟩ : ∃ v, v = str (psPut c.set) := ⟨_, rfl⟩
        rw [← hv] at HL hzl HT2
        have HT3 := Lib.hid HT2
        simp only [Ps.val, Ps.vs, Po.vs, List.cons_append, List.nil_append] at HL
        replace HL := Lib.hid HL
        have hno : ¬ 9223372036854775807 < u.size + v.size := by omega
        clear HT2 HT hv hol
        have d9 : wr.cell? ⟨w.heap.size, 9, none⟩ = some (.bool c.set.mode.is) := (HC.out ▸ ST.out).cell rfl
        have d10 : wr.cell? ⟨w.heap.size, 10, none⟩ = some (.int .i64 c.set.mode.n) := (HC.out ▸ ST.out).cell rfl
        have d11 : wr.cell? ⟨w.heap.size, 11, none⟩ = some (.bool c.set.uid.is) := (HC.out ▸ ST.out).cell rfl
        have d12 : wr.cell? ⟨w.heap.size, 12, none⟩ = some (.int .i64 c.set.uid.n) := (HC.out ▸ ST.out).cell rfl
        have d13 : wr.cell? ⟨w.heap.size, 13, none⟩ = some (.bool c.set.gid.is) := (HC.out ▸ ST.out).cell rfl
        have d14 : wr.cell? ⟨w.heap.size, 14, none⟩ = some (.int .i64 c.set.gid.n) := (HC.out ▸ ST.out).cell rfl
        have d15 : wr.cell? ⟨w.heap.size, 15, none⟩ = some (.bool c.set.size.is) := (HC.out ▸ ST.out).cell rfl
        have d16 : wr.cell? ⟨w.heap.size, 16, none⟩ = some (.int .i64 c.set.size.n) := (HC.out ▸ ST.out).cell rfl
        have d17 : wr.cell? ⟨w.heap.size, 17, none⟩ = some (.bool c.set.time.is) := (HC.out ▸ ST.out).cell rfl
        have d18 : wr.cell? ⟨w.heap.size, 18, none⟩ = some (.int .i64 c.set.time.n) := (HC.out ▸ ST.out).cell rfl
        go_wp2_with fail
        go_must (refine (HL.out _).mono ?_)
        rintro e w3 ⟨rfl, b3⟩
        have ST3 := Lib.hid (ST.out.below b3)
        have HB3 := Lib.hid (HB.out.trans (b3.mono HB.out.size))
        clear b3
        go_wp2_with fail
        go_roundw
        case rel => exact ⟨i + 1, hlt, by go_num, by rw [HT3.out], ST3.out, HB3.out⟩
        case measure => simp [intOf]; omega
      · have hgl : fs[i]'hsz = 103 := hgl
        have HL := fun W => ref_opt c.guard hol W
        have hzl : (str ((putOpt c.guard.is c.guard.n).2)).size ≤ 310 := hzl
        have HT2 := HT.out
        change str (wrs (ls.take (i + 1)) c) = u ++ str ((putOpt c.guard.is c.guard.n).2) at HT2
        obtain ⟨v, hv⟩ : ∃ v, v = str ((putOpt c.guard.is c.guard.n).2) := ⟨_, rfl⟩
        rw [← hv] at HL hzl HT2
        have HT3 := Lib.hid HT2
        replace HL := Lib.hid HL
        have hno : ¬ 9223372036854775807 < u.size + v.size := by omega
        clear HT2 HT hv hol
        have d19 : wr.cell? ⟨w.heap.size, 19, none⟩ = some (.bool c.guard.is) := (HC.out ▸ ST.out).cell rfl
        have d20 : wr.cell? ⟨w.heap.size, 20, none⟩ = some (.int .i64 c.guard.n) := (HC.out ▸ ST.out).cell rfl
        go_wp2_with fail
        go_must (refine (HL.out _).mono ?_)
        rintro e w3 ⟨rfl, b3⟩
        have ST3 := Lib.hid (ST.out.below b3)
        have HB3 := Lib.hid (HB.out.trans (b3.mono HB.out.size))
        clear b3
        go_wp2_with fail
        go_roundw
        case rel => exact ⟨i + 1, hlt, by go_num, by rw [HT3.out], ST3.out, HB3.out⟩
        case measure => simp [intOf]; omega
      · have hgl : fs[i]'hsz = 107 := hgl
        have HL := fun W => ref_u64 c.cookie hol W
        have hzl : (str ((putU64 c.cookie).2)).size ≤ 310 := hzl
        have HT2 := HT.out
        change str (wrs (ls.take (i + 1)) c) = u ++ str ((putU64 c.cookie).2) at HT2
        obtain ⟨v, hv⟩ : ∃ v, v = str ((putU64 c.cookie).2) := ⟨_, rfl⟩
        rw [← hv] at HL hzl HT2
        have HT3 := Lib.hid HT2
        replace HL := Lib.hid HL
        have hno : ¬ 9223372036854775807 < u.size + v.size := by omega
        clear HT2 HT hv hol
        have d21 : wr.cell? ⟨w.heap.size, 21, none⟩ = some (.int .i64 c.cookie) := (HC.out ▸ ST.out).cell rfl
        go_wp2_with fail
        go_must (refine (HL.out _).mono ?_)
        rintro e w3 ⟨rfl, b3⟩
        have ST3 := Lib.hid (ST.out.below b3)
        have HB3 := Lib.hid (HB.out.trans (b3.mono HB.out.size))
        clear b3
        go_wp2_with fail
        go_roundw
        case rel => exact ⟨i + 1, hlt, by go_num, by rw [HT3.out], ST3.out, HB3.out⟩
        case measure => simp [intOf]; omega
      · have hgl : fs[i]'hsz = 118 := hgl
        have HL := fun W => ref_u64 c.verf hol W
        have hzl : (str ((putU64 c.verf).2)).size ≤ 310 := hzl
        have HT2 := HT.out
        change str (wrs (ls.take (i + 1)) c) = u ++ str ((putU64 c.verf).2) at HT2
        obtain ⟨v, hv⟩ : ∃ v, v = str ((putU64 c.verf).2) := ⟨_, rfl⟩
        rw [← hv] at HL hzl HT2
        have HT3 := Lib.hid HT2
        replace HL := Lib.hid HL
        have hno : ¬ 9223372036854775807 < u.size + v.size := by omega
        clear HT2 HT hv hol
        have d22 : wr.cell? ⟨w.heap.size, 22, none⟩ = some (.int .i64 c.verf) := (HC.out ▸ ST.out).cell rfl
        go_wp2_with fail
        go_must (refine (HL.out _).mono ?_)
        rintro e w3 ⟨rfl, b3⟩
        have ST3 := Lib.hid (ST.out.below b3)
        have HB3 := Lib.hid (HB.out.trans (b3.mono HB.out.size))
        clear b3
        go_wp2_with fail
        go_roundw
        case rel => exact ⟨i + 1, hlt, by go_num, by rw [HT3.out], ST3.out, HB3.out⟩
        case measure => simp [intOf]; omega
      · have hgl : fs[i]'hsz = 116 := hgl
        have HL := fun W => ref_text c.text _ (by decide) hol W
        have hzl : (str ((putOpaque c.text).2)).size ≤ 310 := hzl
        have HT2 := HT.out
        change str (wrs (ls.take (i + 1)) c) = u ++ str ((putOpaque c.text).2) at HT2
        obtain ⟨v, hv⟩ : ∃ v, v = str ((putOpaque c.text).2) := ⟨_, rfl⟩
        rw [← hv] at HL hzl HT2
        have HT3 := Lib.hid HT2
        replace HL := Lib.hid HL
        have hno : ¬ 9223372036854775807 < u.size + v.size := by omega
        clear HT2 HT hv hol
        have d23 : wr.cell? ⟨w.heap.size, 23, none⟩ = some (.string c.text) := (HC.out ▸ ST.out).cell rfl
        go_wp2_with fail
        go_must (refine (HL.out _).mono ?_)
        rintro e w3 ⟨rfl, b3⟩
        have ST3 := Lib.hid (ST.out.below b3)
        have HB3 := Lib.hid (HB.out.trans (b3.mono HB.out.size))
        clear b3
        go_wp2_with fail
        go_roundw
        case rel => exact ⟨i + 1, hlt, by go_num, by rw [HT3.out], ST3.out, HB3.out⟩
        case measure => simp [intOf]; omega
    · obtain rfl : i = ls.length := by omega
      have hd : decide (ls.length < fs.size) = false := by simp; have := HS.out; omega
      have hd2 : decide ((ls.length : Int) < (fs.size : Int)) = false := by simp; have := HS.out; omega
      have hge : fs.size ≤ ls.length := by have := HS.out; omega
      rw [List.take_length]
      obtain ⟨u, hu⟩ : ∃ u, u = str (wrs ls c) := ⟨_, rfl⟩
      rw [← hu]
      have HU := Lib.hid hu
      clear hu
      go_wp2_with fail
      go_ret
      exact ⟨congrArg (fun x => Ending.returned (.string x)) HU.out, HB.out⟩
end Go.Proofs.YtdjnadgcjmlejaaDoor
