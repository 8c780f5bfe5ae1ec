/- Messages: the program's Put. -/
import Derived.Test.YtimbcombhdgjiaaDoorMv
import Derived.Test.YtimbcombhdgjiaaDoorWm
import Derived.Test.YtimbcombhdgjiaaDoorXk
namespace Go.Proofs.YtimbcombhdgjiaaDoor
open Go.RowKit
set_option linter.unusedSimpArgs false
set_option linter.unusedVariables false

theorem mgHead_vals {m : Mg} (h : okMg m = true) : ∀ v ∈ mgHead m, 0 ≤ v ∧ v ≤ 4294967295 := by
  obtain ⟨xid, ans, again, proc, client, seq, uid, gid, accept, body⟩ := m
  cases ans
  · obtain ⟨⟨x0, x1⟩, hb, hb2, ⟨p0, p1⟩, ho, a0, a1⟩ := (okMg_call rfl).1 h
    obtain ⟨⟨c0, c1⟩, ⟨s0, s1⟩, ⟨u0, u1⟩, ⟨g0, g1⟩⟩ := (okOwner_iff _ _ _ _).1 ho
    dsimp only at *
    simp only [mgHead, Bool.false_eq_true, if_false, List.forall_mem_cons]
    exact ⟨by omega, by omega, by omega, by omega, by omega, by omega, by omega, by omega, by omega, by omega, by omega, by omega, by omega, by omega, fun _ h => by cases h⟩
  · obtain ⟨⟨x0, x1⟩, hb, hb2, _, _, _, _, _, ⟨c0, c1⟩, ho⟩ := (okMg_ans rfl).1 h
    dsimp only at *
    simp only [mgHead, if_true, List.forall_mem_cons]
    exact ⟨by omega, by omega, by omega, by cases again <;> simp, by omega, by omega, fun _ h => by cases h⟩
theorem okMg_body {m : Mg} (h : okMg m = true) : m.body.size ≤ 2024 ∧ m.body.size % 4 = 0 := by
  obtain ⟨xid, ans, again, proc, client, seq, uid, gid, accept, body⟩ := m
  cases ans
  · have := (okMg_call rfl).1 h
    dsimp only at this ⊢
    omega
  · have := (okMg_ans rfl).1 h
    dsimp only at this ⊢
    omega
/-- A block beside a writer's two. -/
theorem Wrote.beside {k b : Nat} {T : TypeId} {cs : Array Value} {r : Option Nat} {w w' : World} (hk : Keep k r w w') (h : St T b cs w) (hb : b ≠ k) (hr : ∀ j, r = some j → b < j) : St T b cs w' :=
  St.keep h hk hb (fun e => by have := hr b e.symm; omega)

set_option maxRecDepth 100000 in
set_option maxHeartbeats 2000000 in
theorem mPut_not (m : Mg) (w : World) (hm : m.body.size ≤ 3000) (hk : okMg m = false) : Calls Tryd.prog 7 #[.agg m.arr] w fun e w' => e = .returned (.tuple #[.string ⟨#[]⟩, .int .i64 14]) ∧ Below w.heap.size w w' := by
  have HC := fun w => rcCheck_any m w hm
  rw [hk] at HC
  simp only [Bool.false_eq_true, if_false] at HC
  have h3 : m.arr.size = 10 := rfl
  obtain ⟨row, hrow⟩ : ∃ row, row = m.arr := ⟨_, rfl⟩
  rw [← hrow] at HC h3 ⊢
  have S0 := Lib.hid (St.new w 25 row)
  have L0 := Lib.hid (below_one w (.cells row 25 (0, 0)))
  have H3 := Lib.hid h3
  replace HC := Lib.hid HC
  clear hrow h3 hk hm
  go_enter Tryd.func7, Tryd.ntmps7
  go_wp2_with (first
    | (go_at_call 9; go_must (refine (HC.out _).mono ?_); rintro e w1 ⟨rfl, b1⟩; have L1 := Lib.hid (L0.out.trans (b1.mono L0.out.size)); clear b1)
    | ((with_reducible show wpList _ _ _ ({ dst := _, op := .load 25 (.tmp 1), type := _, pos := _, after := _, guard := _ } :: _) _ _); refine wpList_load_stg (by rfl) 25 _ rfl w.heap.size rfl 25 row S0.out _ Tryd.underlying25 rfl (by rw [H3.out]; kernel_rfl) ?_))
  go_ret2
  exact ⟨rfl, L1.out⟩

set_option maxRecDepth 100000 in
set_option maxHeartbeats 4000000 in
theorem mPut_good (m : Mg) (w : World) (hk : okMg m = true) : Calls Tryd.prog 7 #[.agg m.arr] w fun e w' => e = .returned (.tuple #[.string (str (mgBytes m)), .int .i64 0]) ∧ Below w.heap.size w w' := by
  obtain ⟨hm, hm4⟩ := okMg_body hk
  have hv := mgHead_vals hk
  have hl : (mgHead m).length ≤ 14 := by rw [mgHead_len]; split <;> omega
  have HC := fun w => rcCheck_any m w (by omega)
  rw [hk] at HC
  simp only [if_true] at HC
  have HH := fun w => rchead_any m w
  have h3 : m.arr.size = 10 := rfl
  have r9 : m.arr[9]? = some (.string m.body) := rfl
  have hp : putFixed m.body = (0, m.body.data.toList) := by
    unfold putFixed padded
    rw [if_neg (by omega), show padN m.body.size = 0 from by unfold padN; omega]
    simp
  unfold mgBytes
  obtain ⟨l, hl0⟩ : ∃ l, l = mgHead m := ⟨_, rfl⟩
  obtain ⟨body, hbd⟩ : ∃ x, x = m.body := ⟨_, rfl⟩
  obtain ⟨row, hrow⟩ : ∃ row, row = m.arr := ⟨_, rfl⟩
  rw [← hrow] at HC HH h3 r9 ⊢
  rw [← hl0] at HH hl hv ⊢
  rw [← hbd] at r9 hp hm ⊢
  have S0 := Lib.hid (St.new w 25 row)
  have L0 := Lib.hid (below_one w (.cells row 25 (0, 0)))
  have H3 := Lib.hid h3
  have R9 := Lib.hid r9
  have HP := Lib.hid hp
  have HV := Lib.hid hv
  have HL := Lib.hid hl
  have HM := Lib.hid hm
  replace HC := Lib.hid HC
  replace HH := Lib.hid HH
  clear hl0 hbd hrow h3 r9 hp hk hm hm4 hv hl
  go_enter Tryd.func7, Tryd.ntmps7
  go_wp2_with (first
    | (go_at_call 9; go_must (refine (HC.out _).mono ?_); rintro e w1 ⟨rfl, b1⟩; have S1 := Lib.hid (S0.out.below b1); have L1 := Lib.hid (L0.out.trans (b1.mono L0.out.size)); have X1 := Lib.hid (show Wr 41 5 w1.heap.size none [] (w1.alloc (.cells #[.slice none 0 0] 41)) from wr_new); have S2 := Lib.hid (S1.out.alloc (.cells #[.slice none 0 0] 41)); have L2 := Lib.hid (L1.out.alloc L1.out.size (.cells #[.slice none 0 0] 41)); clear b1)
    | (go_at_call 14; go_must (refine (HH.out _).mono ?_); rintro e w3 ⟨b, hbb, rfl, hst, b3⟩; have S3 := Lib.hid (S2.out.below b3); have X3 := Lib.hid (X1.out.below b3); have L3 := Lib.hid (L2.out.trans (b3.mono L2.out.size)); have T3 := Lib.hid hst; have BB := Lib.hid hbb; clear b3 hst hbb)
    | ((with_reducible show wpList _ _ _ ({ dst := _, op := .load 25 (.tmp 1), type := _, pos := _, after := _, guard := _ } :: _) _ _); refine wpList_load_stg (by rfl) 25 _ rfl w.heap.size rfl 25 row (by first | exact S2.out | exact S0.out) _ Tryd.underlying25 rfl (by rw [H3.out]; kernel_rfl) ?_))
  have hbk : w.heap.size < w1.heap.size := S1.out.lt
  have hkb : w1.heap.size < b := by have := BB.out; simp at this; omega
  have HBK := Lib.hid hbk
  have HKB := Lib.hid hkb
  clear hbk hkb
  go_loopw [18] (fun i wr => ∃ j : Nat, j ≤ l.length ∧ i = .int .i64 j ∧ ∃ r, Wr 41 5 w1.heap.size r (words (l.take j)) wr ∧ (∀ x, r = some x → b < x) ∧ St 3 b (vals l) wr ∧ St 25 w.heap.size row wr ∧ Below w.heap.size w wr) (fun i _ => l.length - (intOf i).toNat)
  case atStart => exact ⟨0, Nat.zero_le _, rfl, none, X3.out, (fun _ e => by cases e), T3.out, S3.out, L3.out⟩
  case round =>
    obtain ⟨j, hj, rfl, r, hx, hr, ht, hs, hb⟩ := hrel
    have hll := HL.out
    by_cases hlt : j < l.length
    · obtain ⟨v, hv⟩ : ∃ v, l[j]? = some v := ⟨_, List.getElem?_eq_getElem hlt⟩
      obtain ⟨v0, v1⟩ := HV.out v (List.mem_of_getElem? hv)
      have cv := ht.cell (vals_at hv)
      have hnx := words_next l j v hv
      have hxl : (words (l.take j)).length ≤ 1073741824 := by rw [words_len, List.length_take]; omega
      have hput : putU32 v = (0, be 4 v.toNat) := by unfold putU32; rw [if_neg (by omega)]
      have HW := Lib.hid (wU32_any w1.heap.size r (words (l.take j)) v wr hxl hx)
      rw [hput] at HW
      have b0 : (0 : Int) ≤ (j : Int) := by omega
      have b1 : (j : Int) < (l.length : Int) := by omega
      have hd : decide ((j : Int) < (l.length : Int)) = true := by simpa using hlt
      have hw1 : IntKind.i64.wrap ((j : Int) + 1) = (j : Int) + 1 := by rw [IntKind.wrap_i64]; omega
      have HN := Lib.hid hnx
      have HB := Lib.hid hb
      have HS := Lib.hid hs
      have HT := Lib.hid ht
      have HR := Lib.hid hr
      clear hnx hb hs ht hr v0 v1 hv hx hput hxl
      go_wp2_with (go_at_call 15; go_must (refine HW.out.mono ?_); rintro e w4 ⟨rfl, hwr⟩; have GW := Lib.hid hwr; clear hwr)
      go_roundw
      case rel =>
        obtain ⟨r', hx', hk', hr'⟩ := GW.out
        have hkb := HKB.out
        have hbk := HBK.out
        have hsz := (HT.out).lt
        refine ⟨j + 1, hlt, by go_num, r', by rw [HN.out]; exact hx', ?_, St.keep HT.out hk' (by omega) (fun e => by have := HR.out b e.symm; omega), St.keep HS.out hk' (by omega) (fun e => by have := HR.out _ e.symm; omega), HB.out.trans (hk'.below (by omega) HB.out.size (fun x e => by have := HR.out x e; omega))⟩
        rintro x rfl
        rcases hr' with h | ⟨y, h, hy⟩
        · exact HR.out x h.symm
        · cases h; omega
      case measure => simp [intOf]; omega
    · obtain rfl : j = l.length := by omega
      rw [List.take_length] at hx
      have hd : decide ((l.length : Int) < (l.length : Int)) = false := by simp
      have hxl : (words l).length ≤ 1073741824 := by rw [words_len]; omega
      have HF := wFixed_any w1.heap.size r (words l) body wr hxl hx
      rw [HP.out] at HF
      replace HF := Lib.hid HF
      have c9 := hs.cell R9.out
      have HB := Lib.hid hb
      have HR := Lib.hid hr
      clear hb hs ht hr hx hxl
      go_wp2_with (first
        | (go_at_call 16; go_must (refine HF.out.mono ?_); rintro e w4 ⟨rfl, r4, x4, k4, hr4⟩; have X4 := Lib.hid x4; have K4 := Lib.hid k4; clear x4 k4 hr4)
        | (go_at_call 17; go_must (refine (wText_any w1.heap.size r4 _ _ X4.out).mono ?_); rintro e w5 ⟨rfl, rfl⟩))
      go_ret2
      have hkb := HKB.out
      have hbk := HBK.out
      exact ⟨rfl, HB.out.trans (K4.out.below (by omega) HB.out.size (fun x e => by have := HR.out x e; omega))⟩

theorem mPut_any (m : Mg) (w : World) (hm : m.body.size ≤ 3000) : Calls Tryd.prog 7 #[.agg m.arr] w fun e w' => e = .returned (.tuple #[.string (if okMg m then str (mgBytes m) else ⟨#[]⟩), .int .i64 (if okMg m then 0 else 14)]) ∧ Below w.heap.size w w' := by
  cases hk : okMg m
  · simpa using mPut_not m w hm hk
  · simpa using mPut_good m w hk
end Go.Proofs.YtimbcombhdgjiaaDoor
