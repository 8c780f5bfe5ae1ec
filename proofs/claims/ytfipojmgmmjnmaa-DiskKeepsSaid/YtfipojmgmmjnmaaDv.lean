/- The law of no disk. -/
import Derived.Test.YtfipojmgmmjnmaaDu
import Derived.Test.YtfipojmgmmjnmaaDt
import Derived.Test.YtfipojmgmmjnmaaCw
namespace Go.Proofs.Ytfipojmgmmjnmaa
open Go.RowKit

/-- One step in a block of its own. -/
theorem steps_one {w : World} {b : Nat} {x : Sp} {kv : Value} (hn : x.num) (h : St 36 b (spcells x kv) w) (hk : Ints (fun j => j < w.heap.size) kv x.keep w) : Steps w.heap.size (.slice (some ⟨b, 0, none⟩) 1 1) [x] w := by
  refine ⟨some ⟨b, 0, none⟩, 1, b, 0, rfl, by simp, fun _ => ⟨rfl, h.lt⟩, fun i y hi => ?_⟩
  have h0 : i = 0 := by have := (List.getElem?_eq_some_iff.1 hi).1; simp at this; omega
  subst h0
  simp at hi
  subst hi
  exact ⟨hn, kv, h.cell rfl, h.cell rfl, h.cell rfl, h.cell rfl, hk⟩
theorem Ints.grow {v : Value} {xs : List Int} {w w' : World} (h : Ints (fun j => j < w.heap.size) v xs w) (b : Below w.heap.size w w') : Ints (fun j => j < w'.heap.size) v xs w' := by
  obtain ⟨ao, cap, bb, off, e1, e2, e3, e4⟩ := h
  refine ⟨ao, cap, bb, off, e1, e2, fun hl => ⟨(e3 hl).1, Nat.lt_of_lt_of_le (e3 hl).2.1 b.size, Nat.lt_of_lt_of_le (e3 hl).2.1 b.size⟩, fun i x hx => ?_⟩
  have hl : 0 < xs.length := by have := (List.getElem?_eq_some_iff.1 hx).1; omega
  exact (b.cell (p := ⟨bb, off + i, none⟩) (e3 hl).2.1).trans (e4 i x hx)

set_option maxRecDepth 100000 in
set_option maxHeartbeats 2000000 in
theorem nil_big (kind i : Int) (s : ByteArray) (keep : List Int) (kv : Value) (made : Bool) (w : World) (hl : largeSp [⟨kind, i, s, keep⟩] = true) (hn : (⟨kind, i, s, keep⟩ : Sp).num) (hk : Ints (fun j => j < w.heap.size) kv keep w) :
    Calls Try.prog 5 #[.agg #[.int .i64 kind, .int .i64 i, .string s, kv], .bool made] w fun e w' => e = .returned (.bool true) ∧ Below w.heap.size w w' := by
  have T0 := St.new w 36 #[.int .i64 kind, .int .i64 i, .string s, kv]
  have b1 : Below w.heap.size w (w.alloc (.cells #[.int .i64 kind, .int .i64 i, .string s, kv] 36 (0, 0))) := (Below.refl _ w).alloc (Nat.le_refl _) _
  have S0 := Lib.hid T0
  have HL := Lib.hid (fun (W : World) (hW : Below w.heap.size w W) (hS : St 36 (w.heap.size + 1) #[.int .i64 kind, .int .i64 i, .string s, kv] W) => (show Calls Try.prog 9 #[.slice (some ⟨w.heap.size + 1, 0, none⟩) 1 1] W fun e w' => e = .returned (.bool true) ∧ W = w' from by
    have h := dkLarge_any W.heap.size _ _ W (steps_one (x := ⟨kind, i, s, keep⟩) hn hS (hk.grow hW)); rw [hl] at h; exact h))
  have B1 := Lib.hid b1
  have B2 := Lib.hid (B1.out.alloc (by simp) (.cells #[.int .i64 kind, .int .i64 i, .string s, kv] 36 (0, 0)))
  have S2 := Lib.hid (show St 36 (w.heap.size + 1) #[.int .i64 kind, .int .i64 i, .string s, kv] ((w.alloc (.cells #[.int .i64 kind, .int .i64 i, .string s, kv] 36 (0, 0))).alloc (.cells #[.int .i64 kind, .int .i64 i, .string s, kv] 36 (0, 0))) from by
    have h := St.new (w.alloc (.cells #[.int .i64 kind, .int .i64 i, .string s, kv] 36 (0, 0))) 36 #[.int .i64 kind, .int .i64 i, .string s, kv]
    rwa [show ((w.alloc (.cells #[.int .i64 kind, .int .i64 i, .string s, kv] 36 (0, 0)))).heap.size = w.heap.size + 1 from by simp] at h)
  clear T0 b1 hn hk hl
  go_enter Try.func5, Try.ntmps5
  go_wp2_with (first
    | ((with_reducible show wpList _ _ _ ({ dst := _, op := .load _ (.tmp 2), .. } :: _) _ _); refine wpList_load_st rfl 36 (.tmp 2) rfl w.heap.size rfl 36 _ S0.out _ Try.underlying36 rfl (by kernel_rfl) ?_)
    | (go_at_call 9; go_must (refine (HL.out _ B2.out S2.out).mono ?_); rintro e1 w1 ⟨rfl, rfl⟩)
    | (go_at_call 10; go_must (refine (dkknown_any _).mono ?_); rintro e2 w2 ⟨rfl, bb⟩; have BB := Lib.hid (B2.out.trans (bb.mono B2.out.size)); clear bb))
  go_ret
  exact ⟨rfl, BB.out⟩
set_option maxRecDepth 100000 in
set_option maxHeartbeats 2000000 in
theorem nil_made (kind i : Int) (s : ByteArray) (keep : List Int) (kv : Value) (w : World) (hl : largeSp [⟨kind, i, s, keep⟩] = false) (hn : (⟨kind, i, s, keep⟩ : Sp).num) (hk : Ints (fun j => j < w.heap.size) kv keep w) :
    Calls Try.prog 5 #[.agg #[.int .i64 kind, .int .i64 i, .string s, kv], .bool true] w fun e w' => e = .returned (.bool true) ∧ Below w.heap.size w w' := by
  have T0 := St.new w 36 #[.int .i64 kind, .int .i64 i, .string s, kv]
  have b1 : Below w.heap.size w (w.alloc (.cells #[.int .i64 kind, .int .i64 i, .string s, kv] 36 (0, 0))) := (Below.refl _ w).alloc (Nat.le_refl _) _
  have S0 := Lib.hid T0
  have HL := Lib.hid (fun (W : World) (hW : Below w.heap.size w W) (hS : St 36 (w.heap.size + 1) #[.int .i64 kind, .int .i64 i, .string s, kv] W) => (show Calls Try.prog 9 #[.slice (some ⟨w.heap.size + 1, 0, none⟩) 1 1] W fun e w' => e = .returned (.bool false) ∧ W = w' from by
    have h := dkLarge_any W.heap.size _ _ W (steps_one (x := ⟨kind, i, s, keep⟩) hn hS (hk.grow hW)); rw [hl] at h; exact h))
  have B1 := Lib.hid b1
  have B2 := Lib.hid (B1.out.alloc (by simp) (.cells #[.int .i64 kind, .int .i64 i, .string s, kv] 36 (0, 0)))
  have S2 := Lib.hid (show St 36 (w.heap.size + 1) #[.int .i64 kind, .int .i64 i, .string s, kv] ((w.alloc (.cells #[.int .i64 kind, .int .i64 i, .string s, kv] 36 (0, 0))).alloc (.cells #[.int .i64 kind, .int .i64 i, .string s, kv] 36 (0, 0))) from by
    have h := St.new (w.alloc (.cells #[.int .i64 kind, .int .i64 i, .string s, kv] 36 (0, 0))) 36 #[.int .i64 kind, .int .i64 i, .string s, kv]
    rwa [show ((w.alloc (.cells #[.int .i64 kind, .int .i64 i, .string s, kv] 36 (0, 0)))).heap.size = w.heap.size + 1 from by simp] at h)
  have B3 := Lib.hid (B2.out.alloc (by simp; omega) (.cells #[.slice none 0 0, .slice none 0 0, .slice none 0 0, .bool false, .int .i64 0, .bool false, .int .i64 0, .int .i64 0] 65 (0, 0)))
  have N3 := Lib.hid (show NoD (.pointer (some ⟨w.heap.size + 1 + 1, 0, none⟩)) ((((w.alloc (.cells #[.int .i64 kind, .int .i64 i, .string s, kv] 36 (0, 0))).alloc (.cells #[.int .i64 kind, .int .i64 i, .string s, kv] 36 (0, 0)))).alloc (.cells #[.slice none 0 0, .slice none 0 0, .slice none 0 0, .bool false, .int .i64 0, .bool false, .int .i64 0, .int .i64 0] 65 (0, 0))) from .inr ⟨_, rfl, by
    have h := St.new ((w.alloc (.cells #[.int .i64 kind, .int .i64 i, .string s, kv] 36 (0, 0))).alloc (.cells #[.int .i64 kind, .int .i64 i, .string s, kv] 36 (0, 0))) 65 #[.slice none 0 0, .slice none 0 0, .slice none 0 0, .bool false, .int .i64 0, .bool false, .int .i64 0, .int .i64 0]
    rwa [show (((w.alloc (.cells #[.int .i64 kind, .int .i64 i, .string s, kv] 36 (0, 0))).alloc (.cells #[.int .i64 kind, .int .i64 i, .string s, kv] 36 (0, 0)))).heap.size = w.heap.size + 1 + 1 from by simp] at h⟩)
  have S3 := Lib.hid ((S0.out.alloc (.cells #[.int .i64 kind, .int .i64 i, .string s, kv] 36 (0, 0))).alloc (.cells #[.slice none 0 0, .slice none 0 0, .slice none 0 0, .bool false, .int .i64 0, .bool false, .int .i64 0, .int .i64 0] 65 (0, 0)))
  have HDo := Lib.hid (fun (W : World) (hW : Below w.heap.size w W) (hd : NoD (.pointer (some ⟨w.heap.size + 1 + 1, 0, none⟩)) W) => (show Calls Try.prog 14 #[.pointer (some ⟨w.heap.size + 1 + 1, 0, none⟩), .agg #[.int .i64 kind, .int .i64 i, .string s, kv]] W fun e w' => e = .returned (.tuple #[.string ⟨#[]⟩, .int .i64 1]) ∧ Below w.heap.size w w' ∧ NoD (.pointer (some ⟨w.heap.size + 1 + 1, 0, none⟩)) w' from
    (dkdo_none (.pointer (some ⟨w.heap.size + 1 + 1, 0, none⟩)) kv ⟨kind, i, s, keep⟩ W (by have := not_large hl 0 _ rfl; omega) (hk.grow hW) hd).mono fun e w' ⟨he, hb⟩ => ⟨he, hW.trans (hb.mono hW.size), hd.below hb⟩))
  clear T0 b1 hn hk hl B1
  go_enter Try.func5, Try.ntmps5
  go_wp2_with (first
    | ((with_reducible show wpList _ _ _ ({ dst := some 10, op := .load _ (.tmp 2), .. } :: _) _ _); refine wpList_load_st rfl 36 (.tmp 2) rfl w.heap.size rfl 36 _ S0.out _ Try.underlying36 rfl (by kernel_rfl) ?_)
    | ((with_reducible show wpList _ _ _ ({ dst := some 19, op := .load _ (.tmp 2), .. } :: _) _ _); refine wpList_load_st rfl 36 (.tmp 2) rfl w.heap.size rfl 36 _ S3.out _ Try.underlying36 rfl (by kernel_rfl) ?_)
    | (go_at_call 9; go_must (refine (HL.out _ B2.out S2.out).mono ?_); rintro e1 w1 ⟨rfl, rfl⟩)
    | (go_at_call 14; go_must (refine (HDo.out _ B3.out N3.out).mono ?_); rintro e2 w2 ⟨rfl, b4, n4⟩; have B4 := Lib.hid b4; have N4 := Lib.hid n4; clear b4 n4)
    | (go_at_call 16; go_must (refine (dCount_no _ _ N4.out).mono ?_); rintro e3 w3 ⟨rfl, q3, rfl⟩; have N5 := Lib.hid (N4.out.below (below_drewN (Below.refl _ _) q3)); have B5 := Lib.hid (below_drewN B4.out q3))
    | (go_at_call 12; go_must (refine (dSize_no _ _ N5.out).mono ?_); rintro e4 w4 ⟨rfl, rfl⟩)
    | (go_at_call 17; go_must (refine (dDead_no _ _ N5.out).mono ?_); rintro e5 w5 ⟨rfl, rfl⟩)
    | (go_at_call 18; go_must (refine (dWaiting_no _ _ N5.out).mono ?_); rintro e6 w6 ⟨rfl, rfl⟩)
    | (go_at_call 20; go_must (refine (dImage_no _ _ N5.out).mono ?_); rintro e7 w7 ⟨⟨io, ic, rfl⟩, b7⟩; have B7 := Lib.hid (B5.out.trans (b7.mono B5.out.size)); clear b7)
    | (go_at_call 10; go_must (refine (dkknown_any _).mono ?_); rintro e8 w8 ⟨rfl, b8⟩; have B8 := Lib.hid (B7.out.trans (b8.mono B7.out.size)); clear b8))
  go_ret
  exact ⟨rfl, B8.out⟩
set_option maxRecDepth 100000 in
set_option maxHeartbeats 2000000 in
theorem nil_none (kind i : Int) (s : ByteArray) (keep : List Int) (kv : Value) (w : World) (hl : largeSp [⟨kind, i, s, keep⟩] = false) (hn : (⟨kind, i, s, keep⟩ : Sp).num) (hk : Ints (fun j => j < w.heap.size) kv keep w) :
    Calls Try.prog 5 #[.agg #[.int .i64 kind, .int .i64 i, .string s, kv], .bool false] w fun e w' => e = .returned (.bool true) ∧ Below w.heap.size w w' := by
  have T0 := St.new w 36 #[.int .i64 kind, .int .i64 i, .string s, kv]
  have b1 : Below w.heap.size w (w.alloc (.cells #[.int .i64 kind, .int .i64 i, .string s, kv] 36 (0, 0))) := (Below.refl _ w).alloc (Nat.le_refl _) _
  have S0 := Lib.hid T0
  have HL := Lib.hid (fun (W : World) (hW : Below w.heap.size w W) (hS : St 36 (w.heap.size + 1) #[.int .i64 kind, .int .i64 i, .string s, kv] W) => (show Calls Try.prog 9 #[.slice (some ⟨w.heap.size + 1, 0, none⟩) 1 1] W fun e w' => e = .returned (.bool false) ∧ W = w' from by
    have h := dkLarge_any W.heap.size _ _ W (steps_one (x := ⟨kind, i, s, keep⟩) hn hS (hk.grow hW)); rw [hl] at h; exact h))
  have B1 := Lib.hid b1
  have B2 := Lib.hid (B1.out.alloc (by simp) (.cells #[.int .i64 kind, .int .i64 i, .string s, kv] 36 (0, 0)))
  have S2 := Lib.hid (show St 36 (w.heap.size + 1) #[.int .i64 kind, .int .i64 i, .string s, kv] ((w.alloc (.cells #[.int .i64 kind, .int .i64 i, .string s, kv] 36 (0, 0))).alloc (.cells #[.int .i64 kind, .int .i64 i, .string s, kv] 36 (0, 0))) from by
    have h := St.new (w.alloc (.cells #[.int .i64 kind, .int .i64 i, .string s, kv] 36 (0, 0))) 36 #[.int .i64 kind, .int .i64 i, .string s, kv]
    rwa [show ((w.alloc (.cells #[.int .i64 kind, .int .i64 i, .string s, kv] 36 (0, 0)))).heap.size = w.heap.size + 1 from by simp] at h)
  have B3 := B2
  have N3 := Lib.hid (show NoD (.pointer none) ((w.alloc (.cells #[.int .i64 kind, .int .i64 i, .string s, kv] 36 (0, 0))).alloc (.cells #[.int .i64 kind, .int .i64 i, .string s, kv] 36 (0, 0))) from .inl rfl)
  have S3 := Lib.hid (S0.out.alloc (.cells #[.int .i64 kind, .int .i64 i, .string s, kv] 36 (0, 0)))
  have HDo := Lib.hid (fun (W : World) (hW : Below w.heap.size w W) (hd : NoD (.pointer none) W) => (show Calls Try.prog 14 #[.pointer none, .agg #[.int .i64 kind, .int .i64 i, .string s, kv]] W fun e w' => e = .returned (.tuple #[.string ⟨#[]⟩, .int .i64 1]) ∧ Below w.heap.size w w' ∧ NoD (.pointer none) w' from
    (dkdo_none (.pointer none) kv ⟨kind, i, s, keep⟩ W (by have := not_large hl 0 _ rfl; omega) (hk.grow hW) hd).mono fun e w' ⟨he, hb⟩ => ⟨he, hW.trans (hb.mono hW.size), hd.below hb⟩))
  clear T0 b1 hn hk hl B1
  go_enter Try.func5, Try.ntmps5
  go_wp2_with (first
    | ((with_reducible show wpList _ _ _ ({ dst := some 10, op := .load _ (.tmp 2), .. } :: _) _ _); refine wpList_load_st rfl 36 (.tmp 2) rfl w.heap.size rfl 36 _ S0.out _ Try.underlying36 rfl (by kernel_rfl) ?_)
    | ((with_reducible show wpList _ _ _ ({ dst := some 19, op := .load _ (.tmp 2), .. } :: _) _ _); refine wpList_load_st rfl 36 (.tmp 2) rfl w.heap.size rfl 36 _ S3.out _ Try.underlying36 rfl (by kernel_rfl) ?_)
    | (go_at_call 9; go_must (refine (HL.out _ B2.out S2.out).mono ?_); rintro e1 w1 ⟨rfl, rfl⟩)
    | (go_at_call 14; go_must (refine (HDo.out _ B3.out N3.out).mono ?_); rintro e2 w2 ⟨rfl, b4, n4⟩; have B4 := Lib.hid b4; have N4 := Lib.hid n4; clear b4 n4)
    | (go_at_call 16; go_must (refine (dCount_no _ _ N4.out).mono ?_); rintro e3 w3 ⟨rfl, q3, rfl⟩; have N5 := Lib.hid (N4.out.below (below_drewN (Below.refl _ _) q3)); have B5 := Lib.hid (below_drewN B4.out q3))
    | (go_at_call 12; go_must (refine (dSize_no _ _ N5.out).mono ?_); rintro e4 w4 ⟨rfl, rfl⟩)
    | (go_at_call 17; go_must (refine (dDead_no _ _ N5.out).mono ?_); rintro e5 w5 ⟨rfl, rfl⟩)
    | (go_at_call 18; go_must (refine (dWaiting_no _ _ N5.out).mono ?_); rintro e6 w6 ⟨rfl, rfl⟩)
    | (go_at_call 20; go_must (refine (dImage_no _ _ N5.out).mono ?_); rintro e7 w7 ⟨⟨io, ic, rfl⟩, b7⟩; have B7 := Lib.hid (B5.out.trans (b7.mono B5.out.size)); clear b7)
    | (go_at_call 10; go_must (refine (dkknown_any _).mono ?_); rintro e8 w8 ⟨rfl, b8⟩; have B8 := Lib.hid (B7.out.trans (b8.mono B7.out.size)); clear b8))
  go_ret
  exact ⟨rfl, B8.out⟩
theorem nil_any (x : Sp) (kv : Value) (made : Bool) (w : World) (hn : x.num) (hk : Ints (fun j => j < w.heap.size) kv x.keep w) :
    Calls Try.prog 5 #[.agg (spcells x kv), .bool made] w fun e w' => e = .returned (.bool true) ∧ Below w.heap.size w w' := by
  obtain ⟨kind, i, s, keep⟩ := x
  cases hl : largeSp [⟨kind, i, s, keep⟩] with
  | true => exact nil_big kind i s keep kv made w hl hn hk
  | false =>
    cases made with
    | true => exact nil_made kind i s keep kv w hl hn hk
    | false => exact nil_none kind i s keep kv w hl hn hk
end Go.Proofs.Ytfipojmgmmjnmaa
