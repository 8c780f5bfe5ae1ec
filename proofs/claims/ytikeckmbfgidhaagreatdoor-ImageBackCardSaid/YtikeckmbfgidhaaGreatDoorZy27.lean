/- Several texts in one: Ic Id Ie If Ig Ih Ii Ij Ik. -/
import Derived.Test.YtikeckmbfgidhaaGreatDoorZy25
import Derived.Test.YtikeckmbfgidhaaGreatDoorZy26
/- Texts in areas of a disk: the program's bytes of a text, and the text of bytes. -/
namespace Go.Proofs.YtikeckmbfgidhaaGreatDoor
open Go.RowKit

/-- A block of bytes. -/
def RB (b : Nat) (X : ByteArray) (w : World) : Prop := St 5 b (tb X).toArray w
theorem tb_at (X : ByteArray) (j : Nat) (h : j < X.size) : (tb X)[j]? = some (.int .u8 (X[j].toNat : Int)) := by
  have hj : j < X.data.toList.length := by simpa using h
  unfold tb bc
  rw [List.getElem?_map, List.getElem?_eq_getElem hj]
  simp
  rfl
theorem RB.conv {b : Nat} {X : ByteArray} {w : World} (h : RB b X w) (o n cap : Nat) (hn : o + n ≤ X.size) : (convert 54 9 (.slice (some ⟨b, o, none⟩) n cap)).run Tryz.prog w = .ok (.string (X.extract o (o + n))) w := by
  have hz : (X.extract o (o + n)).size = n := by rw [ByteArray.size_extract]; omega
  have hl : (X.extract o (o + n)).data.toList.length = n := by rw [← Lib.size_eq]; exact hz
  have hr := run_convert_bytes_back (P := Tryz.prog) w 54 9 5 ⟨b, o, none⟩ cap (X.extract o (o + n)).data.toList Tryz.underlying54 Tryz.underlying5 Tryz.underlying9 (fun j hj => by
    have hj2 : o + j < X.size := by omega
    have hc := St.cell h (j := o + j) (v := .int .u8 (X[o + j].toNat : Int)) (by rw [List.getElem?_toArray]; exact tb_at X (o + j) hj2)
    rw [Addr.add_mid, hc]
    simp [ByteArray.data_extract]
    rfl)
  rw [hl] at hr
  exact hr
theorem RB.below {b : Nat} {X : ByteArray} {w w' : World} (h : RB b X w) (hb : Below w.heap.size w w') : RB b X w' := St.below h hb
theorem RB.all {b : Nat} {X : ByteArray} {w : World} (h : RB b X w) (n : Nat) (hn : n = X.size) (cap : Nat) : (convert 54 9 (.slice (some ⟨b, 0, none⟩) n cap)).run Tryz.prog w = .ok (.string X) w := by
  subst hn
  have e : X.extract 0 X.size = X := by
    apply ByteArray.ext
    rw [ByteArray.data_extract]
    exact Array.extract_size
  have := h.conv 0 X.size cap (by omega)
  rw [Nat.zero_add, e] at this
  exact this

set_option maxRecDepth 100000 in
theorem bEqual_any (b c m n k l : Nat) (x y : ByteArray) (w : World) (hx : RB b x w) (hy : RB c y w) (hm : m = x.size) (hn : n = y.size) :
    Calls Tryz.prog 44 #[.slice (some ⟨b, 0, none⟩) m k, .slice (some ⟨c, 0, none⟩) n l] w fun e w' => e = .returned (.bool (decide (x = y))) ∧ w = w' := by
  have h1 := hx.all m hm k
  have h2 := hy.all n hn l
  clear hx hy hm hn
  by_cases h : x = y
  · subst h
    rw [decide_eq_true rfl]
    go_enter Tryz.func44, Tryz.ntmps44
    go_wp2
    go_ret
    exact ⟨rfl, rfl⟩
  · have hb : (x.toList == y.toList) = false := by rw [toList_eq]; exact decide_eq_false h
    rw [decide_eq_false h]
    go_enter Tryz.func44, Tryz.ntmps44
    go_wp2
    go_ret
    exact ⟨rfl, rfl⟩

theorem Wrote.later {T E : TypeId} {k : Nat} {r : Option Nat} {ys : List UInt8} {a b c : World} (h : Wrote T E k r ys a b) (hb : Below b.heap.size b c) : Wrote T E k r ys a c := by
  obtain ⟨r1, x1, k1, q1⟩ := h
  refine ⟨r1, x1.below hb, ⟨hb.os.trans k1.os, hb.tape.trans k1.tape, hb.output.trans k1.output, Nat.le_trans k1.size hb.size, fun j hj hk hr => (hb.block j (Nat.lt_of_lt_of_le hj k1.size)).trans (k1.block j hj hk hr)⟩, q1⟩
theorem putU32_nat (n : Nat) (h : n ≤ 4294967295) : putU32 (n : Int) = (0, be 4 n) := by
  unfold putU32
  rw [if_neg (by omega)]
  rfl
theorem stB_cells (s : ByteArray) : setMany (tb (noughts (128 * secN s.size))) 0 (tb (str (stHead s))) = tb (stB s) := by
  have hl := stHead_len s
  have hp := padN_lt s.size
  have hle : (stHead s).length ≤ 128 * secN s.size := by rw [hl]; unfold secN padN; omega
  unfold stB
  have e : noughts (128 * secN s.size) = noughts (stHead s).length ++ noughts (128 * secN s.size - (stHead s).length) := by rw [← noughts_add]; congr 1; omega
  rw [e, tb_append, tb_append]
  have h := setMany_mid (tb (str (stHead s))) (tb (noughts (stHead s).length)) [] (tb (noughts (128 * secN s.size - (stHead s).length))) (by rw [tb_length, tb_length, noughts_size, str_size])
  exact h
theorem infoU8i : (Tryz.prog.info? 5).map (fun i => (i.zero, i.size, i.bytes)) = some (some (.int .u8 0), 1, 1) := by kernel_rfl
theorem made_noughts (n : Nat) : madeCells #[Value.int .u8 0] n = (tb (noughts n)).toArray := by
  apply Array.toList_inj.1
  rw [toList_madeCells_one, tb_noughts]
theorem wpList_mks {P : Program} {ops : Array Oper} {rest : List Oper} {o : Oper} {a : Act} {w : World} {Q : Exit → Act → World → Prop} (hgd : o.guard = none) (t e : TypeId) (x y : Operand) (ho : o.op = .makeSlice t x y) (i : TypeInfo) (z : Value) (size : Nat)
    (ht : P.underlying t = some (.slice e)) (hi : P.info? e = some i) (hz : i.zero = some z) (hs : i.size = size) (n : Nat) (hx : a.eval x = .int .i64 (n : Int)) (hy : a.eval y = .int .i64 (n : Int)) (hbytes : (i.bytes : Int) * n ≤ 281474976710656) (h63 : (n : Int) ≤ 9223372036854775807)
    (h : wpList P ops Q rest (a.put o.dst (.slice (some ⟨w.heap.size, 0, none⟩) n n)) (w.alloc (.cells (madeCells z.cells (n * size)) e))) : wpList P ops Q (o :: rest) a w := by
  subst hs
  refine wpList_plain hgd fun K hK => ?_
  have hrun := run_make (P := P) w t e i z ht hi hz .i64 .i64 n n (by omega) (Int.le_refl _) hbytes h63
  simp only [Int.toNat_natCast] at hrun
  unfold Oper.wp execOp
  simp only [ho, hx, hy, Sem.run_bind, hrun, Result.andThen_ok]
  exact hK _ _ h

theorem wU32_on {k n : Nat} {ys : List UInt8} {W0 W : World} (h : Wrote 68 5 k none ys W0 W) (hl : ys.length ≤ 1073741824) (hn : n ≤ 4294967295) :
    Calls Tryz.prog 34 #[.pointer (some ⟨k, 0, none⟩), .int .i64 n] W fun e W' => e = .returned (.int .i64 0) ∧ Wrote 68 5 k none (ys ++ be 4 n) W0 W' := by
  obtain ⟨r1, x1, k1, q1⟩ := h
  have hw := wU32_any k r1 ys n W hl x1
  rw [putU32_nat n hn] at hw
  exact hw.mono fun e W' h => ⟨h.1, Wrote.trans k1 q1 h.2⟩
theorem wFixed_on {k : Nat} {s : ByteArray} {ys : List UInt8} {W0 W : World} (h : Wrote 68 5 k none ys W0 W) (hl : ys.length ≤ 1073741824) (hs : s.size ≤ 1048576) :
    Calls Tryz.prog 36 #[.pointer (some ⟨k, 0, none⟩), .string s] W fun e W' => e = .returned (.int .i64 0) ∧ Wrote 68 5 k none (ys ++ padded s) W0 W' := by
  obtain ⟨r1, x1, k1, q1⟩ := h
  have hw := wFixed_any k r1 ys s W hl x1
  rw [show putFixed s = (0, padded s) from by unfold putFixed; rw [if_neg (by omega)]] at hw
  exact hw.mono fun e W' h => ⟨h.1, Wrote.trans k1 q1 h.2⟩
theorem wText_on {k : Nat} {ys : List UInt8} {W0 W : World} (h : Wrote 68 5 k none ys W0 W) : Calls Tryz.prog 37 #[.pointer (some ⟨k, 0, none⟩)] W fun e W' => e = .returned (.string (str ys)) ∧ W = W' := by
  obtain ⟨r1, x1, k1, q1⟩ := h
  exact wText_any k r1 ys W x1
theorem Wrote.under {ys : List UInt8} {w w' : World} {o : Obj} (h : Wrote 68 5 w.heap.size none ys (w.alloc o) w') : Below w.heap.size w w' := by
  obtain ⟨r1, x1, k1, q1⟩ := h
  exact new_below rfl k1

set_option maxRecDepth 100000 in
set_option maxHeartbeats 1000000 in
theorem istored_any (s : ByteArray) (w : World) (hs : s.size ≤ 1048576) : Calls Tryz.prog 18 #[.string s] w fun e w' =>
    ∃ b, e = .returned (.slice (some ⟨b, 0, none⟩) (stB s).size (stB s).size) ∧ w.heap.size ≤ b ∧ RB b (stB s) w' ∧ Below w.heap.size w w' := by
  obtain ⟨i0, hi, hz0, hz1, hz2⟩ := info_parts infoU8i
  have hc := (sumOf s).isLt
  have HS := Lib.hid (fun W => sOf_any s W (by omega))
  obtain ⟨c, hce⟩ : ∃ c, c = (sumOf s).toNat := ⟨_, rfl⟩
  unfold uv at HS
  rw [← hce] at hc HS
  obtain ⟨n, hn⟩ : ∃ n, n = s.size := ⟨_, rfl⟩
  have HSec := Lib.hid (fun W => by have h := iSectors_any n W; rw [secI_nat n (by omega)] at h; exact h)
  obtain ⟨m, hm⟩ : ∃ m, m = secN n := ⟨_, rfl⟩
  have hm2 : m ≤ 8193 := by rw [hm, hn]; unfold secN; omega
  rw [← hm] at HSec
  have hcv : IntKind.i64.wrap (c : Int) = (c : Int) := by rw [IntKind.wrap_i64]; omega
  obtain ⟨M, hM⟩ : ∃ M, M = 128 * m := ⟨_, rfl⟩
  have hmul : IntKind.i64.wrap ((m : Int) * 128) = (M : Int) := by rw [IntKind.wrap_i64]; omega
  obtain ⟨T, hT⟩ : ∃ T, T = str (stHead s) := ⟨_, rfl⟩
  have hH : [] ++ be 4 n ++ be 4 c ++ padded s = stHead s := by rw [hn, hce]; rfl
  have hsz := stB_size s
  rw [← hn, ← hm, ← hM] at hsz
  have hTle : T.size ≤ M := by
    have hl := stHead_len s
    rw [hT, str_size, hl, hM, hm, hn]
    unfold secN padN
    omega
  have HQ := Lib.hid (show setMany (tb (noughts M)) 0 (tb T) = tb (stB s) from by rw [hM, hm, hn, hT]; exact stB_cells s)
  have HW1 := Lib.hid (wU32_on (n := n) (show Wrote 68 5 w.heap.size none [] (w.alloc (.cells #[.slice none 0 0] 68)) (w.alloc (.cells #[.slice none 0 0] 68)) from Wrote.refl wr_new) (by simp) (by omega))
  have hd2 : (i0.bytes : Int) * (M : Int) ≤ 281474976710656 := by rw [hz2]; omega
  have hd3 : (M : Int) ≤ 9223372036854775807 := by omega
  have hnn : s.size = n := hn.symm
  have HN := Lib.hid (show s.size ≤ 1048576 ∧ c ≤ 4294967295 from ⟨hs, by omega⟩)
  rw [hsz]
  have HT := Lib.hid (show [] ++ be 4 n ++ be 4 c ++ padded s = stHead s ∧ T = str (stHead s) from ⟨hH, hT⟩)
  have hTle2 := hTle
  have HTL := Lib.hid hTle
  clear hce hn hm hM hs hT hH hsz hTle hTle2
  go_enter Tryz.func18, Tryz.ntmps18
  go_wp2_with (first
    | (go_at_call 34; (with_reducible refine HW1.out.mono ?_); rintro e w1 ⟨rfl, g1⟩; have G1 := Lib.hid g1; clear g1)
    | (go_at_call 35; go_must (refine (HS.out _).mono ?_); rintro e w2 ⟨rfl, b2⟩; have HW2 := Lib.hid (wU32_on (n := c) (G1.out.later b2) (by simp [be_length]) HN.out.2); clear b2)
    | (go_at_call 34; (with_reducible refine HW2.out.mono ?_); rintro e w3 ⟨rfl, g3⟩; have HF := Lib.hid (wFixed_on (s := s) g3 (by simp [be_length]) HN.out.1); clear g3)
    | (go_at_call 36; go_must (refine HF.out.mono ?_); rintro e w4 ⟨rfl, g4⟩; rw [HT.out.1] at g4; have B4 := Lib.hid (Wrote.under g4); have S6 := Lib.hid (show RB w4.heap.size (noughts M) (w4.alloc (.cells (madeCells #[Value.int .u8 0] M) 5 (0, 0))) from by rw [made_noughts]; exact St.new w4 5 _); have HX := Lib.hid (by have h := wText_on (g4.later ((Below.refl _ w4).alloc (Nat.le_refl _) (.cells (madeCells #[Value.int .u8 0] M) 5 (0, 0)))); rw [← HT.out.2] at h; exact h); clear g4)
    | (go_at_call 14; go_must (refine (HSec.out _).mono ?_); rintro e w5 ⟨rfl, rfl⟩)
    | ((with_reducible show wpList _ _ _ ({ dst := _, op := .makeSlice _ _ _, type := _, pos := _, after := _, guard := _ } :: _) _ _); refine wpList_mks rfl 54 5 (.tmp 22) (.tmp 22) rfl i0 (.int .u8 0) 1 Tryz.underlying54 hi hz0 hz1 M rfl rfl hd2 hd3 ?_; rw [Nat.mul_one])
    | (go_at_call 37; go_must (refine HX.out.mono ?_); rintro e w7 ⟨rfl, rfl⟩)
    | ((with_reducible show wpList _ _ _ ({ dst := _, op := .call { callee := .builtin .copy, args := _, argTypes := _ }, type := _, pos := _, after := _, guard := _ } :: _) _ _); refine wpList_copy_str rfl (.tmp 24) (.tmp 26) 54 9 rfl 5 Tryz.underlying54 size_u8 w4.heap.size 0 M M rfl T rfl HTL.out (St.there S6.out 0 _ (by simp [tb_length, noughts_size]; exact HTL.out)) ?_))
  go_ret
  have hR := St.setMany (tb T) 0 _ _ S6.out
  rw [HQ.out] at hR
  exact ⟨w4.heap.size, rfl, B4.out.size, hR, below_setCells B4.out.size (tb T) 0 _ (B4.out.alloc B4.out.size _)⟩
end Go.Proofs.YtikeckmbfgidhaaGreatDoor

/- Texts in areas of a disk: the text of all bytes of its sectors. -/
namespace Go.Proofs.YtikeckmbfgidhaaGreatDoor
open Go.RowKit

/-- The length that bytes begin with. -/
def sizF (X : ByteArray) : Nat := num (X.extract 0 4).data.toList
/-- The text that they may be of. -/
def txS (X : ByteArray) : ByteArray := (rdFixed (sizF X : Int) (X.extract 8 X.size) 0).2.2
def txB (X : ByteArray) : ByteArray × Int := if stB (txS X) = X then (txS X, 0) else (⟨#[]⟩, 14)
theorem txS_le (X : ByteArray) : (txS X).size ≤ sizF X := by
  unfold txS rdFixed
  split
  · exact Nat.zero_le _
  · split
    · exact Nat.zero_le _
    · split
      · exact Nat.zero_le _
      · split
        · exact Nat.zero_le _
        · split
          · exact Nat.zero_le _
          · simp only [Int.toNat_natCast]
            rw [ByteArray.size_extract]
            omega
theorem ext_ext (X : ByteArray) (a b : Nat) : (X.extract a X.size).extract b (X.extract a X.size).size = X.extract (a + b) X.size := by
  apply ByteArray.ext
  rw [ByteArray.size_extract]
  simp only [ByteArray.data_extract, Array.extract_extract]
  by_cases h : a + b ≤ X.size
  · congr 1; omega
  · rw [Array.extract_eq_empty_of_le (by omega), Array.extract_eq_empty_of_le (by omega)]
theorem Took.under {k B : Nat} {s : ByteArray} {e : Int} {v : Value} {w0 w w' : World} {r : Ending} (h : Took k s e v w r w') (hb : Below B w0 w) (hk : B ≤ k) (hs : B ≤ w.heap.size) : r = .returned v ∧ Rd k s e w' ∧ Below B w0 w' :=
  ⟨h.1, h.2.1, hb.trans (h.2.2.below hk hs fun j e => by cases e)⟩

set_option maxRecDepth 100000 in
set_option maxHeartbeats 1000000 in
theorem itext_any (b : Nat) (X : ByteArray) (w : World) (h1 : 8 ≤ X.size) (h2 : X.size ≤ 1073741824) (h3 : sizF X ≤ 1048576) (h : RB b X w) :
    Calls Tryz.prog 23 #[.slice (some ⟨b, 0, none⟩) X.size X.size] w fun e w' => e = .returned (.tuple #[.string (txB X).1, .int .i64 (txB X).2]) ∧ Below w.heap.size w w' := by
  have hcv := h.all X.size rfl X.size
  obtain ⟨z, hz⟩ : ∃ z, z = X.size := ⟨_, rfl⟩
  rw [← hz] at hcv ⊢
  have HZ := Lib.hid (show z = X.size from hz)
  have e1 : rdU32 X 0 = (X.extract 4 X.size, 0, (sizF X : Int)) := by unfold rdU32; rw [if_neg (by simp), if_neg (by omega)]; rfl
  have e2 : ∃ q, rdU32 (X.extract 4 X.size) 0 = (X.extract 8 X.size, 0, q) := ⟨_, by unfold rdU32; rw [if_neg (by simp), if_neg (by rw [ByteArray.size_extract]; omega), ext_ext]⟩
  obtain ⟨q, e2⟩ := e2
  have HA := Lib.hid (fun W (hr : Rd w.heap.size X 0 W) => by have g := rU32_at w.heap.size X 0 W hr; rw [e1] at g; exact g)
  have HB := Lib.hid (fun W (hr : Rd w.heap.size (X.extract 4 X.size) 0 W) => by have g := rU32_at w.heap.size (X.extract 4 X.size) 0 W hr; rw [e2] at g; exact g)
  have HC := Lib.hid (fun W (hr : Rd w.heap.size (X.extract 8 X.size) 0 W) => rFixed_any w.heap.size (sizF X : Int) (X.extract 8 X.size) 0 W (by rw [ByteArray.size_extract]; omega) hr)
  have hts := txS_le X
  have HD := Lib.hid (fun W => istored_any (txS X) W (by omega))
  have HQ := Lib.hid (show (rdFixed (sizF X : Int) (X.extract 8 X.size) 0).2.2 = txS X from rfl)
  unfold txB
  obtain ⟨s, hs⟩ : ∃ s, s = txS X := ⟨_, rfl⟩
  rw [← hs] at HD HQ ⊢
  obtain ⟨n, hn⟩ : ∃ n, n = sizF X := ⟨_, rfl⟩
  rw [← hn] at HA HC HQ
  obtain ⟨X4, hX4⟩ : ∃ Y, Y = X.extract 4 X.size := ⟨_, rfl⟩
  rw [← hX4] at HA HB
  obtain ⟨X8, hX8⟩ : ∃ Y, Y = X.extract 8 X.size := ⟨_, rfl⟩
  rw [← hX8] at HB HC HQ
  obtain ⟨R, hR⟩ : ∃ R, R = rdFixed (n : Int) X8 0 := ⟨_, rfl⟩
  rw [← hR] at HC HQ
  obtain ⟨R1, R2, R3⟩ := R
  obtain rfl : R3 = s := HQ.out
  have H0 := Lib.hid h
  clear h hz h1 h2 h3 e1 e2 hts hs hn hX4 hX8 hR HQ
  by_cases hEq : stB R3 = X
  · have hdE := decide_eq_true hEq
    rw [if_pos hEq]
    have HDE := Lib.hid hdE
    clear hEq hdE
    go_enter Tryz.func23, Tryz.ntmps23
    go_wp2_with (first
      | (go_at_call 21; go_must (refine (rRead_at X _).mono ?_); rintro e w1 ⟨rfl, r1, b1, s1⟩; have HA1 := Lib.hid (HA.out w1 r1); have B1 := Lib.hid b1; clear r1 b1 s1)
      | (go_at_call 22; (with_reducible refine HA1.out.mono ?_); rintro e w2 k2; obtain ⟨rfl, r2, b2⟩ := k2.under B1.out (Nat.le_refl _) B1.out.size; have HB2 := Lib.hid (HB.out w2 r2); have B2 := Lib.hid b2; clear k2 r2 b2)
      | (go_at_call 22; (with_reducible refine HB2.out.mono ?_); rintro e w3 k3; obtain ⟨rfl, r3, b3⟩ := k3.under B2.out (Nat.le_refl _) B2.out.size; have HC3 := Lib.hid (HC.out w3 r3); have B3 := Lib.hid b3; clear k3 r3 b3)
      | (go_at_call 43; go_must (refine HC3.out.mono ?_); rintro e w4 k4; obtain ⟨rfl, r4, b4⟩ := k4.under B3.out (Nat.le_refl _) B3.out.size; have B4 := Lib.hid b4; clear k4 r4 b4)
      | (go_at_call 18; go_must (refine (HD.out _).mono ?_); rintro e w5 ⟨c, rfl, hc, hrb, b5⟩; have B5 := Lib.hid (B4.out.trans (b5.mono B4.out.size)); have HE := Lib.hid (bEqual_any c b (stB R3).size z (stB R3).size z (stB R3) X w5 hrb (H0.out.below B5.out) rfl HZ.out); rw [HDE.out] at HE; clear b5 hrb hc)
      | (go_at_call 44; go_must (refine HE.out.mono ?_); rintro e w6 ⟨rfl, rfl⟩))
    go_ret2
    exact ⟨rfl, B5.out⟩
  · have hdE := decide_eq_false hEq
    rw [if_neg hEq]
    have HDE := Lib.hid hdE
    clear hEq hdE
    go_enter Tryz.func23, Tryz.ntmps23
    go_wp2_with (first
      | (go_at_call 21; go_must (refine (rRead_at X _).mono ?_); rintro e w1 ⟨rfl, r1, b1, s1⟩; have HA1 := Lib.hid (HA.out w1 r1); have B1 := Lib.hid b1; clear r1 b1 s1)
      | (go_at_call 22; (with_reducible refine HA1.out.mono ?_); rintro e w2 k2; obtain ⟨rfl, r2, b2⟩ := k2.under B1.out (Nat.le_refl _) B1.out.size; have HB2 := Lib.hid (HB.out w2 r2); have B2 := Lib.hid b2; clear k2 r2 b2)
      | (go_at_call 22; (with_reducible refine HB2.out.mono ?_); rintro e w3 k3; obtain ⟨rfl, r3, b3⟩ := k3.under B2.out (Nat.le_refl _) B2.out.size; have HC3 := Lib.hid (HC.out w3 r3); have B3 := Lib.hid b3; clear k3 r3 b3)
      | (go_at_call 43; go_must (refine HC3.out.mono ?_); rintro e w4 k4; obtain ⟨rfl, r4, b4⟩ := k4.under B3.out (Nat.le_refl _) B3.out.size; have B4 := Lib.hid b4; clear k4 r4 b4)
      | (go_at_call 18; go_must (refine (HD.out _).mono ?_); rintro e w5 ⟨c, rfl, hc, hrb, b5⟩; have B5 := Lib.hid (B4.out.trans (b5.mono B4.out.size)); have HE := Lib.hid (bEqual_any c b (stB R3).size z (stB R3).size z (stB R3) X w5 hrb (H0.out.below B5.out) rfl HZ.out); rw [HDE.out] at HE; clear b5 hrb hc)
      | (go_at_call 44; go_must (refine HE.out.mono ?_); rintro e w6 ⟨rfl, rfl⟩))
    go_ret2
    exact ⟨rfl, B5.out⟩
end Go.Proofs.YtikeckmbfgidhaaGreatDoor

/- Texts in areas of a disk: the function that yields the sectors' bytes. -/
namespace Go.Proofs.YtikeckmbfgidhaaGreatDoor
open Go.RowKit Go.Shelf
attribute [local go_sem] Oper.semAt_some

set_option maxRecDepth 100000 in
theorem isectors_any (b n k : Nat) (w : World) : Calls Tryz.prog 17 #[.slice (some ⟨b, 0, none⟩) n k] w fun a w' =>
    a = .returned (.func (.func 33) #[] #[.pointer (some ⟨w.heap.size, 0, none⟩)]) ∧ w' = w.alloc (.cells #[.slice (some ⟨b, 0, none⟩) n k] 54 (0, 0)) := by
  have hmf : ∀ (fn : Fn) (first cap : Array Value) (w : World), (Instr.makeFunc fn first cap).run Tryz.prog w = .ok (.func fn first cap) w := fun _ _ _ _ => rfl
  go_enter Tryz.func17, Tryz.ntmps17
  go_wp2
  go_ret
  exact ⟨rfl, rfl⟩

set_option maxRecDepth 100000 in
set_option maxHeartbeats 1000000 in
theorem iiter_any (n : Nat) (hn : 1 ≤ n) (l bx b m : Nat) (hm : m ≤ 8193) (J : Nat → World → Prop) (Jx : World → Prop) (hJ : ∀ k W W', J k W → Frm None1 W W' → J k W') (hJx : ∀ W W', Jx W → Frm None1 W W' → Jx W')
    (hY : ∀ k W1, k < m → J k W1 → YieldAt Fence.wide (n - 1) Tryz.prog l #[.int .i64 (k : Int), .slice (some ⟨b, 128 * k, none⟩) 128 128] W1 fun a W' => (a = .returned (.bool true) ∧ J (k + 1) W' ∧ W'.heap[bx]? = W1.heap[bx]?) ∨ (a = .returned (.bool false) ∧ Jx W'))
    (W : World) (hx : St 54 bx #[.slice (some ⟨b, 0, none⟩) (128 * m) (128 * m)] W) (h0 : J 0 W) :
    CallsIn Fence.wide n Tryz.prog 33 (#[.func (.yield l) #[] #[]] ++ #[.pointer (some ⟨bx, 0, none⟩)]) W fun a W' => (∃ v, a = .returned v) ∧ (J m W' ∨ Jx W') := by
  have HY := Lib.hid hY
  have HJ := Lib.hid hJ
  have HJX := Lib.hid hJx
  have H0 := Lib.hid (And.intro hx h0)
  obtain ⟨M, hM⟩ : ∃ M, M = 128 * m := ⟨_, rfl⟩
  rw [← hM] at hx H0
  have c0 : W.cell? ⟨bx, 0, none⟩ = some (.slice (some ⟨b, 0, none⟩) M M) := hx.cell rfl
  have hq : (M : Int) / 128 = (m : Int) := by omega
  have HM := Lib.hid hM
  clear hY hJ hJx hx h0 hM
  refine callsIn_of_wp Tryz.func33 rfl trivial ?_ rfl
  simp only [Tryz.ntmps33, List.size_toArray, List.length_cons, List.length_nil, Nat.reduceAdd, Nat.reduceSub, Array.replicate_succ, Array.replicate_zero, List.push_toArray, List.append_toArray, List.nil_append, List.cons_append]
  gi_wp2
  gi_loopw [9] (fun v wr => ∃ k : Nat, k ≤ m ∧ v = .int .i64 (k : Int) ∧ St 54 bx #[.slice (some ⟨b, 0, none⟩) M M] wr ∧ J k wr) (fun v _ => m - (intOf v).toNat)
  case atStart => exact ⟨0, Nat.zero_le _, rfl, H0.out⟩
  case round =>
    obtain ⟨k, hk, rfl, hx, hj⟩ := hrel
    have cx : wr.cell? ⟨bx, 0, none⟩ = some (.slice (some ⟨b, 0, none⟩) M M) := hx.cell rfl
    by_cases hlt : k < m
    · have HR := Lib.hid hx
      have hw0 : IntKind.i64.wrap ((k : Int) * 128) = ((128 * k : Nat) : Int) := by rw [IntKind.wrap_i64]; omega
      have hw1 : IntKind.i64.wrap ((k : Int) + 1) = ((k + 1 : Nat) : Int) := by rw [IntKind.wrap_i64]; omega
      have hw2 : IntKind.i64.wrap (((k + 1 : Nat) : Int) * 128) = ((128 * k + 128 : Nat) : Int) := by rw [IntKind.wrap_i64]; omega
      have hd : decide ((k : Int) < (m : Int)) = true := by simpa using hlt
      obtain ⟨fn, tmps, assign, body, hy, hrd⟩ := HY.out k wr hlt hj
      have hy2 : (Instr.yield l #[.int .i64 (k : Int), .slice (some ⟨b, 128 * k, none⟩) ((k + 1) * 128 - 128 * k) ((k + 1) * 128 - 128 * k)]).run Tryz.prog wr = .ok (.round l fn tmps assign body) wr := by rw [show (k + 1) * 128 - 128 * k = 128 from by omega]; exact hy
      have HRD := Lib.hid hrd
      clear hx hj hrd hy
      gi_wp2
      refine HRD.out.mono ?_
      rintro a W3 (⟨rfl, hJ3, hk3⟩ | ⟨rfl, hx3⟩)
      · have HJ3 := Lib.hid hJ3
        have HS3 := Lib.hid (show St 54 bx #[.slice (some ⟨b, 0, none⟩) M M] W3 from hk3.trans HR.out)
        clear hJ3 hk3 cx hy2
        gi_wp2
        go_roundw
        case rel => exact ⟨k + 1, by omega, by go_num, HS3.out, HJ3.out⟩
        case measure => simp [intOf]; omega
      · have HX3 := Lib.hid hx3
        clear hx3 cx hy2
        gi_wp2
        go_returns
        exact ⟨⟨_, rfl⟩, .inr HX3.out⟩
    · obtain rfl : k = m := by omega
      have HJ3 := Lib.hid hj
      clear hx hj
      gi_wp2
      go_end0
      exact ⟨⟨_, rfl⟩, .inl HJ3.out⟩
end Go.Proofs.YtikeckmbfgidhaaGreatDoor

/- Texts in areas of a disk: what Write leaves, plainly. -/
namespace Go.Proofs.YtikeckmbfgidhaaGreatDoor
open Go.RowKit

def partX (X : ByteArray) (k : Nat) : ByteArray := X.extract (128 * k) (128 * k + 128)
theorem partX_size (X : ByteArray) (k : Nat) (h : 128 * k + 128 ≤ X.size) : (partX X k).size = 128 := by unfold partX; rw [ByteArray.size_extract]; omega
/-- Behind so many sectors that are written, or the first error. -/
def wrRes (D : DS) (f : Int) (X : ByteArray) : Nat → Int × DS
  | 0 => (0, D)
  | k + 1 => if (wrRes D f X k).1 = 0 then (wrRes D f X k).2.write (f + k) (partX X k) else wrRes D f X k
theorem wrRes_on (D : DS) (f : Int) (X : ByteArray) (k : Nat) (h : (wrRes D f X k).1 = 0) : wrRes D f X (k + 1) = (wrRes D f X k).2.write (f + k) (partX X k) := by
  rw [wrRes, if_pos h]
theorem wrRes_off (D : DS) (f : Int) (X : ByteArray) (k : Nat) (h : (wrRes D f X k).1 ≠ 0) : ∀ j, wrRes D f X (k + j) = wrRes D f X k
  | 0 => rfl
  | j + 1 => by
    rw [← Nat.add_assoc, wrRes, if_neg (by rw [wrRes_off D f X k h j]; exact h)]
    exact wrRes_off D f X k h j
theorem wrRes_end (D : DS) (f : Int) (X : ByteArray) (k m : Nat) (hk : k ≤ m) (h : (wrRes D f X k).1 ≠ 0) : wrRes D f X m = wrRes D f X k := by
  obtain ⟨j, rfl⟩ := Nat.le.dest hk
  exact wrRes_off D f X k h j
theorem burnt_kept (D : DS) : D.burnt.kept = D.kept ∧ D.burnt.wait = D.wait ∧ D.burnt.wr = D.wr ∧ D.burnt.br = D.br := by
  unfold DS.burnt
  split
  · exact ⟨rfl, rfl, rfl, rfl⟩
  · split <;> exact ⟨rfl, rfl, rfl, rfl⟩
theorem write_small (D : DS) (i : Int) (s : ByteArray) : (D.write i s).2.wait.length ≤ D.wait.length + 1 ∧ (D.write i s).2.wr ≤ D.wr + 1 ∧ (D.write i s).2.kept = D.kept ∧ (D.write i s).2.br = D.br := by
  obtain ⟨b1, b2, b3, b4⟩ := burnt_kept D
  unfold DS.write
  split
  · exact ⟨Nat.le_succ _, Nat.le_succ _, rfl, rfl⟩
  · split
    · exact ⟨Nat.le_succ _, Nat.le_succ _, rfl, rfl⟩
    · split
      · exact ⟨Nat.le_succ _, Nat.le_succ _, rfl, rfl⟩
      · split
        · simp only [b1, b2, b3, b4]; exact ⟨Nat.le_succ _, Nat.le_succ _, trivial, trivial⟩
        · simp only [b1, b4, List.length_append, List.length_cons, List.length_nil]; exact ⟨by omega, by omega, trivial, trivial⟩
theorem wrRes_small (D : DS) (f : Int) (X : ByteArray) : ∀ k, (wrRes D f X k).2.wait.length ≤ D.wait.length + k ∧ (wrRes D f X k).2.wr ≤ D.wr + k ∧ (wrRes D f X k).2.kept = D.kept ∧ (wrRes D f X k).2.br = D.br
  | 0 => ⟨Nat.le_refl _, Nat.le_refl _, rfl, rfl⟩
  | k + 1 => by
    obtain ⟨i1, i2, i3, i4⟩ := wrRes_small D f X k
    rw [wrRes]
    split
    · obtain ⟨s1, s2, s3, s4⟩ := write_small (wrRes D f X k).2 (f + k) (partX X k)
      exact ⟨by omega, by omega, s3.trans i3, s4.trans i4⟩
    · exact ⟨by omega, by omega, i3, i4⟩
/-- What Write does. -/
def imgW (D : DS) (f c : Int) (s : ByteArray) : Int × DS :=
  if outB f c D.kept.length then (3, D) else if holdsB c s.size = false then (31, D) else wrRes D f (stB s) (secN s.size)
theorem outB_false {f c : Int} {n : Nat} (h : outB f c n = false) : 0 ≤ f ∧ 1 ≤ c ∧ f + c ≤ n := by
  unfold outB at h
  simp only [Bool.or_eq_false_iff, decide_eq_false_iff_not] at h
  omega
theorem holdsB_true {c n : Int} (h : holdsB c n = true) : 0 ≤ n ∧ n ≤ 1048576 ∧ 0 < secI n ∧ secI n ≤ c := by
  unfold holdsB at h
  simp only [Bool.and_eq_true, decide_eq_true_eq] at h
  have := secI_pos h.1
  exact ⟨this.1, this.2, h.1, h.2⟩
theorem Frm.aft {F G : Nat → Prop} {a b c : World} (h : Frm F a b) (g : Frm G b c) (hG : ∀ j, j < a.heap.size → G j → F j) : Frm F a c :=
  ⟨g.os.trans h.os, g.tape.trans h.tape, g.output.trans h.output, Nat.le_trans h.size g.size, fun j hj hn => (g.block j (Nat.lt_of_lt_of_le hj h.size) fun e => hn (hG j hj e)).trans (h.block j hj hn)⟩
/-- The blocks of a disk, and those from S + 2 on. -/
def FS (F : Nat → Prop) (S : Nat) (W : World) : Nat → Prop := fun j => F j ∨ (S + 2 ≤ j ∧ j < W.heap.size)
/-- Between two rounds. -/
def WI (B p : Nat) (F : Nat → Prop) (W0 : World) (D : DS) (f : Int) (X : ByteArray) (k : Nat) (W : World) : Prop :=
  (wrRes D f X k).1 = 0 ∧ PD B p (FS F W0.heap.size W) (wrRes D f X k).2 W ∧ Frm F W0 W
/-- Behind an error. -/
def WX (B p : Nat) (F : Nat → Prop) (W0 : World) (r : Nat) (D : DS) (f : Int) (X : ByteArray) (m : Nat) (W : World) : Prop :=
  PD B p (FS F W0.heap.size W) (wrRes D f X m).2 W ∧ Frm (fun j => F j ∨ j = r) W0 W ∧ St 24 r #[.int .i64 (wrRes D f X m).1] W
theorem pd_two {B p : Nat} {F : Nat → Prop} {D : DS} {W0 W W' : World} (hB : B ≤ W0.heap.size) (hF : ∀ j, F j → j < W0.heap.size) (h : PD B p (FS F W0.heap.size W) D W) (g : Frm (Two1 W0.heap.size) W W') : PD B p (FS F W0.heap.size W') D W' := by
  have hw := h.inF
  refine (h.keep g fun j hj e => ?_).wide (fun j hj => ?_) fun j hj => ?_
  · rcases hj with hj | hj
    · have := hF j hj; rcases e with e | e <;> omega
    · rcases e with e | e <;> omega
  · exact hj.imp id fun e => ⟨e.1, Nat.lt_of_lt_of_le e.2 g.size⟩
  · rcases hj with hj | hj
    · have := hw j (.inl hj); exact ⟨this.1, Nat.lt_of_lt_of_le this.2 g.size⟩
    · exact ⟨by omega, hj.2⟩
theorem WI.two {B p : Nat} {F : Nat → Prop} {W0 : World} {D : DS} {f : Int} {X : ByteArray} (hB : B ≤ W0.heap.size) (hF : ∀ j, F j → j < W0.heap.size) (k : Nat) (W W' : World) (h : WI B p F W0 D f X k W) (g : Frm (Two1 W0.heap.size) W W') : WI B p F W0 D f X k W' :=
  ⟨h.1, pd_two hB hF h.2.1 g, h.2.2.aft g fun j hj e => by rcases e with e | e <;> omega⟩
theorem WX.two {B p r : Nat} {F : Nat → Prop} {W0 : World} {D : DS} {f : Int} {X : ByteArray} {m : Nat} (hB : B ≤ W0.heap.size) (hF : ∀ j, F j → j < W0.heap.size) (hr : r < W0.heap.size) (W W' : World) (h : WX B p F W0 r D f X m W) (g : Frm (Two1 W0.heap.size) W W') : WX B p F W0 r D f X m W' :=
  ⟨pd_two hB hF h.1 g, h.2.1.aft g fun j hj e => by rcases e with e | e <;> omega, g.st h.2.2 fun e => by rcases e with e | e <;> omega⟩
/-- A disk at the beginning of the rounds. -/
theorem PD.start {B p : Nat} {F : Nat → Prop} {D : DS} {w W0 : World} (h : PD B p F D w) (b : Below w.heap.size w W0) : PD B p (FS F W0.heap.size W0) D W0 :=
  (h.keep (Frm.of_below (F := None1) b) fun _ _ e => e).wide (fun _ e => .inl e) fun j hj => by
    rcases hj with hj | hj
    · have := h.inF j hj; exact ⟨this.1, Nat.lt_of_lt_of_le this.2 b.size⟩
    · have := b.size; omega
/-- A round of which the write was done. -/
theorem WI.next {B p : Nat} {F : Nat → Prop} {W0 : World} {D : DS} {f : Int} {X : ByteArray} {k : Nat} {V W : World} (hB : B ≤ W0.heap.size) (hF : ∀ j, F j → j < W0.heap.size) (h : WI B p F W0 D f X k V) (h2 : W0.heap.size + 2 ≤ V.heap.size)
    (g : PDid B p (FS F W0.heap.size V) ((wrRes D f X k).2.write (f + k) (partX X k)).2 V W) : PD B p (FS F W0.heap.size W) (wrRes D f X (k + 1)).2 W ∧ Frm F W0 W ∧ W.heap[W0.heap.size]? = V.heap[W0.heap.size]? ∧ W.heap[W0.heap.size + 1]? = V.heap[W0.heap.size + 1]? := by
  have hw := h.2.1.inF
  have out : ∀ j, j = W0.heap.size ∨ j = W0.heap.size + 1 → ¬ FS F W0.heap.size V j → W.heap[j]? = V.heap[j]? := fun j hj hn => g.2.block j (by omega) hn
  rw [wrRes_on D f X k h.1]
  refine ⟨g.1.wide (fun j hj => ?_) (fun j hj => ?_), h.2.2.aft g.2 fun j hj e => ?_, ?_, ?_⟩
  · rcases hj with (hj | hj) | hj
    · exact .inl hj
    · exact .inr ⟨hj.1, Nat.lt_of_lt_of_le hj.2 g.2.size⟩
    · exact .inr ⟨by omega, hj.2⟩
  · rcases hj with hj | hj
    · have := hw j (.inl hj); exact ⟨this.1, Nat.lt_of_lt_of_le this.2 g.2.size⟩
    · exact ⟨by omega, hj.2⟩
  · rcases e with e | e
    · exact e
    · omega
  · refine out _ (.inl rfl) fun e => ?_
    rcases e with e | e
    · have := hF _ e; omega
    · omega
  · refine out _ (.inr rfl) fun e => ?_
    rcases e with e | e
    · have := hF _ e; omega
    · omega
end Go.Proofs.YtikeckmbfgidhaaGreatDoor

/- Texts in areas of a disk: the program's Write. -/
namespace Go.Proofs.YtikeckmbfgidhaaGreatDoor
open Go.RowKit Go.Shelf
attribute [local go_sem] Oper.semAt_some

theorem pdid_below {B p : Nat} {F : Nat → Prop} {D : DS} {w w' : World} (hB : B ≤ w.heap.size) (h : PD B p F D w) (b : Below w.heap.size w w') : PDid B p F D w w' :=
  ⟨(h.keep (Frm.of_below (F := None1) b) fun _ _ e => e).wide (fun _ e => .inl e) fun j hj => by
    rcases hj with hj | hj
    · have := h.inF j hj; exact ⟨this.1, Nat.lt_of_lt_of_le this.2 b.size⟩
    · exact ⟨by omega, hj.2⟩, Frm.of_below b⟩

theorem below3 (w : World) (a b c : Obj) : Below w.heap.size w (((w.alloc a).alloc b).alloc c) := (((Below.refl _ w).alloc (Nat.le_refl _) _).alloc (by simp) _).alloc (by simp; omega) _
theorem pd_set {B p r : Nat} {F : Nat → Prop} {D : DS} {W0 W : World} (hB : B ≤ W0.heap.size) (hr : ¬ F r) (hr2 : r < W0.heap.size) (h : PD B p (FS F W0.heap.size W) D W) (v : Value) : PD B p (FS F W0.heap.size (W.setCell ⟨r, 0, none⟩ v)) D (W.setCell ⟨r, 0, none⟩ v) := by
  have hw := h.inF
  have hs : (W.setCell ⟨r, 0, none⟩ v).heap.size = W.heap.size := by simp [World.setCell]
  refine (h.keep (Frm.setCell (F := fun j => j = r) (Frm.refl _ W) (.inl rfl) v) fun j hj e => ?_).wide (fun j hj => ?_) fun j hj => ?_
  · rcases hj with hj | hj
    · exact hr (by rw [← e]; exact hj)
    · omega
  · exact hj.imp id fun e => ⟨e.1, by rw [hs]; exact e.2⟩
  · rw [hs]
    rcases hj with hj | hj
    · exact hw j (.inl hj)
    · rw [hs] at hj; exact ⟨by omega, hj.2⟩
theorem Frm.put1 (S : Nat) (W : World) (o : Obj) : Frm (fun j => j = S) W (W.putObj S o) := (Frm.refl _ W).grown (grownBy_putObj' W S o) fun r e => by cases e; exact .inl rfl
theorem Frm.two {S : Nat} {W W' : World} (h : Frm (fun j => j = S) W W') : Frm (Two1 S) W W' := h.wide fun _ e => .inl e
theorem pdid_end {B p r : Nat} {F : Nat → Prop} {D : DS} {w W0 W : World} (hB : B ≤ w.heap.size) (bw : Below w.heap.size w W0) (hr : w.heap.size ≤ r) (hr2 : r < W0.heap.size) (hF : ∀ j, F j → B ≤ j ∧ j < w.heap.size)
    (g : PD B p (FS F W0.heap.size W) D W) (gf : Frm (fun j => F j ∨ j = r) W0 W) : PDid B p F D w W := by
  have hs := bw.size
  have hs2 := gf.size
  refine ⟨g.wide (fun j hj => ?_) fun j hj => ?_, (Frm.of_below bw).trans (gf.wide fun j hj => ?_)⟩
  · rcases hj with hj | hj
    · exact .inl hj
    · exact .inr ⟨by omega, hj.2⟩
  · rcases hj with hj | hj
    · have := hF j hj; exact ⟨this.1, by omega⟩
    · exact ⟨by omega, hj.2⟩
  · rcases hj with hj | hj
    · exact .inl hj
    · subst hj; exact .inr ⟨hr, hr2⟩
set_option maxRecDepth 100000 in
theorem iWrite_no (f c : Int) (s : ByteArray) (w : World) : Calls Tryz.prog 7 #[.pointer none, .int .i64 f, .int .i64 c, .string s] w fun e w' => e = .returned (.int .i64 1) ∧ Below w.heap.size w w' := by
  go_enter Tryz.func7, Tryz.ntmps7
  go_wp2_with (go_at_call 15; go_must (refine (irefusal_no f c _).mono ?_); rintro e w1 ⟨rfl, rfl⟩)
  go_returns
  refine ⟨rfl, ?_⟩
  exact below3 w _ _ _
set_option maxRecDepth 100000 in
theorem iWrite_out (B p : Nat) (F : Nat → Prop) (D : DS) (f c : Int) (s : ByteArray) (w : World) (hc : c ≤ 9223372036854775807) (ho : outB f c D.kept.length = true) (h : PD B p F D w) : Calls Tryz.prog 7 #[.pointer (some ⟨p, 0, none⟩), .int .i64 f, .int .i64 c, .string s] w fun e w' =>
    e = .returned (.int .i64 3) ∧ Below w.heap.size w w' := by
  have HR := Lib.hid (fun W (b : Below w.heap.size w W) => by have g := irefusal_any B p F D f c W hc (h.keep (Frm.of_below (F := None1) b) fun _ _ e => e); rw [ho, if_pos rfl] at g; exact g)
  clear h ho
  go_enter Tryz.func7, Tryz.ntmps7
  go_wp2_with (go_at_call 15; go_must (refine (HR.out _ (below3 w _ _ _)).mono ?_); rintro e w1 ⟨rfl, rfl⟩)
  go_returns
  refine ⟨rfl, ?_⟩
  exact below3 w _ _ _
set_option maxRecDepth 100000 in
theorem iWrite_full (B p : Nat) (F : Nat → Prop) (D : DS) (f c : Int) (s : ByteArray) (w : World) (hc : c ≤ 9223372036854775807) (ho : outB f c D.kept.length = false) (hh : holdsB c s.size = false) (h : PD B p F D w) : Calls Tryz.prog 7 #[.pointer (some ⟨p, 0, none⟩), .int .i64 f, .int .i64 c, .string s] w fun e w' =>
    e = .returned (.int .i64 31) ∧ Below w.heap.size w w' := by
  have HR := Lib.hid (fun W (b : Below w.heap.size w W) => by have g := irefusal_any B p F D f c W hc (h.keep (Frm.of_below (F := None1) b) fun _ _ e => e); rw [ho, if_neg (by simp)] at g; exact g)
  have HH := Lib.hid (fun W => by have g := iholds_any c s.size W; rw [hh] at g; exact g)
  clear h ho hh
  go_enter Tryz.func7, Tryz.ntmps7
  go_wp2_with (first
    | (go_at_call 15; go_must (refine (HR.out _ (below3 w _ _ _)).mono ?_); rintro e w1 ⟨rfl, rfl⟩)
    | (go_at_call 16; go_must (refine (HH.out _).mono ?_); rintro e w1 ⟨rfl, rfl⟩))
  go_returns
  refine ⟨rfl, ?_⟩
  exact below3 w _ _ _

set_option maxRecDepth 100000 in
set_option maxHeartbeats 2000000 in
theorem iWrite_do (B p : Nat) (F : Nat → Prop) (D : DS) (f c : Int) (s : ByteArray) (w : World) (hB : B ≤ w.heap.size) (hc : c ≤ 9223372036854775807) (hl : D.wait.length ≤ 1000000000) (hwr : D.wr ≤ 1000000000) (ho : outB f c D.kept.length = false) (hh : holdsB c s.size = true) (h : PD B p F D w) :
    Calls Tryz.prog 7 #[.pointer (some ⟨p, 0, none⟩), .int .i64 f, .int .i64 c, .string s] w fun e w' => e = .returned (.int .i64 (wrRes D f (stB s) (secN s.size)).1) ∧ PDid B p F (wrRes D f (stB s) (secN s.size)).2 w w' := by
  have HR := Lib.hid (fun W (b : Below w.heap.size w W) => by have g := irefusal_any B p F D f c W hc (h.keep (Frm.of_below (F := None1) b) fun _ _ e => e); rw [ho, if_neg (by simp)] at g; exact g)
  have HH := Lib.hid (fun W => by have g := iholds_any c s.size W; rw [hh] at g; exact g)
  have hs := holdsB_true hh
  have HS := Lib.hid (fun W => istored_any s W (by omega))
  have ha := outB_false ho
  have hpos : 1 ≤ D.kept.length ∧ D.kept.length ≤ 65536 := by
    obtain ⟨_, _, _, _, _, h0, _⟩ := h
    exact h0.pos
  have HP := Lib.hid h
  have hFl := h.inF
  obtain ⟨X, hX⟩ : ∃ X, X = stB s := ⟨_, rfl⟩
  obtain ⟨m, hm⟩ : ∃ m, m = secN s.size := ⟨_, rfl⟩
  have hXs : X.size = 128 * m := by rw [hX, hm]; exact stB_size s
  have hmc : m ≤ 8193 := by rw [hm]; unfold secN; omega
  rw [← hX] at HS ⊢
  rw [← hm]
  rw [hXs] at HS
  have HXS := Lib.hid hXs
  clear hX hm hXs h ho hh hs
  refine callsIn_wide.1 (callsIn_of_wp_marks (n := 6) Tryz.func7 rfl trivial ?_ rfl)
  simp only [Tryz.ntmps7, List.size_toArray, List.length_cons, List.length_nil, Nat.reduceAdd, Nat.reduceSub, Array.replicate_succ, Array.replicate_zero, List.push_toArray, List.append_toArray, List.nil_append, List.cons_append]
  gi_wp2_with (first
    | (refine ⟨trivial, ?_⟩; gi_at_call 15; refine (callsIn_wide.2 (HR.out _ (below3 w _ _ _))).mono ?_; rintro e w1 ⟨rfl, rfl⟩)
    | (refine ⟨trivial, ?_⟩; gi_at_call 16; refine (callsIn_wide.2 (HH.out _)).mono ?_; rintro e w1 ⟨rfl, rfl⟩)
    | (refine ⟨trivial, ?_⟩; gi_at_call 18; refine (callsIn_wide.2 (HS.out _)).mono ?_; rintro e w2 ⟨b, rfl, hb, hrb, b2⟩; have HB := Lib.hid (And.intro hb (And.intro hrb b2)); clear hb hrb b2)
    | (refine ⟨trivial, ?_⟩; gi_at_call 17; refine (callsIn_wide.2 (isectors_any b (128 * m) (128 * m) _)).mono ?_; rintro a w3 ⟨rfl, rfl⟩))
  obtain ⟨hb, hrb, b2⟩ := HB.out
  have bw : Below w.heap.size w w2 := (below3 w _ _ _).trans (b2.mono (by simp; omega))
  have k0 : St 23 w.heap.size #[.pointer (some ⟨p, 0, none⟩)] w2 := St.below (((St.new w 23 #[.pointer (some ⟨p, 0, none⟩)]).alloc _).alloc _) b2
  have k1 : St 3 (w.heap.size + 1) #[.int .i64 f] w2 := St.below ((St.new1 (w.alloc (.cells #[.pointer (some ⟨p, 0, none⟩)] 23)) 3 #[.int .i64 f] (w.heap.size + 1) (by simp)).alloc _) b2
  have k2 : St 24 (w.heap.size + 2) #[.int .i64 0] w2 := St.below (St.new1 ((w.alloc (.cells #[.pointer (some ⟨p, 0, none⟩)] 23)).alloc (.cells #[.int .i64 f] 3)) 24 #[.int .i64 0] (w.heap.size + 2) (by simp)) b2
  have hsz : w.heap.size + 3 ≤ w2.heap.size := by have := b2.size; simp at this; omega
  have hbb : w.heap.size + 3 ≤ b := by simp at hb; omega
  have hx := St.new w2 54 #[.slice (some ⟨b, 0, none⟩) (128 * m) (128 * m)]
  replace k0 := St.alloc k0 (.cells #[.slice (some ⟨b, 0, none⟩) (128 * m) (128 * m)] 54)
  replace k1 := St.alloc k1 (.cells #[.slice (some ⟨b, 0, none⟩) (128 * m) (128 * m)] 54)
  replace k2 := St.alloc k2 (.cells #[.slice (some ⟨b, 0, none⟩) (128 * m) (128 * m)] 54)
  replace hrb : RB b X (w2.alloc (.cells #[.slice (some ⟨b, 0, none⟩) (128 * m) (128 * m)] 54)) := St.alloc hrb _
  replace bw := bw.alloc bw.size (.cells #[.slice (some ⟨b, 0, none⟩) (128 * m) (128 * m)] 54)
  have hS : (w2.alloc (.cells #[.slice (some ⟨b, 0, none⟩) (128 * m) (128 * m)] 54)).heap.size = w2.heap.size + 1 := by simp
  have hblt := hrb.lt
  generalize (w2.alloc (.cells #[.slice (some ⟨b, 0, none⟩) (128 * m) (128 * m)] 54)) = W0 at k0 k1 k2 hrb bw hS hx hblt ⊢
  clear HB b2 hb
  generalize w2.heap.size = bx at hsz hx hS ⊢
  have hpd := HP.out.start bw
  have hBB : B ≤ W0.heap.size := Nat.le_trans hB bw.size
  have hFF : ∀ j, F j → j < W0.heap.size := fun j hj => Nat.lt_of_lt_of_le (hFl j hj).2 bw.size
  have hnF : ∀ j, w.heap.size ≤ j → ¬ F j := fun j hj e => by have := hFl j e; omega
  have HS0 := Lib.hid hS
  have hbx : bx < W0.heap.size := by omega
  have HBX := Lib.hid (show w.heap.size + 3 ≤ bx from hsz)
  have HRR := Lib.hid (show w.heap.size + 2 < W0.heap.size from by omega)
  clear HR HH HS hS hsz
  refine range_stop rfl (by decide) (gf := 33) (lb := #[.pointer (some ⟨bx, 0, none⟩)]) rfl trivial (enters_of Tryz.func33 (by kernel_rfl) rfl)
    bx m hbx (fun k => #[.int .i64 (k : Int), .slice (some ⟨b, 128 * k, none⟩) 128 128]) (fun _ => rfl)
    (WI B p F W0 D f X) (WI.two hBB hFF) (WX B p F W0 (w.heap.size + 2) D f X m) (WX.two hBB hFF HRR.out) ⟨rfl, hpd, Frm.refl _ _⟩
    (fun l J Jx W hJ hJx hbW hY h0 => iiter_any 5 (by decide) l bx b m hmc J Jx hJ hJx hY W (hx.below hbW) h0)
    (fun k => { tmps := #[.pointer (some ⟨p, 0, none⟩), .int .i64 f, .int .i64 c, .string s, .pointer (some ⟨w.heap.size, 0, none⟩), .pointer (some ⟨w.heap.size + 1, 0, none⟩), undef, undef, .pointer (some ⟨w.heap.size + 1 + 1, 0, none⟩), .int .i64 0,
      .int .i64 (k : Int), .slice (some ⟨b, 128 * k, none⟩) 128 128, undef, .pointer (some ⟨p, 0, none⟩), .int .i64 f, .int .i64 c, .int .i64 0, .int .i64 0, .bool false, undef, .int .i64 c, .string s, .int .i64 s.size, .bool true, .bool false, .string s,
      .slice (some ⟨b, 0, none⟩) (128 * m) (128 * m), .func (.func 33) #[] #[.pointer (some ⟨bx, 0, none⟩)], .int .i64 (k : Int), .slice (some ⟨b, 128 * k, none⟩) 128 128, undef, undef, undef, undef, undef, undef, undef, undef, undef, undef], defers := [] })
    ?assign ?body ?done ?stop
  case assign =>
    intro l k W K hK
    gi_wp2
    exact hK
  case body =>
    intro l k V hk h2 hI
    have hI2 := hI
    obtain ⟨hz, hpv, hfr⟩ := hI
    have c0 := (hfr.st k0 (hnF _ (Nat.le_refl _))) |> fun h : St 23 w.heap.size #[.pointer (some ⟨p, 0, none⟩)] V => h.cell (j := 0) rfl
    have c1 := (hfr.st k1 (hnF _ (by omega))) |> fun h : St 3 (w.heap.size + 1) #[.int .i64 f] V => h.cell (j := 0) rfl
    have hrv : RB b X V := hfr.st hrb (hnF _ (by omega))
    have hcv := hrv.conv (128 * k) 128 128 (by rw [HXS.out]; omega)
    rw [show X.extract (128 * k) (128 * k + 128) = partX X k from rfl] at hcv
    have hadd : IntKind.i64.wrap (f + (k : Int)) = f + (k : Int) := by rw [IntKind.wrap_i64]; omega
    have hsm := wrRes_small D f X k
    have hw := dWrite_any B p (FS F W0.heap.size V) (wrRes D f X k).2 (f + (k : Int)) (partX X k) V (by omega) (by omega) (by omega) hpv
    obtain ⟨ev, hev⟩ : ∃ ev, ev = ((wrRes D f X k).2.write (f + (k : Int)) (partX X k)).1 := ⟨_, rfl⟩
    rw [← hev] at hw
    have HW := Lib.hid hw
    have HI := Lib.hid hI2
    have HE := Lib.hid hev
    obtain ⟨pt, hpt⟩ : ∃ pt, pt = partX X k := ⟨_, rfl⟩
    rw [← hpt] at hcv HW
    have HPT := Lib.hid hpt
    have HFR := Lib.hid hfr
    have HK2 := Lib.hid k2
    clear hI2 hz hpv hfr hrv hsm hw hev hpt k0 k1 k2
    by_cases h0 : ev = 0
    · subst h0
      gi_wp2_with (refine ⟨trivial, ?_⟩; gi_at_call 19; refine (CallsIn.inRound l (callsIn_wide.2 HW.out)).mono ?_; rintro a w4 ⟨rfl, h4⟩; have H4 := Lib.hid h4; clear h4)
      obtain ⟨g1, g2, g3, g4⟩ := WI.next hBB hFF HI.out h2 (by rw [← HPT.out]; exact H4.out)
      have hbv : bx < V.heap.size := by omega
      refine ⟨g3, g4, H4.out.2.block bx hbv (fun e => ?_), ?_, g1, g2⟩
      · have h3 := HBX.out
        rcases e with e | e
        · exact hnF bx (by omega) e
        · omega
      · rw [wrRes_on D f X k HI.out.1]
        exact HE.out.symm
    · have hne : (ev != 0) = true := by rw [bne_iff_ne]; exact h0
      have HN := Lib.hid h0
      clear h0
      gi_wp2_with (refine ⟨trivial, ?_⟩; gi_at_call 19; refine (CallsIn.inRound l (callsIn_wide.2 HW.out)).mono ?_; rintro a w4 ⟨rfl, h4⟩; have e4 := (show St 24 (w.heap.size + 2) #[.int .i64 0] w4 from by
          obtain ⟨g1, g2, g3, g4⟩ := WI.next hBB hFF HI.out h2 (by rw [← HPT.out]; exact h4)
          exact g2.st HK2.out (hnF _ (by omega))); have c4 := e4.cell (j := 0) rfl; have f4 := e4.free 0; have E4 := Lib.hid e4; have H4 := Lib.hid h4; clear h4 e4)
      obtain ⟨g1, g2, g3, g4⟩ := WI.next hBB hFF HI.out h2 (by rw [← HPT.out]; exact H4.out)
      have hr := HRR.out
      have hkm : wrRes D f X m = wrRes D f X (k + 1) := wrRes_end D f X (k + 1) m hk (by rw [wrRes_on D f X k HI.out.1, ← HE.out]; exact HN.out)
      refine ⟨(heap_setCell_other w4 ⟨w.heap.size + 2, 0, none⟩ W0.heap.size _ (by simp; omega)).trans g3, (heap_setCell_other w4 ⟨w.heap.size + 2, 0, none⟩ (W0.heap.size + 1) _ (by simp; omega)).trans g4, ?_, ?_, ?_⟩
      · rw [hkm]
        exact pd_set hBB (hnF _ (by omega)) hr g1 _
      · exact (g2.wide fun _ e => .inl e).aft (Frm.setCell (F := fun j => j = w.heap.size + 2) (Frm.refl _ w4) (.inl rfl) _) fun j hj e => .inr e
      · rw [hkm, wrRes_on D f X k HI.out.1, ← HE.out]
        exact E4.out.set 0 (.int .i64 ev)
  case done =>
    intro W hI hK hW
    obtain ⟨hz, hpv, hfr⟩ := hI
    have hr := HRR.out
    have e2 : St 24 (w.heap.size + 2) #[.int .i64 0] W := hfr.st k2 (hnF _ (by omega))
    have c2 := e2.cell (j := 0) rfl
    have f2 := e2.free 0
    have hK2 : (W.setCell ⟨w.heap.size + 2, 0, none⟩ (.int .i64 0)).heap[W0.heap.size]? = some (.deferred (some [])) := (heap_setCell_other W ⟨w.heap.size + 2, 0, none⟩ W0.heap.size _ (by simp; omega)).trans hK
    gi_wp2
    refine ⟨by simp, .inl ⟨_, _, rfl, run_takeDeferred hK2, ?_⟩⟩
    have g := pd_set hBB (hnF (w.heap.size + 2) (by omega)) hr hpv (.int .i64 0)
    have gf := (hfr.wide (G := fun j => F j ∨ j = w.heap.size + 2) fun _ e => .inl e).aft (Frm.setCell (F := fun j => j = w.heap.size + 2) (p := ⟨w.heap.size + 2, 0, none⟩) (Frm.refl _ W) (.inl rfl) (.int .i64 0)) fun j hj e => .inr e
    have ge := e2.set 0 (.int .i64 0)
    generalize (W.setCell ⟨w.heap.size + 2, 0, none⟩ (.int .i64 0)) = V at hK2 g gf ge ⊢
    have fp := Frm.put1 W0.heap.size V (.deferred none)
    have g2 := pd_two hBB hFF g fp.two
    have gf2 := gf.aft fp (fun j hj e => by subst e; omega)
    have ge2 := St.cell (fp.st ge (by omega)) (j := 0) rfl
    refine ⟨.int .i64 0, by simp [results, Tryz.results7, go_sem] at ge2 ⊢; simp [ge2], ?_, pdid_end hB bw (by omega) hr hFl g2 gf2⟩
    rw [hz]
  case stop =>
    intro W hI hK hW
    have hr := HRR.out
    gi_wp2
    refine ⟨by simp, .inl ⟨_, _, rfl, run_takeDeferred hK, ?_⟩⟩
    obtain ⟨g, gf, ge⟩ := hI
    have fp := Frm.put1 W0.heap.size W (.deferred none)
    have g2 := pd_two hBB hFF g fp.two
    have gf2 := gf.aft fp (fun j hj e => by subst e; omega)
    have ge2 := St.cell (fp.st ge (by omega)) (j := 0) rfl
    exact ⟨.int .i64 (wrRes D f X m).1, by simp [results, Tryz.results7, go_sem] at ge2 ⊢; simp [ge2], rfl, pdid_end hB bw (by omega) hr hFl g2 gf2⟩
end Go.Proofs.YtikeckmbfgidhaaGreatDoor

/- Texts in areas of a disk: what Read tells, plainly. -/
namespace Go.Proofs.YtikeckmbfgidhaaGreatDoor
open Go.RowKit

theorem iWrite_any (B p : Nat) (F : Nat → Prop) (D : DS) (f c : Int) (s : ByteArray) (w : World) (hB : B ≤ w.heap.size) (hc : c ≤ 9223372036854775807) (hl : D.wait.length ≤ 1000000000) (hwr : D.wr ≤ 1000000000) (h : PD B p F D w) :
    Calls Tryz.prog 7 #[.pointer (some ⟨p, 0, none⟩), .int .i64 f, .int .i64 c, .string s] w fun e w' => e = .returned (.int .i64 (imgW D f c s).1) ∧ PDid B p F (imgW D f c s).2 w w' := by
  unfold imgW
  by_cases ho : outB f c D.kept.length = true
  · rw [if_pos ho]
    exact (iWrite_out B p F D f c s w hc ho h).mono fun e w' g => ⟨g.1, pdid_below hB h g.2⟩
  · rw [if_neg ho]
    rw [Bool.not_eq_true] at ho
    by_cases hh : holdsB c s.size = false
    · rw [if_pos hh]
      exact (iWrite_full B p F D f c s w hc ho hh h).mono fun e w' g => ⟨g.1, pdid_below hB h g.2⟩
    · rw [if_neg hh]
      rw [Bool.not_eq_false] at hh
      exact iWrite_do B p F D f c s w hB hc hl hwr ho hh h

/-- The bytes of a sector of an area. -/
def secAt (D : DS) (f : Int) (k : Nat) : ByteArray := (D.read (f + k)).1
/-- Those of the first ones. -/
def imgX (D : DS) (f : Int) : Nat → ByteArray
  | 0 => ⟨#[]⟩
  | k + 1 => imgX D f k ++ secAt D f k
/-- What Read tells, of a disk that works. -/
def imgR (D : DS) (f c : Int) : ByteArray × Int :=
  if outB f c D.kept.length then (⟨#[]⟩, 3) else if holdsB c (sizF (secAt D f 0)) = false then (⟨#[]⟩, 14) else txB (imgX D f (secN (sizF (secAt D f 0))))
theorem lastOf_full (i : Nat) : ∀ (l : List (Nat × ByteArray)) (s : ByteArray), s.size = 128 → (∀ x ∈ l, x.2.size = 128) → (lastOf i s l).size = 128
  | [], _, h, _ => h
  | x :: l, s, h, hl => by
    unfold lastOf
    refine lastOf_full i l _ ?_ fun y hy => hl y (List.mem_cons_of_mem _ hy)
    split
    · exact hl x List.mem_cons_self
    · exact h
theorem read_in {D : DS} {n : Nat} (hd : D.dead = false) (hok : D.ok n) {i : Int} (h0 : 0 ≤ i) (h1 : i < n) : (D.read i).2 = 0 ∧ (D.read i).1.size = 128 ∧ (D.read i).1 = lastOf i.toNat (D.kept.getD i.toNat ⟨#[]⟩) D.wait := by
  have hin : D.inside i = true := by unfold DS.inside; rw [hok.len]; simp; omega
  have hr : D.read i = (lastOf i.toNat (D.kept.getD i.toNat ⟨#[]⟩) D.wait, 0) := by unfold DS.read; rw [hd, hin]; rfl
  rw [hr]
  refine ⟨rfl, lastOf_full _ _ _ ?_ hok.fulw, rfl⟩
  have hl : i.toNat < D.kept.length := by rw [hok.len]; omega
  rw [List.getD_eq_getElem?_getD, List.getElem?_eq_getElem hl]
  exact hok.full _ (List.getElem_mem _)
theorem imgX_size {D : DS} {n : Nat} (hd : D.dead = false) (hok : D.ok n) {f : Int} (h0 : 0 ≤ f) : ∀ k : Nat, f + k ≤ n → (imgX D f k).size = 128 * k
  | 0, _ => rfl
  | k + 1, h => by
    unfold imgX
    rw [ByteArray.size_append, imgX_size hd hok h0 k (by omega), show (secAt D f k).size = 128 from (read_in hd hok (by omega) (by omega)).2.1]
    omega
/-- A row of which the first sectors have been read. -/
def rowX (D : DS) (f : Int) (m k : Nat) : ByteArray := imgX D f k ++ noughts (128 * (m - k))
theorem rowX_next {D : DS} {n : Nat} (hd : D.dead = false) (hok : D.ok n) {f : Int} (h0 : 0 ≤ f) (m k : Nat) (hk : k < m) (h : f + m ≤ n) : setMany (tb (rowX D f m k)) (128 * k) (tb (secAt D f k)) = tb (rowX D f m (k + 1)) := by
  have hX := imgX_size hd hok h0 k (by omega)
  have hs : (secAt D f k).size = 128 := (read_in hd hok (by omega) (by omega)).2.1
  unfold rowX
  rw [show 128 * (m - k) = 128 + 128 * (m - (k + 1)) from by omega, noughts_add, tb_append, tb_append, imgX, tb_append, tb_append]
  have h := setMany_mid (tb (secAt D f k)) (tb (noughts 128)) (tb (imgX D f k)) (tb (noughts (128 * (m - (k + 1))))) (by rw [tb_length, tb_length, noughts_size, hs])
  rw [tb_length, hX] at h
  rw [h, List.append_assoc]
theorem rowX_zero (D : DS) (f : Int) (m : Nat) : rowX D f m 0 = noughts (128 * m) := by
  unfold rowX imgX
  apply ByteArray.ext
  simp
theorem rowX_all (D : DS) (f : Int) (m : Nat) : rowX D f m m = imgX D f m := by
  unfold rowX
  rw [Nat.sub_self, Nat.mul_zero]
  exact append_none _
theorem rowX_size {D : DS} {n : Nat} (hd : D.dead = false) (hok : D.ok n) {f : Int} (h0 : 0 ≤ f) (m k : Nat) (hk : k ≤ m) (h : f + m ≤ n) : (rowX D f m k).size = 128 * m := by
  unfold rowX
  rw [ByteArray.size_append, imgX_size hd hok h0 k (by omega), noughts_size]
  omega
/-- The first sector tells the length, as all of them do. -/
theorem sizF_first {D : DS} {n : Nat} (hd : D.dead = false) (hok : D.ok n) {f : Int} (h0 : 0 ≤ f) : ∀ m : Nat, 0 < m → f + m ≤ n → sizF (imgX D f m) = sizF (secAt D f 0)
  | 0, h, _ => absurd h (Nat.lt_irrefl _)
  | 1, _, _ => by
    unfold imgX imgX
    congr 1
  | k + 2, _, h => by
    have ih := sizF_first hd hok h0 (k + 1) (by omega) (by omega)
    rw [← ih]
    have hX := imgX_size hd hok h0 (k + 1) (by omega)
    rw [imgX]
    generalize imgX D f (k + 1) = X at hX ⊢
    unfold sizF
    congr 2
    have h4 : 4 - X.data.size = 0 := by have : X.data.size = X.size := rfl; omega
    rw [ByteArray.data_extract, ByteArray.data_extract, ByteArray.data_append, Array.extract_append, h4]
    simp
end Go.Proofs.YtikeckmbfgidhaaGreatDoor

/- Texts in areas of a disk: the program's Read. -/
namespace Go.Proofs.YtikeckmbfgidhaaGreatDoor
open Go.RowKit Go.Shelf
attribute [local go_sem] Oper.semAt_some

theorem wpListIn_copy_str {F : Fence} {n : Nat} {P : Program} {ops : Array Oper} {rest : List Oper} {o : Oper} {a : Act} {w : World} {Q : Exit → Act → World → Prop} (hgd : o.guard = none) (d s : Operand) (dT sT : TypeId)
    (hop : o.op = .call { callee := .builtin .copy, args := #[d, s], argTypes := #[dT, sT] }) (elem : TypeId) (hu : P.underlying dT = some (.slice elem)) (hz : ∀ w, (Go.sizeOf elem).run P w = .ok 1 w)
    (b off dLen dCap : Nat) (hd : a.eval d = .slice (some ⟨b, off, none⟩) dLen dCap) (t : ByteArray) (hs : a.eval s = .string t) (hle : t.size ≤ dLen) (ht : w.there b off t.size)
    (h : wpListIn F n P ops Q rest (a.put o.dst (goInt t.size)) (w.setCells b off (tb t))) : wpListIn F n P ops Q (o :: rest) a w := by
  refine wpListIn_plain hgd fun K hK' => ?_
  have hrun := run_copy_string (P := P) w dT sT o.type elem b off dLen dCap t hu hz hle (fun j hj => (ht j hj).1) (fun j hj => (ht j hj).2)
  unfold Oper.wpIn
  refine ⟨by simp [Oper.about, hop, resolve, Target.leads, Sem.run_pure], ?_⟩
  rw [Oper.semAt_plain F _ _ (by rw [hop]; intro c hc'; cases hc')]
  simp [execOp, hop, resolve, invoke, builtin, hd, hs, hrun, Result.andThen]
  exact hK' _ _ h
theorem wpListIn_mks {F : Fence} {n0 : Nat} {P : Program} {ops : Array Oper} {rest : List Oper} {o : Oper} {a : Act} {w : World} {Q : Exit → Act → World → Prop} (hgd : o.guard = none) (t e : TypeId) (x y : Operand) (ho : o.op = .makeSlice t x y) (i : TypeInfo) (z : Value) (size : Nat)
    (ht : P.underlying t = some (.slice e)) (hi : P.info? e = some i) (hz : i.zero = some z) (hs : i.size = size) (n : Nat) (hx : a.eval x = .int .i64 (n : Int)) (hy : a.eval y = .int .i64 (n : Int)) (hbytes : (i.bytes : Int) * n ≤ 281474976710656) (h63 : (n : Int) ≤ 9223372036854775807)
    (h : wpListIn F n0 P ops Q rest (a.put o.dst (.slice (some ⟨w.heap.size, 0, none⟩) n n)) (w.alloc (.cells (madeCells z.cells (n * size)) e))) : wpListIn F n0 P ops Q (o :: rest) a w := by
  subst hs
  refine wpListIn_plain hgd fun K hK' => ?_
  have hrun := run_make (P := P) w t e i z ht hi hz .i64 .i64 n n (by omega) (Int.le_refl _) hbytes h63
  simp only [Int.toNat_natCast] at hrun
  unfold Oper.wpIn
  refine ⟨by simp [Oper.about, ho], ?_⟩
  rw [Oper.semAt_plain F _ _ (by rw [ho]; intro c hc'; cases hc')]
  unfold execOp
  simp only [ho, hx, hy, Sem.run_bind, hrun, Result.andThen_ok]
  exact hK' _ _ h

theorem below4 (w : World) (a b c d : Obj) : Below w.heap.size w ((((w.alloc a).alloc b).alloc c).alloc d) := ((((Below.refl _ w).alloc (Nat.le_refl _) _).alloc (by simp) _).alloc (by simp; omega) _).alloc (by simp; omega) _
set_option maxRecDepth 100000 in
theorem iRead_no (f c : Int) (w : World) : Calls Tryz.prog 8 #[.pointer none, .int .i64 f, .int .i64 c] w fun e w' => e = .returned (.tuple #[.string ⟨#[]⟩, .int .i64 1]) ∧ Below w.heap.size w w' := by
  go_enter Tryz.func8, Tryz.ntmps8
  go_wp2_with (go_at_call 15; go_must (refine (irefusal_no f c _).mono ?_); rintro e w1 ⟨rfl, rfl⟩)
  go_returns
  refine ⟨rfl, ?_⟩
  exact below4 w _ _ _ _
set_option maxRecDepth 100000 in
theorem iRead_out (B p : Nat) (F : Nat → Prop) (D : DS) (f c : Int) (w : World) (hc : c ≤ 9223372036854775807) (ho : outB f c D.kept.length = true) (h : PD B p F D w) : Calls Tryz.prog 8 #[.pointer (some ⟨p, 0, none⟩), .int .i64 f, .int .i64 c] w fun e w' =>
    e = .returned (.tuple #[.string ⟨#[]⟩, .int .i64 3]) ∧ Below w.heap.size w w' := by
  have HR := Lib.hid (fun W (b : Below w.heap.size w W) => by have g := irefusal_any B p F D f c W hc (h.keep (Frm.of_below (F := None1) b) fun _ _ e => e); rw [ho, if_pos rfl] at g; exact g)
  clear h ho
  go_enter Tryz.func8, Tryz.ntmps8
  go_wp2_with (go_at_call 15; go_must (refine (HR.out _ (below4 w _ _ _ _)).mono ?_); rintro e w1 ⟨rfl, rfl⟩)
  go_returns
  refine ⟨rfl, ?_⟩
  exact below4 w _ _ _ _
theorem two_st (w : World) (a b : Obj) (T : TypeId) (cs : Array Value) (d : Obj) : St T (w.heap.size + 2) cs ((((w.alloc a).alloc b).alloc (.cells cs T)).alloc d) :=
  (St.new1 ((w.alloc a).alloc b) T cs (w.heap.size + 2) (by simp)).alloc d
theorem three_st (w : World) (a b c : Obj) (T : TypeId) (cs : Array Value) : St T (w.heap.size + 3) cs ((((w.alloc a).alloc b).alloc c).alloc (.cells cs T)) :=
  St.new1 (((w.alloc a).alloc b).alloc c) T cs (w.heap.size + 3) (by simp)
theorem rdU32_size (S : ByteArray) (h : S.size = 128) : ∃ R, rdU32 S 0 = (R, 0, (sizF S : Int)) := ⟨_, by unfold rdU32; rw [if_neg (by simp), if_neg (by omega)]; rfl⟩

set_option maxRecDepth 100000 in
set_option maxHeartbeats 1000000 in
theorem iRead_form (B p : Nat) (F : Nat → Prop) (D : DS) (f c : Int) (w : World) (hd : D.dead = false) (hc : c ≤ 9223372036854775807) (ho : outB f c D.kept.length = false) (hh : holdsB c (sizF (secAt D f 0)) = false) (h : PD B p F D w) : Calls Tryz.prog 8 #[.pointer (some ⟨p, 0, none⟩), .int .i64 f, .int .i64 c] w fun e w' =>
    e = .returned (.tuple #[.string ⟨#[]⟩, .int .i64 14]) ∧ Below w.heap.size w w' := by
  have ha := outB_false ho
  have HP := Lib.hid (fun W (b : Below w.heap.size w W) => show PD B p F D W from h.keep (Frm.of_below (F := None1) b) fun _ _ e => e)
  have HR := Lib.hid (fun W (b : Below w.heap.size w W) => by have g := irefusal_any B p F D f c W hc (HP.out W b); rw [ho, if_neg (by simp)] at g; exact g)
  have hr := read_in hd h.oks ha.1 (by omega)
  obtain ⟨S, hS⟩ : ∃ S, S = secAt D f 0 := ⟨_, rfl⟩
  have hS1 : (D.read f).1 = S := by rw [hS]; unfold secAt; simp
  have HD := Lib.hid (fun W (b : Below w.heap.size w W) => by have g := dRead_any B p F D f W (HP.out W b); rw [hr.1, hS1] at g; exact g)
  obtain ⟨R, hR⟩ := rdU32_size S (by rw [← hS1]; exact hr.2.1)
  have HU := Lib.hid (fun k W (hr : Rd k S 0 W) => by have g := rU32_at k S 0 W hr; rw [hR] at g; exact g)
  rw [← hS] at hh
  have HH := Lib.hid (fun W => by have g := iholds_any c (sizF S : Int) W; rw [hh] at g; exact g)
  clear h ho hh hr hS hS1 hR HP
  go_enter Tryz.func8, Tryz.ntmps8
  go_wp2_with (first
    | (go_at_call 15; go_must (refine (HR.out _ (below4 w _ _ _ _)).mono ?_); rintro e w1 ⟨rfl, rfl⟩)
    | (go_at_call 20; go_must (refine (HD.out _ (below4 w _ _ _ _)).mono ?_); rintro e w2 ⟨rfl, b2⟩; have B2 := Lib.hid b2; clear b2)
    | (go_at_call 21; go_must (refine (rRead_at S _).mono ?_); rintro e w3 ⟨rfl, r3, b3, s3⟩; have HU3 := Lib.hid (HU.out _ w3 r3); have B3 := Lib.hid b3; clear r3 b3 s3)
    | (go_at_call 22; go_must (refine HU3.out.mono ?_); rintro e w4 k4; obtain ⟨rfl, r4, b4⟩ := k4.under B3.out (Nat.le_refl _) B3.out.size; have B4 := Lib.hid (B2.out.trans (b4.mono B2.out.size)); have e2 := St.below (two_st w _ _ 9 #[.string ⟨#[]⟩] _) B4.out; have e3 := St.below (three_st w _ _ _ 24 #[.int .i64 0]) B4.out; have c2 := e2.cell (j := 0) rfl; have f2 := e2.free 0; have c3 := e3.cell (j := 0) rfl; have f3 := e3.free 0; have E2 := Lib.hid e2; have E3 := Lib.hid e3; clear k4 r4 b4 e2 e3)
    | (go_at_call 16; go_must (refine (HH.out _).mono ?_); rintro e w5 ⟨rfl, rfl⟩))
  have x2 := ((E2.out.set 0 (.string ⟨#[]⟩)).other (w.heap.size + 3) 0 (.int .i64 14) (by omega)).cell (j := 0) rfl
  have x3 := ((E3.out.other (w.heap.size + 2) 0 (.string ⟨#[]⟩) (by omega)).set 0 (.int .i64 14)).cell (j := 0) rfl
  refine bodyPost_ret (v := .tuple #[.string ⟨#[]⟩, .int .i64 14]) (by simp [results, Tryz.results8, go_sem] at x2 x3 ⊢; simp [x2, x3]) rfl ⟨rfl, ?_⟩
  exact (((below4 w _ _ _ _).trans (B4.out.mono (by simp; omega))).setCell (by simp; omega) _).setCell (by simp; omega) _

set_option maxRecDepth 100000 in
set_option maxHeartbeats 2000000 in
theorem iRead_do (B p : Nat) (F : Nat → Prop) (D : DS) (f c : Int) (w : World) (hd : D.dead = false) (hc : c ≤ 9223372036854775807) (ho : outB f c D.kept.length = false) (hh : holdsB c (sizF (secAt D f 0)) = true) (h : PD B p F D w) :
    Calls Tryz.prog 8 #[.pointer (some ⟨p, 0, none⟩), .int .i64 f, .int .i64 c] w fun e w' =>
      e = .returned (.tuple #[.string (txB (imgX D f (secN (sizF (secAt D f 0))))).1, .int .i64 (txB (imgX D f (secN (sizF (secAt D f 0))))).2]) ∧ Below w.heap.size w w' := by
  obtain ⟨i0, hi, hz0, hz1, hz2⟩ := info_parts infoU8i
  have ha := outB_false ho
  have hhh := holdsB_true hh
  have hok := h.oks
  have hFl := h.inF
  have HP := Lib.hid (fun W (b : Below w.heap.size w W) => show PD B p F D W from h.keep (Frm.of_below (F := None1) b) fun _ _ e => e)
  have HR := Lib.hid (fun W (b : Below w.heap.size w W) => by have g := irefusal_any B p F D f c W hc (HP.out W b); rw [ho, if_neg (by simp)] at g; exact g)
  have hr := read_in hd h.oks ha.1 (by omega)
  obtain ⟨S, hS⟩ : ∃ S, S = secAt D f 0 := ⟨_, rfl⟩
  have hS1 : (D.read f).1 = S := by rw [hS]; unfold secAt; simp
  have HD := Lib.hid (fun W (b : Below w.heap.size w W) => by have g := dRead_any B p F D f W (HP.out W b); rw [hr.1, hS1] at g; exact g)
  obtain ⟨R, hR⟩ := rdU32_size S (by rw [← hS1]; exact hr.2.1)
  have HU := Lib.hid (fun k W (hr : Rd k S 0 W) => by have g := rU32_at k S 0 W hr; rw [hR] at g; exact g)
  rw [← hS] at hh hhh ⊢
  have hsf : ∀ m : Nat, 0 < m → f + m ≤ D.kept.length → sizF (imgX D f m) = sizF S := fun m h0 h1 => by rw [hS]; exact sizF_first hd hok ha.1 m h0 h1
  obtain ⟨n, hn⟩ : ∃ n, n = sizF S := ⟨_, rfl⟩
  rw [← hn] at hh hhh HU hsf ⊢
  have HH := Lib.hid (fun W => by have g := iholds_any c (n : Int) W; rw [hh] at g; exact g)
  have hse := secI_nat n (by omega)
  have HSec := Lib.hid (fun W => by have g := iSectors_any n W; rw [hse] at g; exact g)
  rw [hse] at hhh
  obtain ⟨m, hm⟩ : ∃ m, m = secN n := ⟨_, rfl⟩
  rw [← hm] at HSec hhh ⊢
  obtain ⟨T, hT⟩ : ∃ T, T = txB (imgX D f m) := ⟨_, rfl⟩
  rw [← hT]
  have HTX := Lib.hid hT
  clear hT
  have hmc : m ≤ 8193 := by rw [hm]; unfold secN; omega
  obtain ⟨M, hM⟩ : ∃ M, M = 128 * m := ⟨_, rfl⟩
  have hmul : IntKind.i64.wrap ((m : Int) * 128) = (M : Int) := by rw [IntKind.wrap_i64]; omega
  have hd2 : (i0.bytes : Int) * (M : Int) ≤ 281474976710656 := by rw [hz2]; omega
  have hd3 : (M : Int) ≤ 9223372036854775807 := by omega
  have HM := Lib.hid hM
  have HN := Lib.hid (show n ≤ 1048576 ∧ 0 < m ∧ f + m ≤ D.kept.length from ⟨by omega, by omega, by omega⟩)
  have HSF := Lib.hid (hsf m (by omega) (by omega))
  clear h ho hh hr hS hS1 hR hn hse hm hM hsf hhh
  refine callsIn_wide.1 (callsIn_of_wp_marks (n := 6) Tryz.func8 rfl trivial ?_ rfl)
  simp only [Tryz.ntmps8, List.size_toArray, List.length_cons, List.length_nil, Nat.reduceAdd, Nat.reduceSub, Array.replicate_succ, Array.replicate_zero, List.push_toArray, List.append_toArray, List.nil_append, List.cons_append]
  gi_wp2_with (first
    | (refine ⟨trivial, ?_⟩; gi_at_call 15; refine (callsIn_wide.2 (HR.out _ (below4 w _ _ _ _))).mono ?_; rintro e w1 ⟨rfl, rfl⟩)
    | (refine ⟨trivial, ?_⟩; gi_at_call 20; refine (callsIn_wide.2 (HD.out _ (below4 w _ _ _ _))).mono ?_; rintro e w2 ⟨rfl, b2⟩; have B2 := Lib.hid b2; clear b2)
    | (refine ⟨trivial, ?_⟩; gi_at_call 21; refine (callsIn_wide.2 (rRead_at S _)).mono ?_; rintro e w3 ⟨rfl, r3, b3, s3⟩; have HU3 := Lib.hid (HU.out _ w3 r3); have B3 := Lib.hid b3; clear r3 b3 s3)
    | (refine ⟨trivial, ?_⟩; gi_at_call 22; refine (callsIn_wide.2 HU3.out).mono ?_; rintro e w4 k4; obtain ⟨rfl, r4, b4⟩ := k4.under B3.out (Nat.le_refl _) B3.out.size; have B4 := Lib.hid (B2.out.trans (b4.mono B2.out.size)); clear k4 r4 b4)
    | (refine ⟨trivial, ?_⟩; gi_at_call 16; refine (callsIn_wide.2 (HH.out _)).mono ?_; rintro e w5 ⟨rfl, rfl⟩)
    | (refine ⟨trivial, ?_⟩; gi_at_call 14; refine (callsIn_wide.2 (HSec.out _)).mono ?_; rintro e w5 ⟨rfl, rfl⟩)
    | ((with_reducible show wpListIn _ _ _ _ _ ({ dst := _, op := .makeSlice _ _ _, type := _, pos := _, after := _, guard := _ } :: _) _ _); refine wpListIn_mks rfl 54 5 (.tmp 42) (.tmp 42) rfl i0 (.int .u8 0) 1 Tryz.underlying54 hi hz0 hz1 M rfl rfl hd2 hd3 ?_; rw [Nat.mul_one])
    | (refine ⟨trivial, ?_⟩; gi_at_call 17; refine (callsIn_wide.2 (isectors_any w4.heap.size M M _)).mono ?_; rintro a w6 ⟨rfl, rfl⟩))
  have b4 := B4.out
  have bw : Below w.heap.size w w4 := (below4 w _ _ _ _).trans (b4.mono (by simp; omega))
  have k0 : St 23 w.heap.size #[.pointer (some ⟨p, 0, none⟩)] w4 := St.below ((((St.new w 23 #[.pointer (some ⟨p, 0, none⟩)]).alloc _).alloc _).alloc _) b4
  have k1 : St 3 (w.heap.size + 1) #[.int .i64 f] w4 := St.below (((St.new1 (w.alloc (.cells #[.pointer (some ⟨p, 0, none⟩)] 23)) 3 #[.int .i64 f] (w.heap.size + 1) (by simp)).alloc _).alloc _) b4
  have k2 : St 9 (w.heap.size + 2) #[.string ⟨#[]⟩] w4 := St.below (two_st w _ _ 9 #[.string ⟨#[]⟩] _) b4
  have k3 : St 24 (w.heap.size + 3) #[.int .i64 0] w4 := St.below (three_st w _ _ _ 24 #[.int .i64 0]) b4
  have hsz : w.heap.size + 4 ≤ w4.heap.size := by have := b4.size; simp at this; omega
  have hrb : RB w4.heap.size (noughts M) (w4.alloc (.cells (madeCells #[Value.int .u8 0] M) 5 (0, 0))) := by rw [made_noughts]; exact St.new w4 5 _
  replace hrb : RB w4.heap.size (noughts M) ((w4.alloc (.cells (madeCells #[Value.int .u8 0] M) 5 (0, 0))).alloc (.cells #[.slice (some ⟨w4.heap.size, 0, none⟩) M M] 54 (0, 0))) := St.alloc hrb _
  have hx : St 54 (w4.heap.size + 1) #[.slice (some ⟨w4.heap.size, 0, none⟩) M M] ((w4.alloc (.cells (madeCells #[Value.int .u8 0] M) 5 (0, 0))).alloc (.cells #[.slice (some ⟨w4.heap.size, 0, none⟩) M M] 54 (0, 0))) := St.new1 _ _ _ _ (by simp)
  replace k0 := (St.alloc k0 (.cells (madeCells #[Value.int .u8 0] M) 5 (0, 0))).alloc (.cells #[.slice (some ⟨w4.heap.size, 0, none⟩) M M] 54 (0, 0))
  replace k1 := (St.alloc k1 (.cells (madeCells #[Value.int .u8 0] M) 5 (0, 0))).alloc (.cells #[.slice (some ⟨w4.heap.size, 0, none⟩) M M] 54 (0, 0))
  replace k2 := (St.alloc k2 (.cells (madeCells #[Value.int .u8 0] M) 5 (0, 0))).alloc (.cells #[.slice (some ⟨w4.heap.size, 0, none⟩) M M] 54 (0, 0))
  replace k3 := (St.alloc k3 (.cells (madeCells #[Value.int .u8 0] M) 5 (0, 0))).alloc (.cells #[.slice (some ⟨w4.heap.size, 0, none⟩) M M] 54 (0, 0))
  replace bw := (bw.alloc bw.size (.cells (madeCells #[Value.int .u8 0] M) 5 (0, 0))).alloc (by have := bw.size; simp; omega) (.cells #[.slice (some ⟨w4.heap.size, 0, none⟩) M M] 54 (0, 0))
  have hS : ((w4.alloc (.cells (madeCells #[Value.int .u8 0] M) 5 (0, 0))).alloc (.cells #[.slice (some ⟨w4.heap.size, 0, none⟩) M M] 54 (0, 0))).heap.size = w4.heap.size + 2 := by simp
  generalize ((w4.alloc (.cells (madeCells #[Value.int .u8 0] M) 5 (0, 0))).alloc (.cells #[.slice (some ⟨w4.heap.size, 0, none⟩) M M] 54 (0, 0))) = W0 at k0 k1 k2 k3 hrb bw hS hx ⊢
  clear B2 B3 B4 HU3 b4
  generalize w4.heap.size = ab at hsz hx hS hrb k0 k1 k2 k3 ⊢
  generalize w2.heap.size = rb
  have hnF : ∀ j, w.heap.size ≤ j → ¬ F j := fun j hj e => by have := hFl j e; omega
  have HS0 := Lib.hid hS
  have hbx : ab + 1 < W0.heap.size := by omega
  have HAB := Lib.hid (show w.heap.size + 4 ≤ ab from hsz)
  have hpd0 := HP.out W0 bw
  have HPV := Lib.hid (fun V (g : Frm (fun j => j = ab) W0 V) => show PD B p F D V from hpd0.keep g fun j hj e => hnF j (by omega) hj)
  have hnm := HN.out
  clear HR HH HU HD HSec hS hsz hpd0
  refine range_stop rfl (by decide) (gf := 33) (lb := #[.pointer (some ⟨ab + 1, 0, none⟩)]) rfl trivial (enters_of Tryz.func33 (by kernel_rfl) rfl)
    (ab + 1) m hbx (fun k => #[.int .i64 (k : Int), .slice (some ⟨ab, 128 * k, none⟩) 128 128]) (fun _ => rfl)
    (fun k W => RB ab (rowX D f m k) W ∧ Frm (fun j => j = ab) W0 W) (fun k W W' g t => ⟨t.st g.1 (fun e => by have := HS0.out; rcases e with e | e <;> omega), g.2.aft t fun j hj e => by have := HS0.out; rcases e with e | e <;> omega⟩)
    (fun _ => False) (fun _ _ e _ => e) ⟨by rw [rowX_zero, ← HM.out]; exact hrb, Frm.refl _ _⟩
    (fun l J Jx W hJ hJx hbW hY h0 => iiter_any 5 (by decide) l (ab + 1) ab m hmc J Jx hJ hJx hY W (by rw [← HM.out]; exact hx.below hbW) h0)
    (fun k => { tmps := #[.pointer (some ⟨p, 0, none⟩), .int .i64 f, .int .i64 c, .pointer (some ⟨w.heap.size, 0, none⟩), .pointer (some ⟨w.heap.size + 1, 0, none⟩), undef, .pointer (some ⟨w.heap.size + 1 + 1, 0, none⟩), .pointer (some ⟨w.heap.size + 1 + 1 + 1, 0, none⟩), .int .i64 0, .string S,
      .int .i64 0, .int .i64 (n : Int), .slice (some ⟨ab, 0, none⟩) M M, .int .i64 (k : Int), .slice (some ⟨ab, 128 * k, none⟩) 128 128, undef, undef, .pointer (some ⟨p, 0, none⟩), .int .i64 f, .int .i64 c, .int .i64 0, .int .i64 0, .bool false, undef,
      .tuple #[.string S, .int .i64 0], .pointer (some ⟨p, 0, none⟩), .int .i64 f, .tuple #[.string S, .int .i64 0], .string S, .int .i64 0, .int .i64 0, .bool false, undef, .string S, .pointer (some ⟨rb, 0, none⟩), .int .i64 (n : Int), .int .i64 c, .int .i64 (n : Int), .bool true, .bool false, .int .i64 (n : Int),
      .int .i64 (m : Int), .int .i64 (M : Int), .slice (some ⟨ab, 0, none⟩) M M, .slice (some ⟨ab, 0, none⟩) M M, .func (.func 33) #[] #[.pointer (some ⟨ab + 1, 0, none⟩)], .int .i64 (k : Int), .slice (some ⟨ab, 128 * k, none⟩) 128 128, undef, undef,
      undef, undef, undef, undef, undef, undef, undef, undef, undef, undef, undef, undef, undef, undef, undef, undef], defers := [] })
    ?assign ?body ?done ?stop
  case assign =>
    intro l k W K hK
    gi_wp2
    exact hK
  case body =>
    intro l k V hk h2 hI
    obtain ⟨hrow, hfr⟩ := hI
    have ha3 := HAB.out
    have c0 := (hfr.st k0 (by omega)) |> fun h : St 23 w.heap.size #[.pointer (some ⟨p, 0, none⟩)] V => h.cell (j := 0) rfl
    have c1 := (hfr.st k1 (by omega)) |> fun h : St 3 (w.heap.size + 1) #[.int .i64 f] V => h.cell (j := 0) rfl
    have hadd : IntKind.i64.wrap (f + (k : Int)) = f + (k : Int) := by rw [IntKind.wrap_i64]; have : D.kept.length ≤ 65536 := (by obtain ⟨_, _, _, _, _, q, _⟩ := HPV.out V hfr; exact q.pos.2); omega
    have hri := read_in hd hok (i := f + (k : Int)) (by omega) (by omega)
    obtain ⟨sk, hsk⟩ : ∃ sk, sk = secAt D f k := ⟨_, rfl⟩
    have HW := Lib.hid (by have g := dRead_any B p F D (f + (k : Int)) V (HPV.out V hfr); rw [hri.1, show (D.read (f + (k : Int))).1 = sk from hsk.symm] at g; exact g)
    have hs128 : sk.size = 128 := by rw [hsk]; exact hri.2.1
    have hrs := rowX_size hd hok ha.1 m k (by omega) hnm.2.2
    have HNX := Lib.hid (show setMany (tb (rowX D f m k)) (128 * k) (tb sk) = tb (rowX D f m (k + 1)) ∧ (rowX D f m k).size = 128 * m from ⟨by rw [hsk]; exact rowX_next hd hok ha.1 m k hk hnm.2.2, hrs⟩)
    have HRow := Lib.hid hrow
    have HFR := Lib.hid hfr
    have HSK := Lib.hid hs128
    clear hrow hfr hri hsk hs128 hrs k0 k1 k2 k3 ha3
    gi_wp2_with (first
      | (refine ⟨trivial, ?_⟩; gi_at_call 20; refine (CallsIn.inRound l (callsIn_wide.2 HW.out)).mono ?_; rintro a w5 ⟨rfl, b5⟩; have R5 := Lib.hid (HRow.out.below b5); have B5 := Lib.hid b5; clear b5)
      | ((with_reducible show wpListIn _ _ _ _ _ ({ dst := _, op := .call { callee := .builtin .copy, args := _, argTypes := _ }, type := _, pos := _, after := _, guard := _ } :: _) _ _); refine wpListIn_copy_str rfl (.tmp 59) (.tmp 60) 54 9 rfl 5 Tryz.underlying54 size_u8 ab (128 * k) 128 128 rfl sk rfl (by rw [HSK.out]; exact Nat.le_refl _) (St.there R5.out (128 * k) _ (by have := HNX.out.2; have := HSK.out; simp [tb_length]; omega)) ?_))
    have hS := HS0.out
    have fv : Frm (fun j => j = ab) V (w5.setCells ab (128 * k) (tb sk)) := Frm.setCells (F := fun j => j = ab) (.inl rfl) (tb sk) (128 * k) w5 (Frm.of_below B5.out)
    have hR := St.setMany (tb sk) (128 * k) _ _ R5.out
    rw [HNX.out.1] at hR
    exact ⟨fv.block _ (by omega) (by omega), fv.block _ (by omega) (by omega), fv.block _ (by omega) (by omega), hR, HFR.out.aft fv fun j _ e => e⟩
  case done =>
    intro W hI hK hW
    obtain ⟨hrow, hfr⟩ := hI
    have ha3 := HAB.out
    have hS := HS0.out
    have e2 : St 9 (w.heap.size + 2) #[.string ⟨#[]⟩] W := hfr.st k2 (by omega)
    have e3 : St 24 (w.heap.size + 3) #[.int .i64 0] W := hfr.st k3 (by omega)
    rw [rowX_all] at hrow
    have hXs := imgX_size hd hok ha.1 m hnm.2.2
    have HT := itext_any ab (imgX D f m) W (by omega) (by omega) (by rw [HSF.out]; exact hnm.1) hrow
    rw [hXs, ← HM.out] at HT
    rw [← HTX.out] at HT
    replace HT := Lib.hid HT
    have E2 := Lib.hid e2
    have E3 := Lib.hid e3
    have HFR := Lib.hid hfr
    have HK := Lib.hid hK
    have HWS := Lib.hid hW
    clear hrow hfr e2 e3 hK hXs k0 k1 k2 k3 hW ha3 hS
    gi_wp2_with (refine ⟨trivial, ?_⟩; gi_at_call 23; refine (callsIn_wide.2 HT.out).mono ?_; rintro a w5 ⟨rfl, b5⟩; have g2 := St.below E2.out b5; have g3 := St.below E3.out b5; have c2 := g2.cell (j := 0) rfl; have f2 := g2.free 0; have c3 := g3.cell (j := 0) rfl; have f3 := g3.free 0; have G2 := Lib.hid g2; have G3 := Lib.hid g3; have B5 := Lib.hid b5; clear g2 g3 b5)
    have ha3 := HAB.out
    have hS := HS0.out
    have x2 := ((G2.out.set 0 (.string T.1)).other (w.heap.size + 3) 0 (.int .i64 T.2) (by omega))
    have x3 := ((G3.out.other (w.heap.size + 2) 0 (.string T.1) (by omega)).set 0 (.int .i64 T.2))
    have hk5 : w5.heap[W0.heap.size]? = some (.deferred (some [])) := (B5.out.block _ (by have := HWS.out; omega)).trans HK.out
    have hk6 : ((w5.setCell ⟨w.heap.size + 2, 0, none⟩ (.string T.1)).setCell ⟨w.heap.size + 3, 0, none⟩ (.int .i64 T.2)).heap[W0.heap.size]? = some (.deferred (some [])) :=
      (heap_setCell_other _ ⟨w.heap.size + 3, 0, none⟩ W0.heap.size _ (by simp; omega)).trans ((heap_setCell_other _ ⟨w.heap.size + 2, 0, none⟩ W0.heap.size _ (by simp; omega)).trans hk5)
    have bW : Below w.heap.size w W := bw.trans (HFR.out.below bw.size fun j e => by omega)
    have b6 : Below w.heap.size w ((w5.setCell ⟨w.heap.size + 2, 0, none⟩ (.string T.1)).setCell ⟨w.heap.size + 3, 0, none⟩ (.int .i64 T.2)) := ((bW.trans (B5.out.mono bW.size)).setCell (by simp) _).setCell (by simp) _
    generalize ((w5.setCell ⟨w.heap.size + 2, 0, none⟩ (.string T.1)).setCell ⟨w.heap.size + 3, 0, none⟩ (.int .i64 T.2)) = V at x2 x3 hk6 b6 ⊢
    refine ⟨by simp, .inl ⟨_, _, rfl, run_takeDeferred hk6, ?_⟩⟩
    have fp := Frm.put1 W0.heap.size V (.deferred none)
    have y2 := St.cell (fp.st x2 (by omega)) (j := 0) rfl
    have y3 := St.cell (fp.st x3 (by omega)) (j := 0) rfl
    exact ⟨.tuple #[.string T.1, .int .i64 T.2], by simp [results, Tryz.results8, go_sem] at y2 y3 ⊢; simp [y2, y3], rfl, b6.trans (fp.below b6.size fun j e => by have := bw.size; omega)⟩
  case stop =>
    intro W hI
    exact hI.elim
theorem iRead_any (B p : Nat) (F : Nat → Prop) (D : DS) (f c : Int) (w : World) (hd : D.dead = false) (hc : c ≤ 9223372036854775807) (h : PD B p F D w) :
    Calls Tryz.prog 8 #[.pointer (some ⟨p, 0, none⟩), .int .i64 f, .int .i64 c] w fun e w' => e = .returned (.tuple #[.string (imgR D f c).1, .int .i64 (imgR D f c).2]) ∧ Below w.heap.size w w' := by
  unfold imgR
  by_cases ho : outB f c D.kept.length = true
  · rw [if_pos ho]
    exact iRead_out B p F D f c w hc ho h
  · rw [if_neg ho]
    rw [Bool.not_eq_true] at ho
    by_cases hh : holdsB c (sizF (secAt D f 0)) = false
    · rw [if_pos hh]
      exact iRead_form B p F D f c w hd hc ho hh h
    · rw [if_neg hh]
      rw [Bool.not_eq_false] at hh
      exact iRead_do B p F D f c w hd hc ho hh h
end Go.Proofs.YtikeckmbfgidhaaGreatDoor

/- Texts in areas of a disk: what is read behind what was written, plainly. No function of the program is named here. -/
namespace Go.Proofs.YtikeckmbfgidhaaGreatDoor
open Go.RowKit

theorem ext_list (X : ByteArray) (i j : Nat) : (X.extract i j).data.toList = (X.data.toList.take j).drop i := by
  rw [ByteArray.data_extract, Array.toList_extract, List.extract_eq_take_drop, List.drop_take]
theorem stB_list (s : ByteArray) : (stB s).data.toList = stHead s ++ List.replicate (128 * secN s.size - (stHead s).length) 0 := by
  unfold stB str noughts
  rw [ByteArray.data_append, Array.toList_append]
  simp
theorem sizF_stB (s : ByteArray) (h : s.size ≤ 1048576) : sizF (stB s) = s.size := by
  unfold sizF
  rw [ext_list, stB_list, List.drop_zero]
  unfold stHead
  rw [List.append_assoc, List.append_assoc, List.take_left' (be_length 4 s.size)]
  exact num_be 4 s.size (by omega)
theorem stB_rest (s : ByteArray) : ((stB s).extract 8 (stB s).size).data.toList = padded s ++ List.replicate (128 * secN s.size - (stHead s).length) 0 := by
  rw [ext_list, List.take_of_length_le (by rw [Lib.size_eq]; exact Nat.le_refl _), stB_list]
  unfold stHead
  rw [List.append_assoc, List.drop_left' (by simp [be_length])]
theorem txS_stB (s : ByteArray) (h : s.size ≤ 1048576) : txS (stB s) = s := by
  have hr := stB_rest s
  have hz := stB_size s
  have hp := padN_lt s.size
  have hs : 8 + s.size + padN s.size ≤ (stB s).size := by rw [hz]; unfold secN padN; omega
  unfold txS
  rw [sizF_stB s h]
  generalize hR : (stB s).extract 8 (stB s).size = R at hr ⊢
  have hRs : R.size = (stB s).size - 8 := by rw [← hR, ByteArray.size_extract]; omega
  have e1 : ((R.extract s.size (s.size + padN s.size)).data.toList) = List.replicate (padN s.size) 0 := by
    rw [ext_list, hr]
    unfold padded
    have hl : s.data.toList.length = s.size := by rw [Lib.size_eq]
    rw [List.take_append_of_le_length (by simp [hl]), List.take_of_length_le (by simp [hl]), List.drop_left' hl]
  have e2 : R.extract 0 s.size = s := by
    apply ByteArray.ext
    apply Array.toList_inj.1
    have hl : s.data.toList.length = s.size := by rw [Lib.size_eq]
    rw [ext_list, hr, List.drop_zero]
    unfold padded
    rw [List.append_assoc, List.take_left' hl]
  unfold rdFixed
  rw [if_neg (by omega), if_neg (by omega), if_neg (by simp), Int.toNat_natCast, if_neg (by omega), e1, if_neg (by simp [allZero])]
  exact e2
theorem txB_stB (s : ByteArray) (h : s.size ≤ 1048576) : txB (stB s) = (s, 0) := by
  unfold txB
  rw [txS_stB s h, if_pos rfl]
/-- Whatever is read is a text, or none. -/
theorem txB_or (X : ByteArray) : (txB X).2 = 0 ∨ ((txB X).1 = ⟨#[]⟩ ∧ (txB X).2 = 14) := by
  unfold txB
  split
  · exact .inl rfl
  · exact .inr ⟨rfl, rfl⟩
theorem imgR_or (D : DS) (f c : Int) (h : outB f c D.kept.length = false) : (imgR D f c).2 = 0 ∨ ((imgR D f c).1 = ⟨#[]⟩ ∧ (imgR D f c).2 = 14) := by
  unfold imgR
  rw [if_neg (by simp [h])]
  split
  · exact .inr ⟨rfl, rfl⟩
  · exact txB_or _

/-- What a sector has. -/
def cntOf (D : DS) (i : Nat) : ByteArray := lastOf i (D.kept.getD i ⟨#[]⟩) D.wait
theorem lastOf_append (i : Nat) : ∀ (l m : List (Nat × ByteArray)) (s : ByteArray), lastOf i s (l ++ m) = lastOf i (lastOf i s l) m
  | [], _, _ => rfl
  | _ :: l, m, _ => lastOf_append i l m _
theorem keepAll_last (i : Nat) : ∀ (l : List (Nat × ByteArray)) (K : List ByteArray), i < K.length → (keepAll K l).getD i ⟨#[]⟩ = lastOf i (K.getD i ⟨#[]⟩) l
  | [], _, _ => rfl
  | x :: l, K, h => by
    have e : keepAll K (x :: l) = keepAll (K.set x.1 x.2) l := rfl
    rw [e, keepAll_last i l _ (by rw [List.length_set]; exact h), lastOf]
    congr 1
    rw [List.getD_eq_getElem?_getD, List.getElem?_set]
    by_cases hx : x.1 = i
    · rw [if_pos hx, if_pos hx, if_pos (by rw [hx]; exact h)]; rfl
    · rw [if_neg hx, if_neg hx, List.getD_eq_getElem?_getD]
/-- Parts that are written one after the other. -/
def pts (f : Nat) (X : ByteArray) : Nat → List (Nat × ByteArray)
  | 0 => []
  | k + 1 => pts f X k ++ [(f + k, partX X k)]
theorem pts_length (f : Nat) (X : ByteArray) : ∀ k, (pts f X k).length = k
  | 0 => rfl
  | k + 1 => by rw [pts, List.length_append, pts_length f X k]; rfl
theorem lastOf_pts (i f : Nat) (X : ByteArray) (s : ByteArray) : ∀ k, lastOf i s (pts f X k) = if f ≤ i ∧ i < f + k then partX X (i - f) else s
  | 0 => by rw [if_neg (by omega)]; rfl
  | k + 1 => by
    rw [pts, lastOf_snoc, lastOf_pts i f X s k]
    by_cases h : f + k = i
    · rw [if_pos h, if_pos (by omega)]; show partX X k = _; congr 1; omega
    · rw [if_neg h]
      by_cases h2 : f ≤ i ∧ i < f + k
      · rw [if_pos h2, if_pos (by omega)]
      · rw [if_neg h2, if_neg (by omega)]
theorem blank_full (s : ByteArray) (h : s.size = 128) : blank s = s := by
  unfold blank
  rw [h]
  exact append_none s
/-- A write of a whole sector, on a disk that works and has a fuse that is not burnt, or none. -/
theorem write_full (D : DS) (n i : Nat) (s : ByteArray) (hd : D.dead = false) (hok : D.ok n) (hi : i < n) (hs : s.size = 128) (hf : D.fuse ≠ 0) : D.write i s = (0, { D with wait := D.wait ++ [(i, s)], wr := D.wr + 1, fuse := if 0 < D.fuse then D.fuse - 1 else D.fuse }) := by
  have hin : D.inside i = true := by unfold DS.inside; rw [hok.len]; simp; omega
  unfold DS.write
  rw [if_neg (by simp [hd]), if_neg (by simp [hin]), if_neg (by omega), if_neg hf, blank_full s hs, Int.toNat_natCast]
  unfold DS.burnt
  rw [if_neg hf]
  split <;> rfl
theorem write_off (D : DS) (n i : Nat) (s : ByteArray) (hd : D.dead = false) (hok : D.ok n) (hi : i < n) (hs : s.size = 128) (hf : D.fuse = 0) : D.write i s = (30, { D with dead := true }) := by
  have hin : D.inside i = true := by unfold DS.inside; rw [hok.len]; simp; omega
  unfold DS.write
  rw [if_neg (by simp [hd]), if_neg (by simp [hin]), if_neg (by omega), if_pos hf]
  unfold DS.burnt
  rw [if_pos hf]
/-- Behind so many writes that were done. -/
def DS.wrote (D : DS) (f : Nat) (X : ByteArray) (k : Nat) : DS := { D with wait := D.wait ++ pts f X k, wr := D.wr + k, fuse := if D.fuse < 0 then D.fuse else D.fuse - k }
theorem wrote_ok {D : DS} {n : Nat} (hok : D.ok n) (f : Nat) (X : ByteArray) : ∀ k : Nat, f + k ≤ n → 128 * k ≤ X.size → (D.fuse < 0 ∨ k ≤ D.fuse) → (D.wrote f X k).ok n
  | k, h1, h2, h3 => by
    have hp : ∀ k : Nat, f + k ≤ n → 128 * k ≤ X.size → ∀ x ∈ pts f X k, x.1 < n ∧ x.2.size = 128 := by
      intro k
      induction k with
      | zero => intro _ _ x hx; cases hx
      | succ k ih =>
        intro h1 h2 x hx
        rcases List.mem_append.1 hx with hx | hx
        · exact ih (by omega) (by omega) x hx
        · simp only [List.mem_singleton] at hx
          subst hx
          exact ⟨by show f + k < n; omega, partX_size X k (by omega)⟩
    have h4 := hok.lo
    have h5 := hok.hi
    refine ⟨hok.len, fun x hx => ?_, hok.full, fun x hx => ?_, ?_, ?_⟩
    · rcases List.mem_append.1 hx with hx | hx
      · exact hok.inn x hx
      · exact (hp k h1 h2 x hx).1
    · rcases List.mem_append.1 hx with hx | hx
      · exact hok.fulw x hx
      · exact (hp k h1 h2 x hx).2
    · show -1 ≤ (if D.fuse < 0 then D.fuse else D.fuse - k)
      split <;> omega
    · show (if D.fuse < 0 then D.fuse else D.fuse - k) ≤ _
      split <;> omega
theorem wr_ok {D : DS} {n : Nat} (hd : D.dead = false) (hok : D.ok n) (f : Nat) (X : ByteArray) : ∀ k : Nat, f + k ≤ n → 128 * k ≤ X.size → (D.fuse < 0 ∨ k ≤ D.fuse) → wrRes D f X k = (0, D.wrote f X k)
  | 0, _, _, _ => by
    unfold wrRes DS.wrote pts
    rw [List.append_nil]
    split <;> simp
  | k + 1, h1, h2, h3 => by
    have ih := wr_ok hd hok f X k (by omega) (by omega) (by omega)
    have hk := wrote_ok hok f X k (by omega) (by omega) (by omega)
    rw [wrRes_on D f X k (by rw [ih]), ih]
    have hw := write_full (D.wrote f X k) n (f + k) (partX X k) hd hk (by omega) (partX_size X k (by omega)) (by
      show (if D.fuse < 0 then D.fuse else D.fuse - k) ≠ 0
      split <;> omega)
    rw [show ((f : Int) + (k : Int)) = ((f + k : Nat) : Int) from by omega, hw]
    unfold DS.wrote
    simp only [pts, List.append_assoc, Nat.add_assoc]
    congr 2
    by_cases hf : D.fuse < 0
    · rw [if_pos hf, if_neg (by omega)]
      split <;> omega
    · rw [if_neg hf]
      split <;> omega
theorem wr_die {D : DS} {n : Nat} (hd : D.dead = false) (hok : D.ok n) (f F : Nat) (X : ByteArray) (k : Nat) (h1 : f + k ≤ n) (h2 : 128 * k ≤ X.size) (hF : D.fuse = F) (hFk : F < k) : wrRes D f X k = (30, { D.wrote f X F with dead := true }) := by
  have ih := wr_ok hd hok f X F (by omega) (by omega) (by omega)
  have hk := wrote_ok hok f X F (by omega) (by omega) (by omega)
  have e : wrRes D f X (F + 1) = (30, { D.wrote f X F with dead := true }) := by
    rw [wrRes_on D f X F (by rw [ih]), ih]
    have hw := write_off (D.wrote f X F) n (f + F) (partX X F) hd hk (by omega) (partX_size X F (by omega)) (by
      show (if D.fuse < 0 then D.fuse else D.fuse - F) = 0
      split <;> omega)
    rw [show ((f : Int) + (F : Int)) = ((f + F : Nat) : Int) from by omega, hw]
  rw [wrRes_end D f X (F + 1) k (by omega) (by rw [e]; simp), e]
theorem secAt_cnt {D : DS} {n : Nat} (hd : D.dead = false) (hok : D.ok n) (f k : Nat) (h : f + k < n) : secAt D f k = cntOf D (f + k) := by
  have hr := (read_in hd hok (i := (f : Int) + k) (by omega) (by omega)).2.2
  unfold secAt cntOf
  rw [hr, show ((f : Int) + (k : Int)).toNat = f + k from by omega]
/-- A text lies there. -/
def Lies (D : DS) (f : Nat) (s : ByteArray) : Prop := ∀ k, k < secN s.size → cntOf D (f + k) = partX (stB s) k
theorem imgX_all {D : DS} {n : Nat} (hd : D.dead = false) (hok : D.ok n) (f : Nat) (X : ByteArray) (m : Nat) (hm : X.size = 128 * m) (hX : ∀ k, k < m → secAt D f k = partX X k) : ∀ k, k ≤ m → imgX D f k = X.extract 0 (128 * k)
  | 0, _ => by
    apply ByteArray.ext
    simp [imgX]
  | k + 1, h => by
    rw [imgX, imgX_all hd hok f X m hm hX k (by omega), hX k (by omega)]
    unfold partX
    apply ByteArray.ext
    rw [ByteArray.data_append]
    simp only [ByteArray.data_extract]
    rw [Array.extract_append_extract]
    congr 1 <;> omega
theorem imgR_lies {D : DS} {n : Nat} (hd : D.dead = false) (hok : D.ok n) (f c : Nat) (s : ByteArray) (hs : s.size ≤ 1048576) (hc : 1 ≤ c) (hn : f + c ≤ n) (hm : secN s.size ≤ c) (h : Lies D f s) : imgR D f c = (s, 0) := by
  have hX : ∀ k, k < secN s.size → secAt D f k = partX (stB s) k := fun k hk => (secAt_cnt hd hok f k (by omega)).trans (h k hk)
  have hz := stB_size s
  have hpos : 0 < secN s.size := by unfold secN; omega
  have h0 : sizF (secAt D f 0) = s.size := by
    rw [hX 0 hpos]
    rw [← sizF_stB s hs]
    unfold sizF partX
    rw [Nat.mul_zero, Nat.zero_add, ext_first _ _ _ (by omega)]
  unfold imgR
  rw [hok.len, if_neg (by unfold outB; simp; omega), h0, if_neg (by unfold holdsB; rw [secI_nat _ hs]; simp; omega), imgX_all hd hok f (stB s) (secN s.size) hz hX _ (Nat.le_refl _), ← hz]
  rw [show (stB s).extract 0 (stB s).size = stB s from by apply ByteArray.ext; rw [ByteArray.data_extract]; exact Array.extract_size]
  exact txB_stB s hs
end Go.Proofs.YtikeckmbfgidhaaGreatDoor

/- Texts in areas of a disk: the laws' own calls, plainly. No function of the program is named here. -/
namespace Go.Proofs.YtikeckmbfgidhaaGreatDoor
open Go.RowKit

theorem ds_new_ok (n : Nat) : (DS.new n).ok n := by
  have hb : (blank (⟨#[]⟩ : ByteArray)).size = 128 := blank_size _ (by decide)
  exact ⟨List.length_replicate, fun x hx => (by cases hx), fun x hx => (by rw [(List.mem_replicate.1 hx).2]; exact hb), fun x hx => (by cases hx), Int.le_refl _, (by show (-1 : Int) ≤ 9223372036854775807; omega)⟩
theorem cnt_wrote (D : DS) (f : Nat) (X : ByteArray) (k i : Nat) : cntOf (D.wrote f X k) i = if f ≤ i ∧ i < f + k then partX X (i - f) else cntOf D i := by
  unfold cntOf DS.wrote
  simp only []
  rw [lastOf_append, lastOf_pts]
theorem lies_wrote (D : DS) (f : Nat) (s : ByteArray) : Lies (D.wrote f (stB s) (secN s.size)) f s := fun k hk => by
  rw [cnt_wrote, if_pos (by omega)]
  congr 1
  omega
theorem lies_still {D : DS} {f g : Nat} {s t : ByteArray} (h : Lies D g t) (hd : g + secN t.size ≤ f ∨ f + secN s.size ≤ g) : Lies (D.wrote f (stB s) (secN s.size)) g t := fun k hk => by
  rw [cnt_wrote, if_neg (by omega)]
  exact h k hk
theorem imgW_ok {D : DS} {n : Nat} {f c : Nat} {s : ByteArray} (hd : D.dead = false) (hok : D.ok n) (hf : D.fuse < 0 ∨ (secN s.size : Int) ≤ D.fuse) (hs : s.size ≤ 1048576) (hc : 1 ≤ c) (hn : f + c ≤ n) (hm : secN s.size ≤ c) :
    imgW D f c s = (0, D.wrote f (stB s) (secN s.size)) := by
  have hz := stB_size s
  have hpos : 0 < secN s.size := by unfold secN; omega
  unfold imgW
  rw [hok.len, if_neg (by unfold outB; simp; omega), if_neg (by unfold holdsB; rw [secI_nat _ hs]; simp; omega)]
  exact wr_ok hd hok f (stB s) (secN s.size) (by omega) (by omega) hf
theorem imgW_die {D : DS} {n : Nat} (hd : D.dead = false) (hok : D.ok n) {f c F : Nat} {s : ByteArray} (hF : D.fuse = F) (hFk : F < secN s.size) (hs : s.size ≤ 1048576) (hc : 1 ≤ c) (hn : f + c ≤ n) (hm : secN s.size ≤ c) :
    imgW D f c s = (30, { D.wrote f (stB s) F with dead := true }) := by
  have hz := stB_size s
  have hpos : 0 < secN s.size := by unfold secN; omega
  unfold imgW
  rw [hok.len, if_neg (by unfold outB; simp; omega), if_neg (by unfold holdsB; rw [secI_nat _ hs]; simp; omega)]
  exact wr_die hd hok f F (stB s) (secN s.size) (by omega) (by omega) hF hFk
/-- A disk behind a barrier. -/
theorem barrier_is (D : DS) (hd : D.dead = false) (hf : D.fuse < 0) : D.barrier = (0, { D with kept := keepAll D.kept D.wait, wait := [], br := D.br + 1 }) := by
  have hb : D.burnt = D := by unfold DS.burnt; rw [if_neg (by omega), if_neg (by omega)]
  unfold DS.barrier
  rw [if_neg (by simp [hd]), if_neg (by omega), hb]
theorem lies_barrier {D D' : DS} {n f : Nat} {s : ByteArray} (hl : D.kept.length = n) (hn : f + secN s.size ≤ n) (h : Lies D f s) (hk : D'.kept = keepAll D.kept D.wait) (hw : D'.wait = []) : Lies D' f s := fun k hk2 => by
  rw [← h k hk2]
  unfold cntOf
  rw [hk, hw, keepAll_last _ _ _ (by omega)]
  rfl
theorem chosen_no (l : List (Nat × ByteArray)) : ∀ n, chosen [] l n = [] := by
  induction l with
  | nil => intro n; rfl
  | cons x l ih => intro n; simp [chosen, ih]
theorem chosen_all (keep : List Int) : ∀ (l : List (Nat × ByteArray)) (n : Nat), (∀ i, i < l.length → ((n + i : Nat) : Int) ∈ keep) → chosen keep l n = l
  | [], _, _ => rfl
  | x :: l, n, h => by
    have h0 := h 0 (by simp)
    rw [Nat.add_zero] at h0
    unfold chosen
    rw [if_pos h0, chosen_all keep l (n + 1) fun i hi => by have := h (i + 1) (by simp; omega); rwa [show n + 1 + i = n + (i + 1) from by omega]]
theorem lies_crash {D : DS} {n f : Nat} {s : ByteArray} {keep : List Int} (hl : D.kept.length = n) (hn : f + secN s.size ≤ n) (h : Lies { D with wait := chosen keep D.wait 0 } f s) : Lies (D.crash keep) f s :=
  lies_barrier (D := { D with wait := chosen keep D.wait 0 }) hl hn h rfl rfl

/-- The disk of the laws' fixed calls. -/
theorem abc_size : (⟨#[97, 98, 99]⟩ : ByteArray).size = 3 := rfl
theorem back_plain (a b : ByteArray) (ha : a.size ≤ 1200) (hb : b.size ≤ 1200) : ∃ D1 D2 D3 : DS, imgW (DS.new 30) 0 12 a = (0, D1) ∧ imgW D1 12 12 b = (0, D2) ∧ imgR D2 0 12 = (a, 0) ∧ imgR D2 12 12 = (b, 0) ∧ D2.barrier = (0, D3) ∧
    D2.dead = false ∧ (D3.crash []).dead = false ∧ ((D3.crash []).ok 30 → imgR (D3.crash []) 0 12 = (a, 0)) ∧ D1.wait.length ≤ 100 ∧ D1.wr ≤ 100 ∧ D2.wait.length ≤ 100 ∧ D2.br ≤ 100 ∧ D3.wait = [] ∧ (D3.crash []).kept.length = 30 := by
  have hok0 := ds_new_ok 30
  have ma : secN a.size ≤ 10 := by unfold secN; omega
  have mb : secN b.size ≤ 10 := by unfold secN; omega
  have hzA := stB_size a
  have hzB := stB_size b
  have h1 := imgW_ok (D := DS.new 30) (n := 30) rfl hok0 (.inl (by show (-1 : Int) < 0; omega)) (f := 0) (c := 12) (s := a) (by omega) (by omega) (by omega) (by omega)
  have hok1 := wrote_ok hok0 0 (stB a) (secN a.size) (by omega) (by omega) (.inl (by show (-1 : Int) < 0; omega))
  have hl1 := lies_wrote (DS.new 30) 0 a
  have hd1 : ((DS.new 30).wrote 0 (stB a) (secN a.size)).dead = false := rfl
  have hf1 : ((DS.new 30).wrote 0 (stB a) (secN a.size)).fuse = -1 := rfl
  have hw1 : ((DS.new 30).wrote 0 (stB a) (secN a.size)).wait.length = secN a.size := by show ([] ++ pts 0 (stB a) (secN a.size)).length = _; rw [List.nil_append, pts_length]
  have hr1 : ((DS.new 30).wrote 0 (stB a) (secN a.size)).wr = 0 + secN a.size := rfl
  have hk1 : ((DS.new 30).wrote 0 (stB a) (secN a.size)).br = 0 := rfl
  generalize (DS.new 30).wrote 0 (stB a) (secN a.size) = D1 at h1 hok1 hl1 hd1 hf1 hw1 hr1 hk1
  have h2 := imgW_ok (D := D1) (n := 30) hd1 hok1 (.inl (by omega)) (f := 12) (c := 12) (s := b) (by omega) (by omega) (by omega) (by omega)
  have hok2 := wrote_ok hok1 12 (stB b) (secN b.size) (by omega) (by omega) (.inl (by omega))
  have hl2 := lies_wrote D1 12 b
  have hl3 := lies_still (f := 12) (s := b) hl1 (.inl (by omega))
  have hd2 : (D1.wrote 12 (stB b) (secN b.size)).dead = false := hd1
  have hf2 : (D1.wrote 12 (stB b) (secN b.size)).fuse < 0 := by show (if D1.fuse < 0 then D1.fuse else D1.fuse - _) < 0; rw [if_pos (by omega)]; omega
  have hw2 : (D1.wrote 12 (stB b) (secN b.size)).wait.length = secN a.size + secN b.size := by show (D1.wait ++ pts 12 (stB b) (secN b.size)).length = _; rw [List.length_append, pts_length, hw1]
  have hk2 : (D1.wrote 12 (stB b) (secN b.size)).br = 0 := hk1
  generalize D1.wrote 12 (stB b) (secN b.size) = D2 at h2 hok2 hl2 hl3 hd2 hf2 hw2 hk2
  have hba := barrier_is D2 hd2 hf2
  have hl4 := lies_barrier (D' := { D2 with kept := keepAll D2.kept D2.wait, wait := [], br := D2.br + 1 }) hok2.len (by omega) hl3 rfl rfl
  have hlen : ({ D2 with kept := keepAll D2.kept D2.wait, wait := [], br := D2.br + 1 } : DS).kept.length = 30 := by show (keepAll D2.kept D2.wait).length = 30; rw [keepAll_length, hok2.len]
  have hwa : ({ D2 with kept := keepAll D2.kept D2.wait, wait := [], br := D2.br + 1 } : DS).wait = [] := rfl
  generalize ({ D2 with kept := keepAll D2.kept D2.wait, wait := [], br := D2.br + 1 } : DS) = D3 at hba hl4 hlen hwa
  have hl5 : Lies (D3.crash []) 0 a := by
    refine lies_crash (keep := []) hlen (by omega) ?_
    rw [chosen_no]
    intro k hk
    rw [← hl4 k hk]
    unfold cntOf
    rw [hwa]
  exact ⟨D1, D2, D3, h1, h2, imgR_lies hd2 hok2 0 12 a (by omega) (by omega) (by omega) (by omega) hl3, imgR_lies hd2 hok2 12 12 b (by omega) (by omega) (by omega) (by omega) hl2, hba, hd2, rfl,
    fun hok => imgR_lies rfl hok 0 12 a (by omega) (by omega) (by omega) (by omega) hl5, by omega, by omega, by omega, by omega, hwa, by show (keepAll D3.kept (chosen [] D3.wait 0)).length = 30; rw [keepAll_length, hlen]⟩
theorem known_plain : ∃ D1 : DS, imgW (DS.new 3) 1 2 ⟨#[97, 98, 99]⟩ = (0, D1) ∧ D1.dead = false ∧ imgR D1 1 2 = (⟨#[97, 98, 99]⟩, 0) := by
  have hok0 := ds_new_ok 3
  have hs : (⟨#[97, 98, 99]⟩ : ByteArray).size = 3 := rfl
  generalize (⟨#[97, 98, 99]⟩ : ByteArray) = a at hs
  have ma : secN a.size = 1 := by rw [hs]; rfl
  have hzA := stB_size a
  have h1 := imgW_ok (D := DS.new 3) (n := 3) rfl hok0 (.inl (by show (-1 : Int) < 0; omega)) (f := 1) (c := 2) (s := a) (by omega) (by omega) (by omega) (by omega)
  have hok1 := wrote_ok hok0 1 (stB a) (secN a.size) (by omega) (by omega) (.inl (by show (-1 : Int) < 0; omega))
  exact ⟨_, h1, rfl, imgR_lies rfl hok1 1 2 a (by omega) (by omega) (by omega) (by omega) (lies_wrote (DS.new 3) 1 a)⟩
theorem arm_is (D : DS) (hd : D.dead = false) (F : Nat) : (D.arm F).2 = { D with fuse := F } := by
  unfold DS.arm
  rw [if_neg (by simp [hd]), if_neg (by omega)]
/-- What comes of a disk that may die within Write. -/
theorem dies_plain (a b : ByteArray) (F : Nat) (keep : List Int) (ha : a.size ≤ 900) (hb : b.size ≤ 900) (hF : F ≤ 9) : ∃ (D1 D2 D3 D4 : DS) (ev : Int), imgW (DS.new 8) 0 8 a = (0, D1) ∧ D1.barrier = (0, D2) ∧ (D2.arm F).2 = D3 ∧ imgW D3 0 8 b = (ev, D4) ∧
    D1.br ≤ 100 ∧ D3.wait.length ≤ 100 ∧ D3.wr ≤ 100 ∧ D4.wait.length ≤ 100 ∧ (D4.crash keep).kept.length = 8 ∧
    ((D4.crash keep).ok 8 → (ev = 0 → (∀ i, i < secN b.size → (i : Int) ∈ keep) → imgR (D4.crash keep) 0 8 = (b, 0) ∧ D4.wait.length = secN b.size) ∧
      (D4.wait.length = 0 ∨ keep = [] → imgR (D4.crash keep) 0 8 = (a, 0)) ∧ ((imgR (D4.crash keep) 0 8).2 = 0 ∨ ((imgR (D4.crash keep) 0 8).1 = ⟨#[]⟩ ∧ (imgR (D4.crash keep) 0 8).2 = 14))) := by
  have hok0 := ds_new_ok 8
  have ma : secN a.size ≤ 8 := by unfold secN; omega
  have mb : secN b.size ≤ 8 := by unfold secN; omega
  have mb0 : 0 < secN b.size := by unfold secN; omega
  have hzA := stB_size a
  have hzB := stB_size b
  have h1 := imgW_ok (D := DS.new 8) (n := 8) (f := 0) (c := 8) (s := a) rfl hok0 (.inl (by show (-1 : Int) < 0; omega)) (by omega) (by omega) (by omega) (by omega)
  have hok1 := wrote_ok hok0 0 (stB a) (secN a.size) (by omega) (by omega) (.inl (by show (-1 : Int) < 0; omega))
  have hl1 := lies_wrote (DS.new 8) 0 a
  have hd1 : ((DS.new 8).wrote 0 (stB a) (secN a.size)).dead = false := rfl
  have hf1 : ((DS.new 8).wrote 0 (stB a) (secN a.size)).fuse = -1 := rfl
  have hr1 : ((DS.new 8).wrote 0 (stB a) (secN a.size)).wr = 0 + secN a.size := rfl
  have hk1 : ((DS.new 8).wrote 0 (stB a) (secN a.size)).br = 0 := rfl
  generalize (DS.new 8).wrote 0 (stB a) (secN a.size) = D1 at h1 hok1 hl1 hd1 hf1 hr1 hk1
  have hba := barrier_is D1 hd1 (by omega)
  have hl2 := lies_barrier (D' := { D1 with kept := keepAll D1.kept D1.wait, wait := [], br := D1.br + 1 }) hok1.len (by omega) hl1 rfl rfl
  have hlen2 : ({ D1 with kept := keepAll D1.kept D1.wait, wait := [], br := D1.br + 1 } : DS).kept.length = 8 := by show (keepAll D1.kept D1.wait).length = 8; rw [keepAll_length, hok1.len]
  have hd2 : ({ D1 with kept := keepAll D1.kept D1.wait, wait := [], br := D1.br + 1 } : DS).dead = false := hd1
  have hwa2 : ({ D1 with kept := keepAll D1.kept D1.wait, wait := [], br := D1.br + 1 } : DS).wait = [] := rfl
  have hwr2 : ({ D1 with kept := keepAll D1.kept D1.wait, wait := [], br := D1.br + 1 } : DS).wr = secN a.size := by show D1.wr = _; omega
  have hful2 : ∀ x ∈ ({ D1 with kept := keepAll D1.kept D1.wait, wait := [], br := D1.br + 1 } : DS).kept, x.size = 128 := by
    intro x hx
    obtain ⟨i, hi, rfl⟩ := List.getElem_of_mem hx
    have hi8 : i < D1.kept.length := by rw [hlen2] at hi; rw [hok1.len]; exact hi
    have h := keepAll_last i D1.wait D1.kept hi8
    rw [List.getD_eq_getElem?_getD, List.getElem?_eq_getElem hi] at h
    rw [show ({ D1 with kept := keepAll D1.kept D1.wait, wait := [], br := D1.br + 1 } : DS).kept[i] = lastOf i (D1.kept.getD i ⟨#[]⟩) D1.wait from h]
    refine lastOf_full _ _ _ ?_ hok1.fulw
    rw [List.getD_eq_getElem?_getD, List.getElem?_eq_getElem hi8]
    exact hok1.full _ (List.getElem_mem _)
  generalize ({ D1 with kept := keepAll D1.kept D1.wait, wait := [], br := D1.br + 1 } : DS) = D2 at hba hl2 hlen2 hd2 hwa2 hwr2 hful2
  have harm := arm_is D2 hd2 F
  have hok3 : ({ D2 with fuse := (F : Int) } : DS).ok 8 := ⟨hlen2, fun x hx => (by rw [show ({ D2 with fuse := (F : Int) } : DS).wait = [] from hwa2] at hx; cases hx), hful2, fun x hx => (by rw [show ({ D2 with fuse := (F : Int) } : DS).wait = [] from hwa2] at hx; cases hx), (by show (-1 : Int) ≤ (F : Int); omega), (by show (F : Int) ≤ _; omega)⟩
  have hd3 : ({ D2 with fuse := (F : Int) } : DS).dead = false := hd2
  have hf3 : ({ D2 with fuse := (F : Int) } : DS).fuse = F := rfl
  have hw3 : ({ D2 with fuse := (F : Int) } : DS).wait = [] := hwa2
  have hr3 : ({ D2 with fuse := (F : Int) } : DS).wr = secN a.size := hwr2
  have hl3 : Lies ({ D2 with fuse := (F : Int) } : DS) 0 a := fun k hk => hl2 k hk
  generalize ({ D2 with fuse := (F : Int) } : DS) = D3 at harm hok3 hd3 hf3 hw3 hr3 hl3
  have rest : ∀ (D4 : DS) (N : Nat) (ev : Int), imgW D3 0 8 b = (ev, D4) → D4.kept = D3.kept → D4.wait = pts 0 (stB b) N → N ≤ secN b.size → (ev = 0 → N = secN b.size) →
      D4.wait.length ≤ 100 ∧ (D4.crash keep).kept.length = 8 ∧ ((D4.crash keep).ok 8 → (ev = 0 → (∀ i, i < secN b.size → (i : Int) ∈ keep) → imgR (D4.crash keep) 0 8 = (b, 0) ∧ D4.wait.length = secN b.size) ∧
      (D4.wait.length = 0 ∨ keep = [] → imgR (D4.crash keep) 0 8 = (a, 0)) ∧ ((imgR (D4.crash keep) 0 8).2 = 0 ∨ ((imgR (D4.crash keep) 0 8).1 = ⟨#[]⟩ ∧ (imgR (D4.crash keep) 0 8).2 = 14))) := by
    intro D4 N ev _ hk hw hN hev
    have hl4 : D4.kept.length = 8 := by rw [hk]; exact hok3.len
    have hwl : D4.wait.length = N := by rw [hw, pts_length]
    have hcl : (D4.crash keep).kept.length = 8 := by show (keepAll D4.kept (chosen keep D4.wait 0)).length = 8; rw [keepAll_length, hl4]
    refine ⟨by omega, hcl, fun hok => ⟨fun h0 hall => ⟨?_, by rw [hwl]; exact hev h0⟩, fun hno => ?_, imgR_or _ _ _ (by rw [hcl]; rfl)⟩⟩
    · have hN2 := hev h0
      refine imgR_lies rfl hok 0 8 b (by omega) (by omega) (by omega) (by omega) (lies_crash hl4 (by omega) ?_)
      rw [chosen_all keep D4.wait 0 fun i hi => by rw [Nat.zero_add]; exact hall i (by omega)]
      intro k hk2
      unfold cntOf
      rw [show ({ D4 with wait := D4.wait } : DS).wait = pts 0 (stB b) N from hw, lastOf_pts, if_pos (by omega)]
      congr 1
      omega
    · refine imgR_lies rfl hok 0 8 a (by omega) (by omega) (by omega) (by omega) (lies_crash hl4 (by omega) ?_)
      have hch : chosen keep D4.wait 0 = [] := by
        rcases hno with h | h
        · rw [List.eq_nil_of_length_eq_zero h]; rfl
        · rw [h]; exact chosen_no _ _
      rw [hch]
      intro k hk2
      rw [← hl3 k hk2]
      unfold cntOf
      rw [hw3, show ({ D4 with wait := [] } : DS).kept = D3.kept from hk]
  by_cases hFb : secN b.size ≤ F
  · have h4 := imgW_ok (f := 0) (c := 8) (s := b) hd3 hok3 (.inr (by omega)) (by omega) (by omega) (by omega) (by omega)
    obtain ⟨r1, r2, r3⟩ := rest _ (secN b.size) 0 h4 rfl (by show D3.wait ++ _ = _; rw [hw3]; rfl) (Nat.le_refl _) fun _ => rfl
    exact ⟨D1, D2, D3, _, 0, h1, hba, harm, h4, by omega, by rw [hw3]; exact Nat.zero_le _, by omega, r1, r2, r3⟩
  · have h4 := imgW_die (f := 0) (c := 8) (s := b) (F := F) hd3 hok3 hf3 (by omega) (by omega) (by omega) (by omega) (by omega)
    obtain ⟨r1, r2, r3⟩ := rest _ F 30 h4 rfl (by show D3.wait ++ _ = _; rw [hw3]; rfl) (by omega) fun h => absurd h (by decide)
    exact ⟨D1, D2, D3, _, 30, h1, hba, harm, h4, by omega, by rw [hw3]; exact Nat.zero_le _, by omega, r1, r2, r3⟩
end Go.Proofs.YtikeckmbfgidhaaGreatDoor
