/- PROVED HERE: for every list of triples of bytes, the law SumTurns returns true: the sums of three texts of one length, and of the one that they make byte by byte, come to nothing together. CONDITIONS: none. -/
import Derived.Test.YtbdjhkcpnkdbkaaSr
import Derived.Test.YtbdjhkcpnkdbkaaCrd
import Derived.Test.YtbdjhkcpnkdbkaaLaw
import Derived.Deep.RegionHeld3
import Derived.Deep.Slices
namespace Go.Proofs.Ytbdjhkcpnkdbkaa.sumTurns
open Go.ChangeShapes Go.WideShapes Go.ChangeAt Go.RowKit

theorem own : ownKnob Try.prog.godebug = none := by kernel_rfl
theorem laidOut : laidOutB Try.prog = true := by kernel_rfl
theorem infoU8 : (Try.prog.info? 5).map (fun i => (i.zero, i.size, i.bytes)) = some (some (.int .u8 0), 1, 1) := by kernel_rfl

theorem bits_xor8 (a b : UInt8) : bits .xor .u8 (a.toNat : Int) (b.toNat : Int) = ((a ^^^ b).toNat : Int) := by
  show IntKind.u8.wrap ((BitVec.ofInt 8 (a.toNat : Int) ^^^ BitVec.ofInt 8 (b.toNat : Int)).toNat : Int) = _
  have h3 := (a ^^^ b).toNat_lt
  rw [BitVec.ofInt_natCast, BitVec.ofInt_natCast, IntKind.wrap_u8, UInt8.toNat_xor, BitVec.toNat_xor, BitVec.toNat_ofNat, BitVec.toNat_ofNat]
  rw [UInt8.toNat_xor] at h3
  have h1 := a.toNat_lt
  have h2 := b.toNat_lt
  rw [Nat.mod_eq_of_lt (by omega), Nat.mod_eq_of_lt (by omega)]
  omega

/-- Two slices that own no row in common. -/
def apart (u v : Value) : Prop := ∀ j, u.ownBlock = some j → v.ownBlock ≠ some j
theorem apart.symm {u v : Value} (h : apart u v) : apart v u := fun j hv hu => h j hu hv

/-- Four slices of bytes, each with a row of its own from B on. -/
structure Own4 (B : Nat) (w : World) (a b c d : Value) (xa xb xc xd : List UInt8) : Prop where
  oa : w.ownsRow B 5 1 a xa.length (bc xa)
  ob : w.ownsRow B 5 1 b xb.length (bc xb)
  oc : w.ownsRow B 5 1 c xc.length (bc xc)
  od : w.ownsRow B 5 1 d xd.length (bc xd)
  ab : apart a b
  ac : apart a c
  ad : apart a d
  bc : apart b c
  bd : apart b d
  cd : apart c d

theorem Own4.rot {B : Nat} {w : World} {a b c d : Value} {xa xb xc xd : List UInt8} (h : Own4 B w a b c d xa xb xc xd) : Own4 B w b c d a xb xc xd xa :=
  ⟨h.ob, h.oc, h.od, h.oa, h.bc, h.bd, h.ab.symm, h.cd, h.ac.symm, h.ad.symm⟩

theorem keep_own {B : Nat} {w w2 : World} {u v : Value} {n : Nat} {xs : List Value} {X : Obj} (h : w.ownsRow B 5 1 u n xs) (ha : apart v u) (hg : (w.alloc X).grownBy w2 v.ownBlock) : w2.ownsRow B 5 1 u n xs := by
  refine (h.alloc X).kept hg ?_
  cases hu : u.ownBlock with
  | none => exact .inl rfl
  | some j => exact .inr (fun e => ha j e.symm hu)

theorem keep_apart {B : Nat} {w : World} {u v : Value} {n m c g : Nat} {xs : List Value} (h : w.ownsRow B 5 1 u n xs) (ha : apart v u) (hat : v.ownBlock = some g ∨ g = w.heap.size + 1) : apart (.slice (some ⟨g, 0, none⟩) m c) u := by
  intro j hj hu
  have hj' : g = j := by simpa [Value.ownBlock] using hj
  subst hj'
  rcases hat with e | e
  · exact ha g e hu
  · have := (h.lt g hu).2
    omega

theorem Own4.push {B : Nat} {w w2 : World} {a b c d : Value} {xa xb xc xd : List UInt8} {X : Obj} {g cap : Nat} (h : Own4 B w a b c d xa xb xc xd) (x : UInt8)
    (h1 : w2.ownsRow B 5 1 (.slice (some ⟨g, 0, none⟩) (xa.length + 1) cap) (xa.length + 1) (Go.Proofs.Ytbdjhkcpnkdbkaa.bc xa ++ [.int .u8 x.toNat])) (hg : (w.alloc X).grownBy w2 a.ownBlock) (hat : a.ownBlock = some g ∨ g = w.heap.size + 1) :
    Own4 B w2 (.slice (some ⟨g, 0, none⟩) (xa.length + 1) cap) b c d (xa ++ [x]) xb xc xd := by
  refine ⟨?_, keep_own h.ob h.ab hg, keep_own h.oc h.ac hg, keep_own h.od h.ad hg, keep_apart h.ob h.ab hat, keep_apart h.oc h.ac hat, keep_apart h.od h.ad hat, h.bc, h.bd, h.cd⟩
  rw [show (xa ++ [x]).length = xa.length + 1 from by simp, bc_append]
  exact h1

theorem below_push {B : Nat} {w w1 w2 : World} {v : Value} {n : Nat} {xs : List Value} {X : Obj} (hb : Below B w w1) (hB : B ≤ w1.heap.size) (h : w1.ownsRow B 5 1 v n xs) (hg : (w1.alloc X).grownBy w2 v.ownBlock) : Below B w w2 :=
  (hb.alloc hB X).grown hg (by simp; omega) (fun k hk => (h.lt k hk).1)

theorem nil_apart {n m : Nat} {v : Value} : apart (.slice none n m) v := fun j hj => by simp [Value.ownBlock] at hj

theorem below_next {w wr w1 : World} (hb : Below wr.heap.size wr w1) (h : Below w.heap.size w wr) : Below w.heap.size w w1 := h.trans (hb.mono h.size)

theorem Own4.drew {B : Nat} {w : World} {a b c d : Value} {xa xb xc xd : List UInt8} (h : Own4 B w a b c d xa xb xc xd) : Own4 B w.drew a b c d xa xb xc xd :=
  ⟨h.oa, h.ob, h.oc, h.od, h.ab, h.ac, h.ad, h.bc, h.bd, h.cd⟩

theorem own_below {B n : Nat} {w w1 : World} {v : Value} {xs : List Value} (hb : Below w.heap.size w w1) (h : w.ownsRow B 5 1 v n xs) : w1.ownsRow B 5 1 v n xs :=
  h.kept (row := none) ⟨hb.os, hb.tape, hb.output, hb.size, fun k hk _ => hb.block k hk⟩ (by cases v.ownBlock <;> simp)

theorem own4_below {B : Nat} {w w1 : World} {a b c d : Value} {xa xb xc xd : List UInt8} (hb : Below w.heap.size w w1) (h : Own4 B w a b c d xa xb xc xd) : Own4 B w1 a b c d xa xb xc xd :=
  ⟨own_below hb h.oa, own_below hb h.ob, own_below hb h.oc, own_below hb h.od, h.ab, h.ac, h.ad, h.bc, h.bd, h.cd⟩

theorem conv4 {B : Nat} {w : World} {a b c d : Value} {xa xb xc xd : List UInt8} (h : Own4 B w a b c d xa xb xc xd) :
    (convert 26 9 a).run Try.prog w = .ok (.string (str xa)) w ∧ (convert 26 9 b).run Try.prog w = .ok (.string (str xb)) w ∧ (convert 26 9 c).run Try.prog w = .ok (.string (str xc)) w ∧ (convert 26 9 d).run Try.prog w = .ok (.string (str xd)) w :=
  ⟨own_text h.oa Try.underlying26 Try.underlying5 Try.underlying9, own_text h.ob Try.underlying26 Try.underlying5 Try.underlying9, own_text h.oc Try.underlying26 Try.underlying5 Try.underlying9, own_text h.od Try.underlying26 Try.underlying5 Try.underlying9⟩

theorem sOf_int (s : ByteArray) (w : World) (hs : s.size ≤ 9223372036854775807) :
    Calls Try.prog 21 #[.string s] w fun e w' => e = .returned (.int .u32 (sumOf s).toNat) ∧ Below w.heap.size w w' := sOf_any s w hs

theorem turn_walk {xa xb xc xd : List UInt8} (h : more 0#32 xa ^^^ more 0#32 xb ^^^ more 0#32 xc ^^^ more 0#32 xd = 0#32) :
    (bits .xor .u32 (bits .xor .u32 (bits .xor .u32 ((sumOf (str xa)).toNat : Int) ((sumOf (str xb)).toNat : Int)) ((sumOf (str xc)).toNat : Int)) ((sumOf (str xd)).toNat : Int) == 0) = true := by
  rw [bits_xor32, bits_xor32, bits_xor32, beq_iff_eq]
  have e : sumOf (str xa) ^^^ sumOf (str xb) ^^^ sumOf (str xc) ^^^ sumOf (str xd) = 0#32 := h
  rw [e]
  rfl

set_option maxRecDepth 100000 in
set_option maxHeartbeats 1000000 in
theorem walk (ao : Option Addr) (b off len cap : Nat) (ts : List (UInt8 × UInt8 × UInt8)) (w : World) (hao : 0 < len → ao = some ⟨b, off, none⟩ ∧ b < w.heap.size) (htl : ts.length = len)
    (hc0 : ∀ i t, ts[i]? = some t → w.cell? ⟨b, off + i * 3, none⟩ = some (.int .u8 t.1.toNat)) (hc1 : ∀ i t, ts[i]? = some t → w.cell? ⟨b, off + i * 3 + 1, none⟩ = some (.int .u8 t.2.1.toNat)) (hc2 : ∀ i t, ts[i]? = some t → w.cell? ⟨b, off + i * 3 + 2, none⟩ = some (.int .u8 t.2.2.toNat)) :
    Calls Try.prog 8 #[.slice ao len cap] w fun e w' => e = .returned (.bool true) ∧ Below w.heap.size w w' := by
  obtain ⟨i0, hi, hz0, hz1, hz2⟩ := info_parts infoU8
  have HA := Lib.hid hao
  have HA := Lib.hid hao
  have HL := Lib.hid htl
  have H0 := Lib.hid hc0
  have H1 := Lib.hid hc1
  have H2 := Lib.hid hc2
  clear hao htl hc0 hc1 hc2
  by_cases h : 500 < len
  · go_enter Try.func8, Try.ntmps8
    go_wp2_with (go_at_call 17; go_must (refine (sknown_any _).mono ?_); rintro e w1 ⟨rfl, hb⟩)
    go_ret
    exact ⟨rfl, hb⟩
  · go_enter Try.func8, Try.ntmps8
    go_wp2_with fail
    go_loopw [3, 4, 5, 6, 7] (fun va vb vc vd c wr => ∃ i : Nat, i ≤ len ∧ c = .int .i64 i ∧ Below w.heap.size w wr ∧ Own4 w.heap.size wr va vb vc vd ((ts.take i).map (·.1)) ((ts.take i).map (·.2.1)) ((ts.take i).map (·.2.2)) ((ts.take i).map x3)) (fun _ _ _ _ c _ => len - (intOf c).toNat)
    case atStart => exact ⟨0, Nat.zero_le _, rfl, Below.refl _ _, ⟨World.ownsRow_nil _ _ _ _, World.ownsRow_nil _ _ _ _, World.ownsRow_nil _ _ _ _, World.ownsRow_nil _ _ _ _, nil_apart, nil_apart, nil_apart, nil_apart, nil_apart, nil_apart⟩⟩
    case round =>
      obtain ⟨i, hi', rfl, hbel, ho⟩ := hrel
      by_cases hlt : i < len
      · obtain ⟨rfl, hb⟩ := HA.out (by omega)
        obtain ⟨t, ht⟩ : ∃ t, ts[i]? = some t := ⟨ts[i]'(by rw [HL.out]; exact hlt), List.getElem?_eq_getElem _⟩
        have c0 : wr.cell? ⟨b, off + i * 3, none⟩ = some (.int .u8 t.1.toNat) := (hbel.cell (p := ⟨b, off + i * 3, none⟩) hb).trans (H0.out i t ht)
        have c1 : wr.cell? ⟨b, off + i * 3 + 1, none⟩ = some (.int .u8 t.2.1.toNat) := (hbel.cell (p := ⟨b, off + i * 3 + 1, none⟩) hb).trans (H1.out i t ht)
        have c2 : wr.cell? ⟨b, off + i * 3 + 2, none⟩ = some (.int .u8 t.2.2.toNat) := (hbel.cell (p := ⟨b, off + i * 3 + 2, none⟩) hb).trans (H2.out i t ht)
        have HT := Lib.hid ht
        clear ht
        have hsz := hbel.size
        obtain ⟨xa, hxa⟩ : ∃ xa, xa = (ts.take i).map (·.1) := ⟨_, rfl⟩
        obtain ⟨xb, hxb⟩ : ∃ xb, xb = (ts.take i).map (·.2.1) := ⟨_, rfl⟩
        obtain ⟨xc, hxc⟩ : ∃ xc, xc = (ts.take i).map (·.2.2) := ⟨_, rfl⟩
        obtain ⟨xd, hxd⟩ : ∃ xd, xd = (ts.take i).map x3 := ⟨_, rfl⟩
        rw [← hxa, ← hxb, ← hxc, ← hxd] at ho
        have la : xa.length ≤ 500 := by rw [hxa]; simp; omega
        have lb : xb.length ≤ 500 := by rw [hxb]; simp; omega
        have lc : xc.length ≤ 500 := by rw [hxc]; simp; omega
        have ld : xd.length ≤ 500 := by rw [hxd]; simp; omega
        have XA := Lib.hid hxa
        have XB := Lib.hid hxb
        have XC := Lib.hid hxc
        have XD := Lib.hid hxd
        clear hxa hxb hxc hxd
        obtain ⟨y1, hy1⟩ : ∃ y1, y1 = t.1 ^^^ t.2.1 := ⟨_, rfl⟩
        obtain ⟨y2, hy2⟩ : ∃ y2, y2 = y1 ^^^ t.2.2 := ⟨_, rfl⟩
        have E1 : bits .xor .u8 (t.1.toNat : Int) (t.2.1.toNat : Int) = (y1.toNat : Int) := by rw [hy1]; exact bits_xor8 _ _
        have E2 : bits .xor .u8 (y1.toNat : Int) (t.2.2.toNat : Int) = (y2.toNat : Int) := by rw [hy2]; exact bits_xor8 _ _
        have HY : Hid (y2 = x3 t) := by rw [hy2, hy1]; rfl
        clear hy1 hy2
        go_wp2_with (first
          | (at_builtin; refine wpList_append_lies _ rfl (.tmp 18) (.tmp 24) 26 rfl w.heap.size 5 i0 (.int .u8 0) 1 1 Try.underlying26 hi hz0 hz1 hz2 rfl (by decide) u3 _ _ (by simp [Act.eval]) (ho.oa.alloc _) ⟨wr.heap.size, 0, none⟩ 1 1 [.int .u8 t.1.toNat] (by simp [Act.eval]) rfl (cell_one_new _ _ _) (by intro u hu; simp at hu; subst hu; rfl) (by decide) (by unfold maxLen; omega) (by omega) (by simp; omega) _ (by simp; rfl) ?_; intro g1 cap1 w1 h1 hg1 hat1 hl1; have hb1 := below_push hbel hsz ho.oa hg1; have ho1 := (ho.push t.1 h1 hg1 hat1).rot; have hs1 := hb1.size; have e10 := (hb1.cell (p := ⟨b, off + i * 3, none⟩) hb).trans (H0.out i t HT.out); have e11 := (hb1.cell (p := ⟨b, off + i * 3 + 1, none⟩) hb).trans (H1.out i t HT.out); have e12 := (hb1.cell (p := ⟨b, off + i * 3 + 2, none⟩) hb).trans (H2.out i t HT.out); clear h1 hg1 hat1)
          | (at_builtin; refine wpList_append_lies _ rfl (.tmp 26) (.tmp 32) 26 rfl w.heap.size 5 i0 (.int .u8 0) 1 1 Try.underlying26 hi hz0 hz1 hz2 rfl (by decide) u4 _ _ (by simp [Act.eval]) (ho1.oa.alloc _) ⟨w1.heap.size, 0, none⟩ 1 1 [.int .u8 t.2.1.toNat] (by simp [Act.eval]) rfl (cell_one_new _ _ _) (by intro u hu; simp at hu; subst hu; rfl) (by decide) (by unfold maxLen; omega) (by omega) (by simp; omega) _ (by simp; rfl) ?_; intro g2 cap2 w2 h2 hg2 hat2 hl2; have hb2 := below_push hb1 hs1 ho1.oa hg2; have ho2 := (ho1.push t.2.1 h2 hg2 hat2).rot; have hs2 := hb2.size; have e20 := (hb2.cell (p := ⟨b, off + i * 3, none⟩) hb).trans (H0.out i t HT.out); have e21 := (hb2.cell (p := ⟨b, off + i * 3 + 1, none⟩) hb).trans (H1.out i t HT.out); have e22 := (hb2.cell (p := ⟨b, off + i * 3 + 2, none⟩) hb).trans (H2.out i t HT.out); clear h2 hg2 hat2)
          | (at_builtin; refine wpList_append_lies _ rfl (.tmp 34) (.tmp 40) 26 rfl w.heap.size 5 i0 (.int .u8 0) 1 1 Try.underlying26 hi hz0 hz1 hz2 rfl (by decide) u5 _ _ (by simp [Act.eval]) (ho2.oa.alloc _) ⟨w2.heap.size, 0, none⟩ 1 1 [.int .u8 t.2.2.toNat] (by simp [Act.eval]) rfl (cell_one_new _ _ _) (by intro u hu; simp at hu; subst hu; rfl) (by decide) (by unfold maxLen; omega) (by omega) (by simp; omega) _ (by simp; rfl) ?_; intro g3 cap3 w3 h3 hg3 hat3 hl3; have hb3 := below_push hb2 hs2 ho2.oa hg3; have ho3 := (ho2.push t.2.2 h3 hg3 hat3).rot; have hs3 := hb3.size; have e30 := (hb3.cell (p := ⟨b, off + i * 3, none⟩) hb).trans (H0.out i t HT.out); have e31 := (hb3.cell (p := ⟨b, off + i * 3 + 1, none⟩) hb).trans (H1.out i t HT.out); have e32 := (hb3.cell (p := ⟨b, off + i * 3 + 2, none⟩) hb).trans (H2.out i t HT.out); clear h3 hg3 hat3))
        go_region_law ((refine step_append_lies _ rfl (.tmp 42) (.tmp 60) 26 rfl w.heap.size 5 i0 (.int .u8 0) 1 1 Try.underlying26 hi hz0 hz1 hz2 rfl (by decide) u6 _ _ (by simp [Act.eval]) ((ho3.oa.alloc _).drew) ⟨w3.heap.size, 0, none⟩ 1 1 [.int .u8 y2.toNat] (by simp [Act.eval]) rfl (cell_one_new _ _ _) (by intro u hu; simp at hu; subst hu; rfl) (by decide) (by unfold maxLen; omega) (by omega) (by simp; omega) _ (by simp; rfl) ?_; intro g4 cap4 w4 h4 hg4 hat4 hl4))
        all_goals
          have ho4 := (ho3.push y2 h4 ⟨hg4.os, hg4.tape, hg4.output, hg4.size, hg4.block⟩ hat4).rot
          have hb4 := below_push hb3 hs3 ho3.oa ⟨hg4.os, hg4.tape, hg4.output, hg4.size, hg4.block⟩
          have hn : ∀ {α : Type} (f : UInt8 × UInt8 × UInt8 → α), (ts.take (i + 1)).map f = (ts.take i).map f ++ [f t] := fun f => by rw [List.take_add_one, HT.out]; simp
          rw [show xa ++ [t.1] = (ts.take (i + 1)).map (·.1) from by rw [hn, XA.out], show xb ++ [t.2.1] = (ts.take (i + 1)).map (·.2.1) from by rw [hn, XB.out], show xc ++ [t.2.2] = (ts.take (i + 1)).map (·.2.2) from by rw [hn, XC.out], show xd ++ [y2] = (ts.take (i + 1)).map x3 from by rw [hn, XD.out, HY.out]] at ho4
          have HO := Lib.hid ho4
          clear ho4 ho3 ho2 ho1 ho h4 hg4 hat4 hn E1 E2 c0 c1 c2 e10 e11 e12 e20 e21 e22 e30 e31 e32
          go_wp2
          go_roundw
          case rel => exact ⟨i + 1, by omega, by go_num, hb4, HO.out⟩
          case measure => simp [intOf]; omega
      · obtain rfl : i = len := by omega
        have hts : ts.take i = ts := List.take_of_length_le (by rw [HL.out]; omega)
        rw [hts] at ho
        have htu := turns 0#32 ts
        obtain ⟨xa, hxa⟩ : ∃ xa, xa = ts.map (·.1) := ⟨_, rfl⟩
        obtain ⟨xb, hxb⟩ : ∃ xb, xb = ts.map (·.2.1) := ⟨_, rfl⟩
        obtain ⟨xc, hxc⟩ : ∃ xc, xc = ts.map (·.2.2) := ⟨_, rfl⟩
        obtain ⟨xd, hxd⟩ : ∃ xd, xd = ts.map x3 := ⟨_, rfl⟩
        rw [← hxa, ← hxb, ← hxc, ← hxd] at ho htu
        have la : (str xa).size ≤ 9223372036854775807 := by rw [hxa]; simp [str, ByteArray.size]; rw [HL.out]; omega
        have lb : (str xb).size ≤ 9223372036854775807 := by rw [hxb]; simp [str, ByteArray.size]; rw [HL.out]; omega
        have lc : (str xc).size ≤ 9223372036854775807 := by rw [hxc]; simp [str, ByteArray.size]; rw [HL.out]; omega
        have ld : (str xd).size ≤ 9223372036854775807 := by rw [hxd]; simp [str, ByteArray.size]; rw [HL.out]; omega
        have hz := turn_walk htu
        have hod := ho.drew
        have hbd := hbel.drew
        clear hts hxa hxb hxc hxd htu
        go_wp2_with fail
        go_region_held3 (fun w' => (convert 26 9 u3).run Try.prog w' = .ok (.string (str xa)) w' ∧ (convert 26 9 u4).run Try.prog w' = .ok (.string (str xb)) w' ∧ (convert 26 9 u5).run Try.prog w' = .ok (.string (str xc)) w' ∧ (convert 26 9 u6).run Try.prog w' = .ok (.string (str xd)) w') (first | exact conv4 ho | exact conv4 ho.drew | assumption)
          (first | (go_at_call 21; go_must (refine (sOf_int _ _ ?_).mono ?_; assumption; rintro e w1 ⟨rfl, hb1⟩; have ho1 := own4_below hb1 (by assumption); have hS1 := conv4 ho1; have hB1 := below_next hb1 (by assumption))) | (go_at_call 17; refine (sknown_any _).mono ?_; rintro e w1 ⟨rfl, hb1⟩; have ho1 := own4_below hb1 (by assumption); have hS1 := conv4 ho1; have hB1 := below_next hb1 (by assumption)))
        go_wp2
        go_ret
        exact ⟨rfl, by assumption⟩

/-! ### THE FRAME -/
theorem cellsTriple : Try.prog.cellsOf 50 = 3 := by kernel_rfl
theorem cellsU8 : Try.prog.cellsOf 5 = 1 := by kernel_rfl

set_option maxRecDepth 100000 in
theorem lifted (os : Os) (started : os.Started) (H : Type) (enc : TypeId × Value → H) :
    ReturnsInHanded {} Try.checked os 8 .any (Rows.sumTurnsSpec.pre6 enc Try.prog Try.f8 Rows.sumTurnsRow.domain false) (Rows.sumTurnsSpec.post enc Try.prog Try.f8 false true false false) := by
  refine returnsInHanded_of_change (C := Try.checked) own started (by kernel_rfl) Try.func8
    (ChangeSpec.witness6 (enc := enc) (C := Try.checked) false ⟨#[], #[.slice none 0 0], []⟩ 8 (by kernel_rfl) (by kernel_rfl) (by kernel_rfl) (by kernel_rfl)) ?_
  intro W base args ds gs before hval0 hW hcnd _
  have hval : ∀ (j : Nat) t v, Try.f8.params[j]? = some t → args[j]? = some v → Value.okWide Try.prog W .any base t v := hval0
  have hW' := hW
  obtain ⟨p, q, hA0, hV, rfl, hfz, hnd⟩ := hW
  have hA : DataW.TrodAll enc Try.prog W 0 (fun _ => true) true Try.f8.params.toList args.toList ds p := hA0
  rw [Try.params8] at hA hval
  obtain ⟨v0, vs0, d0, ds0, p0, q0, hargs, rfl, rfl, h0, r0⟩ := trodAll_cons hA
  obtain ⟨rfl, rfl, rfl⟩ := trodAll_nil r0
  obtain rfl : args = #[v0] := by cases args; simp_all
  have post : ∀ W', Below W.heap.size W W' → Rows.sumTurnsSpec.post enc Try.prog Try.f8 false true false false W #[v0] (.bool true) W' := fun W' hg =>
    law_post laidOut (by rw [Try.params8]; decide +kernel) rfl Try.underlying4 rfl hW' rfl hg
  have done : ∀ (e : Ending) W', (e = .returned (.bool true) ∧ Below W.heap.size W W') → ∃ v, e = .returned v ∧ Rows.sumTurnsSpec.post enc Try.prog Try.f8 false true false false W #[v0] v W' := fun e W' ⟨he, hg⟩ => ⟨_, he, post W' hg⟩
  clear post
  obtain ⟨a0, len, cap, rfl⟩ := okWide_slice Try.underlying49 (hval 0 49 v0 rfl rfl)
  obtain ⟨fuel, hf⟩ := h0
  rcases Go.Deep.open_slice Try.underlying49 hf with ⟨hcs, hx⟩ | ⟨a, len', cap', m, n, D, Pl, hcs, hbase, hl, hm, hmm, hx, hcell⟩
  · simp [Value.cells] at hcs
    obtain ⟨rfl, rfl, rfl⟩ := hcs
    exact (walk none 0 0 0 0 [] W (fun h => by omega) rfl (fun i t h => by simp at h) (fun i t h => by simp at h) (fun i t h => by simp at h)).mono done
  · simp [Value.cells] at hcs
    obtain ⟨rfl, rfl, rfl⟩ := hcs
    have hmc : m = cap := by simpa using hmm
    have hcc : Try.prog.cellsOf 50 = 3 := cellsTriple
    have each : ∀ i, i < len → ∀ j, j < 3 → W.cell? (a.add (i * 3 + j)) = some (.int .u8 (rdb W (a.add (i * 3 + j))).toNat) := fun i hi j hj => by
      obtain ⟨cs', hc', ht'⟩ := hcell i (by omega)
      rw [hcc] at hc'
      obtain ⟨_, hl3, hat⟩ := World.cells?_some hc'
      obtain ⟨_, hb⟩ := array_bytes Try.underlying50 Try.underlying5 cellsU8 ht'
      obtain ⟨k, hk, hw⟩ := hb j hj
      have h1 := hat j hj
      rw [hk, Go.Deep.add_add] at h1
      exact rdb_int h1 hw
    obtain ⟨b, off, spot⟩ := a
    obtain ⟨ts, hts⟩ : ∃ ts : List (UInt8 × UInt8 × UInt8), ts = (List.range len).map fun i => (rdb W ((⟨b, off, spot⟩ : Addr).add (i * 3 + 0)), rdb W ((⟨b, off, spot⟩ : Addr).add (i * 3 + 1)), rdb W ((⟨b, off, spot⟩ : Addr).add (i * 3 + 2))) := ⟨_, rfl⟩
    have htl : ts.length = len := by rw [hts]; simp
    have hget : ∀ i t, ts[i]? = some t → i < len ∧ t = (rdb W ((⟨b, off, spot⟩ : Addr).add (i * 3 + 0)), rdb W ((⟨b, off, spot⟩ : Addr).add (i * 3 + 1)), rdb W ((⟨b, off, spot⟩ : Addr).add (i * 3 + 2))) := fun i t h => by
      have hi : i < len := by rw [← htl]; exact (List.getElem?_eq_some_iff.1 h).1
      refine ⟨hi, ?_⟩
      rw [hts, List.getElem?_map, List.getElem?_range hi] at h
      simpa using h.symm
    by_cases h0 : len = 0
    · subst h0
      exact (walk (some ⟨b, off, spot⟩) 0 0 0 cap ts W (fun h => by omega) htl (fun i t h => by have := (hget i t h).1; omega) (fun i t h => by have := (hget i t h).1; omega) (fun i t h => by have := (hget i t h).1; omega)).mono done
    · have hspot : spot = none := by simpa [Addr.add] using World.cell?_spot (each 0 (by omega) 0 (by omega))
      subst hspot
      have hbW : b < W.heap.size := by
        have := World.block_lt_of_cell? W _ (each 0 (by omega) 0 (by omega))
        simpa [Addr.add] using this
      refine (walk (some ⟨b, off, none⟩) b off len cap ts W (fun _ => ⟨rfl, hbW⟩) htl (fun i t h => ?_) (fun i t h => ?_) (fun i t h => ?_)).mono done
      · obtain ⟨hi, rfl⟩ := hget i t h
        have := each i hi 0 (by omega)
        rw [Go.WideShapes.add_plain] at this ⊢
        exact this
      · obtain ⟨hi, rfl⟩ := hget i t h
        have := each i hi 1 (by omega)
        rw [Go.WideShapes.add_plain] at this ⊢
        exact this
      · obtain ⟨hi, rfl⟩ := hget i t h
        have := each i hi 2 (by omega)
        rw [Go.WideShapes.add_plain] at this ⊢
        exact this


theorem over : Rows.sumTurnsRow.holds Try.pinned (OpenSpec.ofChange Rows.sumTurnsSpec) :=
  OpenClaim.holds_of_wide 8 Try.f8 rfl rfl rfl rfl rfl rfl rfl ⟨rfl, rfl, rfl, rfl, rfl⟩ rfl rfl rfl rfl rfl (by kernel_rfl) Try.func8 (by kernel_rfl)
    (of_decide_eq_true (by kernel_rfl)) (by unfold Func.isWrapper; first | (rw [if_pos (by decide +kernel)]; kernel_rfl) | (rw [if_neg (by decide +kernel)]; exact ⟨rfl, rfl⟩))
    (fun os started H enc _ => lifted os started H enc)

theorem proved : Rows.SumTurnsSaid := over

end Go.Proofs.Ytbdjhkcpnkdbkaa.sumTurns
