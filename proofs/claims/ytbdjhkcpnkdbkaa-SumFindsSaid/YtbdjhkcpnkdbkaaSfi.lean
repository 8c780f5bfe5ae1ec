/- PROVED HERE: for every text, place and four bytes, the law SumFinds returns true: a text of which up to four bytes that follow one another are others has another sum, and else the same. CONDITIONS: none. -/
import Derived.Test.YtbdjhkcpnkdbkaaSr
import Derived.Test.YtbdjhkcpnkdbkaaCrd
import Derived.Test.YtbdjhkcpnkdbkaaLaw
import Derived.Deep.RegionHeld3
import Derived.Lib.ConvBytes
import Derived.Laws.IdiomStrings
namespace Go.Proofs.Ytbdjhkcpnkdbkaa.sumFinds
open Go.ChangeShapes Go.WideShapes Go.ChangeAt Go.RowKit
open Go.ChangeMaps (open_string shut_string)

theorem own : ownKnob Try.prog.godebug = none := by kernel_rfl
theorem laidOut : laidOutB Try.prog = true := by kernel_rfl

theorem bits_xor8 (a b : UInt8) : bits .xor .u8 (a.toNat : Int) (b.toNat : Int) = ((a ^^^ b).toNat : Int) := by
  show IntKind.u8.wrap ((BitVec.ofInt 8 (a.toNat : Int) ^^^ BitVec.ofInt 8 (b.toNat : Int)).toNat : Int) = _
  have h3 := (a ^^^ b).toNat_lt
  rw [BitVec.ofInt_natCast, BitVec.ofInt_natCast, IntKind.wrap_u8, UInt8.toNat_xor, BitVec.toNat_xor, BitVec.toNat_ofNat, BitVec.toNat_ofNat]
  rw [UInt8.toNat_xor] at h3
  have h1 := a.toNat_lt
  have h2 := b.toNat_lt
  rw [Nat.mod_eq_of_lt (by omega), Nat.mod_eq_of_lt (by omega)]
  omega

/-- The text of which the first i bytes from place 'p.length' on are others. -/
def mix (r xs : List UInt8) (i : Nat) : List UInt8 := List.zipWith (· ^^^ ·) (r.take i) (xs.take i)
def oth (xs : List UInt8) (i : Nat) : Bool := (xs.take i).any (· != 0)

theorem mix_length (r xs : List UInt8) (i : Nat) (h : i ≤ r.length) (h4 : i ≤ xs.length) : (mix r xs i).length = i := by
  simp [mix]; omega

theorem mix_next (r xs : List UInt8) (i : Nat) (c x : UInt8) (hc : r[i]? = some c) (hx : xs[i]? = some x) : mix r xs (i + 1) = mix r xs i ++ [c ^^^ x] := by
  unfold mix
  have h1 : i < r.length := (List.getElem?_eq_some_iff.1 hc).1
  have h2 : i < xs.length := (List.getElem?_eq_some_iff.1 hx).1
  rw [List.take_add_one, List.take_add_one, hc, hx, List.zipWith_append (by simp; omega)]
  rfl

theorem oth_next (xs : List UInt8) (i : Nat) (x : UInt8) (hx : xs[i]? = some x) : oth xs (i + 1) = (oth xs i || x != 0) := by
  unfold oth
  rw [List.take_add_one, hx, List.any_append]
  simp

/-- The whole text behind i rounds. -/
def txt (p r xs : List UInt8) (i : Nat) : List UInt8 := p ++ mix r xs i ++ r.drop i

theorem txt_length (p r xs : List UInt8) (i : Nat) (h : i ≤ r.length) (h4 : i ≤ xs.length) : (txt p r xs i).length = p.length + r.length := by
  simp [txt, mix_length r xs i h h4]; omega

theorem txt_zero (p r xs : List UInt8) : txt p r xs 0 = p ++ r := by simp [txt, mix]

theorem txt_at (p r xs : List UInt8) (i : Nat) (c : UInt8) (h : r[i]? = some c) (h4 : i ≤ xs.length) : (txt p r xs i)[p.length + i]? = some c := by
  have h1 : i < r.length := (List.getElem?_eq_some_iff.1 h).1
  have hm := mix_length r xs i (by omega) h4
  unfold txt
  rw [List.getElem?_append_right (by simp [hm])]
  simp [hm, h]

theorem txt_next (p r xs : List UInt8) (i : Nat) (c x : UInt8) (hc : r[i]? = some c) (hx : xs[i]? = some x) : txt p r xs (i + 1) = (txt p r xs i).set (p.length + i) (c ^^^ x) := by
  have h1 : i < r.length := (List.getElem?_eq_some_iff.1 hc).1
  have h2 : i < xs.length := (List.getElem?_eq_some_iff.1 hx).1
  have hm := mix_length r xs i (by omega) (by omega)
  have e : r.drop i = c :: r.drop (i + 1) := by
    rw [List.drop_eq_getElem_cons h1]
    congr 1
    simpa [List.getElem?_eq_getElem h1] using hc
  unfold txt
  rw [mix_next r xs i c x hc hx, e, List.set_append_right _ _ (by simp [hm])]
  simp [hm]

theorem mix_same : ∀ (r xs : List UInt8) (i : Nat), i ≤ r.length → i ≤ xs.length → (mix r xs i = r.take i ↔ oth xs i = false)
  | _, _, 0, _, _ => by simp [mix, oth]
  | r, xs, i + 1, h1, h2 => by
    have hc : r[i]? = some r[i] := List.getElem?_eq_getElem (by omega)
    have hx : xs[i]? = some xs[i] := List.getElem?_eq_getElem (by omega)
    have ih := mix_same r xs i (by omega) (by omega)
    rw [mix_next r xs i _ _ hc hx, oth_next xs i _ hx, List.take_add_one, hc]
    show mix r xs i ++ [r[i] ^^^ xs[i]] = r.take i ++ [r[i]] ↔ _
    have hz : (r[i] ^^^ xs[i] = r[i]) ↔ xs[i] = 0 := by
      constructor
      · intro e
        have e2 : r[i] ^^^ (r[i] ^^^ xs[i]) = r[i] ^^^ r[i] := by rw [e]
        rwa [← UInt8.xor_assoc, UInt8.xor_self, UInt8.zero_xor] at e2
      · intro e
        rw [e, UInt8.xor_zero]
    have hlen : (mix r xs i).length = (r.take i).length := by rw [mix_length r xs i (by omega) (by omega)]; simp; omega
    rw [Bool.or_eq_false_iff]
    constructor
    · intro h
      obtain ⟨ha, hb⟩ := List.append_inj h hlen
      have hb' : r[i] ^^^ xs[i] = r[i] := by simpa using hb
      exact ⟨ih.1 ha, by rw [hz.1 hb']; rfl⟩
    · intro ⟨ha, hb⟩
      have hb' : xs[i] = 0 := by simpa using hb
      rw [ih.2 ha, hz.2 hb']

/-- The sums are others just where a byte is. -/
theorem finds (p r xs : List UInt8) (i : Nat) (h1 : i ≤ r.length) (h2 : i ≤ xs.length) (h4 : i ≤ 4) : (sumOf (str (p ++ r)) = sumOf (str (txt p r xs i))) ↔ oth xs i = false := by
  have hm := mix_length r xs i h1 h2
  have e : p ++ r = p ++ r.take i ++ r.drop i := by rw [List.append_assoc, List.take_append_drop]
  rw [← mix_same r xs i h1 h2]
  constructor
  · intro h
    refine (more_short 0#32 p (r.take i) (mix r xs i) (r.drop i) (by rw [hm]; simp; omega) (by simp; omega) ?_).symm
    rw [← e]
    exact h
  · intro h
    unfold txt
    rw [h, ← e]

/-- Block K holds the bytes ys, and they may be written. -/
def RowAt (K : Nat) (ys : List UInt8) (w : World) : Prop := ∀ j b, ys[j]? = some b → w.cell? ⟨K, j, none⟩ = some (.int .u8 b.toNat) ∧ w.frozen? ⟨K, j, none⟩ = false

theorem RowAt.set {K j : Nat} {ys : List UInt8} {w : World} {b : UInt8} (h : RowAt K ys w) (hj : j < ys.length) : RowAt K (ys.set j b) (w.setCell ⟨K, j, none⟩ (.int .u8 b.toNat)) := by
  intro i c hc
  rw [List.getElem?_set] at hc
  by_cases e : j = i
  · subst e
    rw [if_pos rfl, if_pos hj] at hc
    have hcb : b = c := by simpa using hc
    subst hcb
    obtain ⟨hv, hf⟩ := h j ys[j] (List.getElem?_eq_getElem hj)
    exact ⟨World.cell?_setCell_same w _ _ hv, by simpa using hf⟩
  · rw [if_neg e] at hc
    obtain ⟨hv, hf⟩ := h i c hc
    exact ⟨(World.cell?_setCell_other w ⟨K, j, none⟩ ⟨K, i, none⟩ _ (by simp)).trans hv, by simpa using hf⟩

theorem RowAt.below {K B : Nat} {ys : List UInt8} {w w1 : World} (h : RowAt K ys w) (hb : Below B w w1) (hK : K < B) : RowAt K ys w1 := fun j b hj =>
  ⟨(hb.cell (p := ⟨K, j, none⟩) hK).trans (h j b hj).1, (hb.frozen (p := ⟨K, j, none⟩) hK).trans (h j b hj).2⟩
theorem RowAt.drew {K : Nat} {ys : List UInt8} {w : World} (h : RowAt K ys w) : RowAt K ys w.drew := h

theorem conv_row {K n cap : Nat} {ys : List UInt8} {w : World} (h : RowAt K ys w) (hn : ys.length = n) :
    (convert 26 9 (.slice (some ⟨K, 0, none⟩) n cap)).run Try.prog w = .ok (.string (str ys)) w := by
  subst hn
  exact run_convert_bytes_back w 26 9 5 ⟨K, 0, none⟩ cap ys Try.underlying26 Try.underlying5 Try.underlying9 (fun j hj => by
    have := (h j ys[j] (List.getElem?_eq_getElem hj)).1
    rw [Go.WideShapes.add_plain, Nat.zero_add]
    exact this)

theorem row_new (w : World) (a : ByteArray) : ∃ cap w1, (convert 9 26 (.string a)).run Try.prog w = .ok (.slice (some ⟨w.heap.size, 0, none⟩) a.size cap) w1 ∧ RowAt w.heap.size a.data.toList w1 ∧ Below w.heap.size w w1 ∧ w.heap.size < w1.heap.size := by
  refine ⟨_, _, Lib.run_convert_string_bytes (P := Try.prog) w 9 26 5 a Try.underlying9 Try.underlying26 Try.underlying5, ?_, ?_, ?_⟩
  · intro j b hj
    have hlt : j < a.size := (List.getElem?_eq_some_iff.1 hj).1
    refine ⟨?_, ?_⟩
    · rw [Lib.bytesWorld_cell w 5 a j hlt]
      simp [List.getD, hj]
    · simp [World.frozen?, Lib.bytesWorld_at_new, Lib.bytesCells]
      omega
  · exact ⟨by simp [Lib.bytesWorld, World.freeze]; rfl, by simp [Lib.bytesWorld, World.freeze], by simp [Lib.bytesWorld, World.freeze]; rfl, by rw [Lib.bytesWorld_size]; omega, fun k hk => Lib.bytesWorld_at_old w 5 a k hk⟩
  · rw [Lib.bytesWorld_size]; omega

theorem sOf_int (s : ByteArray) (w : World) (hs : s.size ≤ 9223372036854775807) :
    Calls Try.prog 21 #[.string s] w fun e w' => e = .returned (.int .u32 (sumOf s).toNat) ∧ Below w.heap.size w w' := sOf_any s w hs

theorem below_next {w wr w1 : World} (hb : Below wr.heap.size wr w1) (h : Below w.heap.size w wr) : Below w.heap.size w w1 := h.trans (hb.mono h.size)

theorem lt_next {n : Nat} {wr w1 : World} (hb : Below wr.heap.size wr w1) (h : n < wr.heap.size) : n < w1.heap.size := Nat.lt_of_lt_of_le h hb.size

theorem finds_walk (p r xs : List UInt8) (i : Nat) (h1 : i ≤ r.length) (h2 : i ≤ xs.length) (h4 : i ≤ 4) (a : ByteArray) (ha : a.data.toList = p ++ r) (ys : List UInt8) (hys : ys = txt p r xs i) (o : Bool) (ho : o = oth xs i) :
    ((((sumOf a).toNat : Int) != ((sumOf (str ys)).toNat : Int)) == o) = true := by
  have h := finds p r xs i h1 h2 h4
  have e : sumOf (str (p ++ r)) = sumOf a := by unfold sumOf str; rw [← ha]
  rw [e, ← hys, ← ho] at h
  cases o
  · have e2 := h.2 rfl
    simp [e2]
  · have e2 : ¬ sumOf a = sumOf (str ys) := fun x => by simpa using h.1 x
    have e3 : ¬ ((sumOf a).toNat : Int) = ((sumOf (str ys)).toNat : Int) := fun x => e2 (BitVec.eq_of_toNat_eq (by omega))
    simp [e3]

theorem u8_ne (x : UInt8) : ((x.toNat : Int) != 0) = (x != 0) := by
  by_cases h : (x.toNat : Int) = 0
  · have e : x = 0 := UInt8.toNat_inj.1 (by show x.toNat = 0; omega)
    subst e
    rfl
  · have e : ¬ x = 0 := fun e => h (by rw [e]; rfl)
    rw [bne_iff_ne.2 h, bne_iff_ne.2 e]

set_option maxRecDepth 100000 in
set_option maxHeartbeats 1000000 in
theorem walk (a : ByteArray) (m : Nat) (xs : List UInt8) (x0 x1 x2 x3 : UInt8) (hxs : xs = [x0, x1, x2, x3]) (w : World) (h1 : a.size ≤ 1000) (h3 : m < a.size) :
    Calls Try.prog 7 #[.string a, .int .i64 m, .agg #[.int .u8 x0.toNat, .int .u8 x1.toNat, .int .u8 x2.toNat, .int .u8 x3.toNat]] w fun e w' => e = .returned (.bool true) ∧ Below w.heap.size w w' := by
  obtain ⟨p, hp⟩ : ∃ p, p = a.data.toList.take m := ⟨_, rfl⟩
  obtain ⟨r, hr⟩ : ∃ r, r = a.data.toList.drop m := ⟨_, rfl⟩
  have hpr : a.data.toList = p ++ r := by rw [hp, hr, List.take_append_drop]
  have hpl : p.length = m := by rw [hp]; simp; exact Nat.min_eq_left (Nat.le_of_lt h3)
  have hrl : r.length + m = a.size := by rw [hr]; simp; exact Nat.sub_add_cancel (Nat.le_of_lt h3)
  have hxl : xs.length = 4 := by rw [hxs]; rfl
  obtain ⟨cap, w1, hcv, hrow, hb1, hz1⟩ := row_new (w.alloc (.cells #[.int .u8 x0.toNat, .int .u8 x1.toNat, .int .u8 x2.toNat, .int .u8 x3.toNat] 47)) a
  have hX : RowAt w.heap.size xs w1 := fun i x hx => by
    rw [hb1.cell (p := ⟨w.heap.size, i, none⟩) (by simp), hb1.frozen (p := ⟨w.heap.size, i, none⟩) (by simp)]
    rw [hxs] at hx
    match i, hx with
    | 0, hx => simp at hx; subst hx; simp
    | 1, hx => simp at hx; subst hx; simp
    | 2, hx => simp at hx; subst hx; simp
    | 3, hx => simp at hx; subst hx; simp
    | i + 4, hx => simp at hx
  have hbel : Below w.heap.size w w1 := ((Below.refl _ _).alloc (Nat.le_refl _) _).trans (hb1.mono (by simp))
  rw [World.size_alloc] at hcv hrow hz1
  have HP := Lib.hid hpr
  have HPL := Lib.hid hpl
  have HR := Lib.hid hrl
  have HX := Lib.hid hX
  have HXL := Lib.hid hxl
  have HRow := Lib.hid hrow
  clear hp hr hpr hpl hrl hxl hX hrow hxs hb1
  have hd1 : decide ((1000 : Int) < (a.size : Int)) = false := by simp; omega
  have hd2 : decide ((m : Int) < 0) = false := by simp
  have hd3 : decide (a.size ≤ m) = false := by simp; omega
  go_enter Try.func7, Try.ntmps7
  go_wp2_with fail
  go_loopw [8, 9] (fun o c wr => ∃ i : Nat, i ≤ 4 ∧ m + i ≤ a.size ∧ c = .int .i64 i ∧ o = .bool (oth xs i) ∧ RowAt (w.heap.size + 1) (txt p r xs i) wr ∧ RowAt w.heap.size xs wr ∧ Below w.heap.size w wr ∧ w.heap.size + 1 < wr.heap.size) (fun _ c _ => 4 - (intOf c).toNat)
  case atStart => exact ⟨0, by omega, by omega, rfl, rfl, by rw [txt_zero, ← HP.out]; exact HRow.out, HX.out, hbel, hz1⟩
  case round =>
    obtain ⟨i, hi, hmi, rfl, rfl, hro, hx, hbel, hz⟩ := hrel
    have hlen : (txt p r xs i).length = a.size := by have h1 := HPL.out; have h2 := HR.out; have h3 := HXL.out; rw [txt_length p r xs i (by omega) (by omega)]; omega
    have HN := Lib.hid hlen
    clear hlen
    by_cases hc : i < 4 ∧ m + i < a.size
    · obtain ⟨hi4, hma⟩ := hc
      obtain ⟨c, hc⟩ : ∃ c, r[i]? = some c := ⟨r[i]'(by have h2 := HR.out; omega), List.getElem?_eq_getElem _⟩
      obtain ⟨x, hxi⟩ : ∃ x, xs[i]? = some x := ⟨xs[i]'(by have h2 := HXL.out; omega), List.getElem?_eq_getElem _⟩
      have hta : (txt p r xs i)[m + i]? = some c := by rw [← HPL.out]; exact txt_at p r xs i c hc (by have h2 := HXL.out; omega)
      have hnx : txt p r xs (i + 1) = (txt p r xs i).set (m + i) (c ^^^ x) := by rw [← HPL.out]; exact txt_next p r xs i c x hc hxi
      have hon : oth xs (i + 1) = (oth xs i || x != 0) := oth_next xs i x hxi
      obtain ⟨z, hzz⟩ : ∃ z, z = c ^^^ x := ⟨_, rfl⟩
      have E1 : bits .xor .u8 (c.toNat : Int) (x.toNat : Int) = (z.toNat : Int) := by rw [hzz]; exact bits_xor8 _ _
      obtain ⟨l1, l2⟩ := hro _ _ hta
      obtain ⟨l3, l4⟩ := hx _ _ hxi
      have hset := hro.set (b := z) (j := m + i) (by have h2 := HN.out; omega)
      rw [hzz, ← hnx] at hset
      have HSet := Lib.hid hset
      have hx' : RowAt w.heap.size xs (wr.setCell ⟨w.heap.size + 1, m + i, none⟩ (.int .u8 z.toNat)) := fun j b hj => ⟨(World.cell?_setCell_other wr ⟨w.heap.size + 1, m + i, none⟩ ⟨w.heap.size, j, none⟩ _ (by simp)).trans (hx j b hj).1, by simpa using (hx j b hj).2⟩
      have hbel' : Below w.heap.size w (wr.setCell ⟨w.heap.size + 1, m + i, none⟩ (.int .u8 z.toNat)) := hbel.setCell (by simp) _
      have HX' := Lib.hid hx'
      have HB' := Lib.hid hbel'
      have HO := Lib.hid hon
      rw [← hzz] at HSet
      clear hc hxi hta hnx hon hset hzz hro hx hx' hbel' hbel HX HRow
      obtain ⟨o, ho⟩ : ∃ o, o = oth xs i := ⟨_, rfl⟩
      rw [← ho]
      have HOO := Lib.hid ho
      clear ho
      cases o
      · go_wp2
        go_region
        all_goals go_wp2
        all_goals go_roundw
        case rel => exact ⟨i + 1, by omega, by omega, by go_num, by rw [HO.out, ← HOO.out, u8_ne, Bool.false_or], HSet.out, HX'.out, HB'.out.drew, by simp; omega⟩
        case measure => simp [intOf]; omega
      · go_wp2
        go_region
        all_goals go_wp2
        all_goals go_roundw
        case rel => exact ⟨i + 1, by omega, by omega, by go_num, by rw [HO.out, ← HOO.out, Bool.true_or], HSet.out, HX'.out, HB'.out.drew, by simp; omega⟩
        case measure => simp [intOf]; omega
    · obtain ⟨ys, hys⟩ : ∃ ys, ys = txt p r xs i := ⟨_, rfl⟩
      obtain ⟨o, ho⟩ : ∃ o, o = oth xs i := ⟨_, rfl⟩
      have hfin := finds_walk p r xs i (by have h2 := HR.out; omega) (by have h2 := HXL.out; omega) (by omega) a HP.out ys hys o ho
      rw [← hys] at hro
      have hyl : ys.length = a.size := by rw [hys]; exact HN.out
      rw [← ho]
      have la : a.size ≤ 9223372036854775807 := by omega
      have lb : (str ys).size ≤ 9223372036854775807 := by
        have : (str ys).size = ys.length := by simp [str, ByteArray.size]
        omega
      have hrd := hro.drew
      have hbd := hbel.drew
      have hz2 : w.heap.size + 1 < wr.drew.heap.size := hz
      have HYL := Lib.hid hyl
      clear hys ho hx hyl HN
      by_cases hi4 : i < 4
      · have hma : ¬ m + i < a.size := fun h => hc ⟨hi4, h⟩
        clear hc
        go_wp2
        go_region_held3 (fun w' => (convert 26 9 (.slice (some ⟨w.heap.size + 1, 0, none⟩) a.size cap)).run Try.prog w' = .ok (.string (str ys)) w') (first | exact conv_row hro HYL.out | exact conv_row hrd HYL.out | assumption)
          (first | (go_at_call 21; go_must (refine (sOf_int _ _ ?_).mono ?_; assumption; rintro e w1 ⟨rfl, hb1⟩; have hr1 := RowAt.below (K := w.heap.size + 1) (ys := ys) (by assumption) hb1 (by assumption); have hS1 := conv_row (cap := cap) hr1 HYL.out; have hB1 := below_next hb1 (by assumption); have hs1 := lt_next (n := w.heap.size + 1) hb1 (by assumption))) | (go_at_call 17; go_must (refine (sknown_any _).mono ?_; rintro e w1 ⟨rfl, hb1⟩; have hr1 := RowAt.below (K := w.heap.size + 1) (ys := ys) (by assumption) hb1 (by assumption); have hS1 := conv_row (cap := cap) hr1 HYL.out; have hB1 := below_next hb1 (by assumption))))
        go_wp2
        go_ret
        exact ⟨rfl, by assumption⟩
      · clear hc
        go_wp2
        go_region_held3 (fun w' => (convert 26 9 (.slice (some ⟨w.heap.size + 1, 0, none⟩) a.size cap)).run Try.prog w' = .ok (.string (str ys)) w') (first | exact conv_row hro HYL.out | exact conv_row hrd HYL.out | assumption)
          (first | (go_at_call 21; go_must (refine (sOf_int _ _ ?_).mono ?_; assumption; rintro e w1 ⟨rfl, hb1⟩; have hr1 := RowAt.below (K := w.heap.size + 1) (ys := ys) (by assumption) hb1 (by assumption); have hS1 := conv_row (cap := cap) hr1 HYL.out; have hB1 := below_next hb1 (by assumption); have hs1 := lt_next (n := w.heap.size + 1) hb1 (by assumption))) | (go_at_call 17; go_must (refine (sknown_any _).mono ?_; rintro e w1 ⟨rfl, hb1⟩; have hr1 := RowAt.below (K := w.heap.size + 1) (ys := ys) (by assumption) hb1 (by assumption); have hS1 := conv_row (cap := cap) hr1 HYL.out; have hB1 := below_next hb1 (by assumption))))
        go_wp2
        go_ret
        exact ⟨rfl, by assumption⟩

set_option maxRecDepth 100000 in
/-- Where the place is none of the text's, the fixed calls alone are made. -/
theorem walk_out (a : ByteArray) (n : Int) (x : Value) (x0 x1 x2 x3 : Value) (hx : x = .agg #[x0, x1, x2, x3]) (w : World) (h : 1000 < a.size ∨ n < 0 ∨ (a.size : Int) ≤ n) :
    Calls Try.prog 7 #[.string a, .int .i64 n, x] w fun e w' => e = .returned (.bool true) ∧ Below w.heap.size w w' := by
  subst hx
  by_cases h1 : 1000 < a.size
  · clear h
    go_enter Try.func7, Try.ntmps7
    go_wp2_with (go_at_call 17; go_must (refine (sknown_any _).mono ?_); rintro e w1 ⟨rfl, hb⟩)
    go_ret
    exact ⟨rfl, ((Below.refl _ _).alloc (Nat.le_refl _) _).trans (hb.mono (by simp))⟩
  · by_cases h2 : n < 0
    · clear h
      go_enter Try.func7, Try.ntmps7
      go_wp2_with (go_at_call 17; go_must (refine (sknown_any _).mono ?_); rintro e w1 ⟨rfl, hb⟩)
      go_ret
      exact ⟨rfl, ((Below.refl _ _).alloc (Nat.le_refl _) _).trans (hb.mono (by simp))⟩
    · have h3 : (a.size : Int) ≤ n := by omega
      clear h
      go_enter Try.func7, Try.ntmps7
      go_wp2_with (go_at_call 17; go_must (refine (sknown_any _).mono ?_); rintro e w1 ⟨rfl, hb⟩)
      go_ret
      exact ⟨rfl, ((Below.refl _ _).alloc (Nat.le_refl _) _).trans (hb.mono (by simp))⟩

/-! ### THE FRAME -/
theorem cells4 : Try.prog.cellsOf 47 = 4 := by kernel_rfl
theorem cellsU8 : Try.prog.cellsOf 5 = 1 := by kernel_rfl

set_option maxRecDepth 100000 in
theorem lifted (os : Os) (started : os.Started) (H : Type) (enc : TypeId × Value → H) :
    ReturnsInHanded {} Try.checked os 7 .any (Rows.sumFindsSpec.pre6 enc Try.prog Try.f7 Rows.sumFindsRow.domain false) (Rows.sumFindsSpec.post enc Try.prog Try.f7 false true false false) := by
  refine returnsInHanded_of_change (C := Try.checked) own started (by kernel_rfl) Try.func7
    (ChangeSpec.witness6 (enc := enc) (C := Try.checked) false ⟨#[], #[.string ⟨#[]⟩, .int .i64 0, .agg #[.int .u8 0, .int .u8 0, .int .u8 0, .int .u8 0]], []⟩ 8 (by kernel_rfl) (by kernel_rfl) (by kernel_rfl) (by kernel_rfl)) ?_
  intro W base args ds gs before hval0 hW hcnd _
  have hval : ∀ (j : Nat) t v, Try.f7.params[j]? = some t → args[j]? = some v → Value.okWide Try.prog W .any base t v := hval0
  have hW' := hW
  obtain ⟨p, q, hA0, hV, rfl, hfz, hnd⟩ := hW
  have hA : DataW.TrodAll enc Try.prog W 0 (fun _ => true) true Try.f7.params.toList args.toList ds p := hA0
  rw [Try.params7] at hA hval
  obtain ⟨v0, vs0, d0, ds0, p0, q0, hargs, rfl, rfl, h0, r0⟩ := trodAll_cons hA
  obtain ⟨v1, vs1, d1, ds1, p1, q1, rfl, rfl, rfl, h1, r1⟩ := trodAll_cons r0
  obtain ⟨v2, vs2, d2, ds2, p2, q2, rfl, rfl, rfl, h2, r2⟩ := trodAll_cons r1
  obtain ⟨rfl, rfl, rfl⟩ := trodAll_nil r2
  obtain rfl : args = #[v0, v1, v2] := by cases args; simp_all
  have post : ∀ W', Below W.heap.size W W' → Rows.sumFindsSpec.post enc Try.prog Try.f7 false true false false W #[v0, v1, v2] (.bool true) W' := fun W' hg =>
    law_post laidOut (by rw [Try.params7]; decide +kernel) rfl Try.underlying4 rfl hW' rfl hg
  have done : ∀ (e : Ending) W', (e = .returned (.bool true) ∧ Below W.heap.size W W') → ∃ v, e = .returned v ∧ Rows.sumFindsSpec.post enc Try.prog Try.f7 false true false false W #[v0, v1, v2] v W' := fun e W' ⟨he, hg⟩ => ⟨_, he, post W' hg⟩
  clear post
  obtain ⟨a, rfl, rfl, rfl, hs⟩ := open_string Try.underlying9 (hval 0 9 v0 rfl rfl) h0
  obtain ⟨n, rfl, rfl, rfl, wn⟩ := open_int Try.underlying3 (hval 1 3 v1 rfl rfl) h1
  obtain ⟨x0, x1, x2, x3, rfl⟩ := four_bytes Try.underlying47 Try.underlying5 cellsU8 cells4 (hval 2 47 v2 rfl rfl) h2
  by_cases hout : 1000 < a.size ∨ n < 0 ∨ (a.size : Int) ≤ n
  · exact (walk_out a n _ _ _ _ _ rfl W hout).mono done
  · obtain ⟨m, rfl⟩ := Int.eq_ofNat_of_zero_le (show 0 ≤ n by omega)
    exact (walk a m _ x0 x1 x2 x3 rfl W (by omega) (by omega)).mono done


theorem over : Rows.sumFindsRow.holds Try.pinned (OpenSpec.ofChange Rows.sumFindsSpec) :=
  OpenClaim.holds_of_wide 7 Try.f7 rfl rfl rfl rfl rfl rfl rfl ⟨rfl, rfl, rfl, rfl, rfl⟩ rfl rfl rfl rfl rfl (by kernel_rfl) Try.func7 (by kernel_rfl)
    (of_decide_eq_true (by kernel_rfl)) (by unfold Func.isWrapper; first | (rw [if_pos (by decide +kernel)]; kernel_rfl) | (rw [if_neg (by decide +kernel)]; exact ⟨rfl, rfl⟩))
    (fun os started H enc _ => lifted os started H enc)

theorem proved : Rows.SumFindsSaid := over

end Go.Proofs.Ytbdjhkcpnkdbkaa.sumFinds
