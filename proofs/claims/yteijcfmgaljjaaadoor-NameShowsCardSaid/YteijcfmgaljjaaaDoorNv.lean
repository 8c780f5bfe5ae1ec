/- Names: the escapes undone: what it is; the program's walk. -/
import Derived.Test.YteijcfmgaljjaaaDoorNu
import Derived.Deep.RegionWith
namespace Go.Proofs.YteijcfmgaljjaaaDoor
open Go.RowKit

def digsL : List UInt8 := [48, 49, 50, 51, 52, 53, 54, 55, 56, 57, 97, 98, 99, 100, 101, 102]
def und (a : UInt8) : Int := Lib.indexByte digsL a
theorem und_bound (a : UInt8) : -1 ≤ und a ∧ und a ≤ 15 := by
  unfold und
  rcases cut_cases digsL a with h | ⟨ys, zs, h1, h2⟩
  · rw [index_none h]; omega
  · rw [h1, index_hit h2]
    have := congrArg List.length h1
    rw [show digsL.length = 16 from rfl, List.length_append, List.length_cons] at this
    omega
def byteOf (h l : Int) : UInt8 := UInt8.ofNat (16 * h + l).toNat
def unescF : Nat → List UInt8 → Option (List UInt8)
  | 0, _ => none
  | _ + 1, [] => some []
  | f + 1, x :: rest =>
    if x = 37 then
      (match rest with
       | a :: b :: r => if 0 ≤ und a ∧ 0 ≤ und b then (unescF f r).map (byteOf (und a) (und b) :: ·) else none
       | _ => none)
    else (unescF f rest).map (x :: ·)
theorem unescF_fuel : ∀ (f g : Nat) (xs : List UInt8), xs.length < f → xs.length < g → unescF f xs = unescF g xs
  | f + 1, g + 1, [], _, _ => rfl
  | f + 1, g + 1, x :: rest, hf, hg => by
    simp only [unescF]
    simp only [List.length_cons] at hf hg
    by_cases hx : x = 37
    · rw [if_pos hx, if_pos hx]
      match rest, hf, hg with
      | [], _, _ => rfl
      | [_], _, _ => rfl
      | a :: b :: r, hf, hg =>
        simp only [List.length_cons] at hf hg
        dsimp only
        rw [unescF_fuel f g r (by omega) (by omega)]
    · rw [if_neg hx, if_neg hx, unescF_fuel f g rest (by omega) (by omega)]
/-- A text whose escapes are undone, if they are some. -/
def unesc (xs : List UInt8) : Option (List UInt8) := unescF (xs.length + 1) xs
theorem unesc_nil : unesc [] = some [] := rfl
theorem unesc_cons {x : UInt8} (h : x ≠ 37) (l : List UInt8) : unesc (x :: l) = (unesc l).map (x :: ·) := by
  show unescF ((l.length + 1) + 1) (x :: l) = _
  simp only [unescF]
  rw [if_neg h]
  rfl
theorem unesc_esc (a b : UInt8) (r : List UInt8) : unesc (37 :: a :: b :: r) = if 0 ≤ und a ∧ 0 ≤ und b then (unesc r).map (byteOf (und a) (und b) :: ·) else none := by
  show unescF ((r.length + 2 + 1) + 1) (37 :: a :: b :: r) = _
  simp only [unescF]
  rw [if_pos True.intro, unescF_fuel (r.length + 2 + 1) (r.length + 1) r (by omega) (by omega)]
  rfl
theorem unesc_short {zs : List UInt8} (h : zs.length < 2) : unesc (37 :: zs) = none := by
  match zs, h with
  | [], _ => rfl
  | [_], _ => rfl
theorem unesc_app : ∀ (ys zs : List UInt8), 37 ∉ ys → unesc (ys ++ zs) = (unesc zs).map (ys ++ ·)
  | [], zs, _ => by simp
  | y :: ys, zs, h => by
    have h1 : y ≠ 37 := fun e => h (by simp [e])
    have h2 : 37 ∉ ys := fun e => h (by simp [e])
    rw [List.cons_append, unesc_cons h1, unesc_app ys zs h2, Option.map_map]
    rfl
theorem unesc_whole {ys : List UInt8} (h : 37 ∉ ys) : unesc ys = some ys := by
  have := unesc_app ys [] h
  rw [List.append_nil, unesc_nil] at this
  simpa using this

theorem strCells_eq (s : ByteArray) : Lib.strCells s = Lib.byteCells s.data.toList := rfl
theorem digit_at (x : UInt8) (W : World) : Calls Tryd.prog 42 #[.string ⟨#[48, 49, 50, 51, 52, 53, 54, 55, 56, 57, 97, 98, 99, 100, 101, 102]⟩, .int .u8 (x.toNat : Int)] W fun e w' => e = .returned (.int .i64 (und x)) ∧ w' = W := by
  have h := Tryd.strings_IndexByte ⟨#[48, 49, 50, 51, 52, 53, 54, 55, 56, 57, 97, 98, 99, 100, 101, 102]⟩ (x.toNat : Int) W
  have e : (x.toNat : Int).toNat.toUInt8 = x := by rw [Int.toNat_natCast]; simp
  rw [e] at h
  exact h

theorem or_nat : ∀ h, h < 16 → ∀ l, l < 16 → bits BinOp.or IntKind.i64 ((h : Nat) * 16 : Int) (l : Nat) = 16 * h + l := by decide +kernel
theorem or_bits (h l : Int) (h0 : 0 ≤ h) (h1 : h < 16) (l0 : 0 ≤ l) (l1 : l < 16) : bits BinOp.or IntKind.i64 (h * 16) l = 16 * h + l := by
  obtain ⟨a, rfl⟩ : ∃ a : Nat, h = a := ⟨h.toNat, by omega⟩
  obtain ⟨b, rfl⟩ : ∃ b : Nat, l = b := ⟨l.toNat, by omega⟩
  exact or_nat a (by omega) b (by omega)

theorem byteOf_cells (h l : Int) (hb : 0 ≤ h ∧ h ≤ 15) (lb : 0 ≤ l ∧ l ≤ 15) : Lib.byteCells [byteOf h l] = [.int .u8 (16 * h + l)] := by
  show [Value.int .u8 ((byteOf h l).toNat : Int)] = _
  have : ((byteOf h l).toNat : Int) = 16 * h + l := by
    unfold byteOf
    rw [UInt8.toNat_ofNat']
    omega
  rw [this]
theorem str_list (xs : List UInt8) : (str xs).data.toList = xs := by simp [str]

/-- The length of a text in a slot. -/
def slen : Value → Nat | .string u => u.size | _ => 0

set_option maxHeartbeats 4000000 in
set_option maxRecDepth 1000000 in
theorem nunescaped_at (t0 : ByteArray) (w : World) (hs : t0.size ≤ 1073741824) :
    Calls Tryd.prog 30 #[.string t0] w fun e w' => (∃ (u : List UInt8) (b : Bool), e = .returned (.tuple #[.string (str u), .bool b]) ∧ u.length ≤ t0.size ∧ ((b = true ∧ unesc t0.data.toList = some u) ∨ (b = false ∧ unesc t0.data.toList = none))) ∧ Below w.heap.size w w' := by
  obtain ⟨R, hR⟩ : ∃ R, R = unesc t0.data.toList := ⟨_, rfl⟩
  rw [← hR]
  have HR := Lib.hid hR
  clear hR
  go_enter Tryd.func30, Tryd.ntmps30
  go_wp2_with fail
  go_loopw [0, 5, 6, 7, 8, 9] (fun v _ _ _ _ _ wr => ∃ (t : ByteArray) (acc : List UInt8), v = .string t ∧ Lib.IsBuilderF 42 5 w.heap.size w.heap.size (Lib.byteCells acc) wr ∧ (unesc t.data.toList).map (acc ++ ·) = R ∧ acc.length + t.size ≤ t0.size ∧ Below w.heap.size w wr) (fun v _ _ _ _ _ _ => slen v)
  case atStart => exact ⟨t0, [], rfl, Lib.IsBuilderF.of (Lib.fresh_isBuilder 42 5 w), by rw [HR.out]; simp, by simp, (Below.refl _ w).alloc (Nat.le_refl _) _⟩
  case round =>
    obtain ⟨t, acc, rfl, hI, hacc, hal, hbw⟩ := hrel
    have HA := Lib.hid hacc
    clear hacc
    have hszw : w.heap.size ≤ wr.heap.size := hbw.size
    rcases cut_cases t.data.toList 37 with hno | ⟨ys, zs, ht, hys⟩
    · have HC := Lib.hid (cut_none t ⟨#[37]⟩ rfl wr hno)
      have hw := unesc_whole hno
      go_wp2_with fail
      go_must (refine HC.out.mono ?_)
      rintro e w1 ⟨rfl, b1⟩
      have hI1 := builder_below hI b1
      have hz1 := b1.size
      go_wp2_with fail
      go_must (refine (writeString_at w.heap.size w.heap.size _ t _ hI1 (by rw [Lib.byteCells_length]; omega) (by omega)).mono ?_)
      rintro e w2 ⟨rfl, h2, b2, k2⟩
      have hz2 := b2.size
      have hI2 : Lib.IsBuilderF 42 5 w.heap.size w.heap.size (Lib.byteCells (acc ++ t.data.toList)) w2 := by
        rw [Lib.byteCells_append, ← strCells_eq]
        exact Or.inr h2
      go_wp2_with fail
      go_must (refine (Tryd.Builder_String_any_k w.heap.size w.heap.size _ _ hI2 (by omega)).mono ?_)
      rintro e w3 ⟨rfl, _, b3, _⟩
      go_wp2_with fail
      go_ret2
      refine ⟨⟨acc ++ t.data.toList, true, rfl, by rw [List.length_append]; simpa using hal, .inl ⟨rfl, ?_⟩⟩, ((hbw.trans (b1.mono (by omega))).trans b2).trans b3⟩
      rw [← HA.out, hw]
      rfl
    · have HC := Lib.hid (cut_hit t ⟨#[37]⟩ rfl wr (by omega) ys zs ht hys)
      have htl : t.size = ys.length + 1 + zs.length := by
        have := congrArg List.length ht
        simp at this
        omega
      have hw : unesc t.data.toList = (unesc (37 :: zs)).map (ys ++ ·) := by rw [ht]; exact unesc_app ys _ hys
      have HW := Lib.hid hw
      have hysz : (str ys).size = ys.length := str_size _
      have hzsz : (str zs).size = zs.length := str_size _
      have hysc : Lib.strCells (str ys) = Lib.byteCells ys := by rw [strCells_eq]; simp [str]
      obtain ⟨yb, hyb⟩ : ∃ yb, str ys = yb := ⟨_, rfl⟩
      obtain ⟨zb, hzb⟩ : ∃ zb, str zs = zb := ⟨_, rfl⟩
      rw [hyb] at hysz hysc HC
      rw [hzb] at hzsz HC
      have HZB := Lib.hid hzb
      have HYC := Lib.hid hysc
      clear ht hys hw hyb hzb hysc
      go_wp2_with fail
      go_must (refine HC.out.mono ?_)
      rintro e w1 ⟨rfl, b1⟩
      have hI1 := builder_below hI b1
      have hz1 := b1.size
      go_wp2_with fail
      go_must (refine (writeString_at w.heap.size w.heap.size _ yb _ hI1 (by rw [Lib.byteCells_length]; omega) (by omega)).mono ?_)
      rintro e w2 ⟨rfl, h2, b2, k2⟩
      have hz2 := b2.size
      have hI2 : Lib.IsBuilderF 42 5 w.heap.size w.heap.size (Lib.byteCells (acc ++ ys)) w2 := by
        rw [Lib.byteCells_append, ← HYC.out]
        exact Or.inr h2
      have hbw2 := (hbw.trans (b1.mono (by omega))).trans b2
      by_cases hz2 : zs.length < 2
      · have hd : decide ((zb.size : Int) < 2) = true := by simp; omega
        go_wp2_with fail
        go_ret2
        refine ⟨⟨[], false, rfl, by simp, .inr ⟨rfl, ?_⟩⟩, hbw2⟩
        rw [← HA.out, HW.out, unesc_short hz2]
        rfl
      · have hd : decide ((zb.size : Int) < 2) = false := by simp; omega
        obtain ⟨a, b, r, rfl⟩ : ∃ a b r, zs = a :: b :: r := by
          match zs, hz2 with
          | a :: b :: r, _ => exact ⟨a, b, r, rfl⟩
          | [_], h => simp at h
          | [], h => simp at h
        have g0 : ∀ h : 0 < zb.size, zb[0]'h = a := by rw [← HZB.out]; intro h; rfl
        have g1 : ∀ h : 1 < zb.size, zb[1]'h = b := by rw [← HZB.out]; intro h; rfl
        have l0 : 0 < zb.size := by omega
        have l1 : 1 < zb.size := by omega
        have g0 := g0 l0
        have g1 := g1 l1
        have c0 : (0 : Int) < (zb.size : Int) := by omega
        have c1 : (1 : Int) < (zb.size : Int) := by omega
        have HX := Lib.hid digit_at
        have ua := und_bound a
        have ub := und_bound b
        obtain ⟨ha, hha⟩ : ∃ z, z = und a := ⟨_, rfl⟩
        obtain ⟨hb, hhb⟩ : ∃ z, z = und b := ⟨_, rfl⟩
        have HA1 := Lib.hid hha
        have HB1 := Lib.hid hhb
        have HXa := Lib.hid (fun W => digit_at a W)
        have HXb := Lib.hid (fun W => digit_at b W)
        rw [← hha] at ua HXa
        rw [← hhb] at ub HXb
        clear hha hhb HX
        by_cases hg : 0 ≤ ha ∧ 0 ≤ hb
        · have d1 : decide (ha < 0) = false := by simp; omega
          have d2 : decide (hb < 0) = false := by simp; omega
          have hor := or_bits ha hb hg.1 (by omega) hg.2 (by omega)
          have hwv : (16 * ha + hb) % 256 = 16 * ha + hb := by omega
          have hcut : zb.extract 2 zb.size = str r := by
            rw [← HZB.out]
            apply ByteArray.ext
            apply Array.toList_inj.1
            simp [str, ByteArray.data_extract]
            exact List.take_of_length_le (by simp [ByteArray.size])
          have hzz : zb.size = r.length + 1 + 1 := by simpa using hzsz
          rw [hzz] at hcut
          have hrz : (str r).size = r.length := str_size _
          obtain ⟨rb, hrb⟩ : ∃ rb, str r = rb := ⟨_, rfl⟩
          rw [hrb] at hcut hrz
          have HRB := Lib.hid hrb
          have hc2 : (2 : Int) ≤ (zb.size : Int) := by omega
          clear hrb
          go_wp2_with fail
          go_region_held3 (fun _ => True) (trivial)
            (first
              | (go_at_call_of 42 a; go_must (refine (HXa.out _).mono ?_); rintro e w4 ⟨rfl, rfl⟩)
              | (go_at_call_of 42 b; go_must (refine (HXb.out _).mono ?_); rintro e w4 ⟨rfl, rfl⟩))
          all_goals go_wp2_with fail
          all_goals go_must (refine (writeByte_at w.heap.size w.heap.size _ _ _ (builder_below hI2 (Below.refl _ w2).drew) (by rw [Lib.byteCells_length, List.length_append]; omega) (by show w.heap.size ≤ w2.heap.size; omega)).mono ?_)
          all_goals rintro e w5 ⟨rfl, h5, b5, k5⟩
          all_goals go_wp2_with fail
          all_goals go_roundw
          all_goals first
            | (refine ⟨rb, acc ++ ys ++ [byteOf (und a) (und b)], rfl, ?_, ?_, by simp; simp at htl; omega, hbw2.trans ((Below.refl _ w2).drew.mono (by omega) |>.trans b5)⟩
               · rw [Lib.byteCells_append, byteOf_cells _ _ (by rw [← HA1.out]; omega) (by rw [← HB1.out]; omega), ← HA1.out, ← HB1.out]
                 exact Or.inr h5
               · rw [← HA.out, HW.out, unesc_esc, if_pos (by rw [← HA1.out, ← HB1.out]; exact hg), ← HRB.out, str_list, Option.map_map, Option.map_map]
                 congr 1
                 funext x
                 simp)
            | (show rb.size < t.size
               simp at htl
               omega)
            | trace_state
        · have HG := Lib.hid hg
          by_cases h1 : 0 ≤ ha
          · have d1 : decide (ha < 0) = false := by simp; omega
            have d2 : decide (hb < 0) = true := by simp; omega
            clear hg
            go_wp2_with fail
            go_region_held3 (fun _ => True) (trivial)
              (first
                | (go_at_call_of 42 a; go_must (refine (HXa.out _).mono ?_); rintro e w4 ⟨rfl, rfl⟩)
                | (go_at_call_of 42 b; go_must (refine (HXb.out _).mono ?_); rintro e w4 ⟨rfl, rfl⟩))
            all_goals go_wp2_with fail
            all_goals go_ret2
            all_goals refine ⟨⟨[], false, rfl, by simp, .inr ⟨rfl, ?_⟩⟩, hbw2.drew⟩
            all_goals rw [← HA.out, HW.out, unesc_esc, if_neg (by rw [← HA1.out, ← HB1.out]; exact HG.out)]
            all_goals rfl
          · have d1 : decide (ha < 0) = true := by simp; omega
            clear hg
            go_wp2_with fail
            go_region_held3 (fun _ => True) (trivial)
              (first
                | (go_at_call_of 42 a; go_must (refine (HXa.out _).mono ?_); rintro e w4 ⟨rfl, rfl⟩)
                | (go_at_call_of 42 b; go_must (refine (HXb.out _).mono ?_); rintro e w4 ⟨rfl, rfl⟩))
            all_goals go_wp2_with fail
            all_goals go_ret2
            all_goals refine ⟨⟨[], false, rfl, by simp, .inr ⟨rfl, ?_⟩⟩, hbw2.drew⟩
            all_goals rw [← HA.out, HW.out, unesc_esc, if_neg (by rw [← HA1.out, ← HB1.out]; exact HG.out)]
            all_goals rfl
end Go.Proofs.YteijcfmgaljjaaaDoor
