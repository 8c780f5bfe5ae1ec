/- Names: what the program's checks ask of package strings. -/
import Derived.Test.YteijcfmgaljjaaaDoorNb
import Derived.BigCall
import Derived.Laws.Runes
import Derived.Scope
import Derived.Deep.QuietTactic
import Derived.BigQuiet
import Derived.Lib.MapLaws
import Derived.Laws.RangeAny
import Derived.Lib.DecodeN
namespace Go.Proofs.YteijcfmgaljjaaaDoor
open Go.RowKit

set_option maxRecDepth 100000 in
set_option maxHeartbeats 1000000 in
theorem indexRune_error (s : ByteArray) (hs : s = ⟨#[0, 47]⟩) (w : World) :
    Calls Tryd.prog 43 #[.string s, .int .i32 65533] w fun e w' => e = .returned (.int .i64 (-1)) ∧ Below w.heap.size w w' := by
  have hsz : s.size = 2 := by rw [hs]; rfl
  have hd0 : Utf8.decode s 0 = (0, 1) := by rw [hs]; decide +kernel
  have hd1 : Utf8.decode s 1 = (47, 1) := by rw [hs]; decide +kernel
  clear hs
  go_enter Tryd.func43, Tryd.ntmps43
  go_wp2_with fail
  go_loopw [5, 6] (fun _ _ wr => ∃ pos : Nat, pos ≤ 2 ∧ wr.heap[w.heap.size]? = some (.stringIter s pos) ∧ Below w.heap.size w wr) (fun _ _ wr => 2 - wr.iterPos w.heap.size)
  case atStart =>
    exact ⟨0, by omega, World.iter_heap w s 0, (Below.refl _ w).alloc (Nat.le_refl _) _⟩
  case round =>
    obtain ⟨pos, hp2, hit, hbw⟩ := hrel
    by_cases hp : pos < s.size
    · have hnx : ∀ ty, (Instr.next (.pointer (some ⟨w.heap.size, 0, none⟩)) true ty).run Tryd.prog wr = _ := fun ty => Lib.run_next_any_at wr w.heap.size s pos ty hit hp
      have hit2 := Lib.iterAt_heap wr w.heap.size s pos (pos + (Utf8.decode s pos).2) hit
      have hbw2 := Lib.below_iterAt hbw (k := w.heap.size) (by omega) s (pos + (Utf8.decode s pos).2)
      have hpp : pos = 0 ∨ pos = 1 := by omega
      rcases hpp with rfl | rfl
      · rw [hd0] at hnx hit2 hbw2
        have hit2 : (wr.iterAt w.heap.size s 1).heap[w.heap.size]? = some (.stringIter s 1) := hit2
        go_wp2
        go_roundw
        case rel => exact ⟨1, by omega, hit2, hbw2⟩
        case measure =>
          have e1 : (wr.iterAt w.heap.size s 1).iterPos w.heap.size = 1 := by simp only [World.iterPos, hit2]
          have e2 : wr.iterPos w.heap.size = 0 := by simp only [World.iterPos, hit]
          show 2 - (wr.iterAt w.heap.size s 1).iterPos w.heap.size < 2 - wr.iterPos w.heap.size
          omega
      · rw [hd1] at hnx hit2 hbw2
        have hit2 : (wr.iterAt w.heap.size s 2).heap[w.heap.size]? = some (.stringIter s 2) := hit2
        go_wp2
        go_roundw
        case rel => exact ⟨2, by omega, hit2, hbw2⟩
        case measure =>
          have e1 : (wr.iterAt w.heap.size s 2).iterPos w.heap.size = 2 := by simp only [World.iterPos, hit2]
          have e2 : wr.iterPos w.heap.size = 1 := by simp only [World.iterPos, hit]
          show 2 - (wr.iterAt w.heap.size s 2).iterPos w.heap.size < 2 - wr.iterPos w.heap.size
          omega
    · have hnx : ∀ ty, (Instr.next (.pointer (some ⟨w.heap.size, 0, none⟩)) true ty).run Tryd.prog wr = _ := fun ty => Lib.run_next_end_at wr w.heap.size s pos ty hit hp
      go_wp2
      go_ret
      exact ⟨rfl, hbw⟩

theorem below_drewN {B : Nat} {w w' : World} (h : Below B w w') (n : Nat) : Below B w (w'.drewN n) := by
  obtain ⟨h1, h2, h3, h4, h5⟩ := h
  exact ⟨h1, h2, h3, h4, h5⟩
theorem encode_shape (r : Int) (h0 : 128 ≤ r) : ∃ u : ByteArray, Utf8.encode r = u ∧ 2 ≤ u.size ∧ u.size ≤ 4 ∧ ∀ (h : u.size - 1 < u.size), 128 ≤ (u[u.size - 1]'h).toNat := by
  have hc : 128 ≤ (if Utf8.valid r then r.toNat else Utf8.runeError) := by
    split
    · omega
    · decide
  have hb : ∀ n : Nat, (UInt8.ofNat (128 + n % 64)).toNat = 128 + n % 64 := fun n => by
    rw [UInt8.toNat_ofNat']
    omega
  unfold Utf8.encode
  dsimp only
  generalize (if Utf8.valid r then r.toNat else Utf8.runeError) = c at hc ⊢
  refine ⟨_, rfl, ?_⟩
  rw [if_neg (by omega)]
  split
  · refine ⟨Nat.le_of_ble_eq_true rfl, Nat.le_of_ble_eq_true rfl, fun h => ?_⟩
    show 128 ≤ (UInt8.ofNat (128 + c % 64)).toNat
    rw [hb]; omega
  · split
    · refine ⟨Nat.le_of_ble_eq_true rfl, Nat.le_of_ble_eq_true rfl, fun h => ?_⟩
      show 128 ≤ (UInt8.ofNat (128 + c % 64)).toNat
      rw [hb]; omega
    · refine ⟨Nat.le_of_ble_eq_true rfl, Nat.le_of_ble_eq_true rfl, fun h => ?_⟩
      show 128 ≤ (UInt8.ofNat (128 + c % 64)).toNat
      rw [hb]; omega

set_option maxRecDepth 100000 in
set_option maxHeartbeats 1000000 in
theorem indexRune_high (s : ByteArray) (hs : s = ⟨#[0, 47]⟩) (r : Int) (h0 : 128 ≤ r) (h1 : r ≤ 2147483647) (hE : r ≠ 65533) (w : World) :
    Calls Tryd.prog 43 #[.string s, .int .i32 r] w fun e w' => e = .returned (.int .i64 (-1)) ∧ Below w.heap.size w w' := by
  have d1 : decide (r < 128) = false := by simp; omega
  have hsz : s.size = 2 := by rw [hs]; rfl
  have hE2 : (r == 65533) = false := by simpa using hE
  have hs1 : ∀ h : 1 < s.size, (s[1]'h).toNat = 47 := by rw [hs]; intro h; rfl
  have hcut : s.extract 2 2 = ⟨#[]⟩ := by rw [hs]; rfl
  have HCUT := Lib.hid hcut
  clear hs
  obtain ⟨u, hu, hu2, hu4, hul⟩ := encode_shape r h0
  cases hv : Lib.validRune r with
  | false =>
    have HV := Lib.hid hv
    clear hv
    go_enter Tryd.func43, Tryd.ntmps43
    go_wp2_with (go_at_call 52; go_must (refine (Tryd.utf8_ValidRune r _).mono ?_); rintro e w1 ⟨rfl, rfl⟩; rw [HV.out])
    go_ret
    exact ⟨rfl, Below.refl _ _⟩
  | true =>
    have HV := Lib.hid hv
    have hw1 : IntKind.i64.wrap ((u.size : Int) - 1) = (u.size : Int) - 1 := by rw [IntKind.wrap_i64]; omega
    clear hv
    by_cases h2 : u.size = 2
    · have hus : u.size - 1 < u.size := by omega
      have hl := hul hus
      have hus1 : 1 < u.size := by omega
      have hss1 : 1 < s.size := by omega
      have hl1 : 128 ≤ (u[1]'hus1).toNat := by
        have : u.size - 1 = 1 := by omega
        simpa [this] using hl
      have hs1 := hs1 hss1
      have hne : (((s[1]'hss1).toNat : Int) != ((u[1]'hus1).toNat : Int)) = true := by rw [bne_iff_ne]; omega
      have hne7 : ((47 : Int) != ((u[1]'hus1).toNat : Int)) = true := by rw [bne_iff_ne]; omega
      clear hl hl1 hul
      go_enter Tryd.func43, Tryd.ntmps43
      go_wp2_with (go_at_call 52; go_must (refine (Tryd.utf8_ValidRune r _).mono ?_); rintro e w1 ⟨rfl, rfl⟩; rw [HV.out])
      refine wp_scope_straight ?_
      go_wp2_with fail
      go_loopw [9] (fun i wr => i = .int .i64 1 ∧ wr = w1) (fun _ _ => 0)
      case atStart => exact ⟨rfl, rfl⟩
      case round =>
        obtain ⟨rfl, rfl⟩ := hrel
        go_wp2_with fail
        refine wp_scope_straight ?_
        go_wp2_with fail
        go_quiet (fail)
        go_wp2_with fail
        rw [show (Op.slice 9 (Operand.tmp 34) (some (Operand.tmp 36)) none none) = id (Op.slice 9 (Operand.tmp 34) (some (Operand.tmp 36)) none none) from rfl]
        go_region_held3 (fun _ => True) (trivial) ((go_at_call 42; go_must (refine (Tryd.strings_IndexByte _ _ _).mono ?_); rintro e w2 ⟨rfl, rfl⟩))
        have hneg : Lib.indexByte [] (u[1]'hus1) = -1 := rfl
        go_wp2_with fail
        all_goals change bodyPost Tryd.prog Tryd.f43 (fun e w' => e = .returned (.int .i64 (-1)) ∧ Below wr.heap.size wr w') Exit.ret _ _
        all_goals go_ret
        all_goals exact ⟨rfl, below_drewN (Below.refl _ _) _⟩
    · have d2 : decide ((u.size : Int) - 1 < (s.size : Int)) = false := by simp; omega
      go_enter Tryd.func43, Tryd.ntmps43
      go_wp2_with (go_at_call 52; go_must (refine (Tryd.utf8_ValidRune r _).mono ?_); rintro e w1 ⟨rfl, rfl⟩; rw [HV.out])
      refine wp_scope_straight ?_
      go_wp2_with fail
      go_loopw [9] (fun i wr => i = .int .i64 ((u.size : Int) - 1) ∧ wr = w1) (fun _ _ => 0)
      case atStart => exact ⟨rfl, rfl⟩
      case round =>
        obtain ⟨rfl, rfl⟩ := hrel
        go_wp2_with fail
        rw [Exit.noGoto_ret]
        go_ret
        exact ⟨rfl, Below.refl _ _⟩

theorem indexAny_two (xs : List UInt8) : decide (0 ≤ Lib.indexAny xs [0, 47]) = (hasB xs 0 || hasB xs 47) := by
  induction xs with
  | nil => rfl
  | cons b l ih =>
    have hge := Lib.indexAny_ge [0, 47] l
    have e : Lib.indexAny (b :: l) [0, 47] = if [0, 47].contains b then 0 else if Lib.indexAny l [0, 47] == -1 then -1 else Lib.indexAny l [0, 47] + 1 := rfl
    have hh : (hasB (b :: l) 0 || hasB (b :: l) 47) = ([0, 47].contains b || (hasB l 0 || hasB l 47)) := by
      unfold hasB
      simp only [List.contains_cons, List.contains_nil, Bool.or_false]
      rw [show ((0 : UInt8) == b) = (b == 0) from BEq.comm, show ((47 : UInt8) == b) = (b == 47) from BEq.comm]
      cases (b == 0) <;> cases (b == 47) <;> cases l.contains 0 <;> cases l.contains 47 <;> rfl
    rw [hh, e, ← ih]
    cases hc : [0, 47].contains b with
    | true => rfl
    | false =>
      simp only [Bool.false_eq_true, if_false, Bool.false_or]
      by_cases h1 : Lib.indexAny l [0, 47] = -1
      · rw [h1]; rfl
      · have h2 : (Lib.indexAny l [0, 47] == -1) = false := by simpa using h1
        rw [h2]
        simp only [Bool.false_eq_true, if_false]
        have a1 : 0 ≤ Lib.indexAny l [0, 47] := by omega
        have a2 : 0 ≤ Lib.indexAny l [0, 47] + 1 := by omega
        simp [a1, a2]

theorem indexByte_two (c : UInt8) : decide (0 ≤ Lib.indexByte [0, 47] c) = (c == 0 || c == 47) := by
  have e : ∀ (l : List UInt8) (a : UInt8), Lib.indexByte (a :: l) c = if a == c then 0 else if Lib.indexByte l c == -1 then -1 else Lib.indexByte l c + 1 := fun _ _ => rfl
  have z : Lib.indexByte [] c = -1 := rfl
  rw [e, e, z, show ((0 : UInt8) == c) = (c == 0) from BEq.comm, show ((47 : UInt8) == c) = (c == 47) from BEq.comm]
  cases (c == 0) <;> cases (c == 47) <;> rfl
/-- The answer of IndexRune on the two bytes, at whatever rune. -/
theorem indexRune_two (s : ByteArray) (hs : s = ⟨#[0, 47]⟩) (r : Nat) (h1 : r ≤ 2147483647) (w : World) :
    Calls Tryd.prog 43 #[.string s, .int .i32 (r : Int)] w fun e w' => (∃ z : Int, e = .returned (.int .i64 z) ∧ (0 ≤ z ↔ (r = 0 ∨ r = 47))) ∧ Below w.heap.size w w' := by
  by_cases h : r < 128
  · refine (Tryd.strings_IndexRune_ascii s r w (by omega) (by omega)).mono ?_
    rintro e w' ⟨rfl, rfl⟩
    refine ⟨⟨_, rfl, ?_⟩, Below.refl _ _⟩
    have hd : s.data.toList = [0, 47] := by rw [hs]
    have h2 := indexByte_two ((r : Int).toNat.toUInt8)
    rw [hd]
    have hb : ((r : Int).toNat.toUInt8).toNat = r := by
      rw [Int.toNat_natCast]
      show (UInt8.ofNat r).toNat = r
      rw [UInt8.toNat_ofNat']; omega
    have h3 : (0 ≤ Lib.indexByte [0, 47] (r : Int).toNat.toUInt8) ↔ ((r : Int).toNat.toUInt8 = 0 ∨ (r : Int).toNat.toUInt8 = 47) := by
      constructor
      · intro h; rw [decide_eq_true h] at h2; simpa using h2.symm
      · intro h
        apply of_decide_eq_true
        rw [h2]
        rcases h with h | h <;> rw [h] <;> rfl
    rw [h3, ← UInt8.toNat_inj, ← UInt8.toNat_inj, hb]
    rfl
  · by_cases hE : r = 65533
    · subst hE
      refine (indexRune_error s hs w).mono ?_
      rintro e w' ⟨rfl, hb⟩
      exact ⟨⟨_, rfl, by omega⟩, hb⟩
    · refine (indexRune_high s hs r (by omega) (by omega) (by omega) w).mono ?_
      rintro e w' ⟨rfl, hb⟩
      exact ⟨⟨_, rfl, by omega⟩, hb⟩

/-- What Utf8.decode says of the bytes that it takes: a byte below 128 is a rune of its own; others hold no such byte. -/
theorem decode_takes (s : ByteArray) (pos : Nat) (h : pos < s.size) :
    ((s[pos]'h).toNat < 128 ∧ Utf8.decode s pos = ((s[pos]'h).toNat, 1)) ∨
    (128 ≤ (Utf8.decode s pos).1 ∧ pos + (Utf8.decode s pos).2 ≤ s.size ∧ 1 ≤ (Utf8.decode s pos).2 ∧ (Utf8.decode s pos).2 ≤ 4 ∧ ∀ j, j < (Utf8.decode s pos).2 → ∀ h : pos + j < s.size, 128 ≤ (s[pos + j]'h).toNat) := by
  by_cases ha : (s[pos]'h).toNat < 128
  · exact .inl ⟨ha, decode_ascii s pos h ha⟩
  · right
    have g : ∀ j (hj : pos + j < s.size), (s.get! (pos + j)) = s[pos + j]'hj := fun j hj => Utf8W.get!_of_lt s (pos + j) hj
    have g0 := g 0 h
    simp only [Nat.add_zero] at g0
    have hd := Lib.decode_at s pos
    have k1 := (s.get! (pos + 1)).toNat_lt
    have k2 := (s.get! (pos + 2)).toNat_lt
    have k3 := (s.get! (pos + 3)).toNat_lt
    have hx : 128 ≤ (s.get! pos).toNat := by rw [g0]; omega
    rcases Lib.decodeN_shape (s.size - pos) (s.get! pos).toNat (s.get! (pos + 1)).toNat (s.get! (pos + 2)).toNat (s.get! (pos + 3)).toNat with ⟨c, e⟩ | ⟨c1, c2, c3, cv, e⟩ | ⟨c1, c2, c3, c4, cv, cs, e⟩ | ⟨c1, c2, c3, c4, c5, cv, cw, e⟩ | e
    · omega
    all_goals
      rw [hd, e]
      dsimp only
      refine ⟨by omega, by omega, by omega, by omega, fun j hj hlt => ?_⟩
      rw [← g j hlt]
      have h4 : j = 0 ∨ j = 1 ∨ j = 2 ∨ j = 3 := by omega
      rcases h4 with rfl | rfl | rfl | rfl
      · exact hx
      · omega
      · omega
      · omega
end Go.Proofs.YteijcfmgaljjaaaDoor
