/- The law of places that wait. -/
import Derived.Test.YtokchikihacalaaGr
namespace Go.Proofs.Ytokchikihacalaa
open Go.RowKit

theorem take_no (xs : List Int) (h : xs.count 1 = 0) : gdo xs ⟨0, 0⟩ = (xs, 0, false) := by
  have hn : (1 : Int) ∉ xs := List.count_eq_zero.1 h
  unfold gdo
  simp [lea_none 1 xs hn]
theorem take_yes (xs : List Int) (c : Nat) (h : xs.count 1 = c + 1) : ∃ a, (gdo xs ⟨0, 0⟩).2 = (a, true) ∧ (gdo xs ⟨0, 0⟩).1.count 1 = c ∧ (gdo xs ⟨0, 0⟩).1.count 3 = xs.count 3 := by
  rcases lea_cases 1 xs with ⟨_, hn⟩ | ⟨j, hle, hj, hy⟩
  · exact absurd (List.count_eq_zero.2 hn) (by omega)
  · obtain ⟨_, hy⟩ := List.getElem?_eq_some_iff.1 hy
    unfold gdo
    rw [if_neg (by decide), if_neg (by decide), if_neg (by decide), if_neg (by omega), hle]
    refine ⟨j, rfl, ?_, ?_⟩
    · show (xs.set (j : Int).toNat 2).count 1 = c
      rw [Int.toNat_natCast, List.count_set hj, hy]
      simp
      omega
    · show (xs.set (j : Int).toNat 2).count 3 = _
      rw [Int.toNat_natCast, List.count_set hj, hy]
      simp
theorem give_at (xs : List Int) (i : Int) : (gdo xs ⟨2, i⟩).1.count 1 = xs.count 1 ∧ (gdo xs ⟨2, i⟩).1.count 3 = xs.count 3 + (if (gdo xs ⟨2, i⟩).2.2 then 1 else 0) := by
  have e : gdo xs ⟨2, i⟩ = if isAt xs i 2 then (xs.set i.toNat 3, 0, true) else (xs, 0, false) := by unfold gdo; simp
  rw [e]
  cases h : isAt xs i 2 with
  | false => simp
  | true =>
    obtain ⟨j, rfl, hj⟩ := isAt_nat h
    unfold isAt at h
    simp only [Bool.and_eq_true, decide_eq_true_eq, Int.toNat_natCast] at h
    have hy : xs[j] = 2 := by have := h.2; simpa [List.getD, List.getElem?_eq_getElem hj] using this
    simp only [if_true]
    rw [Int.toNat_natCast, List.count_set hj, List.count_set hj, hy]
    simp
theorem settle_at : ∀ xs : List Int, (xs.map settled).count 1 = xs.count 1 + xs.count 3 ∧ (xs.map settled).count 3 = 0
  | [] => by simp
  | x :: xs => by
    obtain ⟨h1, h2⟩ := settle_at xs
    rw [List.map_cons, List.count_cons, List.count_cons, List.count_cons, List.count_cons, h1, h2]
    unfold settled
    by_cases h3 : x = 3
    · subst h3; simp; omega
    · by_cases h4 : x = 1
      · subst h4; simp; omega
      · simp [h3, h4]

/-- So many are free, so many wait. -/
def GW (w : World) (p c1 c3 : Nat) (wr : World) : Prop := ∃ xs F, SL w.heap.size p F xs wr ∧ xs.count 1 = c1 ∧ xs.count 3 = c3 ∧ Below w.heap.size w wr
theorem GW.take {w : World} {p c c3 : Nat} {wr : World} (h : GW w p (c + 1) c3 wr) : ∃ a : Int, Calls Try.prog 38 #[.pointer (some ⟨p, 0, none⟩)] wr fun e w' => e = .returned (.tuple #[.int .i64 a, .bool true]) ∧ GW w p c c3 w' := by
  obtain ⟨xs, F, h1, h2, h3, h4⟩ := h
  obtain ⟨a, e1, e2, e3⟩ := take_yes xs c h2
  have hF := h1.inF
  refine ⟨a, (gTake_any w.heap.size p F xs wr h4.size h1).mono fun e w' ⟨he, hs⟩ => ⟨by rw [he, e1], _, _, hs.1, e2, e3.trans h3, h4.trans (hs.below h4.size fun j hj => (hF j hj).1)⟩⟩
theorem GW.no {w : World} {p c3 : Nat} {wr : World} (h : GW w p 0 c3 wr) : Calls Try.prog 38 #[.pointer (some ⟨p, 0, none⟩)] wr fun e w' => e = .returned (.tuple #[.int .i64 0, .bool false]) ∧ GW w p 0 c3 w' := by
  obtain ⟨xs, F, h1, h2, h3, h4⟩ := h
  have hF := h1.inF
  have := gTake_any w.heap.size p F xs wr h4.size h1
  rw [take_no xs h2] at this
  exact this.mono fun e w' ⟨he, hs⟩ => ⟨he, _, _, hs.1, h2, h3, h4.trans (hs.below h4.size fun j hj => (hF j hj).1)⟩
theorem GW.give {w : World} {p c c3 : Nat} {wr : World} (h : GW w p c c3 wr) (i : Int) : ∃ b : Bool, Calls Try.prog 39 #[.pointer (some ⟨p, 0, none⟩), .int .i64 i] wr fun e w' => e = .returned (.bool b) ∧ GW w p c (c3 + if b then 1 else 0) w' := by
  obtain ⟨xs, F, h1, h2, h3, h4⟩ := h
  obtain ⟨e1, e2⟩ := give_at xs i
  have hF := h1.inF
  exact ⟨_, (gGive_any w.heap.size p F xs i wr h4.size h1).mono fun e w' ⟨he, hs⟩ => ⟨he, _, _, hs.1, e1.trans h2, by rw [e2, h3], h4.trans (hs.below h4.size fun j hj => (hF j hj).1)⟩⟩
theorem GW.settle {w : World} {p c3 : Nat} {wr : World} (h : GW w p 0 c3 wr) : Calls Try.prog 40 #[.pointer (some ⟨p, 0, none⟩)] wr fun e w' => e = .returned (.int .i64 (c3 : Int)) ∧ GW w p c3 0 w' := by
  obtain ⟨xs, F, h1, h2, h3, h4⟩ := h
  obtain ⟨e1, e2⟩ := settle_at xs
  have hF := h1.inF
  have := gSettle_any w.heap.size p F xs wr h4.size h1
  rw [h3] at this
  exact this.mono fun e w' ⟨he, hs⟩ => ⟨he, _, _, hs.1, by omega, e2, h4.trans (hs.below h4.size fun j hj => (hF j hj).1)⟩
theorem GW.below {w : World} {p c c3 : Nat} {wr : World} (h : GW w p c c3 wr) : Below w.heap.size w wr := by
  obtain ⟨_, _, _, _, _, h⟩ := h
  exact h

set_option maxRecDepth 100000 in
set_option maxHeartbeats 2000000 in
theorem gwaits_any {ok : Nat → Prop} (v : Value) (gs : List Int) (n : Int) (w : World) (hn : 0 ≤ n ∧ n ≤ 255) (hx : Ints ok v gs w) :
    Calls Try.prog 8 #[.int .u8 n, v] w fun e w' => e = .returned (.bool true) ∧ Below w.heap.size w w' := by
  obtain ⟨ao, cap, b, off, rfl, hl, hat⟩ := ints_walk hx
  obtain ⟨m, hm⟩ : ∃ m, m = gs.length := ⟨_, rfl⟩
  rw [← hm] at hl hat ⊢
  obtain ⟨k, hk, hk1, hk2⟩ : ∃ k : Nat, n % 20 + 1 = (k : Int) ∧ 1 ≤ k ∧ k ≤ 20 := ⟨(n % 20 + 1).toNat, by omega, by omega, by omega⟩
  have HNew := Lib.hid (gNew_ok k w (by omega) (by omega))
  have HX := Lib.hid (show ∀ W, Below w.heap.size w W → ∀ j, j < m → ∃ x, ao = some ⟨b, off, none⟩ ∧ W.cell? ⟨b, off + j, none⟩ = some (.int .i64 x) from fun W hW j hj => by
    obtain ⟨x, hx1, e, hc⟩ := hat j hj
    obtain ⟨_, _, _, _, _, _, h2, _⟩ := hx
    exact ⟨x, e, (hW.cell (p := ⟨b, off + j, none⟩) (cell_lt hc)).trans hc⟩)
  clear hat hm hx
  by_cases h60 : 60 < m
  · have d1 : decide ((m : Int) > 60) = true := decide_eq_true (by omega)
    clear HX h60
    go_enter Try.func8, Try.ntmps8
    go_wp2_with (first
      | (go_at_call 32; go_must (with_reducible refine HNew.out.mono ?_); rintro e w1 ⟨p, rfl, hp, b1⟩; have P0 := Lib.hid hp; have B0 := Lib.hid b1; clear hp b1)
      | (go_at_call 31; go_must (with_reducible refine (lgknown_any _).mono ?_); rintro e w2 ⟨rfl, b2⟩))
    go_ret
    exact ⟨rfl, B0.out.trans (b2.mono B0.out.size)⟩
  have d1 : decide ((m : Int) > 60) = false := decide_eq_false (by omega)
  clear h60
  go_enter Try.func8, Try.ntmps8
  go_wp2_with (go_at_call 32; go_must (with_reducible refine HNew.out.mono ?_); rintro e w1 ⟨p, rfl, hp, b1⟩; have P0 := Lib.hid (show GW w p k 0 w1 from ⟨_, _, hp, List.count_replicate_self, by simp [List.count_replicate], b1⟩); clear hp b1)
  clear HNew
  go_loopw [8] (fun c wr => ∃ i r : Nat, i + r = k ∧ c = .int .i64 i ∧ GW w p r 0 wr) (fun c _ => k - (intOf c).toNat)
  case atStart => exact ⟨0, k, by omega, rfl, P0.out⟩
  case round =>
    obtain ⟨i, r, hir, rfl, hg⟩ := hrel
    by_cases hlt : i < k
    · obtain ⟨r', rfl⟩ : ∃ r', r = r' + 1 := ⟨r - 1, by omega⟩
      obtain ⟨a, ha⟩ := hg.take
      have HA := Lib.hid ha
      have hb0 : (i : Int) < (k : Int) := by omega
      clear hg ha
      go_wp2_with (go_at_call 38; go_must (with_reducible refine HA.out.mono ?_); rintro e w2 ⟨rfl, h2⟩; have H2 := Lib.hid h2; clear h2)
      go_roundw
      case rel => exact ⟨i + 1, r', by omega, by go_num, H2.out⟩
      case measure => simp [intOf]; omega
    · obtain rfl : i = k := by omega
      obtain rfl : r = 0 := by omega
      have HG := Lib.hid hg
      clear hg P0
      go_wp2_with fail
      obtain ⟨wo, rfl⟩ : ∃ wo : World, wo = wr := ⟨_, rfl⟩
      go_loopw [9, 10] (fun g c wr => ∃ j t : Nat, j ≤ m ∧ t ≤ j ∧ c = .int .i64 j ∧ g = .int .i64 t ∧ GW w p 0 t wr) (fun _ c _ => m - (intOf c).toNat)
      case atStart => exact ⟨0, 0, by omega, by omega, rfl, rfl, HG.out⟩
      case round =>
        obtain ⟨j, t, hj, htj, rfl, rfl, hg⟩ := hrel
        by_cases hlt : j < m
        · obtain ⟨x, rfl, c0⟩ := HX.out _ hg.below j hlt
          obtain ⟨bb, ha⟩ := hg.give x
          have HA := Lib.hid ha
          have hb0 : (0 : Int) ≤ (j : Int) := by omega
          have hb1 : (j : Int) < (m : Int) := by omega
          clear hg ha
          cases bb with
          | true =>
            go_wp2_with (go_at_call 39; go_must (with_reducible refine HA.out.mono ?_); rintro e w2 ⟨rfl, h2⟩; have H2 := Lib.hid h2; clear h2)
            go_roundw
            case rel => exact ⟨j + 1, t + 1, by omega, by omega, by go_num, by go_num, H2.out⟩
            case measure => simp [intOf]; omega
          | false =>
            go_wp2_with (go_at_call 39; go_must (with_reducible refine HA.out.mono ?_); rintro e w2 ⟨rfl, h2⟩; have H2 := Lib.hid h2; clear h2)
            go_roundw
            case rel => exact ⟨j + 1, t, by omega, by omega, by go_num, rfl, H2.out⟩
            case measure => simp [intOf]; omega
        · obtain rfl : j = m := by omega
          have HN := Lib.hid hg.no
          have HS := Lib.hid (fun W (h : GW w p 0 t W) => h.settle)
          clear hg HX HG
          go_wp2_with (first
            | (go_at_call 38; go_must (with_reducible refine HN.out.mono ?_); rintro e w2 ⟨rfl, h2⟩; have H2 := Lib.hid h2; clear h2)
            | (go_at_call 40; go_must (with_reducible refine (HS.out _ H2.out).mono ?_); rintro e w3 ⟨rfl, h3⟩; have H3 := Lib.hid h3; clear h3))
          go_loopw [13, 14, 15] (fun c _ _ wr => ∃ i r : Nat, i + r = t ∧ c = .int .i64 i ∧ GW w p r 0 wr) (fun c _ _ _ => t - (intOf c).toNat)
          case atStart => exact ⟨0, t, by omega, rfl, H3.out⟩
          case round =>
            obtain ⟨i, r, hir, rfl, hg⟩ := hrel
            by_cases hlt : i < t
            · obtain ⟨r', rfl⟩ : ∃ r', r = r' + 1 := ⟨r - 1, by omega⟩
              obtain ⟨a, ha⟩ := hg.take
              have HA := Lib.hid ha
              have hb0 : (i : Int) < (t : Int) := by omega
              clear hg ha
              go_wp2_with (go_at_call 38; go_must (with_reducible refine HA.out.mono ?_); rintro e w4 ⟨rfl, h4⟩; have H4 := Lib.hid h4; clear h4)
              go_roundw
              case rel => exact ⟨i + 1, r', by omega, by go_num, H4.out⟩
              case measure => simp [intOf]; omega
            · obtain rfl : i = t := by omega
              obtain rfl : r = 0 := by omega
              have HN2 := Lib.hid hg.no
              clear hg HN HS H3
              go_wp2_with (first
                | (go_at_call 38; go_must (with_reducible refine HN2.out.mono ?_); rintro e w5 ⟨rfl, h5⟩; have H5 := Lib.hid h5; clear h5)
                | (go_at_call 31; go_must (with_reducible refine (lgknown_any _).mono ?_); rintro e w6 ⟨rfl, b6⟩))
              go_ret
              exact ⟨rfl, H5.out.below.trans (b6.mono H5.out.below.size)⟩
end Go.Proofs.Ytokchikihacalaa
