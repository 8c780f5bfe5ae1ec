/- Lists of texts; whether two are the same (the reference's Same). -/
import Derived.Test.YtfipojmgmmjnmaaFr
import Derived.Test.YtfipojmgmmjnmaaRows
import Derived.Deep.QuietTactic
import Derived.BigQuiet
import Derived.IntWalk
import Derived.Lib.Strings
namespace Go.Proofs.Ytfipojmgmmjnmaa
open Go.RowKit

/-- A slice of texts. -/
def Strs (v : Value) (xs : List ByteArray) (w : World) : Prop :=
  ∃ (ao : Option Addr) (cap b off : Nat), v = .slice ao xs.length cap ∧ xs.length ≤ 9223372036854775807 ∧ (0 < xs.length → ao = some ⟨b, off, none⟩ ∧ b < w.heap.size) ∧ ∀ (i : Nat) (x : ByteArray), xs[i]? = some x → w.cell? ⟨b, off + i, none⟩ = some (.string x)
theorem Strs.below {v : Value} {xs : List ByteArray} {w w' : World} (h : Strs v xs w) (hb : Below w.heap.size w w') : Strs v xs w' := by
  obtain ⟨ao, cap, b, off, hv, hl, hao, hc⟩ := h
  refine ⟨ao, cap, b, off, hv, hl, fun h => ⟨(hao h).1, Nat.lt_of_lt_of_le (hao h).2 hb.size⟩, fun i x hx => ?_⟩
  have h0 : 0 < xs.length := by have := (List.getElem?_eq_some_iff.1 hx).1; omega
  exact (hb.cell (p := ⟨b, off + i, none⟩) (hao h0).2).trans (hc i x hx)

set_option maxRecDepth 100000 in
theorem mSame_eq (va vb : Value) (xs ys : List ByteArray) (w : World) (ha : Strs va xs w) (hb : Strs vb ys w) :
    Calls Try.prog 19 #[va, vb] w fun e w' => e = .returned (.bool (decide (xs = ys))) ∧ Below w.heap.size w w' := by
  obtain ⟨ao, ac, ab, ai, rfl, hal, hao, hac⟩ := ha
  obtain ⟨bo, bc, bb, bi, rfl, hbl, hbo, hbc⟩ := hb
  by_cases hl : xs.length = ys.length
  · have hlb : (((xs.length : Int)) != (ys.length : Int)) = false := by rw [bne_eq_false_iff_eq]; omega
    obtain ⟨n, hn⟩ : ∃ n, n = xs.length := ⟨_, rfl⟩
    have hm : ys.length = n := by omega
    have HD := Lib.hid (show xs = ys ↔ ∀ i, i < n → xs[i]? = ys[i]? from ⟨fun h i _ => by rw [h], fun h => List.ext_getElem? fun i => by
      by_cases hi : i < n
      · exact h i hi
      · rw [List.getElem?_eq_none (by omega), List.getElem?_eq_none (by omega)]⟩)
    have HA := Lib.hid (show ∀ i, i < n → ∃ x, xs[i]? = some x ∧ ao = some ⟨ab, ai, none⟩ ∧ w.cell? ⟨ab, ai + i, none⟩ = some (.string x) from fun i hi => ⟨xs[i]'(by omega), List.getElem?_eq_getElem _, (hao (by omega)).1, hac i _ (List.getElem?_eq_getElem _)⟩)
    have HB := Lib.hid (show ∀ i, i < n → ∃ x, ys[i]? = some x ∧ bo = some ⟨bb, bi, none⟩ ∧ w.cell? ⟨bb, bi + i, none⟩ = some (.string x) from fun i hi => ⟨ys[i]'(by omega), List.getElem?_eq_getElem _, (hbo (by omega)).1, hbc i _ (List.getElem?_eq_getElem _)⟩)
    rw [hm, ← hn]
    obtain ⟨d, hd⟩ : ∃ d, d = decide (xs = ys) := ⟨_, rfl⟩
    rw [← hd]
    have HE := Lib.hid hd
    have hnn : n ≤ 9223372036854775807 := by omega
    clear hd hal hao hac hbl hbo hbc hlb hl hn hm
    go_enter Try.func19, Try.ntmps19
    go_wp2_with fail
    go_loopw [5] (fun v wr => ∃ i q : Nat, i ≤ n ∧ v = .int .i64 i ∧ (∀ j, j < i → xs[j]? = ys[j]?) ∧ wr = w.drewN q) (fun v _ => n - (intOf v).toNat)
    case atStart => exact ⟨0, 0, Nat.zero_le _, rfl, fun j h => absurd h (Nat.not_lt_zero _), rfl⟩
    case round =>
      obtain ⟨i, q, hi, rfl, heq, rfl⟩ := hrel
      have HQ := Lib.hid heq
      clear heq
      by_cases hlt : i < n
      · obtain ⟨x, hx, rfl, cx⟩ := HA.out i hlt
        obtain ⟨y, hy, rfl, cy⟩ := HB.out i hlt
        have cx : (w.drewN q).cell? ⟨ab, ai + i, none⟩ = some (.string x) := cx
        have cy : (w.drewN q).cell? ⟨bb, bi + i, none⟩ = some (.string y) := cy
        have hb0 : (0 : Int) ≤ (i : Int) := by omega
        have hb1 : (i : Int) < (n : Int) := by omega
        have hw1 : IntKind.i64.wrap ((i : Int) + 1) = (i : Int) + 1 := by rw [IntKind.wrap_i64]; omega
        have HX := Lib.hid (And.intro hx hy)
        clear hx hy
        by_cases hxy : x = y
        · have hxe : (!x.toList == y.toList) = false := by rw [hxy]; simp
          have HXY := Lib.hid hxy
          clear hxy
          go_wp2_with fail
          go_quiet (fail)
          go_wp2_with fail
          go_roundw
          case rel =>
            refine ⟨i + 1, _, by omega, by go_num, ?_, rfl⟩
            intro j hj
            by_cases hji : j = i
            · subst hji
              rw [HX.out.1, HX.out.2, HXY.out]
            · exact HQ.out j (by omega)
          case measure => simp [intOf]; omega
        · have hxe : (!x.toList == y.toList) = true := by
            have : ¬ x.toList = y.toList := by
              rw [Lib.toList_data, Lib.toList_data]
              intro h
              exact hxy (ByteArray.ext (Array.toList_inj.1 h))
            simpa using this
          have HXY := Lib.hid hxy
          clear hxy
          go_wp2_with fail
          go_quiet (fail)
          go_wp2_with fail
          go_ret
          refine ⟨?_, below_drewN (below_drewN (Below.refl _ _) _) _⟩
          have : d = false := by
            rw [HE.out]
            refine decide_eq_false fun h => HXY.out ?_
            have h1 := HD.out.1 h i hlt
            rw [HX.out.1, HX.out.2] at h1
            exact Option.some.inj h1
          rw [this]; rfl
      · obtain rfl : i = n := by omega
        go_wp2_with fail
        go_ret
        refine ⟨?_, below_drewN (Below.refl _ _) _⟩
        have : d = true := by rw [HE.out]; exact decide_eq_true (HD.out.2 HQ.out)
        rw [this]; rfl
  · have hlb : (((xs.length : Int)) != (ys.length : Int)) = true := by rw [bne_iff_ne]; omega
    have hne : decide (xs = ys) = false := decide_eq_false fun h => hl (by rw [h])
    rw [hne]
    clear hne hao hac hbo hbc
    go_enter Try.func19, Try.ntmps19
    go_wp2_with fail
    go_ret
    exact ⟨rfl, Below.refl _ _⟩

theorem strs_row {B : Nat} {A : Nat} {xs : List ByteArray} {w : World} (h : w.ownsRow B 9 1 (.slice (some ⟨A, 0, none⟩) xs.length xs.length) xs.length (xs.map Value.string)) : Strs (.slice (some ⟨A, 0, none⟩) xs.length xs.length) xs w := by
  have hl : xs.length ≤ 9223372036854775807 := by
    rcases h.2 with ⟨_, h0⟩ | ⟨g, cap, cur, hv, _, _, h1, h2, _⟩
    · omega
    · unfold maxLen at h2; omega
  refine ⟨_, xs.length, A, 0, rfl, hl, fun _ => ⟨rfl, (h.lt A rfl).2⟩, fun i x hx => ?_⟩
  have := h.cells (g := A) rfl i (.string x) (by simp [hx])
  rw [Nat.zero_add]
  by_cases hi : i = 0
  · subst hi; simpa [Addr.add] using this
  · simpa [Addr.add, hi] using this

end Go.Proofs.Ytfipojmgmmjnmaa
