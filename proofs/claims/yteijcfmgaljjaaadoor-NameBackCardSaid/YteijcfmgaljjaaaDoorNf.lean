/- Names: the program's Show. -/
import Derived.Test.YteijcfmgaljjaaaDoorNe
namespace Go.Proofs.YteijcfmgaljjaaaDoor
open Go.RowKit

theorem builder_below {T e : TypeId} {B b : Nat} {bs : List Value} {w w' : World} (h : Lib.IsBuilderF T e B b bs w) (hb : Below w.heap.size w w') : Lib.IsBuilderF T e B b bs w' := by
  have hg : w.grownBy w' none := ⟨hb.os, hb.tape, hb.output, hb.size, fun j hj _ => hb.block j hj⟩
  rcases h with ⟨hB, v, hv, hown, hne⟩ | ⟨hB, v, hv, hown, hne⟩
  · exact .inl ⟨hB, v, (hb.block b (Array.getElem?_eq_some_iff.1 hv).1).trans hv, hown.kept hg (by cases v.ownBlock <;> simp), hne⟩
  · exact .inr ⟨hB, v, (hb.block b (Array.getElem?_eq_some_iff.1 hv).1).trans hv, hown.kept hg (by cases v.ownBlock <;> simp), hne⟩
theorem tabs_below {w w' : World} (h : Lib.Utf8Tabs 0 1 w) (h1 : 1 < w.heap.size) (hb : Below w.heap.size w w') : Lib.Utf8Tabs 0 1 w' :=
  ⟨fun c hc => (hb.cell (p := ⟨0, c, none⟩) (by show 0 < w.heap.size; omega)).trans (h.1 c hc), fun i hi => ⟨(hb.cell (p := ⟨1, 2 * i, none⟩) h1).trans (h.2 i hi).1, (hb.cell (p := ⟨1, 2 * i + 1, none⟩) h1).trans (h.2 i hi).2⟩⟩

theorem digs : ∀ (k : Nat) (h : k < 16), ((⟨#[48, 49, 50, 51, 52, 53, 54, 55, 56, 57, 97, 98, 99, 100, 101, 102]⟩ : ByteArray)[k]'h).toNat = (dig k).toNat := by
  intro k h
  match k, h with
  | 0, _ => rfl
  | 1, _ => rfl
  | 2, _ => rfl
  | 3, _ => rfl
  | 4, _ => rfl
  | 5, _ => rfl
  | 6, _ => rfl
  | 7, _ => rfl
  | 8, _ => rfl
  | 9, _ => rfl
  | 10, _ => rfl
  | 11, _ => rfl
  | 12, _ => rfl
  | 13, _ => rfl
  | 14, _ => rfl
  | 15, _ => rfl
  | k + 16, h => exact absurd h (by omega)
theorem hexCells (x : UInt8) : Lib.byteCells (hexOf x) = [.int .u8 37, .int .u8 (((⟨#[48, 49, 50, 51, 52, 53, 54, 55, 56, 57, 97, 98, 99, 100, 101, 102]⟩ : ByteArray)[x.toNat / 16]'(by have := x.toNat_lt; show x.toNat / 16 < 16; omega)).toNat : Int), .int .u8 (((⟨#[48, 49, 50, 51, 52, 53, 54, 55, 56, 57, 97, 98, 99, 100, 101, 102]⟩ : ByteArray)[x.toNat % 16]'(by show x.toNat % 16 < 16; omega)).toNat : Int)] := by
  rw [digs, digs]
  rfl

set_option maxHeartbeats 4000000 in
set_option maxRecDepth 1000000 in
theorem nShow_eq (s : ByteArray) (w : World) (hs : s.size ≤ 1073741824) (hT : Lib.Utf8Tabs 0 1 w) (h01 : 1 < w.heap.size) :
    Calls Tryd.prog 13 #[.string s] w fun e w' => e = .returned (.string (⟨(showB s).toArray⟩)) ∧ Below w.heap.size w w' := by
  by_cases h0 : s.size = 0
  · have hse : s = ⟨#[]⟩ := by
      apply ByteArray.ext
      exact Array.eq_empty_of_size_eq_zero h0
    subst hse
    go_enter Tryd.func13, Tryd.ntmps13
    go_wp2_with fail
    go_ret
    exact ⟨rfl, Below.refl _ _⟩
  · have hde : s.data.isEmpty = false := by
      rw [Array.isEmpty_eq_false_iff]
      intro h
      exact h0 (by show s.data.size = 0; rw [h]; rfl)
    have htl : s.toList.isEmpty = s.data.isEmpty := by rw [Lib.toList_data s, Array.isEmpty_toList]
    have hemp : s.toList.isEmpty = false := by rw [htl, hde]
    have hne : ¬ s.toList = [] := by
      intro h; rw [h] at hemp; cases hemp
    have hsb : showB s = showFrom s s.size 0 := by unfold showB; rw [if_neg h0]
    have HSB := Lib.hid hsb
    clear htl hsb
    go_enter Tryd.func13, Tryd.ntmps13
    go_wp2_with fail
    go_loopw [4, 5, 6, 7, 8] (fun _ _ _ _ _ wr => ∃ (pos fuel : Nat) (acc : List UInt8), Lib.IsBuilderF 42 5 w.heap.size w.heap.size (Lib.byteCells acc) wr ∧ wr.heap[w.heap.size + 1]? = some (.stringIter s pos) ∧ Below w.heap.size w wr ∧ acc ++ showFrom s fuel pos = showB s ∧ s.size ≤ pos + fuel ∧ pos ≤ s.size ∧ acc.length ≤ 12 * pos) (fun _ _ _ _ _ wr => s.size - wr.iterPos (w.heap.size + 1))
    case atStart =>
      refine ⟨0, s.size, [], (Lib.IsBuilderF.of (Lib.fresh_isBuilder 42 5 w)).alloc _, ?_, ((Below.refl _ w).alloc (Nat.le_refl _) _).alloc (by simp) _, HSB.out.symm, by omega, by omega, by simp⟩
      have := World.iter_heap (w.alloc (.cells #[.pointer none, .slice none 0 0] 42)) s 0
      simpa using this
    case round =>
      obtain ⟨pos, fuel, acc, hI, hit, hbw, hacc, hfu, hps, hal⟩ := hrel
      have hsz : w.heap.size + 1 < wr.heap.size := (Array.getElem?_eq_some_iff.1 hit).1
      by_cases hp : pos < s.size
      · have hnx : ∀ ty, (Instr.next (.pointer (some ⟨w.heap.size + 1, 0, none⟩)) true ty).run Tryd.prog wr = _ := fun ty => Lib.run_next_any_at wr (w.heap.size + 1) s pos ty hit hp
        obtain ⟨hw1, hw2, hw4⟩ := decode_in s pos hp
        have hd1 := decode_le s pos
        have hI2 := hI.iterAt hit (pos + (Utf8.decode s pos).2)
        have hit2 := Lib.iterAt_heap wr (w.heap.size + 1) s pos (pos + (Utf8.decode s pos).2) hit
        have hbw2 := Lib.below_iterAt hbw (k := w.heap.size + 1) (by omega) s (pos + (Utf8.decode s pos).2)
        have hsz2 : (wr.iterAt (w.heap.size + 1) s (pos + (Utf8.decode s pos).2)).heap.size = wr.heap.size := Lib.iterAt_size _ _ _ _
        obtain ⟨f, rfl⟩ : ∃ f, fuel = f + 1 := ⟨fuel - 1, by omega⟩
        have hstep : showFrom s (f + 1) pos = stepB s pos ++ showFrom s f (pos + (Utf8.decode s pos).2) := by
          show (if pos < s.size then _ else _) = _
          rw [if_pos hp]
        rw [hstep] at hacc
        have hcut := decode_cut s pos hp
        have hst : stepB s pos = if plainN (Utf8.decode s pos).1 then Lib.encodeRune (Utf8.decode s pos).1 else escL ((s.data.toList.drop pos).take (Utf8.decode s pos).2) := rfl
        obtain ⟨d, hd⟩ : ∃ d, d = Utf8.decode s pos := ⟨_, rfl⟩
        rw [← hd] at hnx hI2 hit2 hbw2 hsz2 hw1 hw2 hw4 hd1 hcut hst
        rw [← hd] at hacc
        obtain ⟨r, n⟩ := d
        dsimp only at hnx hI2 hit2 hbw2 hsz2 hw1 hw2 hw4 hd1 hacc hst
        have HP := Lib.hid (fun W => nplain_eq r W (by omega))
        have HA := Lib.hid hacc
        have HC := Lib.hid hcut
        have HST := Lib.hid hst
        clear hstep hd hacc hcut hst hI
        cases hpl : plainN r with
        | true =>
          have HPL := Lib.hid hpl
          rw [hpl] at HP
          clear hpl
          go_wp2_with (first | (go_at_call 25; go_must (refine (HP.out _).mono ?_); rintro e w3 ⟨rfl, rfl⟩))
          have hl4 := Lib.runeCells_le (r : Int)
          rw [Lib.runeCells_length] at hl4
          go_must (refine (writeRune_at w.heap.size w.heap.size _ (r : Int) (by omega) (by omega) _ hI2 (by rw [Lib.byteCells_length]; omega) (by omega)).mono ?_)
          rintro e W1 ⟨rfl, h1, b1, k1⟩
          go_wp2_with fail
          go_roundw
          case rel =>
            refine ⟨pos + n, f, acc ++ Lib.encodeRune (r : Int), ?_, k1.iter hit2 (by omega), hbw2.trans b1, ?_, by omega, by omega, by simp; omega⟩
            · rw [Lib.byteCells_append, Lib.byteCells_encodeRune]; exact Or.inr h1
            · rw [List.append_assoc, ← HA.out, HST.out, HPL.out]; rfl
          case measure =>
            have e1 : W1.iterPos (w.heap.size + 1) = pos + n := by simp only [World.iterPos, k1.iter hit2 (by omega)]
            have e2 : wr.iterPos (w.heap.size + 1) = pos := by simp only [World.iterPos, hit]
            show s.size - W1.iterPos (w.heap.size + 1) < s.size - wr.iterPos (w.heap.size + 1)
            omega
        | false =>
          have HPL := Lib.hid hpl
          rw [hpl] at HP
          clear hpl
          have hTw := tabs_below hT h01 hbw2
          have HDC := Lib.hid (Tryd.utf8_DecodeRuneInString (s.extract pos s.size) (wr.iterAt (w.heap.size + 1) s (pos + n)) hTw)
          rw [HC.out] at HDC
          have hb0 : (0 : Int) ≤ (pos : Int) := by omega
          have hb1 : (pos : Int) ≤ (s.size : Int) := by omega
          go_wp2_with (first | (go_at_call 25; go_must (refine (HP.out _).mono ?_); rintro e w3 ⟨rfl, rfl⟩))
          go_must (refine HDC.out.mono ?_)
          rintro e W3 ⟨rfl, hb3⟩
          have hI3 := builder_below hI2 hb3
          have hit3 : W3.heap[w.heap.size + 1]? = some (.stringIter s (pos + n)) := (hb3.block _ (by omega)).trans hit2
          have hbw3 := hbw2.trans (hb3.mono (by omega))
          have hwn : IntKind.i64.wrap ((pos : Int) + (n : Int)) = (pos : Int) + (n : Int) := by rw [IntKind.wrap_i64]; omega
          go_wp2_with fail
          go_loopw [8] (fun i W => ∃ k : Nat, k ≤ n ∧ i = .int .i64 ((pos + k : Nat) : Int) ∧ Lib.IsBuilderF 42 5 w.heap.size w.heap.size (Lib.byteCells (acc ++ escL ((s.data.toList.drop pos).take k))) W ∧ W.heap[w.heap.size + 1]? = some (.stringIter s (pos + n)) ∧ Below w.heap.size w W) (fun i _ => pos + n - (intOf i).toNat)
          case atStart => exact ⟨0, Nat.zero_le _, rfl, by simpa [escL] using hI3, hit3, hbw3⟩
          case round =>
            obtain ⟨k, hk, rfl, hIk, hitk, hbk⟩ := hrel
            have hszk : w.heap.size + 1 < wr.heap.size := (Array.getElem?_eq_some_iff.1 hitk).1
            have hlk : (escL ((s.data.toList.drop pos).take k)).length ≤ 12 := by
              have : ((s.data.toList.drop pos).take k).length ≤ k := by rw [List.length_take]; omega
              rw [escL_len]; omega
            obtain ⟨q, hq⟩ : ∃ q, q = pos + k := ⟨_, rfl⟩
            rw [← hq]
            by_cases hlt : q < pos + n
            · have hqs : q < s.size := by omega
              have hb0 : (0 : Int) ≤ (q : Int) := by omega
              have hb1 : (q : Int) < (s.size : Int) := by omega
              have hdl : decide ((q : Int) < (pos : Int) + (n : Int)) = true := by simp; omega
              have hwq : IntKind.i64.wrap ((q : Int) + 1) = (q : Int) + 1 := by rw [IntKind.wrap_i64]; omega
              obtain ⟨x, hx⟩ : ∃ x, s[q]'hqs = x := ⟨_, rfl⟩
              have hxt : x.toNat < 256 := x.toNat_lt
              have htk : (s.data.toList.drop pos).take (k + 1) = (s.data.toList.drop pos).take k ++ [x] := by
                have hg : (s.data.toList.drop pos)[k]? = some x := by
                  rw [List.getElem?_drop, ← hq, Array.getElem?_toList, ← hx]
                  exact Array.getElem?_eq_getElem hqs
                rw [List.take_add_one, hg]
                rfl
              have HTK := Lib.hid htk
              obtain ⟨ys, hys⟩ : ∃ ys, ys = acc ++ escL ((s.data.toList.drop pos).take k) := ⟨_, rfl⟩
              have hyl : ys.length ≤ 12 * pos + 12 := by rw [hys, List.length_append]; omega
              rw [← hys] at hIk
              have HYS := Lib.hid hys
              have HQ := Lib.hid hq
              have hv0 : (0 : Int) ≤ (x.toNat : Int) / 16 := by omega
              have hv1 : (x.toNat : Int) / 16 < 16 := by omega
              have hv2 : (x.toNat : Int) % 16 < 16 := by omega
              clear htk hys hq
              go_wp2_with fail
              go_must (refine (writeByte_at w.heap.size w.heap.size _ 37 _ hIk (by rw [Lib.byteCells_length]; omega) (by omega)).mono ?_)
              rintro e W1 ⟨rfl, h1, b1, k1⟩
              have hz1 := b1.size
              have it1 := k1.iter hitk (by omega)
              go_wp2_with fail
              go_must (refine (writeByte_at w.heap.size w.heap.size _ _ _ (Or.inr h1) (by rw [List.length_append, Lib.byteCells_length, List.length_singleton]; omega) (by omega)).mono ?_)
              rintro e W2 ⟨rfl, h2, b2, k2⟩
              have hz2 := b2.size
              have it2 := k2.iter it1 (by omega)
              go_wp2_with fail
              go_must (refine (writeByte_at w.heap.size w.heap.size _ _ _ (Or.inr h2) (by rw [List.length_append, List.length_append, Lib.byteCells_length, List.length_singleton, List.length_singleton]; omega) (by omega)).mono ?_)
              rintro e W3' ⟨rfl, h3, b3, k3⟩
              have hz3 := b3.size
              have it3 := k3.iter it2 (by omega)
              go_wp2_with fail
              go_roundw
              case rel =>
                refine ⟨k + 1, by have := HQ.out; omega, by have := HQ.out; go_num, ?_, it3, ((hbk.trans b1).trans b2).trans b3⟩
                rw [HTK.out, escL_snoc, ← List.append_assoc, ← HYS.out, Lib.byteCells_append, hexCells]
                have h4 := h3
                rw [List.append_assoc, List.append_assoc] at h4
                exact Or.inr h4
              case measure => simp [intOf]; omega
            · obtain rfl : k = n := by omega
              have hdl : decide ((q : Int) < (pos : Int) + (k : Int)) = false := by simp; omega
              have HQ := Lib.hid hq
              clear hq
              go_wp2_with fail
              go_roundw
              case rel =>
                refine ⟨pos + k, f, acc ++ escL ((s.data.toList.drop pos).take k), hIk, hitk, hbk, ?_, by omega, by omega, by rw [List.length_append, escL_len, List.length_take]; omega⟩
                rw [List.append_assoc, ← HA.out, HST.out, HPL.out]
                rfl
              case measure =>
                simp only [World.iterPos, hitk, hit]
                omega
      · have hnx : ∀ ty, (Instr.next (.pointer (some ⟨w.heap.size + 1, 0, none⟩)) true ty).run Tryd.prog wr = _ := fun ty => Lib.run_next_end_at wr (w.heap.size + 1) s pos ty hit hp
        have HA := Lib.hid hacc
        clear hacc
        go_wp2_with fail
        go_must (refine (Tryd.Builder_String_any_k w.heap.size w.heap.size acc _ hI (by omega)).mono ?_)
        rintro e W1 ⟨rfl, _, b1, _⟩
        go_wp2_with fail
        go_ret
        refine ⟨?_, hbw.trans b1⟩
        have h := HA.out
        rw [showFrom_end s fuel pos hp, List.append_nil] at h
        rw [← h]
        rfl
end Go.Proofs.YteijcfmgaljjaaaDoor
