/- Messages: the reference's numbers one behind the other. -/
import Derived.Test.YtimbcombhdgjiaaDoorMk
namespace Go.Proofs.YtimbcombhdgjiaaDoor
open Go.RowKit

def vals (l : List Int) : Array Value := (l.map fun n => Value.int .i64 n).toArray
theorem vals_at {l : List Int} {i : Nat} {v : Int} (h : l[i]? = some v) : (vals l)[i]? = some (.int .i64 v) := by
  unfold vals
  simp [h]
theorem words_next (l : List Int) (j : Nat) (v : Int) (h : l[j]? = some v) : words (l.take (j + 1)) = words (l.take j) ++ be 4 v.toNat := by
  rw [List.take_add_one, h]
  simp [words]
set_option maxRecDepth 100000 in
set_option maxHeartbeats 1000000 in
theorem mfnums_any (b : Nat) (l : List Int) (w : World) (hst : St 3 b (vals l) w) (hv : ∀ v ∈ l, 0 ≤ v ∧ v ≤ 4294967295) (hl : l.length ≤ 20) :
    Calls Tryd.prog 25 #[.slice (some ⟨b, 0, none⟩) l.length l.length] w fun e w' => e = .returned (.string (str (words l))) ∧ Below w.heap.size w w' := by
  have HST := Lib.hid hst
  have HV := Lib.hid hv
  have HL := Lib.hid hl
  clear hst hv hl
  go_enter Tryd.func25, Tryd.ntmps25
  go_wp2_with fail
  go_loopw [3, 4] (fun s i wr => ∃ j : Nat, j ≤ l.length ∧ i = .int .i64 j ∧ s = .string (str (words (l.take j))) ∧ St 3 b (vals l) wr ∧ Below w.heap.size w wr) (fun _ i _ => l.length - (intOf i).toNat)
  case atStart => exact ⟨0, Nat.zero_le _, rfl, rfl, HST.out, Below.refl _ _⟩
  case round =>
    obtain ⟨i, hi, rfl, rfl, st, hb⟩ := hrel
    have hll := HL.out
    by_cases hlt : i < l.length
    · obtain ⟨v, hv⟩ : ∃ v, l[i]? = some v := ⟨_, List.getElem?_eq_getElem hlt⟩
      obtain ⟨v0, v1⟩ := HV.out v (List.mem_of_getElem? hv)
      have cv := st.cell (vals_at hv)
      have hnx := words_next l i v hv
      obtain ⟨n, rfl⟩ := Int.eq_ofNat_of_zero_le v0
      have HN := fun w => rNum_any n 4 w (by omega) (by omega)
      rw [Int.toNat_natCast] at hnx
      have b0 : (0 : Int) ≤ (i : Int) := by omega
      have b1 : (i : Int) < (l.length : Int) := by omega
      have hd : decide ((i : Int) < (l.length : Int)) = true := by simpa using hlt
      have hw1 : IntKind.i64.wrap ((i : Int) + 1) = (i : Int) + 1 := by rw [IntKind.wrap_i64]; omega
      have z1 : ¬ 9223372036854775807 < (str (words (l.take i))).size + (str (be 4 n)).size := by
        rw [str_size, str_size, words_len, be_length, List.length_take]; omega
      obtain ⟨p, hp⟩ : ∃ p, p = str (words (l.take i)) := ⟨_, rfl⟩
      obtain ⟨q, hq⟩ : ∃ p, p = str (be 4 n) := ⟨_, rfl⟩
      have hpq : str (words (l.take (i + 1))) = p ++ q := by rw [hp, hq, str_append, hnx]
      rw [← hq] at HN z1
      rw [← hp] at z1 ⊢
      have HPQ := Lib.hid hpq
      have HB := Lib.hid hb
      have HS := Lib.hid st
      replace HN := Lib.hid HN
      clear hp hq hpq hb st hnx v0 v1 hv
      go_wp2_with (go_at_call 36; go_must (refine (HN.out _).mono ?_); rintro e w1 ⟨rfl, b2⟩)
      go_roundw
      case rel => exact ⟨i + 1, hlt, by go_num, by rw [HPQ.out], HS.out.below b2, HB.out.trans (b2.mono HB.out.size)⟩
      case measure => simp [intOf]; omega
    · obtain rfl : i = l.length := by omega
      rw [List.take_length]
      have hd : decide ((l.length : Int) < (l.length : Int)) = false := by simp
      have HB := Lib.hid hb
      clear hb st
      go_wp2_with fail
      go_ret
      exact ⟨rfl, HB.out⟩
end Go.Proofs.YtimbcombhdgjiaaDoor
