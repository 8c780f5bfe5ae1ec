/- Names: the two Joins. -/
import Derived.Test.YteijcfmgaljjaaaDoorNq
namespace Go.Proofs.YteijcfmgaljjaaaDoor
open Go.RowKit

def catS (xs : List ByteArray) : List UInt8 := xs.flatMap fun x => 47 :: x.data.toList
def joinL (xs : List ByteArray) : List UInt8 := if xs = [] then [47] else catS xs
theorem catS_snoc (xs : List ByteArray) (x : ByteArray) : catS (xs ++ [x]) = catS xs ++ [47] ++ x.data.toList := by simp [catS]
theorem catS_len (xs : List ByteArray) (M : Nat) (h : ∀ x ∈ xs, x.size ≤ M) : (catS xs).length ≤ (M + 1) * xs.length := by
  induction xs with
  | nil => simp [catS]
  | cons x l ih =>
    have h1 := h x (by simp)
    have h2 := ih fun y hy => h y (by simp [hy])
    have e : catS (x :: l) = 47 :: x.data.toList ++ catS l := by simp [catS]
    rw [e, List.length_append, List.length_cons, List.length_cons, Nat.mul_add]
    have : x.data.toList.length = x.size := by simp
    omega
theorem take_snocS (xs : List ByteArray) (i : Nat) (x : ByteArray) (h : xs[i]? = some x) : xs.take (i + 1) = xs.take i ++ [x] := by
  rw [List.take_add_one, h]; rfl

set_option maxHeartbeats 1000000 in
set_option maxRecDepth 1000000 in
theorem nJoin_at (va : Value) (xs : List ByteArray) (w : World) (ha : Strs va xs w) (hl : xs.length ≤ 1000) (hm : ∀ x ∈ xs, x.size ≤ 1000) :
    Calls Tryd.prog 19 #[va] w fun e w' => e = .returned (.string (str (joinL xs))) ∧ Below w.heap.size w w' := by
  obtain ⟨ao, ac, ab, ai, rfl, hal, hao, hac⟩ := ha
  by_cases h0 : xs = []
  · subst h0
    have hj : joinL [] = [47] := rfl
    rw [hj]
    go_enter Tryd.func19, Tryd.ntmps19
    go_wp2_with fail
    go_ret
    exact ⟨rfl, Below.refl _ _⟩
  · have hpos : 0 < xs.length := List.length_pos_iff.2 h0
    have hj : joinL xs = catS xs := by unfold joinL; rw [if_neg h0]
    rw [hj]
    obtain ⟨rfl, hab⟩ := hao hpos
    have HX := Lib.hid (show ∀ i, i < xs.length → ∃ x, xs[i]? = some x ∧ x.size ≤ 1000 ∧ ∀ W, Below w.heap.size w W → W.cell? ⟨ab, ai + i, none⟩ = some (.string x) from fun i hi => ⟨xs[i]'hi, List.getElem?_eq_getElem _, hm _ (List.getElem_mem _), fun W hW => (hW.cell (p := ⟨ab, ai + i, none⟩) hab).trans (hac i _ (List.getElem?_eq_getElem _))⟩)
    have hcl : ∀ i, (catS (xs.take i)).length ≤ 1001000 := fun i => by
      have := catS_len (xs.take i) 1000 (fun x hx => hm x (List.mem_of_mem_take hx))
      have h2 : (xs.take i).length ≤ 1000 := by rw [List.length_take]; omega
      have h3 : (1000 + 1) * (xs.take i).length ≤ 1001 * 1000 := Nat.mul_le_mul_left _ h2
      omega
    have HCL := Lib.hid hcl
    have hn0 : (((xs.length : Nat) : Int) == 0) = false := by rw [beq_eq_false_iff_ne]; omega
    clear hj h0 hao hac hcl hm
    go_enter Tryd.func19, Tryd.ntmps19
    go_wp2_with fail
    go_loopw [5, 11] (fun _ k wr => ∃ i : Nat, i ≤ xs.length ∧ k = .int .i64 i ∧ Lib.IsBuilderF 42 5 w.heap.size w.heap.size (Lib.byteCells (catS (xs.take i))) wr ∧ Below w.heap.size w wr) (fun _ k _ => xs.length - (intOf k).toNat)
    case atStart => exact ⟨0, Nat.zero_le _, rfl, Lib.IsBuilderF.of (Lib.fresh_isBuilder 42 5 w), (Below.refl _ w).alloc (Nat.le_refl _) _⟩
    case round =>
      obtain ⟨i, hi, rfl, hI, hbw⟩ := hrel
      have hc := HCL.out i
      have hszw := hbw.size
      by_cases hlt : i < xs.length
      · obtain ⟨x, hx, hxm, hcell⟩ := HX.out i hlt
        have hcx := hcell wr hbw
        have hb0 : (0 : Int) ≤ (i : Int) := by omega
        have hb1 : (i : Int) < (xs.length : Int) := by omega
        have hdl : decide ((i : Int) < (xs.length : Int)) = true := by simpa using hlt
        have hw1 : IntKind.i64.wrap ((i : Int) + 1) = (i : Int) + 1 := by rw [IntKind.wrap_i64]; omega
        have HSN := Lib.hid (take_snocS xs i x hx)
        clear hx hcell
        go_wp2_with fail
        go_must (refine (writeByte_at w.heap.size w.heap.size _ 47 _ hI (by rw [Lib.byteCells_length]; omega) hszw).mono ?_)
        rintro e w1 ⟨rfl, h1, b1, k1⟩
        have hz1 := b1.size
        go_wp2_with fail
        go_must (refine (writeString_at w.heap.size w.heap.size _ x _ (Or.inr h1) (by rw [List.length_append, Lib.byteCells_length, List.length_singleton]; omega) (by omega)).mono ?_)
        rintro e w2 ⟨rfl, h2, b2, k2⟩
        go_wp2_with fail
        go_roundw
        case rel =>
          refine ⟨i + 1, by omega, by go_num, ?_, (hbw.trans b1).trans b2⟩
          rw [HSN.out, catS_snoc, Lib.byteCells_append, Lib.byteCells_append]
          exact Or.inr h2
        case measure => simp [intOf]; omega
      · obtain rfl : i = xs.length := by omega
        have hdl : decide ((xs.length : Int) < (xs.length : Int)) = false := by simp
        have hfull : xs.take xs.length = xs := List.take_of_length_le (Nat.le_refl _)
        rw [hfull] at hI
        go_wp2_with fail
        go_must (refine (Tryd.Builder_String_any_k w.heap.size w.heap.size _ _ hI hszw).mono ?_)
        rintro e w3 ⟨rfl, _, b3, _⟩
        go_wp2_with fail
        go_ret
        exact ⟨rfl, hbw.trans b3⟩

set_option maxHeartbeats 1000000 in
set_option maxRecDepth 1000000 in
theorem mJoin_at (va : Value) (xs : List ByteArray) (w : World) (ha : Strs va xs w) (hl : xs.length ≤ 1000) (hm : ∀ x ∈ xs, x.size ≤ 1000) :
    Calls Tryd.prog 20 #[va] w fun e w' => e = .returned (.string (str (joinL xs))) ∧ Below w.heap.size w w' := by
  obtain ⟨ao, ac, ab, ai, rfl, hal, hao, hac⟩ := ha
  have HX := Lib.hid (show ∀ i, i < xs.length → ∃ x, xs[i]? = some x ∧ x.size ≤ 1000 ∧ ao = some ⟨ab, ai, none⟩ ∧ ∀ W, Below w.heap.size w W → W.cell? ⟨ab, ai + i, none⟩ = some (.string x) from fun i hi => ⟨xs[i]'hi, List.getElem?_eq_getElem _, hm _ (List.getElem_mem _), (hao (by omega)).1, fun W hW => (hW.cell (p := ⟨ab, ai + i, none⟩) (hao (by omega)).2).trans (hac i _ (List.getElem?_eq_getElem _))⟩)
  have hcl : ∀ i, (catS (xs.take i)).length ≤ 1001000 := fun i => by
    have := catS_len (xs.take i) 1000 (fun x hx => hm x (List.mem_of_mem_take hx))
    have h2 : (xs.take i).length ≤ 1000 := by rw [List.length_take]; omega
    have h3 : (1000 + 1) * (xs.take i).length ≤ 1001 * 1000 := Nat.mul_le_mul_left _ h2
    omega
  have HCL := Lib.hid hcl
  clear hao hac hcl hm
  go_enter Tryd.func20, Tryd.ntmps20
  go_wp2_with fail
  go_loopw [3, 4] (fun o k wr => ∃ (i : Nat) (u : ByteArray), i ≤ xs.length ∧ k = .int .i64 i ∧ o = .string u ∧ u = str (catS (xs.take i)) ∧ Below w.heap.size w wr) (fun _ k _ => xs.length - (intOf k).toNat)
  case atStart => exact ⟨0, ⟨#[]⟩, Nat.zero_le _, rfl, rfl, rfl, Below.refl _ _⟩
  case round =>
    obtain ⟨i, u, hi, rfl, rfl, hu, hbw⟩ := hrel
    have hc := HCL.out i
    have hus : u.size ≤ 1001000 := by rw [hu, str_size]; exact hc
    have HU := Lib.hid hu
    clear hu
    by_cases hlt : i < xs.length
    · obtain ⟨x, hx, hxm, rfl, hcell⟩ := HX.out i hlt
      have hcx := hcell wr hbw
      have hb0 : (0 : Int) ≤ (i : Int) := by omega
      have hb1 : (i : Int) < (xs.length : Int) := by omega
      have hdl : decide ((i : Int) < (xs.length : Int)) = true := by simpa using hlt
      have hw1 : IntKind.i64.wrap ((i : Int) + 1) = (i : Int) + 1 := by rw [IntKind.wrap_i64]; omega
      have HSN := Lib.hid (take_snocS xs i x hx)
      clear hx hcell
      go_wp2_with fail
      go_roundw
      case rel =>
        refine ⟨i + 1, _, by omega, by go_num, rfl, ?_, hbw⟩
        rw [HSN.out, catS_snoc, HU.out, show (⟨#[47]⟩ : ByteArray) = str [47] from rfl]
        have e : x = str x.data.toList := (str_data x).symm
        rw [str_append, e, str_append, ← e]
      case measure => simp [intOf]; omega
    · obtain rfl : i = xs.length := by omega
      have hdl : decide ((xs.length : Int) < (xs.length : Int)) = false := by simp
      have hfull : xs.take xs.length = xs := List.take_of_length_le (Nat.le_refl _)
      by_cases h0 : xs = []
      · have hn0 : (((xs.length : Nat) : Int) == 0) = true := by rw [h0]; rfl
        have hj : joinL xs = [47] := by rw [h0]; rfl
        have HJ := Lib.hid hj
        clear hj h0
        go_wp2_with fail
        go_ret
        exact ⟨by rw [HJ.out]; rfl, hbw⟩
      · have hpos : 0 < xs.length := List.length_pos_iff.2 h0
        have hn0 : (((xs.length : Nat) : Int) == 0) = false := by rw [beq_eq_false_iff_ne]; omega
        have hj : joinL xs = catS xs := by unfold joinL; rw [if_neg h0]
        have HJ := Lib.hid (And.intro hj hfull)
        clear hj hfull h0
        go_wp2_with fail
        go_ret
        refine ⟨?_, hbw⟩
        rw [HJ.out.1]
        have h := HU.out
        rw [HJ.out.2] at h
        rw [← h]
        rfl
end Go.Proofs.YteijcfmgaljjaaaDoor
