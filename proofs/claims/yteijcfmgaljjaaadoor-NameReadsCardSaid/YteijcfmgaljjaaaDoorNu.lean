/- Names: cutting a text at a percent sign; undoing escapes. -/
import Derived.Test.YteijcfmgaljjaaaDoorNi
namespace Go.Proofs.YteijcfmgaljjaaaDoor
open Go.RowKit

theorem index_none {xs : List UInt8} {c : UInt8} (h : c ∉ xs) : Lib.indexByte xs c = -1 := by
  rw [← Lib.indexAny_one]
  exact Lib.indexAny_none fun j b _ hb => by
    have : b ∈ xs := List.mem_iff_getElem?.2 ⟨j, hb⟩
    simp only [List.contains_cons, List.contains_nil, Bool.or_false, beq_eq_false_iff_ne]
    intro e; exact h (e ▸ this)
theorem index_hit {ys zs : List UInt8} {c : UInt8} (h : c ∉ ys) : Lib.indexByte (ys ++ c :: zs) c = (ys.length : Int) := by
  rw [← Lib.indexAny_one]
  refine Lib.indexAny_hit (x := c) (fun j b hj hb => ?_) (by simp) (by simp)
  have : b ∈ ys := List.mem_iff_getElem?.2 ⟨j, by rw [List.getElem?_append_left hj] at hb; exact hb⟩
  simp only [List.contains_cons, List.contains_nil, Bool.or_false, beq_eq_false_iff_ne]
  intro e; exact h (e ▸ this)
theorem cut_cases (xs : List UInt8) (c : UInt8) : c ∉ xs ∨ ∃ ys zs, xs = ys ++ c :: zs ∧ c ∉ ys := by
  induction xs with
  | nil => exact .inl (by simp)
  | cons x l ih =>
    by_cases e : x = c
    · exact .inr ⟨[], l, by rw [e]; rfl, by simp⟩
    · rcases ih with h | ⟨ys, zs, h1, h2⟩
      · exact .inl (by simp; exact ⟨fun h => e h.symm, h⟩)
      · exact .inr ⟨x :: ys, zs, by rw [h1]; rfl, by simp; exact ⟨fun h => e h.symm, h2⟩⟩

set_option maxRecDepth 100000 in
theorem cut_none (t c : ByteArray) (hc : c = ⟨#[37]⟩) (w : World) (h : 37 ∉ t.data.toList) :
    Calls Tryd.prog 41 #[.string t, .string c] w fun e w' => e = .returned (.tuple #[.string t, .string ⟨#[]⟩, .bool false]) ∧ Below w.heap.size w w' := by
  have HI := Lib.hid (fun W => Tryd.stringslite_Index_one t 37 W)
  rw [index_none h, ← hc] at HI
  clear hc h
  go_enter Tryd.func41, Tryd.ntmps41
  go_wp2_with (first | (go_at_call 47; go_must (refine (HI.out _).mono ?_); rintro e w1 ⟨rfl, rfl⟩) | go_in)
  go_returns
  exact ⟨rfl, Below.refl _ _⟩

set_option maxRecDepth 100000 in
theorem cut_hit (t c : ByteArray) (hc : c = ⟨#[37]⟩) (w : World) (hs : t.size ≤ 1073741824) (ys zs : List UInt8) (ht : t.data.toList = ys ++ 37 :: zs) (h : 37 ∉ ys) :
    Calls Tryd.prog 41 #[.string t, .string c] w fun e w' => e = .returned (.tuple #[.string (str ys), .string (str zs), .bool true]) ∧ Below w.heap.size w w' := by
  have HI := Lib.hid (fun W => Tryd.stringslite_Index_one t 37 W)
  rw [ht, index_hit h, ← hc] at HI
  have hcz : c.size = 1 := by rw [hc]; rfl
  have htl : t.size = ys.length + 1 + zs.length := by
    have := congrArg List.length ht
    simp at this
    omega
  obtain ⟨i, hi⟩ : ∃ i, i = ys.length := ⟨_, rfl⟩
  have h1 : t.extract 0 i = str ys := by
    apply ByteArray.ext
    apply Array.toList_inj.1
    have e : (t.extract 0 i).data.toList = t.data.toList.take i := by simp [ByteArray.data_extract]
    rw [e, ht, hi]
    simp [str]
  have h2 : t.extract (i + 1) t.size = str zs := by
    apply ByteArray.ext
    apply Array.toList_inj.1
    have e : (t.extract (i + 1) t.size).data.toList = t.data.toList.drop (i + 1) := by
      simp [ByteArray.data_extract]
      exact List.take_of_length_le (by simp)
    rw [e, ht, hi]
    simp [str]
  rw [← hi] at HI htl
  obtain ⟨u, hu⟩ : ∃ u, t.extract 0 i = u := ⟨_, rfl⟩
  obtain ⟨v, hv⟩ : ∃ v, t.extract (i + 1) t.size = v := ⟨_, rfl⟩
  rw [← h1, ← h2, hu, hv]
  have hd : decide ((i : Int) ≥ 0) = true := by simp
  have hw : IntKind.i64.wrap ((i : Int) + 1) = (i : Int) + 1 := by rw [IntKind.wrap_i64]; omega
  have b0 : (0 : Int) ≤ (i : Int) := by omega
  have b1 : (i : Int) ≤ (t.size : Int) := by omega
  have b2 : (0 : Int) ≤ (i : Int) + 1 := by omega
  have b3 : (i : Int) + 1 ≤ (t.size : Int) := by omega
  have b4 : ((i : Int) + 1).toNat = i + 1 := by omega
  clear hc h ht h1 h2 hi htl
  go_enter Tryd.func41, Tryd.ntmps41
  go_wp2_with (first | (go_at_call 47; go_must (refine (HI.out _).mono ?_); rintro e w1 ⟨rfl, rfl⟩) | go_in)
  go_quiet (fail)
  go_wp2_with fail
  go_returns
  exact ⟨rfl, below_drewN (Below.refl _ _) _⟩
end Go.Proofs.YteijcfmgaljjaaaDoor
