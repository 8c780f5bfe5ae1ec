/- Pieces, plainly: a record comes back from its pieces; pieces of which one is of another record, or missing, are none. No function of the program is named here. -/
import Derived.Test.YtfipojmgmmjnmaaJa
namespace Go.Proofs.Ytfipojmgmmjnmaa
open Go.RowKit
set_option linter.unusedVariables false

theorem cnt_pos (n : Nat) : 1 ≤ cnt n := by unfold cnt; split <;> omega
theorem cnt_cov (n : Nat) : n ≤ 100 * cnt n := by unfold cnt; split <;> omega
theorem cnt_most (n : Nat) (h : n ≤ 6400) : cnt n ≤ 64 := by unfold cnt; split <;> omega
theorem chunk_size (r : ByteArray) (i : Nat) : (chunk r i).size = min r.size (100 * i + 100) - 100 * i := by
  unfold chunk
  rw [ByteArray.size_extract]
  omega
theorem glue_to (r : ByteArray) (e q : Int) : ∀ k, glue (piecesTo r e q k) = r.extract 0 (min r.size (100 * k))
  | 0 => by
    apply ByteArray.ext
    simp [piecesTo, glue]
  | k + 1 => by
    rw [piecesTo_succ, glue_snoc, glue_to r e q k]
    show r.extract 0 (min r.size (100 * k)) ++ chunk r k = _
    unfold chunk
    apply ByteArray.ext
    simp only [ByteArray.data_append, ByteArray.data_extract]
    by_cases h : 100 * k ≤ r.size
    · rw [Nat.min_eq_right h, Array.extract_append_extract]
      congr 1 <;> omega
    · have e1 : min r.size (100 * k) = r.size := by omega
      have e2 : min r.size (100 * k + 100) = r.size := by omega
      have e3 : min r.size (100 * (k + 1)) = r.size := by omega
      rw [e1, e2, e3]
      have : r.data.extract (100 * k) r.size = #[] := by
        apply Array.eq_empty_of_size_eq_zero
        rw [Array.size_extract]
        omega
      rw [this, Array.append_empty]
theorem glue_pieces (r : ByteArray) (e q : Int) : glue (pieces r e q) = r := by
  unfold pieces
  rw [glue_to]
  have := cnt_cov r.size
  rw [Nat.min_eq_left this]
  apply ByteArray.ext
  rw [ByteArray.data_extract]
  exact Array.extract_size
theorem pieces_at (r : ByteArray) (e q : Int) (i : Nat) (h : i < cnt r.size) : (pieces r e q)[i]? = some (pieceAt r e q i) := by
  unfold pieces piecesTo
  rw [List.getElem?_map, List.getElem?_range h]
  rfl
theorem pieces_len (r : ByteArray) (e q : Int) : (pieces r e q).length = cnt r.size := piecesTo_length r e q _
theorem piece_ok (r : ByteArray) (e q : Int) (hn : numsB e q = true) (hr : r.size ≤ 6400) (i : Nat) (h : i < cnt r.size) : (pieceAt r e q i).ok = true := by
  have h1 := cnt_pos r.size
  have h2 := cnt_most r.size hr
  have h3 := chunk_size r i
  have h4 : cnt r.size = if r.size = 0 then 1 else (r.size + 99) / 100 := rfl
  unfold Pz.ok pieceAt
  simp only [hn, Bool.true_and, Bool.and_eq_true, decide_eq_true_eq]
  refine ⟨⟨⟨⟨⟨by omega, by omega⟩, by omega⟩, by omega⟩, by omega⟩, ?_⟩
  by_cases hl : (i : Int) < (cnt r.size : Int) - 1
  · rw [if_pos hl]
    refine decide_eq_true ?_
    split at h4 <;> omega
  · rw [if_neg hl, Bool.or_eq_true, decide_eq_true_eq, decide_eq_true_eq]
    split at h4 <;> omega
theorem pieces_head (r : ByteArray) (e q : Int) (p : Pz) : ((pieces r e q).headD p).epoch = e ∧ ((pieces r e q).headD p).seq = q := by
  have h := pieces_at r e q 0 (cnt_pos r.size)
  cases hl : pieces r e q with
  | nil => rw [hl] at h; simp at h
  | cons x l =>
    rw [hl] at h
    simp at h
    subst h
    exact ⟨rfl, rfl⟩
theorem pieces_fit (r : ByteArray) (e q : Int) (hn : numsB e q = true) (hr : r.size ≤ 6400) (i : Nat) (h : i < cnt r.size) : fitsAt (pieces r e q) i = true := by
  unfold fitsAt
  rw [pieces_at r e q i h]
  show fits (pieces r e q) i (pieceAt r e q i) = true
  unfold fits
  obtain ⟨h1, h2⟩ := pieces_head r e q (pieceAt r e q i)
  rw [piece_ok r e q hn hr i h, h1, h2, pieces_len]
  simp [pieceAt]
theorem joined_pieces (r : ByteArray) (e q : Int) (hn : numsB e q = true) (hr : r.size ≤ 6400) : joined (pieces r e q) = some r := by
  unfold joined
  rw [if_pos, glue_pieces]
  refine ⟨by rw [pieces_len]; exact cnt_pos _, ?_⟩
  unfold allFit
  rw [List.all_eq_true]
  intro i hi
  exact pieces_fit r e q hn hr i (by rw [← pieces_len r e q]; exact List.mem_range.1 hi)
theorem joined_none (l : List Pz) (i : Nat) (hi : i < l.length) (h : fitsAt l i = false) : joined l = none := by
  unfold joined
  rw [if_neg]
  rintro ⟨_, h2⟩
  rw [allFit_le l i l.length hi h] at h2
  cases h2
theorem fitsAt_of {l : List Pz} {i : Nat} {p : Pz} (h : l[i]? = some p) : fitsAt l i = fits l i p := by unfold fitsAt; rw [h]
/-- One of another epoch. -/
theorem mixed_epoch (r : ByteArray) (e q x : Int) (i : Nat) (hn : numsB e q = true) (hr : r.size ≤ 6400) (hx : numsB x x = true) (h2 : 2 ≤ cnt r.size) (hi : i < cnt r.size) :
    (joined ((pieces r e q).set i { pieceAt r e q i with epoch := x })).isSome = decide (x = e) := by
  have hl := pieces_len r e q
  by_cases he : x = e
  · subst he
    have e1 : (pieces r x q).set i { pieceAt r x q i with epoch := x } = pieces r x q := by
      apply List.ext_getElem?
      intro j
      rw [List.getElem?_set]
      split
      · rename_i h
        subst h
        rw [if_pos (by rw [hl]; exact hi), pieces_at r x q i hi]
        rfl
      · rfl
    rw [e1, joined_pieces r x q hn hr, decide_eq_true rfl]
    rfl
  · rw [decide_eq_false he]
    have key : ∃ j, j < cnt r.size ∧ fitsAt ((pieces r e q).set i { pieceAt r e q i with epoch := x }) j = false := by
      by_cases h0 : i = 0
      · subst h0
        refine ⟨1, by omega, ?_⟩
        have h1 : ((pieces r e q).set 0 { pieceAt r e q 0 with epoch := x })[1]? = some (pieceAt r e q 1) := by
          rw [List.getElem?_set, if_neg (by omega), pieces_at r e q 1 (by omega)]
        rw [fitsAt_of h1]
        have hh : (((pieces r e q).set 0 { pieceAt r e q 0 with epoch := x }).headD (pieceAt r e q 1)).epoch = x := by
          have h3 : ((pieces r e q).set 0 { pieceAt r e q 0 with epoch := x })[0]? = some { pieceAt r e q 0 with epoch := x } := by
            rw [List.getElem?_set, if_pos rfl, if_pos (by rw [hl]; omega)]
          cases hc : (pieces r e q).set 0 { pieceAt r e q 0 with epoch := x } with
          | nil => rw [hc] at h3; simp at h3
          | cons y l =>
            rw [hc] at h3
            simp at h3
            subst h3
            rfl
        unfold fits
        rw [hh]
        have : decide ((pieceAt r e q 1).epoch = x) = false := decide_eq_false fun h => he h.symm
        rw [this]
        simp
      · refine ⟨i, hi, ?_⟩
        have h1 : ((pieces r e q).set i { pieceAt r e q i with epoch := x })[i]? = some { pieceAt r e q i with epoch := x } := by
          rw [List.getElem?_set, if_pos rfl, if_pos (by rw [hl]; exact hi)]
        rw [fitsAt_of h1]
        have hh : (((pieces r e q).set i { pieceAt r e q i with epoch := x }).headD { pieceAt r e q i with epoch := x }).epoch = e := by
          have h3 : ((pieces r e q).set i { pieceAt r e q i with epoch := x })[0]? = some (pieceAt r e q 0) := by
            rw [List.getElem?_set, if_neg h0, pieces_at r e q 0 (by omega)]
          cases hc : (pieces r e q).set i { pieceAt r e q i with epoch := x } with
          | nil => rw [hc] at h3; simp at h3
          | cons y l =>
            rw [hc] at h3
            simp at h3
            subst h3
            rfl
        unfold fits
        rw [hh]
        have : decide (({ pieceAt r e q i with epoch := x } : Pz).epoch = e) = false := decide_eq_false he
        rw [this]
        simp
    obtain ⟨j, hj, hf⟩ := key
    rw [joined_none _ j (by rw [List.length_set, hl]; exact hj) hf]
    rfl
theorem mixed_seq (r : ByteArray) (e q x : Int) (i : Nat) (hn : numsB e q = true) (hr : r.size ≤ 6400) (hx : numsB x x = true) (h2 : 2 ≤ cnt r.size) (hi : i < cnt r.size) :
    (joined ((pieces r e q).set i { pieceAt r e q i with seq := x })).isSome = decide (x = q) := by
  have hl := pieces_len r e q
  by_cases he : x = q
  · subst he
    have e1 : (pieces r e x).set i { pieceAt r e x i with seq := x } = pieces r e x := by
      apply List.ext_getElem?
      intro j
      rw [List.getElem?_set]
      split
      · rename_i h
        subst h
        rw [if_pos (by rw [hl]; exact hi), pieces_at r e x i hi]
        rfl
      · rfl
    rw [e1, joined_pieces r e x hn hr, decide_eq_true rfl]
    rfl
  · rw [decide_eq_false he]
    have key : ∃ j, j < cnt r.size ∧ fitsAt ((pieces r e q).set i { pieceAt r e q i with seq := x }) j = false := by
      by_cases h0 : i = 0
      · subst h0
        refine ⟨1, by omega, ?_⟩
        have h1 : ((pieces r e q).set 0 { pieceAt r e q 0 with seq := x })[1]? = some (pieceAt r e q 1) := by
          rw [List.getElem?_set, if_neg (by omega), pieces_at r e q 1 (by omega)]
        rw [fitsAt_of h1]
        have hh : (((pieces r e q).set 0 { pieceAt r e q 0 with seq := x }).headD (pieceAt r e q 1)).seq = x := by
          have h3 : ((pieces r e q).set 0 { pieceAt r e q 0 with seq := x })[0]? = some { pieceAt r e q 0 with seq := x } := by
            rw [List.getElem?_set, if_pos rfl, if_pos (by rw [hl]; omega)]
          cases hc : (pieces r e q).set 0 { pieceAt r e q 0 with seq := x } with
          | nil => rw [hc] at h3; simp at h3
          | cons y l =>
            rw [hc] at h3
            simp at h3
            subst h3
            rfl
        unfold fits
        rw [hh]
        have : decide ((pieceAt r e q 1).seq = x) = false := decide_eq_false fun h => he h.symm
        rw [this]
        simp
      · refine ⟨i, hi, ?_⟩
        have h1 : ((pieces r e q).set i { pieceAt r e q i with seq := x })[i]? = some { pieceAt r e q i with seq := x } := by
          rw [List.getElem?_set, if_pos rfl, if_pos (by rw [hl]; exact hi)]
        rw [fitsAt_of h1]
        have hh : (((pieces r e q).set i { pieceAt r e q i with seq := x }).headD { pieceAt r e q i with seq := x }).seq = q := by
          have h3 : ((pieces r e q).set i { pieceAt r e q i with seq := x })[0]? = some (pieceAt r e q 0) := by
            rw [List.getElem?_set, if_neg h0, pieces_at r e q 0 (by omega)]
          cases hc : (pieces r e q).set i { pieceAt r e q i with seq := x } with
          | nil => rw [hc] at h3; simp at h3
          | cons y l =>
            rw [hc] at h3
            simp at h3
            subst h3
            rfl
        unfold fits
        rw [hh]
        have : decide (({ pieceAt r e q i with seq := x } : Pz).seq = q) = false := decide_eq_false he
        rw [this]
        simp
    obtain ⟨j, hj, hf⟩ := key
    rw [joined_none _ j (by rw [List.length_set, hl]; exact hj) hf]
    rfl
/-- One is missing. -/
theorem missing_one (r : ByteArray) (e q : Int) (i : Nat) (h2 : 2 ≤ cnt r.size) (hi : i < cnt r.size) : joined ((pieces r e q).eraseIdx i) = none := by
  have hl := pieces_len r e q
  have hlen : ((pieces r e q).eraseIdx i).length = cnt r.size - 1 := by rw [List.length_eraseIdx, if_pos (by rw [hl]; exact hi), hl]
  obtain ⟨p, hp⟩ : ∃ p, ((pieces r e q).eraseIdx i)[0]? = some p := ⟨_, List.getElem?_eq_getElem (by rw [hlen]; omega)⟩
  have hpp : p.parts = cnt r.size := by
    rw [List.getElem?_eraseIdx] at hp
    split at hp
    · rw [pieces_at r e q 0 (by omega)] at hp
      injection hp with hp
      rw [← hp]; rfl
    · rw [pieces_at r e q (0 + 1) (by omega)] at hp
      injection hp with hp
      rw [← hp]; rfl
  refine joined_none _ 0 (by rw [hlen]; omega) ?_
  rw [fitsAt_of hp]
  unfold fits
  have : decide (p.parts = (((pieces r e q).eraseIdx i).length : Int)) = false := decide_eq_false (by rw [hpp, hlen]; omega)
  rw [this]
  simp
end Go.Proofs.Ytfipojmgmmjnmaa
