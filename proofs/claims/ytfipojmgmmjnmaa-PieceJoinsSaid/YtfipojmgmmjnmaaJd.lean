/- The reference's Cut. -/
import Derived.Test.YtfipojmgmmjnmaaJc
import Derived.Deep.AppendLies
import Derived.Deep.DeepMust
import Derived.WalkLawsBesides
import Derived.WalkSpells
namespace Go.Proofs.Ytfipojmgmmjnmaa
open Go.RowKit
set_option linter.unusedVariables false

theorem Try.infoPiece : (Try.prog.info? 81).map (fun i => (i.zero, i.size, i.bytes)) = some (some (.agg #[.int .i64 0, .int .i64 0, .int .i64 0, .int .i64 0, .string ⟨#[]⟩]), 5, 48) := by kernel_rfl
/-- Pieces in a row of one's own. -/
theorem pzs_row {B n : Nat} {v : Value} {xs : List Pz} {w : World} (h : w.ownsRow B 81 5 v n (pcells xs)) (hn : n = xs.length) : Pzs (fun j => B ≤ j) v xs w := by
  subst hn
  have hl := own_len h
  rcases h.2 with ⟨rfl, h0⟩ | ⟨g, cap, cur, rfl, hg, _⟩
  · have e := List.length_eq_zero_iff.1 h0
    subst e
    exact ⟨none, 0, 0, 0, rfl, ⟨by simp, fun _ => rfl⟩, fun h => by simp at h, fun i x hx => by simp at hx⟩
  · refine ⟨some ⟨g, 0, none⟩, cap, g, 0, rfl, ⟨hl, fun h => by cases h⟩, fun _ => ⟨rfl, (h.lt g rfl).2, hg⟩, fun i x hx j u hu => ?_⟩
    have hi := (List.getElem?_eq_some_iff.1 hx).1
    have hj : j < 5 := (List.getElem?_eq_some_iff.1 hu).1
    have e := h.cellAt (i * 5 + j) (by omega)
    rw [Nat.zero_add, e]
    exact pcells_at xs i x hx j u hu

set_option maxRecDepth 100000 in
set_option maxHeartbeats 2000000 in
theorem pkCut_any (r : ByteArray) (e q : Int) (w : World) (hr : r.size ≤ 1000000) :
    Calls Try.prog 32 #[.string r, .int .i64 e, .int .i64 q] w fun a w' => ∃ v, a = .returned v ∧ Pzs (fun j => w.heap.size ≤ j) v (pieces r e q) w' ∧ Below w.heap.size w w' := by
  obtain ⟨i0, hi, hz0, hz1, hz2⟩ := info_parts Try.infoPiece
  obtain ⟨n, hn⟩ : ∃ n, n = cnt r.size := ⟨_, rfl⟩
  have hn1 : n ≤ 10001 ∧ (r.size = 0 ↔ ((r.size : Int) + 99) / 100 = 0) ∧ (r.size ≠ 0 → ((r.size : Int) + 99) / 100 = n) ∧ (r.size = 0 → n = 1) := by
    unfold cnt at hn
    split at hn <;> omega
  have hcov : 100 * n < r.size + 100 ∨ r.size = 0 := by
    unfold cnt at hn
    split at hn <;> omega
  have HP := Lib.hid (show pieces r e q = piecesTo r e q n by rw [hn]; rfl)
  have HPA := Lib.hid (show ∀ k, (pieceAt r e q k).arr = #[.int .i64 e, .int .i64 q, .int .i64 (k : Int), .int .i64 (n : Int), .string (chunk r k)] from fun k => by rw [hn]; rfl)
  clear hn
  by_cases h0 : r.size = 0
  · obtain rfl : n = 1 := hn1.2.2.2 h0
    have hq0 : (((r.size : Int) + 99) / 100 == 0) = true := by rw [beq_iff_eq]; exact hn1.2.1.1 h0
    clear hn1
    go_enter Try.func32, Try.ntmps32
    go_wp2_with fail
    clear hq0
    go_loopw [8, 9] (fun v c wr => ∃ k : Nat, k ≤ 1 ∧ c = .int .i64 k ∧ wr.ownsRow w.heap.size 81 5 v k (pcells (piecesTo r e q k)) ∧ Below w.heap.size w wr) (fun _ c _ => 1 - (intOf c).toNat)
    case atStart => exact ⟨0, Nat.zero_le _, rfl, World.ownsRow_nil _ _ _ _, Below.refl _ _⟩
    case round =>
      obtain ⟨k, hk, rfl, hown, hb⟩ := hrel
      have HB := Lib.hid hb
      have hws := hb.size
      clear hb
      by_cases hlt : k < 1
      · have hlo : 100 * k ≤ r.size := by omega
        have e2 : IntKind.i64.wrap (100 * (k : Int)) = 100 * (k : Int) := by rw [IntKind.wrap_i64]; omega
        have HSC := Lib.hid (piecesTo_succ r e q k)
        by_cases hle : 100 * k + 100 < r.size
        · skip
          exfalso; omega
        · skip
          have hs2 : chunk r k = r.extract (100 * k) (0) := by unfold chunk; congr 1; omega
          have HPS := Lib.hid (show (pieceAt r e q k).arr = #[.int .i64 e, .int .i64 q, .int .i64 (k : Int), .int .i64 1, .string (r.extract (100 * k) (0))] by have h := HPA.out k; rw [hs2] at h; exact h)
          have e3 : ¬ 100 * (k : Int) + 100 < (r.size : Int) := by omega
          clear hs2
          have HO := Lib.hid hown
          go_wp2_with (at_builtin; go_must (refine wpList_append_lies _ rfl (.tmp 21) (.tmp 37) 67 rfl w.heap.size 81 i0 (.agg #[.int .i64 0, .int .i64 0, .int .i64 0, .int .i64 0, .string ⟨#[]⟩]) 5 48 Try.underlying67 hi hz0 hz1 hz2 rfl (by decide) _ _ _ (by simp [Act.eval]) (hown.alloc _) ⟨wr.heap.size, 0, none⟩ 1 1 [.int .i64 e, .int .i64 q, .int .i64 (k : Int), .int .i64 1, .string (r.extract (100 * k) (0))] (by simp [Act.eval]) rfl (World.news_of_block (heap_alloc_new wr _)) (by intro u hu; simp at hu; rcases hu with rfl | rfl | rfl | rfl | rfl <;> rfl) (by decide) (by unfold maxLen; omega) (by omega) (by simp; omega) _ rfl ?_); intro g cap w2 h1 hg hat hl2; have H1 := Lib.hid h1; have HG := Lib.hid hg; clear h1 hg hat hl2)
          go_roundw
          case rel =>
            refine ⟨k + 1, by omega, by go_num, ?_, HB.out.trans ?_⟩
            · rw [HSC.out, pcells_append]
              have e5 : pcells [pieceAt r e q k] = [.int .i64 e, .int .i64 q, .int .i64 (k : Int), .int .i64 1, .string (r.extract (100 * k) (0))] := by
                show (pieceAt r e q k).arr.toList ++ [] = _
                first | (rw [HPS.out]; done) | (rw [HPS.out]; rfl)
              rw [e5]
              exact H1.out
            · exact ((Below.refl w.heap.size wr).alloc hws _).grown HG.out (by simp; omega) (fun j hj => (HO.out.lt j hj).1)
          case measure => simp [intOf]; omega
      · obtain rfl : k = 1 := by omega
        have HV := Lib.hid (pzs_row hown (piecesTo_length _ _ _ _).symm)
        clear hown
        go_wp2_with fail
        go_ret
        exact ⟨_, rfl, by rw [HP.out]; exact HV.out, HB.out⟩
  · have hq := hn1.2.2.1 h0
    have hq0 : (((r.size : Int) + 99) / 100 == 0) = false := by rw [beq_eq_false_iff_ne]; intro h; exact h0 (hn1.2.1.2 h)
    have HQ := Lib.hid hq
    have hnb := hn1.1
    clear hq hn1
    go_enter Try.func32, Try.ntmps32
    go_wp2_with fail
    rw [HQ.out]
    clear hq0
    go_loopw [8, 9] (fun v c wr => ∃ k : Nat, k ≤ n ∧ c = .int .i64 k ∧ wr.ownsRow w.heap.size 81 5 v k (pcells (piecesTo r e q k)) ∧ Below w.heap.size w wr) (fun _ c _ => n - (intOf c).toNat)
    case atStart => exact ⟨0, Nat.zero_le _, rfl, World.ownsRow_nil _ _ _ _, Below.refl _ _⟩
    case round =>
      obtain ⟨k, hk, rfl, hown, hb⟩ := hrel
      have HB := Lib.hid hb
      have hws := hb.size
      clear hb
      by_cases hlt : k < n
      · have hlo : 100 * k ≤ r.size := by omega
        have e2 : IntKind.i64.wrap (100 * (k : Int)) = 100 * (k : Int) := by rw [IntKind.wrap_i64]; omega
        have HSC := Lib.hid (piecesTo_succ r e q k)
        by_cases hle : 100 * k + 100 < r.size
        · skip
          have hs2 : chunk r k = r.extract (100 * k) (100 * k + 100) := by unfold chunk; congr 1; omega
          have HPS := Lib.hid (show (pieceAt r e q k).arr = #[.int .i64 e, .int .i64 q, .int .i64 (k : Int), .int .i64 (n : Int), .string (r.extract (100 * k) (100 * k + 100))] by have h := HPA.out k; rw [hs2] at h; exact h)
          have e3 : 100 * (k : Int) + 100 < (r.size : Int) := by omega
          clear hs2
          have HO := Lib.hid hown
          go_wp2_with (at_builtin; go_must (refine wpList_append_lies _ rfl (.tmp 21) (.tmp 37) 67 rfl w.heap.size 81 i0 (.agg #[.int .i64 0, .int .i64 0, .int .i64 0, .int .i64 0, .string ⟨#[]⟩]) 5 48 Try.underlying67 hi hz0 hz1 hz2 rfl (by decide) _ _ _ (by simp [Act.eval]) (hown.alloc _) ⟨wr.heap.size, 0, none⟩ 1 1 [.int .i64 e, .int .i64 q, .int .i64 (k : Int), .int .i64 (n : Int), .string (r.extract (100 * k) (100 * k + 100))] (by simp [Act.eval]) rfl (World.news_of_block (heap_alloc_new wr _)) (by intro u hu; simp at hu; rcases hu with rfl | rfl | rfl | rfl | rfl <;> rfl) (by decide) (by unfold maxLen; omega) (by omega) (by simp; omega) _ rfl ?_); intro g cap w2 h1 hg hat hl2; have H1 := Lib.hid h1; have HG := Lib.hid hg; clear h1 hg hat hl2)
          go_roundw
          case rel =>
            refine ⟨k + 1, by omega, by go_num, ?_, HB.out.trans ?_⟩
            · rw [HSC.out, pcells_append]
              have e5 : pcells [pieceAt r e q k] = [.int .i64 e, .int .i64 q, .int .i64 (k : Int), .int .i64 (n : Int), .string (r.extract (100 * k) (100 * k + 100))] := by
                show (pieceAt r e q k).arr.toList ++ [] = _
                first | (rw [HPS.out]; done) | (rw [HPS.out]; rfl)
              rw [e5]
              exact H1.out
            · exact ((Below.refl w.heap.size wr).alloc hws _).grown HG.out (by simp; omega) (fun j hj => (HO.out.lt j hj).1)
          case measure => simp [intOf]; omega
        · skip
          have hs2 : chunk r k = r.extract (100 * k) (r.size) := by unfold chunk; congr 1; omega
          have HPS := Lib.hid (show (pieceAt r e q k).arr = #[.int .i64 e, .int .i64 q, .int .i64 (k : Int), .int .i64 (n : Int), .string (r.extract (100 * k) (r.size))] by have h := HPA.out k; rw [hs2] at h; exact h)
          have e3 : ¬ 100 * (k : Int) + 100 < (r.size : Int) := by omega
          clear hs2
          have HO := Lib.hid hown
          go_wp2_with (at_builtin; go_must (refine wpList_append_lies _ rfl (.tmp 21) (.tmp 37) 67 rfl w.heap.size 81 i0 (.agg #[.int .i64 0, .int .i64 0, .int .i64 0, .int .i64 0, .string ⟨#[]⟩]) 5 48 Try.underlying67 hi hz0 hz1 hz2 rfl (by decide) _ _ _ (by simp [Act.eval]) (hown.alloc _) ⟨wr.heap.size, 0, none⟩ 1 1 [.int .i64 e, .int .i64 q, .int .i64 (k : Int), .int .i64 (n : Int), .string (r.extract (100 * k) (r.size))] (by simp [Act.eval]) rfl (World.news_of_block (heap_alloc_new wr _)) (by intro u hu; simp at hu; rcases hu with rfl | rfl | rfl | rfl | rfl <;> rfl) (by decide) (by unfold maxLen; omega) (by omega) (by simp; omega) _ rfl ?_); intro g cap w2 h1 hg hat hl2; have H1 := Lib.hid h1; have HG := Lib.hid hg; clear h1 hg hat hl2)
          go_roundw
          case rel =>
            refine ⟨k + 1, by omega, by go_num, ?_, HB.out.trans ?_⟩
            · rw [HSC.out, pcells_append]
              have e5 : pcells [pieceAt r e q k] = [.int .i64 e, .int .i64 q, .int .i64 (k : Int), .int .i64 (n : Int), .string (r.extract (100 * k) (r.size))] := by
                show (pieceAt r e q k).arr.toList ++ [] = _
                first | (rw [HPS.out]; done) | (rw [HPS.out]; rfl)
              rw [e5]
              exact H1.out
            · exact ((Below.refl w.heap.size wr).alloc hws _).grown HG.out (by simp; omega) (fun j hj => (HO.out.lt j hj).1)
          case measure => simp [intOf]; omega
      · obtain rfl : k = n := by omega
        have HV := Lib.hid (pzs_row hown (piecesTo_length _ _ _ _).symm)
        clear hown
        go_wp2_with fail
        go_ret
        exact ⟨_, rfl, by rw [HP.out]; exact HV.out, HB.out⟩
end Go.Proofs.Ytfipojmgmmjnmaa
