/- Names: the reference's Split, walked; the two Joins. -/
import Derived.Test.YteijcfmgaljjaaaDoorNp
namespace Go.Proofs.YteijcfmgaljjaaaDoor
open Go.RowKit

theorem strInfo : (Tryd.prog.info? 9).map (fun i => (i.zero, i.size, i.bytes)) = some (some (.string ⟨#[]⟩), 1, 16) := by kernel_rfl
def cells (s : ByteArray) (acc : List (Nat × Nat)) : List Value := acc.map fun x => .string (s.extract x.1 x.2)
theorem cells_snoc (s : ByteArray) (acc : List (Nat × Nat)) (x : Nat × Nat) : cells s (acc ++ [x]) = cells s acc ++ [.string (s.extract x.1 x.2)] := by simp [cells]
theorem cells_len (s : ByteArray) (acc : List (Nat × Nat)) : (cells s acc).length = acc.length := by simp [cells]

theorem strs_rowF {s : ByteArray} {B : Nat} {v : Value} {acc : List (Nat × Nat)} {w : World} (h : w.ownsRowF B 9 1 v acc.length (cells s acc)) : Strs v (acc.map fun x => s.extract x.1 x.2) w := by
  rcases h.2 with ⟨rfl, h0⟩ | ⟨g, cap, cur, fz, rfl, _, hg, _, h1, h2, _⟩
  · have : acc = [] := List.eq_nil_of_length_eq_zero h0
    subst this
    exact ⟨none, 0, 0, 0, rfl, by simp, fun h => absurd h (by simp), fun i x hx => by simp at hx⟩
  · unfold maxLen at h2
    have hl : (acc.map fun x => s.extract x.1 x.2).length = acc.length := List.length_map _
    refine ⟨some ⟨g, 0, none⟩, cap, g, 0, by rw [hl], by rw [hl]; omega, fun _ => ⟨rfl, (h.lt g rfl).2⟩, fun i x hx => ?_⟩
    have hx2 : (cells s acc)[i]? = some (.string x) := by
      rw [List.getElem?_map] at hx
      unfold cells
      rw [List.getElem?_map]
      cases ha : acc[i]? with
      | none => rw [ha] at hx; cases hx
      | some p => rw [ha] at hx; simp at hx ⊢; exact hx
    have := h.cells (g := g) rfl i (.string x) hx2
    rw [Nat.zero_add]
    by_cases hi : i = 0
    · subst hi; simpa [Addr.add] using this
    · simpa [Addr.add, hi] using this

set_option maxHeartbeats 4000000 in
set_option maxRecDepth 1000000 in
theorem mSplit_any (s : ByteArray) (w : World) (hs : s.size ≤ 1073741824) :
    Calls Tryd.prog 18 #[.string s] w fun e w' => ∃ v, e = .returned v ∧ Strs v (splitB s) w' ∧ Below w.heap.size w w' := by
  obtain ⟨i0, hi, hz0, hz1, hz2⟩ := info_parts strInfo
  obtain ⟨F, hF⟩ : ∃ F, F = spansB s s.size 0 0 [] := ⟨_, rfl⟩
  have hsp : splitB s = F.map fun x => s.extract x.1 x.2 := by rw [hF]; rfl
  rw [hsp]
  have HF := Lib.hid hF
  clear hsp hF
  go_enter Tryd.func18, Tryd.ntmps18
  go_wp2_with fail
  go_loopw [3, 4, 5] (fun o b i wr => ∃ (i' b' : Nat) (acc : List (Nat × Nat)), i = .int .i64 i' ∧ b = .int .i64 b' ∧ wr.ownsRowF w.heap.size 9 1 o acc.length (cells s acc) ∧ Below w.heap.size w wr ∧ b' ≤ i' ∧ acc.length ≤ i' ∧ ((i' ≤ s.size ∧ spansB s (s.size - i') i' b' acc = F) ∨ (i' = s.size + 1 ∧ acc = F))) (fun _ _ i _ => s.size + 1 - (intOf i).toNat)
  case atStart => exact ⟨0, 0, [], rfl, rfl, World.ownsRowF_nil _ _ _ _, Below.refl _ _, Nat.le_refl _, Nat.le_refl _, .inl ⟨Nat.zero_le _, by rw [HF.out]; rfl⟩⟩
  case round =>
    obtain ⟨i, b, acc, rfl, rfl, hown, hbw, hbi, hal, hrest⟩ := hrel
    obtain ⟨ao, cap, rfl⟩ := slice_of hown
    have HRS := Lib.hid hrest
    by_cases hle : i ≤ s.size
    · have hlb : decide ((i : Int) ≤ (s.size : Int)) = true := by simp; omega
      have hw1 : IntKind.i64.wrap ((i : Int) + 1) = (i : Int) + 1 := by rw [IntKind.wrap_i64]; omega
      by_cases hcut : ∃ _h : i < s.size, s[i] ≠ 47
      · obtain ⟨hlt, hne⟩ := hcut
        have e1 : ((i : Int) == (s.size : Int)) = false := by rw [beq_eq_false_iff_ne]; omega
        have hb0 : (0 : Int) ≤ (i : Int) := by omega
        have hb1 : (i : Int) < (s.size : Int) := by omega
        have e2 : (((s[i]'hlt).toNat : Int) == 47) = false := by
          rw [beq_eq_false_iff_ne]
          intro h
          apply hne
          apply UInt8.toNat_inj.1
          show _ = 47
          omega
        have HN := Lib.hid hne
        clear hne hrest
        go_wp2_with fail
        go_roundw
        case rel =>
          refine ⟨i + 1, b, acc, by go_num, rfl, hown, hbw, by omega, by omega, .inl ⟨by omega, ?_⟩⟩
          rcases HRS.out with ⟨_, h⟩ | ⟨h, _⟩
          · obtain ⟨g, hg⟩ : ∃ g, s.size - i = g + 1 := ⟨s.size - i - 1, by omega⟩
            rw [hg] at h
            simp only [spansB] at h
            rw [dif_pos hlt, if_neg HN.out] at h
            rw [show s.size - (i + 1) = g by omega]
            exact h
          · omega
        case measure => simp [intOf]; omega
      · by_cases hsz : i = s.size
        · have e1 : ((i : Int) == (s.size : Int)) = true := by rw [beq_iff_eq]; omega
          have HZ := Lib.hid hsz
          by_cases hbb : b < i
          · have hbd : decide ((i : Int) > (b : Int)) = true := by simp; omega
            have c0 : (0 : Int) ≤ (b : Int) := by omega
            have c1 : (b : Int) ≤ (i : Int) := by omega
            have c2 : (i : Int) ≤ (s.size : Int) := by omega
            obtain ⟨y, hy⟩ : ∃ y, s.extract b i = y := ⟨_, rfl⟩
            have HY := Lib.hid hy
            clear hcut hrest hsz
            have hszw := hbw.size
            go_wp2_with (at_builtin; refine wpList_append_ownF _ rfl _ _ 30 rfl w.heap.size 9 i0 (.string ⟨#[]⟩) 1 16 Tryd.underlying30 hi hz0 hz1 hz2 rfl (by decide) _ _ _ rfl (hown.alloc _) ⟨wr.heap.size, 0, none⟩ 1 1 [.string y] rfl rfl ?c1 ?c2 ?c3 ?c4 ?c5 ?_)
            case c1 =>
              intro j u hj
              match j, hj with
              | 0, hj => simp at hj; subst hj; simp [Addr.add]
            case c2 => intro u hu; simp at hu; subst hu; rfl
            case c3 => unfold maxLen; omega
            case c4 => omega
            case c5 => simp; omega
            intro v' w2 hown' hgrow _
            obtain ⟨ao', cap', rfl⟩ := slice_of hown'
            have hbw2 : Below w.heap.size w w2 := (hbw.alloc hszw _).grown hgrow (by simp; omega) (fun k hk => (hown.lt k hk).1)
            go_wp2_with fail
            go_roundw
            case rel =>
              refine ⟨i + 1, i + 1, acc ++ [(b, i)], by go_num, by go_num, ?_, hbw2, Nat.le_refl _, by rw [List.length_append]; simp; omega, ?_⟩
              · rw [cells_snoc, List.length_append, HY.out]; exact hown'
              · refine .inr ⟨by rw [HZ.out], ?_⟩
                rcases HRS.out with ⟨_, h⟩ | ⟨h, _⟩
                · rw [show s.size - i = 0 by rw [HZ.out]; omega] at h
                  simp only [spansB] at h
                  rw [if_pos hbb] at h
                  exact h
                · have := HZ.out; omega
            case measure => simp [intOf]; omega
          · have hbd : decide ((i : Int) > (b : Int)) = false := by simp; omega
            clear hcut hrest hsz
            go_wp2_with fail
            go_roundw
            case rel =>
              refine ⟨i + 1, i + 1, acc, by go_num, by go_num, hown, hbw, Nat.le_refl _, by omega, ?_⟩
              refine .inr ⟨by rw [HZ.out], ?_⟩
              rcases HRS.out with ⟨_, h⟩ | ⟨h, _⟩
              · rw [show s.size - i = 0 by rw [HZ.out]; omega] at h
                simp only [spansB] at h
                rw [if_neg hbb] at h
                exact h
              · have := HZ.out; omega
            case measure => simp [intOf]; omega
        · have hlt : i < s.size := by omega
          have hsl : s[i]'hlt = 47 := Decidable.byContradiction fun h => hcut ⟨hlt, h⟩
          have HN := Lib.hid hsl
          have e1 : ((i : Int) == (s.size : Int)) = false := by rw [beq_eq_false_iff_ne]; omega
          have hb0 : (0 : Int) ≤ (i : Int) := by omega
          have hb1 : (i : Int) < (s.size : Int) := by omega
          have e2 : (((s[i]'hlt).toNat : Int) == 47) = true := by rw [hsl]; rfl
          by_cases hbb : b < i
          · have hbd : decide ((i : Int) > (b : Int)) = true := by simp; omega
            have c0 : (0 : Int) ≤ (b : Int) := by omega
            have c1 : (b : Int) ≤ (i : Int) := by omega
            have c2 : (i : Int) ≤ (s.size : Int) := by omega
            obtain ⟨y, hy⟩ : ∃ y, s.extract b i = y := ⟨_, rfl⟩
            have HY := Lib.hid hy
            clear hcut hrest hsz hsl
            have hszw := hbw.size
            go_wp2_with (at_builtin; refine wpList_append_ownF _ rfl _ _ 30 rfl w.heap.size 9 i0 (.string ⟨#[]⟩) 1 16 Tryd.underlying30 hi hz0 hz1 hz2 rfl (by decide) _ _ _ rfl (hown.alloc _) ⟨wr.heap.size, 0, none⟩ 1 1 [.string y] rfl rfl ?c1 ?c2 ?c3 ?c4 ?c5 ?_)
            case c1 =>
              intro j u hj
              match j, hj with
              | 0, hj => simp at hj; subst hj; simp [Addr.add]
            case c2 => intro u hu; simp at hu; subst hu; rfl
            case c3 => unfold maxLen; omega
            case c4 => omega
            case c5 => simp; omega
            intro v' w2 hown' hgrow _
            obtain ⟨ao', cap', rfl⟩ := slice_of hown'
            have hbw2 : Below w.heap.size w w2 := (hbw.alloc hszw _).grown hgrow (by simp; omega) (fun k hk => (hown.lt k hk).1)
            go_wp2_with fail
            go_roundw
            case rel =>
              refine ⟨i + 1, i + 1, acc ++ [(b, i)], by go_num, by go_num, ?_, hbw2, Nat.le_refl _, by rw [List.length_append]; simp; omega, ?_⟩
              · rw [cells_snoc, List.length_append, HY.out]; exact hown'
              · refine .inl ⟨by omega, ?_⟩
                rcases HRS.out with ⟨_, h⟩ | ⟨h, _⟩
                · obtain ⟨g, hg⟩ : ∃ g, s.size - i = g + 1 := ⟨s.size - i - 1, by omega⟩
                  rw [hg] at h
                  simp only [spansB] at h
                  rw [dif_pos hlt, if_pos HN.out, if_pos hbb] at h
                  rw [show s.size - (i + 1) = g by omega]
                  exact h
                · omega
            case measure => simp [intOf]; omega
          · have hbd : decide ((i : Int) > (b : Int)) = false := by simp; omega
            clear hcut hrest hsz hsl
            go_wp2_with fail
            go_roundw
            case rel =>
              refine ⟨i + 1, i + 1, acc, by go_num, by go_num, hown, hbw, Nat.le_refl _, by omega, ?_⟩
              refine .inl ⟨by omega, ?_⟩
              rcases HRS.out with ⟨_, h⟩ | ⟨h, _⟩
              · obtain ⟨g, hg⟩ : ∃ g, s.size - i = g + 1 := ⟨s.size - i - 1, by omega⟩
                rw [hg] at h
                simp only [spansB] at h
                rw [dif_pos hlt, if_pos HN.out, if_neg hbb] at h
                rw [show s.size - (i + 1) = g by omega]
                exact h
              · omega
            case measure => simp [intOf]; omega
    · obtain ⟨hi1, hacc⟩ : i = s.size + 1 ∧ acc = F := by
        rcases hrest with ⟨h, _⟩ | h
        · omega
        · exact h
      have hlb : decide ((i : Int) ≤ (s.size : Int)) = false := by simp; omega
      have HACC := Lib.hid hacc
      clear hrest hacc
      go_wp2_with fail
      go_ret
      refine ⟨_, rfl, ?_, hbw⟩
      rw [← HACC.out]
      exact strs_rowF hown
end Go.Proofs.YteijcfmgaljjaaaDoor
