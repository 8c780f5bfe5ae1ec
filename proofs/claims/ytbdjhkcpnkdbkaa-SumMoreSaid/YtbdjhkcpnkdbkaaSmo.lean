/- PROVED HERE: for every list of texts, the law SumMore returns true: More goes on from the sum of what stands before, and calls are counted. CONDITIONS: none. -/
import Derived.Test.YtbdjhkcpnkdbkaaSr
import Derived.Test.YtbdjhkcpnkdbkaaLaw
namespace Go.Proofs.Ytbdjhkcpnkdbkaa.sumMore
open Go.ChangeShapes Go.WideShapes Go.ChangeAt Go.RowKit
open Go.ChangeMaps (open_string shut_string)

theorem own : ownKnob Try.prog.godebug = none := by kernel_rfl
theorem laidOut : laidOutB Try.prog = true := by kernel_rfl

/-- The first i texts in one. -/
def cat (ss : List ByteArray) : Nat → ByteArray
  | 0 => ⟨#[]⟩
  | i + 1 => cat ss i ++ ss.getD i ByteArray.empty

theorem cat_sum (ss : List ByteArray) (i : Nat) : more (sumOf (cat ss i)) (ss.getD i ByteArray.empty).data.toList = sumOf (cat ss (i + 1)) := by
  unfold sumOf
  rw [more_more, cat]
  simp

set_option maxRecDepth 100000 in
theorem walk_empty (ao : Option Addr) (cap : Nat) (w : World) :
    Calls Try.prog 6 #[.slice ao 0 cap] w fun e w' => e = .returned (.bool true) ∧ Below w.heap.size w w' := by
  go_enter Try.func6, Try.ntmps6
  go_wp2_with fail
  go_must (refine (sNew_any _).mono ?_)
  rintro e w0 ⟨rfl, hw0⟩
  have h0 : Smr w.heap.size 0 w0 := (by rw [← hw0]; exact .inl (heap_alloc_new w _))
  have HW := Lib.hid hw0
  clear hw0
  go_wp2_with fail
  refine wp_loop_rounds 1 ?_
  rw [rounds_succ]
  go_wp2_with fail
  have k0 : w.heap.size < w0.heap.size := by rw [← HW.out]; simp
  have b0 : Below w.heap.size w w0 := by rw [← HW.out]; exact (Below.refl _ _).alloc (Nat.le_refl _) _
  go_must (refine (sOfM_any w.heap.size 0 ⟨#[]⟩ _ (by decide) (by decide) (by decide) h0).mono ?_)
  rintro e w1 ⟨rfl, h1, k1⟩
  rw [sum_empty]
  unfold uv
  go_wp2_with fail
  go_must (refine (sCalls_any w.heap.size 1 _ (.inr h1)).mono ?_)
  rintro e w2 ⟨rfl, rfl⟩
  go_wp2_with fail
  go_must (refine (sknown_any _).mono ?_)
  rintro e w3 ⟨rfl, b3⟩
  go_wp2
  go_ret
  have c1 := k1.below (B := w.heap.size) (Nat.le_refl _) (by omega) (fun j hj => by cases hj)
  have s1 := k1.size
  exact ⟨rfl, b0.trans (c1.trans (b3.mono (by omega)))⟩

set_option maxRecDepth 100000 in
set_option maxHeartbeats 1000000 in
theorem walk (b off len cap : Nat) (ss : List ByteArray) (w : World) (hlen : 0 < len) (hb : b < w.heap.size) (hs : ∀ i, i < len → (ss.getD i ByteArray.empty).size ≤ 9223372036854775807)
    (hc : ∀ i, i < len → w.cell? ⟨b, off + i, none⟩ = some (.string (ss.getD i ByteArray.empty))) :
    Calls Try.prog 6 #[.slice (some ⟨b, off, none⟩) len cap] w fun e w' => e = .returned (.bool true) ∧ Below w.heap.size w w' := by
  have HS := Lib.hid hs
  have HC := Lib.hid hc
  clear hs hc
  by_cases h : 30 < len
  · go_enter Try.func6, Try.ntmps6
    go_wp2_with (go_at_call 17; go_must (refine (sknown_any _).mono ?_); rintro e w1 ⟨rfl, hb⟩)
    go_ret
    exact ⟨rfl, hb⟩
  · go_enter Try.func6, Try.ntmps6
    go_wp2_with fail
    go_must (refine (sNew_any _).mono ?_)
    rintro e w0 ⟨rfl, hw0⟩
    have h0 : Smr w.heap.size 0 w0 := (by rw [← hw0]; exact .inl (heap_alloc_new w _))
    have b0 : Below w.heap.size w w0 := (by rw [← hw0]; exact (Below.refl _ _).alloc (Nat.le_refl _) _)
    have z0 : w.heap.size < w0.heap.size := (by rw [← hw0]; simp)
    clear hw0
    go_wp2_with fail
    go_loopw [4, 5, 6] (fun all n c wr => ∃ i : Nat, i ≤ len ∧ c = .int .i64 i ∧ all = .string (cat ss i) ∧ n = .int .u32 (sumOf (cat ss i)).toNat ∧ (cat ss i).size ≤ 200 * i ∧ Smr w.heap.size i wr ∧ Below w.heap.size w wr ∧ w.heap.size < wr.heap.size) (fun _ _ c _ => len - (intOf c).toNat)
    case atStart => exact ⟨0, Nat.zero_le _, rfl, rfl, by rw [show cat ss 0 = ⟨#[]⟩ from rfl, sum_empty]; rfl, by simp [cat, ByteArray.size], h0, b0, z0⟩
    case round =>
      obtain ⟨i, hi, rfl, rfl, rfl, hsz, hsm, hbel, hzz⟩ := hrel
      by_cases hlt : i < len
      · obtain ⟨s, hs⟩ : ∃ s, s = ss.getD i ByteArray.empty := ⟨_, rfl⟩
        obtain ⟨t, ht⟩ : ∃ t, t = cat ss i := ⟨_, rfl⟩
        have hcell : wr.cell? ⟨b, off + i, none⟩ = some (.string s) := by rw [hs]; exact (hbel.cell (p := ⟨b, off + i, none⟩) hb).trans (HC.out i hlt)
        have hss : s.size ≤ 9223372036854775807 := by rw [hs]; exact HS.out i hlt
        have hsum : more (sumOf t) s.data.toList = sumOf (cat ss (i + 1)) := by rw [hs, ht]; exact cat_sum ss i
        have hcat : cat ss (i + 1) = t ++ s := by rw [hs, ht]; rfl
        rw [← ht] at hsz ⊢
        rw [hcat] at hsum
        have HM := Lib.hid hsum
        have HK := Lib.hid hcat
        clear hs ht hsum hcat
        by_cases hbig : 200 < s.size
        · go_wp2_with (go_at_call 17; go_must (refine (sknown_any _).mono ?_); rintro e w1 ⟨rfl, hb⟩)
          go_ret
          exact ⟨rfl, hbel.trans (hb.mono (by omega))⟩
        · go_wp2_with fail
          have hfit : (t ++ s).size ≤ 200 * (i + 1) := by rw [ByteArray.size_append]; omega
          go_must (refine (more_any w.heap.size i (sumOf t) s _ (by omega) (by omega) hss hsm).mono ?_)
          rintro e w1 ⟨rfl, h1, k1⟩
          have hbel1 := hbel.trans (k1.below (B := w.heap.size) (Nat.le_refl _) (by omega) (fun j hj => by cases hj))
          have s1 := k1.size
          rw [HM.out]
          unfold uv
          go_wp2_with fail
          go_must (refine (refOf_any (t ++ s) _ (by omega)).mono ?_)
          rintro e w2 ⟨rfl, rfl⟩
          unfold uv
          go_wp2_with fail
          go_must (refine (sCalls_any w.heap.size (i + 1) _ (.inr h1)).mono ?_)
          rintro e w2 ⟨rfl, rfl⟩
          go_wp2_with fail
          go_roundw
          case rel => exact ⟨i + 1, by omega, by go_num, by rw [HK.out], by rw [HK.out], by rw [HK.out]; exact hfit, .inr (by exact_mod_cast h1), hbel1, by omega⟩
          case measure => simp [intOf]; omega
      · obtain rfl : i = len := by omega
        obtain ⟨t, ht⟩ : ∃ t, t = cat ss i := ⟨_, rfl⟩
        rw [← ht] at hsz ⊢
        clear ht
        go_wp2_with fail
        go_must (refine (sOfM_any w.heap.size i t _ (by omega) (by omega) (by omega) hsm).mono ?_)
        rintro e w1 ⟨rfl, h1, k1⟩
        have hbel1 := hbel.trans (k1.below (B := w.heap.size) (Nat.le_refl _) (by omega) (fun j hj => by cases hj))
        have s1 := k1.size
        unfold uv
        go_wp2_with fail
        go_must (refine (sCalls_any w.heap.size (i + 1) _ (.inr h1)).mono ?_)
        rintro e w2 ⟨rfl, rfl⟩
        go_wp2_with fail
        go_must (refine (sknown_any _).mono ?_)
        rintro e w3 ⟨rfl, b3⟩
        go_wp2
        go_ret
        exact ⟨rfl, hbel1.trans (b3.mono (by omega))⟩
/-! ### THE FRAME -/
theorem cellsString : Try.prog.cellsOf 9 = 1 := by kernel_rfl

theorem strs_at {w : World} {a : Addr} {ss : List ByteArray} (h : ∀ i, i < ss.length → w.cell? (a.add i) = some (.string (ss.getD i ByteArray.empty))) (hp : 0 < ss.length) :
    ∃ b off, a = ⟨b, off, none⟩ ∧ ∀ j, j < ss.length → w.cell? ⟨b, off + j, none⟩ = some (.string (ss.getD j ByteArray.empty)) := by
  obtain ⟨b, off, spot⟩ := a
  have hspot : spot = none := by simpa [Addr.add] using World.cell?_spot (h 0 hp)
  subst hspot
  exact ⟨b, off, rfl, fun j hj => by rw [← Go.WideShapes.add_plain]; exact h j hj⟩

set_option maxRecDepth 100000 in
theorem lifted (os : Os) (started : os.Started) (H : Type) (enc : TypeId × Value → H) :
    ReturnsInHanded {} Try.checked os 6 .any (Rows.sumMoreSpec.pre6 enc Try.prog Try.f6 Rows.sumMoreRow.domain false) (Rows.sumMoreSpec.post enc Try.prog Try.f6 false true false false) := by
  refine returnsInHanded_of_change (C := Try.checked) own started (by kernel_rfl) Try.func6
    (ChangeSpec.witness6 (enc := enc) (C := Try.checked) false ⟨#[], #[.slice none 0 0], []⟩ 8 (by kernel_rfl) (by kernel_rfl) (by kernel_rfl) (by kernel_rfl)) ?_
  intro W base args ds gs before hval0 hW hcnd _
  have hval : ∀ (j : Nat) t v, Try.f6.params[j]? = some t → args[j]? = some v → Value.okWide Try.prog W .any base t v := hval0
  have hW' := hW
  obtain ⟨p, q, hA0, hV, rfl, hfz, hnd⟩ := hW
  have hA : DataW.TrodAll enc Try.prog W 0 (fun _ => true) true Try.f6.params.toList args.toList ds p := hA0
  rw [Try.params6] at hA hval
  obtain ⟨v0, vs0, d0, ds0, p0, q0, hargs, rfl, rfl, h0, r0⟩ := trodAll_cons hA
  obtain ⟨rfl, rfl, rfl⟩ := trodAll_nil r0
  obtain rfl : args = #[v0] := by cases args; simp_all
  have post : ∀ W', Below W.heap.size W W' → Rows.sumMoreSpec.post enc Try.prog Try.f6 false true false false W #[v0] (.bool true) W' := fun W' hg =>
    law_post laidOut (by rw [Try.params6]; decide +kernel) rfl Try.underlying4 rfl hW' rfl hg
  have done : ∀ (e : Ending) W', (e = .returned (.bool true) ∧ Below W.heap.size W W') → ∃ v, e = .returned v ∧ Rows.sumMoreSpec.post enc Try.prog Try.f6 false true false false W #[v0] v W' := fun e W' ⟨he, hg⟩ => ⟨_, he, post W' hg⟩
  clear post
  obtain ⟨a0, len, cap, rfl⟩ := okWide_slice Try.underlying44 (hval 0 44 v0 rfl rfl)
  obtain ⟨fuel, hf⟩ := h0
  rcases open_strings Try.underlying44 Try.underlying9 cellsString hf with ⟨hcs, hx⟩ | ⟨a, len', cap', ss, hcs, hbase, hl, hm, hz, hx, hcell, hws⟩
  · simp [Value.cells] at hcs
    obtain ⟨rfl, rfl, rfl⟩ := hcs
    exact (walk_empty none 0 W).mono done
  · simp [Value.cells] at hcs
    obtain ⟨rfl, rfl, rfl⟩ := hcs
    by_cases hlen : len = 0
    · subst hlen
      exact (walk_empty (some a) cap W).mono done
    · have hsl : ss.length = cap := by simpa using hz
      obtain ⟨b, off, rfl, hc⟩ := strs_at hcell (by omega)
      have hbW : b < W.heap.size := World.block_lt_of_cell? W ⟨b, off + 0, none⟩ (hc 0 (by omega))
      refine (walk b off len cap ss W (by omega) hbW (fun i hi => ?_) (fun i hi => hc i (by omega))).mono done
      have hi' : i < ss.length := by omega
      have := hws (ss.getD i ByteArray.empty) (by rw [List.getD_eq_getElem?_getD, List.getElem?_eq_getElem hi']; exact List.getElem_mem hi')
      unfold maxLen at this
      omega


theorem over : Rows.sumMoreRow.holds Try.pinned (OpenSpec.ofChange Rows.sumMoreSpec) :=
  OpenClaim.holds_of_wide 6 Try.f6 rfl rfl rfl rfl rfl rfl rfl ⟨rfl, rfl, rfl, rfl, rfl⟩ rfl rfl rfl rfl rfl (by kernel_rfl) Try.func6 (by kernel_rfl)
    (of_decide_eq_true (by kernel_rfl)) (by unfold Func.isWrapper; first | (rw [if_pos (by decide +kernel)]; kernel_rfl) | (rw [if_neg (by decide +kernel)]; exact ⟨rfl, rfl⟩))
    (fun os started H enc _ => lifted os started H enc)

theorem proved : Rows.SumMoreSaid := over

end Go.Proofs.Ytbdjhkcpnkdbkaa.sumMore
