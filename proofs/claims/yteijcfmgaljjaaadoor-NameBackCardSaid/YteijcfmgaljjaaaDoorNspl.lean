/- PROVED HERE: for every path and every list of texts the law NameSplits returns true: any path is split, and any pieces are joined, as the document says. CONDITIONS: the two tables that the row lists read as laid. -/
import Derived.Test.YteijcfmgaljjaaaDoorNo
import Derived.Test.YteijcfmgaljjaaaDoorNk
import Derived.Test.YteijcfmgaljjaaaDoorLaw
import Derived.Test.YteijcfmgaljjaaaDoorLw
import Derived.Lib.LaidU8T
import Derived.PinnedBridge
import Derived.SliceStrings
import Derived.Deep.Slices
namespace Go.Proofs.YteijcfmgaljjaaaDoor.nameSplits
open Go.ChangeShapes Go.WideShapes Go.ChangeAt Go.RowKit
open Go.ChangeMaps (open_string shut_string)

theorem _root_.Go.Proofs.YteijcfmgaljjaaaDoor.open_strs {H : Type} {enc : TypeId × Value → H} {W : World} {base fuel : Nat} {held : Bool} {v : Value} {x : DataW H × List MemPlace} (hv : ∃ a len cap, v = .slice a len cap) (h : DataW.trod enc Tryd.prog W base (fun _ => true) held fuel 30 v.cells.toList = some x) :
    ∃ xs : List ByteArray, Strs v xs W ∧ ∀ s ∈ xs, s.size ≤ 9223372036854775807 := by
  obtain ⟨a0, len, cap, rfl⟩ := hv
  rcases open_strings Tryd.underlying30 Tryd.underlying9 (by kernel_rfl) h with ⟨hcs, _⟩ | ⟨a, len', cap', ss, hcs, hbase, hl, hm, hmm, hx, hcell, hsz⟩
  · simp [Value.cells] at hcs
    obtain ⟨rfl, rfl, rfl⟩ := hcs
    exact ⟨[], ⟨none, 0, 0, 0, rfl, by simp, fun h => absurd h (by simp), fun i x hx => by simp at hx⟩, fun s hs => by simp at hs⟩
  · simp [Value.cells] at hcs
    obtain ⟨rfl, rfl, rfl⟩ := hcs
    have hlen : ss.length = cap := by simpa using hmm
    have htl : (ss.take len).length = len := by rw [List.length_take]; omega
    unfold maxLen at hm hsz
    have hat : ∀ i, i < len → W.cell? (a.add i) = some (.string (ss.getD i ByteArray.empty)) := fun i hi => hcell i (by omega)
    refine ⟨ss.take len, ?_, fun s hs => hsz s (List.mem_of_mem_take hs)⟩
    by_cases h0 : len = 0
    · subst h0
      exact ⟨some a, cap, 0, 0, by rw [htl], by rw [htl]; omega, fun h => absurd h (by rw [htl]; omega), fun i x hx => by simp at hx⟩
    · obtain ⟨b, off, spot⟩ := a
      have hspot : spot = none := by
        have := World.cell?_spot (hat 0 (by omega))
        simpa [Addr.add] using this
      subst hspot
      have hb : b < W.heap.size := by
        have h0 := hat 0 (by omega)
        rcases Nat.lt_or_ge b W.heap.size with h1 | h1
        · exact h1
        · simp [World.cell?, Addr.add, Array.getElem?_eq_none h1] at h0
      refine ⟨some ⟨b, off, none⟩, cap, b, off, by rw [htl], by rw [htl]; omega, fun _ => ⟨rfl, hb⟩, fun i x hx => ?_⟩
      rw [List.getElem?_take] at hx
      split at hx
      · rename_i hi
        have := hat i hi
        rw [List.getD_eq_getElem?_getD, hx] at this
        by_cases hi0 : i = 0
        · subst hi0; simpa [Addr.add] using this
        · simpa [Addr.add, hi0] using this
      · cases hx

set_option maxRecDepth 100000 in
theorem far (s : ByteArray) (va : Value) (w : World) (hv : ∃ a len cap, va = .slice a len cap) (hT : Lib.Utf8Tabs 0 1 w) (h01 : 1 < w.heap.size) (hz : 300 < s.size) :
    Calls Tryd.prog 6 #[.string s, va] w fun e w' => e = .returned (.bool true) ∧ Below w.heap.size w w' := by
  obtain ⟨ao, len, cap, rfl⟩ := hv
  have d1 : decide ((s.size : Int) > 300) = true := by simp; omega
  go_enter Tryd.func6, Tryd.ntmps6
  go_wp2_with fail
  go_must (refine (nknown_any _ hT h01).mono ?_)
  rintro e w5 ⟨rfl, b5⟩
  go_wp2_with fail
  go_ret
  exact ⟨rfl, b5⟩

set_option maxRecDepth 100000 in
set_option maxHeartbeats 1000000 in
theorem walk (s : ByteArray) (va : Value) (xs : List ByteArray) (w : World) (ha : Strs va xs w) (hxz : ∀ x ∈ xs, x.size ≤ 9223372036854775807) (hT : Lib.Utf8Tabs 0 1 w) (h01 : 1 < w.heap.size) (hz : s.size ≤ 300) :
    Calls Tryd.prog 6 #[.string s, va] w fun e w' => e = .returned (.bool true) ∧ Below w.heap.size w w' := by
  have d1 : decide ((s.size : Int) > 300) = false := by simp; omega
  have HA := Lib.hid ha
  obtain ⟨ao, ac, ab, ai, rfl, hal, hao, hac⟩ := ha
  by_cases hn : xs.length ≤ 30
  · have d2 : decide ((xs.length : Int) > 30) = false := by simp; omega
    have HX := Lib.hid (show ∀ i, i < xs.length → ∃ x, xs[i]? = some x ∧ x.size ≤ 9223372036854775807 ∧ ao = some ⟨ab, ai, none⟩ ∧ w.cell? ⟨ab, ai + i, none⟩ = some (.string x) from fun i hi => ⟨xs[i]'hi, List.getElem?_eq_getElem _, hxz _ (List.getElem_mem _), (hao (by omega)).1, hac i _ (List.getElem?_eq_getElem _)⟩)
    have HS1 := Lib.hid (fun W => nSplit_any s W (by omega))
    have HS2 := Lib.hid (fun W => mSplit_any s W (by omega))
    clear hao hac hxz
    go_enter Tryd.func6, Tryd.ntmps6
    go_wp2_with fail
    go_loopw [5] (fun v wr => ∃ i q : Nat, i ≤ xs.length ∧ v = .int .i64 i ∧ (∀ j x, j < i → xs[j]? = some x → x.size ≤ 200) ∧ wr = w.drewN q) (fun v _ => xs.length - (intOf v).toNat)
    case atStart => exact ⟨0, 0, Nat.zero_le _, rfl, fun j x h => absurd h (Nat.not_lt_zero _), rfl⟩
    case round =>
      obtain ⟨i, q, hi, rfl, hsm, rfl⟩ := hrel
      have HSM := Lib.hid hsm
      clear hsm
      by_cases hlt : i < xs.length
      · obtain ⟨x, hx, hxm, rfl, hcx⟩ := HX.out i hlt
        have hcx : (w.drewN q).cell? ⟨ab, ai + i, none⟩ = some (.string x) := hcx
        have hb0 : (0 : Int) ≤ (i : Int) := by omega
        have hb1 : (i : Int) < (xs.length : Int) := by omega
        have hdl : decide ((i : Int) < (xs.length : Int)) = true := by simpa using hlt
        have hw1 : IntKind.i64.wrap ((i : Int) + 1) = (i : Int) + 1 := by rw [IntKind.wrap_i64]; omega
        have HXX := Lib.hid hx
        clear hx
        by_cases hx2 : x.size ≤ 200
        · have d3 : decide ((x.size : Int) > 200) = false := by simp; omega
          go_wp2_with fail
          go_roundw
          case rel =>
            refine ⟨i + 1, q, by omega, by go_num, ?_, rfl⟩
            intro j y hj hy
            by_cases hji : j = i
            · subst hji
              rw [HXX.out] at hy
              cases hy
              exact hx2
            · exact HSM.out j y (by omega) hy
          case measure => simp [intOf]; omega
        · have d3 : decide ((x.size : Int) > 200) = true := by simp; omega
          go_wp2_with fail
          go_must (refine (nknown_any _ (tabs_below hT h01 (below_drewN (Below.refl _ w) q)) h01).mono ?_)
          rintro e w5 ⟨rfl, b5⟩
          go_wp2_with fail
          go_ret
          exact ⟨rfl, (below_drewN (Below.refl _ w) q).trans b5⟩
      · obtain rfl : i = xs.length := by omega
        have hdl : decide ((xs.length : Int) < (xs.length : Int)) = false := by simp
        have hall : ∀ x ∈ xs, x.size ≤ 1000 := fun x hx => by
          obtain ⟨j, hj⟩ := List.mem_iff_getElem?.1 hx
          have := HSM.out j x (List.getElem?_eq_some_iff.1 hj).1 hj
          omega
        have b0 : Below w.heap.size w (w.drewN q) := below_drewN (Below.refl _ w) q
        have hz0 := b0.size
        have HALL := Lib.hid hall
        clear hall
        go_wp2_with fail
        go_must (refine (HS1.out _).mono ?_)
        rintro e w1 ⟨v1, rfl, hv1, b1⟩
        have b01 := b0.trans (b1.mono hz0)
        have hz1 := b01.size
        go_wp2_with fail
        go_must (refine (HS2.out _).mono ?_)
        rintro e w2 ⟨v2, rfl, hv2, b2⟩
        have b02 := b01.trans (b2.mono hz1)
        have hz2 := b02.size
        have HSA := Lib.hid (mSame_eq _ _ _ _ _ (hv1.below b2) hv2)
        rw [split_same] at HSA
        rw [decide_eq_true rfl] at HSA
        go_wp2_with fail
        go_must (refine HSA.out.mono ?_)
        rintro e w3 ⟨rfl, b3⟩
        have b03 := b02.trans (b3.mono hz2)
        have hz3 := b03.size
        have HJ1 := Lib.hid (nJoin_at _ xs w3 (HA.out.below b03) (by omega) HALL.out)
        have hjz := str_size (joinL xs)
        obtain ⟨z, hz5⟩ : ∃ z, str (joinL xs) = z := ⟨_, rfl⟩
        rw [hz5] at HJ1
        go_wp2_with fail
        go_must (refine HJ1.out.mono ?_)
        rintro e w4 ⟨rfl, b4⟩
        have b04 := b03.trans (b4.mono hz3)
        have hz4 := b04.size
        have HJ2 := Lib.hid (mJoin_at _ xs w4 (HA.out.below b04) (by omega) HALL.out)
        rw [hz5] at HJ2
        go_wp2_with fail
        go_must (refine HJ2.out.mono ?_)
        rintro e w5 ⟨rfl, b5⟩
        have b05 := b04.trans (b5.mono hz4)
        have hz6 := b05.size
        go_wp2_with fail
        go_must (refine (nknown_any _ (tabs_below hT h01 b05) (by omega)).mono ?_)
        rintro e w6 ⟨rfl, b6⟩
        go_wp2_with fail
        go_ret
        exact ⟨rfl, b05.trans (b6.mono (by omega))⟩
  · have d2 : decide ((xs.length : Int) > 30) = true := by simp; omega
    clear hao hac hxz
    go_enter Tryd.func6, Tryd.ntmps6
    go_wp2_with fail
    go_must (refine (nknown_any _ hT h01).mono ?_)
    rintro e w5 ⟨rfl, b5⟩
    go_wp2_with fail
    go_ret
    exact ⟨rfl, b5⟩

theorem u8x : U8Extra Tryd.prog Tryd.lays260_ren := ⟨by kernel_rfl, by kernel_rfl, by kernel_rfl, by kernel_rfl, by kernel_rfl, by kernel_rfl, by kernel_rfl⟩
theorem accept_eq : (Rows.laid_unicode_utf8_acceptRanges : DataW Unit) = Lib.acceptData := by kernel_rfl
theorem tabs_of {W : World} (hL : laidMetH Tryd.prog Rows.nameSplitsRow.laid W) : Lib.Utf8Tabs 0 1 W := by
  rw [MakeChecks.laidMetH_plain _ _ _ (by kernel_rfl)] at hL
  exact utf8Tabs_of_readsT (U8Types.of260 Tryd.lays260) u8x (Pinned.utf8First_eq ▸ Lib.laidMet.reads hL (.tail _ (.head _))) (accept_eq ▸ Lib.laidMet.reads hL (.head _))
theorem tabs_lt {W : World} (h : Lib.Utf8Tabs 0 1 W) : 1 < W.heap.size := by
  have := (h.2 0 (by decide)).1
  rcases Nat.lt_or_ge 1 W.heap.size with h1 | h1
  · exact h1
  · simp [World.cell?, Array.getElem?_eq_none h1] at this

theorem laidOut : laidOutB Tryd.prog = true := by kernel_rfl
theorem laid_met (os : Os) : laidMet Tryd.prog Rows.nameSplitsRow.laid ((laidWorld os).forCall (fun _ _ => 0) ⟨#[], #[.string ⟨#[]⟩, .slice none 0 0], []⟩).memory :=
  laidMet_of_run' 8 (by kernel_rfl) (by kernel_rfl)
theorem reads (os : Os) {H : Type} (enc : TypeId × Value → H) : ∃ places, DataW.whole enc Tryd.prog ((laidWorld os).forCall (fun _ _ => 0) ⟨#[], #[.string ⟨#[]⟩, .slice none 0 0], []⟩).memory Tryd.f6.params.toList Rows.nameSplitsSpec.vars false (#[.string ⟨#[]⟩, .slice none 0 0] : Array Value).toList 8 = some ([.lit (.string []), .nil], [], places) :=
  ⟨[], by kernel_rfl⟩

set_option maxRecDepth 100000 in
theorem contract (H : Type) (enc : TypeId × Value → H) (W : World) (base : Nat) (args : Array Value) (ds gs : List (DataW H)) (before : List MemPlace)
    (hval : ∀ (j : Nat) t v, Tryd.f6.params[j]? = some t → args[j]? = some v → Value.okWide Tryd.prog W .any base t v)
    (hW : DataW.Whole enc Tryd.prog Tryd.f6.params.toList Rows.nameSplitsSpec.vars false W args.toList ds gs before) (hT : Lib.Utf8Tabs 0 1 W) :
    Calls Tryd.prog 6 args W fun e W' => ∃ v, e = .returned v ∧ Rows.nameSplitsSpec.post enc Tryd.prog Tryd.f6 false true false false W args v W' := by
  have hW' := hW
  obtain ⟨p, q, hA0, hV, rfl, hfz, hnd⟩ := hW
  have hA : DataW.TrodAll enc Tryd.prog W 0 (fun _ => true) true Tryd.f6.params.toList args.toList ds p := hA0
  rw [Tryd.params6] at hA hval
  obtain ⟨v0, vs0, d0, ds0, p0, q0, hargs, rfl, rfl, h0, r0⟩ := trodAll_cons hA
  obtain ⟨v1, vs1, d1, ds1, p1, q1, rfl, rfl, rfl, h1, r1⟩ := trodAll_cons r0
  obtain ⟨rfl, rfl, rfl⟩ := trodAll_nil r1
  obtain rfl : args = #[v0, v1] := by cases args; simp_all
  have post : ∀ W', Below W.heap.size W W' → Rows.nameSplitsSpec.post enc Tryd.prog Tryd.f6 false true false false W #[v0, v1] (.bool true) W' := fun W' hg =>
    law_post laidOut (by rw [Tryd.params6]; decide +kernel) rfl Tryd.underlying4 rfl hW' rfl hg
  have done : ∀ (e : Ending) W', (e = .returned (.bool true) ∧ Below W.heap.size W W') → ∃ v, e = .returned v ∧ Rows.nameSplitsSpec.post enc Tryd.prog Tryd.f6 false true false false W #[v0, v1] v W' := fun e W' ⟨he, hg⟩ => ⟨_, he, post W' hg⟩
  clear post
  obtain ⟨s, rfl, rfl, rfl, hs⟩ := open_string Tryd.underlying9 (hval 0 9 v0 rfl rfl) h0
  obtain ⟨fuel, hf⟩ := h1
  obtain ⟨xs, hst, hxz⟩ := open_strs (okWide_slice Tryd.underlying30 (hval 1 30 v1 rfl rfl)) hf
  have hsl := okWide_slice Tryd.underlying30 (hval 1 30 v1 rfl rfl)
  by_cases hz : s.size ≤ 300
  · exact (walk s v1 xs W hst hxz hT (tabs_lt hT) hz).mono fun e W' h => done e W' h
  · exact (far s v1 W hsl hT (tabs_lt hT) (by omega)).mono fun e W' h => done e W' h


set_option maxRecDepth 100000 in
theorem lifted (os : Os) (started : os.Started) (H : Type) (enc : TypeId × Value → H) (F : Stop.Interp) :
    ReturnsInHanded {} Tryd.checked os 6 .any ((OpenSpec.ofChange Rows.nameSplitsSpec).preRow enc Tryd.prog Tryd.f6 Rows.nameSplitsRow.domain false Rows.nameSplitsRow.laid) (((OpenSpec.ofChange Rows.nameSplitsSpec).at F).post enc Tryd.prog Tryd.f6 false true false false) := by
  obtain ⟨places, hx⟩ := reads os enc
  refine returnsInHanded_of_row (C := Tryd.checked) (s := OpenSpec.ofChange Rows.nameSplitsSpec) own started (by kernel_rfl) Tryd.func6
    (witness_row_at (enc := enc) (C := Tryd.checked) false (laidWorld os) #[.string ⟨#[]⟩, .slice none 0 0] rfl (by kernel_rfl) (by kernel_rfl) (by kernel_rfl)
      (OpenSpec.preRow_of_cond 8 hx (by kernel_rfl) (fun k hk => by cases hk) (by kernel_rfl) (laid_met os))) ?_
  intro W base args ds gs before hval hW _ _ _ hL _ _
  exact contract H enc W base args ds gs before hval hW (tabs_of hL)

theorem said : Rows.NameSplitsSaid :=
  OpenClaim.holds_of_cond 6 Tryd.f6 rfl rfl rfl rfl rfl rfl rfl ⟨rfl, rfl, rfl, rfl, rfl⟩ rfl rfl rfl rfl rfl (by kernel_rfl) Tryd.func6 (by kernel_rfl)
    (of_decide_eq_true (by kernel_rfl)) (by unfold Func.isWrapper; first | (rw [if_pos (by decide +kernel)]; kernel_rfl) | (rw [if_neg (by decide +kernel)]; exact ⟨rfl, rfl⟩))
    (fun os started H enc _ F => by rw [OpenClaim.pre_eq_preRow]; exact lifted os started H enc F)

theorem plain (f : FuncId) (fn : Func) (hf : Tryd.pinned.checked.prog.funcNamed Rows.nameSplitsRow.func = some f) (hfn : Tryd.pinned.checked.prog.funcs[f]? = some fn) :
    false = Tryd.pinned.checked.prog.looks [] ∧ ∀ (j : Nat) t, fn.params[j]? = some t → Tryd.pinned.checked.prog.wantsStandIn t = false := by
  obtain rfl : f = 6 := Option.some.inj ((show Tryd.prog.funcNamed Rows.nameSplitsRow.func = some 6 by kernel_rfl).symm.trans hf) |>.symm
  obtain rfl : fn = Tryd.f6 := (Option.some.inj (Tryd.func6.symm.trans hfn)).symm
  refine ⟨by kernel_rfl, fun j t ht => ?_⟩
  have hall : Tryd.f6.params.all (fun t => Tryd.prog.wantsStandIn t == false) = true := by kernel_rfl
  have := Array.all_eq_true.1 hall j (Array.getElem?_eq_some_iff.1 ht).1
  rw [(Array.getElem?_eq_some_iff.1 ht).2] at this
  have h2 : Tryd.prog.wantsStandIn t = false := by simpa using this
  exact h2

theorem card : Rows.NameSplitsCardSaid :=
  Claim7.holds_tied_plain_at .later [] _ _ _ _ said (fun _ h => by cases h) (by kernel_rfl) (fun _ h => by cases h) nameSplits_row_tie rfl ⟨rfl, rfl⟩ (by kernel_rfl) rfl plain (by kernel_rfl)

end Go.Proofs.YteijcfmgaljjaaaDoor.nameSplits
