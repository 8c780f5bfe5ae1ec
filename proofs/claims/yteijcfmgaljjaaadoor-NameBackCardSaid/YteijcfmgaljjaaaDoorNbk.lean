/- PROVED HERE: for every list of texts the law NameBack returns true: any names come back from their path. CONDITIONS: the two tables that the row lists read as laid. -/
import Derived.Test.YteijcfmgaljjaaaDoorNspl
import Derived.Test.YteijcfmgaljjaaaDoorNx
namespace Go.Proofs.YteijcfmgaljjaaaDoor.nameBack
open Go.ChangeShapes Go.WideShapes Go.ChangeAt Go.RowKit
open Go.ChangeMaps (open_string shut_string)

def good (x : ByteArray) : Prop := x.size ≠ 0 ∧ 47 ∉ x.data.toList ∧ x.size ≤ 24
theorem good_of {x : ByteArray} (h : checkL x.data.toList = 0) : good x := by
  have hl : x.data.toList.length = x.size := by simp
  unfold checkL at h
  split at h
  · cases h
  · rename_i hb
    split at h
    · cases h
    · refine ⟨fun h0 => hb (.inl ?_), fun hm => hb (.inr (.inr (.inl ?_))), by omega⟩
      · exact List.eq_nil_of_length_eq_zero (by omega)
      · unfold hasB
        exact List.contains_iff_mem.2 hm

theorem byte_of {s : ByteArray} {i : Nat} {c : UInt8} {l : List UInt8} (h : s.data.toList.drop i = c :: l) : ∃ hi : i < s.size, s[i]'hi = c ∧ s.data.toList.drop (i + 1) = l := by
  have hi : i < s.data.toList.length := by
    rcases Nat.lt_or_ge i s.data.toList.length with h1 | h1
    · exact h1
    · rw [List.drop_of_length_le h1] at h; cases h
  rw [List.drop_eq_getElem_cons hi] at h
  exact ⟨by simpa using hi, (List.cons.inj h).1, (List.cons.inj h).2⟩
theorem bytes_of {s : ByteArray} {i : Nat} : ∀ {y l : List UInt8}, s.data.toList.drop i = y ++ l → (∀ j, j < y.length → ∃ h : i + j < s.size, y[j]? = some (s[i + j]'h)) ∧ s.data.toList.drop (i + y.length) = l
  | [], l, h => ⟨fun j hj => absurd hj (Nat.not_lt_zero _), h⟩
  | c :: y, l, h => by
    obtain ⟨hi, hc, hd⟩ := byte_of h
    obtain ⟨h1, h2⟩ := bytes_of (i := i + 1) hd
    refine ⟨fun j hj => ?_, by rw [List.length_cons, show i + (y.length + 1) = i + 1 + y.length by omega]; exact h2⟩
    cases j with
    | zero => exact ⟨hi, by simp [← hc]⟩
    | succ j =>
      obtain ⟨a, b⟩ := h1 j (by simpa using hj)
      have e : i + (j + 1) = i + 1 + j := by omega
      exact ⟨by omega, by simpa only [e, List.getElem?_cons_succ] using b⟩

theorem spans_cat (s : ByteArray) : ∀ (ys : List ByteArray) (i b : Nat) (acc : List (Nat × Nat)), (∀ y ∈ ys, good y) → s.data.toList.drop i = catS ys → i ≤ s.size → b ≤ i →
    (spansB s (s.size - i) i b acc).map (fun x => s.extract x.1 x.2) = (if b < i then acc ++ [(b, i)] else acc).map (fun x => s.extract x.1 x.2) ++ ys
  | [], i, b, acc, _, hd, hi, _ => by
    have : ¬ i < s.size := by
      intro h
      have := congrArg List.length hd
      simp [catS] at this
      omega
    rw [spansB_end s _ i b acc this]
    simp
  | y :: ys, i, b, acc, hg, hd, hi, hb => by
    have hy := hg y (by simp)
    have e : catS (y :: ys) = 47 :: (y.data.toList ++ catS ys) := by simp [catS]
    rw [e] at hd
    obtain ⟨h0, hc, hd1⟩ := byte_of hd
    obtain ⟨hbs, hd2⟩ := bytes_of (i := i + 1) hd1
    have hyl : y.data.toList.length = y.size := by simp
    rw [hyl] at hbs hd2
    have hfit : i + 1 + y.size ≤ s.size := by
      have := hbs (y.size - 1) (by have := hy.1; omega)
      obtain ⟨h, _⟩ := this
      have := hy.1
      omega
    obtain ⟨g, hgq⟩ : ∃ g, s.size - i = g + y.size + 1 := ⟨s.size - i - y.size - 1, by omega⟩
    have e1 : spansB s (s.size - i) i b acc = spansB s (g + y.size) (i + 1) (i + 1) (if b < i then acc ++ [(b, i)] else acc) := by
      rw [hgq]
      simp only [spansB]
      rw [dif_pos h0, if_pos hc]
    have e2 : spansB s (g + y.size) (i + 1) (i + 1) (if b < i then acc ++ [(b, i)] else acc) = spansB s g (i + 1 + y.size) (i + 1) (if b < i then acc ++ [(b, i)] else acc) :=
      spansB_run s y.size g (i + 1) (i + 1) _ (fun j hj => by
        obtain ⟨h, hv⟩ := hbs j hj
        refine ⟨h, fun he => hy.2.1 ?_⟩
        rw [he] at hv
        exact List.mem_iff_getElem?.2 ⟨j, hv⟩)
    have ih := spans_cat s ys (i + 1 + y.size) (i + 1) (if b < i then acc ++ [(b, i)] else acc) (fun z hz => hg z (by simp [hz])) hd2 hfit (by omega)
    have hg2 : s.size - (i + 1 + y.size) = g := by omega
    rw [hg2] at ih
    have hext : s.extract (i + 1) (i + 1 + y.size) = y := by
      apply ByteArray.ext
      apply Array.toList_inj.1
      have e3 : (s.extract (i + 1) (i + 1 + y.size)).data.toList = (s.data.toList.drop (i + 1)).take y.size := by
        simp [ByteArray.data_extract]
      rw [e3, hd1, ← hyl, List.take_left]
    rw [e1, e2, ih, if_pos (by have := hy.1; omega), List.map_append]
    simp [hext]
theorem split_join (xs : List ByteArray) (h : ∀ x ∈ xs, good x) : splitB (str (joinL xs)) = xs := by
  by_cases h0 : xs = []
  · subst h0
    decide +kernel
  · have hj : joinL xs = catS xs := by unfold joinL; rw [if_neg h0]
    rw [hj]
    unfold splitB
    have := spans_cat (str (catS xs)) xs 0 0 [] h (by simp [str]) (Nat.zero_le _) (Nat.le_refl _)
    rw [Nat.sub_zero] at this
    rw [this]
    simp

set_option maxRecDepth 100000 in
set_option maxHeartbeats 1000000 in
theorem walk (va : Value) (xs : List ByteArray) (w : World) (ha : Strs va xs w) (hxz : ∀ x ∈ xs, x.size ≤ 9223372036854775807) (hT : Lib.Utf8Tabs 0 1 w) (h01 : 1 < w.heap.size) :
    Calls Tryd.prog 7 #[va] w fun e w' => e = .returned (.bool true) ∧ Below w.heap.size w w' := by
  have HA := Lib.hid ha
  obtain ⟨ao, ac, ab, ai, rfl, hal, hao, hac⟩ := ha
  by_cases hn : xs.length ≤ 30
  · have d2 : decide ((xs.length : Int) > 30) = false := by simp; omega
    have HX := Lib.hid (show ∀ i, i < xs.length → ∃ x, xs[i]? = some x ∧ x.size ≤ 9223372036854775807 ∧ ao = some ⟨ab, ai, none⟩ ∧ ∀ W, Below w.heap.size w W → W.cell? ⟨ab, ai + i, none⟩ = some (.string x) from fun i hi => ⟨xs[i]'hi, List.getElem?_eq_getElem _, hxz _ (List.getElem_mem _), (hao (by omega)).1, fun W hW => (hW.cell (p := ⟨ab, ai + i, none⟩) (hao (by omega)).2).trans (hac i _ (List.getElem?_eq_getElem _))⟩)
    clear hao hac hxz
    go_enter Tryd.func7, Tryd.ntmps7
    go_wp2_with fail
    go_loopw [3] (fun v wr => ∃ i : Nat, i ≤ xs.length ∧ v = .int .i64 i ∧ (∀ j x, j < i → xs[j]? = some x → good x) ∧ Below w.heap.size w wr) (fun v _ => xs.length - (intOf v).toNat)
    case atStart => exact ⟨0, Nat.zero_le _, rfl, fun j x h => absurd h (Nat.not_lt_zero _), Below.refl _ _⟩
    case round =>
      obtain ⟨i, hi, rfl, hsm, hbw⟩ := hrel
      have HSM := Lib.hid hsm
      have hszw := hbw.size
      clear hsm
      by_cases hlt : i < xs.length
      · obtain ⟨x, hx, hxm, rfl, hcell⟩ := HX.out i hlt
        have hcx := hcell wr hbw
        have hb0 : (0 : Int) ≤ (i : Int) := by omega
        have hb1 : (i : Int) < (xs.length : Int) := by omega
        have hdl : decide ((i : Int) < (xs.length : Int)) = true := by simpa using hlt
        have hw1 : IntKind.i64.wrap ((i : Int) + 1) = (i : Int) + 1 := by rw [IntKind.wrap_i64]; omega
        have HXX := Lib.hid hx
        have HC := Lib.hid (nCheck_all x wr hxm)
        obtain ⟨c, hc⟩ : ∃ c, c = checkL x.data.toList := ⟨_, rfl⟩
        rw [← hc] at HC
        have HCE := Lib.hid hc
        clear hx hcell hc
        by_cases hc0 : c = 0
        · subst hc0
          go_wp2_with fail
          go_must (refine HC.out.mono ?_)
          rintro e w1 ⟨rfl, b1⟩
          go_wp2_with fail
          go_roundw
          case rel =>
            refine ⟨i + 1, by omega, by go_num, ?_, hbw.trans (b1.mono hszw)⟩
            intro j y hj hy
            by_cases hji : j = i
            · subst hji
              rw [HXX.out] at hy
              cases hy
              exact good_of HCE.out.symm
            · exact HSM.out j y (by omega) hy
          case measure => simp [intOf]; omega
        · have hcn : (c != 0) = true := by rw [bne_iff_ne]; exact hc0
          go_wp2_with fail
          go_must (refine HC.out.mono ?_)
          rintro e w1 ⟨rfl, b1⟩
          have b01 := hbw.trans (b1.mono hszw)
          have hz1 := b01.size
          go_wp2_with fail
          go_must (refine (nknown_any _ (tabs_below hT h01 b01) (by omega)).mono ?_)
          rintro e w5 ⟨rfl, b5⟩
          go_wp2_with fail
          go_ret
          exact ⟨rfl, b01.trans (b5.mono hz1)⟩
      · obtain rfl : i = xs.length := by omega
        have hdl : decide ((xs.length : Int) < (xs.length : Int)) = false := by simp
        have hall : ∀ x ∈ xs, good x := fun x hx => by
          obtain ⟨j, hj⟩ := List.mem_iff_getElem?.1 hx
          exact HSM.out j x (List.getElem?_eq_some_iff.1 hj).1 hj
        have hsp := split_join xs hall
        have HJ1 := Lib.hid (nJoin_at _ xs wr (HA.out.below hbw) (by omega) (fun x hx => by have := (hall x hx).2.2; omega))
        have hjl : (str (joinL xs)).size ≤ 1073741824 := by
          rw [str_size]
          have h1 := catS_len xs 24 (fun x hx => (hall x hx).2.2)
          have h2 : (24 + 1) * xs.length ≤ 25 * 30 := Nat.mul_le_mul_left _ hn
          unfold joinL
          split
          · simp
          · omega
        have HS1 := Lib.hid (fun W => nSplit_any (str (joinL xs)) W hjl)
        rw [split_same, hsp] at HS1
        obtain ⟨z, hz5⟩ : ∃ z, str (joinL xs) = z := ⟨_, rfl⟩
        rw [hz5] at HJ1 HS1
        clear hall hsp hz5 hjl
        go_wp2_with fail
        go_must (refine HJ1.out.mono ?_)
        rintro e w1 ⟨rfl, b1⟩
        have b01 := hbw.trans (b1.mono hszw)
        have hz1 := b01.size
        go_wp2_with fail
        go_must (refine (HS1.out _).mono ?_)
        rintro e w2 ⟨v2, rfl, hv2, b2⟩
        have b02 := b01.trans (b2.mono hz1)
        have hz2 := b02.size
        have HSA := Lib.hid (mSame_eq _ _ _ _ _ hv2 (HA.out.below b02))
        rw [decide_eq_true rfl] at HSA
        go_wp2_with fail
        go_must (refine HSA.out.mono ?_)
        rintro e w3 ⟨rfl, b3⟩
        have b03 := b02.trans (b3.mono hz2)
        have hz3 := b03.size
        go_wp2_with fail
        go_must (refine (nknown_any _ (tabs_below hT h01 b03) (by omega)).mono ?_)
        rintro e w6 ⟨rfl, b6⟩
        go_wp2_with fail
        go_ret
        exact ⟨rfl, b03.trans (b6.mono hz3)⟩
  · have d2 : decide ((xs.length : Int) > 30) = true := by simp; omega
    clear hao hac hxz
    go_enter Tryd.func7, Tryd.ntmps7
    go_wp2_with fail
    go_must (refine (nknown_any _ hT h01).mono ?_)
    rintro e w5 ⟨rfl, b5⟩
    go_wp2_with fail
    go_ret
    exact ⟨rfl, b5⟩

theorem u8x : U8Extra Tryd.prog Tryd.lays260_ren := ⟨by kernel_rfl, by kernel_rfl, by kernel_rfl, by kernel_rfl, by kernel_rfl, by kernel_rfl, by kernel_rfl⟩
theorem accept_eq : (Rows.laid_unicode_utf8_acceptRanges : DataW Unit) = Lib.acceptData := by kernel_rfl
theorem tabs_of {W : World} (hL : laidMetH Tryd.prog Rows.nameBackRow.laid W) : Lib.Utf8Tabs 0 1 W := by
  rw [MakeChecks.laidMetH_plain _ _ _ (by kernel_rfl)] at hL
  exact utf8Tabs_of_readsT (U8Types.of260 Tryd.lays260) u8x (Pinned.utf8First_eq ▸ Lib.laidMet.reads hL (.tail _ (.head _))) (accept_eq ▸ Lib.laidMet.reads hL (.head _))
theorem tabs_lt {W : World} (h : Lib.Utf8Tabs 0 1 W) : 1 < W.heap.size := by
  have := (h.2 0 (by decide)).1
  rcases Nat.lt_or_ge 1 W.heap.size with h1 | h1
  · exact h1
  · simp [World.cell?, Array.getElem?_eq_none h1] at this

theorem laidOut : laidOutB Tryd.prog = true := by kernel_rfl
theorem laid_met (os : Os) : laidMet Tryd.prog Rows.nameBackRow.laid ((laidWorld os).forCall (fun _ _ => 0) ⟨#[], #[.slice none 0 0], []⟩).memory :=
  laidMet_of_run' 8 (by kernel_rfl) (by kernel_rfl)
theorem reads (os : Os) {H : Type} (enc : TypeId × Value → H) : ∃ places, DataW.whole enc Tryd.prog ((laidWorld os).forCall (fun _ _ => 0) ⟨#[], #[.slice none 0 0], []⟩).memory Tryd.f7.params.toList Rows.nameBackSpec.vars false (#[.slice none 0 0] : Array Value).toList 8 = some ([.nil], [], places) :=
  ⟨[], by kernel_rfl⟩

set_option maxRecDepth 100000 in
theorem contract (H : Type) (enc : TypeId × Value → H) (W : World) (base : Nat) (args : Array Value) (ds gs : List (DataW H)) (before : List MemPlace)
    (hval : ∀ (j : Nat) t v, Tryd.f7.params[j]? = some t → args[j]? = some v → Value.okWide Tryd.prog W .any base t v)
    (hW : DataW.Whole enc Tryd.prog Tryd.f7.params.toList Rows.nameBackSpec.vars false W args.toList ds gs before) (hT : Lib.Utf8Tabs 0 1 W) :
    Calls Tryd.prog 7 args W fun e W' => ∃ v, e = .returned v ∧ Rows.nameBackSpec.post enc Tryd.prog Tryd.f7 false true false false W args v W' := by
  have hW' := hW
  obtain ⟨p, q, hA0, hV, rfl, hfz, hnd⟩ := hW
  have hA : DataW.TrodAll enc Tryd.prog W 0 (fun _ => true) true Tryd.f7.params.toList args.toList ds p := hA0
  rw [Tryd.params7] at hA hval
  obtain ⟨v0, vs0, d0, ds0, p0, q0, hargs, rfl, rfl, h0, r0⟩ := trodAll_cons hA
  obtain ⟨rfl, rfl, rfl⟩ := trodAll_nil r0
  obtain rfl : args = #[v0] := by cases args; simp_all
  have post : ∀ W', Below W.heap.size W W' → Rows.nameBackSpec.post enc Tryd.prog Tryd.f7 false true false false W #[v0] (.bool true) W' := fun W' hg =>
    law_post laidOut (by rw [Tryd.params7]; decide +kernel) rfl Tryd.underlying4 rfl hW' rfl hg
  have done : ∀ (e : Ending) W', (e = .returned (.bool true) ∧ Below W.heap.size W W') → ∃ v, e = .returned v ∧ Rows.nameBackSpec.post enc Tryd.prog Tryd.f7 false true false false W #[v0] v W' := fun e W' ⟨he, hg⟩ => ⟨_, he, post W' hg⟩
  clear post
  obtain ⟨fuel, hf⟩ := h0
  obtain ⟨xs, hst, hxz⟩ := open_strs (okWide_slice Tryd.underlying30 (hval 0 30 v0 rfl rfl)) hf
  exact (walk v0 xs W hst hxz hT (tabs_lt hT)).mono fun e W' h => done e W' h


set_option maxRecDepth 100000 in
theorem lifted (os : Os) (started : os.Started) (H : Type) (enc : TypeId × Value → H) (F : Stop.Interp) :
    ReturnsInHanded {} Tryd.checked os 7 .any ((OpenSpec.ofChange Rows.nameBackSpec).preRow enc Tryd.prog Tryd.f7 Rows.nameBackRow.domain false Rows.nameBackRow.laid) (((OpenSpec.ofChange Rows.nameBackSpec).at F).post enc Tryd.prog Tryd.f7 false true false false) := by
  obtain ⟨places, hx⟩ := reads os enc
  refine returnsInHanded_of_row (C := Tryd.checked) (s := OpenSpec.ofChange Rows.nameBackSpec) own started (by kernel_rfl) Tryd.func7
    (witness_row_at (enc := enc) (C := Tryd.checked) false (laidWorld os) #[.slice none 0 0] rfl (by kernel_rfl) (by kernel_rfl) (by kernel_rfl)
      (OpenSpec.preRow_of_cond 8 hx (by kernel_rfl) (fun k hk => by cases hk) (by kernel_rfl) (laid_met os))) ?_
  intro W base args ds gs before hval hW _ _ _ hL _ _
  exact contract H enc W base args ds gs before hval hW (tabs_of hL)

theorem said : Rows.NameBackSaid :=
  OpenClaim.holds_of_cond 7 Tryd.f7 rfl rfl rfl rfl rfl rfl rfl ⟨rfl, rfl, rfl, rfl, rfl⟩ rfl rfl rfl rfl rfl (by kernel_rfl) Tryd.func7 (by kernel_rfl)
    (of_decide_eq_true (by kernel_rfl)) (by unfold Func.isWrapper; first | (rw [if_pos (by decide +kernel)]; kernel_rfl) | (rw [if_neg (by decide +kernel)]; exact ⟨rfl, rfl⟩))
    (fun os started H enc _ F => by rw [OpenClaim.pre_eq_preRow]; exact lifted os started H enc F)

theorem plain (f : FuncId) (fn : Func) (hf : Tryd.pinned.checked.prog.funcNamed Rows.nameBackRow.func = some f) (hfn : Tryd.pinned.checked.prog.funcs[f]? = some fn) :
    false = Tryd.pinned.checked.prog.looks [] ∧ ∀ (j : Nat) t, fn.params[j]? = some t → Tryd.pinned.checked.prog.wantsStandIn t = false := by
  obtain rfl : f = 7 := Option.some.inj ((show Tryd.prog.funcNamed Rows.nameBackRow.func = some 7 by kernel_rfl).symm.trans hf) |>.symm
  obtain rfl : fn = Tryd.f7 := (Option.some.inj (Tryd.func7.symm.trans hfn)).symm
  refine ⟨by kernel_rfl, fun j t ht => ?_⟩
  have hall : Tryd.f7.params.all (fun t => Tryd.prog.wantsStandIn t == false) = true := by kernel_rfl
  have := Array.all_eq_true.1 hall j (Array.getElem?_eq_some_iff.1 ht).1
  rw [(Array.getElem?_eq_some_iff.1 ht).2] at this
  have h2 : Tryd.prog.wantsStandIn t = false := by simpa using this
  exact h2

theorem card : Rows.NameBackCardSaid :=
  Claim7.holds_tied_plain_at .later [] _ _ _ _ said (fun _ h => by cases h) (by kernel_rfl) (fun _ h => by cases h) nameBack_row_tie rfl ⟨rfl, rfl⟩ (by kernel_rfl) rfl plain (by kernel_rfl)

end Go.Proofs.YteijcfmgaljjaaaDoor.nameBack
