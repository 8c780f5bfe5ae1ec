/- PROVED HERE: for every text the law NameShows returns true: any text is shown as the document says, and comes back. CONDITIONS: the two tables that the row lists read as laid. -/
import Derived.Test.YteijcfmgaljjaaaDoorNw
import Derived.Test.YteijcfmgaljjaaaDoorLaw
import Derived.Test.YteijcfmgaljjaaaDoorLw
import Derived.Lib.LaidU8T
import Derived.PinnedBridge
namespace Go.Proofs.YteijcfmgaljjaaaDoor.nameShows
open Go.ChangeShapes Go.WideShapes Go.ChangeAt Go.RowKit
open Go.ChangeMaps (open_string shut_string)

theorem und_dig : ∀ k, k < 16 → und (dig k) = k := by decide +kernel
theorem byte_back (x : UInt8) : byteOf (und (dig (x.toNat / 16))) (und (dig (x.toNat % 16))) = x := by
  have hx := x.toNat_lt
  rw [und_dig _ (by omega), und_dig _ (by omega)]
  unfold byteOf
  apply UInt8.toNat_inj.1
  rw [UInt8.toNat_ofNat']
  omega
theorem unesc_hex (x : UInt8) (l : List UInt8) : unesc (hexOf x ++ l) = (unesc l).map (x :: ·) := by
  have hx := x.toNat_lt
  show unesc (37 :: dig (x.toNat / 16) :: dig (x.toNat % 16) :: l) = _
  rw [unesc_esc, if_pos ⟨by rw [und_dig _ (by omega)]; omega, by rw [und_dig _ (by omega)]; omega⟩, byte_back]
theorem unesc_escL : ∀ (l r : List UInt8), unesc (escL l ++ r) = (unesc r).map (l ++ ·)
  | [], r => by simp [escL]
  | x :: l, r => by
    have e : escL (x :: l) ++ r = hexOf x ++ (escL l ++ r) := by simp [escL]
    rw [e, unesc_hex, unesc_escL l r, Option.map_map]
    rfl
/-- A plain rune's bytes have no percent sign. -/
theorem plain_bytes (s : ByteArray) (pos : Nat) (h : pos < s.size) (hp : plainN (Utf8.decode s pos).1 = true) : 37 ∉ (s.data.toList.drop pos).take (Utf8.decode s pos).2 := by
  intro hm
  obtain ⟨j, hj⟩ := List.mem_iff_getElem?.1 hm
  rw [List.getElem?_take] at hj
  split at hj
  · rename_i hlt
    rw [List.getElem?_drop, Array.getElem?_toList] at hj
    obtain ⟨hps, hv⟩ := Array.getElem?_eq_some_iff.1 hj
    have hv : s[pos + j]'hps = 37 := hv
    rcases decode_takes s pos h with ⟨h1, h2⟩ | ⟨_, _, _, _, h2⟩
    · rw [h2] at hlt hp
      dsimp only at hlt hp
      obtain rfl : j = 0 := by omega
      have hv : s[pos]'h = 37 := hv
      rw [hv] at hp
      exact absurd hp (by decide)
    · have := h2 j hlt hps
      rw [hv] at this
      exact absurd this (by decide)
  · cases hj
theorem unesc_from (s : ByteArray) : ∀ (f pos : Nat), s.size ≤ pos + f → unesc (showFrom s f pos) = some (s.data.toList.drop pos)
  | 0, pos, h => by
    rw [List.drop_of_length_le (by simpa using h)]
    rfl
  | f + 1, pos, h => by
    by_cases hp : pos < s.size
    · have hs : showFrom s (f + 1) pos = stepB s pos ++ showFrom s f (pos + (Utf8.decode s pos).2) := by
        show (if pos < s.size then _ else _) = _
        rw [if_pos hp]
      have hin := decode_in s pos hp
      have ih := unesc_from s f (pos + (Utf8.decode s pos).2) (by omega)
      have hjoin : (s.data.toList.drop pos).take (Utf8.decode s pos).2 ++ s.data.toList.drop (pos + (Utf8.decode s pos).2) = s.data.toList.drop pos := by
        rw [← List.drop_drop]
        exact List.take_append_drop _ _
      rw [hs]
      cases hpl : plainN (Utf8.decode s pos).1 with
      | true =>
        have hb : Utf8.decode s pos ≠ (65533, 1) := fun e => by
          rw [e] at hpl
          rw [plain_bad] at hpl
          cases hpl
        have hst : stepB s pos = (s.data.toList.drop pos).take (Utf8.decode s pos).2 := by
          unfold stepB
          rw [if_pos hpl, encode_at s pos hp hb]
        rw [hst, unesc_app _ _ (plain_bytes s pos hp hpl), ih]
        simp only [Option.map_some]
        rw [hjoin]
      | false =>
        have hst : stepB s pos = escL ((s.data.toList.drop pos).take (Utf8.decode s pos).2) := by
          unfold stepB
          rw [if_neg (by rw [hpl]; simp)]
        rw [hst, unesc_escL, ih]
        simp only [Option.map_some]
        rw [hjoin]
    · rw [showFrom_end s (f + 1) pos hp, List.drop_of_length_le (by simp; omega)]
      rfl
theorem rd_show (s : ByteArray) : rdName (showB s) = (s, 0) := by
  by_cases h0 : s.size = 0
  · have hse : s = ⟨#[]⟩ := by
      apply ByteArray.ext
      exact Array.eq_empty_of_size_eq_zero h0
    subst hse
    rfl
  · have hsb : showB s = showFrom s s.size 0 := by unfold showB; rw [if_neg h0]
    have hu : unesc (showB s) = some s.data.toList := by
      rw [hsb, unesc_from s s.size 0 (by omega)]
      rfl
    have hne : showB s ≠ [37] := by
      intro e
      rw [e] at hu
      rw [show unesc [37] = none from unesc_short (by simp)] at hu
      cases hu
    unfold rdName
    rw [if_neg hne, hu]
    dsimp only
    rw [str_data, if_pos rfl]
theorem showFrom_len (s : ByteArray) : ∀ (f pos : Nat), (showFrom s f pos).length ≤ 12 * f
  | 0, _ => by simp [showFrom]
  | f + 1, pos => by
    by_cases hp : pos < s.size
    · have hs : showFrom s (f + 1) pos = stepB s pos ++ showFrom s f (pos + (Utf8.decode s pos).2) := by
        show (if pos < s.size then _ else _) = _
        rw [if_pos hp]
      have ih := showFrom_len s f (pos + (Utf8.decode s pos).2)
      have hin := decode_in s pos hp
      have hst : (stepB s pos).length ≤ 12 := by
        unfold stepB
        split
        · have := Lib.runeCells_le ((Utf8.decode s pos).1 : Int)
          rw [Lib.runeCells_length] at this
          omega
        · rw [escL_len, List.length_take]; omega
      rw [hs, List.length_append]
      omega
    · rw [showFrom_end s (f + 1) pos hp]; simp
theorem showB_len (s : ByteArray) : (showB s).length ≤ 12 * s.size + 1 := by
  unfold showB
  split
  · simp
  · have := showFrom_len s s.size 0
    omega

set_option maxRecDepth 100000 in
theorem walk (s : ByteArray) (w : World) (hT : Lib.Utf8Tabs 0 1 w) (h01 : 1 < w.heap.size) :
    Calls Tryd.prog 4 #[.string s] w fun e w' => e = .returned (.bool true) ∧ Below w.heap.size w w' := by
  by_cases hz : s.size ≤ 200
  · have d1 : decide ((s.size : Int) > 200) = false := by simp; omega
    have HS := Lib.hid (nShow_eq s w (by omega) hT h01)
    have HM := Lib.hid (fun W => mShow_eq s W (by omega))
    have hl := showB_len s
    have hzl : (str (showB s)).data.toList = showB s := str_list _
    have hzs : (str (showB s)).size = (showB s).length := str_size _
    have hrd := rd_show s
    rw [← hzl] at hrd
    have hsw : (⟨(showB s).toArray⟩ : ByteArray) = str (showB s) := rfl
    rw [hsw] at HS
    obtain ⟨t, ht⟩ : ∃ t, t = str (showB s) := ⟨_, rfl⟩
    rw [← ht] at HS HM hzs hrd
    have hts : t.size ≤ 1073741824 := by omega
    have HRD := Lib.hid hrd
    clear hzl ht hzs hl hsw hrd
    go_enter Tryd.func4, Tryd.ntmps4
    go_wp2_with fail
    go_must (refine HS.out.mono ?_)
    rintro e w1 ⟨rfl, b1⟩
    have hz1 := b1.size
    have HR := Lib.hid (nRead_at t w1 hts (tabs_below hT h01 b1) (by omega))
    rw [HRD.out] at HR
    go_wp2_with fail
    go_must (refine HR.out.mono ?_)
    rintro e w2 ⟨⟨rfl, _⟩, b2⟩
    have hz2 := b2.size
    go_wp2_with fail
    go_must (refine (HM.out _).mono ?_)
    rintro e w3 ⟨rfl, b3⟩
    have hz3 := b3.size
    have b13 := (b1.trans (b2.mono (by omega))).trans (b3.mono (by omega))
    go_wp2_with fail
    go_must (refine (nknown_any _ (tabs_below hT h01 b13) (by omega)).mono ?_)
    rintro e w5 ⟨rfl, b5⟩
    go_wp2_with fail
    go_ret
    exact ⟨rfl, b13.trans (b5.mono (by omega))⟩
  · have d1 : decide ((s.size : Int) > 200) = true := by simp; omega
    go_enter Tryd.func4, Tryd.ntmps4
    go_wp2_with fail
    go_must (refine (nknown_any _ hT h01).mono ?_)
    rintro e w5 ⟨rfl, b5⟩
    go_wp2_with fail
    go_ret
    exact ⟨rfl, b5⟩

theorem u8x : U8Extra Tryd.prog Tryd.lays260_ren := ⟨by kernel_rfl, by kernel_rfl, by kernel_rfl, by kernel_rfl, by kernel_rfl, by kernel_rfl, by kernel_rfl⟩
theorem accept_eq : (Rows.laid_unicode_utf8_acceptRanges : DataW Unit) = Lib.acceptData := by kernel_rfl
theorem tabs_of {W : World} (hL : laidMetH Tryd.prog Rows.nameShowsRow.laid W) : Lib.Utf8Tabs 0 1 W := by
  rw [MakeChecks.laidMetH_plain _ _ _ (by kernel_rfl)] at hL
  exact utf8Tabs_of_readsT (U8Types.of260 Tryd.lays260) u8x (Pinned.utf8First_eq ▸ Lib.laidMet.reads hL (.tail _ (.head _))) (accept_eq ▸ Lib.laidMet.reads hL (.head _))
theorem tabs_lt {W : World} (h : Lib.Utf8Tabs 0 1 W) : 1 < W.heap.size := by
  have := (h.2 0 (by decide)).1
  rcases Nat.lt_or_ge 1 W.heap.size with h1 | h1
  · exact h1
  · simp [World.cell?, Array.getElem?_eq_none h1] at this

theorem laidOut : laidOutB Tryd.prog = true := by kernel_rfl
theorem laid_met (os : Os) : laidMet Tryd.prog Rows.nameShowsRow.laid ((laidWorld os).forCall (fun _ _ => 0) ⟨#[], #[.string ⟨#[]⟩], []⟩).memory :=
  laidMet_of_run' 8 (by kernel_rfl) (by kernel_rfl)
theorem reads (os : Os) {H : Type} (enc : TypeId × Value → H) : ∃ places, DataW.whole enc Tryd.prog ((laidWorld os).forCall (fun _ _ => 0) ⟨#[], #[.string ⟨#[]⟩], []⟩).memory Tryd.f4.params.toList Rows.nameShowsSpec.vars false (#[.string ⟨#[]⟩] : Array Value).toList 8 = some ([.lit (.string [])], [], places) :=
  ⟨[], by kernel_rfl⟩

set_option maxRecDepth 100000 in
theorem contract (H : Type) (enc : TypeId × Value → H) (W : World) (base : Nat) (args : Array Value) (ds gs : List (DataW H)) (before : List MemPlace)
    (hval : ∀ (j : Nat) t v, Tryd.f4.params[j]? = some t → args[j]? = some v → Value.okWide Tryd.prog W .any base t v)
    (hW : DataW.Whole enc Tryd.prog Tryd.f4.params.toList Rows.nameShowsSpec.vars false W args.toList ds gs before) (hT : Lib.Utf8Tabs 0 1 W) :
    Calls Tryd.prog 4 args W fun e W' => ∃ v, e = .returned v ∧ Rows.nameShowsSpec.post enc Tryd.prog Tryd.f4 false true false false W args v W' := by
  have hW' := hW
  obtain ⟨p, q, hA0, hV, rfl, hfz, hnd⟩ := hW
  have hA : DataW.TrodAll enc Tryd.prog W 0 (fun _ => true) true Tryd.f4.params.toList args.toList ds p := hA0
  rw [Tryd.params4] at hA hval
  obtain ⟨v0, vs0, d0, ds0, p0, q0, hargs, rfl, rfl, h0, r0⟩ := trodAll_cons hA
  obtain ⟨rfl, rfl, rfl⟩ := trodAll_nil r0
  obtain rfl : args = #[v0] := by cases args; simp_all
  have post : ∀ W', Below W.heap.size W W' → Rows.nameShowsSpec.post enc Tryd.prog Tryd.f4 false true false false W #[v0] (.bool true) W' := fun W' hg =>
    law_post laidOut (by rw [Tryd.params4]; decide +kernel) rfl Tryd.underlying4 rfl hW' rfl hg
  have done : ∀ (e : Ending) W', (e = .returned (.bool true) ∧ Below W.heap.size W W') → ∃ v, e = .returned v ∧ Rows.nameShowsSpec.post enc Tryd.prog Tryd.f4 false true false false W #[v0] v W' := fun e W' ⟨he, hg⟩ => ⟨_, he, post W' hg⟩
  clear post
  obtain ⟨s, rfl, rfl, rfl, hs⟩ := open_string Tryd.underlying9 (hval 0 9 v0 rfl rfl) h0
  exact (walk s W hT (tabs_lt hT)).mono fun e W' h => done e W' h


set_option maxRecDepth 100000 in
theorem lifted (os : Os) (started : os.Started) (H : Type) (enc : TypeId × Value → H) (F : Stop.Interp) :
    ReturnsInHanded {} Tryd.checked os 4 .any ((OpenSpec.ofChange Rows.nameShowsSpec).preRow enc Tryd.prog Tryd.f4 Rows.nameShowsRow.domain false Rows.nameShowsRow.laid) (((OpenSpec.ofChange Rows.nameShowsSpec).at F).post enc Tryd.prog Tryd.f4 false true false false) := by
  obtain ⟨places, hx⟩ := reads os enc
  refine returnsInHanded_of_row (C := Tryd.checked) (s := OpenSpec.ofChange Rows.nameShowsSpec) own started (by kernel_rfl) Tryd.func4
    (witness_row_at (enc := enc) (C := Tryd.checked) false (laidWorld os) #[.string ⟨#[]⟩] rfl (by kernel_rfl) (by kernel_rfl) (by kernel_rfl)
      (OpenSpec.preRow_of_cond 8 hx (by kernel_rfl) (fun k hk => by cases hk) (by kernel_rfl) (laid_met os))) ?_
  intro W base args ds gs before hval hW _ _ _ hL _ _
  exact contract H enc W base args ds gs before hval hW (tabs_of hL)

theorem said : Rows.NameShowsSaid :=
  OpenClaim.holds_of_cond 4 Tryd.f4 rfl rfl rfl rfl rfl rfl rfl ⟨rfl, rfl, rfl, rfl, rfl⟩ rfl rfl rfl rfl rfl (by kernel_rfl) Tryd.func4 (by kernel_rfl)
    (of_decide_eq_true (by kernel_rfl)) (by unfold Func.isWrapper; first | (rw [if_pos (by decide +kernel)]; kernel_rfl) | (rw [if_neg (by decide +kernel)]; exact ⟨rfl, rfl⟩))
    (fun os started H enc _ F => by rw [OpenClaim.pre_eq_preRow]; exact lifted os started H enc F)

theorem plain (f : FuncId) (fn : Func) (hf : Tryd.pinned.checked.prog.funcNamed Rows.nameShowsRow.func = some f) (hfn : Tryd.pinned.checked.prog.funcs[f]? = some fn) :
    false = Tryd.pinned.checked.prog.looks [] ∧ ∀ (j : Nat) t, fn.params[j]? = some t → Tryd.pinned.checked.prog.wantsStandIn t = false := by
  obtain rfl : f = 4 := Option.some.inj ((show Tryd.prog.funcNamed Rows.nameShowsRow.func = some 4 by kernel_rfl).symm.trans hf) |>.symm
  obtain rfl : fn = Tryd.f4 := (Option.some.inj (Tryd.func4.symm.trans hfn)).symm
  refine ⟨by kernel_rfl, fun j t ht => ?_⟩
  have hall : Tryd.f4.params.all (fun t => Tryd.prog.wantsStandIn t == false) = true := by kernel_rfl
  have := Array.all_eq_true.1 hall j (Array.getElem?_eq_some_iff.1 ht).1
  rw [(Array.getElem?_eq_some_iff.1 ht).2] at this
  have h2 : Tryd.prog.wantsStandIn t = false := by simpa using this
  exact h2

theorem card : Rows.NameShowsCardSaid :=
  Claim7.holds_tied_plain_at .later [] _ _ _ _ said (fun _ h => by cases h) (by kernel_rfl) (fun _ h => by cases h) nameShows_row_tie rfl ⟨rfl, rfl⟩ (by kernel_rfl) rfl plain (by kernel_rfl)

end Go.Proofs.YteijcfmgaljjaaaDoor.nameShows
