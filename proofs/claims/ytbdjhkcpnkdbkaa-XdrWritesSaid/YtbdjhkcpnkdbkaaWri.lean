/- PROVED HERE: for every list of things, the law XdrWrites returns true: each thing is written as the document says, or refused, one behind the other. CONDITIONS: none. -/
import Derived.Test.YtbdjhkcpnkdbkaaPt
import Derived.Test.YtbdjhkcpnkdbkaaTh
namespace Go.Proofs.Ytbdjhkcpnkdbkaa.xdrWrites
open Go.ChangeShapes Go.WideShapes Go.ChangeAt Go.RowKit

theorem own : ownKnob Try.prog.godebug = none := by kernel_rfl
theorem laidOut : laidOutB Try.prog = true := by kernel_rfl

set_option maxRecDepth 100000 in
set_option maxHeartbeats 2000000 in
theorem walk (ao : Option Addr) (b off len cap : Nat) (ts : List Th) (w : World) (hcap : len ≤ 9223372036854775807) (hao : 0 < len → ao = some ⟨b, off, none⟩ ∧ b < w.heap.size) (ht : Things b off len ts w) :
    Calls Try.prog 3 #[.slice ao len cap] w fun e w' => e = .returned (.bool true) ∧ Below w.heap.size w w' := by
  by_cases hs : small ts
  · have hl : len ≤ 40 := by rw [← ht.hlen]; exact hs.1
    have h0 : Wr 28 5 w.heap.size none [] (w.alloc (.cells #[.slice none 0 0] 28)) := wr_new
    have hb0 : Below w.heap.size w (w.alloc (.cells #[.slice none 0 0] 28)) := boxed0
    have HA := Lib.hid hao
    have HLarge := Lib.hid (xlarge_small ao b off len cap ts w hao ht hs)
    have HS := Lib.hid hs
    clear hao hs
    go_enter Try.func3, Try.ntmps3
    go_wp2_with (go_at_call 10; go_must (refine HLarge.out.mono ?_); rintro e w1 ⟨rfl, rfl⟩)
    go_loopw [4, 5, 6, 7] (fun want c _ _ wr => ∃ (i : Nat) (r : Option Nat) (xs : List UInt8), i ≤ len ∧ c = .int .i64 i ∧ want = .string (str xs) ∧ xs.length ≤ 216 * i ∧ Wr 28 5 w.heap.size r xs wr ∧ Below w.heap.size w wr) (fun _ c _ _ _ => len - (intOf c).toNat)
    case atStart => exact ⟨0, none, [], Nat.zero_le _, rfl, rfl, by simp, h0, hb0⟩
    case round =>
      obtain ⟨i, r, xs, hi, rfl, rfl, hxl, hwr, hbel⟩ := hrel
      by_cases hlt : i < len
      · obtain ⟨rfl, hb⟩ := HA.out (by omega)
        obtain ⟨t, hti⟩ := ht.get hlt
        have htr := ht.below hbel hb
        have c0 := htr.hkind i t hti
        have c1 := htr.hn i t hti
        have c2 := htr.his i t hti
        have c3 := htr.hs i t hti
        have hsz := HS.out.2 i t hti
        have hn := (ht.hbd i t hti).1
        obtain ⟨p, hp⟩ : ∃ p, p = thPut t.kind t.n t.is t.s := ⟨_, rfl⟩
        have hpl : p.2.length ≤ 216 := by rw [hp]; exact thPut_len _ _ _ _ hsz
        have hR := fun w => rPut_any t.kind t.n t.is t.s w hn hsz
        have hP := fun k r xs w hl h => xput_any k r xs t.kind t.n t.is t.s w hl h
        rw [← hp] at hR hP
        obtain ⟨kind, n, is, s⟩ := t
        obtain ⟨pe, ps⟩ := p
        have hxs : xs.length ≤ 10000 := by omega
        obtain ⟨w0, hw0⟩ : ∃ w0, w0 = w := ⟨_, rfl⟩
        obtain ⟨zs, hzs⟩ : ∃ zs, zs = xs ++ ps := ⟨_, rfl⟩
        obtain ⟨u, hu⟩ : ∃ u, u = str xs := ⟨_, rfl⟩
        obtain ⟨v, hv⟩ : ∃ v, v = str ps := ⟨_, rfl⟩
        have huv : str zs = u ++ v := by rw [hzs, hu, hv, str_append]
        have hul : u.size ≤ 10000 := by rw [hu, str_size]; omega
        have hvl : v.size ≤ 216 := by rw [hv, str_size]; exact hpl
        have hzl : zs.length = (u ++ v).size := by rw [← huv, str_size]
        have hzz : zs.length ≤ 216 * (i + 1) := by rw [hzs, List.length_append]; have := hpl; simp at this; omega
        rw [← hu]
        have hR2 : ∀ w, Calls Try.prog 12 #[.agg #[.int .i64 kind, .int .i64 n, .bool is, .string s]] w fun e w' => e = .returned (.tuple #[.string v, .int .i64 pe]) ∧ Below w.heap.size w w' := fun w => by rw [hv]; exact hR w
        have hP2 : ∀ r w, Wr 28 5 w0.heap.size r xs w → Calls Try.prog 13 #[.pointer (some ⟨w0.heap.size, 0, none⟩), .agg #[.int .i64 kind, .int .i64 n, .bool is, .string s]] w fun e w' => e = .returned (.int .i64 pe) ∧ Wrote 28 5 w0.heap.size r zs w w' := fun r w h => by rw [hzs]; exact hP _ r xs w (by omega) h
        have HR := Lib.hid hR2
        have HP := Lib.hid hP2
        have HU := Lib.hid huv
        have HZL := Lib.hid hzl
        rw [hw0] at HP
        clear hw0
        clear hti htr hp hR hP hR2 hP2 hzs hu hv huv hzl hxl
        have hbw : b < wr.heap.size := Nat.lt_of_lt_of_le hb hbel.size
        go_wp2_with fail
        go_must (refine (HR.out _).mono ?_)
        rintro e w1 ⟨rfl, hb1⟩
        have d0 := (hb1.cell (p := ⟨b, off + i * 4, none⟩) hbw).trans c0
        have d1 := (hb1.cell (p := ⟨b, off + i * 4 + 1, none⟩) hbw).trans c1
        have d2 := (hb1.cell (p := ⟨b, off + i * 4 + 2, none⟩) hbw).trans c2
        have d3 := (hb1.cell (p := ⟨b, off + i * 4 + 3, none⟩) hbw).trans c3
        have hwr1 := hwr.below hb1
        have hbel1 := hbel.trans (hb1.mono hbel.size)
        have hrl := hwr1.lt
        clear c0 c1 c2 c3 hwr
        go_wp2_with fail
        go_must (refine (HP.out _ _ hwr1).mono ?_)
        rintro e w2 ⟨rfl, r2, hwr2, hk2, hr2⟩
        have hbel2 := hbel1.trans (hk2.below (B := w.heap.size) (Nat.le_refl _) hbel1.size (fun j hj => Nat.le_of_lt (hrl.2 j hj).1))
        clear hwr1 hrl
        go_wp2_with fail
        go_must (refine (wText_any _ r2 _ _ hwr2).mono ?_)
        rintro e w3 ⟨rfl, rfl⟩
        rw [HU.out]
        go_wp2_with fail
        go_must (refine (wLen_any _ r2 _ _ hwr2).mono ?_)
        rintro e w3 ⟨rfl, rfl⟩
        rw [HZL.out]
        go_wp2_with fail
        go_roundw
        case rel => exact ⟨i + 1, r2, zs, by omega, by go_num, by rw [HU.out], hzz, hwr2, hbel2⟩
        case measure => simp [intOf]; omega
      · obtain rfl : i = len := by omega
        go_wp2_with (go_at_call 11; go_must (refine (xknown_any _).mono ?_); rintro e w1 ⟨rfl, hb1⟩)
        go_ret
        exact ⟨rfl, hbel.trans (hb1.mono hbel.size)⟩
  · have HLarge := Lib.hid (xlarge_not ao b off len cap ts w hcap hao ht hs)
    clear hao ht hs
    go_enter Try.func3, Try.ntmps3
    go_wp2_with (first | (go_at_call 10; go_must (refine HLarge.out.mono ?_); rintro e w1 ⟨rfl, rfl⟩) | (go_at_call 11; go_must (refine (xknown_any _).mono ?_); rintro e w1 ⟨rfl, hb⟩))
    go_ret
    exact ⟨rfl, hb⟩

set_option maxRecDepth 100000 in
theorem lifted (os : Os) (started : os.Started) (H : Type) (enc : TypeId × Value → H) :
    ReturnsInHanded {} Try.checked os 3 .any (Rows.xdrWritesSpec.pre6 enc Try.prog Try.f3 Rows.xdrWritesRow.domain false) (Rows.xdrWritesSpec.post enc Try.prog Try.f3 false true false false) := by
  refine returnsInHanded_of_change (C := Try.checked) own started (by kernel_rfl) Try.func3
    (ChangeSpec.witness6 (enc := enc) (C := Try.checked) false ⟨#[], #[.slice none 0 0], []⟩ 8 (by kernel_rfl) (by kernel_rfl) (by kernel_rfl) (by kernel_rfl)) ?_
  intro W base args ds gs before hval0 hW hcnd _
  have hval : ∀ (j : Nat) t v, Try.f3.params[j]? = some t → args[j]? = some v → Value.okWide Try.prog W .any base t v := hval0
  have hW' := hW
  obtain ⟨p, q, hA0, hV, rfl, hfz, hnd⟩ := hW
  have hA : DataW.TrodAll enc Try.prog W 0 (fun _ => true) true Try.f3.params.toList args.toList ds p := hA0
  rw [Try.params3] at hA hval
  obtain ⟨v0, vs0, d0, ds0, p0, q0, hargs, rfl, rfl, h0, r0⟩ := trodAll_cons hA
  obtain ⟨rfl, rfl, rfl⟩ := trodAll_nil r0
  obtain rfl : args = #[v0] := by cases args; simp_all
  have post : ∀ W', Below W.heap.size W W' → Rows.xdrWritesSpec.post enc Try.prog Try.f3 false true false false W #[v0] (.bool true) W' := fun W' hg =>
    law_post laidOut (by rw [Try.params3]; decide +kernel) rfl Try.underlying4 rfl hW' rfl hg
  have done : ∀ (e : Ending) W', (e = .returned (.bool true) ∧ Below W.heap.size W W') → ∃ v, e = .returned v ∧ Rows.xdrWritesSpec.post enc Try.prog Try.f3 false true false false W #[v0] v W' := fun e W' ⟨he, hg⟩ => ⟨_, he, post W' hg⟩
  clear post
  obtain ⟨fuel, hf⟩ := h0
  obtain ⟨ao, b, off, len, cap, ts, rfl, hcap, hao, ht⟩ := open_things (okWide_slice Try.underlying22 (hval 0 22 v0 rfl rfl)) hf
  exact (walk ao b off len cap ts W hcap hao ht).mono done


theorem over : Rows.xdrWritesRow.holds Try.pinned (OpenSpec.ofChange Rows.xdrWritesSpec) :=
  OpenClaim.holds_of_wide 3 Try.f3 rfl rfl rfl rfl rfl rfl rfl ⟨rfl, rfl, rfl, rfl, rfl⟩ rfl rfl rfl rfl rfl (by kernel_rfl) Try.func3 (by kernel_rfl)
    (of_decide_eq_true (by kernel_rfl)) (by unfold Func.isWrapper; first | (rw [if_pos (by decide +kernel)]; kernel_rfl) | (rw [if_neg (by decide +kernel)]; exact ⟨rfl, rfl⟩))
    (fun os started H enc _ => lifted os started H enc)

theorem proved : Rows.XdrWritesSaid := over

end Go.Proofs.Ytbdjhkcpnkdbkaa.xdrWrites
