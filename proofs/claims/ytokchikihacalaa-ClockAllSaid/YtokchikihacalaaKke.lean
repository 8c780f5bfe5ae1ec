/- The program's clock (keys are texts): all keys. -/
import Derived.Test.YtokchikihacalaaKvi
import Derived.Test.YtokchikihacalaaNs
import Derived.Test.YtokchikihacalaaGrp
namespace Go.Proofs.Ytokchikihacalaa
open Go.RowKit

theorem Try.infoStr : (Try.prog.info? 9).map (fun i => (i.zero, i.size, i.bytes)) = some (some (.string ⟨#[]⟩), 1, 16) := by kernel_rfl
/-- So many of the keys are told. -/
def told (ks : List ByteArray) (i : Nat) : List Value := (ks.take i).map Value.string ++ List.replicate (ks.length - i) (.string ⟨#[]⟩)
theorem told_zero (ks : List ByteArray) : told ks 0 = List.replicate ks.length (.string ⟨#[]⟩) := by simp [told]
theorem told_length (ks : List ByteArray) (i : Nat) (h : i ≤ ks.length) : (told ks i).length = ks.length := by simp [told]; omega
theorem told_all (ks : List ByteArray) : told ks ks.length = ks.map Value.string := by simp [told]
theorem told_succ (ks : List ByteArray) (i : Nat) (s : ByteArray) (h : ks[i]? = some s) : (told ks i).set i (.string s) = told ks (i + 1) := by
  have hi := (List.getElem?_eq_some_iff.1 h).1
  have hs : (List.take (i + 1) ks).map Value.string = (ks.take i).map Value.string ++ [.string s] := by rw [take_succ_at ks i s h, List.map_append]; rfl
  unfold told
  rw [hs, List.set_append_right _ _ (by simp; omega)]
  have e1 : i - ((ks.take i).map Value.string).length = 0 := by simp; omega
  have e2 : ks.length - i = (ks.length - (i + 1)) + 1 := by omega
  rw [e1, e2, List.replicate_succ, List.set_cons_zero, List.append_assoc]
  rfl
theorem told_at (ks : List ByteArray) (i : Nat) (h : i < ks.length) : (told ks i)[i]? = some (.string ⟨#[]⟩) := by
  unfold told
  have e : i - ((ks.take i).map Value.string).length = 0 := by simp; omega
  rw [List.getElem?_append_right (by simp; omega), e, List.getElem?_replicate, if_pos (by omega)]
set_option maxRecDepth 100000 in
theorem kKeys_none {B p pm sm : Nat} {bs : List Nat} {w : World} (h0 : CL0 B p pm sm bs [] w) : Calls Try.prog 22 #[.pointer (some ⟨p, 0, none⟩)] w fun e w' => e = .returned (.slice none 0 0) ∧ ∃ q, w' = w.drewN q := by
  have HL := Lib.hid (show Calls Try.prog 30 #[.pointer (some ⟨p, 0, none⟩)] w fun e w' => e = .returned (.int .i64 0) ∧ ∃ q, w' = w.drewN q from kLen_at h0)
  clear h0
  go_enter Try.func22, Try.ntmps22
  go_wp2_with (go_at_call 30; go_must (with_reducible refine HL.out.mono ?_); rintro e w1 ⟨rfl, q, rfl⟩)
  go_returns
  exact ⟨rfl, q, rfl⟩
set_option maxRecDepth 100000 in
set_option maxHeartbeats 2000000 in
theorem kKeys_some {B p pm sm : Nat} {bs : List Nat} {l : List (ByteArray × Bool)} {w : World} (hl0 : 0 < l.length) (h0 : CL0 B p pm sm bs l w) : Calls Try.prog 22 #[.pointer (some ⟨p, 0, none⟩)] w fun e w' => ∃ g n, e = .returned (.slice (some ⟨g, 0, none⟩) n n) ∧ n = (keys l).length ∧ St 9 g ((keys l).map Value.string).toArray w' ∧ Below w.heap.size w w' := by
  obtain ⟨iz, hiz, hz0, hz1, hz2⟩ := info_parts Try.infoStr
  have hf := h0.fits
  have HLen0 := Lib.hid (kLen_at h0)
  have HLen := Lib.hid (fun q => kLen_at (h0.same ((Frm.refl _ w).drewN q)))
  have hkl : (keys l).length = l.length := by simp [keys]
  have hbl := h0.len
  have d0 : ((l.length : Int) == 0) = false := by rw [beq_eq_false_iff_ne]; omega
  obtain ⟨n, hn⟩ : ∃ n, n = l.length := ⟨_, rfl⟩
  rw [← hn] at HLen HLen0 d0 hf hkl hbl hl0
  have hb : (iz.bytes : Int) * (n : Int) ≤ 281474976710656 := by rw [hz2]; omega
  have HA := Lib.hid (show ∀ W, Below w.heap.size w W → W.cell? ⟨p, 2, none⟩ = some (.pointer (some ⟨bs.getD 0 0, 0, none⟩)) from fun W hW => by
    have hc := h0.same (Frm.of_below hW)
    rw [← fstV_at (by omega)]
    exact hc.st.cell rfl)
  have HN := Lib.hid (show ∀ i, i < n → ∃ s, (keys l)[i]? = some s ∧ bs.getD i 0 < w.heap.size ∧ ∀ W, Below w.heap.size w W → W.cell? ⟨bs.getD i 0, 0, none⟩ = some (.string s) ∧ W.cell? ⟨bs.getD i 0, 2, none⟩ = some (.pointer (some ⟨bs.getD (nI n i) 0, 0, none⟩)) from fun i hi => by
    have hs : (keys l)[i]? = some ((keys l)[i]'(by omega)) := List.getElem?_eq_getElem (by omega)
    refine ⟨_, hs, h0.ring.lt _ (getD_mem (by omega)), fun W hW => ?_⟩
    have hc := h0.same (Frm.of_below hW)
    have := hc.ring.node i (bs.getD i 0) (.string ((keys l)[i]'(by omega))) (by rw [List.getD_eq_getElem?_getD, List.getElem?_eq_getElem (by omega)]; rfl) (by rw [List.getElem?_map, hs]; rfl)
    unfold nxt at this
    rw [hbl] at this
    exact ⟨St.cell this rfl, St.cell this rfl⟩)
  have HT := Lib.hid (told_succ (keys l))
  have HTA := Lib.hid (told_at (keys l))
  have HT0 := Lib.hid (told_zero (keys l))
  have HTN := Lib.hid (told_all (keys l))
  have HKL := Lib.hid hkl
  have HB0 := Lib.hid (Below.refl w.heap.size w)
  clear h0 hn hbl hkl
  go_enter Try.func22, Try.ntmps22
  go_wp2_with (first
    | (go_at_call 30; go_must (first | with_reducible refine HLen0.out.mono ?_ | with_reducible refine (HLen.out _).mono ?_); rintro e w1 ⟨rfl, q, rfl⟩)
    | ((with_reducible show wpList _ _ _ ({ dst := _, op := .makeSlice _ _ _, type := _, pos := _, after := _, guard := _ } :: _) _ _); refine wpList_mkS rfl 40 9 _ _ rfl iz (.string ⟨#[]⟩) Try.underlying40 hiz hz0 hz1 rfl n rfl rfl hb (by omega) ?_; intro w3 h3 r3 b3; have b4 : Below w.heap.size w w3 := (below_drewN HB0.out _).trans b3; have c2 := HA.out w3 b4; have B4 := Lib.hid b4; have H3 := Lib.hid (show St 9 w.heap.size (told (keys l) 0).toArray w3 from by rw [HT0.out, HKL.out]; exact h3.out); clear h3 r3 b3 b4))
  clear c2
  go_loopw [4, 18] (fun c d wr => ∃ i : Nat, i ≤ n ∧ d = .int .i64 i ∧ c = .pointer (some ⟨bs.getD (if i = n then 0 else i) 0, 0, none⟩) ∧ St 9 w.heap.size (told (keys l) i).toArray wr ∧ Below w.heap.size w wr) (fun _ d _ => n - (intOf d).toNat)
  case atStart => exact ⟨0, Nat.zero_le _, rfl, by rw [if_neg (by omega), List.getD_eq_getElem?_getD], H3.out, B4.out⟩
  case round =>
    obtain ⟨i, hi, rfl, rfl, hst, hb1⟩ := hrel
    by_cases hlt : i < n
    · obtain ⟨s, hs, hbl, hc⟩ := HN.out i hlt
      obtain ⟨k0, k2⟩ := hc wr hb1
      rw [if_neg (by omega)]
      have hta := HTA.out i (by rw [HKL.out]; exact hlt)
      have kg : wr.cell? ⟨w.heap.size, i, none⟩ = some (.string ⟨#[]⟩) := hst.cell (by rw [List.getElem?_toArray]; exact hta)
      have zg : wr.frozen? ⟨w.heap.size, i, none⟩ = false := hst.free i
      have i0 : (0 : Int) ≤ (i : Int) := by omega
      have i1 : (i : Int) < (n : Int) := by omega
      have hne : bs.getD i 0 ≠ w.heap.size := by omega
      obtain ⟨b, hb⟩ : ∃ b, b = bs.getD i 0 := ⟨_, rfl⟩
      obtain ⟨c, hcc⟩ : ∃ c, c = bs.getD (nI n i) 0 := ⟨_, rfl⟩
      rw [← hb] at k0 k2 hne hbl ⊢
      rw [← hcc] at k2
      have HX := Lib.hid (show St 9 w.heap.size (told (keys l) (i + 1)).toArray (wr.setCell ⟨w.heap.size, i, none⟩ (.string s)) ∧ Below w.heap.size w (wr.setCell ⟨w.heap.size, i, none⟩ (.string s)) from by
        have := St.set hst i (.string s)
        rw [List.setIfInBounds_toArray, HT.out i s hs] at this
        exact ⟨this, hb1.setCell (p := ⟨w.heap.size, i, none⟩) (Nat.le_refl _) _⟩)
      have HC := Lib.hid hcc
      clear hs hc hst hb1 hta hb hcc hbl
      go_wp2_with fail
      go_region
      go_wp2
      go_round
      case rel => exact ⟨i + 1, by omega, by go_num, by rw [HC.out]; rfl, HX.out.1, below_drewN HX.out.2 1⟩
      case measure => simp [intOf]; omega
    · obtain rfl : i = n := by omega
      have HX := Lib.hid hst
      have HB := Lib.hid hb1
      clear hst hb1
      go_wp2
      go_returns
      refine ⟨_, _, rfl, HKL.out.symm, ?_, HB.out⟩
      have := HX.out
      rw [← HKL.out, HTN.out] at this
      exact this
theorem kKeys_any (B p : Nat) (F : Nat → Prop) (l : List (ByteArray × Bool)) (w : World) (h : CL B p F l w) :
    Calls Try.prog 22 #[.pointer (some ⟨p, 0, none⟩)] w fun e w' => ∃ v, e = .returned v ∧ Strs v (keys l) w' ∧ Below w.heap.size w w' := by
  obtain ⟨pm, sm, bs, h0, _⟩ := h
  by_cases hl0 : l.length = 0
  · have e := List.length_eq_zero_iff.1 hl0
    subst e
    exact (kKeys_none h0).mono fun e w' ⟨he, q, hw⟩ => ⟨_, he, ⟨none, 0, 0, 0, rfl, by simp [keys], fun h => by simp [keys] at h, fun i x hx => by simp [keys] at hx⟩, by rw [hw]; exact below_drewN (Below.refl _ _) q⟩
  · refine (kKeys_some (by omega) h0).mono fun e w' ⟨g, n, he, hn, hst, hb⟩ => ⟨_, he, ⟨some ⟨g, 0, none⟩, n, g, 0, by rw [hn], ?_, fun _ => ⟨rfl, hst.lt⟩, fun i x hx => ?_⟩, hb⟩
    · have : (keys l).length = l.length := by simp [keys]
      have := h0.fits
      omega
    · rw [Nat.zero_add]
      exact hst.cell (by rw [List.getElem?_toArray, List.getElem?_map, hx]; rfl)
end Go.Proofs.Ytokchikihacalaa
