/- Fixed, Opaque and Opt of a reader, whole; the law's take over a reader. -/
import Derived.Test.YtdjnadgcjmlejaaDoorRy
namespace Go.Proofs.YtdjnadgcjmlejaaDoor
open Go.RowKit

theorem rFixed_any (k : Nat) (n : Int) (s : ByteArray) (e : Int) (w : World) (hsz : s.size ≤ 1073741824) (h : Rd k s e w) :
    Calls Tryd.prog 74 #[.pointer (some ⟨k, 0, none⟩), .int .i64 n] w fun r w' => Took k (rdFixed n s e).1 (rdFixed n s e).2.1 (.string (rdFixed n s e).2.2) w r w' := by
  by_cases h1 : n < 0
  · have ed : rdFixed n s e = ((rdFail 2 s e).1, (rdFail 2 s e).2, ⟨#[]⟩) := by unfold rdFixed; rw [if_pos h1]
    rw [ed]
    exact rFixed_low k n s e w h1 h
  · by_cases h2 : (s.size : Int) < n
    · have ed : rdFixed n s e = ((rdFail 10 s e).1, (rdFail 10 s e).2, ⟨#[]⟩) := by unfold rdFixed; rw [if_neg h1, if_pos h2]
      rw [ed]
      exact rFixed_high k n s e w (by omega) h2 h
    · obtain ⟨m, rfl⟩ : ∃ m : Nat, n = m := ⟨n.toNat, by omega⟩
      by_cases he : e = 0
      · subst he
        by_cases h3 : s.size < m + padN m
        · have ed : rdFixed m s 0 = (⟨#[]⟩, 10, ⟨#[]⟩) := by unfold rdFixed; rw [if_neg h1, if_neg h2, if_neg (by simp), if_pos (by simpa using h3)]
          rw [ed]
          exact rFixed_short k m _ s w hsz (by omega) rfl h3 h
        · by_cases h4 : allZero (s.extract m (m + padN m)).data.toList = false
          · have ed : rdFixed m s 0 = (⟨#[]⟩, 11, ⟨#[]⟩) := by unfold rdFixed; rw [if_neg h1, if_neg h2, if_neg (by simp), if_neg (by simpa using h3), if_pos (by rw [Int.toNat_natCast]; exact h4)]
            rw [ed]
            exact rFixed_not k m _ s w hsz (by omega) rfl (by omega) h4 h
          · have ed : rdFixed m s 0 = (s.extract (m + padN m) s.size, 0, s.extract 0 m) := by unfold rdFixed; rw [if_neg h1, if_neg h2, if_neg (by simp), if_neg (by simpa using h3), if_neg (by rw [Int.toNat_natCast]; exact h4), Int.toNat_natCast]
            rw [ed]
            exact rFixed_ok k m _ s w hsz (by omega) rfl (by omega) (by simpa using h4) h
      · have ed : rdFixed m s e = (s, e, ⟨#[]⟩) := by unfold rdFixed; rw [if_neg h1, if_neg h2, if_pos he]
        rw [ed]
        exact rFixed_err k m _ s e w hsz (by omega) rfl he h

theorem rdU32_le (s : ByteArray) (e : Int) : (rdU32 s e).1.size ≤ s.size := by
  unfold rdU32; split
  · exact Nat.le_refl _
  · split
    · exact Nat.zero_le _
    · simp only [ByteArray.size_extract]; omega
theorem rdBool_le (s : ByteArray) (e : Int) : (rdBool s e).1.size ≤ s.size := by
  unfold rdBool; split
  · exact Nat.le_refl _
  · split
    · exact Nat.zero_le _
    · split
      · exact Nat.zero_le _
      · simp only [ByteArray.size_extract]; omega

def rdOpaque (most : Int) (s : ByteArray) (e : Int) : ByteArray × Int × ByteArray :=
  if most < (rdU32 s e).2.2 then ((rdFail 4 (rdU32 s e).1 (rdU32 s e).2.1).1, (rdFail 4 (rdU32 s e).1 (rdU32 s e).2.1).2, ⟨#[]⟩)
  else rdFixed (rdU32 s e).2.2 (rdU32 s e).1 (rdU32 s e).2.1

theorem Took.keep_trans {k : Nat} {w w1 w2 : World} (h : Keep k none w w1) (g : Keep k none w1 w2) : Keep k none w w2 := h.trans g (.inl rfl)

set_option maxRecDepth 100000 in
theorem rOpaque_any (k : Nat) (most : Int) (s : ByteArray) (e : Int) (w : World) (hsz : s.size ≤ 1073741824) (h : Rd k s e w) :
    Calls Tryd.prog 52 #[.pointer (some ⟨k, 0, none⟩), .int .i64 most] w fun r w' => Took k (rdOpaque most s e).1 (rdOpaque most s e).2.1 (.string (rdOpaque most s e).2.2) w r w' := by
  have hu := rU32_at k s e w h
  have hle := rdU32_le s e
  obtain ⟨a, ha⟩ : ∃ a, a = rdU32 s e := ⟨_, rfl⟩
  have hz : a.1.size ≤ 1073741824 := by rw [ha]; omega
  by_cases hm : most < a.2.2
  · have ed : rdOpaque most s e = ((rdFail 4 a.1 a.2.1).1, (rdFail 4 a.1 a.2.1).2, ⟨#[]⟩) := by unfold rdOpaque; rw [← ha, if_pos hm]
    rw [ed]
    rw [← ha] at hu
    obtain ⟨s2, e2, n2⟩ := a
    dsimp only at hu hm hz ⊢
    have hd : decide (n2 > most) = true := by simpa using hm
    have HU := Lib.hid hu
    clear hu ed ha hle
    go_enter Tryd.func52, Tryd.ntmps52
    go_wp2_with (first | (go_at_call 54; go_must (refine HU.out.mono ?_); rintro e w1 ⟨rfl, hr, hk⟩) | (go_at_call 73; go_must (refine (rfail_any k s2 e2 4 _ hr).mono ?_); rintro e3 w2 ⟨rfl, hr2, hk2⟩))
    go_ret
    exact ⟨rfl, hr2, hk.trans hk2 (.inl rfl)⟩
  · have ed : rdOpaque most s e = rdFixed a.2.2 a.1 a.2.1 := by unfold rdOpaque; rw [← ha, if_neg hm]
    rw [ed]
    rw [← ha] at hu
    obtain ⟨s2, e2, n2⟩ := a
    dsimp only at hu hm hz ⊢
    have hd : decide (n2 > most) = false := by simpa using hm
    have HU := Lib.hid hu
    clear hu ed ha hle
    go_enter Tryd.func52, Tryd.ntmps52
    go_wp2_with (first | (go_at_call 54; go_must (refine HU.out.mono ?_); rintro e w1 ⟨rfl, hr, hk⟩) | (go_at_call 74; go_must (refine (rFixed_any k n2 s2 e2 _ hz hr).mono ?_); rintro e3 w2 ⟨rfl, hr2, hk2⟩))
    go_ret
    exact ⟨rfl, hr2, hk.trans hk2 (.inl rfl)⟩

def rdOpt (s : ByteArray) (e : Int) : ByteArray × Int × Bool × Int :=
  if (rdBool s e).2.2 = false then ((rdBool s e).1, (rdBool s e).2.1, false, 0)
  else if (rdU64 (rdBool s e).1 (rdBool s e).2.1).2.1 ≠ 0 then ((rdU64 (rdBool s e).1 (rdBool s e).2.1).1, (rdU64 (rdBool s e).1 (rdBool s e).2.1).2.1, false, 0)
  else ((rdU64 (rdBool s e).1 (rdBool s e).2.1).1, 0, true, (rdU64 (rdBool s e).1 (rdBool s e).2.1).2.2)

set_option maxRecDepth 100000 in
theorem rOpt_any (k : Nat) (s : ByteArray) (e : Int) (w : World) (h : Rd k s e w) :
    Calls Tryd.prog 58 #[.pointer (some ⟨k, 0, none⟩)] w fun r w' => Took k (rdOpt s e).1 (rdOpt s e).2.1 (.agg #[.bool (rdOpt s e).2.2.1, .int .i64 (rdOpt s e).2.2.2]) w r w' := by
  have hkb : k ≠ w.heap.size := Nat.ne_of_lt (St.lt h)
  have hR : Rd k s e (w.alloc (.cells #[.bool false, .int .i64 0] 26 (0, 0))) := St.alloc h _
  have hB := St.new w 26 #[.bool false, .int .i64 0]
  have hu := rBool_at k s e _ hR
  obtain ⟨a, ha⟩ : ∃ a, a = rdBool s e := ⟨_, rfl⟩
  by_cases hb : a.2.2 = false
  · have ed : rdOpt s e = (a.1, a.2.1, false, 0) := by unfold rdOpt; rw [← ha, if_pos hb]
    rw [ed]
    rw [← ha] at hu
    obtain ⟨s1, e1, b1⟩ := a
    dsimp only at hu hb ⊢
    subst hb
    have HU := Lib.hid hu
    clear hu ed ha
    go_enter Tryd.func58, Tryd.ntmps58
    go_wp2_with (go_at_call 79; go_must (refine HU.out.mono ?_); rintro e w1 ⟨rfl, hr, hk⟩; have hst := St.keep hB hk (Ne.symm hkb) (by simp); have c0 := hst.cell (j := 0) rfl; have c1 := hst.cell (j := 1) rfl; have f0 := hst.free 0; have f1 := hst.free 1)
    refine ret_cell (r := 2) (k := w.heap.size) (T := 26) Tryd.results58 (by rfl) ((hst.set 0 _).set 1 _) Tryd.underlying26 rfl (by kernel_rfl) rfl ⟨rfl, (St.other (St.other hr _ _ _ (Ne.symm hkb)) _ _ _ (Ne.symm hkb)), ?_⟩
    exact keep_new (keep_new (keep_boxed1 hk) (Nat.le_refl _) _ _) (Nat.le_refl _) _ _
  · obtain ⟨u, hu2⟩ : ∃ u, u = rdU64 a.1 a.2.1 := ⟨_, rfl⟩
    have hb' : a.2.2 = true := by simpa using hb
    have hv : ∀ w1, Rd k a.1 a.2.1 w1 → Calls Tryd.prog 56 #[.pointer (some ⟨k, 0, none⟩)] w1 fun r w' => Took k u.1 u.2.1 (.int .i64 u.2.2) w1 r w' := fun w1 h1 => by rw [hu2]; exact rU64_at k a.1 a.2.1 w1 h1
    by_cases he : u.2.1 = 0
    · have ed : rdOpt s e = (u.1, 0, true, u.2.2) := by unfold rdOpt; rw [← ha, if_neg hb, ← hu2, if_neg (by simpa using he)]
      rw [ed]
      rw [← ha] at hu
      clear ed hu2 ha hb
      obtain ⟨s1, e1, b1⟩ := a
      obtain ⟨s2, e2, n2⟩ := u
      dsimp only at hu hb' he hv ⊢
      subst hb' he
      have HU := Lib.hid hu
      have HV := Lib.hid hv
      clear hu hv
      go_enter Tryd.func58, Tryd.ntmps58
      go_wp2_with (first | (go_at_call 79; go_must (refine HU.out.mono ?_); rintro e w1 ⟨rfl, hr, hk⟩) | (go_at_call 56; go_must (refine (HV.out _ hr).mono ?_); rintro e w2 ⟨rfl, hr2, hk2⟩) | (go_at_call 80; go_must (refine (rErr_at k s2 0 _ hr2).mono ?_); rintro e w3 ⟨rfl, rfl⟩; have hst := St.keep (St.keep hB hk (Ne.symm hkb) (by simp)) hk2 (Ne.symm hkb) (by simp); have c0 := hst.cell (j := 0) rfl; have c1 := hst.cell (j := 1) rfl; have f0 := hst.free 0; have f1 := hst.free 1))
      refine ret_cell (r := 2) (k := w.heap.size) (T := 26) Tryd.results58 (by rfl) ((hst.set 0 _).set 1 _) Tryd.underlying26 rfl (by kernel_rfl) rfl ⟨rfl, (St.other (St.other hr2 _ _ _ (Ne.symm hkb)) _ _ _ (Ne.symm hkb)), ?_⟩
      exact keep_new (keep_new (keep_boxed1 (hk.trans hk2 (.inl rfl))) (Nat.le_refl _) _ _) (Nat.le_refl _) _ _
    · have ed : rdOpt s e = (u.1, u.2.1, false, 0) := by unfold rdOpt; rw [← ha, if_neg hb, ← hu2, if_pos (by simpa using he)]
      rw [ed]
      rw [← ha] at hu
      clear ed hu2 ha hb
      obtain ⟨s1, e1, b1⟩ := a
      obtain ⟨s2, e2, n2⟩ := u
      dsimp only at hu hb' he hv ⊢
      subst hb'
      have HU := Lib.hid hu
      have HV := Lib.hid hv
      clear hu hv
      go_enter Tryd.func58, Tryd.ntmps58
      go_wp2_with (first | (go_at_call 79; go_must (refine HU.out.mono ?_); rintro e w1 ⟨rfl, hr, hk⟩) | (go_at_call 56; go_must (refine (HV.out _ hr).mono ?_); rintro e w2 ⟨rfl, hr2, hk2⟩) | (go_at_call 80; go_must (refine (rErr_at k s2 e2 _ hr2).mono ?_); rintro e w3 ⟨rfl, rfl⟩; have hst := St.keep (St.keep hB hk (Ne.symm hkb) (by simp)) hk2 (Ne.symm hkb) (by simp); have c0 := hst.cell (j := 0) rfl; have c1 := hst.cell (j := 1) rfl; have f0 := hst.free 0; have f1 := hst.free 1))
      refine ret_cell (r := 2) (k := w.heap.size) (T := 26) Tryd.results58 (by rfl) ((hst.set 0 _).set 1 _) Tryd.underlying26 rfl (by kernel_rfl) rfl ⟨rfl, (St.other (St.other hr2 _ _ _ (Ne.symm hkb)) _ _ _ (Ne.symm hkb)), ?_⟩
      exact keep_new (keep_new (keep_boxed1 (hk.trans hk2 (.inl rfl))) (Nat.le_refl _) _ _) (Nat.le_refl _) _ _
end Go.Proofs.YtdjnadgcjmlejaaDoor
