/- The reference's reader: truths, options, texts of so many bytes. -/
import Derived.Test.YtdjnadgcjmlejaaDoorRr
namespace Go.Proofs.YtdjnadgcjmlejaaDoor
open Go.RowKit

theorem rdU32_zero {s : ByteArray} {e : Int} (h : (rdU32 s e).2.1 ≠ 0) : (rdU32 s e).2.2 = 0 := by
  unfold rdU32 at h ⊢
  by_cases h1 : e ≠ 0
  · rw [if_pos h1]
  · rw [if_neg h1] at h ⊢
    by_cases h2 : s.size < 4
    · rw [if_pos h2]
    · rw [if_neg h2] at h
      exact absurd rfl h
theorem rdBool_of (s : ByteArray) (e : Int) : rdBool s e = if (rdU32 s e).2.1 ≠ 0 then ((rdU32 s e).1, (rdU32 s e).2.1, false) else if 1 < (rdU32 s e).2.2 then (⟨#[]⟩, 13, false) else ((rdU32 s e).1, 0, (rdU32 s e).2.2 == 1) := by
  by_cases h0 : e = 0
  · subst h0
    by_cases h1 : s.size < 4
    · have e1 : rdU32 s 0 = (⟨#[]⟩, 10, 0) := by unfold rdU32; rw [if_neg (by simp), if_pos h1]
      rw [e1]
      unfold rdBool
      rw [if_neg (by simp), if_pos h1]
      rfl
    · have e1 : rdU32 s 0 = (s.extract 4 s.size, 0, (num (s.extract 0 4).data.toList : Int)) := by unfold rdU32; rw [if_neg (by simp), if_neg h1]
      rw [e1]
      unfold rdBool
      rw [if_neg (by simp), if_neg h1]
      dsimp only
      rw [if_neg (show ¬ ((0 : Int) ≠ 0) by simp)]
      by_cases h2 : 1 < num (s.extract 0 4).data.toList
      · rw [if_pos h2, if_pos (by omega)]
      · rw [if_neg h2, if_neg (by omega)]
  · have e1 : rdU32 s e = (s, e, 0) := by unfold rdU32; rw [if_pos h0]
    rw [e1]
    unfold rdBool
    rw [if_pos h0]
    dsimp only
    rw [if_pos h0]

set_option maxRecDepth 100000 in
set_option maxHeartbeats 1000000 in
theorem rfTruth_any (k : Nat) (S rest : ByteArray) (e : Int) (w : World) (hS : S.size ≤ 1073741824) (h : Rf k S rest e w) :
    Calls Tryd.prog 65 #[.pointer (some ⟨k, 0, none⟩)] w fun r w' => Rook k S (rdBool rest e).1 (rdBool rest e).2.1 (.bool (rdBool rest e).2.2) w r w' := by
  have hu := rfU4_any k S rest e w hS h
  have hz := rdU32_zero (s := rest) (e := e)
  rw [rdBool_of]
  obtain ⟨u, hue⟩ : ∃ u, u = rdU32 rest e := ⟨_, rfl⟩
  rw [← hue] at hu hz ⊢
  clear hue
  obtain ⟨s1, e1, n1⟩ := u
  dsimp only at hu hz ⊢
  by_cases h1 : e1 = 0
  · subst h1
    rw [if_neg (by simp)]
    by_cases h2 : 1 < n1
    · rw [if_pos h2]
      have hd : decide (n1 > 1) = true := by simpa using h2
      have HU := Lib.hid hu
      clear hu hz
      go_enter Tryd.func65, Tryd.ntmps65
      go_wp2_with (go_at_call 29; go_must (refine HU.out.mono ?_); rintro e w1 ⟨rfl, ⟨p, hp, hst, hr⟩, hk⟩; have c2 : w1.cell? ⟨k, 2, none⟩ = some (.int .i64 0) := hst.cell rfl; have f2 := hst.free 2)
      go_ret
      refine ⟨rfl, ⟨p, hp, ?_, fun h => by cases h⟩, hk.put 2 _⟩
      have := hst.set 2 (.int .i64 13)
      exact this
    · rw [if_neg h2]
      have hd : decide (n1 > 1) = false := by simpa using h2
      have HU := Lib.hid hu
      clear hu hz
      go_enter Tryd.func65, Tryd.ntmps65
      go_wp2_with (go_at_call 29; go_must (refine HU.out.mono ?_); rintro e w1 ⟨rfl, ⟨p, hp, hst, hr⟩, hk⟩; have c2 : w1.cell? ⟨k, 2, none⟩ = some (.int .i64 0) := hst.cell rfl)
      go_ret
      exact ⟨rfl, ⟨p, hp, hst, fun _ => hr trivial⟩, hk⟩
  · rw [if_pos h1]
    have hz := hz h1
    subst hz
    have HU := Lib.hid hu
    have hd : (e1 == 0) = false := by simpa using h1
    clear hu
    go_enter Tryd.func65, Tryd.ntmps65
    go_wp2_with (go_at_call 29; go_must (refine HU.out.mono ?_); rintro e w1 ⟨rfl, ⟨p, hp, hst, hr⟩, hk⟩; have c2 : w1.cell? ⟨k, 2, none⟩ = some (.int .i64 e1) := hst.cell rfl)
    go_ret
    exact ⟨rfl, ⟨p, hp, hst, hr⟩, hk⟩

set_option maxRecDepth 100000 in
set_option maxHeartbeats 1000000 in
theorem rfFixed_err (k : Nat) (n : Int) (S rest : ByteArray) (e : Int) (w : World) (he : e ≠ 0) (h : Rf k S rest e w) :
    Calls Tryd.prog 64 #[.pointer (some ⟨k, 0, none⟩), .int .i64 n] w fun r w' => Rook k S rest e (.string ⟨#[]⟩) w r w' := by
  obtain ⟨p, hp, hst, hr⟩ := h
  have c2 : w.cell? ⟨k, 2, none⟩ = some (.int .i64 e) := hst.cell rfl
  have HST := Lib.hid hst
  have HR := Lib.hid hr
  clear hst hr
  go_enter Tryd.func64, Tryd.ntmps64
  go_wp2
  go_ret
  exact ⟨rfl, ⟨p, hp, HST.out, HR.out⟩, Keep.refl _ _ _⟩

set_option maxRecDepth 100000 in
set_option maxHeartbeats 1000000 in
theorem rfFixed_low (k : Nat) (n : Int) (S rest : ByteArray) (w : World) (hn : n < 0) (h : Rf k S rest 0 w) :
    Calls Tryd.prog 64 #[.pointer (some ⟨k, 0, none⟩), .int .i64 n] w fun r w' => Rook k S ⟨#[]⟩ 2 (.string ⟨#[]⟩) w r w' := by
  obtain ⟨p, hp, hst, hr⟩ := h
  have c2 : w.cell? ⟨k, 2, none⟩ = some (.int .i64 0) := hst.cell rfl
  have f2 := hst.free 2
  have HST := Lib.hid hst
  clear hst hr
  go_enter Tryd.func64, Tryd.ntmps64
  go_wp2
  go_ret
  refine ⟨rfl, ⟨p, hp, ?_, fun h => by cases h⟩, (Keep.refl k none w).put 2 _⟩
  have := HST.out.set 2 (.int .i64 2)
  exact this

theorem Rf.lt {k : Nat} {S rest : ByteArray} {e : Int} {w : World} (h : Rf k S rest e w) : k < w.heap.size := by obtain ⟨p, _, hst, _⟩ := h; exact hst.lt
theorem Rf.alloc {k : Nat} {S rest : ByteArray} {e : Int} {w : World} (h : Rf k S rest e w) (o : Obj) : Rf k S rest e (w.alloc o) := by obtain ⟨p, hp, hst, hr⟩ := h; exact ⟨p, hp, hst.alloc o, hr⟩
theorem Rf.other {k : Nat} {S rest : ByteArray} {e : Int} {w : World} (h : Rf k S rest e w) (j i : Nat) (v : Value) (hj : j ≠ k) : Rf k S rest e (w.setCell ⟨j, i, none⟩ v) := by obtain ⟨p, hp, hst, hr⟩ := h; exact ⟨p, hp, hst.other j i v hj, hr⟩

set_option maxRecDepth 100000 in
theorem rfOpt_any (k : Nat) (S s : ByteArray) (e : Int) (w : World) (hS : S.size ≤ 1073741824) (h : Rf k S s e w) :
    Calls Tryd.prog 30 #[.pointer (some ⟨k, 0, none⟩)] w fun r w' => Rook k S (rdOpt s e).1 (rdOpt s e).2.1 (.agg #[.bool (rdOpt s e).2.2.1, .int .i64 (rdOpt s e).2.2.2]) w r w' := by
  have hkb : k ≠ w.heap.size := Nat.ne_of_lt h.lt
  have hR : Rf k S s e (w.alloc (.cells #[.bool false, .int .i64 0] 26 (0, 0))) := h.alloc _
  have hB := St.new w 26 #[.bool false, .int .i64 0]
  have hu := rfTruth_any k S s e _ hS hR
  obtain ⟨a, ha⟩ : ∃ a, a = rdBool s e := ⟨_, rfl⟩
  by_cases hb : a.2.2 = false
  · have ed : rdOpt s e = (a.1, a.2.1, false, 0) := by unfold rdOpt; rw [← ha, if_pos hb]
    rw [ed]
    rw [← ha] at hu
    obtain ⟨s1, e1, b1⟩ := a
    dsimp only at hu hb ⊢
    subst hb
    have HU := Lib.hid hu
    clear hu ed ha
    go_enter Tryd.func30, Tryd.ntmps30
    go_wp2_with (go_at_call 65; go_must (refine HU.out.mono ?_); rintro e w1 ⟨rfl, hr, hk⟩; have hst := St.keep hB hk (Ne.symm hkb) (by simp); have c0 := hst.cell (j := 0) rfl; have c1 := hst.cell (j := 1) rfl; have f0 := hst.free 0; have f1 := hst.free 1)
    refine ret_cell (r := 2) (k := w.heap.size) (T := 26) Tryd.results30 (by rfl) ((hst.set 0 _).set 1 _) Tryd.underlying26 rfl (by kernel_rfl) rfl ⟨rfl, (hr.other _ _ _ (Ne.symm hkb)).other _ _ _ (Ne.symm hkb), ?_⟩
    exact keep_new (keep_new (keep_boxed1 hk) (Nat.le_refl _) _ _) (Nat.le_refl _) _ _
  · obtain ⟨u, hu2⟩ : ∃ u, u = rdU64 a.1 a.2.1 := ⟨_, rfl⟩
    have hb' : a.2.2 = true := by simpa using hb
    have hv : ∀ w1, Rf k S a.1 a.2.1 w1 → Calls Tryd.prog 29 #[.pointer (some ⟨k, 0, none⟩), .int .i64 8] w1 fun r w' => Rook k S u.1 u.2.1 (.int .i64 u.2.2) w1 r w' := fun w1 h1 => by rw [hu2]; exact rfU8_any k S a.1 a.2.1 w1 hS h1
    by_cases he : u.2.1 = 0
    · have ed : rdOpt s e = (u.1, 0, true, u.2.2) := by unfold rdOpt; rw [← ha, if_neg hb, ← hu2, if_neg (by simpa using he)]
      rw [ed]
      rw [← ha] at hu
      clear ed hu2 ha hb
      obtain ⟨s1, e1, b1⟩ := a
      obtain ⟨s2, e2, n2⟩ := u
      dsimp only at hu hb' he hv ⊢
      subst hb' he
      have HU := Lib.hid hu
      have HV := Lib.hid hv
      clear hu hv
      go_enter Tryd.func30, Tryd.ntmps30
      go_wp2_with (first | (go_at_call 65; go_must (refine HU.out.mono ?_); rintro e w1 ⟨rfl, hr, hk⟩) | (go_at_call 29; go_must (refine (HV.out _ hr).mono ?_); rintro e w2 ⟨rfl, ⟨p, hp, hsr, hre⟩, hk2⟩; have g2 : w2.cell? ⟨k, 2, none⟩ = some (.int .i64 0) := hsr.cell rfl; have hst := St.keep (St.keep hB hk (Ne.symm hkb) (by simp)) hk2 (Ne.symm hkb) (by simp); have c0 := hst.cell (j := 0) rfl; have c1 := hst.cell (j := 1) rfl; have f0 := hst.free 0; have f1 := hst.free 1))
      refine ret_cell (r := 2) (k := w.heap.size) (T := 26) Tryd.results30 (by rfl) ((hst.set 0 _).set 1 _) Tryd.underlying26 rfl (by kernel_rfl) rfl ⟨rfl, ⟨p, hp, (hsr.other _ _ _ (Ne.symm hkb)).other _ _ _ (Ne.symm hkb), fun h => by first | exact hre h | exact hre trivial⟩, ?_⟩
      exact keep_new (keep_new (keep_boxed1 (hk.trans hk2 (.inl rfl))) (Nat.le_refl _) _ _) (Nat.le_refl _) _ _
    · have ed : rdOpt s e = (u.1, u.2.1, false, 0) := by unfold rdOpt; rw [← ha, if_neg hb, ← hu2, if_pos (by simpa using he)]
      rw [ed]
      rw [← ha] at hu
      clear ed hu2 ha hb
      obtain ⟨s1, e1, b1⟩ := a
      obtain ⟨s2, e2, n2⟩ := u
      dsimp only at hu hb' he hv ⊢
      subst hb'
      have HU := Lib.hid hu
      have HV := Lib.hid hv
      clear hu hv
      go_enter Tryd.func30, Tryd.ntmps30
      go_wp2_with (first | (go_at_call 65; go_must (refine HU.out.mono ?_); rintro e w1 ⟨rfl, hr, hk⟩) | (go_at_call 29; go_must (refine (HV.out _ hr).mono ?_); rintro e w2 ⟨rfl, ⟨p, hp, hsr, hre⟩, hk2⟩; have g2 : w2.cell? ⟨k, 2, none⟩ = some (.int .i64 e2) := hsr.cell rfl; have hst := St.keep (St.keep hB hk (Ne.symm hkb) (by simp)) hk2 (Ne.symm hkb) (by simp); have c0 := hst.cell (j := 0) rfl; have c1 := hst.cell (j := 1) rfl; have f0 := hst.free 0; have f1 := hst.free 1))
      refine ret_cell (r := 2) (k := w.heap.size) (T := 26) Tryd.results30 (by rfl) ((hst.set 0 _).set 1 _) Tryd.underlying26 rfl (by kernel_rfl) rfl ⟨rfl, ⟨p, hp, (hsr.other _ _ _ (Ne.symm hkb)).other _ _ _ (Ne.symm hkb), fun h => by first | exact hre h | exact hre trivial⟩, ?_⟩
      exact keep_new (keep_new (keep_boxed1 (hk.trans hk2 (.inl rfl))) (Nat.le_refl _) _ _) (Nat.le_refl _) _ _
end Go.Proofs.YtdjnadgcjmlejaaDoor
