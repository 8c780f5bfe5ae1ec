/- The law's step on the program's disk. -/
import Derived.Test.YtfipojmgmmjnmaaDp
import Derived.Laws.AppendOwnNone
namespace Go.Proofs.Ytfipojmgmmjnmaa
open Go.RowKit

theorem PD.alloc {B p : Nat} {F : Nat → Prop} {D : DS} {w : World} (h : PD B p F D w) (o : Obj) : PD B p F D (w.alloc o) := h.keep (G := fun _ => False) ((Frm.refl _ w).alloc o) fun _ _ e => e
theorem PD.drewN {B p : Nat} {F : Nat → Prop} {D : DS} {w : World} (h : PD B p F D w) (q : Nat) : PD B p F D (w.drewN q) := h.keep (G := fun _ => False) ((Frm.refl _ w).drewN q) fun _ _ e => e
theorem PD.below {B p : Nat} {F : Nat → Prop} {D : DS} {w w' : World} (h : PD B p F D w) (b : Below w.heap.size w w') : PD B p F D w' := h.keep (G := fun _ => False) (Frm.of_below b) fun _ _ e => e
theorem PDid.later {B p : Nat} {F : Nat → Prop} {D : DS} {w w1 w' : World} (hB : B ≤ w.heap.size) (hF : ∀ j, F j → B ≤ j ∧ j < w.heap.size) (b : Below w.heap.size w w1) (h : PDid B p F D w1 w') : PDid B p F D w w' := by
  obtain ⟨h0, f⟩ := h
  have hs := b.size
  refine ⟨h0.wide (fun j hj => by rcases hj with hj | hj; exact .inl hj; exact .inr ⟨by omega, hj.2⟩) fun j hj => ?_, (Frm.of_below b).next f⟩
  have := f.size
  rcases hj with hj | hj
  · have := hF j hj; omega
  · omega
theorem PDid.drewN {B p : Nat} {F : Nat → Prop} {D : DS} {w w' : World} (h : PDid B p F D w w') (q : Nat) : PDid B p F D w (w'.drewN q) := ⟨h.1.drewN q, h.2.drewN q⟩
theorem Try.infoInt : (Try.prog.info? 3).map (fun i => (i.zero, i.size, i.bytes)) = some (some (.int .i64 0), 1, 8) := by kernel_rfl

/-- Numbers in a row of one's own. -/
theorem ints_row {B n : Nat} {v : Value} {xs : List Int} {w : World} (h : w.ownsRow B 3 1 v n (xs.map (Value.int .i64))) (hn : n = xs.length) : Ints (fun j => B ≤ j) v xs w := by
  subst hn
  have hl := own_len h
  rcases h.2 with ⟨rfl, h0⟩ | ⟨g, cap, cur, rfl, hg, _⟩
  · have e := List.length_eq_zero_iff.1 h0
    subst e
    exact ⟨none, 0, 0, 0, rfl, ⟨by simp, fun _ => rfl⟩, fun h => by simp at h, fun i x hx => by simp at hx⟩
  · refine ⟨some ⟨g, 0, none⟩, cap, g, 0, rfl, ⟨hl, fun h => by cases h⟩, fun _ => ⟨rfl, (h.lt g rfl).2, hg⟩, fun i x hx => ?_⟩
    have hi := (List.getElem?_eq_some_iff.1 hx).1
    have e := h.cellAt i (by omega)
    rw [Nat.zero_add, e]
    simp [hx]

set_option maxRecDepth 100000 in
set_option maxHeartbeats 1000000 in
theorem dkdo_crash (B p : Nat) (F : Nat → Prop) (v : Value) (D : DS) (x : Sp) (w : World) (hk : x.kind = 4) (hB : B ≤ w.heap.size) (hl : D.wait.length ≤ 1073741824) (hks : x.keep.length ≤ 1073741824) (hv : Ints (fun b => ¬ F b) v x.keep w) (h : PD B p F D w) :
    Calls Try.prog 14 #[.pointer (some ⟨p, 0, none⟩), .agg (spcells x v)] w fun e w' => e = .returned (.tuple #[.string (D.step x).1.1, .int .i64 (D.step x).1.2]) ∧ PDid B p F (D.step x).2 w w' := by
  obtain ⟨kind, i, s, keep⟩ := x
  subst hk
  obtain ⟨i0, hi, hz0, hz1, hz2⟩ := info_parts Try.infoInt
  have e : D.step ⟨4, i, s, keep⟩ = ((⟨#[]⟩, 0), D.crash keep) := by unfold DS.step; simp
  rw [e]
  obtain ⟨cs, hcs⟩ : ∃ cs, cs = spcells ⟨4, i, s, keep⟩ v := ⟨_, rfl⟩
  have T0 := St.new w 36 (spcells ⟨4, i, s, keep⟩ v)
  rw [← hcs] at T0 ⊢
  have b0 : (w.alloc (.cells cs 36 (0, 0))).cell? ⟨w.heap.size, 0, none⟩ = some (.int .i64 4) := T0.cell (by rw [hcs]; rfl)
  have b3 : (w.alloc (.cells cs 36 (0, 0))).cell? ⟨w.heap.size, 3, none⟩ = some v := T0.cell (by rw [hcs]; rfl)
  obtain ⟨ao, kc, kb, ko, rfl, ⟨hkl, hkn⟩, hka, hkx⟩ := hv
  have hW := Lib.hid h
  have hlt : w.heap.size < (w.alloc (.cells cs 36 (0, 0))).heap.size := by simp
  have hown : ((w.alloc (.cells cs 36 (0, 0))).alloc (.cells #[] 3 (0, 0))).ownsRow w.heap.size 3 1 (.slice (some ⟨w.heap.size + 1, 0, none⟩) 0 0) 0 [] := by
    have h := World.ownsRow_made (base := w.heap.size) (e := 3) (size := 1) (w.alloc (.cells cs 36 (0, 0))) #[] 0 (by omega) (by decide) (by simp)
    rwa [show (w.alloc (.cells cs 36 (0, 0))).heap.size = w.heap.size + 1 from by simp] at h
  have hb2 : Below w.heap.size w ((w.alloc (.cells cs 36 (0, 0))).alloc (.cells #[] 3 (0, 0))) := ((Below.refl _ w).alloc (Nat.le_refl _) _).alloc (by simp) _
  have HO := Lib.hid hown
  have HB2 := Lib.hid hb2
  have HCr := Lib.hid (fun W v hB hv h => dCrash_any B p F v D keep W hB hl hv h)
  have hF := Lib.hid h.inF
  have HBB := Lib.hid hB
  have b4 : ((w.alloc (.cells cs 36 (0, 0))).alloc (.cells #[] 3 (0, 0))).cell? ⟨w.heap.size, 3, none⟩ = (w.alloc (.cells cs 36 (0, 0))).cell? ⟨w.heap.size, 3, none⟩ := World.cell?_of_block (Below.heap_alloc _ _ _ hlt)
  rw [b3] at b4
  clear T0 hown hb2 h hcs hlt b3
  cases ao with
  | none =>
    obtain rfl : kc = 0 := hkn rfl
    have hk0 : keep = [] := by
      rcases Nat.eq_zero_or_pos keep.length with h | h
      · exact List.length_eq_zero_iff.1 h
      · have := (hka h).1; cases this
    subst hk0
    have b4 : ((w.alloc (.cells cs 36 (0, 0))).alloc (.cells #[] 3 (0, 0))).cell? ⟨w.heap.size, 3, none⟩ = some (.slice none 0 0) := b4
    have HC := Lib.hid ((HCr.out _ (.slice (some ⟨w.heap.size + 1, 0, none⟩) 0 0) (by simp; omega) ⟨_, 0, 0, 0, rfl, ⟨by simp, fun h => by cases h⟩, fun h => by simp at h, fun i x hx => by simp at hx⟩ (hW.out.below HB2.out)).mono (R' := fun e w' => e = .returned (.int .i64 0) ∧ PDid B p F (D.crash []) w w') fun e w' ⟨he, hr⟩ => ⟨he, hr.later HBB.out hF.out HB2.out⟩)
    clear hka hkx hkn hkl hks
    go_enter Try.func14, Try.ntmps14
    go_wp2_with (first | (at_builtin; go_must (refine wpList_append_own_none rfl (.tmp 29) (.tmp 31) 34 rfl w.heap.size 3 i0 1 Try.underlying34 hi _ _ _ (by simp [Act.eval]) HO.out (by simp [Act.eval]) ?_)) | (go_at_call 21; go_must (with_reducible refine HC.out.mono ?_); rintro e w1 ⟨rfl, h1⟩; have H1 := Lib.hid h1; clear h1))
    go_ret2
    exact ⟨rfl, H1.out⟩
  | some ad =>
    have HX := Lib.hid (show ∀ j u, (keep.map (Value.int .i64))[j]? = some u → ((w.alloc (.cells cs 36 (0, 0))).alloc (.cells #[] 3 (0, 0))).cell? (ad.add j) = some u from fun j u hu => by
      rw [List.getElem?_map] at hu
      obtain ⟨y, hy, rfl⟩ := Option.map_eq_some_iff.1 hu
      have hl : 0 < keep.length := by have := (List.getElem?_eq_some_iff.1 hy).1; omega
      obtain ⟨q1, q2, q3⟩ := hka hl
      injection q1 with q1
      subst q1
      rw [Addr.add_mid]
      exact (HB2.out.cell (p := ⟨kb, ko + j, none⟩) q2).trans (hkx j y hy))
    obtain ⟨n, hn⟩ : ∃ n, n = keep.length := ⟨_, rfl⟩
    rw [← hn] at b4 hks
    have HN := Lib.hid hn
    have HC := Lib.hid (show ∀ v' w2, w2.ownsRow w.heap.size 3 1 v' (0 + n) ([] ++ keep.map (Value.int .i64)) → ((w.alloc (.cells cs 36 (0, 0))).alloc (.cells #[] 3 (0, 0))).grownBy w2 (Value.slice (some ⟨w.heap.size + 1, 0, none⟩) 0 0).ownBlock →
        Calls Try.prog 21 #[.pointer (some ⟨p, 0, none⟩), v'] w2 fun e w' => e = .returned (.int .i64 0) ∧ PDid B p F (D.crash keep) w w' from fun v' w2 h1 hg => by
      have hb : Below w.heap.size w w2 := HB2.out.grown hg (by simp; omega) (fun k hk => by simp [Value.ownBlock] at hk; omega)
      rw [List.nil_append] at h1
      have hI := (ints_row h1 (by rw [HN.out]; omega)).imp (ok' := fun j => ¬ F j) fun j hj e => by have := hF.out j e; omega
      exact (HCr.out w2 v' (by have := hb.size; omega) hI (hW.out.below hb)).mono fun e w' ⟨he, hr⟩ => ⟨he, hr.later HBB.out hF.out hb⟩)
    clear hka hkx hkn hkl hn
    go_enter Try.func14, Try.ntmps14
    go_wp2_with (first | (at_builtin; go_must (refine wpList_append_own _ rfl (.tmp 29) (.tmp 31) 34 rfl w.heap.size 3 i0 (.int .i64 0) 1 8 Try.underlying34 hi hz0 hz1 hz2 rfl (by decide) _ 0 [] (by simp [Act.eval]) HO.out ad n kc (keep.map (Value.int .i64)) (by simp [Act.eval]) (by rw [List.length_map, ← HN.out]; omega) HX.out (by intro u hu; obtain ⟨y, _, rfl⟩ := List.mem_map.1 hu; rfl) (by unfold maxLen; omega) (by omega) (by simp; omega) ?_); intro v' w2 h1 hg _; have H1 := Lib.hid h1; have HG := Lib.hid hg; clear h1 hg) | (go_at_call 21; go_must (with_reducible refine (HC.out _ _ H1.out HG.out).mono ?_); rintro e w1 ⟨rfl, h1⟩; have H2 := Lib.hid h1; clear h1))
    go_ret2
    exact ⟨rfl, H2.out⟩

set_option maxRecDepth 100000 in
set_option maxHeartbeats 1000000 in
theorem dkdo_any (B p : Nat) (F : Nat → Prop) (v : Value) (D : DS) (x : Sp) (w : World) (hB : B ≤ w.heap.size) (hx : x.i ≤ 9223372036854775807) (hks : x.keep.length ≤ 1073741824) (hl : D.wait.length ≤ 1073741824) (hc : D.wr ≤ 1073741824) (hb : D.br ≤ 1073741824) (hv : Ints (fun b => ¬ F b) v x.keep w) (h : PD B p F D w) :
    Calls Try.prog 14 #[.pointer (some ⟨p, 0, none⟩), .agg (spcells x v)] w fun e w' => e = .returned (.tuple #[.string (D.step x).1.1, .int .i64 (D.step x).1.2]) ∧ PDid B p F (D.step x).2 w w' := by
  by_cases k4 : x.kind = 4
  · exact dkdo_crash B p F v D x w k4 hB hl hks hv h
  obtain ⟨kind, i, s, keep⟩ := x
  have k4 : kind ≠ 4 := k4
  obtain ⟨cs, hcs⟩ : ∃ cs, cs = spcells ⟨kind, i, s, keep⟩ v := ⟨_, rfl⟩
  have T0 := St.new w 36 (spcells ⟨kind, i, s, keep⟩ v)
  rw [← hcs] at T0 ⊢
  have b0 : (w.alloc (.cells cs 36 (0, 0))).cell? ⟨w.heap.size, 0, none⟩ = some (.int .i64 kind) := T0.cell (by rw [hcs]; rfl)
  have b1 : (w.alloc (.cells cs 36 (0, 0))).cell? ⟨w.heap.size, 1, none⟩ = some (.int .i64 i) := T0.cell (by rw [hcs]; rfl)
  have b2 : (w.alloc (.cells cs 36 (0, 0))).cell? ⟨w.heap.size, 2, none⟩ = some (.string s) := T0.cell (by rw [hcs]; rfl)
  have hR := h.alloc (.cells cs 36 (0, 0))
  have hB2 : B ≤ (w.alloc (.cells cs 36 (0, 0))).heap.size := by simp; omega
  have hb2 : Below w.heap.size w (w.alloc (.cells cs 36 (0, 0))) := (Below.refl _ w).alloc (Nat.le_refl _) _
  have HB := Lib.hid (And.intro hB (And.intro h.inF hb2))
  have HV := Lib.hid (And.intro hR hB2)
  have HL := Lib.hid (And.intro hx (And.intro hl (And.intro hc hb)))
  clear T0 hcs hR hB2 hB h hv hx hl hc hb hb2 hks
  by_cases k1 : kind = 1
  · subst k1
    have e : D.step ⟨1, i, s, keep⟩ = ((⟨#[]⟩, (D.write i s).1), (D.write i s).2) := by unfold DS.step; rw [if_pos rfl]
    rw [e]
    clear e k4
    have HC := Lib.hid (dWrite_any B p F D i s _ HV.out.2 HL.out.2.1 HL.out.2.2.1 HV.out.1)
    go_enter Try.func14, Try.ntmps14
    go_wp2_with (go_at_call 22; go_must (with_reducible refine HC.out.mono ?_); rintro e w1 ⟨rfl, h1⟩; have H1 := Lib.hid h1; clear h1)
    go_ret2
    exact ⟨rfl, H1.out.later HB.out.1 HB.out.2.1 HB.out.2.2⟩
  · have d1 : (kind == 1) = false := by rw [beq_eq_false_iff_ne]; exact k1
    have d4 : (kind == 4) = false := by rw [beq_eq_false_iff_ne]; exact k4
    by_cases k2 : kind = 2
    · subst k2
      have e : D.step ⟨2, i, s, keep⟩ = ((⟨#[]⟩, D.barrier.1), D.barrier.2) := by unfold DS.step; rw [if_neg k1, if_pos rfl]
      rw [e]
      clear e d1 k1 d4 k4
      have HC := Lib.hid (dBarrier_any B p F D _ HV.out.2 HL.out.2.2.2 HV.out.1)
      go_enter Try.func14, Try.ntmps14
      go_wp2_with (go_at_call 24; go_must (with_reducible refine HC.out.mono ?_); rintro e w1 ⟨rfl, h1⟩; have H1 := Lib.hid h1; clear h1)
      go_ret2
      exact ⟨rfl, H1.out.later HB.out.1 HB.out.2.1 HB.out.2.2⟩
    · have d2 : (kind == 2) = false := by rw [beq_eq_false_iff_ne]; exact k2
      by_cases k3 : kind = 3
      · subst k3
        have e : D.step ⟨3, i, s, keep⟩ = ((⟨#[]⟩, (D.arm i).1), (D.arm i).2) := by unfold DS.step; rw [if_neg k1, if_neg k2, if_pos rfl]
        rw [e]
        clear e d1 k1 d2 k2 d4 k4
        have HC := Lib.hid (dArm_any B p F D i _ HV.out.2 HL.out.1 HV.out.1)
        go_enter Try.func14, Try.ntmps14
        go_wp2_with (go_at_call 35; go_must (with_reducible refine HC.out.mono ?_); rintro e w1 ⟨rfl, h1⟩; have H1 := Lib.hid h1; clear h1)
        go_ret2
        exact ⟨rfl, H1.out.later HB.out.1 HB.out.2.1 HB.out.2.2⟩
      · have d3 : (kind == 3) = false := by rw [beq_eq_false_iff_ne]; exact k3
        have e : D.step ⟨kind, i, s, keep⟩ = (D.read i, D) := by unfold DS.step; rw [if_neg k1, if_neg k2, if_neg k3, if_neg k4]
        rw [e]
        clear e k1 k2 k3 k4
        have HC := Lib.hid (dRead_any B p F D i _ HV.out.1)
        go_enter Try.func14, Try.ntmps14
        go_wp2_with (go_at_call 25; go_must (with_reducible refine HC.out.mono ?_); rintro e w1 ⟨rfl, h1⟩; have H1 := Lib.hid (HV.out.1.of_below HV.out.2 h1); clear h1)
        go_ret2
        exact ⟨rfl, H1.out.later HB.out.1 HB.out.2.1 HB.out.2.2⟩
end Go.Proofs.Ytfipojmgmmjnmaa
