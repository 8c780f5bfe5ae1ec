/- PROVED HERE: for every text and every list of things, the law XdrReads returns true: any text is read, thing by thing, as the document says. CONDITIONS: the two tables that the row lists read as laid; the walks never read them. -/
import Derived.Test.YtpniadpefpcedaaDoorRw
import Derived.Test.YtpniadpefpcedaaDoorTh
import Derived.Test.YtpniadpefpcedaaDoorLw
namespace Go.Proofs.YtpniadpefpcedaaDoor.xdrReads
open Go.ChangeShapes Go.WideShapes Go.ChangeAt Go.RowKit
open Go.ChangeMaps (open_string shut_string)

theorem rdU32_gone {s : ByteArray} {e : Int} (h : e ≠ 0 → s = ⟨#[]⟩) (h1 : (rdU32 s e).2.1 ≠ 0) : (rdU32 s e).1 = ⟨#[]⟩ := by
  unfold rdU32 at h1 ⊢
  split at h1 <;> split <;> simp_all
  split at h1 <;> simp_all
theorem rdU64_gone {s : ByteArray} {e : Int} (h : e ≠ 0 → s = ⟨#[]⟩) (h1 : (rdU64 s e).2.1 ≠ 0) : (rdU64 s e).1 = ⟨#[]⟩ := by
  unfold rdU64 at h1 ⊢
  by_cases h0 : e ≠ 0
  · rw [if_pos h0]; exact h h0
  · rw [if_neg h0] at h1 ⊢
    by_cases h2 : s.size < 8
    · rw [if_pos h2]
    · rw [if_neg h2] at h1 ⊢
      by_cases h3 : 9223372036854775807 < num (s.extract 0 8).data.toList
      · rw [if_pos h3]
      · rw [if_neg h3] at h1; exact absurd rfl h1
theorem rdBool_gone {s : ByteArray} {e : Int} (h : e ≠ 0 → s = ⟨#[]⟩) (h1 : (rdBool s e).2.1 ≠ 0) : (rdBool s e).1 = ⟨#[]⟩ := by
  unfold rdBool at h1 ⊢
  by_cases h0 : e ≠ 0
  · rw [if_pos h0]; exact h h0
  · rw [if_neg h0] at h1 ⊢
    by_cases h2 : s.size < 4
    · rw [if_pos h2]
    · rw [if_neg h2] at h1 ⊢
      by_cases h3 : 1 < num (s.extract 0 4).data.toList
      · rw [if_pos h3]
      · rw [if_neg h3] at h1; exact absurd rfl h1
theorem rdFail_gone {c : Int} {s : ByteArray} {e : Int} (h : e ≠ 0 → s = ⟨#[]⟩) : (rdFail c s e).1 = ⟨#[]⟩ := by
  unfold rdFail
  by_cases h0 : e ≠ 0
  · rw [if_pos h0]; exact h h0
  · rw [if_neg h0]
theorem rdFixed_gone {n : Int} {s : ByteArray} {e : Int} (h : e ≠ 0 → s = ⟨#[]⟩) (h1 : (rdFixed n s e).2.1 ≠ 0) : (rdFixed n s e).1 = ⟨#[]⟩ := by
  unfold rdFixed at h1 ⊢
  by_cases c1 : n < 0
  · rw [if_pos c1]; exact rdFail_gone h
  · rw [if_neg c1] at h1 ⊢
    by_cases c2 : (s.size : Int) < n
    · rw [if_pos c2]; exact rdFail_gone h
    · rw [if_neg c2] at h1 ⊢
      by_cases h0 : e ≠ 0
      · rw [if_pos h0]; exact h h0
      · rw [if_neg h0] at h1 ⊢
        by_cases h2 : s.size < n.toNat + padN n.toNat
        · rw [if_pos h2]
        · rw [if_neg h2] at h1 ⊢
          by_cases h3 : allZero (s.extract n.toNat (n.toNat + padN n.toNat)).data.toList = false
          · rw [if_pos h3]
          · rw [if_neg h3] at h1; exact absurd rfl h1
theorem rdTake_gone {kind n : Int} {s : ByteArray} {e : Int} (h : e ≠ 0 → s = ⟨#[]⟩) (h1 : (rdTake kind n s e).2.1 ≠ 0) : (rdTake kind n s e).1 = ⟨#[]⟩ := by
  unfold rdTake at h1 ⊢
  by_cases k1 : kind = 1
  · rw [if_pos k1] at h1 ⊢; exact rdU32_gone h h1
  rw [if_neg k1] at h1 ⊢
  by_cases k2 : kind = 2
  · rw [if_pos k2] at h1 ⊢; exact rdU64_gone h h1
  rw [if_neg k2] at h1 ⊢
  by_cases k3 : kind = 3
  · rw [if_pos k3] at h1 ⊢; exact rdBool_gone h h1
  rw [if_neg k3] at h1 ⊢
  by_cases k4 : kind = 4
  · rw [if_pos k4] at h1 ⊢; exact rdFixed_gone h h1
  rw [if_neg k4] at h1 ⊢
  by_cases k5 : kind = 5
  · rw [if_pos k5] at h1 ⊢
    unfold rdOpaque at h1 ⊢
    have g := rdU32_gone h (e := e) (s := s)
    by_cases c : n < (rdU32 s e).2.2
    · rw [if_pos c] at h1 ⊢; exact rdFail_gone g
    · rw [if_neg c] at h1 ⊢; exact rdFixed_gone g h1
  rw [if_neg k5] at h1 ⊢
  by_cases k6 : kind = 6
  · rw [if_pos k6] at h1 ⊢
    have g := rdBool_gone h (e := e) (s := s)
    have g2 := rdU64_gone g
    unfold rdOpt at h1 ⊢
    by_cases c : (rdBool s e).2.2 = false
    · rw [if_pos c] at h1 ⊢; exact g h1
    · rw [if_neg c] at h1 ⊢
      by_cases c2 : (rdU64 (rdBool s e).1 (rdBool s e).2.1).2.1 ≠ 0
      · rw [if_pos c2] at h1 ⊢; exact g2 h1
      · rw [if_neg c2] at h1; exact absurd rfl h1
  rw [if_neg k6] at h1 ⊢
  exact h h1

theorem _root_.Go.Proofs.YtpniadpefpcedaaDoor.Rf.keep {k b : Nat} {r : Option Nat} {S rest : ByteArray} {e : Int} {w w' : World} (h : Rf k S rest e w) (hk : Keep b r w w') (h1 : k ≠ b) (h2 : some k ≠ r) : Rf k S rest e w' := by
  obtain ⟨p, hp, hst, hr⟩ := h
  exact ⟨p, hp, St.keep hst hk h1 h2, hr⟩
theorem _root_.Go.Proofs.YtpniadpefpcedaaDoor.Rf.cell2 {k : Nat} {S rest : ByteArray} {e : Int} {w : World} (h : Rf k S rest e w) : w.cell? ⟨k, 2, none⟩ = some (.int .i64 e) := by
  obtain ⟨p, hp, hst, hr⟩ := h
  exact hst.cell rfl
theorem rf_size {k : Nat} {S rest : ByteArray} {e : Int} {w : World} (h : Rf k S rest e w) (hg : e ≠ 0 → rest = ⟨#[]⟩) : rest.size ≤ S.size := by
  obtain ⟨p, hp, hst, hr⟩ := h
  by_cases he : e = 0
  · rw [hr he, ByteArray.size_extract]; omega
  · rw [hg he]; exact Nat.zero_le _

set_option maxRecDepth 100000 in
set_option maxHeartbeats 4000000 in
theorem walk (s : ByteArray) (ao : Option Addr) (b off len cap : Nat) (ts : List Th) (w : World) (hcap : len ≤ 9223372036854775807) (hsz : s.size ≤ 300) (hao : 0 < len → ao = some ⟨b, off, none⟩ ∧ b < w.heap.size) (ht : Things b off len ts w) (hs : small ts) :
    Calls Tryd.prog 3 #[.string s, .slice ao len cap] w fun e w' => e = .returned (.bool true) ∧ Below w.heap.size w w' := by
  have hl : len ≤ 40 := by rw [← ht.hlen]; exact hs.1
  have d1 : decide ((s.size : Int) > 300) = false := by simp; omega
  have HA := Lib.hid hao
  have HLarge := Lib.hid (xlarge_small ao b off len cap ts w hao ht hs)
  clear hao hs
  go_enter Tryd.func3, Tryd.ntmps3
  go_wp2_with (first | (go_at_call 7; go_must (refine HLarge.out.mono ?_); rintro e w1 ⟨rfl, rfl⟩) | (go_at_call 9; go_must (refine (rRead_eq s _).mono ?_); rintro e w1 ⟨rfl, rfl⟩))
  have hR0 : Rd w.heap.size s 0 ((w.alloc (.cells #[.string s, .int .i64 0] 52 (0, 0))).alloc (.cells #[.string s, .int .i64 0, .int .i64 0] 30 (0, 0))) := St.alloc (St.new w _ _) _
  have hX0 : Rf (w.heap.size + 1) s s 0 ((w.alloc (.cells #[.string s, .int .i64 0] 52 (0, 0))).alloc (.cells #[.string s, .int .i64 0, .int .i64 0] 30 (0, 0))) := by
    refine ⟨0, Nat.zero_le _, ?_, fun _ => ?_⟩
    · have := St.new (w.alloc (.cells #[.string s, .int .i64 0] 52 (0, 0))) 30 #[.string s, .int .i64 0, .int .i64 0]
      simpa using this
    · apply ByteArray.ext; simp
  have hb0 : Below w.heap.size w ((w.alloc (.cells #[.string s, .int .i64 0] 52 (0, 0))).alloc (.cells #[.string s, .int .i64 0, .int .i64 0] 30 (0, 0))) := boxed0.alloc (by simp) _
  go_loopw [7] (fun c wr => ∃ (i : Nat) (rest : ByteArray) (e : Int), i ≤ len ∧ c = .int .i64 i ∧ (e ≠ 0 → rest = ⟨#[]⟩) ∧ Rd w.heap.size rest e wr ∧ Rf (w.heap.size + 1) s rest e wr ∧ Below w.heap.size w wr) (fun c _ => len - (intOf c).toNat)
  case atStart => exact ⟨0, s, 0, Nat.zero_le _, rfl, fun h => absurd rfl h, hR0, hX0, hb0⟩
  case round =>
    obtain ⟨i, rest, e, hi, rfl, hgone, hrd, hrf, hbel⟩ := hrel
    clear hR0 hX0 hb0
    have hrs := rf_size hrf hgone
    by_cases hlt : i < len
    · obtain ⟨rfl, hb⟩ := HA.out (by omega)
      obtain ⟨t, hti⟩ := ht.get hlt
      have HC := Lib.hid (show ∀ W, Below w.heap.size w W → W.cell? ⟨b, off + i * 4, none⟩ = some (.int .i64 t.kind) ∧ W.cell? ⟨b, off + i * 4 + 1, none⟩ = some (.int .i64 t.n) from fun W hW => ⟨(ht.below hW hb).hkind i t hti, (ht.below hW hb).hn i t hti⟩)
      obtain ⟨kind, n, is, us⟩ := t
      dsimp only at HC
      have hT := xtake_any w.heap.size kind n rest e wr.drew (by omega) hrd
      have hX := fun W (h : Rf (w.heap.size + 1) s rest e W) => rfTake_any (w.heap.size + 1) kind n s rest e W (by omega) h
      have hg := rdTake_gone (kind := kind) (n := n) hgone
      obtain ⟨p, hpe⟩ : ∃ p, p = rdTake kind n rest e := ⟨_, rfl⟩
      rw [← hpe] at hT hg
      simp only [← hpe] at hX
      obtain ⟨s1, e1, n1, is1, t1⟩ := p
      dsimp only at hT hg hX
      have HT := Lib.hid hT
      have HX := Lib.hid hX
      have HG := Lib.hid hg
      have HRF := Lib.hid hrf
      have hbd : Below w.heap.size w wr.drew := hbel.drew
      have hc := HC.out _ hbd
      have hcr := HC.out _ hbel
      clear hT hX hg hpe hti hrf
      have hne : (w.heap.size : Nat) + 1 ≠ w.heap.size := by omega
      go_wp2_with fail
      -- the load of the reference's error is branched over (it hangs on the calls ahead of it)
      rw [show (Op.load 28 (Operand.tmp 58)) = id (Op.load 28 (Operand.tmp 58)) from rfl]
      go_region_held3 (fun w' => w'.cell? ⟨b, off + i * 4, none⟩ = some (.int .i64 kind) ∧ w'.cell? ⟨b, off + i * 4 + 1, none⟩ = some (.int .i64 n))
        (first | assumption | (simp; done))
        (first
          | (go_at_call 10; go_must (refine HT.out.mono ?_); rintro e w1 ⟨rfl, hr1, hk1⟩; have hf1 : Rf (w.heap.size + 1) s rest _ w1 := Rf.keep (w := wr.drew) HRF.out hk1 hne (by simp); have hbel1 := hbd.trans (hk1.below (B := w.heap.size) (Nat.le_refl _) hbd.size (fun j hj => by cases hj)); have q1 := HC.out _ hbel1)
          | (go_at_call 11; go_must (refine (HX.out _ hf1).mono ?_); rintro e w2 ⟨rfl, hf2, hk2⟩; have hr2 := Rd.keep hr1 hk2 (by omega) (by simp); have hbel2 := hbel1.trans (hk2.below (B := w.heap.size) (by omega) hbel1.size (fun j hj => by cases hj)); have q2 := HC.out _ hbel2; have x2 := hf2.cell2)
          | (go_at_call 12; go_must (refine (rErr_at _ _ _ _ hr2).mono ?_); rintro e w3 ⟨rfl, rfl⟩)
          | (go_at_call 13; go_must (refine (rLeft_at _ _ _ _ hr2).mono ?_); rintro e w3 ⟨rfl, rfl⟩)
          | (go_at_call 14; go_must (refine (rfLeft_at _ _ _ _ _ HG.out (by omega) hf2).mono ?_); rintro e w3 ⟨rfl, hf3, hk3⟩; have hr3 := Rd.keep hr2 hk3 (by omega) (by simp); have hbel3 := hbel2.trans (hk3.below (B := w.heap.size) (by omega) hbel2.size (fun j hj => by cases hj)); have q3 := HC.out _ hbel3))
      all_goals go_wp2_with fail
      all_goals go_roundw
      all_goals first
        | exact ⟨i + 1, s1, e1, by omega, by go_num, HG.out, hr3, hf3, hbel3⟩
        | (simp [intOf]; omega)
    · obtain rfl : i = len := by omega
      have hD := fun W (h : Rd w.heap.size rest e W) => rDone_at w.heap.size rest e W h
      have x2 := hrf.cell2
      by_cases he : e = 0
      · subst he
        by_cases hp : 0 < rest.size
        · have hdn : rdDone rest 0 = 12 := by unfold rdDone; rw [if_neg (by simp), if_pos hp]
          rw [hdn] at hD
          have hd2 : decide ((rest.size : Int) > 0) = true := by simpa using hp
          have HD := Lib.hid hD
          clear hD hdn
          go_wp2_with (first | (go_at_call 14; go_must (refine (rfLeft_at _ _ _ _ _ hgone (by omega) hrf).mono ?_); rintro e w3 ⟨rfl, hf3, hk3⟩; have hr3 := Rd.keep hrd hk3 (by omega) (by simp); have hbel3 := hbel.trans (hk3.below (B := w.heap.size) (by omega) hbel.size (fun j hj => by cases hj))) | (go_at_call 15; go_must (refine (HD.out _ hr3).mono ?_); rintro e w1 ⟨rfl, rfl⟩) | (go_at_call 8; go_must (refine (xknown_any _).mono ?_); rintro e w5 ⟨rfl, hb5⟩))
          go_ret
          exact ⟨rfl, hbel3.trans (hb5.mono hbel3.size)⟩
        · have hdn : rdDone rest 0 = 0 := by unfold rdDone; rw [if_neg (by simp), if_neg hp]
          rw [hdn] at hD
          have hd2 : decide ((rest.size : Int) > 0) = false := by simpa using hp
          have HD := Lib.hid hD
          clear hD hdn
          go_wp2_with (first | (go_at_call 14; go_must (refine (rfLeft_at _ _ _ _ _ hgone (by omega) hrf).mono ?_); rintro e w3 ⟨rfl, hf3, hk3⟩; have hr3 := Rd.keep hrd hk3 (by omega) (by simp); have hbel3 := hbel.trans (hk3.below (B := w.heap.size) (by omega) hbel.size (fun j hj => by cases hj))) | (go_at_call 15; go_must (refine (HD.out _ hr3).mono ?_); rintro e w1 ⟨rfl, rfl⟩) | (go_at_call 8; go_must (refine (xknown_any _).mono ?_); rintro e w5 ⟨rfl, hb5⟩))
          go_ret
          exact ⟨rfl, hbel3.trans (hb5.mono hbel3.size)⟩
      · have hdn : rdDone rest e = e := by unfold rdDone; rw [if_pos he]
        rw [hdn] at hD
        have he2 : (e == 0) = false := by simpa using he
        have HD := Lib.hid hD
        clear hD hdn
        go_wp2_with (first | (go_at_call 15; go_must (refine (HD.out _ hrd).mono ?_); rintro e w1 ⟨rfl, rfl⟩) | (go_at_call 8; go_must (refine (xknown_any _).mono ?_); rintro e w5 ⟨rfl, hb5⟩))
        go_ret
        exact ⟨rfl, hbel.trans (hb5.mono hbel.size)⟩

set_option maxRecDepth 100000 in
theorem walk_long (s : ByteArray) (ao : Option Addr) (b off len cap : Nat) (ts : List Th) (w : World) (hz : s.size ≤ 300) (hcap : len ≤ 9223372036854775807) (hao : 0 < len → ao = some ⟨b, off, none⟩ ∧ b < w.heap.size) (ht : Things b off len ts w) (hs : ¬ small ts) :
    Calls Tryd.prog 3 #[.string s, .slice ao len cap] w fun e w' => e = .returned (.bool true) ∧ Below w.heap.size w w' := by
  have HLarge := Lib.hid (xlarge_not ao b off len cap ts w hcap hao ht hs)
  clear hao ht hs
  have d1 : decide ((s.size : Int) > 300) = false := by simp; omega
  go_enter Tryd.func3, Tryd.ntmps3
  go_wp2_with (first | (go_at_call 7; go_must (refine HLarge.out.mono ?_); rintro e w1 ⟨rfl, rfl⟩) | (go_at_call 8; go_must (refine (xknown_any _).mono ?_); rintro e w1 ⟨rfl, hb⟩))
  go_ret
  exact ⟨rfl, hb⟩
set_option maxRecDepth 100000 in
theorem walk_far (s : ByteArray) (ao : Option Addr) (len cap : Nat) (w : World) (d : ¬ s.size ≤ 300) :
    Calls Tryd.prog 3 #[.string s, .slice ao len cap] w fun e w' => e = .returned (.bool true) ∧ Below w.heap.size w w' := by
  have d1 : decide ((s.size : Int) > 300) = true := by simp; omega
  go_enter Tryd.func3, Tryd.ntmps3
  go_wp2_with (go_at_call 8; go_must (refine (xknown_any _).mono ?_); rintro e w1 ⟨rfl, hb⟩)
  go_ret
  exact ⟨rfl, hb⟩
theorem reads_any (s : ByteArray) (ao : Option Addr) (b off len cap : Nat) (ts : List Th) (w : World) (hcap : len ≤ 9223372036854775807) (hao : 0 < len → ao = some ⟨b, off, none⟩ ∧ b < w.heap.size) (ht : Things b off len ts w) :
    Calls Tryd.prog 3 #[.string s, .slice ao len cap] w fun e w' => e = .returned (.bool true) ∧ Below w.heap.size w w' := by
  by_cases hz : s.size ≤ 300
  · by_cases hs : small ts
    · exact walk s ao b off len cap ts w hcap hz hao ht hs
    · exact walk_long s ao b off len cap ts w hz hcap hao ht hs
  · exact walk_far s ao len cap w hz

theorem laidOut : laidOutB Tryd.prog = true := by kernel_rfl
theorem laid_met (os : Os) : laidMet Tryd.prog Rows.xdrReadsRow.laid ((laidWorld os).forCall (fun _ _ => 0) ⟨#[], #[.string ⟨#[]⟩, .slice none 0 0], []⟩).memory :=
  laidMet_of_run' 8 (by kernel_rfl) (by kernel_rfl)
theorem reads (os : Os) {H : Type} (enc : TypeId × Value → H) : ∃ places, DataW.whole enc Tryd.prog ((laidWorld os).forCall (fun _ _ => 0) ⟨#[], #[.string ⟨#[]⟩, .slice none 0 0], []⟩).memory Tryd.f3.params.toList Rows.xdrReadsSpec.vars false (#[.string ⟨#[]⟩, .slice none 0 0] : Array Value).toList 8 = some ([.lit (.string []), .nil], [], places) :=
  ⟨[], by kernel_rfl⟩

set_option maxRecDepth 100000 in
theorem contract (H : Type) (enc : TypeId × Value → H) (W : World) (base : Nat) (args : Array Value) (ds gs : List (DataW H)) (before : List MemPlace)
    (hval : ∀ (j : Nat) t v, Tryd.f3.params[j]? = some t → args[j]? = some v → Value.okWide Tryd.prog W .any base t v)
    (hW : DataW.Whole enc Tryd.prog Tryd.f3.params.toList Rows.xdrReadsSpec.vars false W args.toList ds gs before) :
    Calls Tryd.prog 3 args W fun e W' => ∃ v, e = .returned v ∧ Rows.xdrReadsSpec.post enc Tryd.prog Tryd.f3 false true false false W args v W' := by
  have hW' := hW
  obtain ⟨p, q, hA0, hV, rfl, hfz, hnd⟩ := hW
  have hA : DataW.TrodAll enc Tryd.prog W 0 (fun _ => true) true Tryd.f3.params.toList args.toList ds p := hA0
  rw [Tryd.params3] at hA hval
  obtain ⟨v0, vs0, d0, ds0, p0, q0, hargs, rfl, rfl, h0, r0⟩ := trodAll_cons hA
  obtain ⟨v1, vs1, d1, ds1, p1, q1, rfl, rfl, rfl, h1, r1⟩ := trodAll_cons r0
  obtain ⟨rfl, rfl, rfl⟩ := trodAll_nil r1
  obtain rfl : args = #[v0, v1] := by cases args; simp_all
  have post : ∀ W', Below W.heap.size W W' → Rows.xdrReadsSpec.post enc Tryd.prog Tryd.f3 false true false false W #[v0, v1] (.bool true) W' := fun W' hg =>
    law_post laidOut (by rw [Tryd.params3]; decide +kernel) rfl Tryd.underlying4 rfl hW' rfl hg
  have done : ∀ (e : Ending) W', (e = .returned (.bool true) ∧ Below W.heap.size W W') → ∃ v, e = .returned v ∧ Rows.xdrReadsSpec.post enc Tryd.prog Tryd.f3 false true false false W #[v0, v1] v W' := fun e W' ⟨he, hg⟩ => ⟨_, he, post W' hg⟩
  clear post
  obtain ⟨s, rfl, rfl, rfl, hs⟩ := open_string Tryd.underlying9 (hval 0 9 v0 rfl rfl) h0
  obtain ⟨fuel, hf⟩ := h1
  obtain ⟨ao, b, off, len, cap, ts, rfl, hcap, hao, ht⟩ := open_things (okWide_slice Tryd.underlying22 (hval 1 22 v1 rfl rfl)) hf
  exact (reads_any s ao b off len cap ts W hcap hao ht).mono fun e W' h => done e W' h


set_option maxRecDepth 100000 in
theorem lifted (os : Os) (started : os.Started) (H : Type) (enc : TypeId × Value → H) (F : Stop.Interp) :
    ReturnsInHanded {} Tryd.checked os 3 .any ((OpenSpec.ofChange Rows.xdrReadsSpec).preRow enc Tryd.prog Tryd.f3 Rows.xdrReadsRow.domain false Rows.xdrReadsRow.laid) (((OpenSpec.ofChange Rows.xdrReadsSpec).at F).post enc Tryd.prog Tryd.f3 false true false false) := by
  obtain ⟨places, hx⟩ := reads os enc
  refine returnsInHanded_of_row (C := Tryd.checked) (s := OpenSpec.ofChange Rows.xdrReadsSpec) own started (by kernel_rfl) Tryd.func3
    (witness_row_at (enc := enc) (C := Tryd.checked) false (laidWorld os) #[.string ⟨#[]⟩, .slice none 0 0] rfl (by kernel_rfl) (by kernel_rfl) (by kernel_rfl)
      (OpenSpec.preRow_of_cond 8 hx (by kernel_rfl) (fun k hk => by cases hk) (by kernel_rfl) (laid_met os))) ?_
  intro W base args ds gs before hval hW _ _ _ hL _ _
  exact contract H enc W base args ds gs before hval hW

theorem said : Rows.XdrReadsSaid :=
  OpenClaim.holds_of_cond 3 Tryd.f3 rfl rfl rfl rfl rfl rfl rfl ⟨rfl, rfl, rfl, rfl, rfl⟩ rfl rfl rfl rfl rfl (by kernel_rfl) Tryd.func3 (by kernel_rfl)
    (of_decide_eq_true (by kernel_rfl)) (by unfold Func.isWrapper; first | (rw [if_pos (by decide +kernel)]; kernel_rfl) | (rw [if_neg (by decide +kernel)]; exact ⟨rfl, rfl⟩))
    (fun os started H enc _ F => by rw [OpenClaim.pre_eq_preRow]; exact lifted os started H enc F)

theorem plain (f : FuncId) (fn : Func) (hf : Tryd.pinned.checked.prog.funcNamed Rows.xdrReadsRow.func = some f) (hfn : Tryd.pinned.checked.prog.funcs[f]? = some fn) :
    false = Tryd.pinned.checked.prog.looks [] ∧ ∀ (j : Nat) t, fn.params[j]? = some t → Tryd.pinned.checked.prog.wantsStandIn t = false := by
  obtain rfl : f = 3 := Option.some.inj ((show Tryd.prog.funcNamed Rows.xdrReadsRow.func = some 3 by kernel_rfl).symm.trans hf) |>.symm
  obtain rfl : fn = Tryd.f3 := (Option.some.inj (Tryd.func3.symm.trans hfn)).symm
  refine ⟨by kernel_rfl, fun j t ht => ?_⟩
  have hall : Tryd.f3.params.all (fun t => Tryd.prog.wantsStandIn t == false) = true := by kernel_rfl
  have := Array.all_eq_true.1 hall j (Array.getElem?_eq_some_iff.1 ht).1
  rw [(Array.getElem?_eq_some_iff.1 ht).2] at this
  have h2 : Tryd.prog.wantsStandIn t = false := by simpa using this
  exact h2

theorem card : Rows.XdrReadsCardSaid :=
  Claim7.holds_tied_plain_at .later [] _ _ _ _ said (fun _ h => by cases h) (by kernel_rfl) (fun _ h => by cases h) xdrReads_row_tie rfl ⟨rfl, rfl⟩ (by kernel_rfl) rfl plain (by kernel_rfl)

end Go.Proofs.YtpniadpefpcedaaDoor.xdrReads
