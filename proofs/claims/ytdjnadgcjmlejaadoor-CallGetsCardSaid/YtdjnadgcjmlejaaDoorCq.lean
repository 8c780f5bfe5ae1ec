/- attr: the reference's getting of a change. -/
import Derived.Test.YtdjnadgcjmlejaaDoorCi
import Derived.Test.YtdjnadgcjmlejaaDoorRs
import Derived.Test.YtdjnadgcjmlejaaDoorCk
import Derived.RegionTactic
import Derived.ChangeAlike
import Derived.BigRegion
namespace Go.Proofs.YtdjnadgcjmlejaaDoor
open Go.Joins Go.RowKit

theorem Rf.setRow {k g : Nat} {S rest : ByteArray} {e : Int} {w : World} (h : Rf k S rest e w) (hne : k ≠ g) (row : Array Value) : Rf k S rest e (w.setRow g row) := by
  obtain ⟨p, hp, hst, hr⟩ := h
  exact ⟨p, hp, hst.setRow_other hne row, hr⟩
theorem Rf.setCells {k g : Nat} {S rest : ByteArray} {e : Int} {w : World} (h : Rf k S rest e w) (hne : g ≠ k) (vs : List Value) (o : Nat) : Rf k S rest e (w.setCells g o vs) := by
  obtain ⟨p, hp, hst, hr⟩ := h
  exact ⟨p, hp, St.setCells_other hne vs o w hst, hr⟩
theorem keep_setCells {k b : Nat} {r : Option Nat} {w : World} (hb : w.heap.size ≤ b) : ∀ (vs : List Value) (o : Nat) (w' : World), Keep k r w w' → Keep k r w (w'.setCells b o vs)
  | [], _, _, h => h
  | v :: vs, o, w', h => keep_setCells hb vs (o + 1) _ (keep_new h hb o v)
theorem St.drew {T : TypeId} {k : Nat} {cs : Array Value} {w : World} (h : St T k cs w) : St T k cs w.drew := h
theorem Rf.drew {k : Nat} {S rest : ByteArray} {e : Int} {w : World} (h : Rf k S rest e w) : Rf k S rest e w.drew := h
theorem over_zero : over #[.bool false, .int .i64 0, .bool false, .int .i64 0, .bool false, .int .i64 0, .bool false, .int .i64 0, .bool false, .int .i64 0] 0 [.bool false, .int .i64 0, .bool false, .int .i64 0, .bool false, .int .i64 0, .bool false, .int .i64 0, .bool false, .int .i64 0] = #[.bool false, .int .i64 0, .bool false, .int .i64 0, .bool false, .int .i64 0, .bool false, .int .i64 0, .bool false, .int .i64 0] := by kernel_rfl
theorem Rf.below {k : Nat} {S rest : ByteArray} {e : Int} {w w' : World} (h : Rf k S rest e w) (hb : Below w.heap.size w w') : Rf k S rest e w' := by
  obtain ⟨p, hp, hst, hr⟩ := h
  exact ⟨p, hp, hst.below hb, hr⟩

set_option maxRecDepth 100000 in
set_option maxHeartbeats 4000000 in
theorem afGetSet_err (m : Nat) (S s : ByteArray) (e : Int) (w : World) (hS : S.size ≤ 1073741824) (he : (psTake s e).2.1 ≠ 0) (h : Rf m S s e w) :
    Calls Tryd.prog 31 #[.pointer (some ⟨m, 0, none⟩)] w fun r w' => r = .returned (.tuple #[.agg (psGet s e).1.vs.toArray, .int .i64 (psGet s e).2]) ∧ Rf m S (psTake s e).1 (psTake s e).2.1 w' ∧ Keep m none w w' := by
  obtain ⟨s1, e1, b1, n1, hr1⟩ : ∃ s1 e1 b1 n1, rdOpt s e = (s1, e1, b1, n1) := ⟨_, _, _, _, rfl⟩
  obtain ⟨s2, e2, b2, n2, hr2⟩ : ∃ s2 e2 b2 n2, rdOpt s1 e1 = (s2, e2, b2, n2) := ⟨_, _, _, _, rfl⟩
  obtain ⟨s3, e3, b3, n3, hr3⟩ : ∃ s3 e3 b3 n3, rdOpt s2 e2 = (s3, e3, b3, n3) := ⟨_, _, _, _, rfl⟩
  obtain ⟨s4, e4, b4, n4, hr4⟩ : ∃ s4 e4 b4 n4, rdOpt s3 e3 = (s4, e4, b4, n4) := ⟨_, _, _, _, rfl⟩
  obtain ⟨s5, e5, b5, n5, hr5⟩ : ∃ s5 e5 b5 n5, rdOpt s4 e4 = (s5, e5, b5, n5) := ⟨_, _, _, _, rfl⟩
  have ht := psTake_of hr1 hr2 hr3 hr4 hr5
  have hg : psGet s e = got Ps.zero okPs (s5, e5, ⟨⟨b1, n1⟩, ⟨b2, n2⟩, ⟨b3, n3⟩, ⟨b4, n4⟩, ⟨b5, n5⟩⟩) := by unfold psGet; rw [ht]
  rw [hg, ht]
  rw [ht] at he
  have he : e5 ≠ 0 := he
  rw [got_err he]
  have d1 : (e5 == 0) = false := by simpa using he
  have d2 : (e5 != 0) = true := by simpa using he
  clear he
  simp only [Ps.vs, Po.vs, Ps.zero, Po.zero, List.cons_append, List.nil_append]
  clear hg ht
  have hm := h.lt
  have O1 := fun w h => rfOpt_any m S s e w hS h
  rw [hr1] at O1
  replace O1 := Lib.hid O1
  have O2 := fun w h => rfOpt_any m S s1 e1 w hS h
  rw [hr2] at O2
  replace O2 := Lib.hid O2
  have O3 := fun w h => rfOpt_any m S s2 e2 w hS h
  rw [hr3] at O3
  replace O3 := Lib.hid O3
  have O4 := fun w h => rfOpt_any m S s3 e3 w hS h
  rw [hr4] at O4
  replace O4 := Lib.hid O4
  have O5 := fun w h => rfOpt_any m S s4 e4 w hS h
  rw [hr5] at O5
  replace O5 := Lib.hid O5
  clear hr1 hr2 hr3 hr4 hr5
  have G0 := Lib.hid ((h.alloc (.cells #[.bool false, .int .i64 0, .bool false, .int .i64 0, .bool false, .int .i64 0, .bool false, .int .i64 0, .bool false, .int .i64 0] 28 (0, 0))).alloc (.cells #[.bool false, .int .i64 0, .bool false, .int .i64 0, .bool false, .int .i64 0, .bool false, .int .i64 0, .bool false, .int .i64 0] 28 (0, 0)))
  have A0 := Lib.hid ((St.new w 28 #[.bool false, .int .i64 0, .bool false, .int .i64 0, .bool false, .int .i64 0, .bool false, .int .i64 0, .bool false, .int .i64 0]).alloc (.cells #[.bool false, .int .i64 0, .bool false, .int .i64 0, .bool false, .int .i64 0, .bool false, .int .i64 0, .bool false, .int .i64 0] 28 (0, 0)))
  have S0 := Lib.hid (St.new2 w (.cells #[.bool false, .int .i64 0, .bool false, .int .i64 0, .bool false, .int .i64 0, .bool false, .int .i64 0, .bool false, .int .i64 0] 28 (0, 0)) 28 #[.bool false, .int .i64 0, .bool false, .int .i64 0, .bool false, .int .i64 0, .bool false, .int .i64 0, .bool false, .int .i64 0])
  have K0 := Lib.hid (((Keep.refl m none w).alloc (.cells #[.bool false, .int .i64 0, .bool false, .int .i64 0, .bool false, .int .i64 0, .bool false, .int .i64 0, .bool false, .int .i64 0] 28 (0, 0))).alloc (.cells #[.bool false, .int .i64 0, .bool false, .int .i64 0, .bool false, .int .i64 0, .bool false, .int .i64 0, .bool false, .int .i64 0] 28 (0, 0)))
  have hz0 : ((w.alloc (.cells #[.bool false, .int .i64 0, .bool false, .int .i64 0, .bool false, .int .i64 0, .bool false, .int .i64 0, .bool false, .int .i64 0] 28 (0, 0))).alloc (.cells #[.bool false, .int .i64 0, .bool false, .int .i64 0, .bool false, .int .i64 0, .bool false, .int .i64 0, .bool false, .int .i64 0] 28 (0, 0))).heap.size = w.heap.size + 2 := by simp
  clear h
  go_enter Tryd.func31, Tryd.ntmps31
  go_wp2_with fail
  go_must (refine (O1.out _ G0.out).mono ?_)
  rintro r w1 ⟨rfl, g1, k1⟩
  have st := S0.out.keepN k1 (by omega)
  have ca := st.cell (j := 0) rfl
  have cb := st.cell (j := 1) rfl
  have fa := st.free 0
  have fb := st.free 1
  have S1 := Lib.hid (show St 28 (w.heap.size + 1) #[.bool b1, .int .i64 n1, .bool false, .int .i64 0, .bool false, .int .i64 0, .bool false, .int .i64 0, .bool false, .int .i64 0] ((w1.setCell ⟨w.heap.size + 1, 0, none⟩ (.bool b1)).setCell ⟨w.heap.size + 1, 1, none⟩ (.int .i64 n1)) from (st.set 0 (.bool b1)).set 1 (.int .i64 n1))
  have A1 := Lib.hid (((A0.out.keepN k1 (by omega)).other (w.heap.size + 1) 0 (.bool b1) (by omega)).other (w.heap.size + 1) 1 (.int .i64 n1) (by omega))
  have G1 := Lib.hid ((g1.other (w.heap.size + 1) 0 (.bool b1) (by omega)).other (w.heap.size + 1) 1 (.int .i64 n1) (by omega))
  have K1 := Lib.hid (keep_new (keep_new (K0.out.trans k1 (.inl rfl)) (b := (w.heap.size + 1)) (by omega) 0 (.bool b1)) (b := (w.heap.size + 1)) (by omega) 1 (.int .i64 n1))
  clear st g1 k1
  go_wp2_with fail
  go_must (refine (O2.out _ G1.out).mono ?_)
  rintro r w2 ⟨rfl, g2, k2⟩
  have st := S1.out.keepN k2 (by omega)
  have ca := st.cell (j := 2) rfl
  have cb := st.cell (j := 3) rfl
  have fa := st.free 2
  have fb := st.free 3
  have S2 := Lib.hid (show St 28 (w.heap.size + 1) #[.bool b1, .int .i64 n1, .bool b2, .int .i64 n2, .bool false, .int .i64 0, .bool false, .int .i64 0, .bool false, .int .i64 0] ((w2.setCell ⟨w.heap.size + 1, 2, none⟩ (.bool b2)).setCell ⟨w.heap.size + 1, 3, none⟩ (.int .i64 n2)) from (st.set 2 (.bool b2)).set 3 (.int .i64 n2))
  have A2 := Lib.hid (((A1.out.keepN k2 (by omega)).other (w.heap.size + 1) 2 (.bool b2) (by omega)).other (w.heap.size + 1) 3 (.int .i64 n2) (by omega))
  have G2 := Lib.hid ((g2.other (w.heap.size + 1) 2 (.bool b2) (by omega)).other (w.heap.size + 1) 3 (.int .i64 n2) (by omega))
  have K2 := Lib.hid (keep_new (keep_new (K1.out.trans k2 (.inl rfl)) (b := (w.heap.size + 1)) (by omega) 2 (.bool b2)) (b := (w.heap.size + 1)) (by omega) 3 (.int .i64 n2))
  clear st g2 k2
  go_wp2_with fail
  go_must (refine (O3.out _ G2.out).mono ?_)
  rintro r w3 ⟨rfl, g3, k3⟩
  have st := S2.out.keepN k3 (by omega)
  have ca := st.cell (j := 4) rfl
  have cb := st.cell (j := 5) rfl
  have fa := st.free 4
  have fb := st.free 5
  have S3 := Lib.hid (show St 28 (w.heap.size + 1) #[.bool b1, .int .i64 n1, .bool b2, .int .i64 n2, .bool b3, .int .i64 n3, .bool false, .int .i64 0, .bool false, .int .i64 0] ((w3.setCell ⟨w.heap.size + 1, 4, none⟩ (.bool b3)).setCell ⟨w.heap.size + 1, 5, none⟩ (.int .i64 n3)) from (st.set 4 (.bool b3)).set 5 (.int .i64 n3))
  have A3 := Lib.hid (((A2.out.keepN k3 (by omega)).other (w.heap.size + 1) 4 (.bool b3) (by omega)).other (w.heap.size + 1) 5 (.int .i64 n3) (by omega))
  have G3 := Lib.hid ((g3.other (w.heap.size + 1) 4 (.bool b3) (by omega)).other (w.heap.size + 1) 5 (.int .i64 n3) (by omega))
  have K3 := Lib.hid (keep_new (keep_new (K2.out.trans k3 (.inl rfl)) (b := (w.heap.size + 1)) (by omega) 4 (.bool b3)) (b := (w.heap.size + 1)) (by omega) 5 (.int .i64 n3))
  clear st g3 k3
  go_wp2_with fail
  go_must (refine (O4.out _ G3.out).mono ?_)
  rintro r w4 ⟨rfl, g4, k4⟩
  have st := S3.out.keepN k4 (by omega)
  have ca := st.cell (j := 6) rfl
  have cb := st.cell (j := 7) rfl
  have fa := st.free 6
  have fb := st.free 7
  have S4 := Lib.hid (show St 28 (w.heap.size + 1) #[.bool b1, .int .i64 n1, .bool b2, .int .i64 n2, .bool b3, .int .i64 n3, .bool b4, .int .i64 n4, .bool false, .int .i64 0] ((w4.setCell ⟨w.heap.size + 1, 6, none⟩ (.bool b4)).setCell ⟨w.heap.size + 1, 7, none⟩ (.int .i64 n4)) from (st.set 6 (.bool b4)).set 7 (.int .i64 n4))
  have A4 := Lib.hid (((A3.out.keepN k4 (by omega)).other (w.heap.size + 1) 6 (.bool b4) (by omega)).other (w.heap.size + 1) 7 (.int .i64 n4) (by omega))
  have G4 := Lib.hid ((g4.other (w.heap.size + 1) 6 (.bool b4) (by omega)).other (w.heap.size + 1) 7 (.int .i64 n4) (by omega))
  have K4 := Lib.hid (keep_new (keep_new (K3.out.trans k4 (.inl rfl)) (b := (w.heap.size + 1)) (by omega) 6 (.bool b4)) (b := (w.heap.size + 1)) (by omega) 7 (.int .i64 n4))
  clear st g4 k4
  go_wp2_with fail
  go_must (refine (O5.out _ G4.out).mono ?_)
  rintro r w5 ⟨rfl, g5, k5⟩
  have st := S4.out.keepN k5 (by omega)
  have ca := st.cell (j := 8) rfl
  have cb := st.cell (j := 9) rfl
  have fa := st.free 8
  have fb := st.free 9
  have S5 := Lib.hid (show St 28 (w.heap.size + 1) #[.bool b1, .int .i64 n1, .bool b2, .int .i64 n2, .bool b3, .int .i64 n3, .bool b4, .int .i64 n4, .bool b5, .int .i64 n5] ((w5.setCell ⟨w.heap.size + 1, 8, none⟩ (.bool b5)).setCell ⟨w.heap.size + 1, 9, none⟩ (.int .i64 n5)) from (st.set 8 (.bool b5)).set 9 (.int .i64 n5))
  have A5 := Lib.hid (((A4.out.keepN k5 (by omega)).other (w.heap.size + 1) 8 (.bool b5) (by omega)).other (w.heap.size + 1) 9 (.int .i64 n5) (by omega))
  have G5 := Lib.hid ((g5.other (w.heap.size + 1) 8 (.bool b5) (by omega)).other (w.heap.size + 1) 9 (.int .i64 n5) (by omega))
  have K5 := Lib.hid (keep_new (keep_new (K4.out.trans k5 (.inl rfl)) (b := (w.heap.size + 1)) (by omega) 8 (.bool b5)) (b := (w.heap.size + 1)) (by omega) 9 (.int .i64 n5))
  clear st g5 k5
  have cm : ((w5.setCell ⟨w.heap.size + 1, 8, none⟩ (.bool b5)).setCell ⟨w.heap.size + 1, 9, none⟩ (.int .i64 n5)).cell? ⟨m, 2, none⟩ = some (.int .i64 e5) := by
    obtain ⟨q, _, hq, _⟩ := G5.out
    exact hq.cell rfl
  go_wp2_with fail
  obtain ⟨W, hW⟩ : ∃ W, W = ((w5.setCell ⟨w.heap.size + 1, 8, none⟩ (.bool b5)).setCell ⟨w.heap.size + 1, 9, none⟩ (.int .i64 n5)) := ⟨_, rfl⟩
  rw [← hW] at cm
  have AW : St 28 w.heap.size #[.bool false, .int .i64 0, .bool false, .int .i64 0, .bool false, .int .i64 0, .bool false, .int .i64 0, .bool false, .int .i64 0] W := hW ▸ A5.out
  obtain ⟨a0, a1, a2, a3, a4, a5, a6, a7, a8, a9⟩ := AW.cell10
  have y0 := AW.free 0
  have y1 := AW.free 1
  have y2 := AW.free 2
  have y3 := AW.free 3
  have y4 := AW.free 4
  have y5 := AW.free 5
  have y6 := AW.free 6
  have y7 := AW.free 7
  have y8 := AW.free 8
  have y9 := AW.free 9
  rw [← hW]
  have GW := Lib.hid (show Rf m S s5 e5 W from hW ▸ G5.out)
  have KW := Lib.hid (show Keep m none w W from hW ▸ K5.out)
  have AQ := Lib.hid AW
  clear hW AW
  go_region
  change Exit.then _ _ Exit.normal _ (World.drew (W.setCells w.heap.size 0 [.bool false, .int .i64 0, .bool false, .int .i64 0, .bool false, .int .i64 0, .bool false, .int .i64 0, .bool false, .int .i64 0]))
  have sf := (St.setCells [.bool false, .int .i64 0, .bool false, .int .i64 0, .bool false, .int .i64 0, .bool false, .int .i64 0, .bool false, .int .i64 0] 0 #[.bool false, .int .i64 0, .bool false, .int .i64 0, .bool false, .int .i64 0, .bool false, .int .i64 0, .bool false, .int .i64 0] W AQ.out).drew
  rw [over_zero] at sf
  have gf := (GW.out.setCells (g := w.heap.size) (by omega) [.bool false, .int .i64 0, .bool false, .int .i64 0, .bool false, .int .i64 0, .bool false, .int .i64 0, .bool false, .int .i64 0] 0).drew
  have kf := (keep_setCells (Nat.le_refl _) [.bool false, .int .i64 0, .bool false, .int .i64 0, .bool false, .int .i64 0, .bool false, .int .i64 0, .bool false, .int .i64 0] 0 W KW.out).drew
  generalize World.drew (W.setCells w.heap.size 0 [.bool false, .int .i64 0, .bool false, .int .i64 0, .bool false, .int .i64 0, .bool false, .int .i64 0, .bool false, .int .i64 0]) = Wf at sf gf kf ⊢
  have SF := Lib.hid sf
  have GF := Lib.hid gf
  have KF := Lib.hid kf
  clear sf gf kf
  go_wp2_with fail
  refine ret_cell2 (r := 2) (t := 3) (k := w.heap.size) (T := 28) Tryd.results31 rfl rfl SF.out Tryd.underlying28 rfl (by kernel_rfl) rfl ?_
  exact ⟨rfl, GF.out, KF.out⟩
set_option maxRecDepth 100000 in
set_option maxHeartbeats 4000000 in
theorem afGetSet_not (m : Nat) (S s : ByteArray) (e : Int) (w : World) (hS : S.size ≤ 1073741824) (he : (psTake s e).2.1 = 0) (hk : okPs (psTake s e).2.2 = false) (h : Rf m S s e w) :
    Calls Tryd.prog 31 #[.pointer (some ⟨m, 0, none⟩)] w fun r w' => r = .returned (.tuple #[.agg (psGet s e).1.vs.toArray, .int .i64 (psGet s e).2]) ∧ Rf m S (psTake s e).1 (psTake s e).2.1 w' ∧ Keep m none w w' := by
  obtain ⟨s1, e1, b1, n1, hr1⟩ : ∃ s1 e1 b1 n1, rdOpt s e = (s1, e1, b1, n1) := ⟨_, _, _, _, rfl⟩
  obtain ⟨s2, e2, b2, n2, hr2⟩ : ∃ s2 e2 b2 n2, rdOpt s1 e1 = (s2, e2, b2, n2) := ⟨_, _, _, _, rfl⟩
  obtain ⟨s3, e3, b3, n3, hr3⟩ : ∃ s3 e3 b3 n3, rdOpt s2 e2 = (s3, e3, b3, n3) := ⟨_, _, _, _, rfl⟩
  obtain ⟨s4, e4, b4, n4, hr4⟩ : ∃ s4 e4 b4 n4, rdOpt s3 e3 = (s4, e4, b4, n4) := ⟨_, _, _, _, rfl⟩
  obtain ⟨s5, e5, b5, n5, hr5⟩ : ∃ s5 e5 b5 n5, rdOpt s4 e4 = (s5, e5, b5, n5) := ⟨_, _, _, _, rfl⟩
  have ht := psTake_of hr1 hr2 hr3 hr4 hr5
  have hg : psGet s e = got Ps.zero okPs (s5, e5, ⟨⟨b1, n1⟩, ⟨b2, n2⟩, ⟨b3, n3⟩, ⟨b4, n4⟩, ⟨b5, n5⟩⟩) := by unfold psGet; rw [ht]
  rw [hg, ht]
  rw [ht] at he hk
  have he : e5 = 0 := he
  subst he
  have hk : okPs ⟨⟨b1, n1⟩, ⟨b2, n2⟩, ⟨b3, n3⟩, ⟨b4, n4⟩, ⟨b5, n5⟩⟩ = false := hk
  rw [got_not hk]
  have hC := fun w => afSet_any ⟨⟨b1, n1⟩, ⟨b2, n2⟩, ⟨b3, n3⟩, ⟨b4, n4⟩, ⟨b5, n5⟩⟩ w
  rw [hk] at hC
  clear hk
  simp only [Ps.val, Ps.vs, Po.vs, List.cons_append, List.nil_append] at hC
  replace hC := Lib.hid hC
  simp only [Ps.vs, Po.vs, Ps.zero, Po.zero, List.cons_append, List.nil_append]
  clear hg ht
  have hm := h.lt
  have O1 := fun w h => rfOpt_any m S s e w hS h
  rw [hr1] at O1
  replace O1 := Lib.hid O1
  have O2 := fun w h => rfOpt_any m S s1 e1 w hS h
  rw [hr2] at O2
  replace O2 := Lib.hid O2
  have O3 := fun w h => rfOpt_any m S s2 e2 w hS h
  rw [hr3] at O3
  replace O3 := Lib.hid O3
  have O4 := fun w h => rfOpt_any m S s3 e3 w hS h
  rw [hr4] at O4
  replace O4 := Lib.hid O4
  have O5 := fun w h => rfOpt_any m S s4 e4 w hS h
  rw [hr5] at O5
  replace O5 := Lib.hid O5
  clear hr1 hr2 hr3 hr4 hr5
  have G0 := Lib.hid ((h.alloc (.cells #[.bool false, .int .i64 0, .bool false, .int .i64 0, .bool false, .int .i64 0, .bool false, .int .i64 0, .bool false, .int .i64 0] 28 (0, 0))).alloc (.cells #[.bool false, .int .i64 0, .bool false, .int .i64 0, .bool false, .int .i64 0, .bool false, .int .i64 0, .bool false, .int .i64 0] 28 (0, 0)))
  have A0 := Lib.hid ((St.new w 28 #[.bool false, .int .i64 0, .bool false, .int .i64 0, .bool false, .int .i64 0, .bool false, .int .i64 0, .bool false, .int .i64 0]).alloc (.cells #[.bool false, .int .i64 0, .bool false, .int .i64 0, .bool false, .int .i64 0, .bool false, .int .i64 0, .bool false, .int .i64 0] 28 (0, 0)))
  have S0 := Lib.hid (St.new2 w (.cells #[.bool false, .int .i64 0, .bool false, .int .i64 0, .bool false, .int .i64 0, .bool false, .int .i64 0, .bool false, .int .i64 0] 28 (0, 0)) 28 #[.bool false, .int .i64 0, .bool false, .int .i64 0, .bool false, .int .i64 0, .bool false, .int .i64 0, .bool false, .int .i64 0])
  have K0 := Lib.hid (((Keep.refl m none w).alloc (.cells #[.bool false, .int .i64 0, .bool false, .int .i64 0, .bool false, .int .i64 0, .bool false, .int .i64 0, .bool false, .int .i64 0] 28 (0, 0))).alloc (.cells #[.bool false, .int .i64 0, .bool false, .int .i64 0, .bool false, .int .i64 0, .bool false, .int .i64 0, .bool false, .int .i64 0] 28 (0, 0)))
  have hz0 : ((w.alloc (.cells #[.bool false, .int .i64 0, .bool false, .int .i64 0, .bool false, .int .i64 0, .bool false, .int .i64 0, .bool false, .int .i64 0] 28 (0, 0))).alloc (.cells #[.bool false, .int .i64 0, .bool false, .int .i64 0, .bool false, .int .i64 0, .bool false, .int .i64 0, .bool false, .int .i64 0] 28 (0, 0))).heap.size = w.heap.size + 2 := by simp
  clear h
  go_enter Tryd.func31, Tryd.ntmps31
  go_wp2_with fail
  go_must (refine (O1.out _ G0.out).mono ?_)
  rintro r w1 ⟨rfl, g1, k1⟩
  have st := S0.out.keepN k1 (by omega)
  have ca := st.cell (j := 0) rfl
  have cb := st.cell (j := 1) rfl
  have fa := st.free 0
  have fb := st.free 1
  have S1 := Lib.hid (show St 28 (w.heap.size + 1) #[.bool b1, .int .i64 n1, .bool false, .int .i64 0, .bool false, .int .i64 0, .bool false, .int .i64 0, .bool false, .int .i64 0] ((w1.setCell ⟨w.heap.size + 1, 0, none⟩ (.bool b1)).setCell ⟨w.heap.size + 1, 1, none⟩ (.int .i64 n1)) from (st.set 0 (.bool b1)).set 1 (.int .i64 n1))
  have A1 := Lib.hid (((A0.out.keepN k1 (by omega)).other (w.heap.size + 1) 0 (.bool b1) (by omega)).other (w.heap.size + 1) 1 (.int .i64 n1) (by omega))
  have G1 := Lib.hid ((g1.other (w.heap.size + 1) 0 (.bool b1) (by omega)).other (w.heap.size + 1) 1 (.int .i64 n1) (by omega))
  have K1 := Lib.hid (keep_new (keep_new (K0.out.trans k1 (.inl rfl)) (b := (w.heap.size + 1)) (by omega) 0 (.bool b1)) (b := (w.heap.size + 1)) (by omega) 1 (.int .i64 n1))
  clear st g1 k1
  go_wp2_with fail
  go_must (refine (O2.out _ G1.out).mono ?_)
  rintro r w2 ⟨rfl, g2, k2⟩
  have st := S1.out.keepN k2 (by omega)
  have ca := st.cell (j := 2) rfl
  have cb := st.cell (j := 3) rfl
  have fa := st.free 2
  have fb := st.free 3
  have S2 := Lib.hid (show St 28 (w.heap.size + 1) #[.bool b1, .int .i64 n1, .bool b2, .int .i64 n2, .bool false, .int .i64 0, .bool false, .int .i64 0, .bool false, .int .i64 0] ((w2.setCell ⟨w.heap.size + 1, 2, none⟩ (.bool b2)).setCell ⟨w.heap.size + 1, 3, none⟩ (.int .i64 n2)) from (st.set 2 (.bool b2)).set 3 (.int .i64 n2))
  have A2 := Lib.hid (((A1.out.keepN k2 (by omega)).other (w.heap.size + 1) 2 (.bool b2) (by omega)).other (w.heap.size + 1) 3 (.int .i64 n2) (by omega))
  have G2 := Lib.hid ((g2.other (w.heap.size + 1) 2 (.bool b2) (by omega)).other (w.heap.size + 1) 3 (.int .i64 n2) (by omega))
  have K2 := Lib.hid (keep_new (keep_new (K1.out.trans k2 (.inl rfl)) (b := (w.heap.size + 1)) (by omega) 2 (.bool b2)) (b := (w.heap.size + 1)) (by omega) 3 (.int .i64 n2))
  clear st g2 k2
  go_wp2_with fail
  go_must (refine (O3.out _ G2.out).mono ?_)
  rintro r w3 ⟨rfl, g3, k3⟩
  have st := S2.out.keepN k3 (by omega)
  have ca := st.cell (j := 4) rfl
  have cb := st.cell (j := 5) rfl
  have fa := st.free 4
  have fb := st.free 5
  have S3 := Lib.hid (show St 28 (w.heap.size + 1) #[.bool b1, .int .i64 n1, .bool b2, .int .i64 n2, .bool b3, .int .i64 n3, .bool false, .int .i64 0, .bool false, .int .i64 0] ((w3.setCell ⟨w.heap.size + 1, 4, none⟩ (.bool b3)).setCell ⟨w.heap.size + 1, 5, none⟩ (.int .i64 n3)) from (st.set 4 (.bool b3)).set 5 (.int .i64 n3))
  have A3 := Lib.hid (((A2.out.keepN k3 (by omega)).other (w.heap.size + 1) 4 (.bool b3) (by omega)).other (w.heap.size + 1) 5 (.int .i64 n3) (by omega))
  have G3 := Lib.hid ((g3.other (w.heap.size + 1) 4 (.bool b3) (by omega)).other (w.heap.size + 1) 5 (.int .i64 n3) (by omega))
  have K3 := Lib.hid (keep_new (keep_new (K2.out.trans k3 (.inl rfl)) (b := (w.heap.size + 1)) (by omega) 4 (.bool b3)) (b := (w.heap.size + 1)) (by omega) 5 (.int .i64 n3))
  clear st g3 k3
  go_wp2_with fail
  go_must (refine (O4.out _ G3.out).mono ?_)
  rintro r w4 ⟨rfl, g4, k4⟩
  have st := S3.out.keepN k4 (by omega)
  have ca := st.cell (j := 6) rfl
  have cb := st.cell (j := 7) rfl
  have fa := st.free 6
  have fb := st.free 7
  have S4 := Lib.hid (show St 28 (w.heap.size + 1) #[.bool b1, .int .i64 n1, .bool b2, .int .i64 n2, .bool b3, .int .i64 n3, .bool b4, .int .i64 n4, .bool false, .int .i64 0] ((w4.setCell ⟨w.heap.size + 1, 6, none⟩ (.bool b4)).setCell ⟨w.heap.size + 1, 7, none⟩ (.int .i64 n4)) from (st.set 6 (.bool b4)).set 7 (.int .i64 n4))
  have A4 := Lib.hid (((A3.out.keepN k4 (by omega)).other (w.heap.size + 1) 6 (.bool b4) (by omega)).other (w.heap.size + 1) 7 (.int .i64 n4) (by omega))
  have G4 := Lib.hid ((g4.other (w.heap.size + 1) 6 (.bool b4) (by omega)).other (w.heap.size + 1) 7 (.int .i64 n4) (by omega))
  have K4 := Lib.hid (keep_new (keep_new (K3.out.trans k4 (.inl rfl)) (b := (w.heap.size + 1)) (by omega) 6 (.bool b4)) (b := (w.heap.size + 1)) (by omega) 7 (.int .i64 n4))
  clear st g4 k4
  go_wp2_with fail
  go_must (refine (O5.out _ G4.out).mono ?_)
  rintro r w5 ⟨rfl, g5, k5⟩
  have st := S4.out.keepN k5 (by omega)
  have ca := st.cell (j := 8) rfl
  have cb := st.cell (j := 9) rfl
  have fa := st.free 8
  have fb := st.free 9
  have S5 := Lib.hid (show St 28 (w.heap.size + 1) #[.bool b1, .int .i64 n1, .bool b2, .int .i64 n2, .bool b3, .int .i64 n3, .bool b4, .int .i64 n4, .bool b5, .int .i64 n5] ((w5.setCell ⟨w.heap.size + 1, 8, none⟩ (.bool b5)).setCell ⟨w.heap.size + 1, 9, none⟩ (.int .i64 n5)) from (st.set 8 (.bool b5)).set 9 (.int .i64 n5))
  have A5 := Lib.hid (((A4.out.keepN k5 (by omega)).other (w.heap.size + 1) 8 (.bool b5) (by omega)).other (w.heap.size + 1) 9 (.int .i64 n5) (by omega))
  have G5 := Lib.hid ((g5.other (w.heap.size + 1) 8 (.bool b5) (by omega)).other (w.heap.size + 1) 9 (.int .i64 n5) (by omega))
  have K5 := Lib.hid (keep_new (keep_new (K4.out.trans k5 (.inl rfl)) (b := (w.heap.size + 1)) (by omega) 8 (.bool b5)) (b := (w.heap.size + 1)) (by omega) 9 (.int .i64 n5))
  clear st g5 k5
  have cm : ((w5.setCell ⟨w.heap.size + 1, 8, none⟩ (.bool b5)).setCell ⟨w.heap.size + 1, 9, none⟩ (.int .i64 n5)).cell? ⟨m, 2, none⟩ = some (.int .i64 0) := by
    obtain ⟨q, _, hq, _⟩ := G5.out
    exact hq.cell rfl
  go_wp2_with (first
    | ((with_reducible show wpList _ _ _ ({ dst := _, op := .load _ (.tmp 4), type := _, pos := _, after := _, guard := _ } :: _) _ _); refine wpList_load_st rfl 28 _ rfl (w.heap.size + 1) rfl 28 _ (by first | exact S5.out | exact S6.out) _ Tryd.underlying28 rfl (by kernel_rfl) ?_)
    | (go_at_call 48; go_must (refine (hC.out _).mono ?_); rintro r w6 ⟨rfl, b6⟩; have A6 := Lib.hid (A5.out.below b6); have S6 := Lib.hid (S5.out.below b6); have G6 := Lib.hid (G5.out.below b6); have K6 := Lib.hid (K5.out.trans (keep_of_below (r := none) b6) (.inl rfl)); clear b6)
    | ((with_reducible show wpList _ _ _ ({ dst := _, op := .store _ (.tmp 2) _, type := _, pos := _, after := _, guard := _ } :: _) _ _); refine wpList_store_st rfl 28 _ _ rfl w.heap.size _ rfl rfl _ A6.out (by kernel_rfl) rfl (by kernel_rfl) ?_; intro wz hz hst; have HQ := Lib.hid hz; have HR := Lib.hid hst; clear hz hst))
  refine ret_cell2 (r := 2) (t := 3) (k := w.heap.size) (T := 28) Tryd.results31 rfl rfl HR.out Tryd.underlying28 rfl (by kernel_rfl) rfl ?_
  have e0 := HQ.out
  subst e0
  exact ⟨rfl, G6.out.setRow (by omega) _, Keep.row K6.out (Nat.le_refl _) _⟩
set_option maxRecDepth 100000 in
set_option maxHeartbeats 4000000 in
theorem afGetSet_ok (m : Nat) (S s : ByteArray) (e : Int) (w : World) (hS : S.size ≤ 1073741824) (he : (psTake s e).2.1 = 0) (hk : okPs (psTake s e).2.2 = true) (h : Rf m S s e w) :
    Calls Tryd.prog 31 #[.pointer (some ⟨m, 0, none⟩)] w fun r w' => r = .returned (.tuple #[.agg (psGet s e).1.vs.toArray, .int .i64 (psGet s e).2]) ∧ Rf m S (psTake s e).1 (psTake s e).2.1 w' ∧ Keep m none w w' := by
  obtain ⟨s1, e1, b1, n1, hr1⟩ : ∃ s1 e1 b1 n1, rdOpt s e = (s1, e1, b1, n1) := ⟨_, _, _, _, rfl⟩
  obtain ⟨s2, e2, b2, n2, hr2⟩ : ∃ s2 e2 b2 n2, rdOpt s1 e1 = (s2, e2, b2, n2) := ⟨_, _, _, _, rfl⟩
  obtain ⟨s3, e3, b3, n3, hr3⟩ : ∃ s3 e3 b3 n3, rdOpt s2 e2 = (s3, e3, b3, n3) := ⟨_, _, _, _, rfl⟩
  obtain ⟨s4, e4, b4, n4, hr4⟩ : ∃ s4 e4 b4 n4, rdOpt s3 e3 = (s4, e4, b4, n4) := ⟨_, _, _, _, rfl⟩
  obtain ⟨s5, e5, b5, n5, hr5⟩ : ∃ s5 e5 b5 n5, rdOpt s4 e4 = (s5, e5, b5, n5) := ⟨_, _, _, _, rfl⟩
  have ht := psTake_of hr1 hr2 hr3 hr4 hr5
  have hg : psGet s e = got Ps.zero okPs (s5, e5, ⟨⟨b1, n1⟩, ⟨b2, n2⟩, ⟨b3, n3⟩, ⟨b4, n4⟩, ⟨b5, n5⟩⟩) := by unfold psGet; rw [ht]
  rw [hg, ht]
  rw [ht] at he hk
  have he : e5 = 0 := he
  subst he
  have hk : okPs ⟨⟨b1, n1⟩, ⟨b2, n2⟩, ⟨b3, n3⟩, ⟨b4, n4⟩, ⟨b5, n5⟩⟩ = true := hk
  rw [got_ok hk]
  have hC := fun w => afSet_any ⟨⟨b1, n1⟩, ⟨b2, n2⟩, ⟨b3, n3⟩, ⟨b4, n4⟩, ⟨b5, n5⟩⟩ w
  rw [hk] at hC
  clear hk
  simp only [Ps.val, Ps.vs, Po.vs, List.cons_append, List.nil_append] at hC
  replace hC := Lib.hid hC
  simp only [Ps.vs, Po.vs, Ps.zero, Po.zero, List.cons_append, List.nil_append]
  clear hg ht
  have hm := h.lt
  have O1 := fun w h => rfOpt_any m S s e w hS h
  rw [hr1] at O1
  replace O1 := Lib.hid O1
  have O2 := fun w h => rfOpt_any m S s1 e1 w hS h
  rw [hr2] at O2
  replace O2 := Lib.hid O2
  have O3 := fun w h => rfOpt_any m S s2 e2 w hS h
  rw [hr3] at O3
  replace O3 := Lib.hid O3
  have O4 := fun w h => rfOpt_any m S s3 e3 w hS h
  rw [hr4] at O4
  replace O4 := Lib.hid O4
  have O5 := fun w h => rfOpt_any m S s4 e4 w hS h
  rw [hr5] at O5
  replace O5 := Lib.hid O5
  clear hr1 hr2 hr3 hr4 hr5
  have G0 := Lib.hid ((h.alloc (.cells #[.bool false, .int .i64 0, .bool false, .int .i64 0, .bool false, .int .i64 0, .bool false, .int .i64 0, .bool false, .int .i64 0] 28 (0, 0))).alloc (.cells #[.bool false, .int .i64 0, .bool false, .int .i64 0, .bool false, .int .i64 0, .bool false, .int .i64 0, .bool false, .int .i64 0] 28 (0, 0)))
  have A0 := Lib.hid ((St.new w 28 #[.bool false, .int .i64 0, .bool false, .int .i64 0, .bool false, .int .i64 0, .bool false, .int .i64 0, .bool false, .int .i64 0]).alloc (.cells #[.bool false, .int .i64 0, .bool false, .int .i64 0, .bool false, .int .i64 0, .bool false, .int .i64 0, .bool false, .int .i64 0] 28 (0, 0)))
  have S0 := Lib.hid (St.new2 w (.cells #[.bool false, .int .i64 0, .bool false, .int .i64 0, .bool false, .int .i64 0, .bool false, .int .i64 0, .bool false, .int .i64 0] 28 (0, 0)) 28 #[.bool false, .int .i64 0, .bool false, .int .i64 0, .bool false, .int .i64 0, .bool false, .int .i64 0, .bool false, .int .i64 0])
  have K0 := Lib.hid (((Keep.refl m none w).alloc (.cells #[.bool false, .int .i64 0, .bool false, .int .i64 0, .bool false, .int .i64 0, .bool false, .int .i64 0, .bool false, .int .i64 0] 28 (0, 0))).alloc (.cells #[.bool false, .int .i64 0, .bool false, .int .i64 0, .bool false, .int .i64 0, .bool false, .int .i64 0, .bool false, .int .i64 0] 28 (0, 0)))
  have hz0 : ((w.alloc (.cells #[.bool false, .int .i64 0, .bool false, .int .i64 0, .bool false, .int .i64 0, .bool false, .int .i64 0, .bool false, .int .i64 0] 28 (0, 0))).alloc (.cells #[.bool false, .int .i64 0, .bool false, .int .i64 0, .bool false, .int .i64 0, .bool false, .int .i64 0, .bool false, .int .i64 0] 28 (0, 0))).heap.size = w.heap.size + 2 := by simp
  clear h
  go_enter Tryd.func31, Tryd.ntmps31
  go_wp2_with fail
  go_must (refine (O1.out _ G0.out).mono ?_)
  rintro r w1 ⟨rfl, g1, k1⟩
  have st := S0.out.keepN k1 (by omega)
  have ca := st.cell (j := 0) rfl
  have cb := st.cell (j := 1) rfl
  have fa := st.free 0
  have fb := st.free 1
  have S1 := Lib.hid (show St 28 (w.heap.size + 1) #[.bool b1, .int .i64 n1, .bool false, .int .i64 0, .bool false, .int .i64 0, .bool false, .int .i64 0, .bool false, .int .i64 0] ((w1.setCell ⟨w.heap.size + 1, 0, none⟩ (.bool b1)).setCell ⟨w.heap.size + 1, 1, none⟩ (.int .i64 n1)) from (st.set 0 (.bool b1)).set 1 (.int .i64 n1))
  have A1 := Lib.hid (((A0.out.keepN k1 (by omega)).other (w.heap.size + 1) 0 (.bool b1) (by omega)).other (w.heap.size + 1) 1 (.int .i64 n1) (by omega))
  have G1 := Lib.hid ((g1.other (w.heap.size + 1) 0 (.bool b1) (by omega)).other (w.heap.size + 1) 1 (.int .i64 n1) (by omega))
  have K1 := Lib.hid (keep_new (keep_new (K0.out.trans k1 (.inl rfl)) (b := (w.heap.size + 1)) (by omega) 0 (.bool b1)) (b := (w.heap.size + 1)) (by omega) 1 (.int .i64 n1))
  clear st g1 k1
  go_wp2_with fail
  go_must (refine (O2.out _ G1.out).mono ?_)
  rintro r w2 ⟨rfl, g2, k2⟩
  have st := S1.out.keepN k2 (by omega)
  have ca := st.cell (j := 2) rfl
  have cb := st.cell (j := 3) rfl
  have fa := st.free 2
  have fb := st.free 3
  have S2 := Lib.hid (show St 28 (w.heap.size + 1) #[.bool b1, .int .i64 n1, .bool b2, .int .i64 n2, .bool false, .int .i64 0, .bool false, .int .i64 0, .bool false, .int .i64 0] ((w2.setCell ⟨w.heap.size + 1, 2, none⟩ (.bool b2)).setCell ⟨w.heap.size + 1, 3, none⟩ (.int .i64 n2)) from (st.set 2 (.bool b2)).set 3 (.int .i64 n2))
  have A2 := Lib.hid (((A1.out.keepN k2 (by omega)).other (w.heap.size + 1) 2 (.bool b2) (by omega)).other (w.heap.size + 1) 3 (.int .i64 n2) (by omega))
  have G2 := Lib.hid ((g2.other (w.heap.size + 1) 2 (.bool b2) (by omega)).other (w.heap.size + 1) 3 (.int .i64 n2) (by omega))
  have K2 := Lib.hid (keep_new (keep_new (K1.out.trans k2 (.inl rfl)) (b := (w.heap.size + 1)) (by omega) 2 (.bool b2)) (b := (w.heap.size + 1)) (by omega) 3 (.int .i64 n2))
  clear st g2 k2
  go_wp2_with fail
  go_must (refine (O3.out _ G2.out).mono ?_)
  rintro r w3 ⟨rfl, g3, k3⟩
  have st := S2.out.keepN k3 (by omega)
  have ca := st.cell (j := 4) rfl
  have cb := st.cell (j := 5) rfl
  have fa := st.free 4
  have fb := st.free 5
  have S3 := Lib.hid (show St 28 (w.heap.size + 1) #[.bool b1, .int .i64 n1, .bool b2, .int .i64 n2, .bool b3, .int .i64 n3, .bool false, .int .i64 0, .bool false, .int .i64 0] ((w3.setCell ⟨w.heap.size + 1, 4, none⟩ (.bool b3)).setCell ⟨w.heap.size + 1, 5, none⟩ (.int .i64 n3)) from (st.set 4 (.bool b3)).set 5 (.int .i64 n3))
  have A3 := Lib.hid (((A2.out.keepN k3 (by omega)).other (w.heap.size + 1) 4 (.bool b3) (by omega)).other (w.heap.size + 1) 5 (.int .i64 n3) (by omega))
  have G3 := Lib.hid ((g3.other (w.heap.size + 1) 4 (.bool b3) (by omega)).other (w.heap.size + 1) 5 (.int .i64 n3) (by omega))
  have K3 := Lib.hid (keep_new (keep_new (K2.out.trans k3 (.inl rfl)) (b := (w.heap.size + 1)) (by omega) 4 (.bool b3)) (b := (w.heap.size + 1)) (by omega) 5 (.int .i64 n3))
  clear st g3 k3
  go_wp2_with fail
  go_must (refine (O4.out _ G3.out).mono ?_)
  rintro r w4 ⟨rfl, g4, k4⟩
  have st := S3.out.keepN k4 (by omega)
  have ca := st.cell (j := 6) rfl
  have cb := st.cell (j := 7) rfl
  have fa := st.free 6
  have fb := st.free 7
  have S4 := Lib.hid (show St 28 (w.heap.size + 1) #[.bool b1, .int .i64 n1, .bool b2, .int .i64 n2, .bool b3, .int .i64 n3, .bool b4, .int .i64 n4, .bool false, .int .i64 0] ((w4.setCell ⟨w.heap.size + 1, 6, none⟩ (.bool b4)).setCell ⟨w.heap.size + 1, 7, none⟩ (.int .i64 n4)) from (st.set 6 (.bool b4)).set 7 (.int .i64 n4))
  have A4 := Lib.hid (((A3.out.keepN k4 (by omega)).other (w.heap.size + 1) 6 (.bool b4) (by omega)).other (w.heap.size + 1) 7 (.int .i64 n4) (by omega))
  have G4 := Lib.hid ((g4.other (w.heap.size + 1) 6 (.bool b4) (by omega)).other (w.heap.size + 1) 7 (.int .i64 n4) (by omega))
  have K4 := Lib.hid (keep_new (keep_new (K3.out.trans k4 (.inl rfl)) (b := (w.heap.size + 1)) (by omega) 6 (.bool b4)) (b := (w.heap.size + 1)) (by omega) 7 (.int .i64 n4))
  clear st g4 k4
  go_wp2_with fail
  go_must (refine (O5.out _ G4.out).mono ?_)
  rintro r w5 ⟨rfl, g5, k5⟩
  have st := S4.out.keepN k5 (by omega)
  have ca := st.cell (j := 8) rfl
  have cb := st.cell (j := 9) rfl
  have fa := st.free 8
  have fb := st.free 9
  have S5 := Lib.hid (show St 28 (w.heap.size + 1) #[.bool b1, .int .i64 n1, .bool b2, .int .i64 n2, .bool b3, .int .i64 n3, .bool b4, .int .i64 n4, .bool b5, .int .i64 n5] ((w5.setCell ⟨w.heap.size + 1, 8, none⟩ (.bool b5)).setCell ⟨w.heap.size + 1, 9, none⟩ (.int .i64 n5)) from (st.set 8 (.bool b5)).set 9 (.int .i64 n5))
  have A5 := Lib.hid (((A4.out.keepN k5 (by omega)).other (w.heap.size + 1) 8 (.bool b5) (by omega)).other (w.heap.size + 1) 9 (.int .i64 n5) (by omega))
  have G5 := Lib.hid ((g5.other (w.heap.size + 1) 8 (.bool b5) (by omega)).other (w.heap.size + 1) 9 (.int .i64 n5) (by omega))
  have K5 := Lib.hid (keep_new (keep_new (K4.out.trans k5 (.inl rfl)) (b := (w.heap.size + 1)) (by omega) 8 (.bool b5)) (b := (w.heap.size + 1)) (by omega) 9 (.int .i64 n5))
  clear st g5 k5
  have cm : ((w5.setCell ⟨w.heap.size + 1, 8, none⟩ (.bool b5)).setCell ⟨w.heap.size + 1, 9, none⟩ (.int .i64 n5)).cell? ⟨m, 2, none⟩ = some (.int .i64 0) := by
    obtain ⟨q, _, hq, _⟩ := G5.out
    exact hq.cell rfl
  go_wp2_with (first
    | ((with_reducible show wpList _ _ _ ({ dst := _, op := .load _ (.tmp 4), type := _, pos := _, after := _, guard := _ } :: _) _ _); refine wpList_load_st rfl 28 _ rfl (w.heap.size + 1) rfl 28 _ (by first | exact S5.out | exact S6.out) _ Tryd.underlying28 rfl (by kernel_rfl) ?_)
    | (go_at_call 48; go_must (refine (hC.out _).mono ?_); rintro r w6 ⟨rfl, b6⟩; have A6 := Lib.hid (A5.out.below b6); have S6 := Lib.hid (S5.out.below b6); have G6 := Lib.hid (G5.out.below b6); have K6 := Lib.hid (K5.out.trans (keep_of_below (r := none) b6) (.inl rfl)); clear b6)
    | ((with_reducible show wpList _ _ _ ({ dst := _, op := .store _ (.tmp 2) _, type := _, pos := _, after := _, guard := _ } :: _) _ _); refine wpList_store_st rfl 28 _ _ rfl w.heap.size _ rfl rfl _ A6.out (by kernel_rfl) rfl (by kernel_rfl) ?_; intro wz hz hst; have HQ := Lib.hid hz; have HR := Lib.hid hst; clear hz hst))
  refine ret_cell2 (r := 2) (t := 3) (k := w.heap.size) (T := 28) Tryd.results31 rfl rfl HR.out Tryd.underlying28 rfl (by kernel_rfl) rfl ?_
  have e0 := HQ.out
  subst e0
  exact ⟨rfl, G6.out.setRow (by omega) _, Keep.row K6.out (Nat.le_refl _) _⟩
theorem afGetSet_any (m : Nat) (S s : ByteArray) (e : Int) (w : World) (hS : S.size ≤ 1073741824) (h : Rf m S s e w) :
    Calls Tryd.prog 31 #[.pointer (some ⟨m, 0, none⟩)] w fun r w' => r = .returned (.tuple #[.agg (psGet s e).1.vs.toArray, .int .i64 (psGet s e).2]) ∧ Rf m S (psTake s e).1 (psTake s e).2.1 w' ∧ Keep m none w w' := by
  by_cases he : (psTake s e).2.1 = 0
  · cases hk : okPs (psTake s e).2.2
    · exact afGetSet_not m S s e w hS he hk h
    · exact afGetSet_ok m S s e w hS he hk h
  · exact afGetSet_err m S s e w hS he h
end Go.Proofs.YtdjnadgcjmlejaaDoor
