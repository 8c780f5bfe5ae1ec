/- The law of any steps on a disk: a round of its loop. -/
import Derived.Test.YtfipojmgmmjnmaaDs
import Derived.Deep.RegionHeld3
namespace Go.Proofs.Ytfipojmgmmjnmaa
open Go.RowKit

theorem Both.told {W0 W1 : World} {p q k n : Nat} {wr : World} (h : Both W0 W1 p q k n wr) : ∃ (cw cb m : Nat) (dead : Bool) (ao : Option Addr) (cap : Nat),
    (Calls Try.prog 16 #[.pointer (some ⟨p, 0, none⟩)] wr fun a w' => a = .returned (.tuple #[.int .i64 (cw : Int), .int .i64 (cb : Int)]) ∧ ∃ q, w' = wr.drewN q) ∧
    (∀ W, (∃ d, W = wr.drewN d) → Calls Try.prog 17 #[.pointer (some ⟨p, 0, none⟩)] W fun a w' => a = .returned (.bool dead) ∧ w' = W) ∧
    (∀ W, (∃ d, W = wr.drewN d) → Calls Try.prog 18 #[.pointer (some ⟨p, 0, none⟩)] W fun a w' => a = .returned (.int .i64 (m : Int)) ∧ w' = W) ∧
    wr.cell? ⟨q, 1, none⟩ = some (.slice ao m cap) ∧ wr.cell? ⟨q, 3, none⟩ = some (.bool dead) ∧ wr.cell? ⟨q, 4, none⟩ = some (.int .i64 (cw : Int)) ∧ wr.cell? ⟨q, 5, none⟩ = some (.int .i64 (cb : Int)) := by
  obtain ⟨⟨D, F, G, hp, hq, hd, l1, l2, l3, l4⟩, b0, b1, le⟩ := h
  obtain ⟨kv, wv, h0, _⟩ := hq
  obtain ⟨ao, cap, rfl⟩ := own_slice h0.wr
  exact ⟨D.wr, D.br, D.wait.length, D.dead, ao, cap, dCount_any _ p F D _ hp, fun W ⟨d, hW⟩ => by subst hW; exact (dDead_any _ p F D _ (hp.drewN d)).mono fun a w' ⟨h1, h2⟩ => ⟨h1, h2.symm⟩, fun W ⟨d, hW⟩ => by subst hW; exact (dWaiting_any _ p F D _ (hp.drewN d)).mono fun a w' ⟨h1, h2⟩ => ⟨h1, h2.symm⟩, h0.st.cell rfl, h0.st.cell rfl, h0.st.cell rfl, h0.st.cell rfl⟩

theorem cell_drewN {w w' : World} {d : Nat} {a : Addr} {v : Value} (h : w' = w.drewN d) (t : w.cell? a = some v) : w'.cell? a = some v := by subst h; exact t
theorem strs_of_row {B : Nat} {v : Value} {xs : List ByteArray} {w : World} (h : w.ownsRow B 9 1 v xs.length (xs.map Value.string)) : Strs v xs w := by
  have hl := own_len h
  rcases h.2 with ⟨rfl, h0⟩ | ⟨g, cap, cur, rfl, hg, _⟩
  · have e := List.length_eq_zero_iff.1 h0
    subst e
    exact ⟨none, 0, 0, 0, rfl, by simp, fun h => by simp at h, fun i x hx => by simp at hx⟩
  · refine ⟨some ⟨g, 0, none⟩, cap, g, 0, rfl, hl, fun _ => ⟨rfl, (h.lt g rfl).2⟩, fun i x hx => ?_⟩
    have hi := (List.getElem?_eq_some_iff.1 hx).1
    have e := h.cellAt i (by omega)
    rw [Nat.zero_add, e]
    simp [hx]
theorem Both.image {W0 W1 : World} {p q k n : Nat} {wr : World} (h : Both W0 W1 p q k n wr) : ∃ kv, wr.cell? ⟨q, 0, none⟩ = some kv ∧ q < wr.heap.size ∧
    ∃ K, (∀ W, Below wr.heap.size wr W → Calls Try.prog 20 #[.pointer (some ⟨p, 0, none⟩)] W fun e w' => ∃ v, e = .returned v ∧ Strs v K w' ∧ Below wr.heap.size wr w') ∧
    (∀ v W, Below wr.heap.size wr W → Strs v K W → Calls Try.prog 19 #[v, kv] W fun e w' => e = .returned (.bool true) ∧ Below wr.heap.size wr w') := by
  obtain ⟨⟨D, F, G, hp, hq, hd, l1, l2, l3, l4⟩, b0, b1, le⟩ := h
  obtain ⟨kv, wv, h0, _⟩ := hq
  refine ⟨kv, h0.st.cell rfl, h0.st.lt, D.kept, fun W hW => ?_, fun v W hW hv => ?_⟩
  · exact (dImage_any _ p F D W (hp.below hW)).mono fun e w' ⟨v, he, hs, hb⟩ => ⟨v, he, hs.strs, hW.trans (hb.mono hW.size)⟩
  · refine (mSame_eq v kv D.kept D.kept W hv ((strs_of_row h0.kr).below hW)).mono fun e w' ⟨he, hb⟩ => ⟨by rw [he, decide_eq_true rfl], hW.trans (hb.mono hW.size)⟩
theorem not_large {xs : List Sp} (h : largeSp xs = false) (k : Nat) (x : Sp) (hx : xs[k]? = some x) : x.s.size ≤ 200 ∧ x.keep.length ≤ 60 := by
  unfold largeSp at h
  rw [Bool.or_eq_false_iff] at h
  have h2 := of_decide_eq_false h.2
  have hm : x ∈ xs.take 60 := by rw [List.take_of_length_le (by omega)]; exact List.mem_of_getElem? hx
  have h3 := List.any_eq_false.1 h.1 x hm
  unfold bigSp at h3
  simp only [Bool.or_eq_true, decide_eq_true_eq, not_or] at h3
  omega
theorem new_len (n : Nat) : (DS.new n).kept.length = n := by simp [DS.new]
theorem dSize_new {B p n : Nat} {F : Nat → Prop} {w : World} (h : PD B p F (DS.new n) w) : Calls Try.prog 12 #[.pointer (some ⟨p, 0, none⟩)] w fun e w' => e = .returned (.int .i64 (n : Int)) ∧ w = w' := by
  have := dSize_any B p F (DS.new n) w h
  rw [new_len] at this
  exact this
theorem both_new {w w1 w3 : World} {p q n : Nat} (hp : PD w.heap.size p (fun j => w.heap.size ≤ j ∧ j < w1.heap.size) (DS.new n) w1) (b1 : Below w.heap.size w w1) (hq : RD w1.heap.size q (fun j => w1.heap.size ≤ j ∧ j < w3.heap.size) (DS.new n) w3) (b3 : Below w1.heap.size w1 w3) : Both w w1 p q 0 n w3 :=
  ⟨⟨DS.new n, _, _, hp.below b3, hq, fun j hj hg => by omega, by simp [DS.new], by simp [DS.new], by simp [DS.new], new_len n⟩, b1.trans (b3.mono b1.size), b3.size, b1.size⟩

set_option maxRecDepth 100000 in
set_option maxHeartbeats 2000000 in
theorem does_loop (ao : Option Addr) (cap n0 : Nat) (xs : List Sp) (w : World) (hn : 1 ≤ n0 ∧ n0 ≤ 40) (hl : largeSp xs = false) (hx : Steps w.heap.size (.slice ao xs.length cap) xs w) :
    Calls Try.prog 3 #[.int .i64 (n0 : Int), .slice ao xs.length cap] w fun e w' => e = .returned (.bool true) ∧ Below w.heap.size w w' := by
  have HLg := Lib.hid (show Calls Try.prog 9 #[.slice ao xs.length cap] w fun e w' => e = .returned (.bool false) ∧ w = w' from by have := dkLarge_any w.heap.size _ xs w hx; rw [hl] at this; exact this)
  obtain ⟨e1, e2, b, off, hat⟩ := steps_at hx
  obtain ⟨n, hnn⟩ : ∃ n, n = xs.length := ⟨_, rfl⟩
  rw [← hnn] at HLg hat e2 ⊢
  have HX := Lib.hid (show ∀ k, k < n → ∃ (x : Sp) (kv : Value), xs[k]? = some x ∧ ao = some ⟨b, off, none⟩ ∧ x.num ∧ x.keep.length ≤ 1073741824 ∧
    ∀ W, Below w.heap.size w W → W.rangeAt b (off + k * 4) (spcells x kv).toList ∧ Ints (fun j => j < w.heap.size) kv x.keep W from fun k hk => by
      obtain ⟨x, kv, g1, g2, g3, g4⟩ := hat k hk
      refine ⟨x, kv, g1, g2, g3, ?_, g4⟩
      have hb := not_large hl k x g1
      omega)
  have hn60 : n ≤ 60 := by
    unfold largeSp at hl
    rw [Bool.or_eq_false_iff] at hl
    have := of_decide_eq_false hl.2
    omega
  have HNew := Lib.hid (dNew_ok n0 w hn.1 (by omega))
  have HRef := Lib.hid (fun W => dkNew_any n0 W (by omega))
  have n1 : decide ((n0 : Int) > 40) = false := decide_eq_false (by omega)
  have n2 : decide ((n0 : Int) < 1) = false := decide_eq_false (by omega)
  have n3 : decide ((n0 : Int) > 65536) = false := decide_eq_false (by omega)
  clear hat hx hl e1 hnn hn
  go_enter Try.func3, Try.ntmps3
  go_wp2_with (first
    | (go_at_call 9; go_must (with_reducible refine HLg.out.mono ?_); rintro e w1 ⟨rfl, rfl⟩)
    | (go_at_call 11; go_must (with_reducible refine HNew.out.mono ?_); rintro e w1 ⟨p, rfl, hp, b1⟩; have P0 := Lib.hid hp; have B0 := Lib.hid b1; have hsz := dSize_new hp; have HSz := Lib.hid hsz; clear hp b1 hsz)
    | (go_at_call 12; go_must (with_reducible refine HSz.out.mono ?_); rintro e w2 ⟨rfl, rfl⟩)
    | (go_at_call 13; go_must (with_reducible refine (HRef.out _).mono ?_); rintro e w3 ⟨q, rfl, hq, b3⟩; have Q0 := Lib.hid hq; have B3 := Lib.hid b3; clear hq b3))
  have HS := Lib.hid (both_new P0.out B0.out Q0.out B3.out)
  clear HLg HNew HRef P0 B0 Q0 B3 HSz n1 n2 n3
  go_loopw [8, 9, 10, 11, 12, 13, 14] (fun c _ _ _ _ _ _ wr => ∃ k : Nat, k ≤ n ∧ c = .int .i64 k ∧ Both w w1 p q k n0 wr) (fun c _ _ _ _ _ _ _ => n - (intOf c).toNat)
  case atStart => exact ⟨0, Nat.zero_le _, rfl, HS.out⟩
  case round =>
    obtain ⟨k, hk, rfl, hB⟩ := hrel
    have HB := Lib.hid hB
    by_cases hlt : k < n
    · obtain ⟨x, kv, hxk, rfl, hxn, hks, hW⟩ := HX.out k hlt
      obtain ⟨hR, hI⟩ := hW wr hB.b0
      obtain ⟨r, e, hc⟩ := hB.step (by omega) x kv hxn hks hI
      have HC := Lib.hid hc
      have HR := Lib.hid hR
      have HW := Lib.hid hW
      have hb0 : (0 : Int) ≤ (k : Int) := by omega
      have hb1 : (k : Int) < (n : Int) := by omega
      clear hc hR hI hB hxk hxn hks hW
      go_wp2_with (first
        | ((with_reducible show wpList _ _ _ ({ dst := _, op := .load _ (.tmp 70), .. } :: _) _ _); refine wpList_load_mid rfl 36 (.tmp 70) rfl b (off + k * 4) (by simp [Act.eval]) (spcells x kv).toList _ HR.out Try.underlying36 rfl (by kernel_rfl) ?_)
        | ((with_reducible show wpList _ _ _ ({ dst := _, op := .load _ (.tmp 79), .. } :: _) _ _); refine wpList_load_mid rfl 36 (.tmp 79) rfl b (off + k * 4) (by simp [Act.eval]) (spcells x kv).toList _ (HW.out _ B2.out).1 Try.underlying36 rfl (by kernel_rfl) ?_)
        | (go_at_call 14; go_must (with_reducible refine HC.out.mono ?_); rintro a2 w2 ⟨rfl, b2, h2⟩; have B2 := Lib.hid b2; have H2 := Lib.hid h2; clear b2 h2)
        | (go_at_call 15; go_must (with_reducible refine H2.out.mono ?_); rintro a3 w4 ⟨rfl, h4⟩; obtain ⟨cw, cb, m, dead, mo, mc, t1, t2, t3, t4, t5, t6, t7⟩ := h4.told; have H4 := Lib.hid h4; have T1 := Lib.hid t1; have T2 := Lib.hid t2; have T3 := Lib.hid t3; clear h4 t1 t2 t3)
        | (go_at_call 16; go_must (with_reducible refine T1.out.mono ?_); rintro a4 w5 ⟨rfl, d5, h5⟩; have u4 := cell_drewN h5 t4; have u5 := cell_drewN h5 t5; have u6 := cell_drewN h5 t6; have u7 := cell_drewN h5 t7; have H5 := Lib.hid h5; clear h5 t4 t5 t6 t7))
      go_quiet ((first | (go_at_call 17; exact Calls.quiet_of_same (T2.out _ ⟨d5 + _, by rw [H5.out, World.drewN_drewN]⟩)) | (go_at_call 18; exact Calls.quiet_of_same (T3.out _ ⟨d5 + _, by rw [H5.out, World.drewN_drewN]⟩))))
      go_wp2_with fail
      go_roundw
      case rel => exact ⟨k + 1, by omega, by go_num, by have h := (H4.out.drewN d5); rw [← H5.out] at h; exact h.drewN _⟩
      case measure => simp [intOf]; omega
    · obtain rfl : k = n := by omega
      obtain ⟨kv, c0, hql, K, hI, hS⟩ := hB.image
      have hK := fun W (hW : Below wr.heap.size wr W) => (dkknown_any W).mono (R' := fun e w' => e = .returned (.bool true) ∧ Below wr.heap.size wr w') fun e w' ⟨he, hb⟩ => ⟨he, hW.trans (hb.mono hW.size)⟩
      have hfin : ∀ W, Below wr.heap.size wr W → Below w.heap.size w W := fun W hW => hB.b0.trans (hW.mono hB.b0.size)
      have hcell : ∀ W, Below wr.heap.size wr W → W.cell? ⟨q, 0, none⟩ = some kv := fun W hW => (hW.cell (p := ⟨q, 0, none⟩) hql).trans c0
      have HI := Lib.hid hI
      have HSm := Lib.hid hS
      have HK := Lib.hid hK
      have HFin := Lib.hid hfin
      have HCell := Lib.hid hcell
      have HD0 := Lib.hid (show Below wr.heap.size wr wr.drew from (Below.refl _ wr).drew)
      clear hB hI hS hK hfin hcell HX HS
      go_wp2_with fail
      go_region_held3 (fun w' => w'.cell? ⟨q, 0, none⟩ = some kv) (first | assumption | (exact c0)) (first
        | (go_at_call 20; (refine (HI.out _ HD0.out).mono ?_); rintro e6 w6 ⟨v6, rfl, hs6, b6⟩; have c6 := HCell.out _ b6; have S6 := Lib.hid hs6; have B6 := Lib.hid b6; clear hs6 b6)
        | (go_at_call 19; (refine (HSm.out _ _ B6.out S6.out).mono ?_); rintro e7 w7 ⟨rfl, b7⟩; have c7 := HCell.out _ b7; have B7 := Lib.hid b7; clear b7)
        | (go_at_call 10; (refine (HK.out _ B7.out).mono ?_); rintro e8 w8 ⟨rfl, b8⟩; have c8 := HCell.out _ b8; have B8 := Lib.hid b8; clear b8))
      go_wp2_with fail
      go_ret
      exact ⟨rfl, HFin.out _ B8.out⟩

set_option maxRecDepth 100000 in
set_option maxHeartbeats 1000000 in
theorem does_large (v : Value) (n : Int) (xs : List Sp) (w : World) (hl : largeSp xs = true) (hx : Steps w.heap.size v xs w) :
    Calls Try.prog 3 #[.int .i64 n, v] w fun e w' => e = .returned (.bool true) ∧ Below w.heap.size w w' := by
  have HLg := Lib.hid (show Calls Try.prog 9 #[v] w fun e w' => e = .returned (.bool true) ∧ w = w' from by have := dkLarge_any w.heap.size _ xs w hx; rw [hl] at this; exact this)
  clear hx hl
  go_enter Try.func3, Try.ntmps3
  go_wp2_with (first
    | (go_at_call 9; go_must (with_reducible refine HLg.out.mono ?_); rintro e w1 ⟨rfl, rfl⟩)
    | (go_at_call 10; go_must (with_reducible refine (dkknown_any _).mono ?_); rintro e w2 ⟨rfl, b2⟩))
  go_ret
  exact ⟨rfl, b2⟩
set_option maxRecDepth 100000 in
set_option maxHeartbeats 1000000 in
theorem does_mid (v : Value) (n : Int) (xs : List Sp) (w : World) (hl : largeSp xs = false) (hn : 40 < n ∧ n ≤ 65536) (hx : Steps w.heap.size v xs w) :
    Calls Try.prog 3 #[.int .i64 n, v] w fun e w' => e = .returned (.bool true) ∧ Below w.heap.size w w' := by
  have HLg := Lib.hid (show Calls Try.prog 9 #[v] w fun e w' => e = .returned (.bool false) ∧ w = w' from by have := dkLarge_any w.heap.size _ xs w hx; rw [hl] at this; exact this)
  have n1 : decide (n > 40) = true := decide_eq_true (by omega)
  have n2 : decide (n ≤ 65536) = true := decide_eq_true (by omega)
  clear hx hl hn
  go_enter Try.func3, Try.ntmps3
  go_wp2_with (first
    | (go_at_call 9; go_must (with_reducible refine HLg.out.mono ?_); rintro e w1 ⟨rfl, rfl⟩)
    | (go_at_call 10; go_must (with_reducible refine (dkknown_any _).mono ?_); rintro e w2 ⟨rfl, b2⟩))
  go_ret
  exact ⟨rfl, b2⟩
set_option maxRecDepth 100000 in
set_option maxHeartbeats 1000000 in
theorem does_bad (v : Value) (n : Int) (xs : List Sp) (w : World) (hl : largeSp xs = false) (hn : n < 1 ∨ 65536 < n) (hx : Steps w.heap.size v xs w) :
    Calls Try.prog 3 #[.int .i64 n, v] w fun e w' => e = .returned (.bool true) ∧ Below w.heap.size w w' := by
  have HLg := Lib.hid (show Calls Try.prog 9 #[v] w fun e w' => e = .returned (.bool false) ∧ w = w' from by have := dkLarge_any w.heap.size _ xs w hx; rw [hl] at this; exact this)
  have HNew := Lib.hid (dNew_bad n w hn)
  clear hx hl
  by_cases h1 : n < 1
  · have n1 : decide (n > 40) = false := decide_eq_false (by omega)
    have n2 : decide (n < 1) = true := decide_eq_true h1
    clear hn
    go_enter Try.func3, Try.ntmps3
    go_wp2_with (first
      | (go_at_call 9; go_must (with_reducible refine HLg.out.mono ?_); rintro e w1 ⟨rfl, rfl⟩)
      | (go_at_call 11; go_must (with_reducible refine HNew.out.mono ?_); rintro e w1 ⟨rfl, rfl⟩)
      | (go_at_call 10; go_must (with_reducible refine (dkknown_any _).mono ?_); rintro e w2 ⟨rfl, b2⟩))
    go_ret
    exact ⟨rfl, b2⟩
  · have n1 : decide (n > 40) = true := decide_eq_true (by omega)
    have n2 : decide (n ≤ 65536) = false := decide_eq_false (by omega)
    have n3 : decide (n < 1) = false := decide_eq_false h1
    have n4 : decide (n > 65536) = true := decide_eq_true (by omega)
    clear hn
    go_enter Try.func3, Try.ntmps3
    go_wp2_with (first
      | (go_at_call 9; go_must (with_reducible refine HLg.out.mono ?_); rintro e w1 ⟨rfl, rfl⟩)
      | (go_at_call 11; go_must (with_reducible refine HNew.out.mono ?_); rintro e w1 ⟨rfl, rfl⟩)
      | (go_at_call 10; go_must (with_reducible refine (dkknown_any _).mono ?_); rintro e w2 ⟨rfl, b2⟩))
    go_ret
    exact ⟨rfl, b2⟩
theorem does_any (v : Value) (n : Int) (xs : List Sp) (w : World) (hx : Steps w.heap.size v xs w) :
    Calls Try.prog 3 #[.int .i64 n, v] w fun e w' => e = .returned (.bool true) ∧ Below w.heap.size w w' := by
  cases hl : largeSp xs with
  | true => exact does_large v n xs w hl hx
  | false =>
    by_cases hb : n < 1 ∨ 65536 < n
    · exact does_bad v n xs w hl hb hx
    · by_cases hm : 40 < n
      · exact does_mid v n xs w hl (by omega) hx
      · obtain ⟨m, rfl⟩ : ∃ m : Nat, n = m := ⟨n.toNat, by omega⟩
        have hx2 := hx
        obtain ⟨ao, cap, b, off, rfl, _⟩ := hx
        exact does_loop ao cap m xs w (by omega) hl hx2
end Go.Proofs.Ytfipojmgmmjnmaa
