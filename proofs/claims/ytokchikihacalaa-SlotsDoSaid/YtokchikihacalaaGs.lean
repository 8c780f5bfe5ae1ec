/- The law of any steps on places. -/
import Derived.Test.YtokchikihacalaaGr
import Derived.Deep.Onto
import Derived.Laws.AppendOwn
namespace Go.Proofs.Ytokchikihacalaa
open Go.RowKit

/-- The program's places and the law's row of numbers tell the same. -/
def GB (w : World) (p n : Nat) (v : Value) (wr : World) : Prop :=
  ∃ xs F, SL w.heap.size p F xs wr ∧ NRow w.heap.size v xs wr ∧ xs.length = n ∧ (∀ j, v.ownBlock = some j → ¬ F j) ∧ Below w.heap.size w wr
theorem GB.drewN {w : World} {p n : Nat} {v : Value} {wr : World} (h : GB w p n v wr) (q : Nat) : GB w p n v (wr.drewN q) := by
  obtain ⟨xs, F, h1, h2, h3, h4, h5⟩ := h
  exact ⟨xs, F, h1.drewN q, h2, h3, h4, below_drewN h5 q⟩
/-- Both do a step. -/
theorem GB.step {w : World} {p n : Nat} {v : Value} {wr : World} (h : GB w p n v wr) (x : GS) : ∃ (a : Int) (b : Bool),
    Calls Try.prog 33 #[.pointer (some ⟨p, 0, none⟩), .agg (gcells x)] wr fun e w' => e = .returned (.tuple #[.int .i64 a, .bool b]) ∧ Below w.heap.size w w' ∧
      Calls Try.prog 34 #[v, .agg (gcells x)] w' fun e w'' => ∃ v', e = .returned (.tuple #[v', .int .i64 a, .bool b]) ∧ GB w p n v' w'' := by
  obtain ⟨xs, F, h1, h2, h3, h4, h5⟩ := h
  have hp := h1.posn
  refine ⟨(gdo xs x).2.1, (gdo xs x).2.2, (lgdo_any w.heap.size p F xs x wr h5.size h1).mono fun e w1 ⟨he, hs⟩ => ⟨he, ?_⟩⟩
  have hF := h1.inF
  have hb1 : Below w.heap.size w w1 := h5.trans (hs.below h5.size fun j hj => (hF j hj).1)
  have hr1 : NRow w.heap.size v xs w1 := hs.2.own h2 h4
  refine ⟨hb1, (rgDo_any v xs x w1 (by omega) (by omega) hr1.ints).mono fun e w2 ⟨v', he, hr, hb⟩ => ⟨v', he, (gdo xs x).1, Grow F wr w1, hs.1.below hb, World.ownsRow.mono hr (Nat.le_trans h5.size hs.2.size), by rw [gdo_length]; exact h3, fun j hj hg => ?_, hb1.trans (hb.mono hb1.size)⟩⟩
  have h6 := (World.ownsRow.lt hr j hj).1
  have h7 := hs.2.size
  rcases hg with hg | hg
  · have := hF j hg; omega
  · omega
/-- What is counted. -/
theorem GB.told {w : World} {p n : Nat} {v : Value} {wr : World} (h : GB w p n v wr) : ∃ (f u t : Nat),
    Calls Try.prog 35 #[.pointer (some ⟨p, 0, none⟩)] wr (fun e w' => e = .returned (.tuple #[.int .i64 (f : Int), .int .i64 (u : Int), .int .i64 (t : Int)]) ∧ ∃ q, w' = wr.drewN q) ∧
    (∀ q, Calls Try.prog 36 #[v, .int .i64 1] (wr.drewN q) fun e w' => e = .returned (.int .i64 (f : Int)) ∧ wr.drewN q = w') ∧
    (∀ q, Calls Try.prog 36 #[v, .int .i64 2] (wr.drewN q) fun e w' => e = .returned (.int .i64 (u : Int)) ∧ wr.drewN q = w') ∧
    (∀ q, Calls Try.prog 36 #[v, .int .i64 3] (wr.drewN q) fun e w' => e = .returned (.int .i64 (t : Int)) ∧ wr.drewN q = w') := by
  obtain ⟨xs, F, h1, h2, h3, h4, h5⟩ := h
  exact ⟨xs.count 1, xs.count 2, xs.count 3, gCount_any _ p F xs wr h1, fun q => rgCount_any v xs 1 _ (h2.drewN q).ints, fun q => rgCount_any v xs 2 _ (h2.drewN q).ints, fun q => rgCount_any v xs 3 _ (h2.drewN q).ints⟩
/-- What is told of a place. -/
theorem GB.at {w : World} {p n : Nat} {v : Value} {wr : World} (h : GB w p n v wr) (i : Nat) (hi : i < n) : ∃ (x : Int) (g cap : Nat), v = .slice (some ⟨g, 0, none⟩) n cap ∧ wr.cell? ⟨g, i, none⟩ = some (.int .i64 x) ∧
    ∀ W, (∃ d, W = wr.drewN d) → Calls Try.prog 37 #[.pointer (some ⟨p, 0, none⟩), .int .i64 (i : Int)] W fun e w' => e = .returned (.int .i64 x) ∧ ∃ q, w' = W.drewN q := by
  obtain ⟨xs, F, h1, h2, h3, h4, h5⟩ := h
  obtain ⟨g, cap, hv, _, _, hc⟩ := own_some h2 (by omega)
  have hx : xs[i]? = some (xs[i]'(by omega)) := List.getElem?_eq_getElem (by omega)
  refine ⟨xs[i]'(by omega), g, cap, by rw [hv, h3], hc i _ (by rw [List.getElem?_map, hx]; rfl), fun W ⟨d, hW⟩ => ?_⟩
  subst hW
  have := gState_any _ p F xs (i : Int) (wr.drewN d) (h1.drewN d)
  rw [show stateAt xs (i : Int) = xs[i]'(by omega) from by unfold stateAt; rw [if_pos (by omega)]; simp [List.getD, hx]] at this
  exact this
theorem GB.other {w : World} {p n : Nat} {v : Value} {wr : World} (h : GB w p n v wr) (i : Int) (hi : ¬ (0 ≤ i ∧ i < n)) :
    Calls Try.prog 37 #[.pointer (some ⟨p, 0, none⟩), .int .i64 i] wr fun e w' => e = .returned (.int .i64 0) ∧ ∃ q, w' = wr.drewN q := by
  obtain ⟨xs, F, h1, h2, h3, h4, h5⟩ := h
  have := gState_any _ p F xs i wr h1
  rw [show stateAt xs i = 0 from by unfold stateAt; rw [if_neg (by omega)]] at this
  exact this
/-- The law's row grows. -/
theorem nrow_more {B : Nat} {v' : Value} {k : Nat} {w : World} (h : w.ownsRow B 3 1 v' (k + 1) ((List.replicate k (1 : Int)).map (Value.int .i64) ++ [.int .i64 1])) : NRow B v' (List.replicate (k + 1) 1) w := by
  show World.ownsRow _ _ _ _ _ _ _
  rw [List.length_replicate, List.replicate_succ', List.map_append]
  exact h

set_option maxRecDepth 100000 in
set_option maxHeartbeats 2000000 in
theorem gdoes_loop (ao : Option Addr) (cap n0 : Nat) (xs : List GS) (other : Int) (w : World) (hn : 1 ≤ n0 ∧ n0 ≤ 60) (hl : xs.length ≤ 100) (hx : GSteps w.heap.size (.slice ao xs.length cap) xs w) :
    Calls Try.prog 7 #[.int .i64 (n0 : Int), .slice ao xs.length cap, .int .i64 other] w fun e w' => e = .returned (.bool true) ∧ Below w.heap.size w w' := by
  obtain ⟨i0, hi, hz0, hz1, hz2⟩ := info_parts Try.infoInt
  obtain ⟨e1, e2, b, off, hat⟩ := gsteps_at hx
  obtain ⟨n, hnn⟩ : ∃ n, n = xs.length := ⟨_, rfl⟩
  rw [← hnn] at hat e2 hl ⊢
  have HX := Lib.hid hat
  have HNew := Lib.hid (gNew_ok n0 w hn.1 (by omega))
  have n1 : decide ((n0 : Int) > 60) = false := decide_eq_false (by omega)
  have n2 : decide ((n0 : Int) < 1) = false := decide_eq_false (by omega)
  have n3 : decide ((n0 : Int) > 65536) = false := decide_eq_false (by omega)
  have n4 : decide ((n : Int) > 100) = false := decide_eq_false (by omega)
  have hn1 : n0 ≤ 60 := hn.2
  clear hat hx e1 hnn
  go_enter Try.func7, Try.ntmps7
  go_wp2_with (go_at_call 32; go_must (with_reducible refine HNew.out.mono ?_); rintro e w1 ⟨p, rfl, hp, b1⟩; have P0 := Lib.hid hp; have B0 := Lib.hid b1; clear hp b1)
  clear HNew n1 n2 n3 n4
  have HW1 := Lib.hid (show ∃ W : World, W = w1 from ⟨_, rfl⟩)
  go_loopw [9, 10] (fun v c wr => ∃ (k : Nat) (vv : Value), vv = v ∧ k ≤ n0 ∧ c = .int .i64 k ∧ NRow w1.heap.size vv (List.replicate k 1) wr ∧ Below w1.heap.size w1 wr) (fun _ c _ => n0 - (intOf c).toNat)
  case atStart => exact ⟨0, _, rfl, Nat.zero_le _, rfl, World.ownsRow_nil _ _ _ _, Below.refl _ _⟩
  case round =>
    obtain ⟨k, v9, rfl, hk, rfl, hr, hb⟩ := hrel
    have HR := Lib.hid hr
    have HB := Lib.hid hb
    by_cases hlt : k < n0
    · have hb0 : (k : Int) < (n0 : Int) := by omega
      have hsz := hb.size
      have hr' : wr.ownsRow w1.heap.size 3 1 v9 k ((List.replicate k (1 : Int)).map (Value.int .i64)) := by have := hr; unfold NRow at this; rw [List.length_replicate] at this; exact this
      clear hr hb
      go_wp2_with (at_builtin; go_must (refine wpList_append_own _ rfl (.tmp 58) (.tmp 59) 43 rfl w1.heap.size 3 i0 (.int .i64 0) 1 8 Try.underlying43 hi hz0 hz1 hz2 rfl (by decide) v9 k _ (by simp [Act.eval]) (hr'.alloc _) ⟨wr.heap.size, 0, none⟩ 1 1 [.int .i64 1] (by simp [Act.eval]) rfl (World.news_of_block (heap_alloc_new wr _)) (by intro u hu; simp at hu; subst hu; rfl) (by unfold maxLen; omega) (by omega) (by simp; omega) ?_); intro v' w2 h1 hg _; have H1 := Lib.hid (nrow_more h1); have B2 := Lib.hid (Below.grown (HB.out.alloc (by omega) _) hg (by simp; omega) (fun j hj => (hr'.lt j hj).1)); clear h1 hg)
      go_roundw
      case rel => exact ⟨k + 1, _, rfl, by omega, by go_num, H1.out, B2.out⟩
      case measure => simp [intOf]; omega
    · obtain rfl : k = n0 := by omega
      have HS := Lib.hid (show GB w p k v9 wr from ⟨_, _, P0.out.below hb, World.ownsRow.mono hr B0.out.size, by simp, fun j hj hf => by have := (World.ownsRow.lt hr j hj).1; omega, B0.out.trans (hb.mono B0.out.size)⟩)
      clear hr hb HR HB P0 B0
      go_wp2_with fail
      obtain ⟨wo, rfl⟩ : ∃ wo : World, wo = wr := ⟨_, rfl⟩
      go_loopw [9, 11, 12, 13, 14, 15, 16, 17, 18, 19] (fun v c _ _ _ _ _ _ _ _ wr => ∃ (j : Nat) (vv : Value), vv = v ∧ j ≤ n ∧ c = .int .i64 j ∧ GB w p k vv wr) (fun _ c _ _ _ _ _ _ _ _ _ => n - (intOf c).toNat)
      case atStart => exact ⟨0, _, rfl, Nat.zero_le _, rfl, HS.out⟩
      case round =>
        obtain ⟨j, v11, rfl, hj, rfl, hB⟩ := hrel
        have HB := Lib.hid hB
        by_cases hjl : j < n
        · obtain ⟨x, hxk, rfl, hW⟩ := HX.out j hjl
          obtain ⟨a, c, hc⟩ := hB.step x
          have HC := Lib.hid hc
          obtain ⟨_, _, _, _, _, _, hbw⟩ := hB
          have HR := Lib.hid (hW _ hbw)
          have HW := Lib.hid hW
          have hb0 : (0 : Int) ≤ (j : Int) := by omega
          have hb1 : (j : Int) < (n : Int) := by omega
          clear hc hW hbw hxk
          go_wp2_with (first
            | ((with_reducible show wpList _ _ _ ({ dst := _, op := .load _ (.tmp 71), .. } :: _) _ _); refine wpList_load_mid rfl 65 (.tmp 71) rfl b (off + j * 2) (by simp [Act.eval]) (gcells x).toList _ HR.out Try.underlying65 rfl (by kernel_rfl) ?_)
            | ((with_reducible show wpList _ _ _ ({ dst := _, op := .load _ (.tmp 80), .. } :: _) _ _); refine wpList_load_mid rfl 65 (.tmp 80) rfl b (off + j * 2) (by simp [Act.eval]) (gcells x).toList _ (HW.out _ B2.out) Try.underlying65 rfl (by kernel_rfl) ?_)
            | (go_at_call 33; go_must (with_reducible refine HC.out.mono ?_); rintro a2 w2 ⟨rfl, b2, h2⟩; have B2 := Lib.hid b2; have H2 := Lib.hid h2; clear b2 h2)
            | (go_at_call 34; go_must (with_reducible refine H2.out.mono ?_); rintro a3 w4 ⟨v12, rfl, h4⟩; obtain ⟨f, u, t, t1, t2, t3, t4⟩ := h4.told; have H4 := Lib.hid h4; have T1 := Lib.hid t1; have T2 := Lib.hid t2; have T3 := Lib.hid t3; have T4 := Lib.hid t4; clear h4 t1 t2 t3 t4)
            | (go_at_call 35; go_must (with_reducible refine T1.out.mono ?_); rintro a4 w5 ⟨rfl, q, rfl⟩)
            | (go_at_call 36; (with_reducible refine (T2.out q).mono ?_); rintro a5 w6 ⟨rfl, rfl⟩)
            | (go_at_call 36; (with_reducible refine (T3.out q).mono ?_); rintro a5 w6 ⟨rfl, rfl⟩)
            | (go_at_call 36; (with_reducible refine (T4.out q).mono ?_); rintro a5 w6 ⟨rfl, rfl⟩))
          go_roundw
          case rel => exact ⟨j + 1, _, rfl, by omega, by go_num, H4.out.drewN q⟩
          case measure => simp [intOf]; omega
        · obtain rfl : j = n := by omega
          clear hB HX HS
          go_wp2_with fail
          obtain ⟨wo, rfl⟩ : ∃ wo : World, wo = wr := ⟨_, rfl⟩
          go_loopw [20] (fun c wr => ∃ i : Nat, i ≤ k ∧ c = .int .i64 i ∧ GB w p k v11 wr) (fun c _ => k - (intOf c).toNat)
          case atStart => exact ⟨0, Nat.zero_le _, rfl, HB.out⟩
          case round =>
            obtain ⟨i, hi0, rfl, hB⟩ := hrel
            have HB3 := Lib.hid hB
            by_cases hil : i < k
            · obtain ⟨x, g, cap3, rfl, c0, hS⟩ := hB.at i hil
              have HS := Lib.hid hS
              have hb0 : (0 : Int) ≤ (i : Int) := by omega
              have hb1 : (i : Int) < (k : Int) := by omega
              clear hS hB
              go_wp2_with fail
              go_quiet (first | (go_at_call 37; exact Calls.quiet_of (HS.out _ ⟨_, rfl⟩)))
              go_wp2_with fail
              go_roundw
              case rel => exact ⟨i + 1, by omega, by go_num, HB3.out.drewN _⟩
              case measure => simp [intOf]; omega
            · obtain rfl : i = k := by omega
              obtain ⟨_, _, _, _, _, _, hbw⟩ := hB
              have HBW := Lib.hid hbw
              have HK := Lib.hid (fun q => lgknown_any (wr.drewN q))
              by_cases ho : 0 ≤ other ∧ other < (i : Int)
              · have o1 : decide (other ≥ 0) = true := decide_eq_true ho.1
                have o2 : decide (other < (i : Int)) = true := decide_eq_true ho.2
                have HK0 := Lib.hid (lgknown_any wr)
                clear ho hbw
                go_wp2_with (go_at_call 31; go_must (with_reducible refine HK0.out.mono ?_); rintro e w8 ⟨rfl, b8⟩; have B8 := Lib.hid b8; clear b8)
                go_ret
                exact ⟨rfl, HBW.out.trans (B8.out.mono HBW.out.size)⟩
              · have HO := Lib.hid (HB3.out.other other ho)
                have hfin : ∀ q W, Below (wr.drewN q).heap.size (wr.drewN q) W → Below w.heap.size w W := fun q W h => (below_drewN hbw q).trans (h.mono hbw.size)
                have HFin := Lib.hid hfin
                clear hbw hfin
                by_cases ho1 : 0 ≤ other
                · have o1 : decide (other ≥ 0) = true := decide_eq_true ho1
                  have o2 : decide (other < (i : Int)) = false := decide_eq_false fun h => ho ⟨ho1, h⟩
                  clear ho ho1
                  go_wp2_with (first
                    | (go_at_call 37; go_must (with_reducible refine HO.out.mono ?_); rintro e w8 ⟨rfl, q, rfl⟩)
                    | (go_at_call 31; go_must (with_reducible refine (HK.out q).mono ?_); rintro e w8 ⟨rfl, b8⟩; have B8 := Lib.hid b8; clear b8))
                  go_ret
                  exact ⟨rfl, HFin.out q _ B8.out⟩
                · have o1 : decide (other ≥ 0) = false := decide_eq_false ho1
                  clear ho ho1
                  go_wp2_with (first
                    | (go_at_call 37; go_must (with_reducible refine HO.out.mono ?_); rintro e w8 ⟨rfl, q, rfl⟩)
                    | (go_at_call 31; go_must (with_reducible refine (HK.out q).mono ?_); rintro e w8 ⟨rfl, b8⟩; have B8 := Lib.hid b8; clear b8))
                  go_ret
                  exact ⟨rfl, HFin.out q _ B8.out⟩

set_option maxRecDepth 100000 in
set_option maxHeartbeats 1000000 in
theorem gdoes_big (v : Value) (n other : Int) (xs : List GS) (w : World) (hb : (60 < n ∧ n ≤ 65536) ∨ 100 < xs.length) (hx : GSteps w.heap.size v xs w) :
    Calls Try.prog 7 #[.int .i64 n, v, .int .i64 other] w fun e w' => e = .returned (.bool true) ∧ Below w.heap.size w w' := by
  obtain ⟨ao, cap, b, off, rfl, hl, _⟩ := hx
  obtain ⟨m, hm⟩ : ∃ m, m = xs.length := ⟨_, rfl⟩
  rw [← hm] at hb hl ⊢
  clear hm
  by_cases h1 : 60 < n
  · have n1 : decide (n > 60) = true := decide_eq_true h1
    by_cases h2 : n ≤ 65536
    · have n2 : decide (n ≤ 65536) = true := decide_eq_true h2
      clear hb h1 h2
      go_enter Try.func7, Try.ntmps7
      go_wp2_with (go_at_call 31; go_must (with_reducible refine (lgknown_any _).mono ?_); rintro e w2 ⟨rfl, b2⟩)
      go_ret
      exact ⟨rfl, b2⟩
    · have n2 : decide (n ≤ 65536) = false := decide_eq_false h2
      have n3 : decide ((m : Int) > 100) = true := decide_eq_true (by omega)
      clear hb h1 h2
      go_enter Try.func7, Try.ntmps7
      go_wp2_with (go_at_call 31; go_must (with_reducible refine (lgknown_any _).mono ?_); rintro e w2 ⟨rfl, b2⟩)
      go_ret
      exact ⟨rfl, b2⟩
  · have n1 : decide (n > 60) = false := decide_eq_false h1
    have n3 : decide ((m : Int) > 100) = true := decide_eq_true (by omega)
    clear hb h1
    go_enter Try.func7, Try.ntmps7
    go_wp2_with (go_at_call 31; go_must (with_reducible refine (lgknown_any _).mono ?_); rintro e w2 ⟨rfl, b2⟩)
    go_ret
    exact ⟨rfl, b2⟩
set_option maxRecDepth 100000 in
set_option maxHeartbeats 1000000 in
theorem gdoes_bad (v : Value) (n other : Int) (xs : List GS) (w : World) (hb : n < 1 ∨ 65536 < n) (hl : xs.length ≤ 100) (hx : GSteps w.heap.size v xs w) :
    Calls Try.prog 7 #[.int .i64 n, v, .int .i64 other] w fun e w' => e = .returned (.bool true) ∧ Below w.heap.size w w' := by
  obtain ⟨ao, cap, b, off, rfl, _, _⟩ := hx
  obtain ⟨m, hm⟩ : ∃ m, m = xs.length := ⟨_, rfl⟩
  rw [← hm] at hl ⊢
  have HNew := Lib.hid (gNew_bad n w hb)
  have n3 : decide ((m : Int) > 100) = false := decide_eq_false (by omega)
  clear hm hl
  by_cases h1 : n < 1
  · have n1 : decide (n > 60) = false := decide_eq_false (by omega)
    have n2 : decide (n < 1) = true := decide_eq_true h1
    clear hb
    go_enter Try.func7, Try.ntmps7
    go_wp2_with (first
      | (go_at_call 32; go_must (with_reducible refine HNew.out.mono ?_); rintro e w1 ⟨rfl, rfl⟩)
      | (go_at_call 31; go_must (with_reducible refine (lgknown_any _).mono ?_); rintro e w2 ⟨rfl, b2⟩))
    go_ret
    exact ⟨rfl, b2⟩
  · have n1 : decide (n > 60) = true := decide_eq_true (by omega)
    have n2 : decide (n ≤ 65536) = false := decide_eq_false (by omega)
    have n4 : decide (n < 1) = false := decide_eq_false h1
    have n5 : decide (n > 65536) = true := decide_eq_true (by omega)
    clear hb
    go_enter Try.func7, Try.ntmps7
    go_wp2_with (first
      | (go_at_call 32; go_must (with_reducible refine HNew.out.mono ?_); rintro e w1 ⟨rfl, rfl⟩)
      | (go_at_call 31; go_must (with_reducible refine (lgknown_any _).mono ?_); rintro e w2 ⟨rfl, b2⟩))
    go_ret
    exact ⟨rfl, b2⟩
theorem gdoes_any (v : Value) (n other : Int) (xs : List GS) (w : World) (hx : GSteps w.heap.size v xs w) :
    Calls Try.prog 7 #[.int .i64 n, v, .int .i64 other] w fun e w' => e = .returned (.bool true) ∧ Below w.heap.size w w' := by
  by_cases h1 : (60 < n ∧ n ≤ 65536) ∨ 100 < xs.length
  · exact gdoes_big v n other xs w h1 hx
  · by_cases hb : n < 1 ∨ 65536 < n
    · exact gdoes_bad v n other xs w hb (by omega) hx
    · obtain ⟨m, rfl⟩ : ∃ m : Nat, n = m := ⟨n.toNat, by omega⟩
      have hx2 := hx
      obtain ⟨ao, cap, b, off, rfl, _⟩ := hx
      exact gdoes_loop ao cap m xs other w (by omega) (by omega) hx2
end Go.Proofs.Ytokchikihacalaa
