/- The reference's places: what becomes of them. -/
import Derived.Test.YtokchikihacalaaGb
import Derived.Test.YtokchikihacalaaRo
import Derived.Handy
import Derived.Deep.DeepMust
import Derived.Deep.QuietTactic
import Derived.Deep.RegionHeld3
import Derived.Deep.QuietTactic
namespace Go.Proofs.Ytokchikihacalaa
open Go.RowKit

theorem Ints.later {B : Nat} {ok : Nat → Prop} {v : Value} {xs : List Int} {w w' : World} (h : Ints ok v xs w) (hb : Below B w w') (hB : w.heap.size ≤ B) : Ints ok v xs w' :=
  h.frm (F := fun j => B ≤ j ∧ False) ⟨hb.os, hb.tape, hb.output, hb.size, fun j hj _ => hb.block j (by omega)⟩ fun _ _ e => e.2
/-- Numbers in a row of one's own. -/
def NRow (B : Nat) (v : Value) (xs : List Int) (w : World) : Prop := w.ownsRow B 3 1 v xs.length (xs.map (Value.int .i64))
theorem NRow.ints {B : Nat} {v : Value} {xs : List Int} {w : World} (h : NRow B v xs w) : Ints (fun j => B ≤ j) v xs w := ints_row h rfl
theorem NRow.put {B g n cap : Nat} {xs : List Int} {w : World} (h : NRow B (.slice (some ⟨g, 0, none⟩) n cap) xs w) (j : Nat) (x : Int) : NRow B (.slice (some ⟨g, 0, none⟩) n cap) (xs.set j x) (w.setCell ⟨g, j, none⟩ (.int .i64 x)) := by
  have hn : n = xs.length := by
    rcases h.2 with ⟨h0, _⟩ | ⟨g, cap, cur, h0, _⟩
    · injection h0 with h1 h2; cases h1
    · injection h0
  subst hn
  obtain ⟨q1, q2⟩ := World.ownsRow.stored h j (.int .i64 x)
  show World.ownsRow _ _ _ _ _ _ _
  rw [List.length_set, List.map_set]
  exact q1
theorem NRow.base {B g n cap : Nat} {xs : List Int} {w : World} (h : NRow B (.slice (some ⟨g, 0, none⟩) n cap) xs w) : B ≤ g := (World.ownsRow.lt h g rfl).1
theorem NRow.len {B g n cap : Nat} {xs : List Int} {w : World} (h : NRow B (.slice (some ⟨g, 0, none⟩) n cap) xs w) : n = xs.length := by
  rcases h.2 with ⟨h0, _⟩ | ⟨g, cap, cur, h0, _⟩
  · injection h0 with h1 h2; cases h1
  · injection h0
theorem NRow.at {B g n cap : Nat} {xs : List Int} {w : World} (h : NRow B (.slice (some ⟨g, 0, none⟩) n cap) xs w) {j : Nat} {x : Int} (hj : xs[j]? = some x) : w.cell? ⟨g, j, none⟩ = some (.int .i64 x) := by
  obtain rfl := h.len
  have hi := (List.getElem?_eq_some_iff.1 hj).1
  rw [World.ownsRow.cellAt h j (by omega)]
  simp [hj]
theorem NRow.frozenAt {B g n cap : Nat} {xs : List Int} {w : World} (h : NRow B (.slice (some ⟨g, 0, none⟩) n cap) xs w) (j : Nat) : w.frozen? ⟨g, j, none⟩ = false := by
  obtain rfl := h.len
  exact World.ownsRow.frozenAt h j
theorem isAt_nat {xs : List Int} {i k : Int} (h : isAt xs i k = true) : ∃ j : Nat, i = j ∧ j < xs.length := by
  unfold isAt at h
  simp only [Bool.and_eq_true, decide_eq_true_eq] at h
  exact ⟨i.toNat, by omega, by omega⟩
theorem NRow.drewN {B : Nat} {v : Value} {xs : List Int} {w : World} (h : NRow B v xs w) (q : Nat) : NRow B v xs (w.drewN q) := h

set_option maxRecDepth 100000 in
set_option maxHeartbeats 2000000 in
theorem rgDo_any {ok : Nat → Prop} (v : Value) (xs : List Int) (x : GS) (w : World) (hl0 : 0 < xs.length) (hlm : xs.length ≤ 65536) (h : Ints ok v xs w) :
    Calls Try.prog 34 #[v, .agg #[.int .i64 x.kind, .int .i64 x.i]] w fun e w' => ∃ v', e = .returned (.tuple #[v', .int .i64 (gdo xs x).2.1, .bool (gdo xs x).2.2]) ∧ NRow w.heap.size v' (gdo xs x).1 w' ∧ Below w.heap.size w w' := by
  obtain ⟨kind, i⟩ := x
  obtain ⟨iz, hiz, hz0, hz1, hz2⟩ := info_parts Try.infoInt
  have HI0 := Lib.hid (fun (k : Int) W (hW : Below w.heap.size w W) => rgIs_any v xs i k W (h.later hW (Nat.le_refl _)))
  have HC := Lib.hid (fun W (hW : Below w.heap.size w W) => rgCount_any v xs 3 W (h.later hW (Nat.le_refl _)))
  have HLe := Lib.hid (fun W (hW : Below w.heap.size w W) => rgLeast_any v xs 1 W (h.later hW (Nat.le_refl _)))
  obtain ⟨ao, cap, b, off, rfl, ⟨hl, _⟩, hao, hcs⟩ := h
  obtain ⟨rfl, hb, _⟩ := hao hl0
  obtain ⟨n, hn⟩ : ∃ n, n = xs.length := ⟨_, rfl⟩
  rw [← hn] at HI0 HC HLe hl hl0 hlm ⊢
  have T0 := St.new w 65 #[.int .i64 kind, .int .i64 i]
  have hown : ((w.alloc (.cells #[.int .i64 kind, .int .i64 i] 65 (0, 0))).alloc (.cells #[] 3 (0, 0))).ownsRow w.heap.size 3 1 (.slice (some ⟨w.heap.size + 1, 0, none⟩) 0 0) 0 [] := by
    have h := World.ownsRow_made (base := w.heap.size) (e := 3) (size := 1) (w.alloc (.cells #[.int .i64 kind, .int .i64 i] 65 (0, 0))) #[] 0 (by simp) (by decide) (by simp)
    rwa [show (w.alloc (.cells #[.int .i64 kind, .int .i64 i] 65 (0, 0))).heap.size = w.heap.size + 1 from by simp] at h
  have hb2 : Below w.heap.size w ((w.alloc (.cells #[.int .i64 kind, .int .i64 i] 65 (0, 0))).alloc (.cells #[] 3 (0, 0))) := ((Below.refl _ w).alloc (Nat.le_refl _) _).alloc (by simp) _
  have HT := Lib.hid (T0.alloc (.cells #[] 3 (0, 0)))
  have HO := Lib.hid hown
  have HB2 := Lib.hid hb2
  have HX := Lib.hid (show ∀ j u, (xs.map (Value.int .i64))[j]? = some u → ((w.alloc (.cells #[.int .i64 kind, .int .i64 i] 65 (0, 0))).alloc (.cells #[] 3 (0, 0))).cell? ((⟨b, off, none⟩ : Addr).add j) = some u from fun j u hu => by
    rw [List.getElem?_map] at hu
    obtain ⟨y, hy, rfl⟩ := Option.map_eq_some_iff.1 hu
    rw [Addr.add_mid]
    exact (hb2.cell (p := ⟨b, off + j, none⟩) hb).trans (hcs j y hy))
  have HN := Lib.hid hn
  have HS := Lib.hid (show ∀ g cap2 w2, w2.ownsRow w.heap.size 3 1 (.slice (some ⟨g, 0, none⟩) n cap2) n (xs.map (Value.int .i64)) → ((w.alloc (.cells #[.int .i64 kind, .int .i64 i] 65 (0, 0))).alloc (.cells #[] 3 (0, 0))).grownBy w2 (Value.slice (some ⟨w.heap.size + 1, 0, none⟩) 0 0).ownBlock →
      NRow w.heap.size (.slice (some ⟨g, 0, none⟩) n cap2) xs w2 ∧ Below w.heap.size w w2 ∧ St 65 w.heap.size #[.int .i64 kind, .int .i64 i] w2 from fun g cap2 w2 h1 hg =>
    ⟨by show World.ownsRow _ _ _ _ _ _ _; rw [← HN.out]; exact h1, HB2.out.grown hg (by simp; omega) (fun k hk => by simp [Value.ownBlock] at hk; omega), (hg.block w.heap.size (by simp; omega) (by simp [Value.ownBlock])).trans HT.out⟩)
  clear T0 hown hb2 hcs hao hn HT
  by_cases k1 : kind = 1
  · subst k1
    have e : gdo xs ⟨1, i⟩ = if isAt xs i 1 then (xs.set i.toNat 2, 0, true) else (xs, 0, false) := by unfold gdo; simp
    rw [e]
    have HI := Lib.hid (HI0.out 1)
    clear e HC HLe HI0
    cases his : isAt xs i 1 with
    | true =>
      rw [his] at HI
      rw [if_pos rfl]
      obtain ⟨j, rfl, hjn⟩ := isAt_nat his
      obtain ⟨y, hy⟩ : ∃ y, xs[j]? = some y := ⟨_, List.getElem?_eq_getElem hjn⟩
      have HY := Lib.hid hy
      rw [← HN.out] at hjn
      have i0 : (0 : Int) ≤ (j : Int) := by omega
      have i1 : (j : Int) < (n : Int) := by omega
      clear his hy
      go_enter Try.func34, Try.ntmps34
      go_wp2_with (first | (at_builtin; go_must (refine wpList_app0 rfl (.tmp 10) (.tmp 11) 43 rfl w.heap.size 3 iz (.int .i64 0) 1 8 Try.underlying43 hiz hz0 hz1 hz2 rfl (by decide) _ (by simp [Act.eval]) HO.out ⟨b, off, none⟩ n cap (xs.map (Value.int .i64)) (by simp [Act.eval]) (by rw [List.length_map, ← HN.out]; omega) HX.out (by intro u hu; obtain ⟨y, _, rfl⟩ := List.mem_map.1 hu; rfl) (by omega) (by unfold maxLen; omega) (by omega) (by simp; omega) ?_); intro g cap2 w2 h1 hg; have h3 := HS.out g cap2 w2 h1 hg; have R2 := Lib.hid h3.1; have B2 := Lib.hid h3.2.1; have c0 := h3.2.2.cell (j := 0) rfl; have c1 := h3.2.2.cell (j := 1) rfl; clear h1 hg h3) | (go_at_call 51; go_must (with_reducible refine (HI.out _ B2.out).mono ?_); rintro e w3 ⟨rfl, q, rfl⟩; have f2 := R2.out.frozenAt j; have c2 := R2.out.at HY.out))
      go_returns
      exact ⟨_, rfl, (R2.out.drewN q).put j 2, (below_drewN B2.out q).setCell (NRow.base R2.out) _⟩
    | false =>
      rw [his] at HI
      rw [if_neg (by simp)]
      clear his
      go_enter Try.func34, Try.ntmps34
      go_wp2_with (first | (at_builtin; go_must (refine wpList_app0 rfl (.tmp 10) (.tmp 11) 43 rfl w.heap.size 3 iz (.int .i64 0) 1 8 Try.underlying43 hiz hz0 hz1 hz2 rfl (by decide) _ (by simp [Act.eval]) HO.out ⟨b, off, none⟩ n cap (xs.map (Value.int .i64)) (by simp [Act.eval]) (by rw [List.length_map, ← HN.out]; omega) HX.out (by intro u hu; obtain ⟨y, _, rfl⟩ := List.mem_map.1 hu; rfl) (by omega) (by unfold maxLen; omega) (by omega) (by simp; omega) ?_); intro g cap2 w2 h1 hg; have h3 := HS.out g cap2 w2 h1 hg; have R2 := Lib.hid h3.1; have B2 := Lib.hid h3.2.1; have c0 := h3.2.2.cell (j := 0) rfl; have c1 := h3.2.2.cell (j := 1) rfl; clear h1 hg h3) | (go_at_call 51; go_must (with_reducible refine (HI.out _ B2.out).mono ?_); rintro e w3 ⟨rfl, q, rfl⟩))
      go_returns
      exact ⟨_, rfl, R2.out.drewN q, below_drewN B2.out q⟩
  have d1 : (kind == 1) = false := by rw [beq_eq_false_iff_ne]; exact k1
  by_cases k2 : kind = 2
  · subst k2
    have e : gdo xs ⟨2, i⟩ = if isAt xs i 2 then (xs.set i.toNat 3, 0, true) else (xs, 0, false) := by unfold gdo; simp
    rw [e]
    have HI := Lib.hid (HI0.out 2)
    clear e HC HLe HI0
    cases his : isAt xs i 2 with
    | true =>
      rw [his] at HI
      rw [if_pos rfl]
      obtain ⟨j, rfl, hjn⟩ := isAt_nat his
      obtain ⟨y, hy⟩ : ∃ y, xs[j]? = some y := ⟨_, List.getElem?_eq_getElem hjn⟩
      have HY := Lib.hid hy
      rw [← HN.out] at hjn
      have i0 : (0 : Int) ≤ (j : Int) := by omega
      have i1 : (j : Int) < (n : Int) := by omega
      clear his hy
      go_enter Try.func34, Try.ntmps34
      go_wp2_with (first | (at_builtin; go_must (refine wpList_app0 rfl (.tmp 10) (.tmp 11) 43 rfl w.heap.size 3 iz (.int .i64 0) 1 8 Try.underlying43 hiz hz0 hz1 hz2 rfl (by decide) _ (by simp [Act.eval]) HO.out ⟨b, off, none⟩ n cap (xs.map (Value.int .i64)) (by simp [Act.eval]) (by rw [List.length_map, ← HN.out]; omega) HX.out (by intro u hu; obtain ⟨y, _, rfl⟩ := List.mem_map.1 hu; rfl) (by omega) (by unfold maxLen; omega) (by omega) (by simp; omega) ?_); intro g cap2 w2 h1 hg; have h3 := HS.out g cap2 w2 h1 hg; have R2 := Lib.hid h3.1; have B2 := Lib.hid h3.2.1; have c0 := h3.2.2.cell (j := 0) rfl; have c1 := h3.2.2.cell (j := 1) rfl; clear h1 hg h3) | (go_at_call 51; go_must (with_reducible refine (HI.out _ B2.out).mono ?_); rintro e w3 ⟨rfl, q, rfl⟩; have f2 := R2.out.frozenAt j; have c2 := R2.out.at HY.out))
      go_returns
      exact ⟨_, rfl, (R2.out.drewN q).put j 3, (below_drewN B2.out q).setCell (NRow.base R2.out) _⟩
    | false =>
      rw [his] at HI
      rw [if_neg (by simp)]
      clear his
      go_enter Try.func34, Try.ntmps34
      go_wp2_with (first | (at_builtin; go_must (refine wpList_app0 rfl (.tmp 10) (.tmp 11) 43 rfl w.heap.size 3 iz (.int .i64 0) 1 8 Try.underlying43 hiz hz0 hz1 hz2 rfl (by decide) _ (by simp [Act.eval]) HO.out ⟨b, off, none⟩ n cap (xs.map (Value.int .i64)) (by simp [Act.eval]) (by rw [List.length_map, ← HN.out]; omega) HX.out (by intro u hu; obtain ⟨y, _, rfl⟩ := List.mem_map.1 hu; rfl) (by omega) (by unfold maxLen; omega) (by omega) (by simp; omega) ?_); intro g cap2 w2 h1 hg; have h3 := HS.out g cap2 w2 h1 hg; have R2 := Lib.hid h3.1; have B2 := Lib.hid h3.2.1; have c0 := h3.2.2.cell (j := 0) rfl; have c1 := h3.2.2.cell (j := 1) rfl; clear h1 hg h3) | (go_at_call 51; go_must (with_reducible refine (HI.out _ B2.out).mono ?_); rintro e w3 ⟨rfl, q, rfl⟩))
      go_returns
      exact ⟨_, rfl, R2.out.drewN q, below_drewN B2.out q⟩
  have d2 : (kind == 2) = false := by rw [beq_eq_false_iff_ne]; exact k2
  by_cases k3 : kind = 3
  · subst k3
    have e : gdo xs ⟨3, i⟩ = (xs.map settled, (xs.count 3 : Int), true) := by unfold gdo; simp
    rw [e]
    clear e HI0 HLe k1 k2 d1 d2
    have HS3 := Lib.hid (setl_succ)
    have HS4 := Lib.hid (setl_other)
    have HXS := Lib.hid (show ∀ k, k < n → ∃ x, xs[k]? = some x ∧ (setl k xs)[k]? = some x from fun k hk => ⟨xs[k]'(by rw [← HN.out]; exact hk), List.getElem?_eq_getElem (by rw [← HN.out]; exact hk), by rw [setl_at]; exact List.getElem?_eq_getElem (by rw [← HN.out]; exact hk)⟩)
    go_enter Try.func34, Try.ntmps34
    go_wp2_with (at_builtin; go_must (refine wpList_app0 rfl (.tmp 10) (.tmp 11) 43 rfl w.heap.size 3 iz (.int .i64 0) 1 8 Try.underlying43 hiz hz0 hz1 hz2 rfl (by decide) _ (by simp [Act.eval]) HO.out ⟨b, off, none⟩ n cap (xs.map (Value.int .i64)) (by simp [Act.eval]) (by rw [List.length_map, ← HN.out]; omega) HX.out (by intro u hu; obtain ⟨y, _, rfl⟩ := List.mem_map.1 hu; rfl) (by omega) (by unfold maxLen; omega) (by omega) (by simp; omega) ?_); intro g cap2 w2 h1 hg; have h3 := HS.out g cap2 w2 h1 hg; have R2 := Lib.hid h3.1; have B2 := Lib.hid h3.2.1; have c0 := h3.2.2.cell (j := 0) rfl; have c1 := h3.2.2.cell (j := 1) rfl; clear h1 hg h3)
    have HR0 := Lib.hid (show NRow w.heap.size (.slice (some ⟨g, 0, none⟩) n cap2) (setl 0 xs) w2 by rw [setl_zero]; exact R2.out)
    have HB0 := Lib.hid (NRow.base R2.out)
    clear c0 c1
    go_loopw [8] (fun c wr => ∃ k : Nat, k ≤ n ∧ c = .int .i64 k ∧ NRow w.heap.size (.slice (some ⟨g, 0, none⟩) n cap2) (setl k xs) wr ∧ Below w.heap.size w wr) (fun c _ => n - (intOf c).toNat)
    case atStart => exact ⟨0, Nat.zero_le _, rfl, HR0.out, B2.out⟩
    case round =>
      obtain ⟨k, hk, rfl, hr, hbr⟩ := hrel
      have HR := Lib.hid hr
      have HBR := Lib.hid hbr
      clear hbr
      by_cases hlt : k < n
      · obtain ⟨x, hx1, hx2⟩ := HXS.out k hlt
        have c0 : wr.cell? ⟨g, k, none⟩ = some (.int .i64 x) := hr.at hx2
        have f0 : wr.frozen? ⟨g, k, none⟩ = false := hr.frozenAt k
        have HX1 := Lib.hid hx1
        have i0 : (0 : Int) ≤ (k : Int) := by omega
        have i1 : (k : Int) < (n : Int) := by omega
        clear hr hx1 hx2
        by_cases h3 : x = 3
        · subst h3
          go_wp2_with fail
          go_roundw
          case rel => exact ⟨k + 1, by omega, by go_num, by rw [HS3.out k xs 3 HX1.out]; exact HR.out.put k 1, HBR.out.setCell HB0.out _⟩
          case measure => simp [intOf]; omega
        · have d3 : (x == 3) = false := by rw [beq_eq_false_iff_ne]; exact h3
          have H3 := Lib.hid h3
          clear h3
          go_wp2_with fail
          go_roundw
          case rel => exact ⟨k + 1, by omega, by go_num, by rw [HS4.out k xs x HX1.out H3.out]; exact HR.out, HBR.out⟩
          case measure => simp [intOf]; omega
      · obtain rfl : k = n := by omega
        clear hr
        go_wp2_with (go_at_call 36; go_must (with_reducible refine (HC.out _ HBR.out).mono ?_); rintro e w3 ⟨rfl, rfl⟩)
        go_returns
        exact ⟨_, rfl, by rw [← setl_all, ← HN.out]; exact HR.out, HBR.out⟩
  have d3 : (kind == 3) = false := by rw [beq_eq_false_iff_ne]; exact k3
  have e : gdo xs ⟨kind, i⟩ = if lea 1 xs < 0 then (xs, 0, false) else (xs.set (lea 1 xs).toNat 2, lea 1 xs, true) := by unfold gdo; rw [if_neg k1, if_neg k2, if_neg k3]
  rw [e]
  clear e HI0 HC k1 k2 k3
  rcases lea_cases 1 xs with ⟨hle, _⟩ | ⟨j, hle, hjn, hy⟩
  · rw [hle] at HLe
    rw [hle, if_pos (by omega)]
    clear hle
    go_enter Try.func34, Try.ntmps34
    go_wp2_with (first | (at_builtin; go_must (refine wpList_app0 rfl (.tmp 10) (.tmp 11) 43 rfl w.heap.size 3 iz (.int .i64 0) 1 8 Try.underlying43 hiz hz0 hz1 hz2 rfl (by decide) _ (by simp [Act.eval]) HO.out ⟨b, off, none⟩ n cap (xs.map (Value.int .i64)) (by simp [Act.eval]) (by rw [List.length_map, ← HN.out]; omega) HX.out (by intro u hu; obtain ⟨y, _, rfl⟩ := List.mem_map.1 hu; rfl) (by omega) (by unfold maxLen; omega) (by omega) (by simp; omega) ?_); intro g cap2 w2 h1 hg; have h3 := HS.out g cap2 w2 h1 hg; have R2 := Lib.hid h3.1; have B2 := Lib.hid h3.2.1; have c0 := h3.2.2.cell (j := 0) rfl; have c1 := h3.2.2.cell (j := 1) rfl; clear h1 hg h3) | (go_at_call 52; go_must (with_reducible refine (HLe.out _ B2.out).mono ?_); rintro e w3 ⟨rfl, rfl⟩))
    go_returns
    exact ⟨_, rfl, R2.out, B2.out⟩
  · have HY := Lib.hid hy
    clear hy
    rw [hle] at HLe
    rw [hle, if_neg (by omega)]
    rw [← HN.out] at hjn
    have i0 : (0 : Int) ≤ (j : Int) := by omega
    have i1 : (j : Int) < (n : Int) := by omega
    have i2 : decide ((j : Int) < 0) = false := decide_eq_false (by omega)
    clear hle
    go_enter Try.func34, Try.ntmps34
    go_wp2_with (first | (at_builtin; go_must (refine wpList_app0 rfl (.tmp 10) (.tmp 11) 43 rfl w.heap.size 3 iz (.int .i64 0) 1 8 Try.underlying43 hiz hz0 hz1 hz2 rfl (by decide) _ (by simp [Act.eval]) HO.out ⟨b, off, none⟩ n cap (xs.map (Value.int .i64)) (by simp [Act.eval]) (by rw [List.length_map, ← HN.out]; omega) HX.out (by intro u hu; obtain ⟨y, _, rfl⟩ := List.mem_map.1 hu; rfl) (by omega) (by unfold maxLen; omega) (by omega) (by simp; omega) ?_); intro g cap2 w2 h1 hg; have h3 := HS.out g cap2 w2 h1 hg; have R2 := Lib.hid h3.1; have B2 := Lib.hid h3.2.1; have c0 := h3.2.2.cell (j := 0) rfl; have c1 := h3.2.2.cell (j := 1) rfl; clear h1 hg h3) | (go_at_call 52; go_must (with_reducible refine (HLe.out _ B2.out).mono ?_); rintro e w3 ⟨rfl, rfl⟩; have f2 := R2.out.frozenAt j; have c2 := R2.out.at HY.out))
    go_returns
    exact ⟨_, rfl, R2.out.put j 2, B2.out.setCell (NRow.base R2.out) _⟩
end Go.Proofs.Ytokchikihacalaa
