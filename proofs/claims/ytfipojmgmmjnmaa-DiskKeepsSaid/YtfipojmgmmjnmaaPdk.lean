/- The program's disk: Crash. -/
import Derived.Test.YtfipojmgmmjnmaaPdj
namespace Go.Proofs.Ytfipojmgmmjnmaa
open Go.RowKit

theorem St.new1 (w : World) (T : TypeId) (cs : Array Value) (n : Nat) (h : w.heap.size = n) : St T n cs (w.alloc (.cells cs T (0, 0))) := h ▸ St.new w T cs
/-- Which places are named. -/
def bcells (m : Nat) (ks : List Int) : List Value := (List.range m).map fun (k : Nat) => Value.bool (decide ((k : Int) ∈ ks))
theorem bcells_length (m : Nat) (ks : List Int) : (bcells m ks).length = m := by simp [bcells]
theorem bcells_at (m : Nat) (ks : List Int) (k : Nat) (h : k < m) : (bcells m ks)[k]? = some (.bool (decide ((k : Int) ∈ ks))) := by simp [bcells, h]
theorem bcells_none (m : Nat) : (madeCells #[Value.bool false] m).toList = bcells m [] := by
  rw [toList_madeCells_one]
  apply List.ext_getElem?
  intro k
  by_cases h : k < m
  · rw [bcells_at m [] k h]
    simp [h]
  · rw [List.getElem?_eq_none (by simp; omega), List.getElem?_eq_none (by rw [bcells_length]; omega)]
theorem bcells_in (m : Nat) (ks : List Int) (y : Nat) (h : y < m) : bcells m (ks ++ [(y : Int)]) = (bcells m ks).set y (.bool true) := by
  apply List.ext_getElem?
  intro k
  by_cases hk : k < m
  · rw [bcells_at m _ k hk, List.getElem?_set]
    by_cases e : y = k
    · subst e
      rw [if_pos rfl, if_pos (by rw [bcells_length]; exact h)]
      simp
    · rw [if_neg e, bcells_at m ks k hk]
      have : ((k : Int) ∈ ks ++ [(y : Int)]) ↔ (k : Int) ∈ ks := by
        simp only [List.mem_append, List.mem_singleton]
        constructor
        · rintro (h | h)
          · exact h
          · omega
        · exact .inl
      simp only [this]
  · rw [List.getElem?_eq_none (by rw [bcells_length]; omega), List.getElem?_eq_none (by rw [List.length_set, bcells_length]; omega)]
theorem bcells_out (m : Nat) (ks : List Int) (y : Int) (h : ¬ (0 ≤ y ∧ y < m)) : bcells m (ks ++ [y]) = bcells m ks := by
  unfold bcells
  apply List.map_congr_left
  intro k hk
  have hk := List.mem_range.1 hk
  have : ((k : Int) ∈ ks ++ [y]) ↔ (k : Int) ∈ ks := by
    simp only [List.mem_append, List.mem_singleton]
    constructor
    · rintro (e | e)
      · exact e
      · omega
    · exact .inl
  simp only [this]
theorem wpList_make {P : Program} {ops : Array Oper} {rest : List Oper} {o : Oper} {a : Act} {w : World} {Q : Exit → Act → World → Prop} (hgd : o.guard = none) (t e : TypeId) (x y : Operand) (ho : o.op = .makeSlice t x y) (i : TypeInfo) (z : Value) (size : Nat)
    (ht : P.underlying t = some (.slice e)) (hi : P.info? e = some i) (hz : i.zero = some z) (hs : i.size = size) (n : Nat) (hx : a.eval x = .int .i64 (n : Int)) (hy : a.eval y = .int .i64 (n : Int)) (hbytes : (i.bytes : Int) * n ≤ 281474976710656) (h63 : (n : Int) ≤ 9223372036854775807)
    (h : wpList P ops Q rest (a.put o.dst (.slice (some ⟨w.heap.size, 0, none⟩) n n)) (w.alloc (.cells (madeCells z.cells (n * size)) e))) : wpList P ops Q (o :: rest) a w := by
  subst hs
  refine wpList_plain hgd fun K hK => ?_
  have hrun := run_make (P := P) w t e i z ht hi hz .i64 .i64 n n (by omega) (Int.le_refl _) hbytes h63
  simp only [Int.toNat_natCast] at hrun
  unfold Oper.wp execOp
  simp only [ho, hx, hy, Sem.run_bind, hrun, Result.andThen_ok]
  exact hK _ _ h
theorem infoBool : (Try.prog.info? 4).map (fun i => (i.zero, i.size, i.bytes)) = some (some (.bool false), 1, 1) := by kernel_rfl
set_option maxRecDepth 100000 in
theorem dCrashc_any (k m q nb cap : Nat) (b : Bool) (W : World) (hk : k < m) (h : St 89 q #[.slice (some ⟨nb, 0, none⟩) m cap] W) (hc : W.cell? ⟨nb, k, none⟩ = some (.bool b)) :
    Calls Try.prog 44 #[.int .i64 k, .pointer (some ⟨q, 0, none⟩)] W fun e w' => e = .returned (.bool b) ∧ W = w' := by
  have c0 : W.cell? ⟨q, 0, none⟩ = some (.slice (some ⟨nb, 0, none⟩) m cap) := h.cell rfl
  clear h
  go_enter Try.func44, Try.ntmps44
  go_wp2
  go_ret
  exact ⟨rfl, rfl⟩
set_option maxRecDepth 100000 in
set_option maxHeartbeats 1000000 in
theorem dCrash_do {B p : Nat} {kv wv lv : Value} {is : Bool} {N : Int} {D : DS} {w : World} (v : Value) (keep : List Int) (hl : D.wait.length ≤ 1073741824) (hv : Ints (fun _ => True) v keep w) (h : PD0 B p kv wv lv is N D w) :
    Calls Try.prog 21 #[.pointer (some ⟨p, 0, none⟩), v] w fun e w' => e = .returned (.int .i64 0) ∧
      PDk B p kv (.slice none 0 0) lv (D.crash keep) w' ∧ Frm (fun j => j = p ∨ kv.ownBlock = some j ∨ lv.ownBlock = some j) w w' := by
  have HM := Lib.hid (dmade_at h)
  obtain ⟨i0, hi, hz0, hz1, hz2⟩ := info_parts infoBool
  obtain ⟨ko, kc, kb, kof, rfl, ⟨hkl, hkn⟩, hka, hkx⟩ := hv
  obtain ⟨m, hm⟩ : ∃ m, m = D.wait.length := ⟨_, rfl⟩
  obtain ⟨kl, hkl2⟩ : ∃ kl, kl = keep.length := ⟨_, rfl⟩
  obtain ⟨ao, cw, hwv⟩ := own_slice h.wr
  have c1 : w.cell? ⟨p, 1, none⟩ = some (.slice ao m cw) := by rw [hm, ← hwv]; exact h.st.cell rfl
  rw [← hm] at hl
  rw [← hkl2] at hkl hka ⊢
  have HX := Lib.hid (fun (i : Nat) (x : Int) (hx : keep[i]? = some x) => And.intro (hka (by rw [hkl2]; have := (List.getElem?_eq_some_iff.1 hx).1; omega)) (hkx i x hx))
  have HW := Lib.hid hm
  have HK := Lib.hid hkl2
  have HH := Lib.hid h
  have hb1 : ((1 : Nat) : Int) * (m : Int) ≤ 281474976710656 := by omega
  have hb : (i0.bytes : Int) * (m : Int) ≤ 281474976710656 := by rw [hz2]; exact hb1
  clear h hwv hm hkl2 hkx hb1
  go_enter Try.func21, Try.ntmps21
  go_wp2_with (first
    | (go_at_call 42; go_must (refine HM.out.mono ?_); rintro e w1 ⟨rfl, rfl⟩)
    | ((with_reducible show wpList _ _ _ ({ dst := _, op := .makeSlice _ _ _, type := _, pos := _, after := _, guard := _ } :: _) _ _); refine wpList_make rfl 89 4 _ _ rfl i0 (.bool false) 1 Try.underlying89 hi hz0 hz1 m rfl rfl hb (by omega) ?_))
  have e3 : (madeCells #[Value.bool false] m).size = m * 1 := by rw [size_madeCells, Nat.mul_one]
  have hown := World.ownsRow_lit (base := w.heap.size) (e := 4) (size := 1) w (madeCells #[Value.bool false] m) m (Nat.le_refl _) (by unfold maxLen; omega) e3
  have hown2 := hown.alloc (.cells #[.slice (some ⟨w.heap.size, 0, none⟩) m m] 89 (0, 0))
  have hst2 := St.new1 (w.alloc (.cells (madeCells #[Value.bool false] m) 4 (0, 0))) 89 #[.slice (some ⟨w.heap.size, 0, none⟩) m m] (w.heap.size + 1) (by simp)
  have hb2 : Below w.heap.size w ((w.alloc (.cells (madeCells #[Value.bool false] m) 4 (0, 0))).alloc (.cells #[.slice (some ⟨w.heap.size, 0, none⟩) m m] 89 (0, 0))) := ((Below.refl _ w).alloc (Nat.le_refl _) _).alloc (by simp) _
  rw [bcells_none] at hown2
  generalize ((w.alloc (.cells (madeCells #[Value.bool false] m) 4 (0, 0))).alloc (.cells #[.slice (some ⟨w.heap.size, 0, none⟩) m m] 89 (0, 0))) = W2 at hown2 hst2 hb2 ⊢
  have H0 := Lib.hid (And.intro hown2 (And.intro hst2 hb2))
  clear hown hown2 hst2 hb2 e3 c1 hb hi hz0 hz1 hz2
  go_loopw [19] (fun c wr => ∃ i : Nat, i ≤ kl ∧ c = .int .i64 i ∧ wr.ownsRow w.heap.size 4 1 (.slice (some ⟨w.heap.size, 0, none⟩) m m) m (bcells m (keep.take i)) ∧ Frm (fun j => j = w.heap.size) W2 wr) (fun c _ => kl - (intOf c).toNat)
  case atStart => exact ⟨0, Nat.zero_le _, rfl, H0.out.1, Frm.refl _ _⟩
  case round =>
    obtain ⟨i, hi, rfl, hr, hfr⟩ := hrel
    have hst : St 89 (w.heap.size + 1) #[.slice (some ⟨w.heap.size, 0, none⟩) m m] wr := hfr.st H0.out.2.1 (by omega)
    have hbw : Below w.heap.size w wr := H0.out.2.2.trans (hfr.below H0.out.2.2.size fun j hj => by omega)
    have HB := Lib.hid hbw
    have HS := Lib.hid hst
    have HR := Lib.hid hr
    have HFR := Lib.hid hfr
    by_cases hlt : i < kl
    · obtain ⟨y, hy⟩ : ∃ y, keep[i]? = some y := ⟨_, List.getElem?_eq_getElem (by rw [← HK.out]; exact hlt)⟩
      obtain ⟨⟨q1, q2, _⟩, q4⟩ := HX.out i y hy
      subst q1
      have cy : wr.cell? ⟨kb, kof + i, none⟩ = some (.int .i64 y) := (hbw.cell (p := ⟨kb, kof + i, none⟩) q2).trans q4
      have cn : wr.cell? ⟨w.heap.size + 1, 0, none⟩ = some (.slice (some ⟨w.heap.size, 0, none⟩) m m) := hst.cell rfl
      have HT := Lib.hid (show keep.take (i + 1) = keep.take i ++ [y] from by
        obtain ⟨h1, h2⟩ := List.getElem?_eq_some_iff.1 hy
        rw [List.take_succ_eq_append_getElem h1, h2])
      clear hy q2 q4 hst hfr hbw
      by_cases h0 : 0 ≤ y
      · obtain ⟨z, hz⟩ : ∃ z : Nat, y = z := ⟨y.toNat, by omega⟩
        subst hz
        have d0 : decide (0 ≤ (z : Int)) = true := decide_eq_true h0
        by_cases h1 : z < m
        · have d1 : decide (z < m) = true := decide_eq_true h1
          have d2 : decide ((z : Int) < (m : Int)) = true := decide_eq_true (by omega)
          have cz := hr.cellAt z (by omega)
          rw [bcells_at m _ z h1] at cz
          have qz := hr.frozenAt z
          have HN := Lib.hid (bcells_in m (keep.take i) z h1)
          clear hr
          go_wp2_with fail
          go_roundw
          case rel =>
            refine ⟨i + 1, by omega, by go_num, ?_, HFR.out.setCell (p := ⟨w.heap.size, z, none⟩) (.inl rfl) _⟩
            rw [HT.out, HN.out]
            exact (HR.out.stored z _).1
          case measure => simp [intOf]; omega
        · have d1 : decide (z < m) = false := decide_eq_false h1
          have d2 : decide ((z : Int) < (m : Int)) = false := decide_eq_false (by omega)
          have HN := Lib.hid (bcells_out m (keep.take i) z (by omega))
          clear hr
          go_wp2_with fail
          go_roundw
          case rel =>
            refine ⟨i + 1, by omega, by go_num, ?_, HFR.out⟩
            rw [HT.out, HN.out]
            exact HR.out
          case measure => simp [intOf]; omega
      · have d0 : decide (0 ≤ y) = false := decide_eq_false h0
        have HN := Lib.hid (bcells_out m (keep.take i) y (by omega))
        clear hr
        go_wp2_with fail
        go_roundw
        case rel =>
          refine ⟨i + 1, by omega, by go_num, ?_, HFR.out⟩
          rw [HT.out, HN.out]
          exact HR.out
        case measure => simp [intOf]; omega
    · obtain rfl : i = kl := by omega
      have hmf : ∀ (fn : Fn) (first cap : Array Value) (w : World), (Instr.makeFunc fn first cap).run Try.prog w = .ok (.func fn first cap) w := fun _ _ _ _ => rfl
      have hP := HH.out.below hbw
      have hsw : wr.ownsRow w.heap.size 4 1 (.slice (some ⟨w.heap.size, 0, none⟩) m m) m (bcells m keep) := by
        have h := hr
        rwa [List.take_of_length_le (by rw [← HK.out]; exact Nat.le_refl _)] at h
      have hkw : ∀ j, kv.ownBlock = some j → j < w.heap.size := fun j hj => (HH.out.kr.lt j hj).2
      have hlw : ∀ j, lv.ownBlock = some j → j < w.heap.size := fun j hj => (HH.out.lr.lt j hj).2
      have HC := Lib.hid (dsettle_some B p (w.heap.size + 1) kv wv lv is N D (fun k => decide ((k : Int) ∈ keep)) wr hP fun k W' hk f' => by
        have hst' : St 89 (w.heap.size + 1) #[.slice (some ⟨w.heap.size, 0, none⟩) m m] W' := f'.st hst fun e => by
          rcases e with e | e
          · have := hkw _ e; omega
          · have := hlw _ e; omega
        have hc := hsw.cellAt k (by rw [HW.out]; omega)
        rw [bcells_at m keep k (by rw [HW.out]; exact hk)] at hc
        refine dCrashc_any k m (w.heap.size + 1) w.heap.size m _ W' (by rw [HW.out]; exact hk) hst' ((f'.cell (q := ⟨w.heap.size, k, none⟩) (by show w.heap.size < wr.heap.size; have := hst.lt; omega) ?_).trans hc)
        rintro (e | e)
        · have := hkw _ e; exact absurd this (Nat.lt_irrefl _)
        · have := hlw _ e; exact absurd this (Nat.lt_irrefl _))
      clear hP hsw hkw hlw hr hst hfr hbw
      go_wp2_with (go_at_call 43; go_must (refine HC.out.mono ?_); rintro e w3 ⟨rfl, h3, f3⟩; have H3 := Lib.hid h3; have F3 := Lib.hid f3; have c3 := (show w3.cell? ⟨p, 3, none⟩ = some (.bool is) from h3.st.cell rfl); have c4 := (show w3.cell? ⟨p, 4, none⟩ = some (.int .i64 N) from h3.st.cell rfl); have c5 := (show w3.cell? ⟨p, 5, none⟩ = some (.bool D.dead) from h3.st.cell rfl); have q3 := h3.st.free 3; have q4 := h3.st.free 4; have q5 := h3.st.free 5; clear h3 f3)
      go_ret
      have h3 := H3.out
      rw [picked_chosen] at h3
      refine ⟨rfl, ⟨false, 0, ((h3.st.set 3 (.bool false)).set 4 (.int .i64 0)).set 5 (.bool false), .inr ⟨rfl, rfl⟩, ⟨rfl, h3.ok.inn, h3.ok.full, h3.ok.fulw, (show (-1 : Int) ≤ -1 from by decide), (show (-1 : Int) ≤ 9223372036854775807 from by decide)⟩, h3.pos, ?_, ?_, ?_, h3.kp, h3.wp, h3.lp, h3.kw, h3.kl, h3.wl, h3.bp⟩, ?_⟩
      · exact ownsRow_setCell_other (ownsRow_setCell_other (ownsRow_setCell_other h3.kr h3.kp _) h3.kp _) h3.kp _
      · exact ownsRow_setCell_other (ownsRow_setCell_other (ownsRow_setCell_other h3.wr h3.wp _) h3.wp _) h3.wp _
      · exact ownsRow_setCell_other (ownsRow_setCell_other (ownsRow_setCell_other h3.lr h3.lp _) h3.lp _) h3.lp _
      · exact ((((Frm.of_below HB.out).next F3.out).setCell (p := ⟨p, 3, none⟩) (.inl (.inl rfl)) _).setCell (p := ⟨p, 4, none⟩) (.inl (.inl rfl)) _).setCell (p := ⟨p, 5, none⟩) (.inl (.inl rfl)) _
theorem dCrash_any (B p : Nat) (F : Nat → Prop) (v : Value) (D : DS) (keep : List Int) (w : World) (hB : B ≤ w.heap.size) (hl : D.wait.length ≤ 1073741824) (hv : Ints (fun b => ¬ F b) v keep w) (h : PD B p F D w) :
    Calls Try.prog 21 #[.pointer (some ⟨p, 0, none⟩), v] w fun e w' => e = .returned (.int .i64 0) ∧ PDid B p F (D.crash keep) w w' := by
  obtain ⟨kv, wv, lv, is, N, h0, hF, h1, h2, h3, h4⟩ := h
  obtain ⟨ao, cap, b, off, e1, e2, e3, e4⟩ := hv
  exact (dCrash_do v keep hl ⟨ao, cap, b, off, e1, e2, fun hl => ⟨(e3 hl).1, (e3 hl).2.1, trivial⟩, e4⟩ h0).mono fun e w' ⟨he, ⟨is', N', hr⟩, hf⟩ => ⟨he, PDid.mk' hB hF h1 hr (hf.wide fun j hj => by rcases hj with rfl | hj | hj; exact h1; exact h2 j hj; exact h4 j hj) (fun j hj => .inl (h2 j hj)) (fun j hj => by simp [Value.ownBlock] at hj) (fun j hj => .inl (h4 j hj))⟩
end Go.Proofs.Ytfipojmgmmjnmaa
