/- Several texts in one: Pdj Pdk Pdl Pdm Pdn. -/
import Derived.Laws.OwnMore
import Derived.Test.YtikeckmbfgidhaaGreatDoorZy13
/- The program's disk: Barrier; Crash. -/
namespace Go.Proofs.YtikeckmbfgidhaaGreatDoor
open Go.RowKit

set_option maxRecDepth 100000 in
theorem dBarrierc_any (k : Nat) (W : World) : Calls Tryz.prog 27 #[.int .i64 k] W fun e w' => e = .returned (.bool true) ∧ W = w' := by
  go_enter Tryz.func27, Tryz.ntmps27
  go_wp2
  go_ret
  exact ⟨rfl, rfl⟩
set_option maxRecDepth 100000 in
theorem dBarrier_dead {B p : Nat} {kv wv lv : Value} {is : Bool} {N : Int} {D : DS} {w : World} (hd : D.dead = true) (h : PD0 B p kv wv lv is N D w) : Calls Tryz.prog 9 #[.pointer (some ⟨p, 0, none⟩)] w fun e w' => e = .returned (.int .i64 30) ∧ w = w' := by
  have HR := Lib.hid (drefusal_at h)
  rw [hd] at HR
  clear h hd
  go_enter Tryz.func9, Tryz.ntmps9
  go_wp2_with (go_at_call 24; go_must (refine HR.out.mono ?_); rintro e w1 ⟨rfl, rfl⟩)
  go_ret
  exact ⟨rfl, rfl⟩
set_option maxRecDepth 100000 in
theorem dBarrier_off {B p : Nat} {kv wv lv : Value} {is : Bool} {N : Int} {D : DS} {w : World} (hd : D.dead = false) (h0 : D.fuse = 0) (h : PD0 B p kv wv lv is N D w) :
    Calls Tryz.prog 9 #[.pointer (some ⟨p, 0, none⟩)] w fun e w' => e = .returned (.int .i64 30) ∧ PD0 B p kv wv lv is N D.burnt w' ∧ Frm (fun j => j = p) w w' := by
  have HR := Lib.hid (drefusal_at h)
  rw [hd] at HR
  have HB := Lib.hid (dburn_off B p kv wv lv is N D w h0 h)
  clear h hd
  go_enter Tryz.func9, Tryz.ntmps9
  go_wp2_with (first | (go_at_call 24; go_must (refine HR.out.mono ?_); rintro e w1 ⟨rfl, rfl⟩) | (go_at_call 25; go_must (refine HB.out.mono ?_); rintro e w2 ⟨rfl, h2⟩; have H2 := Lib.hid h2; clear h2))
  go_ret
  exact ⟨rfl, H2.out.1, H2.out.2⟩
set_option maxRecDepth 100000 in
theorem dBarrier_do {B p : Nat} {kv wv lv : Value} {is : Bool} {N : Int} {D : DS} {w : World} (hd : D.dead = false) (h0 : D.fuse ≠ 0) (hc : D.br ≤ 1073741824) (h : PD0 B p kv wv lv is N D w) :
    Calls Tryz.prog 9 #[.pointer (some ⟨p, 0, none⟩)] w fun e w' => e = .returned (.int .i64 0) ∧
      PDk B p kv (.slice none 0 0) lv { D.burnt with kept := keepAll D.kept D.wait, wait := [], br := D.br + 1 } w' ∧ Frm (fun j => j = p ∨ kv.ownBlock = some j ∨ lv.ownBlock = some j) w w' := by
  have HR := Lib.hid (drefusal_at h)
  rw [hd] at HR
  have HB := Lib.hid (dburn_on B p kv wv lv is N D w h0 h)
  obtain ⟨E, hE⟩ : ∃ E, E = D.burnt := ⟨_, rfl⟩
  obtain ⟨ew, er, ek, eb⟩ := burnt_parts D
  rw [← hE] at ew er ek eb HB ⊢
  have HX := Lib.hid (And.intro hE (And.intro ew (And.intro ek eb)))
  have HC := Lib.hid hc
  clear h hd h0 hE ew er ek eb hc
  go_enter Tryz.func9, Tryz.ntmps9
  go_wp2_with (first
    | (go_at_call 24; go_must (refine HR.out.mono ?_); rintro e w1 ⟨rfl, rfl⟩)
    | (go_at_call 25; go_must (refine HB.out.mono ?_); rintro e w2 ⟨rfl, ⟨is2, N2, h2⟩, f2, s2⟩; have H2 := Lib.hid h2; have F2 := Lib.hid f2; clear h2 f2 s2)
    | (go_at_call 26; go_must (refine (dsettle_all B p kv wv lv is2 N2 E (fun _ => true) w2 H2.out (fun k W _ _ => dBarrierc_any k W)).mono ?_); rintro e w3 ⟨rfl, h3, f3⟩; have c7 := (show w3.cell? ⟨p, 7, none⟩ = some (.int .i64 (D.br : Int)) from by rw [← HX.out.2.2.2]; exact h3.st.cell rfl); have q7 := h3.st.free 7; have hbr := HC.out; have H3 := Lib.hid h3; have F3 := Lib.hid f3; clear h3 f3)
    | (go_at_call 28; go_must (refine (i64_one ⟨p, 7, none⟩ (D.br : Int) _ (by omega) (by omega) c7 q7).mono ?_); rintro e w4 ⟨rfl, rfl⟩))
  go_ret
  refine ⟨rfl, ⟨is2, N2, ?_⟩, ((F2.out.wide fun j hj => .inl hj).next F3.out).setCell (p := ⟨p, 7, none⟩) (.inl (.inl rfl)) _⟩
  have h := H3.out.brs (D.br + 1)
  have e2 : ((D.br + 1 : Nat) : Int) = (D.br : Int) + 1 := by omega
  rw [e2, picked_all] at h
  have e3 : ({ { E with kept := keepAll E.kept E.wait, wait := [] } with br := D.br + 1 } : DS) = { E with kept := keepAll D.kept D.wait, wait := [], br := D.br + 1 } := by simp only [HX.out.2.1, HX.out.2.2.1]
  rw [← e3]
  exact h
theorem dBarrier_any (B p : Nat) (F : Nat → Prop) (D : DS) (w : World) (hB : B ≤ w.heap.size) (hc : D.br ≤ 1073741824) (h : PD B p F D w) :
    Calls Tryz.prog 9 #[.pointer (some ⟨p, 0, none⟩)] w fun e w' => e = .returned (.int .i64 D.barrier.1) ∧ PDid B p F D.barrier.2 w w' := by
  have hR := h
  obtain ⟨kv, wv, lv, is, N, h0, hF, h1, h2, h3, h4⟩ := h
  cases hd : D.dead with
  | true =>
    have e : D.barrier = (30, D) := by unfold DS.barrier; rw [if_pos hd]
    rw [e]
    exact (dBarrier_dead hd h0).mono fun e w' ⟨he, hw⟩ => by subst hw; exact ⟨he, PDid.same hR⟩
  | false =>
    by_cases h00 : D.fuse = 0
    · have e : D.barrier = (30, D.burnt) := by unfold DS.barrier; rw [if_neg (by rw [hd]; simp), if_pos h00]
      rw [e]
      exact (dBarrier_off hd h00 h0).mono fun e w' ⟨he, hr, hf⟩ => ⟨he, PDid.mk' hB hF h1 hr (hf.wide fun j hj => by subst hj; exact h1) (fun j hj => .inl (h2 j hj)) (fun j hj => .inl (h3 j hj)) (fun j hj => .inl (h4 j hj))⟩
    · have e : D.barrier = (0, { D.burnt with kept := keepAll D.kept D.wait, wait := [], br := D.br + 1 }) := by unfold DS.barrier; rw [if_neg (by rw [hd]; simp), if_neg h00]
      rw [e]
      exact (dBarrier_do hd h00 hc h0).mono fun e w' ⟨he, ⟨is', N', hr⟩, hf⟩ => ⟨he, PDid.mk' hB hF h1 hr (hf.wide fun j hj => by rcases hj with rfl | hj | hj; exact h1; exact h2 j hj; exact h4 j hj) (fun j hj => .inl (h2 j hj)) (fun j hj => by simp [Value.ownBlock] at hj) (fun j hj => .inl (h4 j hj))⟩
end Go.Proofs.YtikeckmbfgidhaaGreatDoor

/- The program's disk: Crash. -/
namespace Go.Proofs.YtikeckmbfgidhaaGreatDoor
open Go.RowKit

theorem St.new1 (w : World) (T : TypeId) (cs : Array Value) (n : Nat) (h : w.heap.size = n) : St T n cs (w.alloc (.cells cs T (0, 0))) := h ▸ St.new w T cs
/-- Which places are named. -/
def bcells (m : Nat) (ks : List Int) : List Value := (List.range m).map fun (k : Nat) => Value.bool (decide ((k : Int) ∈ ks))
theorem bcells_length (m : Nat) (ks : List Int) : (bcells m ks).length = m := by simp [bcells]
theorem bcells_at (m : Nat) (ks : List Int) (k : Nat) (h : k < m) : (bcells m ks)[k]? = some (.bool (decide ((k : Int) ∈ ks))) := by simp [bcells, h]
theorem bcells_none (m : Nat) : (madeCells #[Value.bool false] m).toList = bcells m [] := by
  rw [toList_madeCells_one]
  apply List.ext_getElem?
  intro k
  by_cases h : k < m
  · rw [bcells_at m [] k h]
    simp [h]
  · rw [List.getElem?_eq_none (by simp; omega), List.getElem?_eq_none (by rw [bcells_length]; omega)]
theorem bcells_in (m : Nat) (ks : List Int) (y : Nat) (h : y < m) : bcells m (ks ++ [(y : Int)]) = (bcells m ks).set y (.bool true) := by
  apply List.ext_getElem?
  intro k
  by_cases hk : k < m
  · rw [bcells_at m _ k hk, List.getElem?_set]
    by_cases e : y = k
    · subst e
      rw [if_pos rfl, if_pos (by rw [bcells_length]; exact h)]
      simp
    · rw [if_neg e, bcells_at m ks k hk]
      have : ((k : Int) ∈ ks ++ [(y : Int)]) ↔ (k : Int) ∈ ks := by
        simp only [List.mem_append, List.mem_singleton]
        constructor
        · rintro (h | h)
          · exact h
          · omega
        · exact .inl
      simp only [this]
  · rw [List.getElem?_eq_none (by rw [bcells_length]; omega), List.getElem?_eq_none (by rw [List.length_set, bcells_length]; omega)]
theorem bcells_out (m : Nat) (ks : List Int) (y : Int) (h : ¬ (0 ≤ y ∧ y < m)) : bcells m (ks ++ [y]) = bcells m ks := by
  unfold bcells
  apply List.map_congr_left
  intro k hk
  have hk := List.mem_range.1 hk
  have : ((k : Int) ∈ ks ++ [y]) ↔ (k : Int) ∈ ks := by
    simp only [List.mem_append, List.mem_singleton]
    constructor
    · rintro (e | e)
      · exact e
      · omega
    · exact .inl
  simp only [this]
theorem wpList_make {P : Program} {ops : Array Oper} {rest : List Oper} {o : Oper} {a : Act} {w : World} {Q : Exit → Act → World → Prop} (hgd : o.guard = none) (t e : TypeId) (x y : Operand) (ho : o.op = .makeSlice t x y) (i : TypeInfo) (z : Value) (size : Nat)
    (ht : P.underlying t = some (.slice e)) (hi : P.info? e = some i) (hz : i.zero = some z) (hs : i.size = size) (n : Nat) (hx : a.eval x = .int .i64 (n : Int)) (hy : a.eval y = .int .i64 (n : Int)) (hbytes : (i.bytes : Int) * n ≤ 281474976710656) (h63 : (n : Int) ≤ 9223372036854775807)
    (h : wpList P ops Q rest (a.put o.dst (.slice (some ⟨w.heap.size, 0, none⟩) n n)) (w.alloc (.cells (madeCells z.cells (n * size)) e))) : wpList P ops Q (o :: rest) a w := by
  subst hs
  refine wpList_plain hgd fun K hK => ?_
  have hrun := run_make (P := P) w t e i z ht hi hz .i64 .i64 n n (by omega) (Int.le_refl _) hbytes h63
  simp only [Int.toNat_natCast] at hrun
  unfold Oper.wp execOp
  simp only [ho, hx, hy, Sem.run_bind, hrun, Result.andThen_ok]
  exact hK _ _ h
theorem infoBool : (Tryz.prog.info? 4).map (fun i => (i.zero, i.size, i.bytes)) = some (some (.bool false), 1, 1) := by kernel_rfl
set_option maxRecDepth 100000 in
theorem dCrashc_any (k m q nb cap : Nat) (b : Bool) (W : World) (hk : k < m) (h : St 64 q #[.slice (some ⟨nb, 0, none⟩) m cap] W) (hc : W.cell? ⟨nb, k, none⟩ = some (.bool b)) :
    Calls Tryz.prog 30 #[.int .i64 k, .pointer (some ⟨q, 0, none⟩)] W fun e w' => e = .returned (.bool b) ∧ W = w' := by
  have c0 : W.cell? ⟨q, 0, none⟩ = some (.slice (some ⟨nb, 0, none⟩) m cap) := h.cell rfl
  clear h
  go_enter Tryz.func30, Tryz.ntmps30
  go_wp2
  go_ret
  exact ⟨rfl, rfl⟩
set_option maxRecDepth 100000 in
set_option maxHeartbeats 1000000 in
theorem dCrash_do {B p : Nat} {kv wv lv : Value} {is : Bool} {N : Int} {D : DS} {w : World} (v : Value) (keep : List Int) (hl : D.wait.length ≤ 1073741824) (hv : Ints (fun _ => True) v keep w) (h : PD0 B p kv wv lv is N D w) :
    Calls Tryz.prog 10 #[.pointer (some ⟨p, 0, none⟩), v] w fun e w' => e = .returned (.int .i64 0) ∧
      PDk B p kv (.slice none 0 0) lv (D.crash keep) w' ∧ Frm (fun j => j = p ∨ kv.ownBlock = some j ∨ lv.ownBlock = some j) w w' := by
  have HM := Lib.hid (dmade_at h)
  obtain ⟨i0, hi, hz0, hz1, hz2⟩ := info_parts infoBool
  obtain ⟨ko, kc, kb, kof, rfl, ⟨hkl, hkn⟩, hka, hkx⟩ := hv
  obtain ⟨m, hm⟩ : ∃ m, m = D.wait.length := ⟨_, rfl⟩
  obtain ⟨kl, hkl2⟩ : ∃ kl, kl = keep.length := ⟨_, rfl⟩
  obtain ⟨ao, cw, hwv⟩ := own_slice h.wr
  have c1 : w.cell? ⟨p, 1, none⟩ = some (.slice ao m cw) := by rw [hm, ← hwv]; exact h.st.cell rfl
  rw [← hm] at hl
  rw [← hkl2] at hkl hka ⊢
  have HX := Lib.hid (fun (i : Nat) (x : Int) (hx : keep[i]? = some x) => And.intro (hka (by rw [hkl2]; have := (List.getElem?_eq_some_iff.1 hx).1; omega)) (hkx i x hx))
  have HW := Lib.hid hm
  have HK := Lib.hid hkl2
  have HH := Lib.hid h
  have hb1 : ((1 : Nat) : Int) * (m : Int) ≤ 281474976710656 := by omega
  have hb : (i0.bytes : Int) * (m : Int) ≤ 281474976710656 := by rw [hz2]; exact hb1
  clear h hwv hm hkl2 hkx hb1
  go_enter Tryz.func10, Tryz.ntmps10
  go_wp2_with (first
    | (go_at_call 29; go_must (refine HM.out.mono ?_); rintro e w1 ⟨rfl, rfl⟩)
    | ((with_reducible show wpList _ _ _ ({ dst := _, op := .makeSlice _ _ _, type := _, pos := _, after := _, guard := _ } :: _) _ _); refine wpList_make rfl 64 4 _ _ rfl i0 (.bool false) 1 Tryz.underlying64 hi hz0 hz1 m rfl rfl hb (by omega) ?_))
  have e3 : (madeCells #[Value.bool false] m).size = m * 1 := by rw [size_madeCells, Nat.mul_one]
  have hown := World.ownsRow_lit (base := w.heap.size) (e := 4) (size := 1) w (madeCells #[Value.bool false] m) m (Nat.le_refl _) (by unfold maxLen; omega) e3
  have hown2 := hown.alloc (.cells #[.slice (some ⟨w.heap.size, 0, none⟩) m m] 64 (0, 0))
  have hst2 := St.new1 (w.alloc (.cells (madeCells #[Value.bool false] m) 4 (0, 0))) 64 #[.slice (some ⟨w.heap.size, 0, none⟩) m m] (w.heap.size + 1) (by simp)
  have hb2 : Below w.heap.size w ((w.alloc (.cells (madeCells #[Value.bool false] m) 4 (0, 0))).alloc (.cells #[.slice (some ⟨w.heap.size, 0, none⟩) m m] 64 (0, 0))) := ((Below.refl _ w).alloc (Nat.le_refl _) _).alloc (by simp) _
  rw [bcells_none] at hown2
  generalize ((w.alloc (.cells (madeCells #[Value.bool false] m) 4 (0, 0))).alloc (.cells #[.slice (some ⟨w.heap.size, 0, none⟩) m m] 64 (0, 0))) = W2 at hown2 hst2 hb2 ⊢
  have H0 := Lib.hid (And.intro hown2 (And.intro hst2 hb2))
  clear hown hown2 hst2 hb2 e3 c1 hb hi hz0 hz1 hz2
  go_loopw [19] (fun c wr => ∃ i : Nat, i ≤ kl ∧ c = .int .i64 i ∧ wr.ownsRow w.heap.size 4 1 (.slice (some ⟨w.heap.size, 0, none⟩) m m) m (bcells m (keep.take i)) ∧ Frm (fun j => j = w.heap.size) W2 wr) (fun c _ => kl - (intOf c).toNat)
  case atStart => exact ⟨0, Nat.zero_le _, rfl, H0.out.1, Frm.refl _ _⟩
  case round =>
    obtain ⟨i, hi, rfl, hr, hfr⟩ := hrel
    have hst : St 64 (w.heap.size + 1) #[.slice (some ⟨w.heap.size, 0, none⟩) m m] wr := hfr.st H0.out.2.1 (by omega)
    have hbw : Below w.heap.size w wr := H0.out.2.2.trans (hfr.below H0.out.2.2.size fun j hj => by omega)
    have HB := Lib.hid hbw
    have HS := Lib.hid hst
    have HR := Lib.hid hr
    have HFR := Lib.hid hfr
    by_cases hlt : i < kl
    · obtain ⟨y, hy⟩ : ∃ y, keep[i]? = some y := ⟨_, List.getElem?_eq_getElem (by rw [← HK.out]; exact hlt)⟩
      obtain ⟨⟨q1, q2, _⟩, q4⟩ := HX.out i y hy
      subst q1
      have cy : wr.cell? ⟨kb, kof + i, none⟩ = some (.int .i64 y) := (hbw.cell (p := ⟨kb, kof + i, none⟩) q2).trans q4
      have cn : wr.cell? ⟨w.heap.size + 1, 0, none⟩ = some (.slice (some ⟨w.heap.size, 0, none⟩) m m) := hst.cell rfl
      have HT := Lib.hid (show keep.take (i + 1) = keep.take i ++ [y] from by
        obtain ⟨h1, h2⟩ := List.getElem?_eq_some_iff.1 hy
        rw [List.take_succ_eq_append_getElem h1, h2])
      clear hy q2 q4 hst hfr hbw
      by_cases h0 : 0 ≤ y
      · obtain ⟨z, hz⟩ : ∃ z : Nat, y = z := ⟨y.toNat, by omega⟩
        subst hz
        have d0 : decide (0 ≤ (z : Int)) = true := decide_eq_true h0
        by_cases h1 : z < m
        · have d1 : decide (z < m) = true := decide_eq_true h1
          have d2 : decide ((z : Int) < (m : Int)) = true := decide_eq_true (by omega)
          have cz := hr.cellAt z (by omega)
          rw [bcells_at m _ z h1] at cz
          have qz := hr.frozenAt z
          have HN := Lib.hid (bcells_in m (keep.take i) z h1)
          clear hr
          go_wp2_with fail
          go_roundw
          case rel =>
            refine ⟨i + 1, by omega, by go_num, ?_, HFR.out.setCell (p := ⟨w.heap.size, z, none⟩) (.inl rfl) _⟩
            rw [HT.out, HN.out]
            exact (HR.out.stored z _).1
          case measure => simp [intOf]; omega
        · have d1 : decide (z < m) = false := decide_eq_false h1
          have d2 : decide ((z : Int) < (m : Int)) = false := decide_eq_false (by omega)
          have HN := Lib.hid (bcells_out m (keep.take i) z (by omega))
          clear hr
          go_wp2_with fail
          go_roundw
          case rel =>
            refine ⟨i + 1, by omega, by go_num, ?_, HFR.out⟩
            rw [HT.out, HN.out]
            exact HR.out
          case measure => simp [intOf]; omega
      · have d0 : decide (0 ≤ y) = false := decide_eq_false h0
        have HN := Lib.hid (bcells_out m (keep.take i) y (by omega))
        clear hr
        go_wp2_with fail
        go_roundw
        case rel =>
          refine ⟨i + 1, by omega, by go_num, ?_, HFR.out⟩
          rw [HT.out, HN.out]
          exact HR.out
        case measure => simp [intOf]; omega
    · obtain rfl : i = kl := by omega
      have hmf : ∀ (fn : Fn) (first cap : Array Value) (w : World), (Instr.makeFunc fn first cap).run Tryz.prog w = .ok (.func fn first cap) w := fun _ _ _ _ => rfl
      have hP := HH.out.below hbw
      have hsw : wr.ownsRow w.heap.size 4 1 (.slice (some ⟨w.heap.size, 0, none⟩) m m) m (bcells m keep) := by
        have h := hr
        rwa [List.take_of_length_le (by rw [← HK.out]; exact Nat.le_refl _)] at h
      have hkw : ∀ j, kv.ownBlock = some j → j < w.heap.size := fun j hj => (HH.out.kr.lt j hj).2
      have hlw : ∀ j, lv.ownBlock = some j → j < w.heap.size := fun j hj => (HH.out.lr.lt j hj).2
      have HC := Lib.hid (dsettle_some B p (w.heap.size + 1) kv wv lv is N D (fun k => decide ((k : Int) ∈ keep)) wr hP fun k W' hk f' => by
        have hst' : St 64 (w.heap.size + 1) #[.slice (some ⟨w.heap.size, 0, none⟩) m m] W' := f'.st hst fun e => by
          rcases e with e | e
          · have := hkw _ e; omega
          · have := hlw _ e; omega
        have hc := hsw.cellAt k (by rw [HW.out]; omega)
        rw [bcells_at m keep k (by rw [HW.out]; exact hk)] at hc
        refine dCrashc_any k m (w.heap.size + 1) w.heap.size m _ W' (by rw [HW.out]; exact hk) hst' ((f'.cell (q := ⟨w.heap.size, k, none⟩) (by show w.heap.size < wr.heap.size; have := hst.lt; omega) ?_).trans hc)
        rintro (e | e)
        · have := hkw _ e; exact absurd this (Nat.lt_irrefl _)
        · have := hlw _ e; exact absurd this (Nat.lt_irrefl _))
      clear hP hsw hkw hlw hr hst hfr hbw
      go_wp2_with (go_at_call 26; go_must (refine HC.out.mono ?_); rintro e w3 ⟨rfl, h3, f3⟩; have H3 := Lib.hid h3; have F3 := Lib.hid f3; have c3 := (show w3.cell? ⟨p, 3, none⟩ = some (.bool is) from h3.st.cell rfl); have c4 := (show w3.cell? ⟨p, 4, none⟩ = some (.int .i64 N) from h3.st.cell rfl); have c5 := (show w3.cell? ⟨p, 5, none⟩ = some (.bool D.dead) from h3.st.cell rfl); have q3 := h3.st.free 3; have q4 := h3.st.free 4; have q5 := h3.st.free 5; clear h3 f3)
      go_ret
      have h3 := H3.out
      rw [picked_chosen] at h3
      refine ⟨rfl, ⟨false, 0, ((h3.st.set 3 (.bool false)).set 4 (.int .i64 0)).set 5 (.bool false), .inr ⟨rfl, rfl⟩, ⟨rfl, h3.ok.inn, h3.ok.full, h3.ok.fulw, (show (-1 : Int) ≤ -1 from by decide), (show (-1 : Int) ≤ 9223372036854775807 from by decide)⟩, h3.pos, ?_, ?_, ?_, h3.kp, h3.wp, h3.lp, h3.kw, h3.kl, h3.wl, h3.bp⟩, ?_⟩
      · exact ownsRow_setCell_other (ownsRow_setCell_other (ownsRow_setCell_other h3.kr h3.kp _) h3.kp _) h3.kp _
      · exact ownsRow_setCell_other (ownsRow_setCell_other (ownsRow_setCell_other h3.wr h3.wp _) h3.wp _) h3.wp _
      · exact ownsRow_setCell_other (ownsRow_setCell_other (ownsRow_setCell_other h3.lr h3.lp _) h3.lp _) h3.lp _
      · exact ((((Frm.of_below HB.out).next F3.out).setCell (p := ⟨p, 3, none⟩) (.inl (.inl rfl)) _).setCell (p := ⟨p, 4, none⟩) (.inl (.inl rfl)) _).setCell (p := ⟨p, 5, none⟩) (.inl (.inl rfl)) _
theorem dCrash_any (B p : Nat) (F : Nat → Prop) (v : Value) (D : DS) (keep : List Int) (w : World) (hB : B ≤ w.heap.size) (hl : D.wait.length ≤ 1073741824) (hv : Ints (fun b => ¬ F b) v keep w) (h : PD B p F D w) :
    Calls Tryz.prog 10 #[.pointer (some ⟨p, 0, none⟩), v] w fun e w' => e = .returned (.int .i64 0) ∧ PDid B p F (D.crash keep) w w' := by
  obtain ⟨kv, wv, lv, is, N, h0, hF, h1, h2, h3, h4⟩ := h
  obtain ⟨ao, cap, b, off, e1, e2, e3, e4⟩ := hv
  exact (dCrash_do v keep hl ⟨ao, cap, b, off, e1, e2, fun hl => ⟨(e3 hl).1, (e3 hl).2.1, trivial⟩, e4⟩ h0).mono fun e w' ⟨he, ⟨is', N', hr⟩, hf⟩ => ⟨he, PDid.mk' hB hF h1 hr (hf.wide fun j hj => by rcases hj with rfl | hj | hj; exact h1; exact h2 j hj; exact h4 j hj) (fun j hj => .inl (h2 j hj)) (fun j hj => by simp [Value.ownBlock] at hj) (fun j hj => .inl (h4 j hj))⟩
end Go.Proofs.YtikeckmbfgidhaaGreatDoor

/- The program's disk: New; Image. -/
namespace Go.Proofs.YtikeckmbfgidhaaGreatDoor
open Go.RowKit

theorem made_same (z : Array Value) (c : Value) (s : Nat) (hz : z = Array.replicate s c) (hs : 0 < s) (k : Nat) : (madeCells z k).toList = List.replicate k c := by
  subst hz
  apply List.ext_getElem?
  intro j
  by_cases h : j < k
  · have h2 : j % s < s := Nat.mod_lt _ hs
    simp [madeCells, h, getElem!_pos, h2]
  · simp [madeCells, h]
theorem sector_zero : Tryz.zeroCells74 = Array.replicate 128 (.int .u8 0) := by kernel_rfl
theorem infoSector : (Tryz.prog.info? 74).map (fun i => (i.zero, i.size, i.bytes)) = some (some (.agg Tryz.zeroCells74), 128, 128) := by kernel_rfl
theorem infoInt2 : (Tryz.prog.info? 3).map (fun i => (i.zero, i.size, i.bytes)) = some (some (.int .i64 0), 1, 8) := by kernel_rfl
theorem infoStr2 : (Tryz.prog.info? 9).map (fun i => (i.zero, i.size, i.bytes)) = some (some (.string ⟨#[]⟩), 1, 16) := by kernel_rfl
theorem tb_noughts (n : Nat) : tb (noughts n) = List.replicate n (.int .u8 0) := by
  rw [List.eq_replicate_iff]
  refine ⟨by rw [tb_length, noughts_size], fun v hv => ?_⟩
  unfold tb bc noughts at hv
  obtain ⟨b, hb, rfl⟩ := List.mem_map.1 hv
  simp at hb
  rw [hb.2]
  rfl
theorem blank_nil : blank ⟨#[]⟩ = noughts 128 := by
  apply ByteArray.ext
  simp [blank, noughts, ByteArray.size]
theorem scells_new (n : Nat) : scells (List.replicate n (blank ⟨#[]⟩)) = List.replicate (n * 128) (.int .u8 0) := by
  rw [List.eq_replicate_iff]
  refine ⟨?_, fun v hv => ?_⟩
  · rw [scells_length _ fun x hx => by rw [(List.mem_replicate.1 hx).2, blank_nil, noughts_size], List.length_replicate]
  · obtain ⟨x, hx, hv⟩ := List.mem_flatMap.1 hv
    rw [(List.mem_replicate.1 hx).2, blank_nil, tb_noughts] at hv
    exact (List.mem_replicate.1 hv).2
theorem lcells_new (n : Nat) : lcells n [] = List.replicate n (.int .i64 0) := by
  rw [List.eq_replicate_iff]
  refine ⟨lcells_length _ _, fun v hv => ?_⟩
  obtain ⟨i, _, rfl⟩ := List.mem_map.1 hv
  rfl
theorem step_make {P : Program} {ops : Array Oper} {o : Oper} {a : Act} {w : World} {K : Act → World → Prop} {Q : Exit → Act → World → Prop} {E : Prop} (hg : o.guard = none) (t e : TypeId) (x y : Operand) (ho : o.op = .makeSlice t x y) (i : TypeInfo) (z : Value) (size : Nat)
    (ht : P.underlying t = some (.slice e)) (hi : P.info? e = some i) (hz : i.zero = some z) (hs : i.size = size) (n : Nat) (hx : a.eval x = .int .i64 (n : Int)) (hy : a.eval y = .int .i64 (n : Int)) (hbytes : (i.bytes : Int) * n ≤ 281474976710656) (h63 : (n : Int) ≤ 9223372036854775807)
    (hK : K (a.put o.dst (.slice (some ⟨w.heap.size, 0, none⟩) n n)) (w.alloc (.cells (madeCells z.cells (n * size)) e))) : if Region.wanted o (yielded ops a.tmps) = true then Oper.wp P o a w K Q else E := by
  subst hs
  have hw : Region.wanted o (yielded ops a.tmps) = true := by simp [Region.wanted, hg]
  rw [if_pos hw]
  have hrun := run_make (P := P) w t e i z ht hi hz .i64 .i64 n n (by omega) (Int.le_refl _) hbytes h63
  simp only [Int.toNat_natCast] at hrun
  unfold Oper.wp execOp
  simp only [ho, hx, hy, Sem.run_bind, hrun, Result.andThen_ok]
  exact hK
set_option maxRecDepth 100000 in
theorem dNew_bad (n : Int) (w : World) (hn : n < 1 ∨ 65536 < n) : Calls Tryz.prog 6 #[.int .i64 n] w fun e w' => e = .returned (.tuple #[.pointer none, .int .i64 3]) ∧ w = w' := by
  by_cases h1 : n < 1
  · have d1 : decide (n < 1) = true := decide_eq_true h1
    go_enter Tryz.func6, Tryz.ntmps6
    go_wp2
    go_ret2
    exact ⟨rfl, rfl⟩
  · have d1 : decide (n < 1) = false := decide_eq_false h1
    have d2 : decide (n > 65536) = true := decide_eq_true (by omega)
    go_enter Tryz.func6, Tryz.ntmps6
    go_wp2
    go_ret2
    exact ⟨rfl, rfl⟩
/-- A new disk lies there. -/
theorem PD_new (n : Nat) (h1 : 1 ≤ n) (hn : n ≤ 65536) (w w1 : World) (a b : Nat) (ha : w.heap.size ≤ a) (hb : w.heap.size ≤ b) (hab : a ≠ b) (ha2 : a < w.heap.size + 2) (hb2 : b < w.heap.size + 2) (hs : w1.heap.size = w.heap.size + 2)
    (ka : w1.heap[a]? = some (.cells (madeCells Tryz.zeroCells74 (n * 128)) 74 (0, 0))) (kb : w1.heap[b]? = some (.cells (madeCells #[.int .i64 0] n) 3 (0, 0))) :
    PD w.heap.size (w.heap.size + 2) (fun j => w.heap.size ≤ j ∧ j < (w1.alloc (.cells (pcs (.slice (some ⟨a, 0, none⟩) n n) (.slice none 0 0) (.slice (some ⟨b, 0, none⟩) n n) false 0 (DS.new n)) 48 (0, 0))).heap.size) (DS.new n) (w1.alloc (.cells (pcs (.slice (some ⟨a, 0, none⟩) n n) (.slice none 0 0) (.slice (some ⟨b, 0, none⟩) n n) false 0 (DS.new n)) 48 (0, 0))) := by
  have hl : (DS.new n).kept.length = n := by simp [DS.new]
  have hk : w1.ownsRow w.heap.size 74 128 (.slice (some ⟨a, 0, none⟩) n n) n (scells (DS.new n).kept) := by
    have e : scells (DS.new n).kept = (madeCells Tryz.zeroCells74 (n * 128)).toList := by
      rw [made_same _ _ 128 sector_zero (by decide)]
      exact scells_new n
    refine ⟨by rw [e]; simp [size_madeCells], .inr ⟨a, n, _, rfl, ha, ka, Nat.le_refl _, by unfold maxLen; omega, size_madeCells _ _, ?_⟩⟩
    rw [e, List.take_of_length_le (by simp [size_madeCells])]
  have hlr : w1.ownsRow w.heap.size 3 1 (.slice (some ⟨b, 0, none⟩) n n) n (lcells n []) := by
    have e : lcells n [] = (madeCells #[.int .i64 0] n).toList := by
      rw [toList_madeCells_one]
      exact lcells_new n
    refine ⟨by rw [lcells_length]; omega, .inr ⟨b, n, _, rfl, hb, kb, Nat.le_refl _, by unfold maxLen; omega, by rw [size_madeCells]; omega, ?_⟩⟩
    rw [e, List.take_of_length_le (by simp [size_madeCells])]
  refine ⟨_, _, _, false, 0, ⟨St.new1 w1 48 _ _ hs, .inr ⟨rfl, rfl⟩, ⟨rfl, by simp [DS.new], ?_, by simp [DS.new], (show (-1 : Int) ≤ -1 from by decide), (show (-1 : Int) ≤ 9223372036854775807 from by decide)⟩, by rw [hl]; exact ⟨h1, hn⟩, ?_, World.ownsRow_nil _ _ _ _, ?_, ?_, by simp [Value.ownBlock], ?_, by simp [Value.ownBlock], ?_, by simp [Value.ownBlock], by omega⟩, ?_, ?_, ?_, by simp [Value.ownBlock], ?_⟩
  · intro x hx
    rw [(List.mem_replicate.1 hx).2, blank_nil, noughts_size]
  · rw [hl]; exact hk.alloc _
  · rw [hl]; exact hlr.alloc _
  · simp [Value.ownBlock]; omega
  · simp [Value.ownBlock]; omega
  · intro j hj; simp [Value.ownBlock] at hj ⊢; omega
  · intro j hj; exact hj
  · simp [hs]
  · intro j hj; simp [Value.ownBlock] at hj; subst hj; simp [hs]; omega
  · intro j hj; simp [Value.ownBlock] at hj; subst hj; simp [hs]; omega
end Go.Proofs.YtikeckmbfgidhaaGreatDoor

/- The program's disk: New's walk; Image. -/
namespace Go.Proofs.YtikeckmbfgidhaaGreatDoor
open Go.RowKit

set_option maxRecDepth 100000 in
set_option maxHeartbeats 1000000 in
theorem dNew_ok (n : Nat) (w : World) (h1 : 1 ≤ n) (hn : n ≤ 65536) : Calls Tryz.prog 6 #[.int .i64 n] w fun e w' => ∃ p, e = .returned (.tuple #[.pointer (some ⟨p, 0, none⟩), .int .i64 0]) ∧ PD w.heap.size p (fun j => w.heap.size ≤ j ∧ j < w'.heap.size) (DS.new n) w' ∧ Below w.heap.size w w' := by
  obtain ⟨i1, hi1, hz1, hs1, hy1⟩ := info_parts infoSector
  obtain ⟨i2, hi2, hz2, hs2, hy2⟩ := info_parts infoInt2
  have hb1 : (i1.bytes : Int) * (n : Int) ≤ 281474976710656 := by rw [hy1]; have : ((128 : Nat) : Int) = 128 := rfl; omega
  have hb2 : (i2.bytes : Int) * (n : Int) ≤ 281474976710656 := by rw [hy2]; have : ((8 : Nat) : Int) = 8 := rfl; omega
  have hn63 : (n : Int) ≤ 9223372036854775807 := by omega
  have d1 : decide ((n : Int) < 1) = false := decide_eq_false (by omega)
  have d2 : decide ((n : Int) > 65536) = false := decide_eq_false (by omega)
  have HN := Lib.hid (And.intro h1 hn)
  clear h1 hn
  go_enter Tryz.func6, Tryz.ntmps6
  go_wp2_with fail
  refine wp_region_held (S := fun _ => True) (by kernel_rfl) ?_
  change wpAnyH _ _ _ _ _ _ _ _ (World.drew _)
  obtain ⟨WD, hWD⟩ : ∃ WD, WD = World.drew w := ⟨_, rfl⟩
  rw [← hWD]
  have hWs : WD.heap.size = w.heap.size := by rw [hWD]; rfl
  have HB := Lib.hid (show Below w.heap.size w WD from by rw [hWD]; exact (Below.refl _ w).drew)
  clear hWD
  refine wpAnyH_take (i := 0) (v := (.int .i64 n)) rfl (by kernel_rfl) (by kernel_rfl) (by kernel_rfl) (fun _ _ _ h => h) (Or.inl ⟨by rfl, fun w' _ => ?_⟩) trivial ?_
  · go_simp
  refine wpAnyH_take (i := 2) (v := (.int .i64 n)) rfl (by kernel_rfl) (by kernel_rfl) (by kernel_rfl) (fun _ _ _ h => h) (Or.inl ⟨by rfl, fun w' _ => ?_⟩) trivial ?_
  · go_simp
  refine wpAnyH_ready (rs := [1, 3]) (by kernel_rfl) (by simp) ?_
  refine AllReadyH.cons rfl (fun K hK => ?_) ?_
  · refine step_make rfl 38 74 (.tmp 10) (.tmp 10) rfl i1 (.agg Tryz.zeroCells74) 128 Tryz.underlying38 hi1 hz1 hs1 n (by simp [Act.eval, Act.put]) (by simp [Act.eval, Act.put]) hb1 hn63 ?_
    go_simp
    refine hK.out _ _ trivial (fun S1 => ?_)
    clear hK K S1
    refine wpAnyH_ready (rs := [3]) (by kernel_rfl) (by simp) ?_
    refine AllReadyH.cons rfl (fun K hK => ?_) AllReadyH.nil
    refine step_make rfl 33 3 (.tmp 12) (.tmp 12) rfl i2 (.int .i64 0) 1 Tryz.underlying33 hi2 hz2 hs2 n (by simp [Act.eval]) (by simp [Act.eval]) hb2 hn63 ?_
    go_simp
    refine hK.out _ _ trivial (fun S1 => ?_)
    clear hK K S1
    refine wpAnyH_ready (rs := [4]) (by kernel_rfl) (by simp) ?_
    refine AllReadyH.cons rfl (fun K hK => ?_) AllReadyH.nil
    go_simp
    refine hK.out _ _ trivial (fun S1 => ?_)
    clear hK K S1
    refine wpAnyH_ready (rs := [5]) (by kernel_rfl) (by simp) ?_
    refine AllReadyH.cons rfl (fun K hK => ?_) AllReadyH.nil
    go_simp
    refine hK.out _ _ trivial (fun S1 => ?_)
    clear hK K S1
    refine wpAnyH_ready (rs := [6]) (by kernel_rfl) (by simp) ?_
    refine AllReadyH.cons rfl (fun K hK => ?_) AllReadyH.nil
    go_simp
    refine hK.out _ _ trivial (fun S1 => ?_)
    clear hK K S1
    refine wpAnyH_ready (rs := [7]) (by kernel_rfl) (by simp) ?_
    refine AllReadyH.cons rfl (fun K hK => ?_) AllReadyH.nil
    go_simp
    refine hK.out _ _ trivial (fun S1 => ?_)
    clear hK K S1
    refine wpAnyH_done (by kernel_rfl) ?_ _
    have kx : ((WD.alloc (.cells (madeCells Tryz.zeroCells74 (n * 128)) 74 (0, 0))).alloc (.cells (madeCells #[.int .i64 0] n) 3 (0, 0))).heap[w.heap.size]? = some (.cells (madeCells Tryz.zeroCells74 (n * 128)) 74 (0, 0)) := (Below.heap_alloc _ (.cells (madeCells #[.int .i64 0] n) 3 (0, 0)) _ (by simp [hWs])).trans (by have h := heap_alloc_new WD (.cells (madeCells Tryz.zeroCells74 (n * 128)) 74 (0, 0)); rwa [hWs] at h)
    have ky : ((WD.alloc (.cells (madeCells Tryz.zeroCells74 (n * 128)) 74 (0, 0))).alloc (.cells (madeCells #[.int .i64 0] n) 3 (0, 0))).heap[w.heap.size + 1]? = some (.cells (madeCells #[.int .i64 0] n) 3 (0, 0)) := by
      have h := heap_alloc_new (WD.alloc (.cells (madeCells Tryz.zeroCells74 (n * 128)) 74 (0, 0))) (.cells (madeCells #[.int .i64 0] n) 3 (0, 0))
      rwa [show (WD.alloc (.cells (madeCells Tryz.zeroCells74 (n * 128)) 74 (0, 0))).heap.size = w.heap.size + 1 from by simp [hWs]] at h
    have hbw : Below w.heap.size w ((WD.alloc (.cells (madeCells Tryz.zeroCells74 (n * 128)) 74 (0, 0))).alloc (.cells (madeCells #[.int .i64 0] n) 3 (0, 0))) := (HB.out.alloc (by omega) _).alloc (by simp [hWs]) _
    have hP := PD_new n HN.out.1 HN.out.2 w ((WD.alloc (.cells (madeCells Tryz.zeroCells74 (n * 128)) 74 (0, 0))).alloc (.cells (madeCells #[.int .i64 0] n) 3 (0, 0))) w.heap.size (w.heap.size + 1) (by omega) (by omega) (by omega) (by omega) (by omega) (by simp [hWs]) kx ky
    have HP := Lib.hid hP
    have HBW := Lib.hid (hbw.alloc (o := .cells (pcs (.slice (some ⟨w.heap.size, 0, none⟩) n n) (.slice none 0 0) (.slice (some ⟨(w.heap.size + 1), 0, none⟩) n n) false 0 (DS.new n)) 48 (0, 0)) (by simp [hWs]; omega))
    clear kx ky hbw hP
    go_wp2_with fail
    go_ret2
    exact ⟨_, rfl, HP.out, HBW.out⟩
  refine AllReadyH.cons rfl (fun K hK => ?_) AllReadyH.nil
  refine step_make rfl 33 3 (.tmp 12) (.tmp 12) rfl i2 (.int .i64 0) 1 Tryz.underlying33 hi2 hz2 hs2 n (by simp [Act.eval, Act.put]) (by simp [Act.eval, Act.put]) hb2 hn63 ?_
  go_simp
  refine hK.out _ _ trivial (fun S1 => ?_)
  clear hK K S1
  refine wpAnyH_ready (rs := [1]) (by kernel_rfl) (by simp) ?_
  refine AllReadyH.cons rfl (fun K hK => ?_) AllReadyH.nil
  refine step_make rfl 38 74 (.tmp 10) (.tmp 10) rfl i1 (.agg Tryz.zeroCells74) 128 Tryz.underlying38 hi1 hz1 hs1 n (by simp [Act.eval]) (by simp [Act.eval]) hb1 hn63 ?_
  go_simp
  refine hK.out _ _ trivial (fun S1 => ?_)
  clear hK K S1
  refine wpAnyH_ready (rs := [4]) (by kernel_rfl) (by simp) ?_
  refine AllReadyH.cons rfl (fun K hK => ?_) AllReadyH.nil
  go_simp
  refine hK.out _ _ trivial (fun S1 => ?_)
  clear hK K S1
  refine wpAnyH_ready (rs := [5]) (by kernel_rfl) (by simp) ?_
  refine AllReadyH.cons rfl (fun K hK => ?_) AllReadyH.nil
  go_simp
  refine hK.out _ _ trivial (fun S1 => ?_)
  clear hK K S1
  refine wpAnyH_ready (rs := [6]) (by kernel_rfl) (by simp) ?_
  refine AllReadyH.cons rfl (fun K hK => ?_) AllReadyH.nil
  go_simp
  refine hK.out _ _ trivial (fun S1 => ?_)
  clear hK K S1
  refine wpAnyH_ready (rs := [7]) (by kernel_rfl) (by simp) ?_
  refine AllReadyH.cons rfl (fun K hK => ?_) AllReadyH.nil
  go_simp
  refine hK.out _ _ trivial (fun S1 => ?_)
  clear hK K S1
  refine wpAnyH_done (by kernel_rfl) ?_ _
  have kx : ((WD.alloc (.cells (madeCells #[.int .i64 0] n) 3 (0, 0))).alloc (.cells (madeCells Tryz.zeroCells74 (n * 128)) 74 (0, 0))).heap[w.heap.size]? = some (.cells (madeCells #[.int .i64 0] n) 3 (0, 0)) := (Below.heap_alloc _ (.cells (madeCells Tryz.zeroCells74 (n * 128)) 74 (0, 0)) _ (by simp [hWs])).trans (by have h := heap_alloc_new WD (.cells (madeCells #[.int .i64 0] n) 3 (0, 0)); rwa [hWs] at h)
  have ky : ((WD.alloc (.cells (madeCells #[.int .i64 0] n) 3 (0, 0))).alloc (.cells (madeCells Tryz.zeroCells74 (n * 128)) 74 (0, 0))).heap[w.heap.size + 1]? = some (.cells (madeCells Tryz.zeroCells74 (n * 128)) 74 (0, 0)) := by
    have h := heap_alloc_new (WD.alloc (.cells (madeCells #[.int .i64 0] n) 3 (0, 0))) (.cells (madeCells Tryz.zeroCells74 (n * 128)) 74 (0, 0))
    rwa [show (WD.alloc (.cells (madeCells #[.int .i64 0] n) 3 (0, 0))).heap.size = w.heap.size + 1 from by simp [hWs]] at h
  have hbw : Below w.heap.size w ((WD.alloc (.cells (madeCells #[.int .i64 0] n) 3 (0, 0))).alloc (.cells (madeCells Tryz.zeroCells74 (n * 128)) 74 (0, 0))) := (HB.out.alloc (by omega) _).alloc (by simp [hWs]) _
  have hP := PD_new n HN.out.1 HN.out.2 w ((WD.alloc (.cells (madeCells #[.int .i64 0] n) 3 (0, 0))).alloc (.cells (madeCells Tryz.zeroCells74 (n * 128)) 74 (0, 0))) (w.heap.size + 1) w.heap.size (by omega) (by omega) (by omega) (by omega) (by omega) (by simp [hWs]) ky kx
  have HP := Lib.hid hP
  have HBW := Lib.hid (hbw.alloc (o := .cells (pcs (.slice (some ⟨(w.heap.size + 1), 0, none⟩) n n) (.slice none 0 0) (.slice (some ⟨w.heap.size, 0, none⟩) n n) false 0 (DS.new n)) 48 (0, 0)) (by simp [hWs]; omega))
  clear kx ky hbw hP
  go_wp2_with fail
  go_ret2
  exact ⟨_, rfl, HP.out, HBW.out⟩
/-- The texts that have been laid. -/
def icells (xs : List ByteArray) (k : Nat) : List Value := (xs.take k).map Value.string ++ List.replicate (xs.length - k) (.string ⟨#[]⟩)
theorem icells_length (xs : List ByteArray) (k : Nat) (h : k ≤ xs.length) : (icells xs k).length = xs.length := by simp [icells]; omega
theorem icells_zero (xs : List ByteArray) : icells xs 0 = List.replicate xs.length (.string ⟨#[]⟩) := by simp [icells]
theorem icells_next (xs : List ByteArray) (k : Nat) (x : ByteArray) (h : xs[k]? = some x) : icells xs (k + 1) = (icells xs k).set k (.string x) := by
  obtain ⟨hk, rfl⟩ := List.getElem?_eq_some_iff.1 h
  unfold icells
  rw [List.take_succ_eq_append_getElem hk, List.map_append, List.append_assoc]
  have hl : ((xs.take k).map Value.string).length = k := by simp; omega
  rw [List.set_append_right _ _ (by omega), hl, Nat.sub_self]
  congr 1
  rw [show xs.length - k = xs.length - (k + 1) + 1 from by omega, List.replicate_succ]
  rfl
theorem icells_all (xs : List ByteArray) : icells xs xs.length = xs.map Value.string := by simp [icells]
end Go.Proofs.YtikeckmbfgidhaaGreatDoor

/- The program's disk: no disk. -/
namespace Go.Proofs.YtikeckmbfgidhaaGreatDoor
open Go.RowKit

/-- No disk: nil, or one that New did not make. -/
def NoD (v : Value) (w : World) : Prop := v = .pointer none ∨ ∃ p, v = .pointer (some ⟨p, 0, none⟩) ∧ St 48 p #[.slice none 0 0, .slice none 0 0, .slice none 0 0, .bool false, .int .i64 0, .bool false, .int .i64 0, .int .i64 0] w
theorem NoD.below {v : Value} {w w' : World} (h : NoD v w) (b : Below w.heap.size w w') : NoD v w' := by
  rcases h with h | ⟨p, h, hs⟩
  · exact .inl h
  · exact .inr ⟨p, h, hs.below b⟩
set_option maxRecDepth 100000 in
theorem dSize_no (v : Value) (w : World) (h : NoD v w) : Calls Tryz.prog 32 #[v] w fun e w' => e = .returned (.int .i64 0) ∧ w = w' := by
  rcases h with rfl | ⟨p, rfl, hs⟩
  · go_enter Tryz.func32, Tryz.ntmps32
    go_wp2
    go_ret
    exact ⟨rfl, rfl⟩
  · have c0 : w.cell? ⟨p, 0, none⟩ = some (.slice none 0 0) := hs.cell rfl
    clear hs
    go_enter Tryz.func32, Tryz.ntmps32
    go_wp2
    go_ret
    exact ⟨rfl, rfl⟩
set_option maxRecDepth 100000 in
theorem dWaiting_no (v : Value) (w : World) (h : NoD v w) : Calls Tryz.prog 12 #[v] w fun e w' => e = .returned (.int .i64 0) ∧ w = w' := by
  rcases h with rfl | ⟨p, rfl, hs⟩
  · go_enter Tryz.func12, Tryz.ntmps12
    go_wp2
    go_ret
    exact ⟨rfl, rfl⟩
  · have c1 : w.cell? ⟨p, 1, none⟩ = some (.slice none 0 0) := hs.cell rfl
    clear hs
    go_enter Tryz.func12, Tryz.ntmps12
    go_wp2
    go_ret
    exact ⟨rfl, rfl⟩
set_option maxRecDepth 100000 in
theorem dmade_no (v : Value) (w : World) (h : NoD v w) : Calls Tryz.prog 29 #[v] w fun e w' => e = .returned (.bool false) ∧ w = w' := by
  have HS := Lib.hid (dSize_no v w h)
  clear h
  go_enter Tryz.func29, Tryz.ntmps29
  go_wp2_with (go_at_call 32; go_must (refine HS.out.mono ?_); rintro e w1 ⟨rfl, rfl⟩)
  go_ret
  exact ⟨rfl, rfl⟩
set_option maxRecDepth 100000 in
theorem drefusal_no (v : Value) (w : World) (h : NoD v w) : Calls Tryz.prog 24 #[v] w fun e w' => e = .returned (.int .i64 1) ∧ w = w' := by
  have HS := Lib.hid (dmade_no v w h)
  clear h
  go_enter Tryz.func24, Tryz.ntmps24
  go_wp2_with (go_at_call 29; go_must (refine HS.out.mono ?_); rintro e w1 ⟨rfl, rfl⟩)
  go_ret
  exact ⟨rfl, rfl⟩
set_option maxRecDepth 100000 in
theorem dRead_no (v : Value) (i : Int) (w : World) (h : NoD v w) : Calls Tryz.prog 20 #[v, .int .i64 i] w fun e w' => e = .returned (.tuple #[.string ⟨#[]⟩, .int .i64 1]) ∧ w = w' := by
  have HS := Lib.hid (drefusal_no v w h)
  clear h
  go_enter Tryz.func20, Tryz.ntmps20
  go_wp2_with (go_at_call 24; go_must (refine HS.out.mono ?_); rintro e w1 ⟨rfl, rfl⟩)
  go_ret2
  exact ⟨rfl, rfl⟩
set_option maxRecDepth 100000 in
theorem dWrite_no (v : Value) (i : Int) (s : ByteArray) (w : World) (h : NoD v w) : Calls Tryz.prog 19 #[v, .int .i64 i, .string s] w fun e w' => e = .returned (.int .i64 1) ∧ w = w' := by
  have HS := Lib.hid (drefusal_no v w h)
  clear h
  go_enter Tryz.func19, Tryz.ntmps19
  go_wp2_with (go_at_call 24; go_must (refine HS.out.mono ?_); rintro e w1 ⟨rfl, rfl⟩)
  go_ret
  exact ⟨rfl, rfl⟩
set_option maxRecDepth 100000 in
theorem dBarrier_no (v : Value) (w : World) (h : NoD v w) : Calls Tryz.prog 9 #[v] w fun e w' => e = .returned (.int .i64 1) ∧ w = w' := by
  have HS := Lib.hid (drefusal_no v w h)
  clear h
  go_enter Tryz.func9, Tryz.ntmps9
  go_wp2_with (go_at_call 24; go_must (refine HS.out.mono ?_); rintro e w1 ⟨rfl, rfl⟩)
  go_ret
  exact ⟨rfl, rfl⟩
set_option maxRecDepth 100000 in
theorem dArm_no (v : Value) (n : Int) (w : World) (h : NoD v w) : Calls Tryz.prog 11 #[v, .int .i64 n] w fun e w' => e = .returned (.int .i64 1) ∧ w = w' := by
  have HS := Lib.hid (drefusal_no v w h)
  clear h
  go_enter Tryz.func11, Tryz.ntmps11
  go_wp2_with (go_at_call 24; go_must (refine HS.out.mono ?_); rintro e w1 ⟨rfl, rfl⟩)
  go_ret
  exact ⟨rfl, rfl⟩
set_option maxRecDepth 100000 in
theorem dCrash_no (v k : Value) (w : World) (h : NoD v w) : Calls Tryz.prog 10 #[v, k] w fun e w' => e = .returned (.int .i64 1) ∧ w = w' := by
  have HS := Lib.hid (dmade_no v w h)
  clear h
  go_enter Tryz.func10, Tryz.ntmps10
  go_wp2_with (go_at_call 29; go_must (refine HS.out.mono ?_); rintro e w1 ⟨rfl, rfl⟩)
  go_ret
  exact ⟨rfl, rfl⟩
end Go.Proofs.YtikeckmbfgidhaaGreatDoor
