/- Pieces: held against each other; as arguments; the reference's Same and Large. -/
import Derived.Test.YtfipojmgmmjnmaaJb
import Derived.Test.YtfipojmgmmjnmaaEq
import Derived.Test.YtfipojmgmmjnmaaDd
import Derived.Deep.QuietTactic
import Derived.BigQuiet
namespace Go.Proofs.Ytfipojmgmmjnmaa
open Go.Joins Go.ChangeShapes Go.WideShapes Go.RowKit Go.Deep

theorem wpQuiet_load_mid {P : Program} {ops : Array Oper} {C : World → Prop} {Q : Act → Prop} {o : Oper} {rest : List Oper} {a : Act} (hw : Region.wanted o (yielded ops a.tmps) = true) (ty : TypeId) (x : Operand) (ho : o.op = .load ty x)
    (b n : Nat) (hx : a.eval x = .pointer (some ⟨b, n, none⟩)) (cs : List Value) (d : TypeDesc) (hS : ∀ w, C w → w.rangeAt b n cs) (hu : P.underlying ty = some d) (hd : d.isRow = true) (hi : (P.info? ty).map (·.size) = some cs.length)
    (h : wpQuiet P ops C Q rest (a.put o.dst (.agg cs.toArray))) : wpQuiet P ops C Q (o :: rest) a := by
  unfold wpQuiet
  rw [if_pos hw]
  refine ⟨.agg cs.toArray, fun w hC => ?_, h⟩
  unfold Oper.quietAt execOp
  simp only [ho, hx, Instr.loadAt, Instr.sureAddr, Sem.run_bind, Sem.run_pure, Result.andThen_ok, run_loadVar_mid w b n ty cs d (hS w hC) hu hd hi]
  exact ⟨rfl, rfl⟩

set_option maxRecDepth 100000 in
theorem eq_pz (a b : Pz) (d : Nat) (w : World) : (Op.equalIn (d + 2) 81 (.agg a.arr) (.agg b.arr)).run Try.prog w = .ok (decide (a = b)) w := by
  have hS : Try.prog.underlying 81 = some (.struct (Try.prog.fieldsOf 81)) := by kernel_rfl
  have hp : Try.prog.stoodInHeld 81 = false := by kernel_rfl
  rw [run_equalIn_struct w (d + 1) 81 _ _ hS hp]
  simp only [Program.fieldsOf, Try.underlying81]
  refine (eqFields_cons (by rfl) (by kernel_rfl) (by kernel_rfl) (eq_int a.epoch b.epoch d w) (eqFields_cons (by rfl) (by kernel_rfl) (by kernel_rfl) (eq_int a.seq b.seq d w) (eqFields_cons (by rfl) (by kernel_rfl) (by kernel_rfl) (eq_int a.part b.part d w) (eqFields_cons (by rfl) (by kernel_rfl) (by kernel_rfl) (eq_int a.parts b.parts d w) (eqFields_cons (by rfl) (by kernel_rfl) (by kernel_rfl) (eq_str a.data b.data d w) eqFields_nil))))).trans ?_
  congr 1
  obtain ⟨a0, a1, a2, a3, a4⟩ := a
  obtain ⟨b0, b1, b2, b3, b4⟩ := b
  rw [Bool.eq_iff_iff]
  simp only [Bool.and_eq_true, decide_eq_true_eq, Pz.mk.injEq, and_true]
set_option maxRecDepth 100000 in
theorem run_eq_pz (a b : Pz) (w : World) : (binOp .eql 81 (.agg a.arr) (.agg b.arr)).run Try.prog w = .ok (.bool (decide (a = b))) w := by
  rw [run_eql_struct, show (10000 : Nat) = 9998 + 2 from rfl, eq_pz a b 9998 w]
  rfl
set_option maxRecDepth 100000 in
theorem run_ne_pz (a b : Pz) (w : World) : (binOp .neq 81 (.agg a.arr) (.agg b.arr)).run Try.prog w = .ok (.bool (!decide (a = b))) w := by
  rw [run_neq_struct, show (10000 : Nat) = 9998 + 2 from rfl, eq_pz a b 9998 w]
  rfl

section
variable {H : Type} {enc : TypeId × Value → H} {w : World} {base : Nat} {held : Bool}
set_option maxRecDepth 100000 in
theorem trod_pz {fuel : Nat} {cs : List Value} {x : DataW H × List MemPlace} (h : DataW.trod enc Try.prog w base (fun _ => true) held fuel 81 cs = some x) :
    ∃ p : Pz, cs = p.arr.toList ∧ p.num := by
  obtain ⟨xs, n, _, hx, hl, hlen, hg⟩ := DataW.trod_struct Try.underlying81 h
  have h5 : cs.length = 5 := hl.trans (by kernel_rfl)
  match cs, h5 with
  | [c0, c1, c2, c3, c4], _ =>
    have k1 : Try.prog.cellsOf 3 = 1 := by kernel_rfl
    have k2 : Try.prog.cellsOf 9 = 1 := by kernel_rfl
    have g0 := trod_at (i := 0) (off := 0) (ti := 3) (by kernel_rfl) k1 hg
    have g1 := trod_at (i := 1) (off := 1) (ti := 3) (by kernel_rfl) k1 hg
    have g2 := trod_at (i := 2) (off := 2) (ti := 3) (by kernel_rfl) k1 hg
    have g3 := trod_at (i := 3) (off := 3) (ti := 3) (by kernel_rfl) k1 hg
    have g4 := trod_at (i := 4) (off := 4) (ti := 9) (by kernel_rfl) k2 hg
    have hl5 : xs.length = 5 := hlen
    match xs, hl5 with
    | [y0, y1, y2, y3, y4], _ =>
      simp only [List.drop_zero, List.take_succ_cons, List.take_zero, List.drop_succ_cons] at g0 g1 g2 g3 g4
      obtain ⟨m0, e0, _, f0⟩ := DataW.trod_int Try.underlying3 (g0.trans rfl)
      obtain ⟨m1, e1, _, f1⟩ := DataW.trod_int Try.underlying3 (g1.trans rfl)
      obtain ⟨m2, e2, _, f2⟩ := DataW.trod_int Try.underlying3 (g2.trans rfl)
      obtain ⟨m3, e3, _, f3⟩ := DataW.trod_int Try.underlying3 (g3.trans rfl)
      obtain ⟨m4, e4, _, f4⟩ := DataW.trod_string Try.underlying9 (g4.trans rfl)
      simp only [List.cons.injEq, and_true] at e0 e1 e2 e3 e4
      subst e0 e1 e2 e3 e4
      unfold maxLen at f4
      exact ⟨⟨m0, m1, m2, m3, m4⟩, rfl, i64_of f0, i64_of f1, i64_of f2, i64_of f3, f4⟩
theorem open_pzs {fuel : Nat} {v : Value} {x : DataW H × List MemPlace} (hv : ∃ a len cap, v = .slice a len cap) (h : DataW.trod enc Try.prog w base (fun _ => true) held fuel 67 v.cells.toList = some x) :
    ∃ xs : List Pz, Pzs (fun j => j < w.heap.size) v xs w ∧ ∀ y ∈ xs, y.num := by
  obtain ⟨ao, n, cap, b, off, rfl, hn, hao, hc⟩ := open_rows (P := Try.prog) (k := 5) (R := fun cs => ∃ p : Pz, cs = p.arr.toList ∧ p.num) Try.underlying67 (by kernel_rfl) (by omega) (fun {fuel cs x} h => trod_pz h) hv h
  obtain ⟨xs, hl, hx⟩ := exists_list n (fun i (p : Pz) => w.rangeAt b (off + i * 5) p.arr.toList ∧ p.num) fun i hi => by
    obtain ⟨cs, hcl, ⟨p, rfl, hp⟩, hj⟩ := hc i hi
    refine ⟨p, fun j u hu => ?_, hp⟩
    have hj5 : j < 5 := (List.getElem?_eq_some_iff.1 hu).1
    rw [Nat.add_assoc, hj j hj5]
    exact hu
  refine ⟨xs, ⟨ao, cap, b, off, by rw [hl], ⟨by have := hn.1; omega, hn.2⟩, fun h0 => ⟨(hao (by omega)).1, (hao (by omega)).2, (hao (by omega)).2⟩, fun i x hi => (hx i x hi).1⟩, fun y hy => ?_⟩
  obtain ⟨i, hi⟩ := List.mem_iff_getElem?.1 hy
  exact (hx i y hi).2
end

set_option maxRecDepth 100000 in
set_option maxHeartbeats 1000000 in
theorem pkSame_eq {ok ok' : Nat → Prop} (va vb : Value) (xs ys : List Pz) (w : World) (ha : Pzs ok va xs w) (hb : Pzs ok' vb ys w) :
    Calls Try.prog 31 #[va, vb] w fun e w' => e = .returned (.bool (decide (xs = ys))) ∧ Below w.heap.size w w' := by
  obtain ⟨ao, ac, ab, ai, rfl, ⟨hal, _⟩, hao, hac⟩ := ha
  obtain ⟨bo, bc, bb, bi, rfl, ⟨hbl, _⟩, hbo, hbc⟩ := hb
  by_cases hl : xs.length = ys.length
  · obtain ⟨n, hn⟩ : ∃ n, n = xs.length := ⟨_, rfl⟩
    have hm : ys.length = n := by omega
    have HD := Lib.hid (show xs = ys ↔ ∀ i, i < n → xs[i]? = ys[i]? from ⟨fun h i _ => by rw [h], fun h => List.ext_getElem? fun i => by
      by_cases hi : i < n
      · exact h i hi
      · rw [List.getElem?_eq_none (by omega), List.getElem?_eq_none (by omega)]⟩)
    have HA := Lib.hid (show ∀ i, i < n → ∃ x, xs[i]? = some x ∧ ao = some ⟨ab, ai, none⟩ ∧ w.rangeAt ab (ai + i * 5) x.arr.toList from fun i hi => ⟨xs[i]'(by omega), List.getElem?_eq_getElem _, (hao (by omega)).1, hac i _ (List.getElem?_eq_getElem _)⟩)
    have HB := Lib.hid (show ∀ i, i < n → ∃ x, ys[i]? = some x ∧ bo = some ⟨bb, bi, none⟩ ∧ w.rangeAt bb (bi + i * 5) x.arr.toList from fun i hi => ⟨ys[i]'(by omega), List.getElem?_eq_getElem _, (hbo (by omega)).1, hbc i _ (List.getElem?_eq_getElem _)⟩)
    rw [hm, ← hn]
    obtain ⟨d, hd⟩ : ∃ d, d = decide (xs = ys) := ⟨_, rfl⟩
    rw [← hd]
    have HE := Lib.hid hd
    have hnn : n ≤ 9223372036854775807 := by omega
    clear hd hal hao hac hbl hbo hbc hl hn hm
    go_enter Try.func31, Try.ntmps31
    go_wp2_with fail
    go_loopw [5] (fun v wr => ∃ i q : Nat, i ≤ n ∧ v = .int .i64 i ∧ (∀ j, j < i → xs[j]? = ys[j]?) ∧ wr = w.drewN q) (fun v _ => n - (intOf v).toNat)
    case atStart => exact ⟨0, 0, Nat.zero_le _, rfl, fun j h => absurd h (Nat.not_lt_zero _), rfl⟩
    case round =>
      obtain ⟨i, q, hi, rfl, heq, rfl⟩ := hrel
      have HQ := Lib.hid heq
      clear heq
      by_cases hlt : i < n
      · obtain ⟨x, hx, rfl, cx⟩ := HA.out i hlt
        obtain ⟨y, hy, rfl, cy⟩ := HB.out i hlt
        have hb0 : (0 : Int) ≤ (i : Int) := by omega
        have hb1 : (i : Int) < (n : Int) := by omega
        have hne := fun w => run_ne_pz x y w
        obtain ⟨r, hr⟩ : ∃ r, r = decide (x = y) := ⟨_, rfl⟩
        rw [← hr] at hne
        obtain ⟨ca, hca⟩ : ∃ ca, ca = x.arr := ⟨_, rfl⟩
        obtain ⟨cb, hcb⟩ : ∃ cb, cb = y.arr := ⟨_, rfl⟩
        rw [← hca, ← hcb] at hne
        rw [← hca] at cx
        rw [← hcb] at cy
        have HX := Lib.hid (And.intro hx (And.intro hy (And.intro hr (And.intro hca hcb))))
        have CX := Lib.hid cx
        have CY := Lib.hid cy
        clear hx hy hr hca hcb cx cy
        go_wp2_with fail
        refine wp_region_quiet_lit (by kernel_rfl) (by kernel_rfl) ?_
        quiet_step (fail)
        quiet_step (fail)
        quiet_step (fail)
        refine wpQuiet_load_mid (by rfl) 81 (.tmp 19) rfl ab (ai + i * 5) (by simp [Act.eval]) ca.toList _ (fun w' hw' => by obtain ⟨m, rfl⟩ := hw'; exact CX.out) Try.underlying81 rfl (by rw [HX.out.2.2.2.1]; kernel_rfl) ?_
        quiet_step (fail)
        quiet_step (fail)
        quiet_step (fail)
        refine wpQuiet_load_mid (by rfl) 81 (.tmp 23) rfl bb (bi + i * 5) (by simp [Act.eval]) cb.toList _ (fun w' hw' => by obtain ⟨m, rfl⟩ := hw'; exact CY.out) Try.underlying81 rfl (by rw [HX.out.2.2.2.2]; kernel_rfl) ?_
        quiet_step (fail)
        refine wpQuiet_nil ?_
        intro _ hw'
        obtain ⟨nq, hw''⟩ := hw'
        subst hw''
        cases r with
        | true =>
          go_wp2_with fail
          go_roundw
          case rel =>
            refine ⟨i + 1, _, by omega, by go_num, ?_, rfl⟩
            intro j hj
            by_cases hji : j = i
            · subst hji
              rw [HX.out.1, HX.out.2.1, of_decide_eq_true HX.out.2.2.1.symm]
            · exact HQ.out j (by omega)
          case measure => simp [intOf]; omega
        | false =>
          go_wp2_with fail
          go_ret
          refine ⟨?_, below_drewN (below_drewN (Below.refl _ _) _) _⟩
          have : d = false := by
            rw [HE.out]
            refine decide_eq_false fun h => of_decide_eq_false HX.out.2.2.1.symm ?_
            have h1 := HD.out.1 h i hlt
            rw [HX.out.1, HX.out.2.1] at h1
            exact Option.some.inj h1
          rw [this]; rfl
      · obtain rfl : i = n := by omega
        go_wp2_with fail
        go_ret
        refine ⟨?_, below_drewN (Below.refl _ _) _⟩
        have : d = true := by rw [HE.out]; exact decide_eq_true (HD.out.2 HQ.out)
        rw [this]; rfl
  · have hlb : (((xs.length : Int)) != (ys.length : Int)) = true := by rw [bne_iff_ne]; omega
    have hne : decide (xs = ys) = false := decide_eq_false fun h => hl (by rw [h])
    rw [hne]
    clear hne hao hac hbo hbc
    go_enter Try.func31, Try.ntmps31
    go_wp2_with fail
    go_ret
    exact ⟨rfl, Below.refl _ _⟩

def bigPz (x : Pz) : Bool := decide (200 < x.data.size)
/-- Are there too many pieces, or too long ones? -/
def largePz (xs : List Pz) : Bool := (xs.take 70).any bigPz || decide (70 < xs.length)
theorem anyPz_succ (xs : List Pz) (k : Nat) (x : Pz) (h : xs[k]? = some x) : (xs.take (k + 1)).any bigPz = ((xs.take k).any bigPz || bigPz x) := by
  obtain ⟨hk, rfl⟩ := List.getElem?_eq_some_iff.1 h
  rw [List.take_succ_eq_append_getElem hk, List.any_append]
  simp
theorem largePz_of (xs : List Pz) (k : Nat) (hk : k < 70) (h : (xs.take (k + 1)).any bigPz = true) : largePz xs = true := by
  unfold largePz
  rw [Bool.or_eq_true]
  left
  rw [List.any_eq_true] at h ⊢
  obtain ⟨x, hx, hb⟩ := h
  refine ⟨x, ?_, hb⟩
  have e : xs.take (k + 1) = (xs.take 70).take (k + 1) := by rw [List.take_take, Nat.min_eq_left (by omega)]
  rw [e] at hx
  exact List.mem_of_mem_take hx
theorem not_largePz {xs : List Pz} (h : largePz xs = false) : xs.length ≤ 70 ∧ ∀ x ∈ xs, x.data.size ≤ 200 := by
  unfold largePz at h
  rw [Bool.or_eq_false_iff] at h
  have h2 := of_decide_eq_false h.2
  refine ⟨by omega, fun x hx => ?_⟩
  have h3 := List.any_eq_false.1 h.1 x (by rw [List.take_of_length_le (by omega)]; exact hx)
  unfold bigPz at h3
  simp only [decide_eq_true_eq] at h3
  omega

set_option maxRecDepth 100000 in
set_option maxHeartbeats 1000000 in
theorem pkLarge_any {ok : Nat → Prop} (v : Value) (xs : List Pz) (w : World) (h : Pzs ok v xs w) :
    Calls Try.prog 33 #[v] w fun e w' => e = .returned (.bool (largePz xs)) ∧ w = w' := by
  obtain ⟨ao, cap, b, off, rfl, ⟨hl, _⟩, hao, hx⟩ := h
  obtain ⟨n, hn⟩ : ∃ n, n = xs.length := ⟨_, rfl⟩
  obtain ⟨r, hr⟩ : ∃ r, r = largePz xs := ⟨_, rfl⟩
  have HR := Lib.hid hr
  have HN := Lib.hid hn
  have HX := Lib.hid (show ∀ k, k < n → ∃ (x : Pz), xs[k]? = some x ∧ ao = some ⟨b, off, none⟩ ∧ w.cell? ⟨b, off + k * 5 + 4, none⟩ = some (.string x.data) from fun k hk => by
    obtain ⟨x, hxk⟩ : ∃ x, xs[k]? = some x := ⟨_, List.getElem?_eq_getElem (by omega)⟩
    exact ⟨x, hxk, (hao (by omega)).1, hx k x hxk 4 _ rfl⟩)
  rw [← hr, ← hn]
  rw [← hn] at hl
  clear hx hao hr hn
  go_enter Try.func33, Try.ntmps33
  go_wp2
  go_loop [3] (fun c => ∃ k : Nat, k ≤ n ∧ k ≤ 70 ∧ c = .int .i64 k ∧ (xs.take k).any bigPz = false) (fun c => n - (intOf c).toNat)
  case atStart => exact ⟨0, Nat.zero_le _, by omega, rfl, rfl⟩
  case round =>
    obtain ⟨k, hk, hk6, rfl, hany⟩ := hrel
    have HA := Lib.hid hany
    clear hany
    by_cases hlt : k < n
    · by_cases h60 : k < 70
      · obtain ⟨x, hxk, rfl, c2⟩ := HX.out k hlt
        have HK := Lib.hid (anyPz_succ xs k x hxk)
        have i0 : (0 : Int) ≤ (k : Int) := by omega
        have i1 : (k : Int) < (n : Int) := by omega
        have j1 : decide ((k : Int) < 70) = true := decide_eq_true (by omega)
        clear hxk
        by_cases hs : 200 < x.data.size
        · have d1 : decide ((x.data.size : Int) > 200) = true := decide_eq_true (by omega)
          have HS := Lib.hid (show bigPz x = true by unfold bigPz; rw [decide_eq_true hs])
          clear hs
          go_wp2
          go_ret
          refine ⟨?_, rfl⟩
          rw [show r = true from by rw [HR.out]; exact largePz_of xs k h60 (by rw [HK.out, HS.out]; simp)]
          rfl
        · have d1 : decide ((x.data.size : Int) > 200) = false := decide_eq_false (by omega)
          have HS := Lib.hid (show bigPz x = false by unfold bigPz; rw [decide_eq_false hs])
          clear hs
          go_wp2
          go_round
          case rel => exact ⟨k + 1, by omega, by omega, by go_num, by rw [HK.out, HS.out, HA.out]; rfl⟩
          case measure => simp [intOf]; omega
      · obtain rfl : k = 70 := by omega
        have j1 : decide ((70 : Int) < 70) = false := by decide
        have i0 : decide (70 < n) = true := decide_eq_true hlt
        have i1 : decide ((n : Int) > 70) = true := decide_eq_true (by omega)
        go_wp2
        go_ret
        refine ⟨?_, rfl⟩
        rw [show r = true from by rw [HR.out]; unfold largePz; rw [decide_eq_true (by rw [← HN.out]; exact hlt), Bool.or_true]]
        rfl
    · obtain rfl : k = n := by omega
      have i1 : decide ((k : Int) > 70) = false := decide_eq_false (by omega)
      go_wp2
      go_ret
      refine ⟨?_, rfl⟩
      rw [show r = false from by
        rw [HR.out]; unfold largePz
        have hA := HA.out
        rw [HN.out, List.take_of_length_le (Nat.le_refl _)] at hA
        rw [List.take_of_length_le (by rw [← HN.out]; exact hk6), hA, decide_eq_false (by rw [← HN.out]; omega)]; rfl]
      rfl
end Go.Proofs.Ytfipojmgmmjnmaa
