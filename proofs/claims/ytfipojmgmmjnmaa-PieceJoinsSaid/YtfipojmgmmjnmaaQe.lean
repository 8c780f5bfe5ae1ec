/- The program's pieces: Join. -/
import Derived.Test.YtfipojmgmmjnmaaQc
import Derived.Test.YtfipojmgmmjnmaaNb
import Derived.Test.YtfipojmgmmjnmaaJf
namespace Go.Proofs.Ytfipojmgmmjnmaa
open Go.RowKit

/-- What joining comes to. -/
def joinedPair (xs : List Pz) : ByteArray × Int := match joined xs with
  | some s => (s, 0)
  | none => (⟨#[]⟩, 14)
theorem joinedPair_none (xs : List Pz) (h : 0 < xs.length → allFit xs xs.length = false) : joinedPair xs = (⟨#[]⟩, 14) := by
  unfold joinedPair joined
  by_cases h0 : 0 < xs.length
  · rw [if_neg (by rw [h h0]; simp)]
  · rw [if_neg (fun a => h0 a.1)]
theorem joinedPair_some (xs : List Pz) (h0 : 0 < xs.length) (h : allFit xs xs.length = true) : joinedPair xs = (glue xs, 0) := by
  unfold joinedPair joined
  rw [if_pos ⟨h0, h⟩]
theorem fits_is (xs : List Pz) (i : Nat) (x hd : Pz) (hx : xs[i]? = some x) (h0 : xs[0]? = some hd) (hp : hd.parts = (xs.length : Int)) :
    fitsAt xs i = (x.ok && decide (x.part = (i : Int)) && decide (x.epoch = hd.epoch ∧ x.seq = hd.seq ∧ x.parts = hd.parts)) := by
  unfold fitsAt
  rw [hx]
  show fits xs i x = _
  have hh : xs.headD x = hd := by
    cases xs with
    | nil => simp at h0
    | cons y l => simp at h0; simpa using h0
  unfold fits
  rw [hh, Bool.eq_iff_iff]
  simp only [Bool.and_eq_true, decide_eq_true_eq]
  rw [hp]
  constructor
  · rintro ⟨⟨⟨⟨a, b⟩, c⟩, d⟩, e⟩
    exact ⟨⟨a, b⟩, d, e, c⟩
  · rintro ⟨⟨a, b⟩, d, e, c⟩
    exact ⟨⟨⟨⟨a, b⟩, c⟩, d⟩, e⟩
theorem fits_head (xs : List Pz) (hd : Pz) (h0 : xs[0]? = some hd) (hp : hd.parts ≠ (xs.length : Int)) : allFit xs xs.length = false := by
  have hl : 0 < xs.length := (List.getElem?_eq_some_iff.1 h0).1
  refine allFit_le xs 0 _ hl ?_
  unfold fitsAt
  rw [h0]
  show fits xs 0 hd = false
  unfold fits
  rw [decide_eq_false hp]
  simp
theorem ok_small {p : Pz} (h : p.ok = true) : p.data.size ≤ 100 ∧ p.parts ≤ 64 := by
  rw [← checkB_ok] at h
  unfold checkB sharedB sizeB at h
  simp only [Bool.and_eq_true, decide_eq_true_eq] at h
  omega
theorem glue_take (xs : List Pz) (i : Nat) (x : Pz) (hx : xs[i]? = some x) : glue (xs.take (i + 1)) = glue (xs.take i) ++ x.data := by
  obtain ⟨h1, h2⟩ := List.getElem?_eq_some_iff.1 hx
  rw [List.take_succ_eq_append_getElem h1, glue_snoc, h2]
/-- Three numbers that pieces share, as cells. -/
def shc (p : Pz) : Array Value := #[.int .i64 p.epoch, .int .i64 p.seq, .int .i64 p.parts]
set_option maxRecDepth 100000 in
theorem eq_sh (a b : Pz) (d : Nat) (w : World) : (Op.equalIn (d + 2) 97 (.agg (shc a)) (.agg (shc b))).run Try.prog w = .ok (decide (a.epoch = b.epoch ∧ a.seq = b.seq ∧ a.parts = b.parts)) w := by
  have hS : Try.prog.underlying 97 = some (.struct (Try.prog.fieldsOf 97)) := by kernel_rfl
  have hp : Try.prog.stoodInHeld 97 = false := by kernel_rfl
  rw [run_equalIn_struct w (d + 1) 97 _ _ hS hp]
  simp only [Program.fieldsOf, Try.underlying97]
  refine (eqFields_cons (by rfl) (by kernel_rfl) (by kernel_rfl) (eq_int a.epoch b.epoch d w) (eqFields_cons (by rfl) (by kernel_rfl) (by kernel_rfl) (eq_int a.seq b.seq d w) (eqFields_cons (by rfl) (by kernel_rfl) (by kernel_rfl) (eq_int a.parts b.parts d w) eqFields_nil))).trans ?_
  congr 1
  rw [Bool.eq_iff_iff]
  simp only [Bool.and_eq_true, decide_eq_true_eq, and_true]
set_option maxRecDepth 100000 in
theorem run_ne_sh (a b : Pz) (w : World) : (binOp .neq 97 (.agg (shc a)) (.agg (shc b))).run Try.prog w = .ok (.bool (!decide (a.epoch = b.epoch ∧ a.seq = b.seq ∧ a.parts = b.parts))) w := by
  rw [run_neq_struct, show (10000 : Nat) = 9998 + 2 from rfl, eq_sh a b 9998 w]
  rfl
theorem guard_sh (a b : Pz) (W : World) (y z : Operand) : (eqGuard .neq 97 y z (.agg (shc a)) (.agg (shc b))).run Try.prog W = .ok () W := run_eqGuard_agg W .neq 97 y z _ _ (by kernel_rfl)
theorem builder_grow {T e : TypeId} {B b : Nat} {bs : List Value} {w w' : World} (h : Lib.IsBuilderF T e B b bs w) (hb : Below w.heap.size w w') : Lib.IsBuilderF T e B b bs w' := by
  have hg : w.grownBy w' none := ⟨hb.os, hb.tape, hb.output, hb.size, fun j hj _ => hb.block j hj⟩
  rcases h with ⟨hB, v, hv, hown, hne⟩ | ⟨hB, v, hv, hown, hne⟩
  · exact .inl ⟨hB, v, (hb.block b (Array.getElem?_eq_some_iff.1 hv).1).trans hv, hown.kept hg (by cases v.ownBlock <;> simp), hne⟩
  · exact .inr ⟨hB, v, (hb.block b (Array.getElem?_eq_some_iff.1 hv).1).trans hv, hown.kept hg (by cases v.ownBlock <;> simp), hne⟩
theorem yld_st {P : Program} {ops : Array Oper} {S : World → Prop} {op : Oper} {a : Act} (hw : Region.wanted op (yielded ops a.tmps) = true) (ty : TypeId) (x : Operand) (ho : op.op = .load ty x)
    (k : Nat) (hx : a.eval x = .pointer (some ⟨k, 0, none⟩)) (T : TypeId) (cs : Array Value) (hS : ∀ w, S w → St T k cs w) (d : TypeDesc)
    (hu : P.underlying ty = some d) (hd : (match d with | .struct _ | .array _ _ => true | _ => false) = true) (hi : (P.info? ty).map (·.size) = some cs.size) : YieldsIf P ops S op (.agg cs) a :=
  .inl ⟨hw, fun w hw' => by
    unfold execOp
    simp only [ho, hx, Instr.loadAt, Instr.sureAddr, Sem.run_bind, Sem.run_pure, Result.andThen_ok, run_loadVar_row w k T ty cs (0, 0) d (hS w hw') hu hd hi]⟩
theorem pz_one (x : Pz) : x.arr.all (·.oneCell') = true := by
  apply Array.all_eq_true_iff_forall_mem.2
  intro v hv
  simp [Pz.arr] at hv
  rcases hv with rfl | rfl | rfl | rfl | rfl <;> rfl
theorem below_chain {w a b : World} (h : Below w.heap.size w a) (k : Below a.heap.size a b) : Below w.heap.size w b := h.trans (k.mono h.size)
theorem range_below {w w' : World} {b o : Nat} {cs : List Value} (h : w.rangeAt b o cs) (hb : b < w.heap.size) (bl : Below w.heap.size w w') : w'.rangeAt b o cs := fun j v hv => (bl.cell (p := ⟨b, o + j, none⟩) hb).trans (h j v hv)
set_option maxRecDepth 100000 in
set_option maxHeartbeats 8000000 in
theorem pcJoin_any {ok : Nat → Prop} (v : Value) (xs : List Pz) (w : World) (h : Pzs ok v xs w) :
    Calls Try.prog 30 #[v] w fun a w' => a = .returned (.tuple #[.string (joinedPair xs).1, .int .i64 (joinedPair xs).2]) ∧ Below w.heap.size w w' := by
  obtain ⟨ao, cap, b, off, rfl, ⟨hl, _⟩, hao, hx⟩ := h
  obtain ⟨n, hn⟩ : ∃ n, n = xs.length := ⟨_, rfl⟩
  by_cases h0 : n = 0
  · rw [joinedPair_none xs fun a => by omega]
    rw [← hn, h0]
    clear hx hao hn
    go_enter Try.func30, Try.ntmps30
    go_wp2
    go_ret2
    exact ⟨rfl, Below.refl _ _⟩
  obtain ⟨hd, hhd⟩ : ∃ hd, xs[0]? = some hd := ⟨_, List.getElem?_eq_getElem (by omega)⟩
  obtain ⟨rfl, hbw, _⟩ := hao (by omega)
  have hr0 : w.rangeAt b off hd.arr.toList := by have := hx 0 hd hhd; rwa [Nat.zero_mul, Nat.add_zero] at this
  have c3 : w.cell? ⟨b, off + 3, none⟩ = some (.int .i64 hd.parts) := hr0 3 _ rfl
  have hn0 : (0 : Int) < (n : Int) := by omega
  have dn : ((n : Int) == 0) = false := by rw [beq_eq_false_iff_ne]; omega
  by_cases hp : hd.parts = (n : Int)
  · rw [hp] at c3
    have HF := Lib.hid (fun i x (hx : xs[i]? = some x) => fits_is xs i x hd hx hhd (by rw [hp, hn]))
    have HX := Lib.hid (show ∀ i, i < n → ∃ x, xs[i]? = some x ∧ w.rangeAt b (off + i * 5) x.arr.toList from fun i hi => ⟨xs[i]'(by omega), List.getElem?_eq_getElem _, hx i _ (List.getElem?_eq_getElem (by omega))⟩)
    have HN := Lib.hid hn
    have PH := Lib.hid (show hd.arr.toList.length = 5 from rfl)
    have HSh := Lib.hid (show ∀ W, Calls Try.prog 54 #[.agg hd.arr] W fun r w' => r = .returned (.agg (shc hd)) ∧ Below W.heap.size W w' from fun W => pcsharedOf_any hd W)
    obtain ⟨Bh, hBh⟩ : ∃ Bh, Bh = shc hd := ⟨_, rfl⟩
    obtain ⟨hc, hhc⟩ : ∃ hc, hc = hd.arr := ⟨_, rfl⟩
    rw [← hhc] at hr0 PH HSh
    rw [← hBh] at HSh
    have HBh := Lib.hid hBh
    have HR0 := Lib.hid hr0
    rw [← hn] at hl ⊢
    obtain ⟨J, hJ⟩ : ∃ J, J = joinedPair xs := ⟨_, rfl⟩
    rw [← hJ]
    have HJ := Lib.hid hJ
    clear hx hao hn hhc hr0 hhd hJ hBh
    have hbd : Lib.IsBuilderF 104 5 w.heap.size w.heap.size (Lib.byteCells (glue (xs.take 0)).data.toList) (w.alloc (.cells #[.pointer none, .slice none 0 0] 104 (0, 0))) := Lib.IsBuilderF.of (Lib.fresh_isBuilder 104 5 w)
    have HB0 := Lib.hid (And.intro hbd ((Below.refl _ w).alloc (Nat.le_refl _) (.cells #[.pointer none, .slice none 0 0] 104 (0, 0))))
    clear hbd
    go_enter Try.func30, Try.ntmps30
    go_wp2_with fail
    go_loopw [21] (fun c wr => ∃ i : Nat, i ≤ n ∧ c = .int .i64 (i : Int) ∧ allFit xs i = true ∧ (glue (xs.take i)).size ≤ 100 * i ∧ Lib.IsBuilderF 104 5 w.heap.size w.heap.size (Lib.byteCells (glue (xs.take i)).data.toList) wr ∧ Below w.heap.size w wr) (fun c _ => n - (intOf c).toNat)
    case atStart => exact ⟨0, Nat.zero_le _, rfl, rfl, (show (glue (xs.take 0)).size ≤ 100 * 0 from Nat.le_refl 0), HB0.out.1, HB0.out.2⟩
    case round =>
      obtain ⟨i, hi, rfl, hall, hsz, hbd, hbl⟩ := hrel
      have HB := Lib.hid (And.intro hall (And.intro hsz (And.intro hbd hbl)))
      by_cases hlt : i < n
      · obtain ⟨x, hx, hrg⟩ := HX.out i hlt
        have hfx := HF.out i x hx
        have HXi := Lib.hid hx
        have HRG := Lib.hid (range_below hrg hbw hbl)
        have HR0w := Lib.hid (range_below HR0.out hbw hbl)
        have hbw2 : b < wr.heap.size := Nat.lt_of_lt_of_le hbw hbl.size
        have P5 := Lib.hid (show x.arr.size = 5 from rfl)
        have P5l := Lib.hid (show x.arr.toList.length = 5 from rfl)
        have P1 := Lib.hid (pz_one x)
        have C2 := Lib.hid (show x.arr[2]? = some (.int .i64 x.part) from rfl)
        have C4 := Lib.hid (show x.arr[4]? = some (.string x.data) from rfl)
        have HCk := Lib.hid (fun W => pcCheck_any x W)
        have HSx := Lib.hid (show ∀ W, Calls Try.prog 54 #[.agg x.arr] W fun r w' => r = .returned (.agg (shc x)) ∧ Below W.heap.size W w' from fun W => pcsharedOf_any x W)
        obtain ⟨Bx, hBx⟩ : ∃ Bx, Bx = shc x := ⟨_, rfl⟩
        rw [← hBx] at HSx
        obtain ⟨cs, hcs⟩ : ∃ cs, cs = x.arr := ⟨_, rfl⟩
        rw [← hcs] at HRG P5 P5l P1 C2 C4 HCk HSx
        have HZ := Lib.hid (St.new wr 81 #[.int .i64 0, .int .i64 0, .int .i64 0, .int .i64 0, .string ⟨#[]⟩])
        obtain ⟨nb, hnb⟩ : ∃ nb, nb = wr.heap.size := ⟨_, rfl⟩
        have HNB := Lib.hid hnb
        have hi0 : (0 : Int) ≤ (i : Int) := by omega
        have hi1 : (i : Int) < (n : Int) := by omega
        clear hx hrg hcs hall hsz hbd hbl
        cases hok : x.ok with
        | false =>
          rw [hok] at HCk hfx
          have HFx := Lib.hid (show fitsAt xs i = false from by rw [hfx]; rfl)
          clear hfx hnb hBx
          go_wp2_with (first
            | ((with_reducible show wpList _ _ _ ({ dst := _, op := .load 81 _, type := _, pos := _, after := _, guard := _ } :: _) _ _); refine wpList_load_mid rfl 81 _ rfl b (off + i * 5) rfl cs.toList _ HRG.out Try.underlying81 rfl (by rw [P5l.out]; kernel_rfl) ?_)
            | ((with_reducible show wpList _ _ _ ({ dst := _, op := .store 81 _ _, type := _, pos := _, after := _, guard := _ } :: _) _ _); refine wpList_store_st rfl 81 _ _ rfl wr.heap.size cs rfl rfl _ HZ.out (by rw [P5.out]; kernel_rfl) (by rw [P5.out]; rfl) P1.out ?_; intro w6 hw6 k6; have B6 := Lib.hid (show Below wr.heap.size wr w6 from by rw [hw6]; exact below_row ((Below.refl _ wr).alloc (Nat.le_refl _) _) (Nat.le_refl _) _); have K6 := Lib.hid k6; clear hw6 k6))
          have SD := Lib.hid (show St 81 nb cs w6.drew ∧ w6.drew.rangeAt b off hc.toList from ⟨by rw [HNB.out]; exact K6.out, range_below HR0w.out hbw2 B6.out.drew⟩)
          have HL6 := Lib.hid (show b < w6.drew.heap.size from Nat.lt_of_lt_of_le hbw2 B6.out.size)
          have BD := Lib.hid (B6.out.drew)
          rw [← HNB.out]
          refine wp_region_held (S := fun w' => St 81 nb cs w' ∧ w'.rangeAt b off hc.toList) (by kernel_rfl) ?_
          change wpAnyH _ _ _ _ _ _ _ _ (World.drew _)
          generalize World.drew w6 = WD at SD HL6 BD ⊢
          refine wpAnyH_take (i := 0) (v := .agg cs) rfl (by kernel_rfl) (by kernel_rfl) (by kernel_rfl) (fun _ _ _ h => h) (yld_st (by rfl) 81 (.tmp 6) rfl nb (by simp [Act.eval, Act.put]) 81 cs (fun w' hS => hS.1) _ Try.underlying81 rfl (by rw [P5.out]; kernel_rfl)) SD.out ?_
          refine wpAnyH_ready (rs := [1]) (by kernel_rfl) (by simp) ?_
          refine AllReadyH.cons rfl (fun K hK => ?_) AllReadyH.nil
          go_simp
          refine (HCk.out _).mono ?_
          rintro a w7 ⟨rfl, b7⟩
          have S7 := Lib.hid (And.intro (St.below SD.out.1 b7) (range_below SD.out.2 HL6.out b7))
          have HL7 := Lib.hid (Nat.lt_of_lt_of_le HL6.out b7.size)
          have B7 := Lib.hid (b7)
          clear b7
          go_simp
          refine hK.out _ _ S7.out (fun S1 => ?_)
          clear hK K S1
          refine wpAnyH_ready (rs := [2]) (by kernel_rfl) (by simp) ?_
          refine AllReadyH.cons rfl (fun K hK => ?_) AllReadyH.nil
          go_simp
          refine hK.out _ _ S7.out (fun S1 => ?_)
          clear hK K S1
          refine wpAnyH_ready (rs := [3]) (by kernel_rfl) (by simp) ?_
          refine AllReadyH.cons rfl (fun K hK => ?_) AllReadyH.nil
          go_simp
          refine hK.out _ _ S7.out (fun S1 => ?_)
          clear hK K S1
          refine wpAnyH_take (i := 4) (v := undef) rfl (by kernel_rfl) (by kernel_rfl) (by kernel_rfl) (fun _ _ _ h => h) (Or.inr ⟨by rfl, rfl⟩) S7.out ?_
          refine wpAnyH_take (i := 5) (v := undef) rfl (by kernel_rfl) (by kernel_rfl) (by kernel_rfl) (fun _ _ _ h => h) (Or.inr ⟨by rfl, rfl⟩) S7.out ?_
          refine wpAnyH_take (i := 6) (v := undef) rfl (by kernel_rfl) (by kernel_rfl) (by kernel_rfl) (fun _ _ _ h => h) (Or.inr ⟨by rfl, rfl⟩) S7.out ?_
          refine wpAnyH_take (i := 7) (v := undef) rfl (by kernel_rfl) (by kernel_rfl) (by kernel_rfl) (fun _ _ _ h => h) (Or.inr ⟨by rfl, rfl⟩) S7.out ?_
          refine wpAnyH_ready (rs := [8]) (by kernel_rfl) (by simp) ?_
          refine AllReadyH.cons rfl (fun K hK => ?_) AllReadyH.nil
          go_simp
          refine hK.out _ _ S7.out (fun S1 => ?_)
          clear hK K S1
          refine wpAnyH_ready (rs := [9]) (by kernel_rfl) (by simp) ?_
          refine AllReadyH.cons rfl (fun K hK => ?_) AllReadyH.nil
          go_simp
          refine hK.out _ _ S7.out (fun S1 => ?_)
          clear hK K S1
          refine wpAnyH_take (i := 10) (v := undef) rfl (by kernel_rfl) (by kernel_rfl) (by kernel_rfl) (fun _ _ _ h => h) (Or.inr ⟨by rfl, rfl⟩) S7.out ?_
          refine wpAnyH_take (i := 11) (v := undef) rfl (by kernel_rfl) (by kernel_rfl) (by kernel_rfl) (fun _ _ _ h => h) (Or.inr ⟨by rfl, rfl⟩) S7.out ?_
          refine wpAnyH_take (i := 12) (v := undef) rfl (by kernel_rfl) (by kernel_rfl) (by kernel_rfl) (fun _ _ _ h => h) (Or.inr ⟨by rfl, rfl⟩) S7.out ?_
          refine wpAnyH_take (i := 13) (v := undef) rfl (by kernel_rfl) (by kernel_rfl) (by kernel_rfl) (fun _ _ _ h => h) (Or.inr ⟨by rfl, rfl⟩) S7.out ?_
          refine wpAnyH_take (i := 14) (v := undef) rfl (by kernel_rfl) (by kernel_rfl) (by kernel_rfl) (fun _ _ _ h => h) (Or.inr ⟨by rfl, rfl⟩) S7.out ?_
          refine wpAnyH_take (i := 15) (v := undef) rfl (by kernel_rfl) (by kernel_rfl) (by kernel_rfl) (fun _ _ _ h => h) (Or.inr ⟨by rfl, rfl⟩) S7.out ?_
          refine wpAnyH_take (i := 16) (v := undef) rfl (by kernel_rfl) (by kernel_rfl) (by kernel_rfl) (fun _ _ _ h => h) (Or.inr ⟨by rfl, rfl⟩) S7.out ?_
          refine wpAnyH_ready (rs := [17]) (by kernel_rfl) (by simp) ?_
          refine AllReadyH.cons rfl (fun K hK => ?_) AllReadyH.nil
          go_simp
          refine hK.out _ _ S7.out (fun S1 => ?_)
          clear hK K S1
          refine wpAnyH_done (by kernel_rfl) ?_ _
          go_wp2_with fail
          go_ret2
          refine ⟨?_, below_chain (below_chain HB.out.2.2.2 BD.out) B7.out⟩
          rw [HJ.out, joinedPair_none xs fun _ => allFit_le xs i _ (by rw [← HN.out]; exact hlt) HFx.out]
          rfl
        | true =>
          rw [hok] at HCk hfx
          have HNe := Lib.hid (show (∀ W, (binOp .neq 97 (.agg Bx) (.agg Bh)).run Try.prog W = .ok (.bool (!decide (x.epoch = hd.epoch ∧ x.seq = hd.seq ∧ x.parts = hd.parts))) W) ∧ (∀ W y z, (eqGuard .neq 97 y z (.agg Bx) (.agg Bh)).run Try.prog W = .ok () W) ∧ (∀ W, (Op.equalIn 10000 97 (.agg Bx) (.agg Bh)).run Try.prog W = .ok (decide (x.epoch = hd.epoch ∧ x.seq = hd.seq ∧ x.parts = hd.parts)) W) from by
            rw [hBx, HBh.out]
            exact ⟨fun W => run_ne_sh x hd W, fun W y z => guard_sh x hd W y z, fun W => eq_sh x hd 9998 W⟩)
          clear hBx
          by_cases hpi : x.part = (i : Int)
          · have d7 : (x.part != (i : Int)) = false := by rw [bne_eq_false_iff_eq]; exact hpi
            have hne := HNe.out.1
            have hq := HNe.out.2.1
            have hne2 := HNe.out.2.2
            by_cases hsh : x.epoch = hd.epoch ∧ x.seq = hd.seq ∧ x.parts = hd.parts
            · have hse : (!decide (x.epoch = hd.epoch ∧ x.seq = hd.seq ∧ x.parts = hd.parts)) = false := by rw [decide_eq_true hsh]; rfl
              rw [hse] at hne
              rw [decide_eq_true hsh] at hne2
              have HFx := Lib.hid (show fitsAt xs i = true from by rw [hfx, decide_eq_true hpi, decide_eq_true hsh]; rfl)
              have HOK := Lib.hid (ok_small hok)
              have HSH := Lib.hid hsh
              clear hfx hnb hse hsh
              go_wp2_with (first
                | ((with_reducible show wpList _ _ _ ({ dst := _, op := .load 81 _, type := _, pos := _, after := _, guard := _ } :: _) _ _); refine wpList_load_mid rfl 81 _ rfl b (off + i * 5) rfl cs.toList _ HRG.out Try.underlying81 rfl (by rw [P5l.out]; kernel_rfl) ?_)
                | ((with_reducible show wpList _ _ _ ({ dst := _, op := .store 81 _ _, type := _, pos := _, after := _, guard := _ } :: _) _ _); refine wpList_store_st rfl 81 _ _ rfl wr.heap.size cs rfl rfl _ HZ.out (by rw [P5.out]; kernel_rfl) (by rw [P5.out]; rfl) P1.out ?_; intro w6 hw6 k6; have B6 := Lib.hid (show Below wr.heap.size wr w6 from by rw [hw6]; exact below_row ((Below.refl _ wr).alloc (Nat.le_refl _) _) (Nat.le_refl _) _); have K6 := Lib.hid k6; clear hw6 k6))
              have SD := Lib.hid (show St 81 nb cs w6.drew ∧ w6.drew.rangeAt b off hc.toList from ⟨by rw [HNB.out]; exact K6.out, range_below HR0w.out hbw2 B6.out.drew⟩)
              have HL6 := Lib.hid (show b < w6.drew.heap.size from Nat.lt_of_lt_of_le hbw2 B6.out.size)
              have BD := Lib.hid (B6.out.drew)
              rw [← HNB.out]
              refine wp_region_held (S := fun w' => St 81 nb cs w' ∧ w'.rangeAt b off hc.toList) (by kernel_rfl) ?_
              change wpAnyH _ _ _ _ _ _ _ _ (World.drew _)
              generalize World.drew w6 = WD at SD HL6 BD ⊢
              refine wpAnyH_take (i := 0) (v := .agg cs) rfl (by kernel_rfl) (by kernel_rfl) (by kernel_rfl) (fun _ _ _ h => h) (yld_st (by rfl) 81 (.tmp 6) rfl nb (by simp [Act.eval, Act.put]) 81 cs (fun w' hS => hS.1) _ Try.underlying81 rfl (by rw [P5.out]; kernel_rfl)) SD.out ?_
              refine wpAnyH_ready (rs := [1]) (by kernel_rfl) (by simp) ?_
              refine AllReadyH.cons rfl (fun K hK => ?_) AllReadyH.nil
              go_simp
              refine (HCk.out _).mono ?_
              rintro a w7 ⟨rfl, b7⟩
              have S7 := Lib.hid (And.intro (St.below SD.out.1 b7) (range_below SD.out.2 HL6.out b7))
              have HL7 := Lib.hid (Nat.lt_of_lt_of_le HL6.out b7.size)
              have B7 := Lib.hid (b7)
              clear b7
              go_simp
              refine hK.out _ _ S7.out (fun S1 => ?_)
              clear hK K S1
              refine wpAnyH_ready (rs := [2]) (by kernel_rfl) (by simp) ?_
              refine AllReadyH.cons rfl (fun K hK => ?_) AllReadyH.nil
              go_simp
              refine hK.out _ _ S7.out (fun S1 => ?_)
              clear hK K S1
              refine wpAnyH_ready (rs := [3]) (by kernel_rfl) (by simp) ?_
              refine AllReadyH.cons rfl (fun K hK => ?_) AllReadyH.nil
              go_simp
              refine hK.out _ _ S7.out (fun S1 => ?_)
              clear hK K S1
              refine wpAnyH_take (i := 4) (v := .pointer (some ⟨nb, 2, none⟩)) rfl (by kernel_rfl) (by kernel_rfl) (by kernel_rfl) (fun _ _ _ h => h) (Or.inl ⟨by rfl, fun w' hS => ?_⟩) S7.out ?_
              · clear hS; go_simp
              refine wpAnyH_take (i := 5) (v := .int .i64 x.part) rfl (by kernel_rfl) (by kernel_rfl) (by kernel_rfl) (fun _ _ _ h => h) (Or.inl ⟨by rfl, fun w' hS => ?_⟩) S7.out ?_
              · have cc := hS.1.cell C2.out; clear hS; go_simp
              refine wpAnyH_take (i := 6) (v := .int .i64 (i : Int)) rfl (by kernel_rfl) (by kernel_rfl) (by kernel_rfl) (fun _ _ _ h => h) (Or.inl ⟨by rfl, fun w' hS => ?_⟩) S7.out ?_
              · clear hS; go_simp
              refine wpAnyH_take (i := 7) (v := .bool false) rfl (by kernel_rfl) (by kernel_rfl) (by kernel_rfl) (fun _ _ _ h => h) (Or.inl ⟨by rfl, fun w' hS => ?_⟩) S7.out ?_
              · clear hS; go_simp
              refine wpAnyH_ready (rs := [8]) (by kernel_rfl) (by simp) ?_
              refine AllReadyH.cons rfl (fun K hK => ?_) AllReadyH.nil
              go_simp
              refine hK.out _ _ S7.out (fun S1 => ?_)
              clear hK K S1
              refine wpAnyH_ready (rs := [9]) (by kernel_rfl) (by simp) ?_
              refine AllReadyH.cons rfl (fun K hK => ?_) AllReadyH.nil
              go_simp
              refine hK.out _ _ S7.out (fun S1 => ?_)
              clear hK K S1
              refine wpAnyH_take (i := 10) (v := .agg cs) rfl (by kernel_rfl) (by kernel_rfl) (by kernel_rfl) (fun _ _ _ h => h) (yld_st (by rfl) 81 (.tmp 6) rfl nb (by simp [Act.eval, Act.put]) 81 cs (fun w' hS => hS.1) _ Try.underlying81 rfl (by rw [P5.out]; kernel_rfl)) S7.out ?_
              refine wpAnyH_take (i := 12) (v := (.slice (some ⟨b, off, none⟩) n cap)) rfl (by kernel_rfl) (by kernel_rfl) (by kernel_rfl) (fun _ _ _ h => h) (Or.inl ⟨by rfl, fun w' hS => ?_⟩) S7.out ?_
              · clear hS; go_simp
              refine wpAnyH_take (i := 13) (v := (.pointer (some ⟨b, off, none⟩))) rfl (by kernel_rfl) (by kernel_rfl) (by kernel_rfl) (fun _ _ _ h => h) (Or.inl ⟨by rfl, fun w' hS => ?_⟩) S7.out ?_
              · clear hS; go_simp
              refine wpAnyH_take (i := 14) (v := .agg hc) rfl (by kernel_rfl) (by kernel_rfl) (by kernel_rfl) (fun _ _ _ h => h) (yieldsIf_load_mid (by rfl) 81 (.tmp 39) rfl b off (by simp [Act.eval, Act.put]) hc.toList _ (fun w' hS => hS.2) Try.underlying81 rfl (by rw [PH.out]; kernel_rfl)) S7.out ?_
              refine wpAnyH_ready (rs := [11]) (by kernel_rfl) (by simp) ?_
              refine AllReadyH.cons rfl (fun K hK => ?_) AllReadyH.nil
              go_simp
              refine (HSx.out _).mono ?_
              rintro a w8 ⟨rfl, b8⟩
              have S8 := Lib.hid (And.intro (St.below S7.out.1 b8) (range_below S7.out.2 HL7.out b8))
              have HL8 := Lib.hid (Nat.lt_of_lt_of_le HL7.out b8.size)
              have B8 := Lib.hid (b8)
              clear b8
              go_simp
              refine hK.out _ _ S8.out (fun S1 => ?_)
              clear hK K S1
              refine wpAnyH_ready (rs := [15]) (by kernel_rfl) (by simp) ?_
              refine AllReadyH.cons rfl (fun K hK => ?_) AllReadyH.nil
              go_simp
              refine (HSh.out _).mono ?_
              rintro a w9 ⟨rfl, b9⟩
              have S9 := Lib.hid (And.intro (St.below S8.out.1 b9) (range_below S8.out.2 HL8.out b9))
              have HL9 := Lib.hid (Nat.lt_of_lt_of_le HL8.out b9.size)
              have B9 := Lib.hid (b9)
              clear b9
              go_simp
              refine hK.out _ _ S9.out (fun S1 => ?_)
              clear hK K S1
              refine wpAnyH_ready (rs := [16]) (by kernel_rfl) (by simp) ?_
              refine AllReadyH.cons rfl (fun K hK => ?_) AllReadyH.nil
              go_simp
              refine hK.out _ _ S9.out (fun S1 => ?_)
              clear hK K S1
              refine wpAnyH_ready (rs := [17]) (by kernel_rfl) (by simp) ?_
              refine AllReadyH.cons rfl (fun K hK => ?_) AllReadyH.nil
              go_simp
              refine hK.out _ _ S9.out (fun S1 => ?_)
              clear hK K S1
              refine wpAnyH_done (by kernel_rfl) ?_ _
              have c4 : w9.cell? ⟨nb, 4, none⟩ = some (.string x.data) := S9.out.1.cell C4.out
              have bl9 : Below w.heap.size w w9 := below_chain (below_chain (below_chain (below_chain HB.out.2.2.2 BD.out) B7.out) B8.out) B9.out
              have hbd9 := builder_grow (builder_grow (builder_grow (builder_grow HB.out.2.2.1 BD.out) B7.out) B8.out) B9.out
              have hsz9 := HB.out.2.1
              have hok9 := HOK.out
              have hsh9 := HSH.out.2.2
              have HWr := Lib.hid (writeString_at w.heap.size w.heap.size _ x.data w9 hbd9 (by rw [Lib.byteCells_length, Array.length_toList]; show (glue (xs.take i)).size + _ ≤ _; omega) bl9.size)
              have BL9 := Lib.hid bl9
              have HGT := Lib.hid (glue_take xs i x HXi.out)
              clear hbd9 bl9 hsh9 hne hq hne2
              go_wp2_with (go_at_call 55; go_must (refine HWr.out.mono ?_); rintro a w10 ⟨rfl, hb10, bl10, _⟩; have HB10 := Lib.hid hb10; have BL10 := Lib.hid bl10; clear hb10 bl10)
              go_roundw
              case rel =>
                refine ⟨i + 1, by omega, by go_num, by rw [allFit_succ, HB.out.1, HFx.out]; rfl, ?_, ?_, BL9.out.trans BL10.out⟩
                · rw [HGT.out, ByteArray.size_append]; omega
                · rw [HGT.out, ByteArray.data_append, Array.toList_append, Lib.byteCells_append]
                  exact .inr HB10.out
              case measure => simp [intOf]; omega
            · have hse : (!decide (x.epoch = hd.epoch ∧ x.seq = hd.seq ∧ x.parts = hd.parts)) = true := by rw [decide_eq_false hsh]; rfl
              rw [hse] at hne
              rw [decide_eq_false hsh] at hne2
              have HFx := Lib.hid (show fitsAt xs i = false from by rw [hfx, decide_eq_false hsh, Bool.and_false])
              clear hfx hnb hse hsh
              go_wp2_with (first
                | ((with_reducible show wpList _ _ _ ({ dst := _, op := .load 81 _, type := _, pos := _, after := _, guard := _ } :: _) _ _); refine wpList_load_mid rfl 81 _ rfl b (off + i * 5) rfl cs.toList _ HRG.out Try.underlying81 rfl (by rw [P5l.out]; kernel_rfl) ?_)
                | ((with_reducible show wpList _ _ _ ({ dst := _, op := .store 81 _ _, type := _, pos := _, after := _, guard := _ } :: _) _ _); refine wpList_store_st rfl 81 _ _ rfl wr.heap.size cs rfl rfl _ HZ.out (by rw [P5.out]; kernel_rfl) (by rw [P5.out]; rfl) P1.out ?_; intro w6 hw6 k6; have B6 := Lib.hid (show Below wr.heap.size wr w6 from by rw [hw6]; exact below_row ((Below.refl _ wr).alloc (Nat.le_refl _) _) (Nat.le_refl _) _); have K6 := Lib.hid k6; clear hw6 k6))
              have SD := Lib.hid (show St 81 nb cs w6.drew ∧ w6.drew.rangeAt b off hc.toList from ⟨by rw [HNB.out]; exact K6.out, range_below HR0w.out hbw2 B6.out.drew⟩)
              have HL6 := Lib.hid (show b < w6.drew.heap.size from Nat.lt_of_lt_of_le hbw2 B6.out.size)
              have BD := Lib.hid (B6.out.drew)
              rw [← HNB.out]
              refine wp_region_held (S := fun w' => St 81 nb cs w' ∧ w'.rangeAt b off hc.toList) (by kernel_rfl) ?_
              change wpAnyH _ _ _ _ _ _ _ _ (World.drew _)
              generalize World.drew w6 = WD at SD HL6 BD ⊢
              refine wpAnyH_take (i := 0) (v := .agg cs) rfl (by kernel_rfl) (by kernel_rfl) (by kernel_rfl) (fun _ _ _ h => h) (yld_st (by rfl) 81 (.tmp 6) rfl nb (by simp [Act.eval, Act.put]) 81 cs (fun w' hS => hS.1) _ Try.underlying81 rfl (by rw [P5.out]; kernel_rfl)) SD.out ?_
              refine wpAnyH_ready (rs := [1]) (by kernel_rfl) (by simp) ?_
              refine AllReadyH.cons rfl (fun K hK => ?_) AllReadyH.nil
              go_simp
              refine (HCk.out _).mono ?_
              rintro a w7 ⟨rfl, b7⟩
              have S7 := Lib.hid (And.intro (St.below SD.out.1 b7) (range_below SD.out.2 HL6.out b7))
              have HL7 := Lib.hid (Nat.lt_of_lt_of_le HL6.out b7.size)
              have B7 := Lib.hid (b7)
              clear b7
              go_simp
              refine hK.out _ _ S7.out (fun S1 => ?_)
              clear hK K S1
              refine wpAnyH_ready (rs := [2]) (by kernel_rfl) (by simp) ?_
              refine AllReadyH.cons rfl (fun K hK => ?_) AllReadyH.nil
              go_simp
              refine hK.out _ _ S7.out (fun S1 => ?_)
              clear hK K S1
              refine wpAnyH_ready (rs := [3]) (by kernel_rfl) (by simp) ?_
              refine AllReadyH.cons rfl (fun K hK => ?_) AllReadyH.nil
              go_simp
              refine hK.out _ _ S7.out (fun S1 => ?_)
              clear hK K S1
              refine wpAnyH_take (i := 4) (v := .pointer (some ⟨nb, 2, none⟩)) rfl (by kernel_rfl) (by kernel_rfl) (by kernel_rfl) (fun _ _ _ h => h) (Or.inl ⟨by rfl, fun w' hS => ?_⟩) S7.out ?_
              · clear hS; go_simp
              refine wpAnyH_take (i := 5) (v := .int .i64 x.part) rfl (by kernel_rfl) (by kernel_rfl) (by kernel_rfl) (fun _ _ _ h => h) (Or.inl ⟨by rfl, fun w' hS => ?_⟩) S7.out ?_
              · have cc := hS.1.cell C2.out; clear hS; go_simp
              refine wpAnyH_take (i := 6) (v := .int .i64 (i : Int)) rfl (by kernel_rfl) (by kernel_rfl) (by kernel_rfl) (fun _ _ _ h => h) (Or.inl ⟨by rfl, fun w' hS => ?_⟩) S7.out ?_
              · clear hS; go_simp
              refine wpAnyH_take (i := 7) (v := .bool false) rfl (by kernel_rfl) (by kernel_rfl) (by kernel_rfl) (fun _ _ _ h => h) (Or.inl ⟨by rfl, fun w' hS => ?_⟩) S7.out ?_
              · clear hS; go_simp
              refine wpAnyH_ready (rs := [8]) (by kernel_rfl) (by simp) ?_
              refine AllReadyH.cons rfl (fun K hK => ?_) AllReadyH.nil
              go_simp
              refine hK.out _ _ S7.out (fun S1 => ?_)
              clear hK K S1
              refine wpAnyH_ready (rs := [9]) (by kernel_rfl) (by simp) ?_
              refine AllReadyH.cons rfl (fun K hK => ?_) AllReadyH.nil
              go_simp
              refine hK.out _ _ S7.out (fun S1 => ?_)
              clear hK K S1
              refine wpAnyH_take (i := 10) (v := .agg cs) rfl (by kernel_rfl) (by kernel_rfl) (by kernel_rfl) (fun _ _ _ h => h) (yld_st (by rfl) 81 (.tmp 6) rfl nb (by simp [Act.eval, Act.put]) 81 cs (fun w' hS => hS.1) _ Try.underlying81 rfl (by rw [P5.out]; kernel_rfl)) S7.out ?_
              refine wpAnyH_take (i := 12) (v := (.slice (some ⟨b, off, none⟩) n cap)) rfl (by kernel_rfl) (by kernel_rfl) (by kernel_rfl) (fun _ _ _ h => h) (Or.inl ⟨by rfl, fun w' hS => ?_⟩) S7.out ?_
              · clear hS; go_simp
              refine wpAnyH_take (i := 13) (v := (.pointer (some ⟨b, off, none⟩))) rfl (by kernel_rfl) (by kernel_rfl) (by kernel_rfl) (fun _ _ _ h => h) (Or.inl ⟨by rfl, fun w' hS => ?_⟩) S7.out ?_
              · clear hS; go_simp
              refine wpAnyH_take (i := 14) (v := .agg hc) rfl (by kernel_rfl) (by kernel_rfl) (by kernel_rfl) (fun _ _ _ h => h) (yieldsIf_load_mid (by rfl) 81 (.tmp 39) rfl b off (by simp [Act.eval, Act.put]) hc.toList _ (fun w' hS => hS.2) Try.underlying81 rfl (by rw [PH.out]; kernel_rfl)) S7.out ?_
              refine wpAnyH_ready (rs := [11]) (by kernel_rfl) (by simp) ?_
              refine AllReadyH.cons rfl (fun K hK => ?_) AllReadyH.nil
              go_simp
              refine (HSx.out _).mono ?_
              rintro a w8 ⟨rfl, b8⟩
              have S8 := Lib.hid (And.intro (St.below S7.out.1 b8) (range_below S7.out.2 HL7.out b8))
              have HL8 := Lib.hid (Nat.lt_of_lt_of_le HL7.out b8.size)
              have B8 := Lib.hid (b8)
              clear b8
              go_simp
              refine hK.out _ _ S8.out (fun S1 => ?_)
              clear hK K S1
              refine wpAnyH_ready (rs := [15]) (by kernel_rfl) (by simp) ?_
              refine AllReadyH.cons rfl (fun K hK => ?_) AllReadyH.nil
              go_simp
              refine (HSh.out _).mono ?_
              rintro a w9 ⟨rfl, b9⟩
              have S9 := Lib.hid (And.intro (St.below S8.out.1 b9) (range_below S8.out.2 HL8.out b9))
              have HL9 := Lib.hid (Nat.lt_of_lt_of_le HL8.out b9.size)
              have B9 := Lib.hid (b9)
              clear b9
              go_simp
              refine hK.out _ _ S9.out (fun S1 => ?_)
              clear hK K S1
              refine wpAnyH_ready (rs := [16]) (by kernel_rfl) (by simp) ?_
              refine AllReadyH.cons rfl (fun K hK => ?_) AllReadyH.nil
              go_simp
              refine hK.out _ _ S9.out (fun S1 => ?_)
              clear hK K S1
              refine wpAnyH_ready (rs := [17]) (by kernel_rfl) (by simp) ?_
              refine AllReadyH.cons rfl (fun K hK => ?_) AllReadyH.nil
              go_simp
              refine hK.out _ _ S9.out (fun S1 => ?_)
              clear hK K S1
              refine wpAnyH_done (by kernel_rfl) ?_ _
              go_wp2_with fail
              go_ret2
              refine ⟨?_, below_chain (below_chain (below_chain (below_chain HB.out.2.2.2 BD.out) B7.out) B8.out) B9.out⟩
              rw [HJ.out, joinedPair_none xs fun _ => allFit_le xs i _ (by rw [← HN.out]; exact hlt) HFx.out]
              rfl
          · have d7 : (x.part != (i : Int)) = true := by rw [bne_iff_ne]; exact hpi
            have HFx := Lib.hid (show fitsAt xs i = false from by rw [hfx, decide_eq_false hpi, Bool.and_false, Bool.false_and])
            clear hfx hnb
            go_wp2_with (first
              | ((with_reducible show wpList _ _ _ ({ dst := _, op := .load 81 _, type := _, pos := _, after := _, guard := _ } :: _) _ _); refine wpList_load_mid rfl 81 _ rfl b (off + i * 5) rfl cs.toList _ HRG.out Try.underlying81 rfl (by rw [P5l.out]; kernel_rfl) ?_)
              | ((with_reducible show wpList _ _ _ ({ dst := _, op := .store 81 _ _, type := _, pos := _, after := _, guard := _ } :: _) _ _); refine wpList_store_st rfl 81 _ _ rfl wr.heap.size cs rfl rfl _ HZ.out (by rw [P5.out]; kernel_rfl) (by rw [P5.out]; rfl) P1.out ?_; intro w6 hw6 k6; have B6 := Lib.hid (show Below wr.heap.size wr w6 from by rw [hw6]; exact below_row ((Below.refl _ wr).alloc (Nat.le_refl _) _) (Nat.le_refl _) _); have K6 := Lib.hid k6; clear hw6 k6))
            have SD := Lib.hid (show St 81 nb cs w6.drew ∧ w6.drew.rangeAt b off hc.toList from ⟨by rw [HNB.out]; exact K6.out, range_below HR0w.out hbw2 B6.out.drew⟩)
            have HL6 := Lib.hid (show b < w6.drew.heap.size from Nat.lt_of_lt_of_le hbw2 B6.out.size)
            have BD := Lib.hid (B6.out.drew)
            rw [← HNB.out]
            refine wp_region_held (S := fun w' => St 81 nb cs w' ∧ w'.rangeAt b off hc.toList) (by kernel_rfl) ?_
            change wpAnyH _ _ _ _ _ _ _ _ (World.drew _)
            generalize World.drew w6 = WD at SD HL6 BD ⊢
            refine wpAnyH_take (i := 0) (v := .agg cs) rfl (by kernel_rfl) (by kernel_rfl) (by kernel_rfl) (fun _ _ _ h => h) (yld_st (by rfl) 81 (.tmp 6) rfl nb (by simp [Act.eval, Act.put]) 81 cs (fun w' hS => hS.1) _ Try.underlying81 rfl (by rw [P5.out]; kernel_rfl)) SD.out ?_
            refine wpAnyH_ready (rs := [1]) (by kernel_rfl) (by simp) ?_
            refine AllReadyH.cons rfl (fun K hK => ?_) AllReadyH.nil
            go_simp
            refine (HCk.out _).mono ?_
            rintro a w7 ⟨rfl, b7⟩
            have S7 := Lib.hid (And.intro (St.below SD.out.1 b7) (range_below SD.out.2 HL6.out b7))
            have HL7 := Lib.hid (Nat.lt_of_lt_of_le HL6.out b7.size)
            have B7 := Lib.hid (b7)
            clear b7
            go_simp
            refine hK.out _ _ S7.out (fun S1 => ?_)
            clear hK K S1
            refine wpAnyH_ready (rs := [2]) (by kernel_rfl) (by simp) ?_
            refine AllReadyH.cons rfl (fun K hK => ?_) AllReadyH.nil
            go_simp
            refine hK.out _ _ S7.out (fun S1 => ?_)
            clear hK K S1
            refine wpAnyH_ready (rs := [3]) (by kernel_rfl) (by simp) ?_
            refine AllReadyH.cons rfl (fun K hK => ?_) AllReadyH.nil
            go_simp
            refine hK.out _ _ S7.out (fun S1 => ?_)
            clear hK K S1
            refine wpAnyH_take (i := 4) (v := .pointer (some ⟨nb, 2, none⟩)) rfl (by kernel_rfl) (by kernel_rfl) (by kernel_rfl) (fun _ _ _ h => h) (Or.inl ⟨by rfl, fun w' hS => ?_⟩) S7.out ?_
            · clear hS; go_simp
            refine wpAnyH_take (i := 5) (v := .int .i64 x.part) rfl (by kernel_rfl) (by kernel_rfl) (by kernel_rfl) (fun _ _ _ h => h) (Or.inl ⟨by rfl, fun w' hS => ?_⟩) S7.out ?_
            · have cc := hS.1.cell C2.out; clear hS; go_simp
            refine wpAnyH_take (i := 6) (v := .int .i64 (i : Int)) rfl (by kernel_rfl) (by kernel_rfl) (by kernel_rfl) (fun _ _ _ h => h) (Or.inl ⟨by rfl, fun w' hS => ?_⟩) S7.out ?_
            · clear hS; go_simp
            refine wpAnyH_take (i := 7) (v := .bool true) rfl (by kernel_rfl) (by kernel_rfl) (by kernel_rfl) (fun _ _ _ h => h) (Or.inl ⟨by rfl, fun w' hS => ?_⟩) S7.out ?_
            · clear hS; go_simp
            refine wpAnyH_ready (rs := [8]) (by kernel_rfl) (by simp) ?_
            refine AllReadyH.cons rfl (fun K hK => ?_) AllReadyH.nil
            go_simp
            refine hK.out _ _ S7.out (fun S1 => ?_)
            clear hK K S1
            refine wpAnyH_ready (rs := [9]) (by kernel_rfl) (by simp) ?_
            refine AllReadyH.cons rfl (fun K hK => ?_) AllReadyH.nil
            go_simp
            refine hK.out _ _ S7.out (fun S1 => ?_)
            clear hK K S1
            refine wpAnyH_take (i := 10) (v := undef) rfl (by kernel_rfl) (by kernel_rfl) (by kernel_rfl) (fun _ _ _ h => h) (Or.inr ⟨by rfl, rfl⟩) S7.out ?_
            refine wpAnyH_take (i := 11) (v := undef) rfl (by kernel_rfl) (by kernel_rfl) (by kernel_rfl) (fun _ _ _ h => h) (Or.inr ⟨by rfl, rfl⟩) S7.out ?_
            refine wpAnyH_take (i := 12) (v := undef) rfl (by kernel_rfl) (by kernel_rfl) (by kernel_rfl) (fun _ _ _ h => h) (Or.inr ⟨by rfl, rfl⟩) S7.out ?_
            refine wpAnyH_take (i := 13) (v := undef) rfl (by kernel_rfl) (by kernel_rfl) (by kernel_rfl) (fun _ _ _ h => h) (Or.inr ⟨by rfl, rfl⟩) S7.out ?_
            refine wpAnyH_take (i := 14) (v := undef) rfl (by kernel_rfl) (by kernel_rfl) (by kernel_rfl) (fun _ _ _ h => h) (Or.inr ⟨by rfl, rfl⟩) S7.out ?_
            refine wpAnyH_take (i := 15) (v := undef) rfl (by kernel_rfl) (by kernel_rfl) (by kernel_rfl) (fun _ _ _ h => h) (Or.inr ⟨by rfl, rfl⟩) S7.out ?_
            refine wpAnyH_take (i := 16) (v := undef) rfl (by kernel_rfl) (by kernel_rfl) (by kernel_rfl) (fun _ _ _ h => h) (Or.inr ⟨by rfl, rfl⟩) S7.out ?_
            refine wpAnyH_ready (rs := [17]) (by kernel_rfl) (by simp) ?_
            refine AllReadyH.cons rfl (fun K hK => ?_) AllReadyH.nil
            go_simp
            refine hK.out _ _ S7.out (fun S1 => ?_)
            clear hK K S1
            refine wpAnyH_done (by kernel_rfl) ?_ _
            go_wp2_with fail
            go_ret2
            refine ⟨?_, below_chain (below_chain HB.out.2.2.2 BD.out) B7.out⟩
            rw [HJ.out, joinedPair_none xs fun _ => allFit_le xs i _ (by rw [← HN.out]; exact hlt) HFx.out]
            rfl
      · obtain rfl : i = n := by omega
        have hall9 := HB.out.1
        have hbd9 := HB.out.2.2.1
        have e9 : J = (glue xs, 0) := by rw [HJ.out]; exact joinedPair_some xs (by rw [← HN.out]; omega) (by rw [← HN.out]; exact hall9)
        rw [List.take_of_length_le (by rw [← HN.out]; exact Nat.le_refl _)] at hbd9
        have HStr := Lib.hid (Try.Builder_String_any_k w.heap.size w.heap.size _ wr hbd9 hbl.size)
        have E9 := Lib.hid e9
        clear hall9 hbd9 e9 hall hsz hbd hbl
        go_wp2_with (go_at_call 56; go_must (refine HStr.out.mono ?_); rintro a w10 ⟨rfl, _, bl10, _⟩; have BL10 := Lib.hid bl10; clear bl10)
        go_ret2
        refine ⟨?_, HB.out.2.2.2.trans BL10.out⟩
        rw [E9.out]
        rfl
  · have dp : ((n : Int) != hd.parts) = true := by rw [bne_iff_ne]; omega
    rw [joinedPair_none xs fun _ => fits_head xs hd hhd (by rw [← hn]; exact hp)]
    rw [← hn] at hl ⊢
    clear hx hao hn hr0 hhd
    go_enter Try.func30, Try.ntmps30
    go_wp2_with fail
    go_ret2
    exact ⟨rfl, Below.refl _ _⟩
end Go.Proofs.Ytfipojmgmmjnmaa
