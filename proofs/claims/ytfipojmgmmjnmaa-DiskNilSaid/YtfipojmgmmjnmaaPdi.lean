/- The program's disk: what settles the writes that wait. -/
import Derived.Test.YtfipojmgmmjnmaaPdh
import Derived.Test.YtfipojmgmmjnmaaDg
namespace Go.Proofs.Ytfipojmgmmjnmaa
open Go.RowKit

/-- Those at the places that are named. -/
def picked (f : Nat → Bool) (n : Nat) : List (Nat × ByteArray) → List (Nat × ByteArray)
  | [] => []
  | x :: l => if f n then x :: picked f (n + 1) l else picked f (n + 1) l
theorem picked_snoc (f : Nat → Bool) (x : Nat × ByteArray) : ∀ (l : List (Nat × ByteArray)) (n : Nat), picked f n (l ++ [x]) = picked f n l ++ (if f (n + l.length) then [x] else [])
  | [], n => by simp only [List.nil_append, picked, List.length_nil, Nat.add_zero]
  | y :: l, n => by
    have e : n + 1 + l.length = n + (y :: l).length := by simp; omega
    simp only [List.cons_append, picked, picked_snoc f x l (n + 1), e]
    split <;> simp
theorem picked_at (f : Nat → Bool) (l : List (Nat × ByteArray)) (k : Nat) (x : Nat × ByteArray) (h : l[k]? = some x) : picked f 0 (l.take (k + 1)) = picked f 0 (l.take k) ++ (if f k then [x] else []) := by
  obtain ⟨hk, rfl⟩ := List.getElem?_eq_some_iff.1 h
  rw [List.take_succ_eq_append_getElem hk, picked_snoc]
  have : (l.take k).length = k := by rw [List.length_take]; omega
  rw [this, Nat.zero_add]
theorem picked_all : ∀ (l : List (Nat × ByteArray)) (n : Nat), picked (fun _ => true) n l = l
  | [], _ => rfl
  | x :: l, n => by simp only [picked, if_true, picked_all l (n + 1)]
theorem picked_chosen (keep : List Int) : ∀ (l : List (Nat × ByteArray)) (n : Nat), picked (fun k => decide ((k : Int) ∈ keep)) n l = chosen keep l n
  | [], _ => rfl
  | x :: l, n => by simp only [picked, chosen, picked_chosen keep l (n + 1), decide_eq_true_eq]
/-- What a disk keeps once some of the writes have been asked. -/
def keptTo (f : Nat → Bool) (D : DS) (k : Nat) : List ByteArray := keepAll D.kept (picked f 0 (D.wait.take k))
theorem keptTo_length (f : Nat → Bool) (D : DS) (k : Nat) : (keptTo f D k).length = D.kept.length := keepAll_length _ _
theorem keptTo_next (f : Nat → Bool) (D : DS) (k : Nat) (x : Nat × ByteArray) (h : D.wait[k]? = some x) : keptTo f D (k + 1) = if f k then (keptTo f D k).set x.1 x.2 else keptTo f D k := by
  unfold keptTo
  rw [picked_at f D.wait k x h]
  split
  · exact keepAll_snoc _ _ _
  · rw [List.append_nil]
theorem keepAll_full (K : List ByteArray) (hK : ∀ x ∈ K, x.size = 128) : ∀ (l : List (Nat × ByteArray)), (∀ x ∈ l, x.2.size = 128) → ∀ x ∈ keepAll K l, x.size = 128 := by
  intro l hl
  induction l using snoc_ind with
  | h0 => exact hK
  | h1 l y ih =>
    rw [keepAll_snoc]
    intro x hx
    rcases List.mem_or_eq_of_mem_set hx with hx | rfl
    · exact ih (fun z hz => hl z (List.mem_append_left _ hz)) x hx
    · exact hl y (List.mem_append_right _ (List.mem_singleton.2 rfl))
theorem picked_mem (f : Nat → Bool) : ∀ (l : List (Nat × ByteArray)) (n : Nat) (x : Nat × ByteArray), x ∈ picked f n l → x ∈ l
  | [], _, _, h => h
  | y :: l, n, x, h => by
    unfold picked at h
    split at h
    · rcases List.mem_cons.1 h with h | h
      · exact List.mem_cons.2 (.inl h)
      · exact List.mem_cons.2 (.inr (picked_mem f l (n + 1) x h))
    · exact List.mem_cons.2 (.inr (picked_mem f l (n + 1) x h))
theorem keptTo_full {D : DS} (h : D.ok D.kept.length) (f : Nat → Bool) (k : Nat) : ∀ x ∈ keptTo f D k, x.size = 128 := keepAll_full _ h.full _ fun x hx => h.fulw x (List.mem_of_mem_take (picked_mem f _ 0 x hx))
/-- Amid the settling: k of the writes have been asked. -/
structure PM (B p : Nat) (kv wv lv : Value) (is : Bool) (N : Int) (D : DS) (f : Nat → Bool) (k : Nat) (w : World) : Prop where
  st : St 65 p (pcs kv wv lv is N D) w
  kr : w.ownsRow B 87 128 kv D.kept.length (scells (keptTo f D k))
  wr : w.ownsRow B 93 129 wv D.wait.length (qcells D.wait)
  lr : w.ownsRow B 3 1 lv D.kept.length (zcells D.kept.length D.wait k)
theorem PM.below {B p : Nat} {kv wv lv : Value} {is : Bool} {N : Int} {D : DS} {f : Nat → Bool} {k : Nat} {w w' : World} (h : PM B p kv wv lv is N D f k w) (b : Below w.heap.size w w') : PM B p kv wv lv is N D f k w' := by
  have g : Frm (fun _ => False) w w' := Frm.of_below b
  exact ⟨g.st h.st (fun e => e), g.own h.kr fun _ _ e => e, g.own h.wr fun _ _ e => e, g.own h.lr fun _ _ e => e⟩
/-- Which blocks are whose. -/
structure Apart3 (B p : Nat) (kv wv lv : Value) : Prop where
  kp : kv.ownBlock ≠ some p
  wp : wv.ownBlock ≠ some p
  lp : lv.ownBlock ≠ some p
  kw : ∀ j, kv.ownBlock = some j → wv.ownBlock ≠ some j
  kl : ∀ j, kv.ownBlock = some j → lv.ownBlock ≠ some j
  wl : ∀ j, wv.ownBlock = some j → lv.ownBlock ≠ some j
  bp : B ≤ p
theorem PM.start {B p : Nat} {kv wv lv : Value} {is : Bool} {N : Int} {D : DS} {f : Nat → Bool} {w : World} (h : PD0 B p kv wv lv is N D w) : PM B p kv wv lv is N D f 0 w :=
  ⟨h.st, h.kr, h.wr, by rw [zcells_zero]; exact h.lr⟩
theorem PM.done {B p : Nat} {kv wv lv : Value} {is : Bool} {N : Int} {D : DS} {f : Nat → Bool} {w : World} (h : PM B p kv wv lv is N D f D.wait.length w) (a : Apart3 B p kv wv lv) (hz : Fz is N D.fuse) (ho : D.ok D.kept.length) (hp : 1 ≤ D.kept.length ∧ D.kept.length ≤ 65536) :
    PD0 B p kv (.slice none 0 0) lv is N { D with kept := keepAll D.kept (picked f 0 D.wait), wait := [] } (w.setCell ⟨p, 1, none⟩ (.slice none 0 0)) := by
  have e : keptTo f D D.wait.length = keepAll D.kept (picked f 0 D.wait) := by unfold keptTo; rw [List.take_length]
  have hl := keptTo_length f D D.wait.length
  have hf := keptTo_full ho f D.wait.length
  have hk := h.kr
  have hlr := h.lr
  rw [zcells_all] at hlr
  rw [e] at hl hf hk
  rw [← hl] at hk hlr
  exact ⟨h.st.set 1 _, hz, ⟨rfl, by simp, hf, by simp, ho.lo, ho.hi⟩, by show 1 ≤ (keepAll D.kept (picked f 0 D.wait)).length ∧ (keepAll D.kept (picked f 0 D.wait)).length ≤ 65536; omega, ownsRow_setCell_other hk a.kp _, World.ownsRow_nil _ _ _ _, ownsRow_setCell_other hlr a.lp _, a.kp, by simp [Value.ownBlock], a.lp, by simp [Value.ownBlock], a.kl, by simp [Value.ownBlock], a.bp⟩
/-- One more has been asked, and was kept. -/
theorem PM.yes {B p g cap gl cl : Nat} {kv wv lv : Value} {is : Bool} {N : Int} {D : DS} {f : Nat → Bool} {k : Nat} {w : World} (h : PM B p kv wv lv is N D f k w) (a : Apart3 B p kv wv lv) (ho : D.ok D.kept.length) (x : Nat × ByteArray) (hx : D.wait[k]? = some x) (hfk : f k = true)
    (hk : kv = .slice (some ⟨g, 0, none⟩) D.kept.length cap) (hl : lv = .slice (some ⟨gl, 0, none⟩) D.kept.length cl) :
    PM B p kv wv lv is N D f (k + 1) ((w.setCells g (x.1 * 128) (tb x.2)).setCell ⟨gl, x.1, none⟩ (.int .i64 0)) := by
  have hxm : x ∈ D.wait := List.mem_of_getElem? hx
  have hkg : kv.ownBlock = some g := by rw [hk]; rfl
  have hlg : lv.ownBlock = some gl := by rw [hl]; rfl
  have hgp : g ≠ p := fun e => a.kp (by rw [hkg, e])
  have hlp : gl ≠ p := fun e => a.lp (by rw [hlg, e])
  refine ⟨(h.st.setCells_other hgp.symm _ _).other gl _ _ hlp, ?_, ownsRow_setCell_other (own_setCells_other h.wr (fun e => a.kw g hkg e) _ _) (fun e => a.wl gl e hlg) _, ?_⟩
  · rw [keptTo_next f D k x hx, if_pos hfk]
    have e : scells ((keptTo f D k).set x.1 x.2) = setMany (scells (keptTo f D k)) (x.1 * 128) (tb x.2) :=
      flat_set tb 128 (keptTo f D k) (fun y hy => by rw [tb_length, keptTo_full ho f k y hy]) x.1 x.2 (by rw [keptTo_length]; exact ho.inn x hxm) (by rw [tb_length, ho.fulw x hxm])
    have h1 := h.kr
    rw [hk] at h1
    have h2 := own_setMany (tb x.2) (x.1 * 128) w _ h1
    rw [← e, ← hk] at h2
    exact ownsRow_setCell_other h2 (fun e => a.kl gl e hlg) _
  · rw [zcells_next _ _ k x hx]
    have h1 := own_setCells_other h.lr (fun e => a.kl g hkg e) (x.1 * 128) (tb x.2)
    rw [hl] at h1 ⊢
    exact (h1.stored x.1 _).1
/-- One more has been asked, and was not kept. -/
theorem PM.no {B p gl cl : Nat} {kv wv lv : Value} {is : Bool} {N : Int} {D : DS} {f : Nat → Bool} {k : Nat} {w : World} (h : PM B p kv wv lv is N D f k w) (a : Apart3 B p kv wv lv) (x : Nat × ByteArray) (hx : D.wait[k]? = some x) (hfk : f k = false)
    (hl : lv = .slice (some ⟨gl, 0, none⟩) D.kept.length cl) : PM B p kv wv lv is N D f (k + 1) (w.setCell ⟨gl, x.1, none⟩ (.int .i64 0)) := by
  have hlg : lv.ownBlock = some gl := by rw [hl]; rfl
  have hlp : gl ≠ p := fun e => a.lp (by rw [hlg, e])
  refine ⟨h.st.other gl _ _ hlp, ?_, ownsRow_setCell_other h.wr (fun e => a.wl gl e hlg) _, ?_⟩
  · rw [keptTo_next f D k x hx, if_neg (by rw [hfk]; simp)]
    exact ownsRow_setCell_other h.kr (fun e => a.kl gl e hlg) _
  · rw [zcells_next _ _ k x hx]
    have h1 := h.lr
    rw [hl] at h1 ⊢
    exact (h1.stored x.1 _).1
theorem pend_range {T : TypeId} {nb : Nat} {x : Nat × ByteArray} {w : World} (h : St T nb (pend x).toArray w) : w.rangeAt nb 0 (tb x.2) ∧ True := by
  refine ⟨fun j v hv => h.cell (j := 0 + j) ?_, trivial⟩
  rw [Nat.zero_add]
  show (tb x.2 ++ _).toArray[j]? = _
  rw [List.getElem?_toArray, List.getElem?_append_left (List.getElem?_eq_some_iff.1 hv).1]
  exact hv
theorem pend_last {T : TypeId} {nb : Nat} (x : Nat × ByteArray) (hx : x.2.size = 128) {w : World} (h : St T nb (pend x).toArray w) : w.cell? ⟨nb, 128, none⟩ = some (.int .i64 (x.1 : Int)) := by
  refine h.cell (j := 128) ?_
  show (tb x.2 ++ _).toArray[128]? = _
  rw [List.getElem?_toArray, List.getElem?_append_right (by rw [tb_length, hx]; exact Nat.le_refl _), tb_length, hx]
  rfl
theorem step_store_mid {P : Program} {ops : Array Oper} {op : Oper} {a : Act} {w : World} {K : Act → World → Prop} {Q : Exit → Act → World → Prop} {E : Prop} (hw : Region.wanted op (yielded ops a.tmps) = true) (ty : TypeId) (x y : Operand) (ho : op.op = .store ty x y)
    (b o : Nat) (cells : Array Value) (hx : a.eval x = .pointer (some ⟨b, o, none⟩)) (hy : a.eval y = .agg cells)
    (ht : w.there b o cells.size) (hi : (P.info? ty).map (·.size) = some cells.size) (h1 : cells.all (·.oneCell') = true)
    (h : K (a.put op.dst undef) (w.setCells b o cells.toList)) : if Region.wanted op (yielded ops a.tmps) = true then Oper.wp P op a w K Q else E := by
  rw [if_pos hw]
  exact wp_store_mid ty x y ho b o cells hx hy ht hi h1 h

set_option maxRecDepth 100000 in
set_option maxHeartbeats 1000000 in
theorem dsettle_all (B p : Nat) (kv wv lv : Value) (is : Bool) (N : Int) (D : DS) (f : Nat → Bool) (w : World) (h : PD0 B p kv wv lv is N D w)
    (hf : ∀ (k : Nat) (W : World), k < D.wait.length → Frm (fun j => kv.ownBlock = some j ∨ lv.ownBlock = some j) w W → Calls Try.prog 49 #[.int .i64 k] W fun e w' => e = .returned (.bool (f k)) ∧ W = w') :
    Calls Try.prog 43 #[.pointer (some ⟨p, 0, none⟩), .func (.func 49) #[] #[]] w fun e w' => e = .returned (.tuple #[]) ∧
      PD0 B p kv (.slice none 0 0) lv is N { D with kept := keepAll D.kept (picked f 0 D.wait), wait := [] } w' ∧ Frm (fun j => j = p ∨ kv.ownBlock = some j ∨ lv.ownBlock = some j) w w' := by
  have HA := Lib.hid (⟨h.kp, h.wp, h.lp, h.kw, h.kl, h.wl, h.bp⟩ : Apart3 B p kv wv lv)
  have HD := Lib.hid (And.intro h.fz (And.intro h.ok h.pos))
  obtain ⟨m, hm⟩ : ∃ m, m = D.wait.length := ⟨_, rfl⟩
  obtain ⟨n, hn⟩ : ∃ n, n = D.kept.length := ⟨_, rfl⟩
  have hml : m ≤ 9223372036854775807 := by rw [hm]; exact own_len h.wr
  have hnl : n ≤ 9223372036854775807 := by rw [hn]; exact own_len h.kr
  obtain ⟨ao, cw, hwv⟩ := own_slice h.wr
  rw [← hm] at hwv
  obtain ⟨g, cap, hkv, _, _, _⟩ := own_some h.kr (by have := h.pos; omega)
  obtain ⟨gl, cl, hlv, _, _, _⟩ := own_some h.lr (by have := h.pos; omega)
  have hgp : g ≠ p := fun e => h.kp (by rw [hkv]; simp [Value.ownBlock, e])
  have hpl := h.st.lt
  have hgs : g < w.heap.size := (h.kr.lt g (by rw [hkv]; rfl)).2
  have c1 : w.cell? ⟨p, 1, none⟩ = some (.slice ao m cw) := by rw [← hwv]; exact h.st.cell rfl
  have HS := Lib.hid (PM.start (f := f) h)
  rw [← hm] at hf
  have HF := Lib.hid hf
  have HWV := Lib.hid hwv
  have HM := Lib.hid hm
  have HN := Lib.hid hn
  have HKV := Lib.hid hkv
  have HLV := Lib.hid hlv
  clear h hf hwv hm hn hkv hlv
  go_enter Try.func43, Try.ntmps43
  go_wp2_with fail
  go_loopw [11] (fun c wr => ∃ k : Nat, k ≤ m ∧ c = .int .i64 k ∧ PM B p kv wv lv is N D f k wr ∧ Frm (fun j => kv.ownBlock = some j ∨ lv.ownBlock = some j) w wr) (fun c _ => m - (intOf c).toNat)
  case atStart => exact ⟨0, Nat.zero_le _, rfl, HS.out, Frm.refl _ _⟩
  case round =>
    obtain ⟨k, hk, rfl, hr, hfr⟩ := hrel
    have HR := Lib.hid hr
    have HFR := Lib.hid hfr
    have hws := hfr.size
    clear hfr
    by_cases hlt : k < m
    · obtain ⟨x, hx⟩ : ∃ x, D.wait[k]? = some x := ⟨_, List.getElem?_eq_getElem (by rw [← HM.out]; exact hlt)⟩
      have hxm : x ∈ D.wait := List.mem_of_getElem? hx
      have hx1 : x.1 < n := by rw [HN.out]; exact HD.out.2.1.inn x hxm
      have hx8 : x.2.size = 128 := HD.out.2.1.fulw x hxm
      obtain ⟨g2, cap2, hwv2, hg2, _, _⟩ := own_some hr.wr (by rw [← HM.out]; omega)
      have eao : ao = some ⟨g2, 0, none⟩ := by have e := HWV.out.symm.trans hwv2; injection e
      have hrg : wr.rangeAt g2 (k * 129) (pend x) := by
        have hq := hr.wr
        rw [hwv2] at hq
        exact own_range hq (k * 129) (pend x) (flat_at pend 129 D.wait (fun y hy => pend_length y (HD.out.2.1.fulw y hy)) k x hx)
      subst eao
      have HRG := Lib.hid hrg
      have HX := Lib.hid hx
      have P9 := Lib.hid (show (pend x).toArray.size = 129 from by simpa using pend_length x hx8)
      have P1 := Lib.hid (all_oneCell_toArray (pend_one x))
      have C8 := Lib.hid (show (tb x.2).length = 128 from by rw [tb_length, hx8])
      obtain ⟨nb, hnb⟩ : ∃ nb, nb = wr.heap.size := ⟨_, rfl⟩
      have HZ := Lib.hid (St.new wr 93 Try.zeroCells93)
      have HCf := Lib.hid (fun W hW => HF.out k W hlt hW)
      have hgn : g ≠ nb := by omega
      clear hx hxm hwv2 hg2 hrg hr
      obtain ⟨fk, hfk⟩ : ∃ fk, fk = f k := ⟨_, rfl⟩
      rw [← hfk] at HCf
      have HFK := Lib.hid hfk
      clear hfk
      have HNB := Lib.hid hnb
      cases fk with
      | true =>
        go_wp2_with (first
          | ((with_reducible show wpList _ _ _ ({ dst := _, op := .load 93 _, type := _, pos := _, after := _, guard := _ } :: _) _ _); refine wpList_load_mid rfl 93 _ rfl g2 (k * 129) rfl (pend x) _ HRG.out Try.underlying93 rfl (by rw [show (pend x).length = 129 from by simpa using P9.out]; kernel_rfl) ?_)
          | ((with_reducible show wpList _ _ _ ({ dst := _, op := .store 93 _ _, type := _, pos := _, after := _, guard := _ } :: _) _ _); refine wpList_store_st rfl 93 _ _ rfl wr.heap.size (pend x).toArray rfl rfl _ HZ.out (by rw [P9.out]; kernel_rfl) (by rw [P9.out]; exact pzero_size) P1.out ?_; intro w6 hw6 k6; have B6 := Lib.hid (show Below wr.heap.size wr w6 from by rw [hw6]; exact below_row ((Below.refl _ wr).alloc (Nat.le_refl _) _) (Nat.le_refl _) _); have K6 := Lib.hid k6; clear hw6 k6)
          | (go_at_call 49; go_must (refine (HCf.out _ (frm_below HFR.out B6.out)).mono ?_); rintro e w7 ⟨rfl, rfl⟩))
        have hP6 := HR.out.below B6.out
        have SD := Lib.hid (show (w6.drew).cell? ⟨p, 0, none⟩ = some (.slice (some ⟨g, 0, none⟩) n cap) ∧ St 93 nb (pend x).toArray w6.drew from ⟨by rw [HN.out, ← HKV.out]; exact hP6.st.cell rfl, by rw [HNB.out]; exact K6.out⟩)
        have hth : (w6.drew).there g (x.1 * 128) 128 := by
          have hq := hP6.kr
          rw [HKV.out] at hq
          exact own_there (w := w6.drew) hq (x.1 * 128) 128 (by rw [← HN.out]; omega)
        have h7 := Lib.hid (PM.yes (cap := cap) (cl := cl) (hP6.below (Below.refl _ w6).drew) HA.out HD.out.2.1 x HX.out HFK.out.symm HKV.out HLV.out)
        have hf6 := frm_below HFR.out B6.out
        have HF6 := Lib.hid hf6
        have HP6 := Lib.hid hP6
        have lrz := own_setCells_other (show w6.drew.ownsRow B 3 1 lv D.kept.length (zcells D.kept.length D.wait k) from hP6.lr) (g := g) (fun e => HA.out.kl g (by rw [HKV.out]; rfl) e) (x.1 * 128) (tb x.2)
        have stz := (show St 65 p (pcs kv wv lv is N D) w6.drew from hP6.st).setCells_other hgp.symm (x.1 * 128) (tb x.2)
        rw [HLV.out] at lrz
        have c9 := lrz.cellAt x.1 (by rw [← HN.out]; omega)
        rw [List.getElem?_eq_getElem (by rw [zcells_length, ← HN.out]; exact hx1)] at c9
        have q9 := lrz.frozenAt x.1
        have cz : (w6.drew.setCells g (x.1 * 128) (tb x.2)).cell? ⟨p, 2, none⟩ = some (.slice (some ⟨gl, 0, none⟩) n cl) := by rw [HN.out, ← HLV.out]; exact stz.cell rfl
        have hx0 : (0 : Int) ≤ (x.1 : Int) := by omega
        have hx2 : (x.1 : Int) < (n : Int) := by omega
        have FR7 := Lib.hid (((Frm.setCells (F := fun j => kv.ownBlock = some j ∨ lv.ownBlock = some j) (g := g) (.inl (.inl (by rw [HKV.out]; rfl))) (tb x.2) (x.1 * 128) _ hf6.drew).setCell (p := ⟨gl, x.1, none⟩) (.inl (.inr (by rw [HLV.out]; rfl))) (.int .i64 0)).drew)
        clear hf6 hP6 lrz stz hnb
        rw [← HNB.out]
        refine wp_region_held (S := fun w' => w'.cell? ⟨p, 0, none⟩ = some (.slice (some ⟨g, 0, none⟩) n cap) ∧ St 93 nb (pend x).toArray w') (by kernel_rfl) ?_
        change wpAnyH _ _ _ _ _ _ _ _ (World.drew _)
        generalize World.drew w6 = WD at SD hth h7 c9 q9 cz FR7 ⊢
        refine wpAnyH_take (i := 6) (v := (.pointer (some ⟨nb, 0, none⟩))) rfl (by kernel_rfl) (by kernel_rfl) (by kernel_rfl) (fun _ _ _ h => h) (Or.inl ⟨by rfl, fun w' hS => ?_⟩) SD.out ?_
        · clear hS; go_simp
        refine wpAnyH_take (i := 7) (v := .agg (tb x.2).toArray) rfl (by kernel_rfl) (by kernel_rfl) (by kernel_rfl) (fun _ _ _ h => h) (yieldsIf_load_mid (by rfl) 87 (.tmp 25) rfl nb 0 (by simp [Act.eval, Act.put]) (tb x.2) _ (fun w' hS => (pend_range hS.2).1) Try.underlying87 rfl (by rw [C8.out]; kernel_rfl)) SD.out ?_
        refine wpAnyH_take (i := 4) (v := (.pointer (some ⟨nb, 128, none⟩))) rfl (by kernel_rfl) (by kernel_rfl) (by kernel_rfl) (fun _ _ _ h => h) (Or.inl ⟨by rfl, fun w' hS => ?_⟩) SD.out ?_
        · clear hS; go_simp
        refine wpAnyH_take (i := 5) (v := (.int .i64 (x.1 : Int))) rfl (by kernel_rfl) (by kernel_rfl) (by kernel_rfl) (fun _ _ _ h => h) (Or.inl ⟨by rfl, fun w' hS => ?_⟩) SD.out ?_
        · have c5 := pend_last x hx8 hS.2; clear hS; go_simp
        refine wpAnyH_take (i := 0) (v := (.pointer (some ⟨p, 0, none⟩))) rfl (by kernel_rfl) (by kernel_rfl) (by kernel_rfl) (fun _ _ _ h => h) (Or.inl ⟨by rfl, fun w' hS => ?_⟩) SD.out ?_
        · clear hS; go_simp
        refine wpAnyH_take (i := 1) (v := (.pointer (some ⟨p, 0, none⟩))) rfl (by kernel_rfl) (by kernel_rfl) (by kernel_rfl) (fun _ _ _ h => h) (Or.inl ⟨by rfl, fun w' hS => ?_⟩) SD.out ?_
        · clear hS; go_simp
        refine wpAnyH_take (i := 2) (v := (.pointer (some ⟨p, 0, none⟩))) rfl (by kernel_rfl) (by kernel_rfl) (by kernel_rfl) (fun _ _ _ h => h) (Or.inl ⟨by rfl, fun w' hS => ?_⟩) SD.out ?_
        · clear hS; go_simp
        refine wpAnyH_take (i := 3) (v := (.slice (some ⟨g, 0, none⟩) n cap)) rfl (by kernel_rfl) (by kernel_rfl) (by kernel_rfl) (fun _ _ _ h => h) (Or.inl ⟨by rfl, fun w' hS => ?_⟩) SD.out ?_
        · have c5 := hS.1; clear hS; go_simp
        refine wpAnyH_ready (rs := [8]) (by kernel_rfl) (by simp) ?_
        refine AllReadyH.cons rfl (fun K hK => ?_) AllReadyH.nil
        go_simp
        refine hK.out _ _ SD.out (fun S1 => ?_)
        clear hK K S1
        refine wpAnyH_ready (rs := [9]) (by kernel_rfl) (by simp) ?_
        refine AllReadyH.cons rfl (fun K hK => ?_) AllReadyH.nil
        refine step_store_mid (by rfl) 87 (.tmp 27) (.tmp 26) rfl g (x.1 * 128) (tb x.2).toArray (by simp [Act.eval]) (by simp [Act.eval]) (by rw [show (tb x.2).toArray.size = 128 from by simpa using C8.out]; exact hth) (by rw [show (tb x.2).toArray.size = 128 from by simpa using C8.out]; kernel_rfl) (tb_ones x.2) ?_
        have SE := Lib.hid (show (WD.setCells g (x.1 * 128) (tb x.2)).cell? ⟨p, 0, none⟩ = some (.slice (some ⟨g, 0, none⟩) n cap) ∧ St 93 nb (pend x).toArray (WD.setCells g (x.1 * 128) (tb x.2)) from ⟨(World.cell?_setCells_out g (tb x.2) (x.1 * 128) WD ⟨p, 0, none⟩ (fun e _ => absurd e.symm hgp)).trans SD.out.1, SD.out.2.setCells_other hgn.symm _ _⟩)
        go_simp
        refine hK.out _ _ SE.out (fun S1 => ?_)
        clear hK K S1
        refine wpAnyH_done (by kernel_rfl) ?_ _
        have c5 := pend_last x hx8 SE.out.2
        have h8 := Lib.hid (h7.out.below (Below.refl _ _).drew)
        clear h7 SD SE hth
        generalize (WD.setCells g (x.1 * 128) (tb x.2)) = W7 at h8 c9 q9 cz c5 FR7 ⊢
        go_wp2_with fail
        go_region
        all_goals
          go_wp2_with fail
          go_roundw
          case rel => exact ⟨k + 1, by omega, by go_num, h8.out, FR7.out⟩
          case measure => simp [intOf]; omega
      | false =>
        go_wp2_with (first
          | ((with_reducible show wpList _ _ _ ({ dst := _, op := .load 93 _, type := _, pos := _, after := _, guard := _ } :: _) _ _); refine wpList_load_mid rfl 93 _ rfl g2 (k * 129) rfl (pend x) _ HRG.out Try.underlying93 rfl (by rw [show (pend x).length = 129 from by simpa using P9.out]; kernel_rfl) ?_)
          | ((with_reducible show wpList _ _ _ ({ dst := _, op := .store 93 _ _, type := _, pos := _, after := _, guard := _ } :: _) _ _); refine wpList_store_st rfl 93 _ _ rfl wr.heap.size (pend x).toArray rfl rfl _ HZ.out (by rw [P9.out]; kernel_rfl) (by rw [P9.out]; exact pzero_size) P1.out ?_; intro w6 hw6 k6; have B6 := Lib.hid (show Below wr.heap.size wr w6 from by rw [hw6]; exact below_row ((Below.refl _ wr).alloc (Nat.le_refl _) _) (Nat.le_refl _) _); have K6 := Lib.hid k6; clear hw6 k6)
          | (go_at_call 49; go_must (refine (HCf.out _ (frm_below HFR.out B6.out)).mono ?_); rintro e w7 ⟨rfl, rfl⟩))
        have hP6 := HR.out.below B6.out
        have hf6 := frm_below HFR.out B6.out
        have lrz := hP6.lr
        rw [HLV.out] at lrz
        have c9 := lrz.cellAt x.1 (by rw [← HN.out]; omega)
        rw [List.getElem?_eq_getElem (by rw [zcells_length, ← HN.out]; exact hx1)] at c9
        have q9 := lrz.frozenAt x.1
        have cz : w6.cell? ⟨p, 2, none⟩ = some (.slice (some ⟨gl, 0, none⟩) n cl) := by rw [HN.out, ← HLV.out]; exact hP6.st.cell rfl
        have c5 := pend_last x hx8 K6.out
        have h8 := Lib.hid ((PM.no (cl := cl) hP6 HA.out x HX.out HFK.out.symm HLV.out).below (Below.refl _ _).drew)
        have FR7 := Lib.hid ((hf6.setCell (p := ⟨gl, x.1, none⟩) (.inl (.inr (by rw [HLV.out]; rfl))) (.int .i64 0)).drew)
        have hx0 : (0 : Int) ≤ (x.1 : Int) := by omega
        have hx2 : (x.1 : Int) < (n : Int) := by omega
        clear hf6 hP6 lrz
        go_region
        all_goals
          go_wp2_with fail
          go_roundw
          case rel => exact ⟨k + 1, by omega, by go_num, h8.out, FR7.out⟩
          case measure => simp [intOf]; omega
    · obtain rfl : k = m := by omega
      have c1 : wr.cell? ⟨p, 1, none⟩ = some wv := hr.st.cell rfl
      have q1 := hr.st.free 1
      clear hr
      go_wp2_with fail
      go_end0
      rw [HM.out] at HR
      exact ⟨rfl, HR.out.done HA.out HD.out.1 HD.out.2.1 HD.out.2.2, (HFR.out.wide fun j hj => .inr hj).setCell (p := ⟨p, 1, none⟩) (.inl (.inl rfl)) _⟩
set_option maxRecDepth 100000 in
set_option maxHeartbeats 1000000 in
theorem dsettle_some (B p : Nat) (q : Nat) (kv wv lv : Value) (is : Bool) (N : Int) (D : DS) (f : Nat → Bool) (w : World) (h : PD0 B p kv wv lv is N D w)
    (hf : ∀ (k : Nat) (W : World), k < D.wait.length → Frm (fun j => kv.ownBlock = some j ∨ lv.ownBlock = some j) w W → Calls Try.prog 44 #[.int .i64 k, .pointer (some ⟨q, 0, none⟩)] W fun e w' => e = .returned (.bool (f k)) ∧ W = w') :
    Calls Try.prog 43 #[.pointer (some ⟨p, 0, none⟩), .func (.func 44) #[] #[.pointer (some ⟨q, 0, none⟩)]] w fun e w' => e = .returned (.tuple #[]) ∧
      PD0 B p kv (.slice none 0 0) lv is N { D with kept := keepAll D.kept (picked f 0 D.wait), wait := [] } w' ∧ Frm (fun j => j = p ∨ kv.ownBlock = some j ∨ lv.ownBlock = some j) w w' := by
  have HA := Lib.hid (⟨h.kp, h.wp, h.lp, h.kw, h.kl, h.wl, h.bp⟩ : Apart3 B p kv wv lv)
  have HD := Lib.hid (And.intro h.fz (And.intro h.ok h.pos))
  obtain ⟨m, hm⟩ : ∃ m, m = D.wait.length := ⟨_, rfl⟩
  obtain ⟨n, hn⟩ : ∃ n, n = D.kept.length := ⟨_, rfl⟩
  have hml : m ≤ 9223372036854775807 := by rw [hm]; exact own_len h.wr
  have hnl : n ≤ 9223372036854775807 := by rw [hn]; exact own_len h.kr
  obtain ⟨ao, cw, hwv⟩ := own_slice h.wr
  rw [← hm] at hwv
  obtain ⟨g, cap, hkv, _, _, _⟩ := own_some h.kr (by have := h.pos; omega)
  obtain ⟨gl, cl, hlv, _, _, _⟩ := own_some h.lr (by have := h.pos; omega)
  have hgp : g ≠ p := fun e => h.kp (by rw [hkv]; simp [Value.ownBlock, e])
  have hpl := h.st.lt
  have hgs : g < w.heap.size := (h.kr.lt g (by rw [hkv]; rfl)).2
  have c1 : w.cell? ⟨p, 1, none⟩ = some (.slice ao m cw) := by rw [← hwv]; exact h.st.cell rfl
  have HS := Lib.hid (PM.start (f := f) h)
  rw [← hm] at hf
  have HF := Lib.hid hf
  have HWV := Lib.hid hwv
  have HM := Lib.hid hm
  have HN := Lib.hid hn
  have HKV := Lib.hid hkv
  have HLV := Lib.hid hlv
  clear h hf hwv hm hn hkv hlv
  go_enter Try.func43, Try.ntmps43
  go_wp2_with fail
  go_loopw [11] (fun c wr => ∃ k : Nat, k ≤ m ∧ c = .int .i64 k ∧ PM B p kv wv lv is N D f k wr ∧ Frm (fun j => kv.ownBlock = some j ∨ lv.ownBlock = some j) w wr) (fun c _ => m - (intOf c).toNat)
  case atStart => exact ⟨0, Nat.zero_le _, rfl, HS.out, Frm.refl _ _⟩
  case round =>
    obtain ⟨k, hk, rfl, hr, hfr⟩ := hrel
    have HR := Lib.hid hr
    have HFR := Lib.hid hfr
    have hws := hfr.size
    clear hfr
    by_cases hlt : k < m
    · obtain ⟨x, hx⟩ : ∃ x, D.wait[k]? = some x := ⟨_, List.getElem?_eq_getElem (by rw [← HM.out]; exact hlt)⟩
      have hxm : x ∈ D.wait := List.mem_of_getElem? hx
      have hx1 : x.1 < n := by rw [HN.out]; exact HD.out.2.1.inn x hxm
      have hx8 : x.2.size = 128 := HD.out.2.1.fulw x hxm
      obtain ⟨g2, cap2, hwv2, hg2, _, _⟩ := own_some hr.wr (by rw [← HM.out]; omega)
      have eao : ao = some ⟨g2, 0, none⟩ := by have e := HWV.out.symm.trans hwv2; injection e
      have hrg : wr.rangeAt g2 (k * 129) (pend x) := by
        have hq := hr.wr
        rw [hwv2] at hq
        exact own_range hq (k * 129) (pend x) (flat_at pend 129 D.wait (fun y hy => pend_length y (HD.out.2.1.fulw y hy)) k x hx)
      subst eao
      have HRG := Lib.hid hrg
      have HX := Lib.hid hx
      have P9 := Lib.hid (show (pend x).toArray.size = 129 from by simpa using pend_length x hx8)
      have P1 := Lib.hid (all_oneCell_toArray (pend_one x))
      have C8 := Lib.hid (show (tb x.2).length = 128 from by rw [tb_length, hx8])
      obtain ⟨nb, hnb⟩ : ∃ nb, nb = wr.heap.size := ⟨_, rfl⟩
      have HZ := Lib.hid (St.new wr 93 Try.zeroCells93)
      have HCf := Lib.hid (fun W hW => HF.out k W hlt hW)
      have hgn : g ≠ nb := by omega
      clear hx hxm hwv2 hg2 hrg hr
      obtain ⟨fk, hfk⟩ : ∃ fk, fk = f k := ⟨_, rfl⟩
      rw [← hfk] at HCf
      have HFK := Lib.hid hfk
      clear hfk
      have HNB := Lib.hid hnb
      cases fk with
      | true =>
        go_wp2_with (first
          | ((with_reducible show wpList _ _ _ ({ dst := _, op := .load 93 _, type := _, pos := _, after := _, guard := _ } :: _) _ _); refine wpList_load_mid rfl 93 _ rfl g2 (k * 129) rfl (pend x) _ HRG.out Try.underlying93 rfl (by rw [show (pend x).length = 129 from by simpa using P9.out]; kernel_rfl) ?_)
          | ((with_reducible show wpList _ _ _ ({ dst := _, op := .store 93 _ _, type := _, pos := _, after := _, guard := _ } :: _) _ _); refine wpList_store_st rfl 93 _ _ rfl wr.heap.size (pend x).toArray rfl rfl _ HZ.out (by rw [P9.out]; kernel_rfl) (by rw [P9.out]; exact pzero_size) P1.out ?_; intro w6 hw6 k6; have B6 := Lib.hid (show Below wr.heap.size wr w6 from by rw [hw6]; exact below_row ((Below.refl _ wr).alloc (Nat.le_refl _) _) (Nat.le_refl _) _); have K6 := Lib.hid k6; clear hw6 k6)
          | (go_at_call 44; go_must (refine (HCf.out _ (frm_below HFR.out B6.out)).mono ?_); rintro e w7 ⟨rfl, rfl⟩))
        have hP6 := HR.out.below B6.out
        have SD := Lib.hid (show (w6.drew).cell? ⟨p, 0, none⟩ = some (.slice (some ⟨g, 0, none⟩) n cap) ∧ St 93 nb (pend x).toArray w6.drew from ⟨by rw [HN.out, ← HKV.out]; exact hP6.st.cell rfl, by rw [HNB.out]; exact K6.out⟩)
        have hth : (w6.drew).there g (x.1 * 128) 128 := by
          have hq := hP6.kr
          rw [HKV.out] at hq
          exact own_there (w := w6.drew) hq (x.1 * 128) 128 (by rw [← HN.out]; omega)
        have h7 := Lib.hid (PM.yes (cap := cap) (cl := cl) (hP6.below (Below.refl _ w6).drew) HA.out HD.out.2.1 x HX.out HFK.out.symm HKV.out HLV.out)
        have hf6 := frm_below HFR.out B6.out
        have HF6 := Lib.hid hf6
        have HP6 := Lib.hid hP6
        have lrz := own_setCells_other (show w6.drew.ownsRow B 3 1 lv D.kept.length (zcells D.kept.length D.wait k) from hP6.lr) (g := g) (fun e => HA.out.kl g (by rw [HKV.out]; rfl) e) (x.1 * 128) (tb x.2)
        have stz := (show St 65 p (pcs kv wv lv is N D) w6.drew from hP6.st).setCells_other hgp.symm (x.1 * 128) (tb x.2)
        rw [HLV.out] at lrz
        have c9 := lrz.cellAt x.1 (by rw [← HN.out]; omega)
        rw [List.getElem?_eq_getElem (by rw [zcells_length, ← HN.out]; exact hx1)] at c9
        have q9 := lrz.frozenAt x.1
        have cz : (w6.drew.setCells g (x.1 * 128) (tb x.2)).cell? ⟨p, 2, none⟩ = some (.slice (some ⟨gl, 0, none⟩) n cl) := by rw [HN.out, ← HLV.out]; exact stz.cell rfl
        have hx0 : (0 : Int) ≤ (x.1 : Int) := by omega
        have hx2 : (x.1 : Int) < (n : Int) := by omega
        have FR7 := Lib.hid (((Frm.setCells (F := fun j => kv.ownBlock = some j ∨ lv.ownBlock = some j) (g := g) (.inl (.inl (by rw [HKV.out]; rfl))) (tb x.2) (x.1 * 128) _ hf6.drew).setCell (p := ⟨gl, x.1, none⟩) (.inl (.inr (by rw [HLV.out]; rfl))) (.int .i64 0)).drew)
        clear hf6 hP6 lrz stz hnb
        rw [← HNB.out]
        refine wp_region_held (S := fun w' => w'.cell? ⟨p, 0, none⟩ = some (.slice (some ⟨g, 0, none⟩) n cap) ∧ St 93 nb (pend x).toArray w') (by kernel_rfl) ?_
        change wpAnyH _ _ _ _ _ _ _ _ (World.drew _)
        generalize World.drew w6 = WD at SD hth h7 c9 q9 cz FR7 ⊢
        refine wpAnyH_take (i := 6) (v := (.pointer (some ⟨nb, 0, none⟩))) rfl (by kernel_rfl) (by kernel_rfl) (by kernel_rfl) (fun _ _ _ h => h) (Or.inl ⟨by rfl, fun w' hS => ?_⟩) SD.out ?_
        · clear hS; go_simp
        refine wpAnyH_take (i := 7) (v := .agg (tb x.2).toArray) rfl (by kernel_rfl) (by kernel_rfl) (by kernel_rfl) (fun _ _ _ h => h) (yieldsIf_load_mid (by rfl) 87 (.tmp 25) rfl nb 0 (by simp [Act.eval, Act.put]) (tb x.2) _ (fun w' hS => (pend_range hS.2).1) Try.underlying87 rfl (by rw [C8.out]; kernel_rfl)) SD.out ?_
        refine wpAnyH_take (i := 4) (v := (.pointer (some ⟨nb, 128, none⟩))) rfl (by kernel_rfl) (by kernel_rfl) (by kernel_rfl) (fun _ _ _ h => h) (Or.inl ⟨by rfl, fun w' hS => ?_⟩) SD.out ?_
        · clear hS; go_simp
        refine wpAnyH_take (i := 5) (v := (.int .i64 (x.1 : Int))) rfl (by kernel_rfl) (by kernel_rfl) (by kernel_rfl) (fun _ _ _ h => h) (Or.inl ⟨by rfl, fun w' hS => ?_⟩) SD.out ?_
        · have c5 := pend_last x hx8 hS.2; clear hS; go_simp
        refine wpAnyH_take (i := 0) (v := (.pointer (some ⟨p, 0, none⟩))) rfl (by kernel_rfl) (by kernel_rfl) (by kernel_rfl) (fun _ _ _ h => h) (Or.inl ⟨by rfl, fun w' hS => ?_⟩) SD.out ?_
        · clear hS; go_simp
        refine wpAnyH_take (i := 1) (v := (.pointer (some ⟨p, 0, none⟩))) rfl (by kernel_rfl) (by kernel_rfl) (by kernel_rfl) (fun _ _ _ h => h) (Or.inl ⟨by rfl, fun w' hS => ?_⟩) SD.out ?_
        · clear hS; go_simp
        refine wpAnyH_take (i := 2) (v := (.pointer (some ⟨p, 0, none⟩))) rfl (by kernel_rfl) (by kernel_rfl) (by kernel_rfl) (fun _ _ _ h => h) (Or.inl ⟨by rfl, fun w' hS => ?_⟩) SD.out ?_
        · clear hS; go_simp
        refine wpAnyH_take (i := 3) (v := (.slice (some ⟨g, 0, none⟩) n cap)) rfl (by kernel_rfl) (by kernel_rfl) (by kernel_rfl) (fun _ _ _ h => h) (Or.inl ⟨by rfl, fun w' hS => ?_⟩) SD.out ?_
        · have c5 := hS.1; clear hS; go_simp
        refine wpAnyH_ready (rs := [8]) (by kernel_rfl) (by simp) ?_
        refine AllReadyH.cons rfl (fun K hK => ?_) AllReadyH.nil
        go_simp
        refine hK.out _ _ SD.out (fun S1 => ?_)
        clear hK K S1
        refine wpAnyH_ready (rs := [9]) (by kernel_rfl) (by simp) ?_
        refine AllReadyH.cons rfl (fun K hK => ?_) AllReadyH.nil
        refine step_store_mid (by rfl) 87 (.tmp 27) (.tmp 26) rfl g (x.1 * 128) (tb x.2).toArray (by simp [Act.eval]) (by simp [Act.eval]) (by rw [show (tb x.2).toArray.size = 128 from by simpa using C8.out]; exact hth) (by rw [show (tb x.2).toArray.size = 128 from by simpa using C8.out]; kernel_rfl) (tb_ones x.2) ?_
        have SE := Lib.hid (show (WD.setCells g (x.1 * 128) (tb x.2)).cell? ⟨p, 0, none⟩ = some (.slice (some ⟨g, 0, none⟩) n cap) ∧ St 93 nb (pend x).toArray (WD.setCells g (x.1 * 128) (tb x.2)) from ⟨(World.cell?_setCells_out g (tb x.2) (x.1 * 128) WD ⟨p, 0, none⟩ (fun e _ => absurd e.symm hgp)).trans SD.out.1, SD.out.2.setCells_other hgn.symm _ _⟩)
        go_simp
        refine hK.out _ _ SE.out (fun S1 => ?_)
        clear hK K S1
        refine wpAnyH_done (by kernel_rfl) ?_ _
        have c5 := pend_last x hx8 SE.out.2
        have h8 := Lib.hid (h7.out.below (Below.refl _ _).drew)
        clear h7 SD SE hth
        generalize (WD.setCells g (x.1 * 128) (tb x.2)) = W7 at h8 c9 q9 cz c5 FR7 ⊢
        go_wp2_with fail
        go_region
        all_goals
          go_wp2_with fail
          go_roundw
          case rel => exact ⟨k + 1, by omega, by go_num, h8.out, FR7.out⟩
          case measure => simp [intOf]; omega
      | false =>
        go_wp2_with (first
          | ((with_reducible show wpList _ _ _ ({ dst := _, op := .load 93 _, type := _, pos := _, after := _, guard := _ } :: _) _ _); refine wpList_load_mid rfl 93 _ rfl g2 (k * 129) rfl (pend x) _ HRG.out Try.underlying93 rfl (by rw [show (pend x).length = 129 from by simpa using P9.out]; kernel_rfl) ?_)
          | ((with_reducible show wpList _ _ _ ({ dst := _, op := .store 93 _ _, type := _, pos := _, after := _, guard := _ } :: _) _ _); refine wpList_store_st rfl 93 _ _ rfl wr.heap.size (pend x).toArray rfl rfl _ HZ.out (by rw [P9.out]; kernel_rfl) (by rw [P9.out]; exact pzero_size) P1.out ?_; intro w6 hw6 k6; have B6 := Lib.hid (show Below wr.heap.size wr w6 from by rw [hw6]; exact below_row ((Below.refl _ wr).alloc (Nat.le_refl _) _) (Nat.le_refl _) _); have K6 := Lib.hid k6; clear hw6 k6)
          | (go_at_call 44; go_must (refine (HCf.out _ (frm_below HFR.out B6.out)).mono ?_); rintro e w7 ⟨rfl, rfl⟩))
        have hP6 := HR.out.below B6.out
        have hf6 := frm_below HFR.out B6.out
        have lrz := hP6.lr
        rw [HLV.out] at lrz
        have c9 := lrz.cellAt x.1 (by rw [← HN.out]; omega)
        rw [List.getElem?_eq_getElem (by rw [zcells_length, ← HN.out]; exact hx1)] at c9
        have q9 := lrz.frozenAt x.1
        have cz : w6.cell? ⟨p, 2, none⟩ = some (.slice (some ⟨gl, 0, none⟩) n cl) := by rw [HN.out, ← HLV.out]; exact hP6.st.cell rfl
        have c5 := pend_last x hx8 K6.out
        have h8 := Lib.hid ((PM.no (cl := cl) hP6 HA.out x HX.out HFK.out.symm HLV.out).below (Below.refl _ _).drew)
        have FR7 := Lib.hid ((hf6.setCell (p := ⟨gl, x.1, none⟩) (.inl (.inr (by rw [HLV.out]; rfl))) (.int .i64 0)).drew)
        have hx0 : (0 : Int) ≤ (x.1 : Int) := by omega
        have hx2 : (x.1 : Int) < (n : Int) := by omega
        clear hf6 hP6 lrz
        go_region
        all_goals
          go_wp2_with fail
          go_roundw
          case rel => exact ⟨k + 1, by omega, by go_num, h8.out, FR7.out⟩
          case measure => simp [intOf]; omega
    · obtain rfl : k = m := by omega
      have c1 : wr.cell? ⟨p, 1, none⟩ = some wv := hr.st.cell rfl
      have q1 := hr.st.free 1
      clear hr
      go_wp2_with fail
      go_end0
      rw [HM.out] at HR
      exact ⟨rfl, HR.out.done HA.out HD.out.1 HD.out.2.1 HD.out.2.2, (HFR.out.wide fun j hj => .inr hj).setCell (p := ⟨p, 1, none⟩) (.inl (.inl rfl)) _⟩
end Go.Proofs.Ytfipojmgmmjnmaa
