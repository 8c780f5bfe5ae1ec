/- Several texts in one: Pdc Pdd Pde. -/
import Derived.RegionCalls
import Derived.Deep.QuietTactic
import Derived.Test.YtikeckmbfgidhaaGreatDoorZy11
/- The program's disk: its fuse, its counters. -/
namespace Go.Proofs.YtikeckmbfgidhaaGreatDoor
open Go.RowKit

/-- The same, whatever stands for the fuse. -/
def PDk (B p : Nat) (kv wv lv : Value) (D : DS) (w : World) : Prop := ∃ is N, PD0 B p kv wv lv is N D w
theorem Frm.at1 {p : Nat} {a b : World} (h : Frm (fun k => k = p) a b) (j : Nat) (v : Value) : Frm (fun k => k = p) a (b.setCell ⟨p, j, none⟩ v) := h.setCell (p := ⟨p, j, none⟩) (.inl rfl) v
/-- Behind the fuse. -/
theorem PD0.fuse {B p : Nat} {kv wv lv : Value} {N : Int} {D : DS} {w : World} (h : PD0 B p kv wv lv true N D w) (f : Int) (h1 : 0 ≤ f) (h2 : f ≤ 9223372036854775807) : PD0 B p kv wv lv true f { D with fuse := f } (w.setCell ⟨p, 4, none⟩ (.int .i64 f)) :=
  h.put true f { D with fuse := f } 4 _ rfl rfl rfl (.inl ⟨rfl, rfl, h1⟩) (by show -1 ≤ f; omega) h2
theorem PD0.die {B p : Nat} {kv wv lv : Value} {is : Bool} {N : Int} {D : DS} {w : World} (h : PD0 B p kv wv lv is N D w) (b : Bool) : PD0 B p kv wv lv is N { D with dead := b } (w.setCell ⟨p, 5, none⟩ (.bool b)) :=
  h.put is N { D with dead := b } 5 _ rfl rfl rfl h.fz h.ok.lo h.ok.hi
theorem PD0.wrs {B p : Nat} {kv wv lv : Value} {is : Bool} {N : Int} {D : DS} {w : World} (h : PD0 B p kv wv lv is N D w) (n : Nat) : PD0 B p kv wv lv is N { D with wr := n } (w.setCell ⟨p, 6, none⟩ (.int .i64 (n : Int))) :=
  h.put is N { D with wr := n } 6 _ rfl rfl rfl h.fz h.ok.lo h.ok.hi
theorem PD0.brs {B p : Nat} {kv wv lv : Value} {is : Bool} {N : Int} {D : DS} {w : World} (h : PD0 B p kv wv lv is N D w) (n : Nat) : PD0 B p kv wv lv is N { D with br := n } (w.setCell ⟨p, 7, none⟩ (.int .i64 (n : Int))) :=
  h.put is N { D with br := n } 7 _ rfl rfl rfl h.fz h.ok.lo h.ok.hi

set_option maxRecDepth 100000 in
theorem dburn_off (B p : Nat) (kv wv lv : Value) (is : Bool) (N : Int) (D : DS) (w : World) (h0 : D.fuse = 0) (h : PD0 B p kv wv lv is N D w) :
    Calls Tryz.prog 25 #[.pointer (some ⟨p, 0, none⟩)] w fun e w' => e = .returned (.bool false) ∧ PD0 B p kv wv lv is N D.burnt w' ∧ Frm (fun j => j = p) w w' := by
  have e : D.burnt = { D with dead := true } := by unfold DS.burnt; rw [if_pos h0]
  rw [e]
  obtain ⟨hi, hn⟩ : is = true ∧ N = 0 := by
    rcases h.fz with ⟨a, b, _⟩ | ⟨_, b⟩
    · exact ⟨a, by omega⟩
    · omega
  subst hi
  subst hn
  have c3 : w.cell? ⟨p, 3, none⟩ = some (.bool true) := h.st.cell rfl
  have c4 : w.cell? ⟨p, 4, none⟩ = some (.int .i64 0) := h.st.cell rfl
  have c5 : w.cell? ⟨p, 5, none⟩ = some (.bool D.dead) := h.st.cell rfl
  have f5 := h.st.free 5
  have HH := Lib.hid h
  clear h h0 e
  go_enter Tryz.func25, Tryz.ntmps25
  go_wp2
  go_ret
  exact ⟨rfl, HH.out.die true, (Frm.refl _ _).at1 _ _⟩
set_option maxRecDepth 100000 in
theorem dburn_on (B p : Nat) (kv wv lv : Value) (is : Bool) (N : Int) (D : DS) (w : World) (h0 : D.fuse ≠ 0) (h : PD0 B p kv wv lv is N D w) :
    Calls Tryz.prog 25 #[.pointer (some ⟨p, 0, none⟩)] w fun e w' => e = .returned (.bool true) ∧ PDk B p kv wv lv D.burnt w' ∧ Frm (fun j => j = p) w w' ∧ w'.heap.size = w.heap.size := by
  rcases h.fz with ⟨hi, hn, hp⟩ | ⟨hi, hn⟩
  · subst hi
    have e : D.burnt = { D with fuse := D.fuse - 1 } := by unfold DS.burnt; rw [if_neg h0, if_pos (by omega)]
    rw [e]
    have hb := h.ok.hi
    have c3 : w.cell? ⟨p, 3, none⟩ = some (.bool true) := h.st.cell rfl
    have c4 : w.cell? ⟨p, 4, none⟩ = some (.int .i64 N) := h.st.cell rfl
    have f4 := h.st.free 4
    have d1 : (N == 0) = false := by rw [beq_eq_false_iff_ne]; omega
    have hN1 : 1 ≤ N := by omega
    have hN2 : N ≤ 9223372036854775807 := by omega
    have HH := Lib.hid h
    have HN := Lib.hid hn
    clear h h0 e hn hp hb
    go_enter Tryz.func25, Tryz.ntmps25
    go_wp2
    go_ret
    refine ⟨rfl, ⟨true, N - 1, ?_⟩, (Frm.refl _ _).at1 _ _, by simp [World.setCell]⟩
    rw [← HN.out]
    exact HH.out.fuse (N - 1) (by omega) (by omega)
  · subst hi
    have e : D.burnt = D := by unfold DS.burnt; rw [if_neg h0, if_neg (by omega)]
    rw [e]
    have c3 : w.cell? ⟨p, 3, none⟩ = some (.bool false) := h.st.cell rfl
    have HH := Lib.hid h
    clear h h0 e hn
    go_enter Tryz.func25, Tryz.ntmps25
    go_wp2
    go_ret
    exact ⟨rfl, ⟨false, N, HH.out⟩, Frm.refl _ _, rfl⟩

/-- '(*sync/atomic.Int64).Add(1)', '.Load()'. -/
theorem i64_one (a : Addr) (n : Int) (w : World) (h1 : n < 9223372036854775807) (h0 : 0 ≤ n) (hc : w.cell? a = some (.int .i64 n)) (hz : w.frozen? a = false) :
    Calls Tryz.prog 28 #[.pointer (some a), .int .i64 1] w fun e w' => e = .returned (.int .i64 (n + 1)) ∧ w.setCell a (.int .i64 (n + 1)) = w' := by
  have hs : IntKind.i64.wrap (n + 1) = n + 1 := IntWalk.i64_in _ (by omega)
  have hadd := run_call_add (P := Tryz.prog) Tryz.func45 (by kernel_rfl) (by kernel_rfl) (by kernel_rfl) .i64 (by kernel_rfl) (y := 1) (s := n + 1) hc hz (by simp [go_sem, hs])
  clear hs
  go_enter Tryz.func28, Tryz.ntmps28
  go_wp2
  go_ret
  exact ⟨rfl, rfl⟩
set_option maxRecDepth 100000 in
theorem dArm_at (B p : Nat) (kv wv lv : Value) (is : Bool) (N : Int) (D : DS) (n : Int) (w : World) (hd : D.dead = false) (hn : n ≤ 9223372036854775807) (h : PD0 B p kv wv lv is N D w) :
    Calls Tryz.prog 11 #[.pointer (some ⟨p, 0, none⟩), .int .i64 n] w fun e w' => e = .returned (.int .i64 0) ∧ PDk B p kv wv lv (D.arm n).2 w' ∧ Frm (fun j => j = p) w w' := by
  have HR := Lib.hid (drefusal_at h)
  rw [hd] at HR
  have c3 : w.cell? ⟨p, 3, none⟩ = some (.bool is) := h.st.cell rfl
  have c4 : w.cell? ⟨p, 4, none⟩ = some (.int .i64 N) := h.st.cell rfl
  have f3 := h.st.free 3
  have f4 := h.st.free 4
  have e : D.arm n = (0, { D with fuse := if n < 0 then -1 else n }) := by unfold DS.arm; rw [hd]; rfl
  rw [e]
  have HE : ∀ (b : Bool), Fz b n (if n < 0 then -1 else n) → PD0 B p kv wv lv b n { D with fuse := if n < 0 then -1 else n } ((w.setCell ⟨p, 3, none⟩ (.bool b)).setCell ⟨p, 4, none⟩ (.int .i64 n)) := fun b hb => by
    have h1 := h.st.set 3 (.bool b)
    have h2 := h1.set 4 (.int .i64 n)
    exact ⟨h2, hb, ⟨rfl, h.ok.inn, h.ok.full, h.ok.fulw, by show -1 ≤ ite _ _ _; split <;> omega, by show ite _ _ _ ≤ _; split <;> omega⟩, h.pos, ownsRow_setCell_other (ownsRow_setCell_other h.kr h.kp _) h.kp _, ownsRow_setCell_other (ownsRow_setCell_other h.wr h.wp _) h.wp _, ownsRow_setCell_other (ownsRow_setCell_other h.lr h.lp _) h.lp _, h.kp, h.wp, h.lp, h.kw, h.kl, h.wl, h.bp⟩
  obtain ⟨f, hf⟩ : ∃ f, f = if n < 0 then -1 else n := ⟨_, rfl⟩
  rw [← hf] at HE ⊢
  replace HE := Lib.hid HE
  have HF := Lib.hid hf
  clear h hd e hf
  by_cases h0 : 0 ≤ n
  · have d0 : decide (n ≥ 0) = true := decide_eq_true h0
    have d1 : decide (0 ≤ n) = true := decide_eq_true h0
    go_enter Tryz.func11, Tryz.ntmps11
    go_wp2_with (go_at_call 24; go_must (refine HR.out.mono ?_); rintro e w1 ⟨rfl, rfl⟩)
    go_ret
    exact ⟨rfl, ⟨true, n, HE.out true (.inl ⟨rfl, by rw [HF.out, if_neg (by omega)], by rw [HF.out, if_neg (by omega)]; exact h0⟩)⟩, ((Frm.refl _ _).at1 _ _).at1 _ _⟩
  · have d0 : decide (n ≥ 0) = false := decide_eq_false h0
    have d1 : decide (0 ≤ n) = false := decide_eq_false h0
    go_enter Tryz.func11, Tryz.ntmps11
    go_wp2_with (go_at_call 24; go_must (refine HR.out.mono ?_); rintro e w1 ⟨rfl, rfl⟩)
    go_ret
    exact ⟨rfl, ⟨false, n, HE.out false (.inr ⟨rfl, by rw [HF.out, if_pos (by omega)]⟩)⟩, ((Frm.refl _ _).at1 _ _).at1 _ _⟩
set_option maxRecDepth 100000 in
theorem dArm_dead (B p : Nat) (kv wv lv : Value) (is : Bool) (N : Int) (D : DS) (n : Int) (w : World) (hd : D.dead = true) (h : PD0 B p kv wv lv is N D w) :
    Calls Tryz.prog 11 #[.pointer (some ⟨p, 0, none⟩), .int .i64 n] w fun e w' => e = .returned (.int .i64 30) ∧ w = w' := by
  have HR := Lib.hid (drefusal_at h)
  rw [hd] at HR
  clear h hd
  go_enter Tryz.func11, Tryz.ntmps11
  go_wp2_with (go_at_call 24; go_must (refine HR.out.mono ?_); rintro e w1 ⟨rfl, rfl⟩)
  go_ret
  exact ⟨rfl, rfl⟩
end Go.Proofs.YtikeckmbfgidhaaGreatDoor

/- The program's disk: what a sector has; Read. -/
namespace Go.Proofs.YtikeckmbfgidhaaGreatDoor
open Go.RowKit

theorem cell_alloc {w : World} {a : Addr} {v : Value} (h : w.cell? a = some v) (o : Obj) : (w.alloc o).cell? a = some v := by
  rw [World.cell?_alloc_lt _ _ _ (World.block_lt_of_cell? w _ h)]
  exact h
theorem tb_arr (s : ByteArray) (h : s.size = 128) : (tb s).toArray.size = 128 := by simp [tb_length, h]
theorem tb_ones (s : ByteArray) : (tb s).toArray.all (·.oneCell') = true := all_oneCell_toArray (tb_one s)
theorem szero_size : Tryz.zeroCells74.size = 128 := by kernel_rfl
set_option maxRecDepth 100000 in
theorem dcontents_kept (B p : Nat) (kv wv lv : Value) (is : Bool) (N : Int) (D : DS) (j : Nat) (x : ByteArray) (w : World) (hx : D.kept[j]? = some x) (h0 : lastNo j D.wait 0 0 = 0) (h : PD0 B p kv wv lv is N D w) :
    Calls Tryz.prog 39 #[.pointer (some ⟨p, 0, none⟩), .int .i64 j] w fun e w' => e = .returned (.agg (tb x).toArray) ∧ Below w.heap.size w w' := by
  have hj : j < D.kept.length := (List.getElem?_eq_some_iff.1 hx).1
  obtain ⟨g, ck, hkv, _, hm1, hkc⟩ := own_some h.kr (by omega)
  obtain ⟨g2, cl, hlv, _, hm2, hlc⟩ := own_some h.lr (by omega)
  have c2 : (w.alloc (.cells Tryz.zeroCells74 74 (0, 0))).cell? ⟨p, 2, none⟩ = some (.slice (some ⟨g2, 0, none⟩) D.kept.length cl) := by rw [← hlv]; exact (h.st.alloc _).cell rfl
  have cj : (w.alloc (.cells Tryz.zeroCells74 74 (0, 0))).cell? ⟨g2, j, none⟩ = some (.int .i64 0) := by refine cell_alloc ?_ _; rw [hlc j _ (lcells_at _ _ j hj), h0]; rfl
  have c0 : (w.alloc (.cells Tryz.zeroCells74 74 (0, 0))).cell? ⟨p, 0, none⟩ = some (.slice (some ⟨g, 0, none⟩) D.kept.length ck) := by rw [← hkv]; exact (h.st.alloc _).cell rfl
  have hr : w.rangeAt g (j * 128) (tb x) := by
    have hk := h.kr
    rw [hkv] at hk
    exact own_range hk (j * 128) (tb x) (flat_at tb 128 D.kept (fun y hy => by rw [tb_length, h.ok.full y hy]) j x hx)
  have hs : x.size = 128 := h.ok.full x (List.mem_of_getElem? hx)
  obtain ⟨n, hn⟩ : ∃ n, n = D.kept.length := ⟨_, rfl⟩
  rw [← hn] at c2 c0 hj
  have HR := Lib.hid (World.rangeAt_alloc hr (.cells Tryz.zeroCells74 74 (0, 0)))
  obtain ⟨cs, hcs⟩ : ∃ cs, cs = tb x := ⟨_, rfl⟩
  have h1 := tb_arr x hs
  have h2 := tb_ones x
  rw [← hcs] at HR h1 h2 ⊢
  have H1 := Lib.hid h1
  have H2 := Lib.hid h2
  have HZ := Lib.hid (St.new w 74 Tryz.zeroCells74)
  clear h hx h0 hkv hlv hkc hlc hr hs hn hcs h1 h2
  go_enter Tryz.func39, Tryz.ntmps39
  go_wp2_with (first
    | ((with_reducible show wpList _ _ _ ({ dst := _, op := .load 74 _, type := _, pos := _, after := _, guard := _ } :: _) _ _); refine wpList_load_mid rfl 74 _ rfl g (j * 128) rfl cs _ HR.out Tryz.underlying74 rfl (by rw [show cs.length = 128 from by simpa using H1.out]; kernel_rfl) ?_)
    | ((with_reducible show wpList _ _ _ ({ dst := _, op := .store 74 _ _, type := _, pos := _, after := _, guard := _ } :: _) _ _); refine wpList_store_st rfl 74 _ _ rfl w.heap.size cs.toArray rfl rfl _ HZ.out (by rw [H1.out]; kernel_rfl) (by rw [H1.out]; exact szero_size) H2.out ?_; intro w6 hw6 k6; have K6 := Lib.hid k6; have W6 := Lib.hid hw6; clear hw6 k6))
  refine ret_cell (r := 4) (k := w.heap.size) (T := 74) Tryz.results39 rfl K6.out Tryz.underlying74 rfl (by rw [H1.out]; kernel_rfl) rfl ?_
  refine ⟨rfl, ?_⟩
  rw [W6.out]
  exact below_row ((Below.refl w.heap.size w).alloc (Nat.le_refl _) _) (Nat.le_refl _) _
set_option maxRecDepth 100000 in
theorem dcontents_wait (B p : Nat) (kv wv lv : Value) (is : Bool) (N : Int) (D : DS) (j k : Nat) (x : ByteArray) (w : World) (hj : j < D.kept.length) (h0 : lastNo j D.wait 0 0 = k + 1) (hx : D.wait[k]? = some (j, x)) (h : PD0 B p kv wv lv is N D w) :
    Calls Tryz.prog 39 #[.pointer (some ⟨p, 0, none⟩), .int .i64 j] w fun e w' => e = .returned (.agg (tb x).toArray) ∧ Below w.heap.size w w' := by
  have hk : k < D.wait.length := (List.getElem?_eq_some_iff.1 hx).1
  obtain ⟨g, ck, hwv, _, hm1, hkc⟩ := own_some h.wr (by omega)
  obtain ⟨g2, cl, hlv, _, hm2, hlc⟩ := own_some h.lr (by omega)
  have c2 : (w.alloc (.cells Tryz.zeroCells74 74 (0, 0))).cell? ⟨p, 2, none⟩ = some (.slice (some ⟨g2, 0, none⟩) D.kept.length cl) := by rw [← hlv]; exact (h.st.alloc _).cell rfl
  have cj : (w.alloc (.cells Tryz.zeroCells74 74 (0, 0))).cell? ⟨g2, j, none⟩ = some (.int .i64 ((k : Int) + 1)) := by refine cell_alloc ?_ _; rw [hlc j _ (lcells_at _ _ j hj), h0]; rfl
  have c1 : (w.alloc (.cells Tryz.zeroCells74 74 (0, 0))).cell? ⟨p, 1, none⟩ = some (.slice (some ⟨g, 0, none⟩) D.wait.length ck) := by rw [← hwv]; exact (h.st.alloc _).cell rfl
  have hs : x.size = 128 := h.ok.fulw _ (List.mem_of_getElem? hx)
  have hr : w.rangeAt g (k * 129) (tb x) := by
    have hk := h.wr
    rw [hwv] at hk
    refine own_range hk (k * 129) (tb x) fun i v hv => flat_at pend 129 D.wait (fun y hy => pend_length y (h.ok.fulw y hy)) k (j, x) hx i v ?_
    show (tb x ++ _)[i]? = _
    rw [List.getElem?_append_left (List.getElem?_eq_some_iff.1 hv).1]
    exact hv
  obtain ⟨n, hn⟩ : ∃ n, n = D.kept.length := ⟨_, rfl⟩
  obtain ⟨m, hm⟩ : ∃ m, m = D.wait.length := ⟨_, rfl⟩
  rw [← hn] at c2 hj
  rw [← hm] at c1 hk hm1
  have HR := Lib.hid (World.rangeAt_alloc hr (.cells Tryz.zeroCells74 74 (0, 0)))
  obtain ⟨cs, hcs⟩ : ∃ cs, cs = tb x := ⟨_, rfl⟩
  have h1 := tb_arr x hs
  have h2 := tb_ones x
  rw [← hcs] at HR h1 h2 ⊢
  have H1 := Lib.hid h1
  have H2 := Lib.hid h2
  have HZ := Lib.hid (St.new w 74 Tryz.zeroCells74)
  have d1 : decide ((k : Int) + 1 > 0) = true := decide_eq_true (by omega)
  have d2 : (0 : Int) < (k : Int) + 1 := by omega
  have hk2 : (k : Int) + 1 ≤ 9223372036854775807 := by omega
  clear h hx h0 hwv hlv hkc hlc hr hs hn hm hcs h1 h2
  go_enter Tryz.func39, Tryz.ntmps39
  go_wp2_with (first
    | ((with_reducible show wpList _ _ _ ({ dst := _, op := .load 74 _, type := _, pos := _, after := _, guard := _ } :: _) _ _); refine wpList_load_mid rfl 74 _ rfl g (k * 129) rfl cs _ HR.out Tryz.underlying74 rfl (by rw [show cs.length = 128 from by simpa using H1.out]; kernel_rfl) ?_)
    | ((with_reducible show wpList _ _ _ ({ dst := _, op := .store 74 _ _, type := _, pos := _, after := _, guard := _ } :: _) _ _); refine wpList_store_st rfl 74 _ _ rfl w.heap.size cs.toArray rfl rfl _ HZ.out (by rw [H1.out]; kernel_rfl) (by rw [H1.out]; exact szero_size) H2.out ?_; intro w6 hw6 k6; have K6 := Lib.hid k6; have W6 := Lib.hid hw6; clear hw6 k6))
  refine ret_cell (r := 4) (k := w.heap.size) (T := 74) Tryz.results39 rfl K6.out Tryz.underlying74 rfl (by rw [H1.out]; kernel_rfl) rfl ?_
  refine ⟨rfl, ?_⟩
  rw [W6.out]
  exact below_row ((Below.refl w.heap.size w).alloc (Nat.le_refl _) _) (Nat.le_refl _) _
theorem dcontents_at (B p : Nat) (kv wv lv : Value) (is : Bool) (N : Int) (D : DS) (j : Nat) (w : World) (hj : j < D.kept.length) (h : PD0 B p kv wv lv is N D w) :
    Calls Tryz.prog 39 #[.pointer (some ⟨p, 0, none⟩), .int .i64 j] w fun e w' => e = .returned (.agg (tb (lastOf j (D.kept.getD j ⟨#[]⟩) D.wait)).toArray) ∧ Below w.heap.size w w' := by
  have hx : D.kept[j]? = some (D.kept.getD j ⟨#[]⟩) := by simp [hj]
  rcases lastNo_spec j (D.kept.getD j ⟨#[]⟩) D.wait with ⟨h1, h2, _⟩ | ⟨k, t, h1, h2, h3⟩
  · rw [h2]
    exact dcontents_kept B p kv wv lv is N D j _ w hx h1 h
  · rw [h3]
    exact dcontents_wait B p kv wv lv is N D j k t w hj h1 h2 h
end Go.Proofs.YtikeckmbfgidhaaGreatDoor

/- The program's disk: Read. -/
namespace Go.Proofs.YtikeckmbfgidhaaGreatDoor
open Go.RowKit

/-- A block of bytes as a string. -/
theorem st_text {P : Program} {w : World} {T src dst e : TypeId} {k : Nat} {x : ByteArray} (h : St T k (tb x).toArray w) (n : Nat) (hn : x.size = n) (hs : P.underlying src = some (.slice e)) (he : P.underlying e = some (.int .u8)) (hd : P.underlying dst = some .string) :
    (convert src dst (.slice (some ⟨k, 0, none⟩) n n)).run P w = .ok (.string x) w := by
  subst hn
  have hr := run_convert_bytes_arg (P := P) w src e hs he k 0 x.size x.size (x.data.toList.map fun b => (b.toNat : Int)) (by simp) (fun i hi => by
    have hi' : i < x.data.size := hi
    have := h.cell (j := i) (v := .int .u8 (x.data[i].toNat)) (by simp [tb, bc, Array.getElem?_eq_getElem hi'])
    rw [Nat.zero_add, this]
    simp [List.getD, Array.getElem?_eq_getElem hi']) dst hd
  rw [hr]
  congr 2
  unfold strOfNums
  apply ByteArray.ext
  show (List.map _ (List.map _ x.data.toList)).toArray = x.data
  rw [List.map_map]
  have e : x.data.toList.map ((fun n : Int => UInt8.ofNat n.toNat) ∘ fun b : UInt8 => (b.toNat : Int)) = x.data.toList := by
    conv => rhs; rw [← List.map_id x.data.toList]
    apply List.map_congr_left
    intro b _
    simp
  rw [e]
theorem DS.read_size {D : DS} (h : D.ok D.kept.length) (j : Nat) (hj : j < D.kept.length) : (lastOf j (D.kept.getD j ⟨#[]⟩) D.wait).size = 128 := by
  rcases lastNo_spec j (D.kept.getD j ⟨#[]⟩) D.wait with ⟨_, h2, _⟩ | ⟨k, t, _, h2, h3⟩
  · rw [h2]
    refine h.full _ (List.mem_of_getElem? (i := j) ?_)
    simp [hj]
  · rw [h3]
    exact h.fulw _ (List.mem_of_getElem? h2)
set_option maxRecDepth 100000 in
theorem dRead_dead {B p : Nat} {kv wv lv : Value} {is : Bool} {N : Int} {D : DS} {w : World} (i : Int) (hd : D.dead = true) (h : PD0 B p kv wv lv is N D w) : Calls Tryz.prog 20 #[.pointer (some ⟨p, 0, none⟩), .int .i64 i] w fun e w' => e = .returned (.tuple #[.string ⟨#[]⟩, .int .i64 30]) ∧ w = w' := by
  have HR := Lib.hid (drefusal_at h)
  rw [hd] at HR
  clear h hd
  go_enter Tryz.func20, Tryz.ntmps20
  go_wp2_with (go_at_call 24; go_must (refine HR.out.mono ?_); rintro e w1 ⟨rfl, rfl⟩)
  go_ret2
  exact ⟨rfl, rfl⟩
set_option maxRecDepth 100000 in
theorem dRead_out {B p : Nat} {kv wv lv : Value} {is : Bool} {N : Int} {D : DS} {w : World} (i : Int) (hd : D.dead = false) (hi : D.inside i = false) (h : PD0 B p kv wv lv is N D w) : Calls Tryz.prog 20 #[.pointer (some ⟨p, 0, none⟩), .int .i64 i] w fun e w' => e = .returned (.tuple #[.string ⟨#[]⟩, .int .i64 3]) ∧ Below w.heap.size w w' := by
  have HR := Lib.hid (drefusal_at h)
  have HI := Lib.hid (dhas_at i h)
  rw [hd] at HR
  rw [hi] at HI
  clear h hd hi
  go_enter Tryz.func20, Tryz.ntmps20
  go_wp2_with (first | (go_at_call 24; go_must (refine HR.out.mono ?_); rintro e w1 ⟨rfl, rfl⟩) | (go_at_call 38; go_must (refine HI.out.mono ?_); rintro e w1 ⟨rfl, q, rfl⟩))
  go_ret2
  exact ⟨rfl, rfl, rfl, rfl, Nat.le_refl _, fun _ _ => rfl⟩
set_option maxRecDepth 100000 in
theorem dRead_in {B p : Nat} {kv wv lv : Value} {is : Bool} {N : Int} {D : DS} {w : World} (j : Nat) (hd : D.dead = false) (hj : j < D.kept.length) (h : PD0 B p kv wv lv is N D w) :
    Calls Tryz.prog 20 #[.pointer (some ⟨p, 0, none⟩), .int .i64 j] w fun e w' => e = .returned (.tuple #[.string (lastOf j (D.kept.getD j ⟨#[]⟩) D.wait), .int .i64 0]) ∧ Below w.heap.size w w' := by
  have HR := Lib.hid (drefusal_at h)
  have HI := Lib.hid (dhas_at (j : Int) h)
  have hi : D.inside j = true := decide_eq_true ⟨by omega, by omega⟩
  rw [hd] at HR
  rw [hi] at HI
  have hsz := DS.read_size h.ok j hj
  have HC := Lib.hid (show ∀ q, Calls Tryz.prog 39 #[.pointer (some ⟨p, 0, none⟩), .int .i64 j] (w.drewN q) _ from fun q => dcontents_at B p kv wv lv is N D j (w.drewN q) hj ⟨h.st, h.fz, h.ok, h.pos, h.kr, h.wr, h.lr, h.kp, h.wp, h.lp, h.kw, h.kl, h.wl, h.bp⟩)
  obtain ⟨x, hx⟩ : ∃ x, x = lastOf j (D.kept.getD j ⟨#[]⟩) D.wait := ⟨_, rfl⟩
  rw [← hx] at hsz HC ⊢
  have h1 := tb_arr x hsz
  have h2 := tb_ones x
  have HT := Lib.hid (fun W k (hW : St 74 k (tb x).toArray W) => st_text (P := Tryz.prog) (src := 54) (dst := 9) hW 128 hsz Tryz.underlying54 Tryz.underlying5 Tryz.underlying9)
  obtain ⟨cs, hcs⟩ : ∃ cs, cs = (tb x).toArray := ⟨_, rfl⟩
  rw [← hcs] at HC HT h1 h2
  have H1 := Lib.hid h1
  have H2 := Lib.hid h2
  clear h hd hi hj hx hsz hcs h1 h2
  go_enter Tryz.func20, Tryz.ntmps20
  go_wp2_with (first
    | (go_at_call 24; go_must (refine HR.out.mono ?_); rintro e w1 ⟨rfl, rfl⟩)
    | (go_at_call 38; go_must (refine HI.out.mono ?_); rintro e w1 ⟨rfl, q, rfl⟩)
    | (go_at_call 39; go_must (refine (HC.out q).mono ?_); rintro e w2 ⟨rfl, b2⟩; have B2 := Lib.hid b2; clear b2; have HZ := Lib.hid (St.new w2 74 Tryz.zeroCells74))
    | ((with_reducible show wpList _ _ _ ({ dst := _, op := .store 74 _ _, type := _, pos := _, after := _, guard := _ } :: _) _ _); refine wpList_store_st rfl 74 _ _ rfl w2.heap.size cs rfl rfl _ HZ.out (by rw [H1.out]; kernel_rfl) (by rw [H1.out]; exact szero_size) H2.out ?_; intro w6 hw6 k6; have K6 := Lib.hid k6; have W6 := Lib.hid hw6; clear hw6 k6; have cv := HT.out w6 w2.heap.size K6.out))
  go_ret2
  refine ⟨rfl, ?_⟩
  rw [W6.out]
  have b3 : Below w.heap.size w w2 := ⟨B2.out.os, B2.out.tape, B2.out.output, B2.out.size, B2.out.block⟩
  exact below_row (b3.alloc b3.size _) b3.size _
end Go.Proofs.YtikeckmbfgidhaaGreatDoor
