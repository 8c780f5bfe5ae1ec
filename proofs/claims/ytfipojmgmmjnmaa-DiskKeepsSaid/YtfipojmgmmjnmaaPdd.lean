/- The program's disk: what a sector has; Read. -/
import Derived.Test.YtfipojmgmmjnmaaPdc
namespace Go.Proofs.Ytfipojmgmmjnmaa
open Go.RowKit

theorem cell_alloc {w : World} {a : Addr} {v : Value} (h : w.cell? a = some v) (o : Obj) : (w.alloc o).cell? a = some v := by
  rw [World.cell?_alloc_lt _ _ _ (World.block_lt_of_cell? w _ h)]
  exact h
theorem tb_arr (s : ByteArray) (h : s.size = 128) : (tb s).toArray.size = 128 := by simp [tb_length, h]
theorem tb_ones (s : ByteArray) : (tb s).toArray.all (·.oneCell') = true := all_oneCell_toArray (tb_one s)
theorem szero_size : Try.zeroCells87.size = 128 := by kernel_rfl
set_option maxRecDepth 100000 in
theorem dcontents_kept (B p : Nat) (kv wv lv : Value) (is : Bool) (N : Int) (D : DS) (j : Nat) (x : ByteArray) (w : World) (hx : D.kept[j]? = some x) (h0 : lastNo j D.wait 0 0 = 0) (h : PD0 B p kv wv lv is N D w) :
    Calls Try.prog 50 #[.pointer (some ⟨p, 0, none⟩), .int .i64 j] w fun e w' => e = .returned (.agg (tb x).toArray) ∧ Below w.heap.size w w' := by
  have hj : j < D.kept.length := (List.getElem?_eq_some_iff.1 hx).1
  obtain ⟨g, ck, hkv, _, hm1, hkc⟩ := own_some h.kr (by omega)
  obtain ⟨g2, cl, hlv, _, hm2, hlc⟩ := own_some h.lr (by omega)
  have c2 : (w.alloc (.cells Try.zeroCells87 87 (0, 0))).cell? ⟨p, 2, none⟩ = some (.slice (some ⟨g2, 0, none⟩) D.kept.length cl) := by rw [← hlv]; exact (h.st.alloc _).cell rfl
  have cj : (w.alloc (.cells Try.zeroCells87 87 (0, 0))).cell? ⟨g2, j, none⟩ = some (.int .i64 0) := by refine cell_alloc ?_ _; rw [hlc j _ (lcells_at _ _ j hj), h0]; rfl
  have c0 : (w.alloc (.cells Try.zeroCells87 87 (0, 0))).cell? ⟨p, 0, none⟩ = some (.slice (some ⟨g, 0, none⟩) D.kept.length ck) := by rw [← hkv]; exact (h.st.alloc _).cell rfl
  have hr : w.rangeAt g (j * 128) (tb x) := by
    have hk := h.kr
    rw [hkv] at hk
    exact own_range hk (j * 128) (tb x) (flat_at tb 128 D.kept (fun y hy => by rw [tb_length, h.ok.full y hy]) j x hx)
  have hs : x.size = 128 := h.ok.full x (List.mem_of_getElem? hx)
  obtain ⟨n, hn⟩ : ∃ n, n = D.kept.length := ⟨_, rfl⟩
  rw [← hn] at c2 c0 hj
  have HR := Lib.hid (World.rangeAt_alloc hr (.cells Try.zeroCells87 87 (0, 0)))
  obtain ⟨cs, hcs⟩ : ∃ cs, cs = tb x := ⟨_, rfl⟩
  have h1 := tb_arr x hs
  have h2 := tb_ones x
  rw [← hcs] at HR h1 h2 ⊢
  have H1 := Lib.hid h1
  have H2 := Lib.hid h2
  have HZ := Lib.hid (St.new w 87 Try.zeroCells87)
  clear h hx h0 hkv hlv hkc hlc hr hs hn hcs h1 h2
  go_enter Try.func50, Try.ntmps50
  go_wp2_with (first
    | ((with_reducible show wpList _ _ _ ({ dst := _, op := .load 87 _, type := _, pos := _, after := _, guard := _ } :: _) _ _); refine wpList_load_mid rfl 87 _ rfl g (j * 128) rfl cs _ HR.out Try.underlying87 rfl (by rw [show cs.length = 128 from by simpa using H1.out]; kernel_rfl) ?_)
    | ((with_reducible show wpList _ _ _ ({ dst := _, op := .store 87 _ _, type := _, pos := _, after := _, guard := _ } :: _) _ _); refine wpList_store_st rfl 87 _ _ rfl w.heap.size cs.toArray rfl rfl _ HZ.out (by rw [H1.out]; kernel_rfl) (by rw [H1.out]; exact szero_size) H2.out ?_; intro w6 hw6 k6; have K6 := Lib.hid k6; have W6 := Lib.hid hw6; clear hw6 k6))
  refine ret_cell (r := 4) (k := w.heap.size) (T := 87) Try.results50 rfl K6.out Try.underlying87 rfl (by rw [H1.out]; kernel_rfl) rfl ?_
  refine ⟨rfl, ?_⟩
  rw [W6.out]
  exact below_row ((Below.refl w.heap.size w).alloc (Nat.le_refl _) _) (Nat.le_refl _) _
set_option maxRecDepth 100000 in
theorem dcontents_wait (B p : Nat) (kv wv lv : Value) (is : Bool) (N : Int) (D : DS) (j k : Nat) (x : ByteArray) (w : World) (hj : j < D.kept.length) (h0 : lastNo j D.wait 0 0 = k + 1) (hx : D.wait[k]? = some (j, x)) (h : PD0 B p kv wv lv is N D w) :
    Calls Try.prog 50 #[.pointer (some ⟨p, 0, none⟩), .int .i64 j] w fun e w' => e = .returned (.agg (tb x).toArray) ∧ Below w.heap.size w w' := by
  have hk : k < D.wait.length := (List.getElem?_eq_some_iff.1 hx).1
  obtain ⟨g, ck, hwv, _, hm1, hkc⟩ := own_some h.wr (by omega)
  obtain ⟨g2, cl, hlv, _, hm2, hlc⟩ := own_some h.lr (by omega)
  have c2 : (w.alloc (.cells Try.zeroCells87 87 (0, 0))).cell? ⟨p, 2, none⟩ = some (.slice (some ⟨g2, 0, none⟩) D.kept.length cl) := by rw [← hlv]; exact (h.st.alloc _).cell rfl
  have cj : (w.alloc (.cells Try.zeroCells87 87 (0, 0))).cell? ⟨g2, j, none⟩ = some (.int .i64 ((k : Int) + 1)) := by refine cell_alloc ?_ _; rw [hlc j _ (lcells_at _ _ j hj), h0]; rfl
  have c1 : (w.alloc (.cells Try.zeroCells87 87 (0, 0))).cell? ⟨p, 1, none⟩ = some (.slice (some ⟨g, 0, none⟩) D.wait.length ck) := by rw [← hwv]; exact (h.st.alloc _).cell rfl
  have hs : x.size = 128 := h.ok.fulw _ (List.mem_of_getElem? hx)
  have hr : w.rangeAt g (k * 129) (tb x) := by
    have hk := h.wr
    rw [hwv] at hk
    refine own_range hk (k * 129) (tb x) fun i v hv => flat_at pend 129 D.wait (fun y hy => pend_length y (h.ok.fulw y hy)) k (j, x) hx i v ?_
    show (tb x ++ _)[i]? = _
    rw [List.getElem?_append_left (List.getElem?_eq_some_iff.1 hv).1]
    exact hv
  obtain ⟨n, hn⟩ : ∃ n, n = D.kept.length := ⟨_, rfl⟩
  obtain ⟨m, hm⟩ : ∃ m, m = D.wait.length := ⟨_, rfl⟩
  rw [← hn] at c2 hj
  rw [← hm] at c1 hk hm1
  have HR := Lib.hid (World.rangeAt_alloc hr (.cells Try.zeroCells87 87 (0, 0)))
  obtain ⟨cs, hcs⟩ : ∃ cs, cs = tb x := ⟨_, rfl⟩
  have h1 := tb_arr x hs
  have h2 := tb_ones x
  rw [← hcs] at HR h1 h2 ⊢
  have H1 := Lib.hid h1
  have H2 := Lib.hid h2
  have HZ := Lib.hid (St.new w 87 Try.zeroCells87)
  have d1 : decide ((k : Int) + 1 > 0) = true := decide_eq_true (by omega)
  have d2 : (0 : Int) < (k : Int) + 1 := by omega
  have hk2 : (k : Int) + 1 ≤ 9223372036854775807 := by omega
  clear h hx h0 hwv hlv hkc hlc hr hs hn hm hcs h1 h2
  go_enter Try.func50, Try.ntmps50
  go_wp2_with (first
    | ((with_reducible show wpList _ _ _ ({ dst := _, op := .load 87 _, type := _, pos := _, after := _, guard := _ } :: _) _ _); refine wpList_load_mid rfl 87 _ rfl g (k * 129) rfl cs _ HR.out Try.underlying87 rfl (by rw [show cs.length = 128 from by simpa using H1.out]; kernel_rfl) ?_)
    | ((with_reducible show wpList _ _ _ ({ dst := _, op := .store 87 _ _, type := _, pos := _, after := _, guard := _ } :: _) _ _); refine wpList_store_st rfl 87 _ _ rfl w.heap.size cs.toArray rfl rfl _ HZ.out (by rw [H1.out]; kernel_rfl) (by rw [H1.out]; exact szero_size) H2.out ?_; intro w6 hw6 k6; have K6 := Lib.hid k6; have W6 := Lib.hid hw6; clear hw6 k6))
  refine ret_cell (r := 4) (k := w.heap.size) (T := 87) Try.results50 rfl K6.out Try.underlying87 rfl (by rw [H1.out]; kernel_rfl) rfl ?_
  refine ⟨rfl, ?_⟩
  rw [W6.out]
  exact below_row ((Below.refl w.heap.size w).alloc (Nat.le_refl _) _) (Nat.le_refl _) _
theorem dcontents_at (B p : Nat) (kv wv lv : Value) (is : Bool) (N : Int) (D : DS) (j : Nat) (w : World) (hj : j < D.kept.length) (h : PD0 B p kv wv lv is N D w) :
    Calls Try.prog 50 #[.pointer (some ⟨p, 0, none⟩), .int .i64 j] w fun e w' => e = .returned (.agg (tb (lastOf j (D.kept.getD j ⟨#[]⟩) D.wait)).toArray) ∧ Below w.heap.size w w' := by
  have hx : D.kept[j]? = some (D.kept.getD j ⟨#[]⟩) := by simp [hj]
  rcases lastNo_spec j (D.kept.getD j ⟨#[]⟩) D.wait with ⟨h1, h2, _⟩ | ⟨k, t, h1, h2, h3⟩
  · rw [h2]
    exact dcontents_kept B p kv wv lv is N D j _ w hx h1 h
  · rw [h3]
    exact dcontents_wait B p kv wv lv is N D j k t w hj h1 h2 h
end Go.Proofs.Ytfipojmgmmjnmaa
