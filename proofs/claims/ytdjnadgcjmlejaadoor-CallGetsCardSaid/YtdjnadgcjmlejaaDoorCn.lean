/- Calls: the program's read. -/
import Derived.Test.YtdjnadgcjmlejaaDoorCl
import Derived.Test.YtdjnadgcjmlejaaDoorCh
import Derived.Test.YtdjnadgcjmlejaaDoorCw
import Derived.RegionTactic
namespace Go.Proofs.YtdjnadgcjmlejaaDoor
open Go.RowKit

theorem St.newAt (w : World) (T : TypeId) (cs : Array Value) (n : Nat) (h : w.heap.size = n) : St T n cs (w.alloc (.cells cs T (0, 0))) := h ▸ St.new w T cs
theorem call_built (p : Int) : Tryd.prog.built 30 [(0, .int .i64 p)] = some (Cl.new p).arr := by kernel_rfl
theorem step_load_row {P : Program} {ops : Array Oper} {o : Oper} {a : Act} {w : World} {K : Act → World → Prop} {Q : Exit → Act → World → Prop} {E : Prop} (hgd : o.guard = none) (ty : TypeId) (x : Operand) (ho : o.op = .load ty x)
    (g : Nat) (hx : a.eval x = .pointer (some ⟨g, 0, none⟩)) (t : TypeId) (cs : Array Value) (fr : Nat × Nat) (d : TypeDesc) (hg : w.heap[g]? = some (.cells cs t fr))
    (hu : P.underlying ty = some d) (hd : (match d with | .struct _ | .array _ _ => true | _ => false) = true) (hi : (P.info? ty).map (·.size) = some cs.size)
    (h : K (a.put o.dst (.agg cs)) w) : if Region.wanted o (yielded ops a.tmps) = true then Oper.wp P o a w K Q else E := by
  rw [if_pos (by simp [Region.wanted, hgd])]
  exact wp_load_row ty x ho g hx t cs fr d hg hu hd hi h
theorem step_store_row {P : Program} {ops : Array Oper} {o : Oper} {a : Act} {w : World} {K : Act → World → Prop} {Q : Exit → Act → World → Prop} {E : Prop} (hgd : o.guard = none) (ty : TypeId) (x y : Operand) (ho : o.op = .store ty x y)
    (g : Nat) (cells : Array Value) (hx : a.eval x = .pointer (some ⟨g, 0, none⟩)) (hy : a.eval y = .agg cells)
    (t : TypeId) (old : Array Value) (hg : w.heap[g]? = some (.cells old t (0, 0))) (hi : (P.info? ty).map (·.size) = some cells.size)
    (hold : old.size = cells.size) (h1 : cells.all (·.oneCell') = true)
    (h : K (a.put o.dst undef) (w.setRow g cells)) : if Region.wanted o (yielded ops a.tmps) = true then Oper.wp P o a w K Q else E := by
  rw [if_pos (by simp [Region.wanted, hgd])]
  exact wp_store_row ty x y ho g cells hx hy t old hg hi hold h1 h
theorem below_row {B k : Nat} {a w : World} (h : Below B a w) (hk : B ≤ k) (cs : Array Value) : Below B a (w.setRow k cs) :=
  h.trans ⟨rfl, rfl, rfl, by simp, fun j hj => Go.setRow_other w k j cs (by omega)⟩

set_option maxRecDepth 100000 in
set_option maxHeartbeats 4000000 in
theorem cread_t (p : Int) (S : ByteArray) (w : World) (hS : S.size ≤ 1073741824) (hse : (getX p S).serr = 0) : Calls Tryd.prog 23 #[.int .i64 p, .string S] w fun e w' => e = .returned (.tuple #[.agg (getX p S).c.arr, .bool (good (getX p S))]) ∧ Below w.heap.size w w' := by
  have A5 := Lib.hid ((((St.newAt w 30 #[.int .i64 0, .string ⟨#[]⟩, .string ⟨#[]⟩, .string ⟨#[]⟩, .string ⟨#[]⟩, .int .i64 0, .int .i64 0, .int .i64 0, .string ⟨#[]⟩, .bool false, .int .i64 0, .bool false, .int .i64 0, .bool false, .int .i64 0, .bool false, .int .i64 0, .bool false, .int .i64 0, .bool false, .int .i64 0, .int .i64 0, .int .i64 0, .string ⟨#[]⟩] _ rfl).alloc (.cells #[.string S, .int .i64 0] 96 (0, 0))).alloc (.cells #[.int .i64 0, .string ⟨#[]⟩, .string ⟨#[]⟩, .string ⟨#[]⟩, .string ⟨#[]⟩, .int .i64 0, .int .i64 0, .int .i64 0, .string ⟨#[]⟩, .bool false, .int .i64 0, .bool false, .int .i64 0, .bool false, .int .i64 0, .bool false, .int .i64 0, .bool false, .int .i64 0, .bool false, .int .i64 0, .int .i64 0, .int .i64 0, .string ⟨#[]⟩] 30 (0, 0))).alloc (.cells #[.pointer none] 83 (0, 0)) |>.alloc (.cells #[.int .i64 0] 32 (0, 0)))
  have M5 := Lib.hid (((St.newAt (w.alloc (.cells #[.int .i64 0, .string ⟨#[]⟩, .string ⟨#[]⟩, .string ⟨#[]⟩, .string ⟨#[]⟩, .int .i64 0, .int .i64 0, .int .i64 0, .string ⟨#[]⟩, .bool false, .int .i64 0, .bool false, .int .i64 0, .bool false, .int .i64 0, .bool false, .int .i64 0, .bool false, .int .i64 0, .bool false, .int .i64 0, .int .i64 0, .int .i64 0, .string ⟨#[]⟩] 30 (0, 0))) 96 #[.string S, .int .i64 0] (w.heap.size + 1) (by simp)).alloc (.cells #[.int .i64 0, .string ⟨#[]⟩, .string ⟨#[]⟩, .string ⟨#[]⟩, .string ⟨#[]⟩, .int .i64 0, .int .i64 0, .int .i64 0, .string ⟨#[]⟩, .bool false, .int .i64 0, .bool false, .int .i64 0, .bool false, .int .i64 0, .bool false, .int .i64 0, .bool false, .int .i64 0, .bool false, .int .i64 0, .int .i64 0, .int .i64 0, .string ⟨#[]⟩] 30 (0, 0))).alloc (.cells #[.pointer none] 83 (0, 0)) |>.alloc (.cells #[.int .i64 0] 32 (0, 0)))
  have K5 := Lib.hid ((St.newAt ((w.alloc (.cells #[.int .i64 0, .string ⟨#[]⟩, .string ⟨#[]⟩, .string ⟨#[]⟩, .string ⟨#[]⟩, .int .i64 0, .int .i64 0, .int .i64 0, .string ⟨#[]⟩, .bool false, .int .i64 0, .bool false, .int .i64 0, .bool false, .int .i64 0, .bool false, .int .i64 0, .bool false, .int .i64 0, .bool false, .int .i64 0, .int .i64 0, .int .i64 0, .string ⟨#[]⟩] 30 (0, 0))).alloc (.cells #[.string S, .int .i64 0] 96 (0, 0))) 30 #[.int .i64 0, .string ⟨#[]⟩, .string ⟨#[]⟩, .string ⟨#[]⟩, .string ⟨#[]⟩, .int .i64 0, .int .i64 0, .int .i64 0, .string ⟨#[]⟩, .bool false, .int .i64 0, .bool false, .int .i64 0, .bool false, .int .i64 0, .bool false, .int .i64 0, .bool false, .int .i64 0, .bool false, .int .i64 0, .int .i64 0, .int .i64 0, .string ⟨#[]⟩] (w.heap.size + 1 + 1) (by simp)).alloc (.cells #[.pointer none] 83 (0, 0)) |>.alloc (.cells #[.int .i64 0] 32 (0, 0)))
  have B5 := Lib.hid ((St.newAt (((w.alloc (.cells #[.int .i64 0, .string ⟨#[]⟩, .string ⟨#[]⟩, .string ⟨#[]⟩, .string ⟨#[]⟩, .int .i64 0, .int .i64 0, .int .i64 0, .string ⟨#[]⟩, .bool false, .int .i64 0, .bool false, .int .i64 0, .bool false, .int .i64 0, .bool false, .int .i64 0, .bool false, .int .i64 0, .bool false, .int .i64 0, .int .i64 0, .int .i64 0, .string ⟨#[]⟩] 30 (0, 0))).alloc (.cells #[.string S, .int .i64 0] 96 (0, 0))).alloc (.cells #[.int .i64 0, .string ⟨#[]⟩, .string ⟨#[]⟩, .string ⟨#[]⟩, .string ⟨#[]⟩, .int .i64 0, .int .i64 0, .int .i64 0, .string ⟨#[]⟩, .bool false, .int .i64 0, .bool false, .int .i64 0, .bool false, .int .i64 0, .bool false, .int .i64 0, .bool false, .int .i64 0, .bool false, .int .i64 0, .int .i64 0, .int .i64 0, .string ⟨#[]⟩] 30 (0, 0))) 83 #[.pointer none] (w.heap.size + 1 + 1 + 1) (by simp)).alloc (.cells #[.int .i64 0] 32 (0, 0)))
  have E5 := Lib.hid (St.newAt ((((w.alloc (.cells #[.int .i64 0, .string ⟨#[]⟩, .string ⟨#[]⟩, .string ⟨#[]⟩, .string ⟨#[]⟩, .int .i64 0, .int .i64 0, .int .i64 0, .string ⟨#[]⟩, .bool false, .int .i64 0, .bool false, .int .i64 0, .bool false, .int .i64 0, .bool false, .int .i64 0, .bool false, .int .i64 0, .bool false, .int .i64 0, .int .i64 0, .int .i64 0, .string ⟨#[]⟩] 30 (0, 0))).alloc (.cells #[.string S, .int .i64 0] 96 (0, 0))).alloc (.cells #[.int .i64 0, .string ⟨#[]⟩, .string ⟨#[]⟩, .string ⟨#[]⟩, .string ⟨#[]⟩, .int .i64 0, .int .i64 0, .int .i64 0, .string ⟨#[]⟩, .bool false, .int .i64 0, .bool false, .int .i64 0, .bool false, .int .i64 0, .bool false, .int .i64 0, .bool false, .int .i64 0, .bool false, .int .i64 0, .int .i64 0, .int .i64 0, .string ⟨#[]⟩] 30 (0, 0))).alloc (.cells #[.pointer none] 83 (0, 0))) 32 #[.int .i64 0] (w.heap.size + 1 + 1 + 1 + 1) (by simp))
  have L5 := Lib.hid ((((((Below.refl w.heap.size w).alloc (Nat.le_refl _) (.cells #[.int .i64 0, .string ⟨#[]⟩, .string ⟨#[]⟩, .string ⟨#[]⟩, .string ⟨#[]⟩, .int .i64 0, .int .i64 0, .int .i64 0, .string ⟨#[]⟩, .bool false, .int .i64 0, .bool false, .int .i64 0, .bool false, .int .i64 0, .bool false, .int .i64 0, .bool false, .int .i64 0, .bool false, .int .i64 0, .int .i64 0, .int .i64 0, .string ⟨#[]⟩] 30 (0, 0))).alloc (by simp) (.cells #[.string S, .int .i64 0] 96 (0, 0))).alloc (by simp; omega) (.cells #[.int .i64 0, .string ⟨#[]⟩, .string ⟨#[]⟩, .string ⟨#[]⟩, .string ⟨#[]⟩, .int .i64 0, .int .i64 0, .int .i64 0, .string ⟨#[]⟩, .bool false, .int .i64 0, .bool false, .int .i64 0, .bool false, .int .i64 0, .bool false, .int .i64 0, .bool false, .int .i64 0, .bool false, .int .i64 0, .int .i64 0, .int .i64 0, .string ⟨#[]⟩] 30 (0, 0))).alloc (by simp; omega) (.cells #[.pointer none] 83 (0, 0))).alloc (by simp; omega) (.cells #[.int .i64 0] 32 (0, 0)))
  have hgd : good (getX p S) = (decide ((getX p S).serr = 0) && decide (rdDone (getX p S).rest (getX p S).err = 0)) := rfl
  have HV := fun W hB h1 h2 h3 h4 => visit_r (w.heap.size + 1) (w.heap.size + 1 + 1) (w.heap.size + 1 + 1 + 1) (w.heap.size + 1) (w.heap.size + 1 + 1 + 1 + 1) p S W hS hB ⟨by omega, by omega, by omega, by omega, by omega, by omega⟩ h1 h2 h3 h4
  have HN := call_built p
  obtain ⟨row, hrow⟩ : ∃ r, r = (Cl.new p).arr := ⟨_, rfl⟩
  have h1 : row.size = 24 := by rw [hrow]; rfl
  have h2 : row.all (·.oneCell') = true := by rw [hrow]; exact Cl.arr_one _
  rw [← hrow] at HV HN
  obtain ⟨X, hX⟩ : ∃ X, X = getX p S := ⟨_, rfl⟩
  rw [← hX] at HV hgd ⊢
  rw [hgd]
  rw [← hX] at hse
  obtain ⟨s9, e9, se, c9⟩ := X
  dsimp only at HV ⊢
  obtain ⟨cs, hcs⟩ : ∃ r, r = c9.arr := ⟨_, rfl⟩
  have h3 : cs.size = 24 := by rw [hcs]; rfl
  have h4 : cs.all (·.oneCell') = true := by rw [hcs]; exact Cl.arr_one _
  rw [← hcs] at HV ⊢
  replace HV := Lib.hid HV
  replace HN := Lib.hid HN
  have H1 := Lib.hid h1
  have H2 := Lib.hid h2
  have H3 := Lib.hid h3
  have H4 := Lib.hid h4
  have hse : se = 0 := hse
  subst hse
  clear hrow h1 h2 h3 h4 hX hcs hgd
  go_enter Tryd.func23, Tryd.ntmps23
  go_wp2_with (first
    | ((with_reducible show wpList _ _ _ ({ dst := _, op := .build _ _, type := _, pos := _, after := _, guard := _ } :: _) _ _); refine wpList_build_as rfl 30 _ rfl row HN.out ?_)
    | (go_at_call 50; go_must (refine (rRead_eq S _).mono ?_); rintro r w1 ⟨rfl, rfl⟩)
    | ((with_reducible show wpList _ _ _ ({ dst := _, op := .store _ (.tmp 6) _, type := _, pos := _, after := _, guard := _ } :: _) _ _); refine wpList_store_st rfl 30 _ _ rfl (w.heap.size + 1 + 1) row rfl rfl _ K5.out (by rw [H1.out]; kernel_rfl) (by rw [H1.out]; rfl) H2.out ?_; intro w6 hw6 k6; have K6 := Lib.hid k6; have A6 := Lib.hid (A5.out.setRow_other (g := (w.heap.size + 1 + 1)) (by omega) row); have M6 := Lib.hid (M5.out.setRow_other (g := (w.heap.size + 1 + 1)) (by omega) row); have B6 := Lib.hid (B5.out.setRow_other (g := (w.heap.size + 1 + 1)) (by omega) row); have E6 := Lib.hid (E5.out.setRow_other (g := (w.heap.size + 1 + 1)) (by omega) row); have L6 := Lib.hid (below_row L5.out (k := (w.heap.size + 1 + 1)) (by omega) row); have Z6 := Lib.hid (show w6.heap.size = w.heap.size + 1 + 1 + 1 + 1 + 1 from by rw [hw6]; simp); rw [← hw6] at A6 M6 B6 E6 L6; clear hw6 k6; have cb := B6.out.cell (j := 0) rfl; have fb := B6.out.free 0; have ce := E6.out.cell (j := 0) rfl; have fe := E6.out.free 0))
  go_must (refine (HV.out _ ⟨by omega, by omega, by omega, by have := Z6.out; simp [World.setCell]; omega⟩ ((K6.out.other _ _ _ (by omega)).other _ _ _ (by omega)) ((B6.out.set 0 _).other _ _ _ (by omega)) ((E6.out.other _ _ _ (by omega)).set 0 _) ((St.other M6.out _ _ _ (by omega)).other _ _ _ (by omega))).mono ?_)
  rintro e w9 ⟨rfl, k9, b9, f9, r9, l9⟩
  have A9 : St 30 w.heap.size #[.int .i64 0, .string ⟨#[]⟩, .string ⟨#[]⟩, .string ⟨#[]⟩, .string ⟨#[]⟩, .int .i64 0, .int .i64 0, .int .i64 0, .string ⟨#[]⟩, .bool false, .int .i64 0, .bool false, .int .i64 0, .bool false, .int .i64 0, .bool false, .int .i64 0, .bool false, .int .i64 0, .bool false, .int .i64 0, .int .i64 0, .int .i64 0, .string ⟨#[]⟩] w9 := (l9.block w.heap.size (by omega)).trans ((A6.out.other _ _ _ (by omega)).other _ _ _ (by omega))
  have L9 : Below w.heap.size w w9 := ((L6.out.setCell (by show w.heap.size ≤ (w.heap.size + 1 + 1 + 1); omega) _).setCell (by show w.heap.size ≤ (w.heap.size + 1 + 1 + 1 + 1); omega) _).trans (l9.mono (by omega))
  have ce9 : w9.cell? ⟨(w.heap.size + 1 + 1 + 1 + 1), 0, none⟩ = some (.int .i64 0) := f9.cell rfl
  have cb9 : w9.cell? ⟨(w.heap.size + 1 + 1 + 1), 0, none⟩ = some (.pointer (some ⟨(w.heap.size + 1), 0, none⟩)) := b9.cell rfl
  have kd : St 30 (w.heap.size + 1 + 1) cs w9.drew := k9
  have ad : St 30 w.heap.size #[.int .i64 0, .string ⟨#[]⟩, .string ⟨#[]⟩, .string ⟨#[]⟩, .string ⟨#[]⟩, .int .i64 0, .int .i64 0, .int .i64 0, .string ⟨#[]⟩, .bool false, .int .i64 0, .bool false, .int .i64 0, .bool false, .int .i64 0, .bool false, .int .i64 0, .bool false, .int .i64 0, .bool false, .int .i64 0, .int .i64 0, .int .i64 0, .string ⟨#[]⟩] w9.drew := A9
  have RD := Lib.hid (show Rd (w.heap.size + 1) s9 e9 w9.drew from r9)
  clear k9 b9 f9 l9 r9 A9 cb fb ce fe
  go_wp2_with fail
  refine wp_region_any (by kernel_rfl) ?_
  change wpAny _ _ _ _ _ _ _ (World.drew _)
  refine wpAny_ready (rs := [0, 1]) (by kernel_rfl) (by simp) ?_
  refine AllReady.cons rfl (fun K hK => ?_) ?_
  · refine step_load_row rfl 30 (.tmp 6) rfl (w.heap.size + 1 + 1) rfl 30 cs (0, 0) _ kd Tryd.underlying30 rfl (by rw [H3.out]; kernel_rfl) ?_
    go_simp
    refine hK _ _ ?_
    clear hK K
    refine wpAny_ready (rs := [1]) (by kernel_rfl) (by simp) ?_
    refine AllReady.cons rfl (fun K hK => ?_) AllReady.nil
    go_simp
    refine hK _ _ ?_
    clear hK K
    refine wpAny_ready (rs := [2]) (by kernel_rfl) (by simp) ?_
    refine AllReady.cons rfl (fun K hK => ?_) AllReady.nil
    go_simp
    refine hK _ _ ?_
    clear hK K
    refine wpAny_ready (rs := [3]) (by kernel_rfl) (by simp) ?_
    refine AllReady.cons rfl (fun K hK => ?_) AllReady.nil
    go_simp
    refine hK _ _ ?_
    clear hK K
    refine wpAny_ready (rs := [4]) (by kernel_rfl) (by simp) ?_
    refine AllReady.cons rfl (fun K hK => ?_) AllReady.nil
    go_simp
    refine hK _ _ ?_
    clear hK K
    refine wpAny_ready (rs := [5]) (by kernel_rfl) (by simp) ?_
    refine AllReady.cons rfl (fun K hK => ?_) AllReady.nil
    go_simp
    refine (rDone_at (w.heap.size + 1) s9 e9 _ RD.out).mono ?_
    rintro r w10 ⟨rfl, rfl⟩
    go_simp
    refine hK _ _ ?_
    clear hK K
    refine wpAny_take (i := 6) (v := .bool (rdDone s9 e9 == 0)) rfl (by kernel_rfl) (by kernel_rfl) (by kernel_rfl) (fun _ _ _ h => h) (Or.inl ⟨by rfl, ?_⟩) ?_
    · intro w; go_simp
    refine wpAny_take (i := 7) (v := .bool (rdDone s9 e9 == 0)) rfl (by kernel_rfl) (by kernel_rfl) (by kernel_rfl) (fun _ _ _ h => h) (Or.inl ⟨by rfl, ?_⟩) ?_
    · intro w; go_simp
    refine wpAny_ready (rs := [8]) (by kernel_rfl) (by simp) ?_
    refine AllReady.cons rfl (fun K hK => ?_) AllReady.nil
    refine step_store_row rfl 30 (.tmp 4) (.tmp 20) rfl w.heap.size cs rfl rfl 30 #[.int .i64 0, .string ⟨#[]⟩, .string ⟨#[]⟩, .string ⟨#[]⟩, .string ⟨#[]⟩, .int .i64 0, .int .i64 0, .int .i64 0, .string ⟨#[]⟩, .bool false, .int .i64 0, .bool false, .int .i64 0, .bool false, .int .i64 0, .bool false, .int .i64 0, .bool false, .int .i64 0, .bool false, .int .i64 0, .int .i64 0, .int .i64 0, .string ⟨#[]⟩] ad (by rw [H3.out]; kernel_rfl) (by rw [H3.out]; rfl) H4.out ?_
    go_simp
    refine hK _ _ ?_
    clear hK K
    refine wpAny_ready (rs := [9]) (by kernel_rfl) (by simp) ?_
    refine AllReady.cons rfl (fun K hK => ?_) AllReady.nil
    go_simp
    refine hK _ _ ?_
    clear hK K
    refine wpAny_done (by kernel_rfl) ?_ _
    have SF := (St.row (cs' := cs) ad)
    have LF := below_row (k := w.heap.size) L9.drew (Nat.le_refl _) cs
    generalize (World.setRow (World.drew w9) w.heap.size cs) = Wf at SF LF ⊢
    have SG := Lib.hid SF
    have LG := Lib.hid LF
    clear SF LF
    go_wp2_with fail
    refine ret_cell2 (r := 4) (t := 5) (k := w.heap.size) (T := 30) Tryd.results23 rfl rfl SG.out Tryd.underlying30 rfl (by rw [H3.out]; kernel_rfl) rfl ?_
    exact ⟨rfl, LG.out⟩
  refine AllReady.cons rfl (fun K hK => ?_) AllReady.nil
  go_simp
  refine hK _ _ ?_
  clear hK K
  refine wpAny_take (i := 2) (v := .bool true) rfl (by kernel_rfl) (by kernel_rfl) (by kernel_rfl) (fun _ _ _ h => h) (Or.inl ⟨by rfl, ?_⟩) ?_
  · intro w; go_simp
  refine wpAny_take (i := 3) (v := .bool true) rfl (by kernel_rfl) (by kernel_rfl) (by kernel_rfl) (fun _ _ _ h => h) (Or.inl ⟨by rfl, ?_⟩) ?_
  · intro w; go_simp
  refine wpAny_ready (rs := [0, 4]) (by kernel_rfl) (by simp) ?_
  refine AllReady.cons rfl (fun K hK => ?_) ?_
  · refine step_load_row rfl 30 (.tmp 6) rfl (w.heap.size + 1 + 1) rfl 30 cs (0, 0) _ kd Tryd.underlying30 rfl (by rw [H3.out]; kernel_rfl) ?_
    go_simp
    refine hK _ _ ?_
    clear hK K
    refine wpAny_ready (rs := [4]) (by kernel_rfl) (by simp) ?_
    refine AllReady.cons rfl (fun K hK => ?_) AllReady.nil
    go_simp
    refine hK _ _ ?_
    clear hK K
    refine wpAny_ready (rs := [5]) (by kernel_rfl) (by simp) ?_
    refine AllReady.cons rfl (fun K hK => ?_) AllReady.nil
    go_simp
    refine (rDone_at (w.heap.size + 1) s9 e9 _ RD.out).mono ?_
    rintro r w10 ⟨rfl, rfl⟩
    go_simp
    refine hK _ _ ?_
    clear hK K
    refine wpAny_take (i := 6) (v := .bool (rdDone s9 e9 == 0)) rfl (by kernel_rfl) (by kernel_rfl) (by kernel_rfl) (fun _ _ _ h => h) (Or.inl ⟨by rfl, ?_⟩) ?_
    · intro w; go_simp
    refine wpAny_take (i := 7) (v := .bool (rdDone s9 e9 == 0)) rfl (by kernel_rfl) (by kernel_rfl) (by kernel_rfl) (fun _ _ _ h => h) (Or.inl ⟨by rfl, ?_⟩) ?_
    · intro w; go_simp
    refine wpAny_ready (rs := [8]) (by kernel_rfl) (by simp) ?_
    refine AllReady.cons rfl (fun K hK => ?_) AllReady.nil
    refine step_store_row rfl 30 (.tmp 4) (.tmp 20) rfl w.heap.size cs rfl rfl 30 #[.int .i64 0, .string ⟨#[]⟩, .string ⟨#[]⟩, .string ⟨#[]⟩, .string ⟨#[]⟩, .int .i64 0, .int .i64 0, .int .i64 0, .string ⟨#[]⟩, .bool false, .int .i64 0, .bool false, .int .i64 0, .bool false, .int .i64 0, .bool false, .int .i64 0, .bool false, .int .i64 0, .bool false, .int .i64 0, .int .i64 0, .int .i64 0, .string ⟨#[]⟩] ad (by rw [H3.out]; kernel_rfl) (by rw [H3.out]; rfl) H4.out ?_
    go_simp
    refine hK _ _ ?_
    clear hK K
    refine wpAny_ready (rs := [9]) (by kernel_rfl) (by simp) ?_
    refine AllReady.cons rfl (fun K hK => ?_) AllReady.nil
    go_simp
    refine hK _ _ ?_
    clear hK K
    refine wpAny_done (by kernel_rfl) ?_ _
    have SF := (St.row (cs' := cs) ad)
    have LF := below_row (k := w.heap.size) L9.drew (Nat.le_refl _) cs
    generalize (World.setRow (World.drew w9) w.heap.size cs) = Wf at SF LF ⊢
    have SG := Lib.hid SF
    have LG := Lib.hid LF
    clear SF LF
    go_wp2_with fail
    refine ret_cell2 (r := 4) (t := 5) (k := w.heap.size) (T := 30) Tryd.results23 rfl rfl SG.out Tryd.underlying30 rfl (by rw [H3.out]; kernel_rfl) rfl ?_
    exact ⟨rfl, LG.out⟩
  refine AllReady.cons rfl (fun K hK => ?_) AllReady.nil
  go_simp
  refine hK _ _ ?_
  clear hK K
  refine wpAny_ready (rs := [0, 5]) (by kernel_rfl) (by simp) ?_
  refine AllReady.cons rfl (fun K hK => ?_) ?_
  · refine step_load_row rfl 30 (.tmp 6) rfl (w.heap.size + 1 + 1) rfl 30 cs (0, 0) _ kd Tryd.underlying30 rfl (by rw [H3.out]; kernel_rfl) ?_
    go_simp
    refine hK _ _ ?_
    clear hK K
    refine wpAny_ready (rs := [5]) (by kernel_rfl) (by simp) ?_
    refine AllReady.cons rfl (fun K hK => ?_) AllReady.nil
    go_simp
    refine (rDone_at (w.heap.size + 1) s9 e9 _ RD.out).mono ?_
    rintro r w10 ⟨rfl, rfl⟩
    go_simp
    refine hK _ _ ?_
    clear hK K
    refine wpAny_take (i := 6) (v := .bool (rdDone s9 e9 == 0)) rfl (by kernel_rfl) (by kernel_rfl) (by kernel_rfl) (fun _ _ _ h => h) (Or.inl ⟨by rfl, ?_⟩) ?_
    · intro w; go_simp
    refine wpAny_take (i := 7) (v := .bool (rdDone s9 e9 == 0)) rfl (by kernel_rfl) (by kernel_rfl) (by kernel_rfl) (fun _ _ _ h => h) (Or.inl ⟨by rfl, ?_⟩) ?_
    · intro w; go_simp
    refine wpAny_ready (rs := [8]) (by kernel_rfl) (by simp) ?_
    refine AllReady.cons rfl (fun K hK => ?_) AllReady.nil
    refine step_store_row rfl 30 (.tmp 4) (.tmp 20) rfl w.heap.size cs rfl rfl 30 #[.int .i64 0, .string ⟨#[]⟩, .string ⟨#[]⟩, .string ⟨#[]⟩, .string ⟨#[]⟩, .int .i64 0, .int .i64 0, .int .i64 0, .string ⟨#[]⟩, .bool false, .int .i64 0, .bool false, .int .i64 0, .bool false, .int .i64 0, .bool false, .int .i64 0, .bool false, .int .i64 0, .bool false, .int .i64 0, .int .i64 0, .int .i64 0, .string ⟨#[]⟩] ad (by rw [H3.out]; kernel_rfl) (by rw [H3.out]; rfl) H4.out ?_
    go_simp
    refine hK _ _ ?_
    clear hK K
    refine wpAny_ready (rs := [9]) (by kernel_rfl) (by simp) ?_
    refine AllReady.cons rfl (fun K hK => ?_) AllReady.nil
    go_simp
    refine hK _ _ ?_
    clear hK K
    refine wpAny_done (by kernel_rfl) ?_ _
    have SF := (St.row (cs' := cs) ad)
    have LF := below_row (k := w.heap.size) L9.drew (Nat.le_refl _) cs
    generalize (World.setRow (World.drew w9) w.heap.size cs) = Wf at SF LF ⊢
    have SG := Lib.hid SF
    have LG := Lib.hid LF
    clear SF LF
    go_wp2_with fail
    refine ret_cell2 (r := 4) (t := 5) (k := w.heap.size) (T := 30) Tryd.results23 rfl rfl SG.out Tryd.underlying30 rfl (by rw [H3.out]; kernel_rfl) rfl ?_
    exact ⟨rfl, LG.out⟩
  refine AllReady.cons rfl (fun K hK => ?_) AllReady.nil
  go_simp
  refine (rDone_at (w.heap.size + 1) s9 e9 _ RD.out).mono ?_
  rintro r w10 ⟨rfl, rfl⟩
  go_simp
  refine hK _ _ ?_
  clear hK K
  refine wpAny_take (i := 6) (v := .bool (rdDone s9 e9 == 0)) rfl (by kernel_rfl) (by kernel_rfl) (by kernel_rfl) (fun _ _ _ h => h) (Or.inl ⟨by rfl, ?_⟩) ?_
  · intro w; go_simp
  refine wpAny_take (i := 7) (v := .bool (rdDone s9 e9 == 0)) rfl (by kernel_rfl) (by kernel_rfl) (by kernel_rfl) (fun _ _ _ h => h) (Or.inl ⟨by rfl, ?_⟩) ?_
  · intro w; go_simp
  refine wpAny_ready (rs := [0]) (by kernel_rfl) (by simp) ?_
  refine AllReady.cons rfl (fun K hK => ?_) AllReady.nil
  refine step_load_row rfl 30 (.tmp 6) rfl (w.heap.size + 1 + 1) rfl 30 cs (0, 0) _ kd Tryd.underlying30 rfl (by rw [H3.out]; kernel_rfl) ?_
  go_simp
  refine hK _ _ ?_
  clear hK K
  refine wpAny_ready (rs := [8]) (by kernel_rfl) (by simp) ?_
  refine AllReady.cons rfl (fun K hK => ?_) AllReady.nil
  refine step_store_row rfl 30 (.tmp 4) (.tmp 20) rfl w.heap.size cs rfl rfl 30 #[.int .i64 0, .string ⟨#[]⟩, .string ⟨#[]⟩, .string ⟨#[]⟩, .string ⟨#[]⟩, .int .i64 0, .int .i64 0, .int .i64 0, .string ⟨#[]⟩, .bool false, .int .i64 0, .bool false, .int .i64 0, .bool false, .int .i64 0, .bool false, .int .i64 0, .bool false, .int .i64 0, .bool false, .int .i64 0, .int .i64 0, .int .i64 0, .string ⟨#[]⟩] ad (by rw [H3.out]; kernel_rfl) (by rw [H3.out]; rfl) H4.out ?_
  go_simp
  refine hK _ _ ?_
  clear hK K
  refine wpAny_ready (rs := [9]) (by kernel_rfl) (by simp) ?_
  refine AllReady.cons rfl (fun K hK => ?_) AllReady.nil
  go_simp
  refine hK _ _ ?_
  clear hK K
  refine wpAny_done (by kernel_rfl) ?_ _
  have SF := (St.row (cs' := cs) ad)
  have LF := below_row (k := w.heap.size) L9.drew (Nat.le_refl _) cs
  generalize (World.setRow (World.drew w9) w.heap.size cs) = Wf at SF LF ⊢
  have SG := Lib.hid SF
  have LG := Lib.hid LF
  clear SF LF
  go_wp2_with fail
  refine ret_cell2 (r := 4) (t := 5) (k := w.heap.size) (T := 30) Tryd.results23 rfl rfl SG.out Tryd.underlying30 rfl (by rw [H3.out]; kernel_rfl) rfl ?_
  exact ⟨rfl, LG.out⟩
set_option maxRecDepth 100000 in
set_option maxHeartbeats 4000000 in
theorem cread_f (p : Int) (S : ByteArray) (w : World) (hS : S.size ≤ 1073741824) (hse : (getX p S).serr ≠ 0) : Calls Tryd.prog 23 #[.int .i64 p, .string S] w fun e w' => e = .returned (.tuple #[.agg (getX p S).c.arr, .bool (good (getX p S))]) ∧ Below w.heap.size w w' := by
  have A5 := Lib.hid ((((St.newAt w 30 #[.int .i64 0, .string ⟨#[]⟩, .string ⟨#[]⟩, .string ⟨#[]⟩, .string ⟨#[]⟩, .int .i64 0, .int .i64 0, .int .i64 0, .string ⟨#[]⟩, .bool false, .int .i64 0, .bool false, .int .i64 0, .bool false, .int .i64 0, .bool false, .int .i64 0, .bool false, .int .i64 0, .bool false, .int .i64 0, .int .i64 0, .int .i64 0, .string ⟨#[]⟩] _ rfl).alloc (.cells #[.string S, .int .i64 0] 96 (0, 0))).alloc (.cells #[.int .i64 0, .string ⟨#[]⟩, .string ⟨#[]⟩, .string ⟨#[]⟩, .string ⟨#[]⟩, .int .i64 0, .int .i64 0, .int .i64 0, .string ⟨#[]⟩, .bool false, .int .i64 0, .bool false, .int .i64 0, .bool false, .int .i64 0, .bool false, .int .i64 0, .bool false, .int .i64 0, .bool false, .int .i64 0, .int .i64 0, .int .i64 0, .string ⟨#[]⟩] 30 (0, 0))).alloc (.cells #[.pointer none] 83 (0, 0)) |>.alloc (.cells #[.int .i64 0] 32 (0, 0)))
  have M5 := Lib.hid (((St.newAt (w.alloc (.cells #[.int .i64 0, .string ⟨#[]⟩, .string ⟨#[]⟩, .string ⟨#[]⟩, .string ⟨#[]⟩, .int .i64 0, .int .i64 0, .int .i64 0, .string ⟨#[]⟩, .bool false, .int .i64 0, .bool false, .int .i64 0, .bool false, .int .i64 0, .bool false, .int .i64 0, .bool false, .int .i64 0, .bool false, .int .i64 0, .int .i64 0, .int .i64 0, .string ⟨#[]⟩] 30 (0, 0))) 96 #[.string S, .int .i64 0] (w.heap.size + 1) (by simp)).alloc (.cells #[.int .i64 0, .string ⟨#[]⟩, .string ⟨#[]⟩, .string ⟨#[]⟩, .string ⟨#[]⟩, .int .i64 0, .int .i64 0, .int .i64 0, .string ⟨#[]⟩, .bool false, .int .i64 0, .bool false, .int .i64 0, .bool false, .int .i64 0, .bool false, .int .i64 0, .bool false, .int .i64 0, .bool false, .int .i64 0, .int .i64 0, .int .i64 0, .string ⟨#[]⟩] 30 (0, 0))).alloc (.cells #[.pointer none] 83 (0, 0)) |>.alloc (.cells #[.int .i64 0] 32 (0, 0)))
  have K5 := Lib.hid ((St.newAt ((w.alloc (.cells #[.int .i64 0, .string ⟨#[]⟩, .string ⟨#[]⟩, .string ⟨#[]⟩, .string ⟨#[]⟩, .int .i64 0, .int .i64 0, .int .i64 0, .string ⟨#[]⟩, .bool false, .int .i64 0, .bool false, .int .i64 0, .bool false, .int .i64 0, .bool false, .int .i64 0, .bool false, .int .i64 0, .bool false, .int .i64 0, .int .i64 0, .int .i64 0, .string ⟨#[]⟩] 30 (0, 0))).alloc (.cells #[.string S, .int .i64 0] 96 (0, 0))) 30 #[.int .i64 0, .string ⟨#[]⟩, .string ⟨#[]⟩, .string ⟨#[]⟩, .string ⟨#[]⟩, .int .i64 0, .int .i64 0, .int .i64 0, .string ⟨#[]⟩, .bool false, .int .i64 0, .bool false, .int .i64 0, .bool false, .int .i64 0, .bool false, .int .i64 0, .bool false, .int .i64 0, .bool false, .int .i64 0, .int .i64 0, .int .i64 0, .string ⟨#[]⟩] (w.heap.size + 1 + 1) (by simp)).alloc (.cells #[.pointer none] 83 (0, 0)) |>.alloc (.cells #[.int .i64 0] 32 (0, 0)))
  have B5 := Lib.hid ((St.newAt (((w.alloc (.cells #[.int .i64 0, .string ⟨#[]⟩, .string ⟨#[]⟩, .string ⟨#[]⟩, .string ⟨#[]⟩, .int .i64 0, .int .i64 0, .int .i64 0, .string ⟨#[]⟩, .bool false, .int .i64 0, .bool false, .int .i64 0, .bool false, .int .i64 0, .bool false, .int .i64 0, .bool false, .int .i64 0, .bool false, .int .i64 0, .int .i64 0, .int .i64 0, .string ⟨#[]⟩] 30 (0, 0))).alloc (.cells #[.string S, .int .i64 0] 96 (0, 0))).alloc (.cells #[.int .i64 0, .string ⟨#[]⟩, .string ⟨#[]⟩, .string ⟨#[]⟩, .string ⟨#[]⟩, .int .i64 0, .int .i64 0, .int .i64 0, .string ⟨#[]⟩, .bool false, .int .i64 0, .bool false, .int .i64 0, .bool false, .int .i64 0, .bool false, .int .i64 0, .bool false, .int .i64 0, .bool false, .int .i64 0, .int .i64 0, .int .i64 0, .string ⟨#[]⟩] 30 (0, 0))) 83 #[.pointer none] (w.heap.size + 1 + 1 + 1) (by simp)).alloc (.cells #[.int .i64 0] 32 (0, 0)))
  have E5 := Lib.hid (St.newAt ((((w.alloc (.cells #[.int .i64 0, .string ⟨#[]⟩, .string ⟨#[]⟩, .string ⟨#[]⟩, .string ⟨#[]⟩, .int .i64 0, .int .i64 0, .int .i64 0, .string ⟨#[]⟩, .bool false, .int .i64 0, .bool false, .int .i64 0, .bool false, .int .i64 0, .bool false, .int .i64 0, .bool false, .int .i64 0, .bool false, .int .i64 0, .int .i64 0, .int .i64 0, .string ⟨#[]⟩] 30 (0, 0))).alloc (.cells #[.string S, .int .i64 0] 96 (0, 0))).alloc (.cells #[.int .i64 0, .string ⟨#[]⟩, .string ⟨#[]⟩, .string ⟨#[]⟩, .string ⟨#[]⟩, .int .i64 0, .int .i64 0, .int .i64 0, .string ⟨#[]⟩, .bool false, .int .i64 0, .bool false, .int .i64 0, .bool false, .int .i64 0, .bool false, .int .i64 0, .bool false, .int .i64 0, .bool false, .int .i64 0, .int .i64 0, .int .i64 0, .string ⟨#[]⟩] 30 (0, 0))).alloc (.cells #[.pointer none] 83 (0, 0))) 32 #[.int .i64 0] (w.heap.size + 1 + 1 + 1 + 1) (by simp))
  have L5 := Lib.hid ((((((Below.refl w.heap.size w).alloc (Nat.le_refl _) (.cells #[.int .i64 0, .string ⟨#[]⟩, .string ⟨#[]⟩, .string ⟨#[]⟩, .string ⟨#[]⟩, .int .i64 0, .int .i64 0, .int .i64 0, .string ⟨#[]⟩, .bool false, .int .i64 0, .bool false, .int .i64 0, .bool false, .int .i64 0, .bool false, .int .i64 0, .bool false, .int .i64 0, .bool false, .int .i64 0, .int .i64 0, .int .i64 0, .string ⟨#[]⟩] 30 (0, 0))).alloc (by simp) (.cells #[.string S, .int .i64 0] 96 (0, 0))).alloc (by simp; omega) (.cells #[.int .i64 0, .string ⟨#[]⟩, .string ⟨#[]⟩, .string ⟨#[]⟩, .string ⟨#[]⟩, .int .i64 0, .int .i64 0, .int .i64 0, .string ⟨#[]⟩, .bool false, .int .i64 0, .bool false, .int .i64 0, .bool false, .int .i64 0, .bool false, .int .i64 0, .bool false, .int .i64 0, .bool false, .int .i64 0, .int .i64 0, .int .i64 0, .string ⟨#[]⟩] 30 (0, 0))).alloc (by simp; omega) (.cells #[.pointer none] 83 (0, 0))).alloc (by simp; omega) (.cells #[.int .i64 0] 32 (0, 0)))
  have hgd : good (getX p S) = (decide ((getX p S).serr = 0) && decide (rdDone (getX p S).rest (getX p S).err = 0)) := rfl
  have HV := fun W hB h1 h2 h3 h4 => visit_r (w.heap.size + 1) (w.heap.size + 1 + 1) (w.heap.size + 1 + 1 + 1) (w.heap.size + 1) (w.heap.size + 1 + 1 + 1 + 1) p S W hS hB ⟨by omega, by omega, by omega, by omega, by omega, by omega⟩ h1 h2 h3 h4
  have HN := call_built p
  obtain ⟨row, hrow⟩ : ∃ r, r = (Cl.new p).arr := ⟨_, rfl⟩
  have h1 : row.size = 24 := by rw [hrow]; rfl
  have h2 : row.all (·.oneCell') = true := by rw [hrow]; exact Cl.arr_one _
  rw [← hrow] at HV HN
  obtain ⟨X, hX⟩ : ∃ X, X = getX p S := ⟨_, rfl⟩
  rw [← hX] at HV hgd ⊢
  rw [hgd]
  rw [← hX] at hse
  obtain ⟨s9, e9, se, c9⟩ := X
  dsimp only at HV ⊢
  obtain ⟨cs, hcs⟩ : ∃ r, r = c9.arr := ⟨_, rfl⟩
  have h3 : cs.size = 24 := by rw [hcs]; rfl
  have h4 : cs.all (·.oneCell') = true := by rw [hcs]; exact Cl.arr_one _
  rw [← hcs] at HV ⊢
  replace HV := Lib.hid HV
  replace HN := Lib.hid HN
  have H1 := Lib.hid h1
  have H2 := Lib.hid h2
  have H3 := Lib.hid h3
  have H4 := Lib.hid h4
  have hse : se ≠ 0 := hse
  have dse : (se == 0) = false := by simpa using hse
  have hde : decide (se = 0) = false := by simpa using hse
  have HDE := Lib.hid hde
  clear hse hde
  clear hrow h1 h2 h3 h4 hX hcs hgd
  go_enter Tryd.func23, Tryd.ntmps23
  go_wp2_with (first
    | ((with_reducible show wpList _ _ _ ({ dst := _, op := .build _ _, type := _, pos := _, after := _, guard := _ } :: _) _ _); refine wpList_build_as rfl 30 _ rfl row HN.out ?_)
    | (go_at_call 50; go_must (refine (rRead_eq S _).mono ?_); rintro r w1 ⟨rfl, rfl⟩)
    | ((with_reducible show wpList _ _ _ ({ dst := _, op := .store _ (.tmp 6) _, type := _, pos := _, after := _, guard := _ } :: _) _ _); refine wpList_store_st rfl 30 _ _ rfl (w.heap.size + 1 + 1) row rfl rfl _ K5.out (by rw [H1.out]; kernel_rfl) (by rw [H1.out]; rfl) H2.out ?_; intro w6 hw6 k6; have K6 := Lib.hid k6; have A6 := Lib.hid (A5.out.setRow_other (g := (w.heap.size + 1 + 1)) (by omega) row); have M6 := Lib.hid (M5.out.setRow_other (g := (w.heap.size + 1 + 1)) (by omega) row); have B6 := Lib.hid (B5.out.setRow_other (g := (w.heap.size + 1 + 1)) (by omega) row); have E6 := Lib.hid (E5.out.setRow_other (g := (w.heap.size + 1 + 1)) (by omega) row); have L6 := Lib.hid (below_row L5.out (k := (w.heap.size + 1 + 1)) (by omega) row); have Z6 := Lib.hid (show w6.heap.size = w.heap.size + 1 + 1 + 1 + 1 + 1 from by rw [hw6]; simp); rw [← hw6] at A6 M6 B6 E6 L6; clear hw6 k6; have cb := B6.out.cell (j := 0) rfl; have fb := B6.out.free 0; have ce := E6.out.cell (j := 0) rfl; have fe := E6.out.free 0))
  go_must (refine (HV.out _ ⟨by omega, by omega, by omega, by have := Z6.out; simp [World.setCell]; omega⟩ ((K6.out.other _ _ _ (by omega)).other _ _ _ (by omega)) ((B6.out.set 0 _).other _ _ _ (by omega)) ((E6.out.other _ _ _ (by omega)).set 0 _) ((St.other M6.out _ _ _ (by omega)).other _ _ _ (by omega))).mono ?_)
  rintro e w9 ⟨rfl, k9, b9, f9, r9, l9⟩
  have A9 : St 30 w.heap.size #[.int .i64 0, .string ⟨#[]⟩, .string ⟨#[]⟩, .string ⟨#[]⟩, .string ⟨#[]⟩, .int .i64 0, .int .i64 0, .int .i64 0, .string ⟨#[]⟩, .bool false, .int .i64 0, .bool false, .int .i64 0, .bool false, .int .i64 0, .bool false, .int .i64 0, .bool false, .int .i64 0, .bool false, .int .i64 0, .int .i64 0, .int .i64 0, .string ⟨#[]⟩] w9 := (l9.block w.heap.size (by omega)).trans ((A6.out.other _ _ _ (by omega)).other _ _ _ (by omega))
  have L9 : Below w.heap.size w w9 := ((L6.out.setCell (by show w.heap.size ≤ (w.heap.size + 1 + 1 + 1); omega) _).setCell (by show w.heap.size ≤ (w.heap.size + 1 + 1 + 1 + 1); omega) _).trans (l9.mono (by omega))
  have ce9 : w9.cell? ⟨(w.heap.size + 1 + 1 + 1 + 1), 0, none⟩ = some (.int .i64 se) := f9.cell rfl
  have cb9 : w9.cell? ⟨(w.heap.size + 1 + 1 + 1), 0, none⟩ = some (.pointer (some ⟨(w.heap.size + 1), 0, none⟩)) := b9.cell rfl
  have kd : St 30 (w.heap.size + 1 + 1) cs w9.drew := k9
  have ad : St 30 w.heap.size #[.int .i64 0, .string ⟨#[]⟩, .string ⟨#[]⟩, .string ⟨#[]⟩, .string ⟨#[]⟩, .int .i64 0, .int .i64 0, .int .i64 0, .string ⟨#[]⟩, .bool false, .int .i64 0, .bool false, .int .i64 0, .bool false, .int .i64 0, .bool false, .int .i64 0, .bool false, .int .i64 0, .bool false, .int .i64 0, .int .i64 0, .int .i64 0, .string ⟨#[]⟩] w9.drew := A9
  have RD := Lib.hid (show Rd (w.heap.size + 1) s9 e9 w9.drew from r9)
  clear k9 b9 f9 l9 r9 A9 cb fb ce fe
  go_wp2_with fail
  refine wp_region_any (by kernel_rfl) ?_
  change wpAny _ _ _ _ _ _ _ (World.drew _)
  refine wpAny_ready (rs := [0, 1]) (by kernel_rfl) (by simp) ?_
  refine AllReady.cons rfl (fun K hK => ?_) ?_
  · refine step_load_row rfl 30 (.tmp 6) rfl (w.heap.size + 1 + 1) rfl 30 cs (0, 0) _ kd Tryd.underlying30 rfl (by rw [H3.out]; kernel_rfl) ?_
    go_simp
    refine hK _ _ ?_
    clear hK K
    refine wpAny_ready (rs := [1]) (by kernel_rfl) (by simp) ?_
    refine AllReady.cons rfl (fun K hK => ?_) AllReady.nil
    go_simp
    refine hK _ _ ?_
    clear hK K
    refine wpAny_ready (rs := [2]) (by kernel_rfl) (by simp) ?_
    refine AllReady.cons rfl (fun K hK => ?_) AllReady.nil
    go_simp
    refine hK _ _ ?_
    clear hK K
    refine wpAny_ready (rs := [3]) (by kernel_rfl) (by simp) ?_
    refine AllReady.cons rfl (fun K hK => ?_) AllReady.nil
    go_simp
    refine hK _ _ ?_
    clear hK K
    refine wpAny_ready (rs := [4]) (by kernel_rfl) (by simp) ?_
    refine AllReady.cons rfl (fun K hK => ?_) AllReady.nil
    go_simp
    refine hK _ _ ?_
    clear hK K
    refine wpAny_ready (rs := [5]) (by kernel_rfl) (by simp) ?_
    refine AllReady.cons rfl (fun K hK => ?_) AllReady.nil
    go_simp
    refine hK _ _ ?_
    clear hK K
    refine wpAny_take (i := 6) (v := undef) rfl (by kernel_rfl) (by kernel_rfl) (by kernel_rfl) (fun _ _ _ h => h) (Or.inr ⟨by rfl, rfl⟩) ?_
    refine wpAny_take (i := 7) (v := .bool false) rfl (by kernel_rfl) (by kernel_rfl) (by kernel_rfl) (fun _ _ _ h => h) (Or.inl ⟨by rfl, ?_⟩) ?_
    · intro w; go_simp
    refine wpAny_ready (rs := [8]) (by kernel_rfl) (by simp) ?_
    refine AllReady.cons rfl (fun K hK => ?_) AllReady.nil
    refine step_store_row rfl 30 (.tmp 4) (.tmp 20) rfl w.heap.size cs rfl rfl 30 #[.int .i64 0, .string ⟨#[]⟩, .string ⟨#[]⟩, .string ⟨#[]⟩, .string ⟨#[]⟩, .int .i64 0, .int .i64 0, .int .i64 0, .string ⟨#[]⟩, .bool false, .int .i64 0, .bool false, .int .i64 0, .bool false, .int .i64 0, .bool false, .int .i64 0, .bool false, .int .i64 0, .bool false, .int .i64 0, .int .i64 0, .int .i64 0, .string ⟨#[]⟩] ad (by rw [H3.out]; kernel_rfl) (by rw [H3.out]; rfl) H4.out ?_
    go_simp
    refine hK _ _ ?_
    clear hK K
    refine wpAny_ready (rs := [9]) (by kernel_rfl) (by simp) ?_
    refine AllReady.cons rfl (fun K hK => ?_) AllReady.nil
    go_simp
    refine hK _ _ ?_
    clear hK K
    refine wpAny_done (by kernel_rfl) ?_ _
    have SF := (St.row (cs' := cs) ad)
    have LF := below_row (k := w.heap.size) L9.drew (Nat.le_refl _) cs
    generalize (World.setRow (World.drew w9) w.heap.size cs) = Wf at SF LF ⊢
    have SG := Lib.hid SF
    have LG := Lib.hid LF
    clear SF LF
    go_wp2_with fail
    refine ret_cell2 (r := 4) (t := 5) (k := w.heap.size) (T := 30) Tryd.results23 rfl rfl SG.out Tryd.underlying30 rfl (by rw [H3.out]; kernel_rfl) rfl ?_
    exact ⟨by rw [HDE.out]; rfl, LG.out⟩
  refine AllReady.cons rfl (fun K hK => ?_) AllReady.nil
  go_simp
  refine hK _ _ ?_
  clear hK K
  refine wpAny_take (i := 2) (v := .bool false) rfl (by kernel_rfl) (by kernel_rfl) (by kernel_rfl) (fun _ _ _ h => h) (Or.inl ⟨by rfl, ?_⟩) ?_
  · intro w; go_simp
  refine wpAny_take (i := 3) (v := .bool false) rfl (by kernel_rfl) (by kernel_rfl) (by kernel_rfl) (fun _ _ _ h => h) (Or.inl ⟨by rfl, ?_⟩) ?_
  · intro w; go_simp
  refine wpAny_ready (rs := [0, 4]) (by kernel_rfl) (by simp) ?_
  refine AllReady.cons rfl (fun K hK => ?_) ?_
  · refine step_load_row rfl 30 (.tmp 6) rfl (w.heap.size + 1 + 1) rfl 30 cs (0, 0) _ kd Tryd.underlying30 rfl (by rw [H3.out]; kernel_rfl) ?_
    go_simp
    refine hK _ _ ?_
    clear hK K
    refine wpAny_ready (rs := [4]) (by kernel_rfl) (by simp) ?_
    refine AllReady.cons rfl (fun K hK => ?_) AllReady.nil
    go_simp
    refine hK _ _ ?_
    clear hK K
    refine wpAny_ready (rs := [5]) (by kernel_rfl) (by simp) ?_
    refine AllReady.cons rfl (fun K hK => ?_) AllReady.nil
    go_simp
    refine hK _ _ ?_
    clear hK K
    refine wpAny_take (i := 6) (v := undef) rfl (by kernel_rfl) (by kernel_rfl) (by kernel_rfl) (fun _ _ _ h => h) (Or.inr ⟨by rfl, rfl⟩) ?_
    refine wpAny_take (i := 7) (v := .bool false) rfl (by kernel_rfl) (by kernel_rfl) (by kernel_rfl) (fun _ _ _ h => h) (Or.inl ⟨by rfl, ?_⟩) ?_
    · intro w; go_simp
    refine wpAny_ready (rs := [8]) (by kernel_rfl) (by simp) ?_
    refine AllReady.cons rfl (fun K hK => ?_) AllReady.nil
    refine step_store_row rfl 30 (.tmp 4) (.tmp 20) rfl w.heap.size cs rfl rfl 30 #[.int .i64 0, .string ⟨#[]⟩, .string ⟨#[]⟩, .string ⟨#[]⟩, .string ⟨#[]⟩, .int .i64 0, .int .i64 0, .int .i64 0, .string ⟨#[]⟩, .bool false, .int .i64 0, .bool false, .int .i64 0, .bool false, .int .i64 0, .bool false, .int .i64 0, .bool false, .int .i64 0, .bool false, .int .i64 0, .int .i64 0, .int .i64 0, .string ⟨#[]⟩] ad (by rw [H3.out]; kernel_rfl) (by rw [H3.out]; rfl) H4.out ?_
    go_simp
    refine hK _ _ ?_
    clear hK K
    refine wpAny_ready (rs := [9]) (by kernel_rfl) (by simp) ?_
    refine AllReady.cons rfl (fun K hK => ?_) AllReady.nil
    go_simp
    refine hK _ _ ?_
    clear hK K
    refine wpAny_done (by kernel_rfl) ?_ _
    have SF := (St.row (cs' := cs) ad)
    have LF := below_row (k := w.heap.size) L9.drew (Nat.le_refl _) cs
    generalize (World.setRow (World.drew w9) w.heap.size cs) = Wf at SF LF ⊢
    have SG := Lib.hid SF
    have LG := Lib.hid LF
    clear SF LF
    go_wp2_with fail
    refine ret_cell2 (r := 4) (t := 5) (k := w.heap.size) (T := 30) Tryd.results23 rfl rfl SG.out Tryd.underlying30 rfl (by rw [H3.out]; kernel_rfl) rfl ?_
    exact ⟨by rw [HDE.out]; rfl, LG.out⟩
  refine AllReady.cons rfl (fun K hK => ?_) AllReady.nil
  go_simp
  refine hK _ _ ?_
  clear hK K
  refine wpAny_ready (rs := [0, 5]) (by kernel_rfl) (by simp) ?_
  refine AllReady.cons rfl (fun K hK => ?_) ?_
  · refine step_load_row rfl 30 (.tmp 6) rfl (w.heap.size + 1 + 1) rfl 30 cs (0, 0) _ kd Tryd.underlying30 rfl (by rw [H3.out]; kernel_rfl) ?_
    go_simp
    refine hK _ _ ?_
    clear hK K
    refine wpAny_ready (rs := [5]) (by kernel_rfl) (by simp) ?_
    refine AllReady.cons rfl (fun K hK => ?_) AllReady.nil
    go_simp
    refine hK _ _ ?_
    clear hK K
    refine wpAny_take (i := 6) (v := undef) rfl (by kernel_rfl) (by kernel_rfl) (by kernel_rfl) (fun _ _ _ h => h) (Or.inr ⟨by rfl, rfl⟩) ?_
    refine wpAny_take (i := 7) (v := .bool false) rfl (by kernel_rfl) (by kernel_rfl) (by kernel_rfl) (fun _ _ _ h => h) (Or.inl ⟨by rfl, ?_⟩) ?_
    · intro w; go_simp
    refine wpAny_ready (rs := [8]) (by kernel_rfl) (by simp) ?_
    refine AllReady.cons rfl (fun K hK => ?_) AllReady.nil
    refine step_store_row rfl 30 (.tmp 4) (.tmp 20) rfl w.heap.size cs rfl rfl 30 #[.int .i64 0, .string ⟨#[]⟩, .string ⟨#[]⟩, .string ⟨#[]⟩, .string ⟨#[]⟩, .int .i64 0, .int .i64 0, .int .i64 0, .string ⟨#[]⟩, .bool false, .int .i64 0, .bool false, .int .i64 0, .bool false, .int .i64 0, .bool false, .int .i64 0, .bool false, .int .i64 0, .bool false, .int .i64 0, .int .i64 0, .int .i64 0, .string ⟨#[]⟩] ad (by rw [H3.out]; kernel_rfl) (by rw [H3.out]; rfl) H4.out ?_
    go_simp
    refine hK _ _ ?_
    clear hK K
    refine wpAny_ready (rs := [9]) (by kernel_rfl) (by simp) ?_
    refine AllReady.cons rfl (fun K hK => ?_) AllReady.nil
    go_simp
    refine hK _ _ ?_
    clear hK K
    refine wpAny_done (by kernel_rfl) ?_ _
    have SF := (St.row (cs' := cs) ad)
    have LF := below_row (k := w.heap.size) L9.drew (Nat.le_refl _) cs
    generalize (World.setRow (World.drew w9) w.heap.size cs) = Wf at SF LF ⊢
    have SG := Lib.hid SF
    have LG := Lib.hid LF
    clear SF LF
    go_wp2_with fail
    refine ret_cell2 (r := 4) (t := 5) (k := w.heap.size) (T := 30) Tryd.results23 rfl rfl SG.out Tryd.underlying30 rfl (by rw [H3.out]; kernel_rfl) rfl ?_
    exact ⟨by rw [HDE.out]; rfl, LG.out⟩
  refine AllReady.cons rfl (fun K hK => ?_) AllReady.nil
  go_simp
  refine hK _ _ ?_
  clear hK K
  refine wpAny_take (i := 6) (v := undef) rfl (by kernel_rfl) (by kernel_rfl) (by kernel_rfl) (fun _ _ _ h => h) (Or.inr ⟨by rfl, rfl⟩) ?_
  refine wpAny_take (i := 7) (v := .bool false) rfl (by kernel_rfl) (by kernel_rfl) (by kernel_rfl) (fun _ _ _ h => h) (Or.inl ⟨by rfl, ?_⟩) ?_
  · intro w; go_simp
  refine wpAny_ready (rs := [0]) (by kernel_rfl) (by simp) ?_
  refine AllReady.cons rfl (fun K hK => ?_) AllReady.nil
  refine step_load_row rfl 30 (.tmp 6) rfl (w.heap.size + 1 + 1) rfl 30 cs (0, 0) _ kd Tryd.underlying30 rfl (by rw [H3.out]; kernel_rfl) ?_
  go_simp
  refine hK _ _ ?_
  clear hK K
  refine wpAny_ready (rs := [8]) (by kernel_rfl) (by simp) ?_
  refine AllReady.cons rfl (fun K hK => ?_) AllReady.nil
  refine step_store_row rfl 30 (.tmp 4) (.tmp 20) rfl w.heap.size cs rfl rfl 30 #[.int .i64 0, .string ⟨#[]⟩, .string ⟨#[]⟩, .string ⟨#[]⟩, .string ⟨#[]⟩, .int .i64 0, .int .i64 0, .int .i64 0, .string ⟨#[]⟩, .bool false, .int .i64 0, .bool false, .int .i64 0, .bool false, .int .i64 0, .bool false, .int .i64 0, .bool false, .int .i64 0, .bool false, .int .i64 0, .int .i64 0, .int .i64 0, .string ⟨#[]⟩] ad (by rw [H3.out]; kernel_rfl) (by rw [H3.out]; rfl) H4.out ?_
  go_simp
  refine hK _ _ ?_
  clear hK K
  refine wpAny_ready (rs := [9]) (by kernel_rfl) (by simp) ?_
  refine AllReady.cons rfl (fun K hK => ?_) AllReady.nil
  go_simp
  refine hK _ _ ?_
  clear hK K
  refine wpAny_done (by kernel_rfl) ?_ _
  have SF := (St.row (cs' := cs) ad)
  have LF := below_row (k := w.heap.size) L9.drew (Nat.le_refl _) cs
  generalize (World.setRow (World.drew w9) w.heap.size cs) = Wf at SF LF ⊢
  have SG := Lib.hid SF
  have LG := Lib.hid LF
  clear SF LF
  go_wp2_with fail
  refine ret_cell2 (r := 4) (t := 5) (k := w.heap.size) (T := 30) Tryd.results23 rfl rfl SG.out Tryd.underlying30 rfl (by rw [H3.out]; kernel_rfl) rfl ?_
  exact ⟨by rw [HDE.out]; rfl, LG.out⟩
theorem cread_any (p : Int) (S : ByteArray) (w : World) (hS : S.size ≤ 1073741824) : Calls Tryd.prog 23 #[.int .i64 p, .string S] w fun e w' => e = .returned (.tuple #[.agg (getX p S).c.arr, .bool (good (getX p S))]) ∧ Below w.heap.size w w' := by
  by_cases h : (getX p S).serr = 0
  · exact cread_t p S w hS h
  · exact cread_f p S w hS h
end Go.Proofs.YtdjnadgcjmlejaaDoor
