/- Lemmas for the laws of index. -/
import Derived.Test.YtngfknplljedeaaGreatZr22
import Derived.Test.YtngfknplljedeaaGreatZr53
import Derived.Test.YtngfknplljedeaaGreatZr54
import Derived.Test.YtngfknplljedeaaGreatZr59
import Derived.Test.YtngfknplljedeaaGreatZrHi
namespace Go.Proofs.YtngfknplljedeaaGreat
open Go.RowKit
set_option maxRecDepth 100000 in
set_option maxHeartbeats 8000000 in
theorem iall_walk (v u : Value) (xs ys : List Ch) (w : World) (h : RowsAt w.heap.size 18 Ch.vs v xs w) (h' : RowsAt w.heap.size 18 Ch.vs u ys w) (hn : ∀ x ∈ ys, x.num) : Calls Tryz.prog 5 #[v, u] w fun e w' => e = .returned (.bool true) ∧ Below w.heap.size w w' := by
 have HLg := hI (rxLarge_any v xs w h)
 have HLg' := hI (rxLarge_any u ys w h')
 have HKn := hI (fun W => ixknown_any W)
 have HRv := hI (show ∀ W, Below w.heap.size w W → RowsAt W.heap.size 18 Ch.vs v xs W from fun W hW => (h.below hW).raise hW.size)
 have HRu := hI (show ∀ W, Below w.heap.size w W → RowsAt W.heap.size 18 Ch.vs u ys W from fun W hW => (h'.below hW).raise hW.size)
 have HNm := hI hn
 clear hn
 have HMd := hI (show xs.length ≤ 40 → ∀ W, Below w.heap.size w W → Calls Tryz.prog 18 #[v] W fun e w' => ∃ cs, e = .returned (.agg cs.toArray) ∧ CAt w'.heap.size cs (CA.made xs) w' ∧ Below W.heap.size W w' from fun hn W hW => ixMade_any v xs W (HRv.out W hW) (by omega))
 clear h h'
 go_enter Tryz.func5, Tryz.ntmps5
 go_wp2_with (first
  | (go_at_call 14; (with_reducible refine HLg.out.mono ?_); rintro e5 w5 ⟨⟨r, rfl, hr⟩, rfl⟩; have HR := hI hr; clear hr; cases r)
  | (go_at_call 14; (with_reducible refine HLg'.out.mono ?_); rintro e5 w5 ⟨⟨r', rfl, hr⟩, rfl⟩; have HR' := hI hr; clear hr; cases r')
  | (go_at_call 10; go_must (with_reducible refine (HKn.out _).mono ?_); rintro e6 w6 ⟨rfl, b6⟩))
 · have h1 := (HR.out (by trivial)).1
   have h2 := (HR'.out (by trivial)).1
   have HMd := hI (HMd.out h1)
   have hok := CA.made_ok xs
   have hle := (CA.made_lens xs).mono h1
   obtain ⟨c, hc⟩ : ∃ c, c = CA.made xs := ⟨_, rfl⟩
   rw [← hc] at HMd hok hle
   have hle2 : ((c.all ys).1).lens 80 := by
    unfold CA.all
    split
    · exact (hle.allFrom ys).mono (by omega)
    · exact hle.mono (by omega)
   obtain ⟨d, hd⟩ : ∃ d, d = (c.all ys).1 := ⟨_, rfl⟩
   obtain ⟨g, hg⟩ : ∃ g, g = (c.all ys).2 := ⟨_, rfl⟩
   rw [← hd] at hle2
   have HPa := hI (show ∀ (es : List Value) W, Below w.heap.size w W → CAt W.heap.size es c W → Calls Tryz.prog 19 #[.agg es.toArray, u] W fun e w' => ∃ ds, e = .returned (.tuple #[.agg ds.toArray, .bool g]) ∧ CAt w'.heap.size ds d w' ∧ Below W.heap.size W w' from fun es W hW hC => by
    have := inAll_any es c u ys W hC hok 40 hle (HRu.out W hW) (by omega) HNm.out
    rw [← hd, ← hg] at this
    exact this)
   have HPb := hI (show ∀ (es : List Value) W, Below w.heap.size w W → CAt W.heap.size es c W → Calls Tryz.prog 20 #[.agg es.toArray, u] W fun e w' => ∃ ds, e = .returned (.tuple #[.agg ds.toArray, .bool g]) ∧ CAt w'.heap.size ds d w' ∧ Below W.heap.size W w' from fun es W hW hC => by
    have := ixAll_any es c u ys W hC (HRu.out W hW) 40 hle (by omega)
    rw [← hd, ← hg] at this
    exact this)
   have HSm := hI (show ∀ (es fs : List Value) W, CAt W.heap.size es d W → CAt W.heap.size fs d W → Calls Tryz.prog 17 #[.agg es.toArray, .agg fs.toArray] W fun e w' => e = .returned (.bool true) ∧ Below W.heap.size W w' from fun es fs W q1 q2 => by
    have hs : d.helds.length + d.files.length + d.names.length + d.blocks.length ≤ 1073741824 := by obtain ⟨q1, q2, q3, q4⟩ := hle2; omega
    have := ixSame_any es fs d d W q1 q2 (Nat.le_refl _) hs hs
    rw [decide_eq_true rfl] at this
    exact this)
   clear hok hle hc h1 h2 hd hg
   have HMw := hI (HMd.out w (Below.refl _ _))
   cases g <;>
   (go_wp2_with (first
    | (go_at_call 18; go_must (with_reducible refine HMw.out.mono ?_); rintro e5 w5 ⟨cs, rfl, h5, b5⟩; obtain ⟨W1, hW1⟩ : ∃ W, W = w5.alloc (.cells cs.toArray 27 (0, 0)) := ⟨_, rfl⟩; have I1 := hI (show InBox 27 w5.heap.size cs c W1 from by rw [hW1]; exact ⟨St.new _ _ _, (h5.below ((Below.refl _ _).alloc (Nat.le_refl _) _)).raise (by simp)⟩); have B1 := hI (show Below w.heap.size w W1 from by rw [hW1]; exact b5.alloc b5.size _); have HW1 := hI hW1; have L5 := hI h5.len; have O5 := hI h5.ones; clear hW1 h5 b5)
    | ((with_reducible show wpList _ _ _ ({ dst := _, op := .store 27 (.tmp 5) _, type := _, pos := _, after := _, guard := _ } :: _) _ _); refine wpList_store_st rfl 27 _ _ rfl w5.heap.size cs.toArray (by first | rfl | simp [Act.eval, Act.put]) (by first | rfl | simp [Act.eval, Act.put]) _ (St.new w5 _ _) (by rw [L5.out]; exact infoCa) (by rw [L5.out]; rfl) (O5.out) ?_; rintro wq rfl -; rw [alloc_row]; rw [← HW1.out])
    | ((with_reducible show wpList _ _ _ ({ dst := some 20, op := .load 27 _, type := _, pos := _, after := _, guard := _ } :: _) _ _); refine wpList_load_st rfl 27 _ rfl (w5.heap.size) (by first | rfl | simp [Act.eval, Act.put]) 27 cs.toArray (I1.out.st) _ Tryz.underlying27 rfl (by rw [L5.out]; exact infoCa) ?_)
    | (go_at_call 19; go_must (with_reducible refine (HPa.out cs W1 B1.out I1.out.at').mono ?_); rintro e6 w6 ⟨ds, rfl, h6, b6⟩; obtain ⟨W2, hW2⟩ : ∃ W, W = w6.alloc (.cells ds.toArray 27 (0, 0)) := ⟨_, rfl⟩; have B12 := hI (show Below W1.heap.size W1 W2 from by rw [hW2]; exact b6.alloc b6.size _); have B2 := hI (B1.out.trans (B12.out.mono B1.out.size)); have I2 := hI (I1.out.below B12.out); have J2 := hI (show InBox 27 w6.heap.size ds d W2 from by rw [hW2]; exact ⟨St.new _ _ _, (h6.below ((Below.refl _ _).alloc (Nat.le_refl _) _)).raise (by simp)⟩); have HW2 := hI hW2; have L6 := hI h6.len; have O6 := hI h6.ones; clear hW2 h6 b6)
    | ((with_reducible show wpList _ _ _ ({ dst := _, op := .store 27 (.tmp 6) _, type := _, pos := _, after := _, guard := _ } :: _) _ _); refine wpList_store_st rfl 27 _ _ rfl w6.heap.size ds.toArray (by first | rfl | simp [Act.eval, Act.put]) (by first | rfl | simp [Act.eval, Act.put]) _ (St.new w6 _ _) (by rw [L6.out]; exact infoCa) (by rw [L6.out]; rfl) (O6.out) ?_; rintro wq rfl -; rw [alloc_row]; rw [← HW2.out])
    | ((with_reducible show wpList _ _ _ ({ dst := some 26, op := .load 27 _, type := _, pos := _, after := _, guard := _ } :: _) _ _); refine wpList_load_st rfl 27 _ rfl (w5.heap.size) (by first | rfl | simp [Act.eval, Act.put]) 27 cs.toArray (I2.out.st) _ Tryz.underlying27 rfl (by rw [L5.out]; exact infoCa) ?_)
    | (go_at_call 20; go_must (with_reducible refine (HPb.out cs W2 B2.out I2.out.at').mono ?_); rintro e7 w7 ⟨es, rfl, h7, b7⟩; obtain ⟨W3, hW3⟩ : ∃ W, W = w7.alloc (.cells es.toArray 27 (0, 0)) := ⟨_, rfl⟩; have B23 := hI (show Below W2.heap.size W2 W3 from by rw [hW3]; exact b7.alloc b7.size _); have B3 := hI (B2.out.trans (B23.out.mono B2.out.size)); have J3 := hI (J2.out.below B23.out); have K3 := hI (show InBox 27 w7.heap.size es d W3 from by rw [hW3]; exact ⟨St.new _ _ _, (h7.below ((Below.refl _ _).alloc (Nat.le_refl _) _)).raise (by simp)⟩); have HW3 := hI hW3; have L7 := hI h7.len; have O7 := hI h7.ones; clear hW3 h7 b7)
    | ((with_reducible show wpList _ _ _ ({ dst := _, op := .store 27 (.tmp 8) _, type := _, pos := _, after := _, guard := _ } :: _) _ _); refine wpList_store_st rfl 27 _ _ rfl w7.heap.size es.toArray (by first | rfl | simp [Act.eval, Act.put]) (by first | rfl | simp [Act.eval, Act.put]) _ (St.new w7 _ _) (by rw [L7.out]; exact infoCa) (by rw [L7.out]; rfl) (O7.out) ?_; rintro wq rfl -; rw [alloc_row]; rw [← HW3.out])
    | ((with_reducible show wpList _ _ _ ({ dst := some 35, op := .load 27 _, type := _, pos := _, after := _, guard := _ } :: _) _ _); refine wpList_load_stg (by rfl) 27 _ rfl (w6.heap.size) (by first | rfl | simp [Act.eval, Act.put]) 27 ds.toArray (J3.out.st) _ Tryz.underlying27 rfl (by rw [L6.out]; exact infoCa) ?_)
    | ((with_reducible show wpList _ _ _ ({ dst := some 36, op := .load 27 _, type := _, pos := _, after := _, guard := _ } :: _) _ _); refine wpList_load_stg (by rfl) 27 _ rfl (w7.heap.size) (by first | rfl | simp [Act.eval, Act.put]) 27 es.toArray (K3.out.st) _ Tryz.underlying27 rfl (by rw [L7.out]; exact infoCa) ?_)
    | (go_at_call 17; go_must (with_reducible refine (HSm.out ds es W3 J3.out.at' K3.out.at').mono ?_); rintro e8 w8 ⟨rfl, b8⟩; have B8 := hI (B3.out.trans (b8.mono B3.out.size)); clear b8)
    | (go_at_call 10; go_must (with_reducible refine (HKn.out _).mono ?_); rintro e9 w9 ⟨rfl, b9⟩))
    go_ret
    exact ⟨rfl, B8.out.trans (b9.mono B8.out.size)⟩)
 · go_ret
   exact ⟨rfl, b6⟩
 · go_ret
   exact ⟨rfl, b6⟩
end Go.Proofs.YtngfknplljedeaaGreat
