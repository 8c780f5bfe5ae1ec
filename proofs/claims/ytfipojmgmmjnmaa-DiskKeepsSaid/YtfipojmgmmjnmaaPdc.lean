/- The program's disk: its fuse, its counters. -/
import Derived.Test.YtfipojmgmmjnmaaPdb
import Derived.RegionCalls
import Derived.Deep.QuietTactic
namespace Go.Proofs.Ytfipojmgmmjnmaa
open Go.RowKit

/-- The same, whatever stands for the fuse. -/
def PDk (B p : Nat) (kv wv lv : Value) (D : DS) (w : World) : Prop := ∃ is N, PD0 B p kv wv lv is N D w
theorem Frm.at1 {p : Nat} {a b : World} (h : Frm (fun k => k = p) a b) (j : Nat) (v : Value) : Frm (fun k => k = p) a (b.setCell ⟨p, j, none⟩ v) := h.setCell (p := ⟨p, j, none⟩) (.inl rfl) v
/-- Behind the fuse. -/
theorem PD0.fuse {B p : Nat} {kv wv lv : Value} {N : Int} {D : DS} {w : World} (h : PD0 B p kv wv lv true N D w) (f : Int) (h1 : 0 ≤ f) (h2 : f ≤ 9223372036854775807) : PD0 B p kv wv lv true f { D with fuse := f } (w.setCell ⟨p, 4, none⟩ (.int .i64 f)) :=
  h.put true f { D with fuse := f } 4 _ rfl rfl rfl (.inl ⟨rfl, rfl, h1⟩) (by show -1 ≤ f; omega) h2
theorem PD0.die {B p : Nat} {kv wv lv : Value} {is : Bool} {N : Int} {D : DS} {w : World} (h : PD0 B p kv wv lv is N D w) (b : Bool) : PD0 B p kv wv lv is N { D with dead := b } (w.setCell ⟨p, 5, none⟩ (.bool b)) :=
  h.put is N { D with dead := b } 5 _ rfl rfl rfl h.fz h.ok.lo h.ok.hi
theorem PD0.wrs {B p : Nat} {kv wv lv : Value} {is : Bool} {N : Int} {D : DS} {w : World} (h : PD0 B p kv wv lv is N D w) (n : Nat) : PD0 B p kv wv lv is N { D with wr := n } (w.setCell ⟨p, 6, none⟩ (.int .i64 (n : Int))) :=
  h.put is N { D with wr := n } 6 _ rfl rfl rfl h.fz h.ok.lo h.ok.hi
theorem PD0.brs {B p : Nat} {kv wv lv : Value} {is : Bool} {N : Int} {D : DS} {w : World} (h : PD0 B p kv wv lv is N D w) (n : Nat) : PD0 B p kv wv lv is N { D with br := n } (w.setCell ⟨p, 7, none⟩ (.int .i64 (n : Int))) :=
  h.put is N { D with br := n } 7 _ rfl rfl rfl h.fz h.ok.lo h.ok.hi

set_option maxRecDepth 100000 in
theorem dburn_off (B p : Nat) (kv wv lv : Value) (is : Bool) (N : Int) (D : DS) (w : World) (h0 : D.fuse = 0) (h : PD0 B p kv wv lv is N D w) :
    Calls Try.prog 47 #[.pointer (some ⟨p, 0, none⟩)] w fun e w' => e = .returned (.bool false) ∧ PD0 B p kv wv lv is N D.burnt w' ∧ Frm (fun j => j = p) w w' := by
  have e : D.burnt = { D with dead := true } := by unfold DS.burnt; rw [if_pos h0]
  rw [e]
  obtain ⟨hi, hn⟩ : is = true ∧ N = 0 := by
    rcases h.fz with ⟨a, b, _⟩ | ⟨_, b⟩
    · exact ⟨a, by omega⟩
    · omega
  subst hi
  subst hn
  have c3 : w.cell? ⟨p, 3, none⟩ = some (.bool true) := h.st.cell rfl
  have c4 : w.cell? ⟨p, 4, none⟩ = some (.int .i64 0) := h.st.cell rfl
  have c5 : w.cell? ⟨p, 5, none⟩ = some (.bool D.dead) := h.st.cell rfl
  have f5 := h.st.free 5
  have HH := Lib.hid h
  clear h h0 e
  go_enter Try.func47, Try.ntmps47
  go_wp2
  go_ret
  exact ⟨rfl, HH.out.die true, (Frm.refl _ _).at1 _ _⟩
set_option maxRecDepth 100000 in
theorem dburn_on (B p : Nat) (kv wv lv : Value) (is : Bool) (N : Int) (D : DS) (w : World) (h0 : D.fuse ≠ 0) (h : PD0 B p kv wv lv is N D w) :
    Calls Try.prog 47 #[.pointer (some ⟨p, 0, none⟩)] w fun e w' => e = .returned (.bool true) ∧ PDk B p kv wv lv D.burnt w' ∧ Frm (fun j => j = p) w w' ∧ w'.heap.size = w.heap.size := by
  rcases h.fz with ⟨hi, hn, hp⟩ | ⟨hi, hn⟩
  · subst hi
    have e : D.burnt = { D with fuse := D.fuse - 1 } := by unfold DS.burnt; rw [if_neg h0, if_pos (by omega)]
    rw [e]
    have hb := h.ok.hi
    have c3 : w.cell? ⟨p, 3, none⟩ = some (.bool true) := h.st.cell rfl
    have c4 : w.cell? ⟨p, 4, none⟩ = some (.int .i64 N) := h.st.cell rfl
    have f4 := h.st.free 4
    have d1 : (N == 0) = false := by rw [beq_eq_false_iff_ne]; omega
    have hN1 : 1 ≤ N := by omega
    have hN2 : N ≤ 9223372036854775807 := by omega
    have HH := Lib.hid h
    have HN := Lib.hid hn
    clear h h0 e hn hp hb
    go_enter Try.func47, Try.ntmps47
    go_wp2
    go_ret
    refine ⟨rfl, ⟨true, N - 1, ?_⟩, (Frm.refl _ _).at1 _ _, by simp [World.setCell]⟩
    rw [← HN.out]
    exact HH.out.fuse (N - 1) (by omega) (by omega)
  · subst hi
    have e : D.burnt = D := by unfold DS.burnt; rw [if_neg h0, if_neg (by omega)]
    rw [e]
    have c3 : w.cell? ⟨p, 3, none⟩ = some (.bool false) := h.st.cell rfl
    have HH := Lib.hid h
    clear h h0 e hn
    go_enter Try.func47, Try.ntmps47
    go_wp2
    go_ret
    exact ⟨rfl, ⟨false, N, HH.out⟩, Frm.refl _ _, rfl⟩

/-- '(*sync/atomic.Int64).Add(1)', '.Load()'. -/
theorem i64_one (a : Addr) (n : Int) (w : World) (h1 : n < 9223372036854775807) (h0 : 0 ≤ n) (hc : w.cell? a = some (.int .i64 n)) (hz : w.frozen? a = false) :
    Calls Try.prog 48 #[.pointer (some a), .int .i64 1] w fun e w' => e = .returned (.int .i64 (n + 1)) ∧ w.setCell a (.int .i64 (n + 1)) = w' := by
  have hs : IntKind.i64.wrap (n + 1) = n + 1 := IntWalk.i64_in _ (by omega)
  have hadd := run_call_add (P := Try.prog) Try.func60 (by kernel_rfl) (by kernel_rfl) (by kernel_rfl) .i64 (by kernel_rfl) (y := 1) (s := n + 1) hc hz (by simp [go_sem, hs])
  clear hs
  go_enter Try.func48, Try.ntmps48
  go_wp2
  go_ret
  exact ⟨rfl, rfl⟩
theorem i64_is (a : Addr) (n : Int) (w : World) (hc : w.cell? a = some (.int .i64 n)) : Calls Try.prog 41 #[.pointer (some a)] w fun e w' => e = .returned (.int .i64 n) ∧ w = w' := by
  have hl := run_call_load (P := Try.prog) Try.func59 (by kernel_rfl) (by kernel_rfl) (by kernel_rfl) .i64 (by kernel_rfl) hc
  go_enter Try.func41, Try.ntmps41
  go_wp2
  go_ret
  exact ⟨rfl, rfl⟩
set_option maxRecDepth 100000 in
theorem dCount_at {B p : Nat} {kv wv lv : Value} {is : Bool} {N : Int} {D : DS} {w : World} (h : PD0 B p kv wv lv is N D w) : Calls Try.prog 16 #[.pointer (some ⟨p, 0, none⟩)] w fun e w' => e = .returned (.tuple #[.int .i64 (D.wr : Int), .int .i64 (D.br : Int)]) ∧ ∃ q, w' = w.drewN q := by
  have H6 := Lib.hid (show ∀ W, (∃ d, W = World.drewN w d) → Calls Try.prog 41 #[.pointer (some ⟨p, 6, none⟩)] W fun e w' => e = .returned (.int .i64 (D.wr : Int)) ∧ w' = W from fun W hW => by
    obtain ⟨d, rfl⟩ := hW
    exact (i64_is ⟨p, 6, none⟩ (D.wr : Int) (w.drewN d) (St.cell (w := w.drewN d) (j := 6) h.st rfl)).mono fun _ _ h => ⟨h.1, h.2.symm⟩)
  have H7 := Lib.hid (show ∀ W, (∃ d, W = World.drewN w d) → Calls Try.prog 41 #[.pointer (some ⟨p, 7, none⟩)] W fun e w' => e = .returned (.int .i64 (D.br : Int)) ∧ w' = W from fun W hW => by
    obtain ⟨d, rfl⟩ := hW
    exact (i64_is ⟨p, 7, none⟩ (D.br : Int) (w.drewN d) (St.cell (w := w.drewN d) (j := 7) h.st rfl)).mono fun _ _ h => ⟨h.1, h.2.symm⟩)
  clear h
  go_enter Try.func16, Try.ntmps16
  go_wp2_with fail
  go_quiet (first | (go_at_call 41; exact Calls.quiet_of_same (H6.out _ ⟨_, rfl⟩)) | (go_at_call 41; exact Calls.quiet_of_same (H7.out _ ⟨_, rfl⟩)))
  go_wp2_with fail
  go_ret2
  exact ⟨rfl, _, rfl⟩
set_option maxRecDepth 100000 in
theorem dArm_at (B p : Nat) (kv wv lv : Value) (is : Bool) (N : Int) (D : DS) (n : Int) (w : World) (hd : D.dead = false) (hn : n ≤ 9223372036854775807) (h : PD0 B p kv wv lv is N D w) :
    Calls Try.prog 35 #[.pointer (some ⟨p, 0, none⟩), .int .i64 n] w fun e w' => e = .returned (.int .i64 0) ∧ PDk B p kv wv lv (D.arm n).2 w' ∧ Frm (fun j => j = p) w w' := by
  have HR := Lib.hid (drefusal_at h)
  rw [hd] at HR
  have c3 : w.cell? ⟨p, 3, none⟩ = some (.bool is) := h.st.cell rfl
  have c4 : w.cell? ⟨p, 4, none⟩ = some (.int .i64 N) := h.st.cell rfl
  have f3 := h.st.free 3
  have f4 := h.st.free 4
  have e : D.arm n = (0, { D with fuse := if n < 0 then -1 else n }) := by unfold DS.arm; rw [hd]; rfl
  rw [e]
  have HE : ∀ (b : Bool), Fz b n (if n < 0 then -1 else n) → PD0 B p kv wv lv b n { D with fuse := if n < 0 then -1 else n } ((w.setCell ⟨p, 3, none⟩ (.bool b)).setCell ⟨p, 4, none⟩ (.int .i64 n)) := fun b hb => by
    have h1 := h.st.set 3 (.bool b)
    have h2 := h1.set 4 (.int .i64 n)
    exact ⟨h2, hb, ⟨rfl, h.ok.inn, h.ok.full, h.ok.fulw, by show -1 ≤ ite _ _ _; split <;> omega, by show ite _ _ _ ≤ _; split <;> omega⟩, h.pos, ownsRow_setCell_other (ownsRow_setCell_other h.kr h.kp _) h.kp _, ownsRow_setCell_other (ownsRow_setCell_other h.wr h.wp _) h.wp _, ownsRow_setCell_other (ownsRow_setCell_other h.lr h.lp _) h.lp _, h.kp, h.wp, h.lp, h.kw, h.kl, h.wl, h.bp⟩
  obtain ⟨f, hf⟩ : ∃ f, f = if n < 0 then -1 else n := ⟨_, rfl⟩
  rw [← hf] at HE ⊢
  replace HE := Lib.hid HE
  have HF := Lib.hid hf
  clear h hd e hf
  by_cases h0 : 0 ≤ n
  · have d0 : decide (n ≥ 0) = true := decide_eq_true h0
    have d1 : decide (0 ≤ n) = true := decide_eq_true h0
    go_enter Try.func35, Try.ntmps35
    go_wp2_with (go_at_call 45; go_must (refine HR.out.mono ?_); rintro e w1 ⟨rfl, rfl⟩)
    go_ret
    exact ⟨rfl, ⟨true, n, HE.out true (.inl ⟨rfl, by rw [HF.out, if_neg (by omega)], by rw [HF.out, if_neg (by omega)]; exact h0⟩)⟩, ((Frm.refl _ _).at1 _ _).at1 _ _⟩
  · have d0 : decide (n ≥ 0) = false := decide_eq_false h0
    have d1 : decide (0 ≤ n) = false := decide_eq_false h0
    go_enter Try.func35, Try.ntmps35
    go_wp2_with (go_at_call 45; go_must (refine HR.out.mono ?_); rintro e w1 ⟨rfl, rfl⟩)
    go_ret
    exact ⟨rfl, ⟨false, n, HE.out false (.inr ⟨rfl, by rw [HF.out, if_pos (by omega)]⟩)⟩, ((Frm.refl _ _).at1 _ _).at1 _ _⟩
set_option maxRecDepth 100000 in
theorem dArm_dead (B p : Nat) (kv wv lv : Value) (is : Bool) (N : Int) (D : DS) (n : Int) (w : World) (hd : D.dead = true) (h : PD0 B p kv wv lv is N D w) :
    Calls Try.prog 35 #[.pointer (some ⟨p, 0, none⟩), .int .i64 n] w fun e w' => e = .returned (.int .i64 30) ∧ w = w' := by
  have HR := Lib.hid (drefusal_at h)
  rw [hd] at HR
  clear h hd
  go_enter Try.func35, Try.ntmps35
  go_wp2_with (go_at_call 45; go_must (refine HR.out.mono ?_); rintro e w1 ⟨rfl, rfl⟩)
  go_ret
  exact ⟨rfl, rfl⟩
end Go.Proofs.Ytfipojmgmmjnmaa
