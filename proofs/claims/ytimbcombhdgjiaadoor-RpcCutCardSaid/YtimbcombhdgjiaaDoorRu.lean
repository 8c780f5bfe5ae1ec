/- Numbers, booleans and options that are read. -/
import Derived.Test.YtimbcombhdgjiaaDoorRt
namespace Go.Proofs.YtimbcombhdgjiaaDoor
open Go.RowKit

def rdU32 (s : ByteArray) (e : Int) : ByteArray × Int × Int :=
  if e ≠ 0 then (s, e, 0) else if s.size < 4 then (⟨#[]⟩, 10, 0) else (s.extract 4 s.size, 0, num (s.extract 0 4).data.toList)
def rdU64 (s : ByteArray) (e : Int) : ByteArray × Int × Int :=
  if e ≠ 0 then (s, e, 0) else if s.size < 8 then (⟨#[]⟩, 10, 0) else if 9223372036854775807 < num (s.extract 0 8).data.toList then (⟨#[]⟩, 3, 0) else (s.extract 8 s.size, 0, num (s.extract 0 8).data.toList)
def rdBool (s : ByteArray) (e : Int) : ByteArray × Int × Bool :=
  if e ≠ 0 then (s, e, false) else if s.size < 4 then (⟨#[]⟩, 10, false) else if 1 < num (s.extract 0 4).data.toList then (⟨#[]⟩, 13, false) else (s.extract 4 s.size, 0, (num (s.extract 0 4).data.toList : Int) == 1)

/-- What a method of a reader leaves. -/
def Took (k : Nat) (s : ByteArray) (e : Int) (v : Value) (w : World) (r : Ending) (w' : World) : Prop := r = .returned v ∧ Rd k s e w' ∧ Keep k none w w'

theorem keep_boxed {k : Nat} {o : Obj} {w w' : World} (h : Keep k (some w.heap.size) (w.alloc o) w') : Keep k none w w' :=
  ⟨h.os, h.tape, h.output, Nat.le_trans (by simp) h.size, fun j hj hk _ => (h.block j (by simp; omega) hk (by intro e; injection e with e; omega)).trans (Below.heap_alloc w o j hj)⟩
theorem keep_new {k b : Nat} {r : Option Nat} {w w' : World} (h : Keep k r w w') (hb : w.heap.size ≤ b) (i : Nat) (v : Value) : Keep k r w (w'.setCell ⟨b, i, none⟩ v) :=
  ⟨h.os, h.tape, h.output, by simpa [World.setCell] using h.size, fun j hj hk hr => (Below.heap_setCell w' _ v j (by simp; omega)).trans (h.block j hj hk hr)⟩
theorem keep_boxed0 {k : Nat} {o : Obj} {w : World} : Keep k none w (w.alloc o) := (Keep.refl _ _ _).alloc o
theorem keep_boxed1 {k : Nat} {o : Obj} {w w' : World} (h : Keep k none (w.alloc o) w') : Keep k none w w' := keep_boxed ⟨h.os, h.tape, h.output, h.size, fun j hj hk _ => h.block j hj hk (by simp)⟩

set_option maxRecDepth 100000 in
theorem rU32_at (k : Nat) (s : ByteArray) (e : Int) (w : World) (h : Rd k s e w) :
    Calls Tryd.prog 39 #[.pointer (some ⟨k, 0, none⟩)] w fun r w' => Took k (rdU32 s e).1 (rdU32 s e).2.1 (.int .i64 (rdU32 s e).2.2) w r w' := by
  have hmf : ∀ (fn : Fn) (first cap : Array Value) (w : World), (Instr.makeFunc fn first cap).run Tryd.prog w = .ok (.func fn first cap) w := fun _ _ _ _ => rfl
  have hkb : k ≠ w.heap.size := Nat.ne_of_lt (St.lt h)
  have hB := St.new w 3 #[.int .i64 0]
  have hR : Rd k s e (w.alloc (.cells #[.int .i64 0] 3 (0, 0))) := St.alloc h _
  by_cases he : e = 0
  · subst he
    by_cases hl : s.size < 4
    · have ed : rdU32 s 0 = (⟨#[]⟩, 10, 0) := by simp [rdU32, hl]
      rw [ed]
      have ht := rtake_short k s 4 (.func (.func 46) #[] #[.pointer (some ⟨w.heap.size, 0, none⟩)]) _ (by omega) hR
      have HT := Lib.hid ht
      have HB := Lib.hid hB
      clear ht ed hl hB
      go_enter Tryd.func39, Tryd.ntmps39
      go_wp2_with (go_at_call 45; go_must (refine HT.out.mono ?_); rintro e w1 ⟨rfl, hr, hk⟩; have hst := St.keep HB.out hk (Ne.symm hkb) (by simp); have cb := hst.cell (j := 0) rfl; have fb := hst.free 0)
      have g := (hst.set 0 (.int .i64 0)).cell (j := 0) rfl
      exact bodyPost_ret (v := .int .i64 0) (by simp [results, Tryd.results39, go_sem] at g ⊢; simp [g]) rfl ⟨rfl, St.other hr _ _ _ (Ne.symm hkb), keep_new (keep_boxed1 hk) (Nat.le_refl _) _ _⟩
    · have ed : rdU32 s 0 = (s.extract 4 s.size, 0, (num (s.extract 0 4).data.toList : Int)) := by unfold rdU32; rw [if_neg (by simp), if_neg hl]
      rw [ed]
      have ht := rtake_U32 k w.heap.size s (.int .i64 0) _ hkb (by omega) hR hB
      generalize ((num (s.extract 0 4).data.toList : Nat) : Int) = V at ht ⊢
      have HT := Lib.hid ht
      clear ht ed hl
      go_enter Tryd.func39, Tryd.ntmps39
      go_wp2_with (go_at_call 45; go_must (refine HT.out.mono ?_); rintro e w1 ⟨rfl, hr, hst, hk⟩; have cb := hst.cell (j := 0) rfl; have fb := hst.free 0)
      have g := (hst.set 0 (.int .i64 V)).cell (j := 0) rfl
      exact bodyPost_ret (v := .int .i64 V) (by simp [results, Tryd.results39, go_sem] at g ⊢; simp [g]) rfl ⟨rfl, St.other hr _ _ _ (Ne.symm hkb), keep_new (keep_boxed hk) (Nat.le_refl _) _ _⟩
  · have ed : rdU32 s e = (s, e, 0) := by simp [rdU32, he]
    rw [ed]
    have ht := rtake_no k s e 4 (.func (.func 46) #[] #[.pointer (some ⟨w.heap.size, 0, none⟩)]) _ he hR
    have HT := Lib.hid ht
    clear ht ed
    go_enter Tryd.func39, Tryd.ntmps39
    go_wp2_with (go_at_call 45; go_must (refine HT.out.mono ?_); rintro e w1 ⟨rfl, rfl⟩)
    go_returns
    exact ⟨rfl, hR, keep_boxed0⟩

end Go.Proofs.YtimbcombhdgjiaaDoor
