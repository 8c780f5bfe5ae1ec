/- Numbers, booleans and options that are read. -/
import Derived.Test.YtimbcombhdgjiaaRt
namespace Go.Proofs.Ytimbcombhdgjiaa
open Go.RowKit

def rdU32 (s : ByteArray) (e : Int) : ByteArray × Int × Int :=
  if e ≠ 0 then (s, e, 0) else if s.size < 4 then (⟨#[]⟩, 10, 0) else (s.extract 4 s.size, 0, num (s.extract 0 4).data.toList)
def rdU64 (s : ByteArray) (e : Int) : ByteArray × Int × Int :=
  if e ≠ 0 then (s, e, 0) else if s.size < 8 then (⟨#[]⟩, 10, 0) else if 9223372036854775807 < num (s.extract 0 8).data.toList then (⟨#[]⟩, 3, 0) else (s.extract 8 s.size, 0, num (s.extract 0 8).data.toList)
def rdBool (s : ByteArray) (e : Int) : ByteArray × Int × Bool :=
  if e ≠ 0 then (s, e, false) else if s.size < 4 then (⟨#[]⟩, 10, false) else if 1 < num (s.extract 0 4).data.toList then (⟨#[]⟩, 13, false) else (s.extract 4 s.size, 0, (num (s.extract 0 4).data.toList : Int) == 1)

theorem keep_boxed {k : Nat} {o : Obj} {w w' : World} (h : Keep k (some w.heap.size) (w.alloc o) w') : Keep k none w w' :=
  ⟨h.os, h.tape, h.output, Nat.le_trans (by simp) h.size, fun j hj hk _ => (h.block j (by simp; omega) hk (by intro e; injection e with e; omega)).trans (Below.heap_alloc w o j hj)⟩
theorem keep_new {k b : Nat} {r : Option Nat} {w w' : World} (h : Keep k r w w') (hb : w.heap.size ≤ b) (i : Nat) (v : Value) : Keep k r w (w'.setCell ⟨b, i, none⟩ v) :=
  ⟨h.os, h.tape, h.output, by simpa [World.setCell] using h.size, fun j hj hk hr => (Below.heap_setCell w' _ v j (by simp; omega)).trans (h.block j hj hk hr)⟩
theorem keep_boxed0 {k : Nat} {o : Obj} {w : World} : Keep k none w (w.alloc o) := (Keep.refl _ _ _).alloc o
theorem keep_boxed1 {k : Nat} {o : Obj} {w w' : World} (h : Keep k none (w.alloc o) w') : Keep k none w w' := keep_boxed ⟨h.os, h.tape, h.output, h.size, fun j hj hk _ => h.block j hj hk (by simp)⟩

end Go.Proofs.Ytimbcombhdgjiaa
