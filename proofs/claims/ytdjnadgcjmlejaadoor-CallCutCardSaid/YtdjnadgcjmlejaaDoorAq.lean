/- Attributes, options and changes as they are read: plain definitions over the readers' words; no function of attr is named here. -/
import Derived.Test.YtdjnadgcjmlejaaDoorRz
import Derived.Test.YtdjnadgcjmlejaaDoorAp
namespace Go.Proofs.YtdjnadgcjmlejaaDoor
open Go.RowKit

/-- As they are read. -/
theorem rdU32_err {s : ByteArray} {e : Int} (h : e ≠ 0) : rdU32 s e = (s, e, 0) := by unfold rdU32; rw [if_pos h]
theorem rdU64_err {s : ByteArray} {e : Int} (h : e ≠ 0) : rdU64 s e = (s, e, 0) := by unfold rdU64; rw [if_pos h]
theorem rdBool_err {s : ByteArray} {e : Int} (h : e ≠ 0) : rdBool s e = (s, e, false) := by unfold rdBool; rw [if_pos h]
theorem rdOpt_err {s : ByteArray} {e : Int} (h : e ≠ 0) : rdOpt s e = (s, e, false, 0) := by
  unfold rdOpt; rw [rdBool_err h, if_pos rfl]
def paTake (s : ByteArray) (e : Int) : ByteArray × Int × Pa :=
  let (s1, e1, n1) := rdU32 s e
  let (s2, e2, n2) := rdU32 s1 e1
  let (s3, e3, n3) := rdU32 s2 e2
  let (s4, e4, n4) := rdU32 s3 e3
  let (s5, e5, n5) := rdU32 s4 e4
  let (s6, e6, n6) := rdU64 s5 e5
  let (s7, e7, n7) := rdU32 s6 e6
  let (s8, e8, n8) := rdU64 s7 e7
  let (s9, e9, n9) := rdU64 s8 e8
  let (s10, e10, n10) := rdU64 s9 e9
  (s10, e10, ⟨n1, n2, n3, n4, n5, n6, n7, n8, n9, n10⟩)
theorem paTake_of {s s1 s2 s3 s4 s5 s6 s7 s8 s9 s10 : ByteArray} {e e1 e2 e3 e4 e5 e6 e7 e8 e9 e10 n1 n2 n3 n4 n5 n6 n7 n8 n9 n10 : Int}
    (h1 : rdU32 s e = (s1, e1, n1)) (h2 : rdU32 s1 e1 = (s2, e2, n2)) (h3 : rdU32 s2 e2 = (s3, e3, n3)) (h4 : rdU32 s3 e3 = (s4, e4, n4)) (h5 : rdU32 s4 e4 = (s5, e5, n5))
    (h6 : rdU64 s5 e5 = (s6, e6, n6)) (h7 : rdU32 s6 e6 = (s7, e7, n7)) (h8 : rdU64 s7 e7 = (s8, e8, n8)) (h9 : rdU64 s8 e8 = (s9, e9, n9)) (h10 : rdU64 s9 e9 = (s10, e10, n10)) :
    paTake s e = (s10, e10, ⟨n1, n2, n3, n4, n5, n6, n7, n8, n9, n10⟩) := by
  simp only [paTake, h1, h2, h3, h4, h5, h6, h7, h8, h9, h10]
theorem paTake_err {s : ByteArray} {e : Int} (h : e ≠ 0) : paTake s e = (s, e, .zero) :=
  paTake_of (rdU32_err h) (rdU32_err h) (rdU32_err h) (rdU32_err h) (rdU32_err h) (rdU64_err h) (rdU32_err h) (rdU64_err h) (rdU64_err h) (rdU64_err h)
def ppTake (s : ByteArray) (e : Int) : ByteArray × Int × Pp :=
  let (s1, e1, b) := rdBool s e
  if b then let (s2, e2, a) := paTake s1 e1; (s2, e2, ⟨true, a⟩) else (s1, e1, ⟨false, .zero⟩)
theorem ppTake_no {s s1 : ByteArray} {e e1 : Int} (h : rdBool s e = (s1, e1, false)) : ppTake s e = (s1, e1, .zero) := by simp [ppTake, h, Pp.zero]
theorem ppTake_yes {s s1 s2 : ByteArray} {e e1 e2 : Int} {a : Pa} (h : rdBool s e = (s1, e1, true)) (g : paTake s1 e1 = (s2, e2, a)) : ppTake s e = (s2, e2, ⟨true, a⟩) := by simp [ppTake, h, g]
theorem ppTake_err {s : ByteArray} {e : Int} (h : e ≠ 0) : ppTake s e = (s, e, .zero) := ppTake_no (rdBool_err h)
def pwTake (s : ByteArray) (e : Int) : ByteArray × Int × Pw :=
  let (s1, e1, b, n) := rdOpt s e
  let (s2, e2, p) := ppTake s1 e1
  (s2, e2, ⟨⟨b, n⟩, p⟩)
theorem pwTake_of {s s1 s2 : ByteArray} {e e1 e2 n : Int} {b : Bool} {p : Pp} (h : rdOpt s e = (s1, e1, b, n)) (g : ppTake s1 e1 = (s2, e2, p)) : pwTake s e = (s2, e2, ⟨⟨b, n⟩, p⟩) := by simp [pwTake, h, g]
theorem pwTake_err {s : ByteArray} {e : Int} (h : e ≠ 0) : pwTake s e = (s, e, .zero) := pwTake_of (rdOpt_err h) (ppTake_err h)
def psTake (s : ByteArray) (e : Int) : ByteArray × Int × Ps :=
  let (s1, e1, b1, n1) := rdOpt s e
  let (s2, e2, b2, n2) := rdOpt s1 e1
  let (s3, e3, b3, n3) := rdOpt s2 e2
  let (s4, e4, b4, n4) := rdOpt s3 e3
  let (s5, e5, b5, n5) := rdOpt s4 e4
  (s5, e5, ⟨⟨b1, n1⟩, ⟨b2, n2⟩, ⟨b3, n3⟩, ⟨b4, n4⟩, ⟨b5, n5⟩⟩)
theorem psTake_of {s s1 s2 s3 s4 s5 : ByteArray} {e e1 e2 e3 e4 e5 n1 n2 n3 n4 n5 : Int} {b1 b2 b3 b4 b5 : Bool}
    (h1 : rdOpt s e = (s1, e1, b1, n1)) (h2 : rdOpt s1 e1 = (s2, e2, b2, n2)) (h3 : rdOpt s2 e2 = (s3, e3, b3, n3)) (h4 : rdOpt s3 e3 = (s4, e4, b4, n4)) (h5 : rdOpt s4 e4 = (s5, e5, b5, n5)) :
    psTake s e = (s5, e5, ⟨⟨b1, n1⟩, ⟨b2, n2⟩, ⟨b3, n3⟩, ⟨b4, n4⟩, ⟨b5, n5⟩⟩) := by
  simp only [psTake, h1, h2, h3, h4, h5]
theorem psTake_err {s : ByteArray} {e : Int} (h : e ≠ 0) : psTake s e = (s, e, .zero) :=
  psTake_of (rdOpt_err h) (rdOpt_err h) (rdOpt_err h) (rdOpt_err h) (rdOpt_err h)
/-- What is got: the value, and the error. -/
def got {α : Type} (zero : α) (ok : α → Bool) (t : ByteArray × Int × α) : α × Int :=
  if t.2.1 ≠ 0 then (zero, t.2.1) else if ok t.2.2 then (t.2.2, 0) else (zero, 14)
theorem got_err {α : Type} {zero : α} {ok : α → Bool} {s : ByteArray} {e : Int} {v : α} (h : e ≠ 0) : got zero ok (s, e, v) = (zero, e) := by unfold got; rw [if_pos h]
theorem got_not {α : Type} {zero : α} {ok : α → Bool} {s : ByteArray} {v : α} (h : ok v = false) : got zero ok (s, 0, v) = (zero, 14) := by unfold got; simp [h]
theorem got_ok {α : Type} {zero : α} {ok : α → Bool} {s : ByteArray} {v : α} (h : ok v = true) : got zero ok (s, 0, v) = (v, 0) := by unfold got; simp [h]
end Go.Proofs.YtdjnadgcjmlejaaDoor
