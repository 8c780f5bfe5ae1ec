/- Calls: Check, and the fixed calls that end each statement. -/
import Derived.Test.YtdjnadgcjmlejaaDoorCr
namespace Go.Proofs.YtdjnadgcjmlejaaDoor
open Go.RowKit

def kcall : Cl := { Cl.new 3 with fh := ⟨#[104]⟩, name := ⟨#[97]⟩ }
def kbytes : List UInt8 := [0, 0, 0, 1, 104, 0, 0, 0, 0, 0, 0, 1, 97, 0, 0, 0]
theorem kput : putR kcall = (kbytes, 0) := by decide +kernel
theorem kcall_small : kcall.small := ⟨by decide, by decide, by decide, by decide, by decide, by decide⟩
theorem kcall_built : Tryd.prog.built 30 [(0, .int .i64 3), (1, .string ⟨#[104]⟩), (2, .string ⟨#[97]⟩)] = some kcall.arr := by kernel_rfl
theorem kfields : fstr 7 = ⟨#[102, 111, 104, 100]⟩ := by decide +kernel

set_option maxRecDepth 100000 in
set_option maxHeartbeats 1000000 in
theorem cknown_any (w : World) : Calls Tryd.prog 11 #[] w fun e w' => e = .returned (.bool true) ∧ Below w.heap.size w w' := by
  have HP := fun w => cPut_any kcall w kcall_small
  rw [kput] at HP
  dsimp only at HP
  have HF := fun w => cFields_any 7 w
  rw [kfields] at HF
  have hb := kcall_built
  obtain ⟨row, hrow⟩ : ∃ r, r = kcall.arr := ⟨_, rfl⟩
  rw [← hrow] at HP hb
  have hkt : ((str kbytes).toList == [0, 0, 0, 1, 104, 0, 0, 0, 0, 0, 0, 1, 97, 0, 0, 0]) = true := by decide +kernel
  replace HP := Lib.hid HP
  replace HF := Lib.hid HF
  have HB := Lib.hid hb
  clear hrow hb
  go_enter Tryd.func11, Tryd.ntmps11
  go_wp2_with (first
    | ((with_reducible show wpList _ _ _ ({ dst := _, op := .build _ _, type := _, pos := _, after := _, guard := _ } :: _) _ _); refine wpList_build_as rfl 30 _ rfl row HB.out ?_)
    | (go_at_call 13; go_must (refine (HP.out _).mono ?_); rintro e w1 ⟨rfl, b1⟩)
    | (go_at_call 7; go_must (refine (HF.out _).mono ?_); rintro e w2 ⟨rfl, b2⟩))
  go_ret
  exact ⟨rfl, b1.trans (b2.mono b1.size)⟩

set_option maxRecDepth 100000 in
set_option maxHeartbeats 1000000 in
theorem cCheck_any (c : Cl) (w : World) (hc : c.small) : Calls Tryd.prog 15 #[.agg c.arr] w fun e w' => e = .returned (.int .i64 (putR c).2) ∧ Below w.heap.size w w' := by
  have HP := fun w => cPut_any c w hc
  have h3 : c.arr.size = 24 := rfl
  have st := St.new w 30 c.arr
  obtain ⟨q, hq⟩ : ∃ q, q = putR c := ⟨_, rfl⟩
  rw [← hq] at HP ⊢
  obtain ⟨bs, x⟩ := q
  dsimp only at HP ⊢
  obtain ⟨cs, hcs⟩ : ∃ cs, cs = c.arr := ⟨_, rfl⟩
  rw [← hcs] at HP h3 st ⊢
  replace HP := Lib.hid HP
  have ST := Lib.hid st
  have H3 := Lib.hid h3
  clear hq hcs st h3
  go_enter Tryd.func15, Tryd.ntmps15
  go_wp2_with (first
    | ((with_reducible show wpList _ _ _ ({ dst := _, op := .load _ _, type := _, pos := _, after := _, guard := _ } :: _) _ _); refine wpList_load_st rfl 30 _ rfl w.heap.size rfl 30 cs ST.out _ Tryd.underlying30 rfl (by rw [H3.out]; kernel_rfl) ?_)
    | (go_at_call 13; go_must (refine (HP.out _).mono ?_); rintro e w1 ⟨rfl, b1⟩))
  go_ret
  exact ⟨rfl, (below_alloc1 w _).trans (b1.mono (by simp))⟩
end Go.Proofs.YtdjnadgcjmlejaaDoor
