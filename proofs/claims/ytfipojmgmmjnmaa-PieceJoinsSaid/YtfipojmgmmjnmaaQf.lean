/- The law's fixed calls of pieces. -/
import Derived.Test.YtfipojmgmmjnmaaQd
import Derived.Test.YtfipojmgmmjnmaaJf
import Derived.Test.YtfipojmgmmjnmaaJd
import Derived.Laws.OwnMore
namespace Go.Proofs.Ytfipojmgmmjnmaa
open Go.RowKit

theorem wpList_mk {P : Program} {ops : Array Oper} {rest : List Oper} {o : Oper} {a : Act} {w : World} {Q : Exit → Act → World → Prop} (hgd : o.guard = none) (t e : TypeId) (x y : Operand) (ho : o.op = .makeSlice t x y) (i : TypeInfo) (z : Value) (size : Nat)
    (ht : P.underlying t = some (.slice e)) (hi : P.info? e = some i) (hz : i.zero = some z) (hs : i.size = size) (n : Nat) (hx : a.eval x = .int .i64 (n : Int)) (hy : a.eval y = .int .i64 (n : Int)) (hbytes : (i.bytes : Int) * n ≤ 281474976710656) (h63 : (n : Int) ≤ 9223372036854775807)
    (h : wpList P ops Q rest (a.put o.dst (.slice (some ⟨w.heap.size, 0, none⟩) n n)) (w.alloc (.cells (madeCells z.cells (n * size)) e))) : wpList P ops Q (o :: rest) a w := by
  subst hs
  refine wpList_plain hgd fun K hK => ?_
  have hrun := run_make (P := P) w t e i z ht hi hz .i64 .i64 n n (by omega) (Int.le_refl _) hbytes h63
  simp only [Int.toNat_natCast] at hrun
  unfold Oper.wp execOp
  simp only [ho, hx, hy, Sem.run_bind, hrun, Result.andThen_ok]
  exact hK _ _ h
theorem infoU8 : (Try.prog.info? 5).map (fun i => (i.zero, i.size, i.bytes)) = some (some (.int .u8 0), 1, 1) := by kernel_rfl
set_option maxRecDepth 100000 in
set_option maxHeartbeats 1000000 in
theorem pcknown_any (w : World) : Calls Try.prog 26 #[] w fun a w' => a = .returned (.bool true) ∧ Below w.heap.size w w' := by
  obtain ⟨i0, hi, hz0, hz1, hz2⟩ := info_parts infoU8
  have hb : (i0.bytes : Int) * ((101 : Nat) : Int) ≤ 281474976710656 := by rw [hz2]; decide
  obtain ⟨n, hn⟩ : ∃ n : Nat, n = 101 := ⟨_, rfl⟩
  have hown : (w.alloc (.cells (madeCells #[Value.int .u8 0] n) 5 (0, 0))).ownsRow w.heap.size 5 1 (.slice (some ⟨w.heap.size, 0, none⟩) (List.replicate n (0 : UInt8)).length (List.replicate n (0 : UInt8)).length) (List.replicate n (0 : UInt8)).length (bc (List.replicate n (0 : UInt8))) := by
    have h := World.ownsRow_lit (base := w.heap.size) (e := 5) (size := 1) w (madeCells #[Value.int .u8 0] n) n (Nat.le_refl _) (by unfold maxLen; omega) (by rw [size_madeCells, Nat.mul_one])
    rw [toList_madeCells_one] at h
    rw [List.length_replicate]
    have e : bc (List.replicate n (0 : UInt8)) = List.replicate n (.int .u8 0) := by unfold bc; rw [List.map_replicate]; rfl
    rw [e]
    exact h
  have hconv := own_text (P := Try.prog) (src := 88) (dst := 9) hown Try.underlying88 Try.underlying5 Try.underlying9
  rw [List.length_replicate] at hconv
  have hbw := (Below.refl w.heap.size w).alloc (Nat.le_refl _) (.cells (madeCells #[Value.int .u8 0] n) 5 (0, 0))
  obtain ⟨r, hr⟩ : ∃ r, r = str (List.replicate n (0 : UInt8)) := ⟨_, rfl⟩
  have hrs : r.size = 101 := by rw [hr, str_size, List.length_replicate, hn]
  rw [← hr] at hconv
  have HC := Lib.hid (fun W => pcCut_do r 1 1 W (by omega) (by decide))
  have hc2 : cnt r.size = 2 := by rw [hrs]; rfl
  rw [hc2] at HC
  have hp0 := pieces_at r 1 1 0 (by rw [hc2]; decide)
  have hp1 := pieces_at r 1 1 1 (by rw [hc2]; decide)
  obtain ⟨L, hL⟩ : ∃ L, L = pieces r 1 1 := ⟨_, rfl⟩
  rw [← hL] at HC hp0 hp1
  have hs0 : (pieceAt r 1 1 0).data.size = 100 := by show (chunk r 0).size = 100; rw [chunk_size, hrs]; rfl
  have hs1 : (pieceAt r 1 1 1).data.size = 1 := by show (chunk r 1).size = 1; rw [chunk_size, hrs]; rfl
  obtain ⟨x0, hx0⟩ : ∃ x, x = pieceAt r 1 1 0 := ⟨_, rfl⟩
  obtain ⟨x1, hx1⟩ : ∃ x, x = pieceAt r 1 1 1 := ⟨_, rfl⟩
  rw [← hx0] at hp0 hs0
  rw [← hx1] at hp1 hs1
  have HP := Lib.hid (And.intro (pcells_at L 0 x0 hp0 4 (.string x0.data) rfl) (pcells_at L 1 x1 hp1 4 (.string x1.data) rfl))
  obtain ⟨c0, hc0⟩ : ∃ c, c = x0.data := ⟨_, rfl⟩
  obtain ⟨c1, hc1⟩ : ∃ c, c = x1.data := ⟨_, rfl⟩
  rw [← hc0] at hs0 HP
  rw [← hc1] at hs1 HP
  clear hL hp0 hp1 hx0 hx1 hc0 hc1
  have HK := Lib.hid (fun W => pcCount_in 0 W (by omega))
  have HB := Lib.hid hbw
  have HNN := Lib.hid hn
  clear hown hr hrs hbw hc2 hn
  go_enter Try.func26, Try.ntmps26
  go_wp2_with (first
    | ((with_reducible show wpList _ _ _ ({ dst := _, op := .makeSlice _ _ _, type := _, pos := _, after := _, guard := _ } :: _) _ _); refine wpList_mk rfl 88 5 _ _ rfl i0 (.int .u8 0) 1 Try.underlying88 hi hz0 hz1 n (by rw [HNN.out]; rfl) (by rw [HNN.out]; rfl) (by rw [HNN.out]; exact hb) (by rw [HNN.out]; decide) ?_)
    | (go_at_call 27; go_must (refine (HC.out _).mono ?_); rintro a w1 ⟨v, rfl, ho, b1⟩; obtain ⟨g, cap, rfl, _, _, hcell⟩ := own_some ho (by decide); have k0 := hcell 4 _ HP.out.1; have k1 := hcell 9 _ HP.out.2; have B1 := Lib.hid b1; clear ho b1 hcell)
    | (go_at_call 28; go_must (refine (HK.out _).mono ?_); rintro a w2 ⟨rfl, q2, rfl⟩))
  go_ret
  refine ⟨rfl, ?_⟩
  have b := HB.out.trans (B1.out.mono HB.out.size)
  exact below_drewN b q2
end Go.Proofs.Ytfipojmgmmjnmaa
