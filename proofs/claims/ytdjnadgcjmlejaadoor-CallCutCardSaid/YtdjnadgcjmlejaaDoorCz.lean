/- Calls: what the law wants of a call. -/
import Derived.Test.YtdjnadgcjmlejaaDoorCx
import Derived.Test.YtdjnadgcjmlejaaDoorCy
namespace Go.Proofs.YtdjnadgcjmlejaaDoor
open Go.RowKit

set_option maxRecDepth 100000 in
set_option maxHeartbeats 2000000 in
theorem cwants_any (c : Cl) (w : World) : Calls Tryd.prog 14 #[.agg c.arr] w fun e w' => e = .returned (.int .i64 (putR c).2) ∧ Below w.heap.size w w' := by
  have HT := fun w => cfThere_any c.proc w
  have HC := fun w => cfCheck_any c w
  have h3 : c.arr.size = 24 := rfl
  have st := St.new w 30 c.arr
  have c0 : (w.alloc (.cells c.arr 30 (0, 0))).cell? ⟨w.heap.size, 0, none⟩ = some (.int .i64 c.proc) := st.cell rfl
  have hx : (putR c).2 = (if there c.proc then (if okB c then 0 else 14) else 22) := by
    unfold putR
    split
    · split <;> rfl
    · rfl
  rw [hx]
  obtain ⟨t, ht⟩ : ∃ t, t = there c.proc := ⟨_, rfl⟩
  obtain ⟨k, hk⟩ : ∃ t, t = okB c := ⟨_, rfl⟩
  rw [← ht] at HT ⊢
  rw [← hk] at HC ⊢
  obtain ⟨cs, hcs⟩ : ∃ cs, cs = c.arr := ⟨_, rfl⟩
  rw [← hcs] at HC h3 st c0 ⊢
  replace HT := Lib.hid HT
  replace HC := Lib.hid HC
  have ST := Lib.hid st
  have H3 := Lib.hid h3
  clear ht hk hcs st h3 hx
  cases t
  · go_enter Tryd.func14, Tryd.ntmps14
    go_wp2_with (go_at_call 18; go_must (refine (HT.out _).mono ?_); rintro e w1 ⟨rfl, rfl⟩)
    go_ret
    exact ⟨rfl, below_alloc1 _ _⟩
  · cases k
    · go_enter Tryd.func14, Tryd.ntmps14
      go_wp2_with (first
        | (go_at_call 18; go_must (refine (HT.out _).mono ?_); rintro e w1 ⟨rfl, rfl⟩)
        | ((with_reducible show wpList _ _ _ ({ dst := _, op := .load _ (.tmp 1), type := _, pos := _, after := _, guard := _ } :: _) _ _); refine wpList_load_st rfl 30 _ rfl w.heap.size rfl 30 cs ST.out _ Tryd.underlying30 rfl (by rw [H3.out]; kernel_rfl) ?_)
        | (go_at_call 22; go_must (refine (HC.out _).mono ?_); rintro e w2 ⟨rfl, b2⟩))
      go_ret
      exact ⟨rfl, (below_alloc1 w _).trans (b2.mono (by simp))⟩
    · go_enter Tryd.func14, Tryd.ntmps14
      go_wp2_with (first
        | (go_at_call 18; go_must (refine (HT.out _).mono ?_); rintro e w1 ⟨rfl, rfl⟩)
        | ((with_reducible show wpList _ _ _ ({ dst := _, op := .load _ (.tmp 1), type := _, pos := _, after := _, guard := _ } :: _) _ _); refine wpList_load_st rfl 30 _ rfl w.heap.size rfl 30 cs ST.out _ Tryd.underlying30 rfl (by rw [H3.out]; kernel_rfl) ?_)
        | (go_at_call 22; go_must (refine (HC.out _).mono ?_); rintro e w2 ⟨rfl, b2⟩))
      go_ret
      exact ⟨rfl, (below_alloc1 w _).trans (b2.mono (by simp))⟩
end Go.Proofs.YtdjnadgcjmlejaaDoor
