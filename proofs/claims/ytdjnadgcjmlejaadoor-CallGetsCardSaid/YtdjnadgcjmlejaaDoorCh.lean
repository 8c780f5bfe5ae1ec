/- Calls: the program's write. -/
import Derived.Test.YtdjnadgcjmlejaaDoorCg
namespace Go.Proofs.YtdjnadgcjmlejaaDoor
open Go.RowKit

theorem Cl.arr_size (c : Cl) : c.arr.size = 24 := rfl
theorem Cl.arr_one (c : Cl) : c.arr.all (·.oneCell') = true := by kernel_rfl

set_option maxRecDepth 100000 in
set_option maxHeartbeats 1000000 in
theorem cwrite_any (c : Cl) (w : World) (hc : c.small) : Calls Tryd.prog 21 #[.agg c.arr] w fun e w' => e = .returned (.string (str (clBytes c))) ∧ Below w.heap.size w w' := by
  have st0 := Lib.hid (((St.new w 30 c.arr).alloc (.cells #[.slice none 0 0] 60 (0, 0))).alloc (.cells #[.pointer (some ⟨w.heap.size + 1, 0, none⟩)] 57 (0, 0)))
  have wr0 := Lib.hid (show Wr 60 5 (w.heap.size + 1) none [] (((w.alloc (.cells c.arr 30 (0, 0))).alloc (.cells #[.slice none 0 0] 60 (0, 0))).alloc (.cells #[.pointer (some ⟨w.heap.size + 1, 0, none⟩)] 57 (0, 0))) from by
    have := (wr_new (T := 60) (E := 5) (w := w.alloc (.cells c.arr 30 (0, 0)))).alloc (.cells #[.pointer (some ⟨w.heap.size + 1, 0, none⟩)] 57 (0, 0))
    simpa using this)
  have pv0 := Lib.hid (show St 57 (w.heap.size + 1 + 1) #[.pointer (some ⟨w.heap.size + 1, 0, none⟩)] (((w.alloc (.cells c.arr 30 (0, 0))).alloc (.cells #[.slice none 0 0] 60 (0, 0))).alloc (.cells #[.pointer (some ⟨w.heap.size + 1, 0, none⟩)] 57 (0, 0))) from by
    have := St.new ((w.alloc (.cells c.arr 30 (0, 0))).alloc (.cells #[.slice none 0 0] 60 (0, 0))) 57 #[.pointer (some ⟨w.heap.size + 1, 0, none⟩)]
    simpa using this)
  have f0 := Lib.hid ((below_alloc2 w (.cells c.arr 30 (0, 0)) (.cells #[.slice none 0 0] 60 (0, 0))).alloc (by simp; omega) (.cells #[.pointer (some ⟨w.heap.size + 1, 0, none⟩)] 57 (0, 0)))
  have HV := Lib.hid (fun W h1 h2 h3 hB => visit_w w.heap.size w.heap.size (w.heap.size + 1 + 1) (w.heap.size + 1) c W hc hB ⟨by omega, by omega⟩ h1 h2 h3)
  obtain ⟨cs, hcs⟩ : ∃ cs, cs = c.arr := ⟨_, rfl⟩
  rw [← hcs] at st0 wr0 pv0 f0 HV ⊢
  obtain ⟨bs, hbs⟩ : ∃ bs, bs = clBytes c := ⟨_, rfl⟩
  rw [← hbs] at HV ⊢
  clear hcs hbs hc
  go_enter Tryd.func21, Tryd.ntmps21
  go_wp2_with (fail)
  go_must (refine (HV.out _ st0.out pv0.out wr0.out ⟨by omega, by simp; omega⟩).mono ?_)
  rintro e w1 ⟨rfl, ⟨r, hr⟩, hb, hB⟩
  have c1 : w1.cell? ⟨w.heap.size + 1 + 1, 0, none⟩ = some (.pointer (some ⟨w.heap.size + 1, 0, none⟩)) := hb.cell rfl
  have HR := Lib.hid hr
  have HL := Lib.hid (f0.out.trans hB)
  clear hr hb hB
  go_wp2_with (go_at_call 44; go_must (refine (wText_any _ r bs _ HR.out).mono ?_); rintro e w2 ⟨rfl, rfl⟩)
  go_ret
  exact ⟨rfl, HL.out⟩
end Go.Proofs.YtdjnadgcjmlejaaDoor
