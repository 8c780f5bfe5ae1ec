/- PROVED HERE: for every call and text, the law CallCut returns true: the bytes of any call that lack the last four, or have more behind, are no call's of its procedure. CONDITIONS: the two tables that the row lists read as laid; the walks never read them. -/
import Derived.Test.YtdjnadgcjmlejaaDoorCs
import Derived.Test.YtdjnadgcjmlejaaDoorCp
import Derived.Test.YtdjnadgcjmlejaaDoorCz
import Derived.Test.YtdjnadgcjmlejaaDoorCv
import Derived.Test.YtdjnadgcjmlejaaDoorLaw
import Derived.Test.YtdjnadgcjmlejaaDoorLw
import Derived.RegionTactic
import Derived.ChangeMaps5
namespace Go.Proofs.YtdjnadgcjmlejaaDoor.callCut
open Go.ChangeShapes Go.WideShapes Go.ChangeAt Go.RowKit
open Go.ChangeMaps (open_string shut_string)

theorem putR_ok {c : Cl} (h : (putR c).2 = 0) : there c.proc = true ∧ okB c = true ∧ (putR c).1 = clBytes c := by
  unfold putR at h ⊢
  split
  · rename_i h1
    rw [if_pos h1] at h
    split
    · rename_i h2
      exact ⟨h1, h2, rfl⟩
    · rename_i h2
      rw [if_neg h2] at h
      cases h
  · rename_i h1
    rw [if_neg h1] at h
    cases h

set_option maxRecDepth 100000 in
set_option maxHeartbeats 4000000 in
theorem walk_large (c : Cl) (more : ByteArray) (w : World) (hl : c.large = true) : Calls Tryd.prog 6 #[.agg c.arr, .string more] w fun e w' => e = .returned (.bool true) ∧ Below w.heap.size w w' := by
  have h3 : c.arr.size = 24 := rfl
  have h4 : c.arr.all (·.oneCell') = true := Cl.arr_one _
  have st := St.new w 30 c.arr
  have HG := fun w => cfLarge_any c w
  rw [hl] at HG
  obtain ⟨cs, hcs⟩ : ∃ cs, cs = c.arr := ⟨_, rfl⟩
  rw [← hcs] at h3 h4 st HG ⊢
  have S0 := Lib.hid st
  have L0 := Lib.hid (below_alloc1 w (.cells cs 30 (0, 0)))
  have H3 := Lib.hid h3
  have H4 := Lib.hid h4
  replace HG := Lib.hid HG
  clear hl
  clear hcs st h3 h4
  go_enter Tryd.func6, Tryd.ntmps6
  go_wp2_with (first
    | ((with_reducible show wpList _ _ _ ({ dst := _, op := .load _ (.tmp 2), type := _, pos := _, after := _, guard := _ } :: _) _ _); refine wpList_load_stg (by kernel_rfl) 30 _ rfl w.heap.size rfl 30 cs (by first | exact S0.out) _ Tryd.underlying30 rfl (by rw [H3.out]; kernel_rfl) ?_)
    | (go_at_call 12; go_must (refine (HG.out _).mono ?_); rintro e w1 ⟨rfl, b1⟩; have S1 := Lib.hid (S0.out.below b1); have L1 := Lib.hid (L0.out.trans (b1.mono L0.out.size)); clear b1)
    | (go_at_call 11; go_must (refine (cknown_any _).mono ?_); rintro e w9 ⟨rfl, b9⟩; have L9 := Lib.hid (L1.out.trans (b9.mono L1.out.size)); clear b9))
  all_goals go_ret
  all_goals exact ⟨rfl, L9.out⟩

set_option maxRecDepth 100000 in
set_option maxHeartbeats 4000000 in
theorem walk_more (c : Cl) (more : ByteArray) (w : World) (hl : c.large = false) (hm : 100 < more.size) : Calls Tryd.prog 6 #[.agg c.arr, .string more] w fun e w' => e = .returned (.bool true) ∧ Below w.heap.size w w' := by
  have h3 : c.arr.size = 24 := rfl
  have h4 : c.arr.all (·.oneCell') = true := Cl.arr_one _
  have st := St.new w 30 c.arr
  have HG := fun w => cfLarge_any c w
  rw [hl] at HG
  have d1 : decide ((more.size : Int) > 100) = true := decide_eq_true (by omega)
  obtain ⟨cs, hcs⟩ : ∃ cs, cs = c.arr := ⟨_, rfl⟩
  rw [← hcs] at h3 h4 st HG ⊢
  have S0 := Lib.hid st
  have L0 := Lib.hid (below_alloc1 w (.cells cs 30 (0, 0)))
  have H3 := Lib.hid h3
  have H4 := Lib.hid h4
  replace HG := Lib.hid HG
  clear hl hm
  clear hcs st h3 h4
  go_enter Tryd.func6, Tryd.ntmps6
  go_wp2_with (first
    | ((with_reducible show wpList _ _ _ ({ dst := _, op := .load _ (.tmp 2), type := _, pos := _, after := _, guard := _ } :: _) _ _); refine wpList_load_stg (by kernel_rfl) 30 _ rfl w.heap.size rfl 30 cs (by first | exact S0.out) _ Tryd.underlying30 rfl (by rw [H3.out]; kernel_rfl) ?_)
    | (go_at_call 12; go_must (refine (HG.out _).mono ?_); rintro e w1 ⟨rfl, b1⟩; have S1 := Lib.hid (S0.out.below b1); have L1 := Lib.hid (L0.out.trans (b1.mono L0.out.size)); clear b1)
    | (go_at_call 11; go_must (refine (cknown_any _).mono ?_); rintro e w9 ⟨rfl, b9⟩; have L9 := Lib.hid (L1.out.trans (b9.mono L1.out.size)); clear b9))
  all_goals go_ret
  all_goals exact ⟨rfl, L9.out⟩

set_option maxRecDepth 100000 in
set_option maxHeartbeats 4000000 in
theorem walk_none (c : Cl) (more : ByteArray) (w : World) (hl : c.large = false) (hm : more = ⟨#[]⟩) : Calls Tryd.prog 6 #[.agg c.arr, .string more] w fun e w' => e = .returned (.bool true) ∧ Below w.heap.size w w' := by
  have h3 : c.arr.size = 24 := rfl
  have h4 : c.arr.all (·.oneCell') = true := Cl.arr_one _
  have st := St.new w 30 c.arr
  have HG := fun w => cfLarge_any c w
  rw [hl] at HG
  subst hm
  obtain ⟨cs, hcs⟩ : ∃ cs, cs = c.arr := ⟨_, rfl⟩
  rw [← hcs] at h3 h4 st HG ⊢
  have S0 := Lib.hid st
  have L0 := Lib.hid (below_alloc1 w (.cells cs 30 (0, 0)))
  have H3 := Lib.hid h3
  have H4 := Lib.hid h4
  replace HG := Lib.hid HG
  clear hl
  clear hcs st h3 h4
  go_enter Tryd.func6, Tryd.ntmps6
  go_wp2_with (first
    | ((with_reducible show wpList _ _ _ ({ dst := _, op := .load _ (.tmp 2), type := _, pos := _, after := _, guard := _ } :: _) _ _); refine wpList_load_stg (by kernel_rfl) 30 _ rfl w.heap.size rfl 30 cs (by first | exact S0.out) _ Tryd.underlying30 rfl (by rw [H3.out]; kernel_rfl) ?_)
    | (go_at_call 12; go_must (refine (HG.out _).mono ?_); rintro e w1 ⟨rfl, b1⟩; have S1 := Lib.hid (S0.out.below b1); have L1 := Lib.hid (L0.out.trans (b1.mono L0.out.size)); clear b1)
    | (go_at_call 11; go_must (refine (cknown_any _).mono ?_); rintro e w9 ⟨rfl, b9⟩; have L9 := Lib.hid (L1.out.trans (b9.mono L1.out.size)); clear b9))
  all_goals go_ret
  all_goals exact ⟨rfl, L9.out⟩

set_option maxRecDepth 100000 in
set_option maxHeartbeats 4000000 in
theorem walk_bad (c : Cl) (more : ByteArray) (w : World) (hl : c.large = false) (hm : more.size ≤ 100) (hn : more ≠ ⟨#[]⟩) (hx : (putR c).2 ≠ 0) : Calls Tryd.prog 6 #[.agg c.arr, .string more] w fun e w' => e = .returned (.bool true) ∧ Below w.heap.size w w' := by
  have h3 : c.arr.size = 24 := rfl
  have h4 : c.arr.all (·.oneCell') = true := Cl.arr_one _
  have st := St.new w 30 c.arr
  have HG := fun w => cfLarge_any c w
  rw [hl] at HG
  have d1 : decide ((more.size : Int) > 100) = false := decide_eq_false (by omega)
  have hne0 : ¬ more.toList = [] := by
    rw [Lib.toList_data]
    intro e
    apply hn
    apply ByteArray.ext
    exact Array.toList_eq_nil_iff.1 e
  have hemp : more.toList.isEmpty = false := by simpa using hne0
  have HW := fun w => cwants_any c w
  obtain ⟨x, hxx⟩ : ∃ x, x = (putR c).2 := ⟨_, rfl⟩
  rw [← hxx] at HW hx
  have d2 : (x == 0) = false := by simpa using hx
  have d3 : (x != 0) = true := by simpa using hx
  clear hxx hx hl hm hn
  obtain ⟨cs, hcs⟩ : ∃ cs, cs = c.arr := ⟨_, rfl⟩
  rw [← hcs] at h3 h4 st HG HW ⊢
  have S0 := Lib.hid st
  have L0 := Lib.hid (below_alloc1 w (.cells cs 30 (0, 0)))
  have H3 := Lib.hid h3
  have H4 := Lib.hid h4
  replace HG := Lib.hid HG
  replace HW := Lib.hid HW
  clear hcs st h3 h4
  go_enter Tryd.func6, Tryd.ntmps6
  go_wp2_with (first
    | ((with_reducible show wpList _ _ _ ({ dst := _, op := .load _ (.tmp 2), type := _, pos := _, after := _, guard := _ } :: _) _ _); refine wpList_load_stg (by kernel_rfl) 30 _ rfl w.heap.size rfl 30 cs (by first | exact S1.out | exact S0.out) _ Tryd.underlying30 rfl (by rw [H3.out]; kernel_rfl) ?_)
    | (go_at_call 12; go_must (refine (HG.out _).mono ?_); rintro e w1 ⟨rfl, b1⟩; have S1 := Lib.hid (S0.out.below b1); have L1 := Lib.hid (L0.out.trans (b1.mono L0.out.size)); clear b1)
    | (go_at_call 14; go_must (refine (HW.out _).mono ?_); rintro e w2 ⟨rfl, b2⟩; have S2 := Lib.hid (S1.out.below b2); have L2 := Lib.hid (L1.out.trans (b2.mono L1.out.size)); clear b2)
    | (go_at_call 11; go_must (refine (cknown_any _).mono ?_); rintro e w9 ⟨rfl, b9⟩; have L9 := Lib.hid (L2.out.trans (b9.mono L2.out.size)); clear b9))
  all_goals go_ret
  all_goals exact ⟨rfl, L9.out⟩

set_option maxRecDepth 100000 in
set_option maxHeartbeats 4000000 in
theorem walk_short (c : Cl) (more : ByteArray) (w : World) (hl : c.large = false) (hm : more.size ≤ 100) (hn : more ≠ ⟨#[]⟩) (hx : (putR c).2 = 0) (h4l : (str (clBytes c)).size < 4) : Calls Tryd.prog 6 #[.agg c.arr, .string more] w fun e w' => e = .returned (.bool true) ∧ Below w.heap.size w w' := by
  have h3 : c.arr.size = 24 := rfl
  have h4 : c.arr.all (·.oneCell') = true := Cl.arr_one _
  have st := St.new w 30 c.arr
  have HG := fun w => cfLarge_any c w
  rw [hl] at HG
  have d1 : decide ((more.size : Int) > 100) = false := decide_eq_false (by omega)
  have hne0 : ¬ more.toList = [] := by
    rw [Lib.toList_data]
    intro e
    apply hn
    apply ByteArray.ext
    exact Array.toList_eq_nil_iff.1 e
  have hemp : more.toList.isEmpty = false := by simpa using hne0
  have hs := Cl.small_of hl
  have HW := fun w => cwants_any c w
  rw [hx] at HW
  obtain ⟨ht, hok, hby⟩ := putR_ok hx
  have hz : (str (clBytes c)).size ≤ 1073741 := by
    have h1 := wrs_len c hs (flds c.proc)
    have h2 := flds_len c.proc
    rw [str_size]
    unfold clBytes
    omega
  have hcat : str (clBytes c) ++ more = str (clBytes c ++ more.data.toList) := by
    have h := str_append (clBytes c) more.data.toList
    rw [str_data] at h
    exact h
  have HM := fun w => cGet_any c.proc (str (clBytes c) ++ more) w (by rw [ByteArray.size_append]; omega)
  rw [hcat, cut_more more.data.toList ht hok (fun e => hn (by apply ByteArray.ext; exact Array.toList_eq_nil_iff.1 e))] at HM
  rw [← hcat] at HM
  dsimp only at HM
  have HB := fun w => cfBytes_any c w ((okB_iff c).1 hok).1 hs
  have hzb := zero_built
  rw [← zero_arr] at hzb
  have hz3 : (Cl.new 0).arr.size = 24 := rfl
  have hz4 : (Cl.new 0).arr.all (·.oneCell') = true := Cl.arr_one _
  have c0 : ∀ W : World, St 30 w.heap.size c.arr W → W.cell? ⟨w.heap.size, 0, none⟩ = some (.int .i64 c.proc) := fun W h => h.cell rfl
  obtain ⟨bs, hbs⟩ : ∃ b, b = str (clBytes c) := ⟨_, rfl⟩
  rw [← hbs] at HM HB hz h4l
  obtain ⟨zs, hzs⟩ : ∃ z, z = (Cl.new 0).arr := ⟨_, rfl⟩
  rw [← hzs] at HM hzb hz3 hz4
  have z1 : ¬ 9223372036854775807 < bs.size + more.size := by omega
  have d4 : decide ((bs.size : Int) < 4) = true := decide_eq_true (by omega)
  clear hbs hzs hcat hby hok ht hx hl hs hm hn hz h4l
  obtain ⟨cs, hcs⟩ : ∃ cs, cs = c.arr := ⟨_, rfl⟩
  rw [← hcs] at h3 h4 st HG HW HB c0 ⊢
  have S0 := Lib.hid st
  have L0 := Lib.hid (below_alloc1 w (.cells cs 30 (0, 0)))
  have H3 := Lib.hid h3
  have H4 := Lib.hid h4
  replace HG := Lib.hid HG
  replace HW := Lib.hid HW
  replace HM := Lib.hid HM
  replace HB := Lib.hid HB
  have C0 := Lib.hid c0
  have Z3 := Lib.hid hz3
  have Z4 := Lib.hid hz4
  have HZB := Lib.hid hzb
  clear c0 hz3 hz4 hzb
  clear hcs st h3 h4
  go_enter Tryd.func6, Tryd.ntmps6
  go_wp2_with (first
    | ((with_reducible show wpList _ _ _ ({ dst := _, op := .load _ (.tmp 2), type := _, pos := _, after := _, guard := _ } :: _) _ _); refine wpList_load_stg (by kernel_rfl) 30 _ rfl w.heap.size rfl 30 cs (by first | exact S3.out | exact S2.out | exact S1.out | exact S0.out) _ Tryd.underlying30 rfl (by rw [H3.out]; kernel_rfl) ?_)
    | (go_at_call 12; go_must (refine (HG.out _).mono ?_); rintro e w1 ⟨rfl, b1⟩; have S1 := Lib.hid (S0.out.below b1); have L1 := Lib.hid (L0.out.trans (b1.mono L0.out.size)); clear b1)
    | (go_at_call 14; go_must (refine (HW.out _).mono ?_); rintro e w2 ⟨rfl, b2⟩; have S2 := Lib.hid (S1.out.below b2); have L2 := Lib.hid (L1.out.trans (b2.mono L1.out.size)); clear b2)
    | (go_at_call 17; go_must (refine (HB.out _).mono ?_); rintro e w3 ⟨rfl, b3⟩; have S3 := Lib.hid (S2.out.below b3); have L3 := Lib.hid (L2.out.trans (b3.mono L2.out.size)); have cp := C0.out _ S3.out; clear b3)
    | (go_at_call 16; go_must (refine (HM.out _).mono ?_); rintro e w4 ⟨rfl, b4⟩; have S4 := Lib.hid ((S3.out.below b4).alloc (.cells zs 30 (0, 0))); have L4 := Lib.hid ((L3.out.trans (b4.mono L3.out.size)).alloc (Nat.le_trans L3.out.size b4.size) (.cells zs 30 (0, 0))); clear b4 cp)
    | ((with_reducible show wpList _ _ _ ({ dst := _, op := .store _ (.tmp 6) _, type := _, pos := _, after := _, guard := _ } :: _) _ _); refine wpList_store_st rfl 30 _ _ rfl w4.heap.size zs rfl rfl _ (St.new w4 30 _) (by rw [Z3.out]; kernel_rfl) (by rw [Z3.out]; rfl) Z4.out ?_; rw [alloc_row]; intro wz hz hst; subst hz; clear hst)
    | (go_at_call 11; go_must (refine (cknown_any _).mono ?_); rintro e w9 ⟨rfl, b9⟩; have L9 := Lib.hid (L4.out.trans (b9.mono L4.out.size)); clear b9))
  all_goals go_ret
  all_goals exact ⟨rfl, L9.out⟩

set_option maxRecDepth 100000 in
set_option maxHeartbeats 4000000 in
theorem walk_long (c : Cl) (more : ByteArray) (w : World) (hl : c.large = false) (hm : more.size ≤ 100) (hn : more ≠ ⟨#[]⟩) (hx : (putR c).2 = 0) (h4l : ¬ (str (clBytes c)).size < 4) : Calls Tryd.prog 6 #[.agg c.arr, .string more] w fun e w' => e = .returned (.bool true) ∧ Below w.heap.size w w' := by
  have h3 : c.arr.size = 24 := rfl
  have h4 : c.arr.all (·.oneCell') = true := Cl.arr_one _
  have st := St.new w 30 c.arr
  have HG := fun w => cfLarge_any c w
  rw [hl] at HG
  have d1 : decide ((more.size : Int) > 100) = false := decide_eq_false (by omega)
  have hne0 : ¬ more.toList = [] := by
    rw [Lib.toList_data]
    intro e
    apply hn
    apply ByteArray.ext
    exact Array.toList_eq_nil_iff.1 e
  have hemp : more.toList.isEmpty = false := by simpa using hne0
  have hs := Cl.small_of hl
  have HW := fun w => cwants_any c w
  rw [hx] at HW
  obtain ⟨ht, hok, hby⟩ := putR_ok hx
  have hz : (str (clBytes c)).size ≤ 1073741 := by
    have h1 := wrs_len c hs (flds c.proc)
    have h2 := flds_len c.proc
    rw [str_size]
    unfold clBytes
    omega
  have hcat : str (clBytes c) ++ more = str (clBytes c ++ more.data.toList) := by
    have h := str_append (clBytes c) more.data.toList
    rw [str_data] at h
    exact h
  have HM := fun w => cGet_any c.proc (str (clBytes c) ++ more) w (by rw [ByteArray.size_append]; omega)
  rw [hcat, cut_more more.data.toList ht hok (fun e => hn (by apply ByteArray.ext; exact Array.toList_eq_nil_iff.1 e))] at HM
  rw [← hcat] at HM
  dsimp only at HM
  have HB := fun w => cfBytes_any c w ((okB_iff c).1 hok).1 hs
  have hzb := zero_built
  rw [← zero_arr] at hzb
  have hz3 : (Cl.new 0).arr.size = 24 := rfl
  have hz4 : (Cl.new 0).arr.all (·.oneCell') = true := Cl.arr_one _
  have c0 : ∀ W : World, St 30 w.heap.size c.arr W → W.cell? ⟨w.heap.size, 0, none⟩ = some (.int .i64 c.proc) := fun W h => h.cell rfl
  have hle : (str (clBytes c)).extract 0 ((str (clBytes c)).size - 4) = str ((clBytes c).take ((clBytes c).length - 4)) := by
    apply ByteArray.ext
    apply Array.toList_inj.1
    rw [ByteArray.data_extract, Array.toList_extract]
    simp [str_toList, str_size, List.extract]
  have HL := fun w => cGet_any c.proc ((str (clBytes c)).extract 0 ((str (clBytes c)).size - 4)) w (by rw [ByteArray.size_extract]; omega)
  rw [hle, cut_less ((clBytes c).length - 4) ht hok (by rw [str_size] at h4l; omega)] at HL
  rw [← hle] at HL
  dsimp only at HL
  obtain ⟨bs, hbs⟩ : ∃ b, b = str (clBytes c) := ⟨_, rfl⟩
  rw [← hbs] at HM HB hz h4l HL
  obtain ⟨zs, hzs⟩ : ∃ z, z = (Cl.new 0).arr := ⟨_, rfl⟩
  rw [← hzs] at HM hzb hz3 hz4 HL
  have z1 : ¬ 9223372036854775807 < bs.size + more.size := by omega
  have d4 : decide ((bs.size : Int) < 4) = false := decide_eq_false (by omega)
  have d5 : IntKind.i64.wrap ((bs.size : Int) - 4) = (bs.size : Int) - 4 := by rw [IntKind.wrap_i64]; omega
  have d6 : (0 : Int) ≤ (bs.size : Int) - 4 := by omega
  have d7 : (bs.size : Int) - 4 ≤ (bs.size : Int) := by omega
  have d8 : ((bs.size : Int) - 4).toNat = bs.size - 4 := by omega
  clear hle hbs hzs hcat hby hok ht hx hl hs hm hn h4l
  obtain ⟨cs, hcs⟩ : ∃ cs, cs = c.arr := ⟨_, rfl⟩
  rw [← hcs] at h3 h4 st HG HW HB c0 ⊢
  have S0 := Lib.hid st
  have L0 := Lib.hid (below_alloc1 w (.cells cs 30 (0, 0)))
  have H3 := Lib.hid h3
  have H4 := Lib.hid h4
  replace HG := Lib.hid HG
  replace HW := Lib.hid HW
  replace HM := Lib.hid HM
  replace HB := Lib.hid HB
  have C0 := Lib.hid c0
  have Z3 := Lib.hid hz3
  have Z4 := Lib.hid hz4
  have HZB := Lib.hid hzb
  clear c0 hz3 hz4 hzb
  replace HL := Lib.hid HL
  clear hcs st h3 h4
  go_enter Tryd.func6, Tryd.ntmps6
  go_wp2_with (first
    | ((with_reducible show wpList _ _ _ ({ dst := _, op := .load _ (.tmp 2), type := _, pos := _, after := _, guard := _ } :: _) _ _); refine wpList_load_stg (by kernel_rfl) 30 _ rfl w.heap.size rfl 30 cs (by first | exact S3.out | exact S2.out | exact S1.out | exact S0.out) _ Tryd.underlying30 rfl (by rw [H3.out]; kernel_rfl) ?_)
    | (go_at_call 12; go_must (refine (HG.out _).mono ?_); rintro e w1 ⟨rfl, b1⟩; have S1 := Lib.hid (S0.out.below b1); have L1 := Lib.hid (L0.out.trans (b1.mono L0.out.size)); clear b1)
    | (go_at_call 14; go_must (refine (HW.out _).mono ?_); rintro e w2 ⟨rfl, b2⟩; have S2 := Lib.hid (S1.out.below b2); have L2 := Lib.hid (L1.out.trans (b2.mono L1.out.size)); clear b2)
    | (go_at_call 17; go_must (refine (HB.out _).mono ?_); rintro e w3 ⟨rfl, b3⟩; have S3 := Lib.hid (S2.out.below b3); have L3 := Lib.hid (L2.out.trans (b3.mono L2.out.size)); have cp := C0.out _ S3.out; clear b3)
    | (go_at_call 16; go_must (refine (HM.out _).mono ?_); rintro e w4 ⟨rfl, b4⟩; have S4 := Lib.hid ((S3.out.below b4).alloc (.cells zs 30 (0, 0))); have L4 := Lib.hid ((L3.out.trans (b4.mono L3.out.size)).alloc (Nat.le_trans L3.out.size b4.size) (.cells zs 30 (0, 0))); clear b4 cp)
    | ((with_reducible show wpList _ _ _ ({ dst := _, op := .store _ (.tmp 6) _, type := _, pos := _, after := _, guard := _ } :: _) _ _); refine wpList_store_st rfl 30 _ _ rfl w4.heap.size zs rfl rfl _ (St.new w4 30 _) (by rw [Z3.out]; kernel_rfl) (by rw [Z3.out]; rfl) Z4.out ?_; rw [alloc_row]; intro wz hz hst; subst hz; clear hst)
    | (go_at_call 11; go_must (refine (cknown_any _).mono ?_); rintro e w9 ⟨rfl, b9⟩; have L9 := Lib.hid (L4.out.trans (b9.mono L4.out.size)); clear b9))
  refine wp_region_any (by kernel_rfl) ?_
  change wpAny _ _ _ _ _ _ _ (World.drew _)
  have SD := Lib.hid (show St 30 w.heap.size cs (World.drew (w4.alloc (.cells zs 30 (0, 0)))) from S4.out)
  have LD := Lib.hid L4.out.drew
  generalize (World.drew (w4.alloc (.cells zs 30 (0, 0)))) = WD at SD LD ⊢
  have cp := C0.out _ SD.out
  have cz : (WD.alloc (.cells #[.int .i64 0, .string ⟨#[]⟩, .string ⟨#[]⟩, .string ⟨#[]⟩, .string ⟨#[]⟩, .int .i64 0, .int .i64 0, .int .i64 0, .string ⟨#[]⟩, .bool false, .int .i64 0, .bool false, .int .i64 0, .bool false, .int .i64 0, .bool false, .int .i64 0, .bool false, .int .i64 0, .bool false, .int .i64 0, .int .i64 0, .int .i64 0, .string ⟨#[]⟩] 30 (0, 0))).cell? ⟨w.heap.size, 0, none⟩ = some (.int .i64 c.proc) := C0.out _ (SD.out.alloc _)
  have LZ := Lib.hid (LD.out.alloc LD.out.size (.cells #[.int .i64 0, .string ⟨#[]⟩, .string ⟨#[]⟩, .string ⟨#[]⟩, .string ⟨#[]⟩, .int .i64 0, .int .i64 0, .int .i64 0, .string ⟨#[]⟩, .bool false, .int .i64 0, .bool false, .int .i64 0, .bool false, .int .i64 0, .bool false, .int .i64 0, .bool false, .int .i64 0, .bool false, .int .i64 0, .int .i64 0, .int .i64 0, .string ⟨#[]⟩] 30 (0, 0)))
  refine wpAny_take (i := 0) (v := .pointer (some ⟨w.heap.size, 0, none⟩)) rfl (by kernel_rfl) (by kernel_rfl) (by kernel_rfl) (fun _ _ _ h => h) (Or.inl ⟨by rfl, ?_⟩) ?_
  · intro w; go_simp
  refine wpAny_take (i := 2) (v := .string bs) rfl (by kernel_rfl) (by kernel_rfl) (by kernel_rfl) (fun _ _ _ h => h) (Or.inl ⟨by rfl, ?_⟩) ?_
  · intro w; go_simp
  refine wpAny_take (i := 3) (v := .string bs) rfl (by kernel_rfl) (by kernel_rfl) (by kernel_rfl) (fun _ _ _ h => h) (Or.inl ⟨by rfl, ?_⟩) ?_
  · intro w; go_simp
  refine wpAny_take (i := 4) (v := .int .i64 bs.size) rfl (by kernel_rfl) (by kernel_rfl) (by kernel_rfl) (fun _ _ _ h => h) (Or.inl ⟨by rfl, ?_⟩) ?_
  · intro w; go_simp
  refine wpAny_take (i := 5) (v := .int .i64 ((bs.size : Int) - 4)) rfl (by kernel_rfl) (by kernel_rfl) (by kernel_rfl) (fun _ _ _ h => h) (Or.inl ⟨by rfl, ?_⟩) ?_
  · intro w; go_simp
  refine wpAny_take (i := 6) (v := .string (bs.extract 0 (bs.size - 4))) rfl (by kernel_rfl) (by kernel_rfl) (by kernel_rfl) (fun _ _ _ h => h) (Or.inl ⟨by rfl, ?_⟩) ?_
  · intro w; go_simp; intro h; exact absurd h (of_decide_eq_false d4)
  refine wpAny_ready (rs := [1, 11]) (by kernel_rfl) (by simp) ?_
  refine AllReady.cons rfl (fun K hK => ?_) ?_
  · go_simp
    refine hK _ _ ?_
    clear hK K
    refine wpAny_ready (rs := [7, 11]) (by kernel_rfl) (by simp) ?_
    refine AllReady.cons rfl (fun K hK => ?_) ?_
    · go_simp
      refine (HL.out _).mono ?_
      rintro r w10 ⟨rfl, b10⟩
      go_simp
      refine hK _ _ ?_
      clear hK K
      refine wpAny_take (i := 8) (v := .tuple #[.agg zs, .int .i64 14]) rfl (by kernel_rfl) (by kernel_rfl) (by kernel_rfl) (fun _ _ _ h => h) (Or.inl ⟨by rfl, ?_⟩) ?_
      · intro w; go_simp
      refine wpAny_take (i := 9) (v := .agg zs) rfl (by kernel_rfl) (by kernel_rfl) (by kernel_rfl) (fun _ _ _ h => h) (Or.inl ⟨by rfl, ?_⟩) ?_
      · intro w; go_simp
      refine wpAny_take (i := 10) (v := .int .i64 14) rfl (by kernel_rfl) (by kernel_rfl) (by kernel_rfl) (fun _ _ _ h => h) (Or.inl ⟨by rfl, ?_⟩) ?_
      · intro w; go_simp
      refine wpAny_ready (rs := [11]) (by kernel_rfl) (by simp) ?_
      refine AllReady.cons rfl (fun K hK => ?_) AllReady.nil
      go_simp
      refine hK _ _ ?_
      clear hK K
      refine wpAny_ready (rs := [12]) (by kernel_rfl) (by simp) ?_
      refine AllReady.cons rfl (fun K hK => ?_) AllReady.nil
      refine step_store_row rfl 30 (.tmp 8) (.tmp 55) rfl w10.heap.size zs rfl rfl 30 #[.int .i64 0, .string ⟨#[]⟩, .string ⟨#[]⟩, .string ⟨#[]⟩, .string ⟨#[]⟩, .int .i64 0, .int .i64 0, .int .i64 0, .string ⟨#[]⟩, .bool false, .int .i64 0, .bool false, .int .i64 0, .bool false, .int .i64 0, .bool false, .int .i64 0, .bool false, .int .i64 0, .bool false, .int .i64 0, .int .i64 0, .int .i64 0, .string ⟨#[]⟩] (St.new w10 30 _) (by rw [Z3.out]; kernel_rfl) (by rw [Z3.out]; rfl) Z4.out ?_
      go_simp
      refine hK _ _ ?_
      clear hK K
      refine wpAny_ready (rs := [13]) (by kernel_rfl) (by simp) ?_
      refine AllReady.cons rfl (fun K hK => ?_) AllReady.nil
      go_simp
      refine hK _ _ ?_
      clear hK K
      refine wpAny_done (by kernel_rfl) ?_ _
      have LF := below_row (k := w10.heap.size) ((LD.out.trans (b10.mono LD.out.size)).alloc (Nat.le_trans LD.out.size b10.size) (.cells #[.int .i64 0, .string ⟨#[]⟩, .string ⟨#[]⟩, .string ⟨#[]⟩, .string ⟨#[]⟩, .int .i64 0, .int .i64 0, .int .i64 0, .string ⟨#[]⟩, .bool false, .int .i64 0, .bool false, .int .i64 0, .bool false, .int .i64 0, .bool false, .int .i64 0, .bool false, .int .i64 0, .bool false, .int .i64 0, .int .i64 0, .int .i64 0, .string ⟨#[]⟩] 30 (0, 0))) (Nat.le_trans LD.out.size b10.size) zs
      generalize (World.setRow (w10.alloc (.cells #[.int .i64 0, .string ⟨#[]⟩, .string ⟨#[]⟩, .string ⟨#[]⟩, .string ⟨#[]⟩, .int .i64 0, .int .i64 0, .int .i64 0, .string ⟨#[]⟩, .bool false, .int .i64 0, .bool false, .int .i64 0, .bool false, .int .i64 0, .bool false, .int .i64 0, .bool false, .int .i64 0, .bool false, .int .i64 0, .int .i64 0, .int .i64 0, .string ⟨#[]⟩] 30 (0, 0))) w10.heap.size zs) = Wf at LF ⊢
      have L5 := Lib.hid LF
      clear LF
      go_wp2_with (first | (go_at_call 11; go_must (refine (cknown_any _).mono ?_); rintro e w9 ⟨rfl, b9⟩; have L9 := Lib.hid (L5.out.trans (b9.mono L5.out.size)); clear b9))
      all_goals go_ret
      all_goals exact ⟨rfl, L9.out⟩
    refine AllReady.cons rfl (fun K hK => ?_) AllReady.nil
    go_simp
    refine hK _ _ ?_
    clear hK K
    refine wpAny_ready (rs := [7]) (by kernel_rfl) (by simp) ?_
    refine AllReady.cons rfl (fun K hK => ?_) AllReady.nil
    go_simp
    refine (HL.out _).mono ?_
    rintro r w10 ⟨rfl, b10⟩
    go_simp
    refine hK _ _ ?_
    clear hK K
    refine wpAny_take (i := 8) (v := .tuple #[.agg zs, .int .i64 14]) rfl (by kernel_rfl) (by kernel_rfl) (by kernel_rfl) (fun _ _ _ h => h) (Or.inl ⟨by rfl, ?_⟩) ?_
    · intro w; go_simp
    refine wpAny_take (i := 9) (v := .agg zs) rfl (by kernel_rfl) (by kernel_rfl) (by kernel_rfl) (fun _ _ _ h => h) (Or.inl ⟨by rfl, ?_⟩) ?_
    · intro w; go_simp
    refine wpAny_take (i := 10) (v := .int .i64 14) rfl (by kernel_rfl) (by kernel_rfl) (by kernel_rfl) (fun _ _ _ h => h) (Or.inl ⟨by rfl, ?_⟩) ?_
    · intro w; go_simp
    refine wpAny_ready (rs := [12]) (by kernel_rfl) (by simp) ?_
    refine AllReady.cons rfl (fun K hK => ?_) AllReady.nil
    refine step_store_row rfl 30 (.tmp 8) (.tmp 55) rfl WD.heap.size zs rfl rfl 30 #[.int .i64 0, .string ⟨#[]⟩, .string ⟨#[]⟩, .string ⟨#[]⟩, .string ⟨#[]⟩, .int .i64 0, .int .i64 0, .int .i64 0, .string ⟨#[]⟩, .bool false, .int .i64 0, .bool false, .int .i64 0, .bool false, .int .i64 0, .bool false, .int .i64 0, .bool false, .int .i64 0, .bool false, .int .i64 0, .int .i64 0, .int .i64 0, .string ⟨#[]⟩] ((St.new WD 30 #[.int .i64 0, .string ⟨#[]⟩, .string ⟨#[]⟩, .string ⟨#[]⟩, .string ⟨#[]⟩, .int .i64 0, .int .i64 0, .int .i64 0, .string ⟨#[]⟩, .bool false, .int .i64 0, .bool false, .int .i64 0, .bool false, .int .i64 0, .bool false, .int .i64 0, .bool false, .int .i64 0, .bool false, .int .i64 0, .int .i64 0, .int .i64 0, .string ⟨#[]⟩]).below b10) (by rw [Z3.out]; kernel_rfl) (by rw [Z3.out]; rfl) Z4.out ?_
    go_simp
    refine hK _ _ ?_
    clear hK K
    refine wpAny_ready (rs := [13]) (by kernel_rfl) (by simp) ?_
    refine AllReady.cons rfl (fun K hK => ?_) AllReady.nil
    go_simp
    refine hK _ _ ?_
    clear hK K
    refine wpAny_done (by kernel_rfl) ?_ _
    have LF := below_row (k := WD.heap.size) (LZ.out.trans (b10.mono LZ.out.size)) LD.out.size zs
    generalize (World.setRow w10 WD.heap.size zs) = Wf at LF ⊢
    have L5 := Lib.hid LF
    clear LF
    go_wp2_with (first | (go_at_call 11; go_must (refine (cknown_any _).mono ?_); rintro e w9 ⟨rfl, b9⟩; have L9 := Lib.hid (L5.out.trans (b9.mono L5.out.size)); clear b9))
    all_goals go_ret
    all_goals exact ⟨rfl, L9.out⟩
  refine AllReady.cons rfl (fun K hK => ?_) AllReady.nil
  go_simp
  refine hK _ _ ?_
  clear hK K
  refine wpAny_ready (rs := [1]) (by kernel_rfl) (by simp) ?_
  refine AllReady.cons rfl (fun K hK => ?_) AllReady.nil
  go_simp
  refine hK _ _ ?_
  clear hK K
  refine wpAny_ready (rs := [7]) (by kernel_rfl) (by simp) ?_
  refine AllReady.cons rfl (fun K hK => ?_) AllReady.nil
  go_simp
  refine (HL.out _).mono ?_
  rintro r w10 ⟨rfl, b10⟩
  go_simp
  refine hK _ _ ?_
  clear hK K
  refine wpAny_take (i := 8) (v := .tuple #[.agg zs, .int .i64 14]) rfl (by kernel_rfl) (by kernel_rfl) (by kernel_rfl) (fun _ _ _ h => h) (Or.inl ⟨by rfl, ?_⟩) ?_
  · intro w; go_simp
  refine wpAny_take (i := 9) (v := .agg zs) rfl (by kernel_rfl) (by kernel_rfl) (by kernel_rfl) (fun _ _ _ h => h) (Or.inl ⟨by rfl, ?_⟩) ?_
  · intro w; go_simp
  refine wpAny_take (i := 10) (v := .int .i64 14) rfl (by kernel_rfl) (by kernel_rfl) (by kernel_rfl) (fun _ _ _ h => h) (Or.inl ⟨by rfl, ?_⟩) ?_
  · intro w; go_simp
  refine wpAny_ready (rs := [12]) (by kernel_rfl) (by simp) ?_
  refine AllReady.cons rfl (fun K hK => ?_) AllReady.nil
  refine step_store_row rfl 30 (.tmp 8) (.tmp 55) rfl WD.heap.size zs rfl rfl 30 #[.int .i64 0, .string ⟨#[]⟩, .string ⟨#[]⟩, .string ⟨#[]⟩, .string ⟨#[]⟩, .int .i64 0, .int .i64 0, .int .i64 0, .string ⟨#[]⟩, .bool false, .int .i64 0, .bool false, .int .i64 0, .bool false, .int .i64 0, .bool false, .int .i64 0, .bool false, .int .i64 0, .bool false, .int .i64 0, .int .i64 0, .int .i64 0, .string ⟨#[]⟩] ((St.new WD 30 #[.int .i64 0, .string ⟨#[]⟩, .string ⟨#[]⟩, .string ⟨#[]⟩, .string ⟨#[]⟩, .int .i64 0, .int .i64 0, .int .i64 0, .string ⟨#[]⟩, .bool false, .int .i64 0, .bool false, .int .i64 0, .bool false, .int .i64 0, .bool false, .int .i64 0, .bool false, .int .i64 0, .bool false, .int .i64 0, .int .i64 0, .int .i64 0, .string ⟨#[]⟩]).below b10) (by rw [Z3.out]; kernel_rfl) (by rw [Z3.out]; rfl) Z4.out ?_
  go_simp
  refine hK _ _ ?_
  clear hK K
  refine wpAny_ready (rs := [13]) (by kernel_rfl) (by simp) ?_
  refine AllReady.cons rfl (fun K hK => ?_) AllReady.nil
  go_simp
  refine hK _ _ ?_
  clear hK K
  refine wpAny_done (by kernel_rfl) ?_ _
  have LF := below_row (k := WD.heap.size) (LZ.out.trans (b10.mono LZ.out.size)) LD.out.size zs
  generalize (World.setRow w10 WD.heap.size zs) = Wf at LF ⊢
  have L5 := Lib.hid LF
  clear LF
  go_wp2_with (first | (go_at_call 11; go_must (refine (cknown_any _).mono ?_); rintro e w9 ⟨rfl, b9⟩; have L9 := Lib.hid (L5.out.trans (b9.mono L5.out.size)); clear b9))
  all_goals go_ret
  all_goals exact ⟨rfl, L9.out⟩

theorem cut_any (c : Cl) (more : ByteArray) (w : World) : Calls Tryd.prog 6 #[.agg c.arr, .string more] w fun e w' => e = .returned (.bool true) ∧ Below w.heap.size w w' := by
  cases hl : c.large with
  | true => exact walk_large c more w hl
  | false =>
    by_cases hm : 100 < more.size
    · exact walk_more c more w hl hm
    · by_cases hn : more = ⟨#[]⟩
      · exact walk_none c more w hl hn
      · by_cases hx : (putR c).2 = 0
        · by_cases h4 : (str (clBytes c)).size < 4
          · exact walk_short c more w hl (by omega) hn hx h4
          · exact walk_long c more w hl (by omega) hn hx h4
        · exact walk_bad c more w hl (by omega) hn hx

theorem laidOut : laidOutB Tryd.prog = true := by kernel_rfl
theorem laid_met (os : Os) : laidMet Tryd.prog Rows.callCutRow.laid ((laidWorld os).forCall (fun _ _ => 0) ⟨#[], #[.agg #[.int .i64 0, .string ⟨#[]⟩, .string ⟨#[]⟩, .string ⟨#[]⟩, .string ⟨#[]⟩, .int .i64 0, .int .i64 0, .int .i64 0, .string ⟨#[]⟩, .bool false, .int .i64 0, .bool false, .int .i64 0, .bool false, .int .i64 0, .bool false, .int .i64 0, .bool false, .int .i64 0, .bool false, .int .i64 0, .int .i64 0, .int .i64 0, .string ⟨#[]⟩], .string ⟨#[]⟩], []⟩).memory :=
  laidMet_of_run' 8 (by kernel_rfl) (by kernel_rfl)
theorem reads (os : Os) {H : Type} (enc : TypeId × Value → H) : ∃ places, DataW.whole enc Tryd.prog ((laidWorld os).forCall (fun _ _ => 0) ⟨#[], #[.agg #[.int .i64 0, .string ⟨#[]⟩, .string ⟨#[]⟩, .string ⟨#[]⟩, .string ⟨#[]⟩, .int .i64 0, .int .i64 0, .int .i64 0, .string ⟨#[]⟩, .bool false, .int .i64 0, .bool false, .int .i64 0, .bool false, .int .i64 0, .bool false, .int .i64 0, .bool false, .int .i64 0, .bool false, .int .i64 0, .int .i64 0, .int .i64 0, .string ⟨#[]⟩], .string ⟨#[]⟩], []⟩).memory Tryd.f6.params.toList Rows.callCutSpec.vars false (#[.agg #[.int .i64 0, .string ⟨#[]⟩, .string ⟨#[]⟩, .string ⟨#[]⟩, .string ⟨#[]⟩, .int .i64 0, .int .i64 0, .int .i64 0, .string ⟨#[]⟩, .bool false, .int .i64 0, .bool false, .int .i64 0, .bool false, .int .i64 0, .bool false, .int .i64 0, .bool false, .int .i64 0, .bool false, .int .i64 0, .int .i64 0, .int .i64 0, .string ⟨#[]⟩], .string ⟨#[]⟩] : Array Value).toList 8 = some ([.agg [.lit (.int .i64 0), .lit (.string []), .lit (.string []), .lit (.string []), .lit (.string []), .lit (.int .i64 0), .lit (.int .i64 0), .lit (.int .i64 0), .lit (.string []), .agg [.agg [.lit (.bool false), .lit (.int .i64 0)], .agg [.lit (.bool false), .lit (.int .i64 0)], .agg [.lit (.bool false), .lit (.int .i64 0)], .agg [.lit (.bool false), .lit (.int .i64 0)], .agg [.lit (.bool false), .lit (.int .i64 0)]], .agg [.lit (.bool false), .lit (.int .i64 0)], .lit (.int .i64 0), .lit (.int .i64 0), .lit (.string [])], .lit (.string [])], [], places) :=
  ⟨[], by kernel_rfl⟩

set_option maxRecDepth 100000 in
theorem contract (H : Type) (enc : TypeId × Value → H) (W : World) (base : Nat) (args : Array Value) (ds gs : List (DataW H)) (before : List MemPlace)
    (hval : ∀ (j : Nat) t v, Tryd.f6.params[j]? = some t → args[j]? = some v → Value.okWide Tryd.prog W .any base t v)
    (hW : DataW.Whole enc Tryd.prog Tryd.f6.params.toList Rows.callCutSpec.vars false W args.toList ds gs before) :
    Calls Tryd.prog 6 args W fun e W' => ∃ v, e = .returned v ∧ Rows.callCutSpec.post enc Tryd.prog Tryd.f6 false true false false W args v W' := by
  have hW' := hW
  obtain ⟨p, q, hA0, hV, rfl, hfz, hnd⟩ := hW
  have hA : DataW.TrodAll enc Tryd.prog W 0 (fun _ => true) true Tryd.f6.params.toList args.toList ds p := hA0
  rw [Tryd.params6] at hA hval
  obtain ⟨v0, vs0, d0, ds0, p0, q0, hargs, rfl, rfl, h0, r0⟩ := trodAll_cons hA
  obtain ⟨v1, vs1, d1, ds1, p1, q1, rfl, rfl, rfl, h1, r1⟩ := trodAll_cons r0
  obtain ⟨rfl, rfl, rfl⟩ := trodAll_nil r1
  obtain rfl : args = #[v0, v1] := by cases args; simp_all
  have post : ∀ W', Below W.heap.size W W' → Rows.callCutSpec.post enc Tryd.prog Tryd.f6 false true false false W #[v0, v1] (.bool true) W' := fun W' hg =>
    law_post laidOut (by rw [Tryd.params6]; decide +kernel) rfl Tryd.underlying4 rfl hW' rfl hg
  have done : ∀ (e : Ending) W', (e = .returned (.bool true) ∧ Below W.heap.size W W') → ∃ v, e = .returned v ∧ Rows.callCutSpec.post enc Tryd.prog Tryd.f6 false true false false W #[v0, v1] v W' := fun e W' ⟨he, hg⟩ => ⟨_, he, post W' hg⟩
  clear post
  obtain ⟨c, rfl, rfl, rfl, hc⟩ := open_call (hval 0 30 v0 rfl rfl) h0
  obtain ⟨s, rfl, rfl, rfl, hs⟩ := open_string Tryd.underlying9 (hval 1 9 v1 rfl rfl) h1
  exact (cut_any c s W).mono fun e W' h => done e W' h


set_option maxRecDepth 100000 in
theorem lifted (os : Os) (started : os.Started) (H : Type) (enc : TypeId × Value → H) (F : Stop.Interp) :
    ReturnsInHanded {} Tryd.checked os 6 .any ((OpenSpec.ofChange Rows.callCutSpec).preRow enc Tryd.prog Tryd.f6 Rows.callCutRow.domain false Rows.callCutRow.laid) (((OpenSpec.ofChange Rows.callCutSpec).at F).post enc Tryd.prog Tryd.f6 false true false false) := by
  obtain ⟨places, hx⟩ := reads os enc
  refine returnsInHanded_of_row (C := Tryd.checked) (s := OpenSpec.ofChange Rows.callCutSpec) own started (by kernel_rfl) Tryd.func6
    (witness_row_at (enc := enc) (C := Tryd.checked) false (laidWorld os) #[.agg #[.int .i64 0, .string ⟨#[]⟩, .string ⟨#[]⟩, .string ⟨#[]⟩, .string ⟨#[]⟩, .int .i64 0, .int .i64 0, .int .i64 0, .string ⟨#[]⟩, .bool false, .int .i64 0, .bool false, .int .i64 0, .bool false, .int .i64 0, .bool false, .int .i64 0, .bool false, .int .i64 0, .bool false, .int .i64 0, .int .i64 0, .int .i64 0, .string ⟨#[]⟩], .string ⟨#[]⟩] rfl (by kernel_rfl) (by kernel_rfl) (by kernel_rfl)
      (OpenSpec.preRow_of_cond 8 hx (by kernel_rfl) (fun k hk => by cases hk) (by kernel_rfl) (laid_met os))) ?_
  intro W base args ds gs before hval hW _ _ _ hL _ _
  exact contract H enc W base args ds gs before hval hW

theorem said : Rows.CallCutSaid :=
  OpenClaim.holds_of_cond 6 Tryd.f6 rfl rfl rfl rfl rfl rfl rfl ⟨rfl, rfl, rfl, rfl, rfl⟩ rfl rfl rfl rfl rfl (by kernel_rfl) Tryd.func6 (by kernel_rfl)
    (of_decide_eq_true (by kernel_rfl)) (by unfold Func.isWrapper; first | (rw [if_pos (by decide +kernel)]; kernel_rfl) | (rw [if_neg (by decide +kernel)]; exact ⟨rfl, rfl⟩))
    (fun os started H enc _ F => by rw [OpenClaim.pre_eq_preRow]; exact lifted os started H enc F)

theorem plain (f : FuncId) (fn : Func) (hf : Tryd.pinned.checked.prog.funcNamed Rows.callCutRow.func = some f) (hfn : Tryd.pinned.checked.prog.funcs[f]? = some fn) :
    false = Tryd.pinned.checked.prog.looks [] ∧ ∀ (j : Nat) t, fn.params[j]? = some t → Tryd.pinned.checked.prog.wantsStandIn t = false := by
  obtain rfl : f = 6 := Option.some.inj ((show Tryd.prog.funcNamed Rows.callCutRow.func = some 6 by kernel_rfl).symm.trans hf) |>.symm
  obtain rfl : fn = Tryd.f6 := (Option.some.inj (Tryd.func6.symm.trans hfn)).symm
  refine ⟨by kernel_rfl, fun j t ht => ?_⟩
  have hall : Tryd.f6.params.all (fun t => Tryd.prog.wantsStandIn t == false) = true := by kernel_rfl
  have := Array.all_eq_true.1 hall j (Array.getElem?_eq_some_iff.1 ht).1
  rw [(Array.getElem?_eq_some_iff.1 ht).2] at this
  have h2 : Tryd.prog.wantsStandIn t = false := by simpa using this
  exact h2

theorem card : Rows.CallCutCardSaid :=
  Claim7.holds_tied_plain_at .later [] _ _ _ _ said (fun _ h => by cases h) (by kernel_rfl) (fun _ h => by cases h) callCut_row_tie rfl ⟨rfl, rfl⟩ (by kernel_rfl) rfl plain (by kernel_rfl)

end Go.Proofs.YtdjnadgcjmlejaaDoor.callCut
