/- Messages: the reference's bytes of one that may be. -/
import Derived.Test.YtimbcombhdgjiaaDoorMn
import Derived.Deep.RegionHeld
namespace Go.Proofs.YtimbcombhdgjiaaDoor
open Go.RowKit

theorem mst_step {k : Nat} {T : TypeId} {cs : Array Value} {w W W' : World} (b : Below W.heap.size W W') (t : St T k cs W) (f : Below w.heap.size w W) : St T k cs W' ∧ Below w.heap.size w W' := ⟨t.below b, f.trans (b.mono f.size)⟩
theorem mst_step2 {k : Nat} {T : TypeId} {cs : Array Value} {w W W' : World} {o : Obj} (b : Below (W.alloc o).heap.size (W.alloc o) W') (t : St T k cs W) (f : Below w.heap.size w W) : St T k cs W' ∧ Below w.heap.size w W' :=
  ⟨(t.alloc o).below b, (f.alloc f.size o).trans (b.mono (f.alloc f.size o).size)⟩
theorem St.cellM {T : TypeId} {k : Nat} {v0 v1 v2 v3 v4 v5 v6 v7 v8 v9 : Value} {w : World} (h : St T k #[v0, v1, v2, v3, v4, v5, v6, v7, v8, v9] w) :
    (w.cell? ⟨k, 0, none⟩ = some v0 ∧ w.cell? ⟨k, 1, none⟩ = some v1 ∧ w.cell? ⟨k, 2, none⟩ = some v2 ∧ w.cell? ⟨k, 3, none⟩ = some v3 ∧ w.cell? ⟨k, 4, none⟩ = some v4 ∧ w.cell? ⟨k, 5, none⟩ = some v5 ∧ w.cell? ⟨k, 6, none⟩ = some v6 ∧ w.cell? ⟨k, 7, none⟩ = some v7 ∧ w.cell? ⟨k, 8, none⟩ = some v8 ∧ w.cell? ⟨k, 9, none⟩ = some v9) :=
  ⟨h.cell rfl, h.cell rfl, h.cell rfl, h.cell rfl, h.cell rfl, h.cell rfl, h.cell rfl, h.cell rfl, h.cell rfl, h.cell rfl⟩

set_option maxRecDepth 100000 in
set_option maxHeartbeats 2000000 in
theorem mfBytes_again (xid proc client seq uid gid accept : Int) (body : ByteArray) (w : World) (hb : body.size ≤ 2048) (hv : ∀ v ∈ ([xid, 1, 0, 1, 0, accept] : List Int), 0 ≤ v ∧ v ≤ 4294967295) :
    Calls Tryd.prog 11 #[.agg #[.int .i64 xid, .bool true, .bool true, .int .i64 proc, .int .i64 client, .int .i64 seq, .int .i64 uid, .int .i64 gid, .int .i64 accept, .string body]] w fun e w' => e = .returned (.string (str (words [xid, 1, 0, 1, 0, accept] ++ body.data.toList))) ∧ Below w.heap.size w w' := by
  have HN : ∀ (b : Nat) (W : World), St 3 b #[.int .i64 xid, .int .i64 1, .int .i64 0, .int .i64 1, .int .i64 0, .int .i64 accept] W → Calls Tryd.prog 25 #[.slice (some ⟨b, 0, none⟩) 6 6] W fun e w' => e = .returned (.string (str (words [xid, 1, 0, 1, 0, accept]))) ∧ Below W.heap.size W w' := fun b W h => mfnums_any b [xid, 1, 0, 1, 0, accept] W h hv (by simp)
  have hsz : (str (words [xid, 1, 0, 1, 0, accept])).size = 24 := by rw [str_size, words_len]; rfl
  have hcat : str (words [xid, 1, 0, 1, 0, accept] ++ body.data.toList) = str (words [xid, 1, 0, 1, 0, accept]) ++ body := by
    have h := str_append (words [xid, 1, 0, 1, 0, accept]) body.data.toList
    rw [str_data] at h
    exact h.symm
  rw [hcat]
  obtain ⟨p, hp⟩ : ∃ p, p = str (words [xid, 1, 0, 1, 0, accept]) := ⟨_, rfl⟩
  rw [← hp] at HN hsz ⊢
  have z1 : ¬ 9223372036854775807 < p.size + body.size := by omega
  replace HN := Lib.hid HN
  clear hcat hp hsz hv hb
  have T0 : St 25 w.heap.size #[.int .i64 xid, .bool true, .bool true, .int .i64 proc, .int .i64 client, .int .i64 seq, .int .i64 uid, .int .i64 gid, .int .i64 accept, .string body] (w.alloc (.cells #[.int .i64 xid, .bool true, .bool true, .int .i64 proc, .int .i64 client, .int .i64 seq, .int .i64 uid, .int .i64 gid, .int .i64 accept, .string body] 25 (0, 0))) := St.new w 25 _
  have B0 : Below w.heap.size w (w.alloc (.cells #[.int .i64 xid, .bool true, .bool true, .int .i64 proc, .int .i64 client, .int .i64 seq, .int .i64 uid, .int .i64 gid, .int .i64 accept, .string body] 25 (0, 0))) := below_one w _
  have q1 := T0.cell (j := 1) rfl
  have q2 := T0.cell (j := 2) rfl
  have TD := Lib.hid (show St 25 w.heap.size #[.int .i64 xid, .bool true, .bool true, .int .i64 proc, .int .i64 client, .int .i64 seq, .int .i64 uid, .int .i64 gid, .int .i64 accept, .string body] (w.alloc (.cells #[.int .i64 xid, .bool true, .bool true, .int .i64 proc, .int .i64 client, .int .i64 seq, .int .i64 uid, .int .i64 gid, .int .i64 accept, .string body] 25 (0, 0))).drew from T0)
  have BD := Lib.hid B0.drew
  clear T0 B0
  go_enter Tryd.func11, Tryd.ntmps11
  go_wp2_with fail
  clear q1 q2
  refine wp_region_held (S := fun w' => St 25 w.heap.size #[.int .i64 xid, .bool true, .bool true, .int .i64 proc, .int .i64 client, .int .i64 seq, .int .i64 uid, .int .i64 gid, .int .i64 accept, .string body] w') (by kernel_rfl) ?_
  change wpAnyH _ _ _ _ _ _ _ _ (World.drew _)
  generalize (World.drew (w.alloc (.cells #[.int .i64 xid, .bool true, .bool true, .int .i64 proc, .int .i64 client, .int .i64 seq, .int .i64 uid, .int .i64 gid, .int .i64 accept, .string body] 25 (0, 0)))) = WD at TD BD ⊢
  refine wpAnyH_take (i := 0) (v := .pointer (some ⟨w.heap.size, 0, none⟩)) rfl (by kernel_rfl) (by kernel_rfl) (by kernel_rfl) (fun _ _ _ h => h) (Or.inl ⟨by rfl, fun w' hS => ?_⟩) TD.out ?_
  · clear hS; go_simp
  refine wpAnyH_take (i := 1) (v := .int .i64 xid) rfl (by kernel_rfl) (by kernel_rfl) (by kernel_rfl) (fun _ _ _ h => h) (Or.inl ⟨by rfl, fun w' hS => ?_⟩) TD.out ?_
  · have cc := hS.cell (j := 0) rfl; clear hS; go_simp
  refine wpAnyH_take (i := 2) (v := .pointer (some ⟨w.heap.size, 8, none⟩)) rfl (by kernel_rfl) (by kernel_rfl) (by kernel_rfl) (fun _ _ _ h => h) (Or.inl ⟨by rfl, fun w' hS => ?_⟩) TD.out ?_
  · clear hS; go_simp
  refine wpAnyH_take (i := 3) (v := .int .i64 accept) rfl (by kernel_rfl) (by kernel_rfl) (by kernel_rfl) (fun _ _ _ h => h) (Or.inl ⟨by rfl, fun w' hS => ?_⟩) TD.out ?_
  · have cc := hS.cell (j := 8) rfl; clear hS; go_simp
  refine wpAnyH_take (i := 6) (v := .pointer (some ⟨w.heap.size, 9, none⟩)) rfl (by kernel_rfl) (by kernel_rfl) (by kernel_rfl) (fun _ _ _ h => h) (Or.inl ⟨by rfl, fun w' hS => ?_⟩) TD.out ?_
  · clear hS; go_simp
  refine wpAnyH_take (i := 7) (v := .string body) rfl (by kernel_rfl) (by kernel_rfl) (by kernel_rfl) (fun _ _ _ h => h) (Or.inl ⟨by rfl, fun w' hS => ?_⟩) TD.out ?_
  · have cc := hS.cell (j := 9) rfl; clear hS; go_simp
  refine wpAnyH_ready (rs := [4]) (by kernel_rfl) (by simp) ?_
  refine AllReadyH.cons rfl (fun K hK => ?_) AllReadyH.nil
  go_simp
  refine hK.out _ _ (TD.out.alloc _) (fun S1 => ?_)
  clear hK K
  refine wpAnyH_ready (rs := [5]) (by kernel_rfl) (by simp) ?_
  refine AllReadyH.cons rfl (fun K hK => ?_) AllReadyH.nil
  go_simp
  refine (HN.out _ _ (St.new WD 3 _)).mono ?_
  rintro e w1 ⟨rfl, b1⟩
  have L1 := Lib.hid ((BD.out.alloc BD.out.size _).trans (b1.mono (BD.out.alloc BD.out.size _).size))
  go_simp
  refine hK.out _ _ (S1.below b1) (fun S2 => ?_)
  clear hK K S1
  refine wpAnyH_ready (rs := [8]) (by kernel_rfl) (by simp) ?_
  refine AllReadyH.cons rfl (fun K hK => ?_) AllReadyH.nil
  go_simp
  refine hK.out _ _ S2 (fun S3 => ?_)
  clear hK K S3
  refine wpAnyH_ready (rs := [9]) (by kernel_rfl) (by simp) ?_
  refine AllReadyH.cons rfl (fun K hK => ?_) AllReadyH.nil
  go_simp
  refine hK.out _ _ S2 (fun S3 => ?_)
  clear hK K S2 S3
  refine wpAnyH_done (by kernel_rfl) ?_ _
  go_wp2_with fail
  go_ret
  exact ⟨rfl, L1.out⟩

set_option maxRecDepth 100000 in
set_option maxHeartbeats 2000000 in
theorem mfBytes_ans (xid proc client seq uid gid accept : Int) (body : ByteArray) (w : World) (hb : body.size ≤ 2048) (hv : ∀ v ∈ ([xid, 1, 0, 0, 0, accept] : List Int), 0 ≤ v ∧ v ≤ 4294967295) :
    Calls Tryd.prog 11 #[.agg #[.int .i64 xid, .bool true, .bool false, .int .i64 proc, .int .i64 client, .int .i64 seq, .int .i64 uid, .int .i64 gid, .int .i64 accept, .string body]] w fun e w' => e = .returned (.string (str (words [xid, 1, 0, 0, 0, accept] ++ body.data.toList))) ∧ Below w.heap.size w w' := by
  have HN : ∀ (b : Nat) (W : World), St 3 b #[.int .i64 xid, .int .i64 1, .int .i64 0, .int .i64 0, .int .i64 0, .int .i64 accept] W → Calls Tryd.prog 25 #[.slice (some ⟨b, 0, none⟩) 6 6] W fun e w' => e = .returned (.string (str (words [xid, 1, 0, 0, 0, accept]))) ∧ Below W.heap.size W w' := fun b W h => mfnums_any b [xid, 1, 0, 0, 0, accept] W h hv (by simp)
  have hsz : (str (words [xid, 1, 0, 0, 0, accept])).size = 24 := by rw [str_size, words_len]; rfl
  have hcat : str (words [xid, 1, 0, 0, 0, accept] ++ body.data.toList) = str (words [xid, 1, 0, 0, 0, accept]) ++ body := by
    have h := str_append (words [xid, 1, 0, 0, 0, accept]) body.data.toList
    rw [str_data] at h
    exact h.symm
  rw [hcat]
  obtain ⟨p, hp⟩ : ∃ p, p = str (words [xid, 1, 0, 0, 0, accept]) := ⟨_, rfl⟩
  rw [← hp] at HN hsz ⊢
  have z1 : ¬ 9223372036854775807 < p.size + body.size := by omega
  replace HN := Lib.hid HN
  clear hcat hp hsz hv hb
  have T0 : St 25 w.heap.size #[.int .i64 xid, .bool true, .bool false, .int .i64 proc, .int .i64 client, .int .i64 seq, .int .i64 uid, .int .i64 gid, .int .i64 accept, .string body] (w.alloc (.cells #[.int .i64 xid, .bool true, .bool false, .int .i64 proc, .int .i64 client, .int .i64 seq, .int .i64 uid, .int .i64 gid, .int .i64 accept, .string body] 25 (0, 0))) := St.new w 25 _
  have B0 : Below w.heap.size w (w.alloc (.cells #[.int .i64 xid, .bool true, .bool false, .int .i64 proc, .int .i64 client, .int .i64 seq, .int .i64 uid, .int .i64 gid, .int .i64 accept, .string body] 25 (0, 0))) := below_one w _
  have q1 := T0.cell (j := 1) rfl
  have q2 := T0.cell (j := 2) rfl
  have TD := Lib.hid (show St 25 w.heap.size #[.int .i64 xid, .bool true, .bool false, .int .i64 proc, .int .i64 client, .int .i64 seq, .int .i64 uid, .int .i64 gid, .int .i64 accept, .string body] (w.alloc (.cells #[.int .i64 xid, .bool true, .bool false, .int .i64 proc, .int .i64 client, .int .i64 seq, .int .i64 uid, .int .i64 gid, .int .i64 accept, .string body] 25 (0, 0))).drew from T0)
  have BD := Lib.hid B0.drew
  clear T0 B0
  go_enter Tryd.func11, Tryd.ntmps11
  go_wp2_with fail
  clear q1 q2
  refine wp_region_held (S := fun w' => St 25 w.heap.size #[.int .i64 xid, .bool true, .bool false, .int .i64 proc, .int .i64 client, .int .i64 seq, .int .i64 uid, .int .i64 gid, .int .i64 accept, .string body] w') (by kernel_rfl) ?_
  change wpAnyH _ _ _ _ _ _ _ _ (World.drew _)
  generalize (World.drew (w.alloc (.cells #[.int .i64 xid, .bool true, .bool false, .int .i64 proc, .int .i64 client, .int .i64 seq, .int .i64 uid, .int .i64 gid, .int .i64 accept, .string body] 25 (0, 0)))) = WD at TD BD ⊢
  refine wpAnyH_take (i := 0) (v := .pointer (some ⟨w.heap.size, 0, none⟩)) rfl (by kernel_rfl) (by kernel_rfl) (by kernel_rfl) (fun _ _ _ h => h) (Or.inl ⟨by rfl, fun w' hS => ?_⟩) TD.out ?_
  · clear hS; go_simp
  refine wpAnyH_take (i := 1) (v := .int .i64 xid) rfl (by kernel_rfl) (by kernel_rfl) (by kernel_rfl) (fun _ _ _ h => h) (Or.inl ⟨by rfl, fun w' hS => ?_⟩) TD.out ?_
  · have cc := hS.cell (j := 0) rfl; clear hS; go_simp
  refine wpAnyH_take (i := 2) (v := .pointer (some ⟨w.heap.size, 8, none⟩)) rfl (by kernel_rfl) (by kernel_rfl) (by kernel_rfl) (fun _ _ _ h => h) (Or.inl ⟨by rfl, fun w' hS => ?_⟩) TD.out ?_
  · clear hS; go_simp
  refine wpAnyH_take (i := 3) (v := .int .i64 accept) rfl (by kernel_rfl) (by kernel_rfl) (by kernel_rfl) (fun _ _ _ h => h) (Or.inl ⟨by rfl, fun w' hS => ?_⟩) TD.out ?_
  · have cc := hS.cell (j := 8) rfl; clear hS; go_simp
  refine wpAnyH_take (i := 6) (v := .pointer (some ⟨w.heap.size, 9, none⟩)) rfl (by kernel_rfl) (by kernel_rfl) (by kernel_rfl) (fun _ _ _ h => h) (Or.inl ⟨by rfl, fun w' hS => ?_⟩) TD.out ?_
  · clear hS; go_simp
  refine wpAnyH_take (i := 7) (v := .string body) rfl (by kernel_rfl) (by kernel_rfl) (by kernel_rfl) (fun _ _ _ h => h) (Or.inl ⟨by rfl, fun w' hS => ?_⟩) TD.out ?_
  · have cc := hS.cell (j := 9) rfl; clear hS; go_simp
  refine wpAnyH_ready (rs := [4]) (by kernel_rfl) (by simp) ?_
  refine AllReadyH.cons rfl (fun K hK => ?_) AllReadyH.nil
  go_simp
  refine hK.out _ _ (TD.out.alloc _) (fun S1 => ?_)
  clear hK K
  refine wpAnyH_ready (rs := [5]) (by kernel_rfl) (by simp) ?_
  refine AllReadyH.cons rfl (fun K hK => ?_) AllReadyH.nil
  go_simp
  refine (HN.out _ _ (St.new WD 3 _)).mono ?_
  rintro e w1 ⟨rfl, b1⟩
  have L1 := Lib.hid ((BD.out.alloc BD.out.size _).trans (b1.mono (BD.out.alloc BD.out.size _).size))
  go_simp
  refine hK.out _ _ (S1.below b1) (fun S2 => ?_)
  clear hK K S1
  refine wpAnyH_ready (rs := [8]) (by kernel_rfl) (by simp) ?_
  refine AllReadyH.cons rfl (fun K hK => ?_) AllReadyH.nil
  go_simp
  refine hK.out _ _ S2 (fun S3 => ?_)
  clear hK K S3
  refine wpAnyH_ready (rs := [9]) (by kernel_rfl) (by simp) ?_
  refine AllReadyH.cons rfl (fun K hK => ?_) AllReadyH.nil
  go_simp
  refine hK.out _ _ S2 (fun S3 => ?_)
  clear hK K S2 S3
  refine wpAnyH_done (by kernel_rfl) ?_ _
  go_wp2_with fail
  go_ret
  exact ⟨rfl, L1.out⟩

set_option maxRecDepth 100000 in
set_option maxHeartbeats 2000000 in
theorem mfBytes_call (xid proc client seq uid gid accept : Int) (again : Bool) (body : ByteArray) (w : World) (hb : body.size ≤ 2048) (hv : ∀ v ∈ ([xid, 0, 2, 100003, 3, proc, 1, 16, client, seq, uid, gid, 0, 0] : List Int), 0 ≤ v ∧ v ≤ 4294967295) :
    Calls Tryd.prog 11 #[.agg #[.int .i64 xid, .bool false, .bool again, .int .i64 proc, .int .i64 client, .int .i64 seq, .int .i64 uid, .int .i64 gid, .int .i64 accept, .string body]] w fun e w' => e = .returned (.string (str (words [xid, 0, 2, 100003, 3, proc, 1, 16, client, seq, uid, gid, 0, 0] ++ body.data.toList))) ∧ Below w.heap.size w w' := by
  have HN : ∀ (b : Nat) (W : World), St 3 b #[.int .i64 xid, .int .i64 0, .int .i64 2, .int .i64 100003, .int .i64 3, .int .i64 proc, .int .i64 1, .int .i64 16, .int .i64 client, .int .i64 seq, .int .i64 uid, .int .i64 gid, .int .i64 0, .int .i64 0] W → Calls Tryd.prog 25 #[.slice (some ⟨b, 0, none⟩) 14 14] W fun e w' => e = .returned (.string (str (words [xid, 0, 2, 100003, 3, proc, 1, 16, client, seq, uid, gid, 0, 0]))) ∧ Below W.heap.size W w' := fun b W h => mfnums_any b [xid, 0, 2, 100003, 3, proc, 1, 16, client, seq, uid, gid, 0, 0] W h hv (by simp)
  have hsz : (str (words [xid, 0, 2, 100003, 3, proc, 1, 16, client, seq, uid, gid, 0, 0])).size = 56 := by rw [str_size, words_len]; rfl
  have hcat : str (words [xid, 0, 2, 100003, 3, proc, 1, 16, client, seq, uid, gid, 0, 0] ++ body.data.toList) = str (words [xid, 0, 2, 100003, 3, proc, 1, 16, client, seq, uid, gid, 0, 0]) ++ body := by
    have h := str_append (words [xid, 0, 2, 100003, 3, proc, 1, 16, client, seq, uid, gid, 0, 0]) body.data.toList
    rw [str_data] at h
    exact h.symm
  rw [hcat]
  obtain ⟨p, hp⟩ : ∃ p, p = str (words [xid, 0, 2, 100003, 3, proc, 1, 16, client, seq, uid, gid, 0, 0]) := ⟨_, rfl⟩
  rw [← hp] at HN hsz ⊢
  have z1 : ¬ 9223372036854775807 < p.size + body.size := by omega
  replace HN := Lib.hid HN
  clear hcat hp hsz hv hb
  have T0 : St 25 w.heap.size #[.int .i64 xid, .bool false, .bool again, .int .i64 proc, .int .i64 client, .int .i64 seq, .int .i64 uid, .int .i64 gid, .int .i64 accept, .string body] (w.alloc (.cells #[.int .i64 xid, .bool false, .bool again, .int .i64 proc, .int .i64 client, .int .i64 seq, .int .i64 uid, .int .i64 gid, .int .i64 accept, .string body] 25 (0, 0))) := St.new w 25 _
  have B0 : Below w.heap.size w (w.alloc (.cells #[.int .i64 xid, .bool false, .bool again, .int .i64 proc, .int .i64 client, .int .i64 seq, .int .i64 uid, .int .i64 gid, .int .i64 accept, .string body] 25 (0, 0))) := below_one w _
  have q1 := T0.cell (j := 1) rfl
  have q2 := T0.cell (j := 2) rfl
  have TD := Lib.hid (show St 25 w.heap.size #[.int .i64 xid, .bool false, .bool again, .int .i64 proc, .int .i64 client, .int .i64 seq, .int .i64 uid, .int .i64 gid, .int .i64 accept, .string body] (w.alloc (.cells #[.int .i64 xid, .bool false, .bool again, .int .i64 proc, .int .i64 client, .int .i64 seq, .int .i64 uid, .int .i64 gid, .int .i64 accept, .string body] 25 (0, 0))).drew from T0)
  have BD := Lib.hid B0.drew
  clear T0 B0
  go_enter Tryd.func11, Tryd.ntmps11
  go_wp2_with fail
  clear q1 q2
  refine wp_region_held (S := fun w' => St 25 w.heap.size #[.int .i64 xid, .bool false, .bool again, .int .i64 proc, .int .i64 client, .int .i64 seq, .int .i64 uid, .int .i64 gid, .int .i64 accept, .string body] w') (by kernel_rfl) ?_
  change wpAnyH _ _ _ _ _ _ _ _ (World.drew _)
  generalize (World.drew (w.alloc (.cells #[.int .i64 xid, .bool false, .bool again, .int .i64 proc, .int .i64 client, .int .i64 seq, .int .i64 uid, .int .i64 gid, .int .i64 accept, .string body] 25 (0, 0)))) = WD at TD BD ⊢
  refine wpAnyH_take (i := 0) (v := .pointer (some ⟨w.heap.size, 0, none⟩)) rfl (by kernel_rfl) (by kernel_rfl) (by kernel_rfl) (fun _ _ _ h => h) (Or.inl ⟨by rfl, fun w' hS => ?_⟩) TD.out ?_
  · clear hS; go_simp
  refine wpAnyH_take (i := 1) (v := .int .i64 xid) rfl (by kernel_rfl) (by kernel_rfl) (by kernel_rfl) (fun _ _ _ h => h) (Or.inl ⟨by rfl, fun w' hS => ?_⟩) TD.out ?_
  · have cc := hS.cell (j := 0) rfl; clear hS; go_simp
  refine wpAnyH_take (i := 2) (v := .pointer (some ⟨w.heap.size, 3, none⟩)) rfl (by kernel_rfl) (by kernel_rfl) (by kernel_rfl) (fun _ _ _ h => h) (Or.inl ⟨by rfl, fun w' hS => ?_⟩) TD.out ?_
  · clear hS; go_simp
  refine wpAnyH_take (i := 3) (v := .int .i64 proc) rfl (by kernel_rfl) (by kernel_rfl) (by kernel_rfl) (fun _ _ _ h => h) (Or.inl ⟨by rfl, fun w' hS => ?_⟩) TD.out ?_
  · have cc := hS.cell (j := 3) rfl; clear hS; go_simp
  refine wpAnyH_take (i := 4) (v := .pointer (some ⟨w.heap.size, 4, none⟩)) rfl (by kernel_rfl) (by kernel_rfl) (by kernel_rfl) (fun _ _ _ h => h) (Or.inl ⟨by rfl, fun w' hS => ?_⟩) TD.out ?_
  · clear hS; go_simp
  refine wpAnyH_take (i := 5) (v := .pointer (some ⟨w.heap.size, 4, none⟩)) rfl (by kernel_rfl) (by kernel_rfl) (by kernel_rfl) (fun _ _ _ h => h) (Or.inl ⟨by rfl, fun w' hS => ?_⟩) TD.out ?_
  · clear hS; go_simp
  refine wpAnyH_take (i := 6) (v := .int .i64 client) rfl (by kernel_rfl) (by kernel_rfl) (by kernel_rfl) (fun _ _ _ h => h) (Or.inl ⟨by rfl, fun w' hS => ?_⟩) TD.out ?_
  · have cc := hS.cell (j := 4) rfl; clear hS; go_simp
  refine wpAnyH_take (i := 7) (v := .pointer (some ⟨w.heap.size, 4, none⟩)) rfl (by kernel_rfl) (by kernel_rfl) (by kernel_rfl) (fun _ _ _ h => h) (Or.inl ⟨by rfl, fun w' hS => ?_⟩) TD.out ?_
  · clear hS; go_simp
  refine wpAnyH_take (i := 8) (v := .pointer (some ⟨w.heap.size, 5, none⟩)) rfl (by kernel_rfl) (by kernel_rfl) (by kernel_rfl) (fun _ _ _ h => h) (Or.inl ⟨by rfl, fun w' hS => ?_⟩) TD.out ?_
  · clear hS; go_simp
  refine wpAnyH_take (i := 9) (v := .int .i64 seq) rfl (by kernel_rfl) (by kernel_rfl) (by kernel_rfl) (fun _ _ _ h => h) (Or.inl ⟨by rfl, fun w' hS => ?_⟩) TD.out ?_
  · have cc := hS.cell (j := 5) rfl; clear hS; go_simp
  refine wpAnyH_take (i := 10) (v := .pointer (some ⟨w.heap.size, 4, none⟩)) rfl (by kernel_rfl) (by kernel_rfl) (by kernel_rfl) (fun _ _ _ h => h) (Or.inl ⟨by rfl, fun w' hS => ?_⟩) TD.out ?_
  · clear hS; go_simp
  refine wpAnyH_take (i := 11) (v := .pointer (some ⟨w.heap.size, 6, none⟩)) rfl (by kernel_rfl) (by kernel_rfl) (by kernel_rfl) (fun _ _ _ h => h) (Or.inl ⟨by rfl, fun w' hS => ?_⟩) TD.out ?_
  · clear hS; go_simp
  refine wpAnyH_take (i := 12) (v := .int .i64 uid) rfl (by kernel_rfl) (by kernel_rfl) (by kernel_rfl) (fun _ _ _ h => h) (Or.inl ⟨by rfl, fun w' hS => ?_⟩) TD.out ?_
  · have cc := hS.cell (j := 6) rfl; clear hS; go_simp
  refine wpAnyH_take (i := 13) (v := .pointer (some ⟨w.heap.size, 4, none⟩)) rfl (by kernel_rfl) (by kernel_rfl) (by kernel_rfl) (fun _ _ _ h => h) (Or.inl ⟨by rfl, fun w' hS => ?_⟩) TD.out ?_
  · clear hS; go_simp
  refine wpAnyH_take (i := 14) (v := .pointer (some ⟨w.heap.size, 7, none⟩)) rfl (by kernel_rfl) (by kernel_rfl) (by kernel_rfl) (fun _ _ _ h => h) (Or.inl ⟨by rfl, fun w' hS => ?_⟩) TD.out ?_
  · clear hS; go_simp
  refine wpAnyH_take (i := 15) (v := .int .i64 gid) rfl (by kernel_rfl) (by kernel_rfl) (by kernel_rfl) (fun _ _ _ h => h) (Or.inl ⟨by rfl, fun w' hS => ?_⟩) TD.out ?_
  · have cc := hS.cell (j := 7) rfl; clear hS; go_simp
  refine wpAnyH_take (i := 18) (v := .pointer (some ⟨w.heap.size, 9, none⟩)) rfl (by kernel_rfl) (by kernel_rfl) (by kernel_rfl) (fun _ _ _ h => h) (Or.inl ⟨by rfl, fun w' hS => ?_⟩) TD.out ?_
  · clear hS; go_simp
  refine wpAnyH_take (i := 19) (v := .string body) rfl (by kernel_rfl) (by kernel_rfl) (by kernel_rfl) (fun _ _ _ h => h) (Or.inl ⟨by rfl, fun w' hS => ?_⟩) TD.out ?_
  · have cc := hS.cell (j := 9) rfl; clear hS; go_simp
  refine wpAnyH_ready (rs := [16]) (by kernel_rfl) (by simp) ?_
  refine AllReadyH.cons rfl (fun K hK => ?_) AllReadyH.nil
  go_simp
  refine hK.out _ _ (TD.out.alloc _) (fun S1 => ?_)
  clear hK K
  refine wpAnyH_ready (rs := [17]) (by kernel_rfl) (by simp) ?_
  refine AllReadyH.cons rfl (fun K hK => ?_) AllReadyH.nil
  go_simp
  refine (HN.out _ _ (St.new WD 3 _)).mono ?_
  rintro e w1 ⟨rfl, b1⟩
  have L1 := Lib.hid ((BD.out.alloc BD.out.size _).trans (b1.mono (BD.out.alloc BD.out.size _).size))
  go_simp
  refine hK.out _ _ (S1.below b1) (fun S2 => ?_)
  clear hK K S1
  refine wpAnyH_ready (rs := [20]) (by kernel_rfl) (by simp) ?_
  refine AllReadyH.cons rfl (fun K hK => ?_) AllReadyH.nil
  go_simp
  refine hK.out _ _ S2 (fun S3 => ?_)
  clear hK K S3
  refine wpAnyH_ready (rs := [21]) (by kernel_rfl) (by simp) ?_
  refine AllReadyH.cons rfl (fun K hK => ?_) AllReadyH.nil
  go_simp
  refine hK.out _ _ S2 (fun S3 => ?_)
  clear hK K S2 S3
  refine wpAnyH_done (by kernel_rfl) ?_ _
  go_wp2_with fail
  go_ret
  exact ⟨rfl, L1.out⟩

theorem mfBytes_any (m : Mg) (w : World) (h : okMg m = true) : Calls Tryd.prog 11 #[.agg m.arr] w fun e w' => e = .returned (.string (str (mgBytes m))) ∧ Below w.heap.size w w' := by
  obtain ⟨xid, ans, again, proc, client, seq, uid, gid, accept, body⟩ := m
  cases ans
  · obtain ⟨⟨x0, x1⟩, hb, hb2, ⟨p0, p1⟩, ho, a0, a1⟩ := (okMg_call rfl).1 h
    obtain ⟨⟨c0, c1⟩, ⟨s0, s1⟩, ⟨u0, u1⟩, ⟨g0, g1⟩⟩ := (okOwner_iff _ _ _ _).1 ho
    dsimp only at *
    exact mfBytes_call xid proc client seq uid gid accept again body w (by omega) (by
      simp only [List.forall_mem_cons]
      exact ⟨by omega, by omega, by omega, by omega, by omega, by omega, by omega, by omega, by omega, by omega, by omega, by omega, by omega, by omega, fun _ h => by cases h⟩)
  · obtain ⟨⟨x0, x1⟩, hb, hb2, _, _, _, _, _, ⟨c0, c1⟩, ho⟩ := (okMg_ans rfl).1 h
    dsimp only at *
    cases again
    · exact mfBytes_ans xid proc client seq uid gid accept body w (by omega) (by
        simp only [List.forall_mem_cons]
        exact ⟨by omega, by omega, by omega, by omega, by omega, by omega, fun _ h => by cases h⟩)
    · exact mfBytes_again xid proc client seq uid gid accept body w (by omega) (by
        simp only [List.forall_mem_cons]
        exact ⟨by omega, by omega, by omega, by omega, by omega, by omega, fun _ h => by cases h⟩)
end Go.Proofs.YtimbcombhdgjiaaDoor
