/- rec.Put of a change that goes; the law's fixed calls. -/
import Derived.Test.YtfobknppdjiniaaVpd
namespace Go.Proofs.Ytfobknppdjiniaa
open Go.RowKit

set_option maxRecDepth 100000 in
set_option maxHeartbeats 1000000 in
theorem recAllValid_gone (k : Nat) (s : ByteArray) (w : World) (hs : s.size = 2) (h : St 39 k (goneCs s) w) : Calls Try.prog 9 #[.slice (some ⟨k, 0, none⟩) 1 1] w fun e w' => e = .returned (.bool true) ∧ Below w.heap.size w w' := by
  have H := Lib.hid h
  have HC := Lib.hid (fun W => recCheck_gone s W hs)
  clear h hs
  go_enter Try.func9, Try.ntmps9
  go_wp2_with fail
  go_loopw [7] (fun c wr => ∃ i : Nat, i ≤ 1 ∧ c = .int .i64 i ∧ Below w.heap.size w wr) (fun c _ => 1 - (intOf c).toNat)
  case atStart => exact ⟨0, by omega, rfl, Below.refl _ _⟩
  case round =>
    obtain ⟨i, hi, rfl, hb⟩ := hrel
    have HB := Lib.hid hb
    by_cases h0 : i = 0
    · subst h0
      have HR := Lib.hid (show wr.rangeAt k 0 [.int .i64 4, .int .i64 0, .int .i64 0, .string s, .string ⟨#[]⟩, .string ⟨#[]⟩, .int .i64 0, .int .i64 0, .int .i64 0, .int .i64 0, .int .i64 0, .int .i64 0, .int .i64 0, .int .i64 0, .int .i64 0, .int .i64 0, .int .i64 0, .int .i64 0] from range_all (cs := #[.int .i64 4, .int .i64 0, .int .i64 0, .string s, .string ⟨#[]⟩, .string ⟨#[]⟩, .int .i64 0, .int .i64 0, .int .i64 0, .int .i64 0, .int .i64 0, .int .i64 0, .int .i64 0, .int .i64 0, .int .i64 0, .int .i64 0, .int .i64 0, .int .i64 0]) (H.out.below hb))
      clear hb
      go_wp2_with (first
        | ((with_reducible show wpList _ _ _ ({ dst := _, op := .load 39 (.tmp 9), type := _, pos := _, after := _, guard := _ } :: _) _ _); refine wpList_load_mid rfl 39 _ rfl k 0 rfl [.int .i64 4, .int .i64 0, .int .i64 0, .string s, .string ⟨#[]⟩, .string ⟨#[]⟩, .int .i64 0, .int .i64 0, .int .i64 0, .int .i64 0, .int .i64 0, .int .i64 0, .int .i64 0, .int .i64 0, .int .i64 0, .int .i64 0, .int .i64 0, .int .i64 0] _ HR.out Try.underlying39 rfl (by kernel_rfl) ?_)
        | ((with_reducible show wpList _ _ _ ({ dst := _, op := .store 39 (.tmp 4) _, type := _, pos := _, after := _, guard := _ } :: _) _ _); refine wpList_store_st rfl 39 _ _ rfl wr.heap.size #[.int .i64 4, .int .i64 0, .int .i64 0, .string s, .string ⟨#[]⟩, .string ⟨#[]⟩, .int .i64 0, .int .i64 0, .int .i64 0, .int .i64 0, .int .i64 0, .int .i64 0, .int .i64 0, .int .i64 0, .int .i64 0, .int .i64 0, .int .i64 0, .int .i64 0] rfl rfl _ (St.new wr _ _) (by kernel_rfl) rfl rfl ?_; rintro w6 rfl -; rw [alloc_row])
        | ((with_reducible show wpList _ _ _ ({ dst := _, op := .load 39 (.tmp 4), type := _, pos := _, after := _, guard := _ } :: _) _ _); refine wpList_load_st rfl 39 _ rfl wr.heap.size rfl 39 #[.int .i64 4, .int .i64 0, .int .i64 0, .string s, .string ⟨#[]⟩, .string ⟨#[]⟩, .int .i64 0, .int .i64 0, .int .i64 0, .int .i64 0, .int .i64 0, .int .i64 0, .int .i64 0, .int .i64 0, .int .i64 0, .int .i64 0, .int .i64 0, .int .i64 0] (St.new wr _ _) _ Try.underlying39 rfl (by kernel_rfl) ?_)
        | (go_at_call 11; go_must (refine (HC.out _).mono ?_); rintro e w7 ⟨rfl, b7⟩))
      go_round
      case rel => exact ⟨1, by omega, by go_num, HB.out.trans (((Below.refl _ wr).alloc HB.out.size _).trans (b7.mono (Nat.le_trans HB.out.size (by simp))))⟩
      case measure => simp [intOf]
    · obtain rfl : i = 1 := by omega
      go_wp2
      go_ret
      exact ⟨rfl, hb⟩

theorem wr_none {T E : TypeId} (w : World) : Wr T E w.heap.size none [] (w.alloc (.cells #[.slice none 0 0] T (0, 0))) :=
  ⟨.slice none 0 0, heap_alloc_new w _, World.ownsRow_nil _ _ _ _, rfl⟩
set_option maxRecDepth 100000 in
set_option maxHeartbeats 1000000 in
theorem recWrite_gone (k : Nat) (s : ByteArray) (w : World) (h : St 39 k (goneCs s) w) : Calls Try.prog 10 #[.slice (some ⟨k, 0, none⟩) 1 1] w fun e w' => e = .returned (.string (str ((putU32 1).2 ++ (putU32 4).2 ++ (putOpaque s).2))) ∧ Below w.heap.size w w' := by
  obtain ⟨W, hW⟩ : ∃ W, W = (w.alloc (.cells #[.slice none 0 0] 54 (0, 0))).alloc (.cells #[.pointer (some ⟨w.heap.size, 0, none⟩)] 51 (0, 0)) := ⟨_, rfl⟩
  have hk := h.lt
  have hsz : W.heap.size = w.heap.size + 1 + 1 := by rw [hW]; simp
  have s0 : St 39 k (goneCs s) W := by rw [hW]; exact (h.alloc _).alloc _
  have s1 : Wr 54 5 w.heap.size none [] W := by rw [hW]; exact (wr_none w).alloc _
  have s2 : St 51 (w.heap.size + 1) #[.pointer (some ⟨w.heap.size, 0, none⟩)] W := by rw [hW]; have := St.new (w.alloc (.cells #[.slice none 0 0] 54 (0, 0))) 51 #[.pointer (some ⟨w.heap.size, 0, none⟩)]; simpa using this
  have bW : Below w.heap.size w W := by rw [hW]; exact ((Below.refl _ w).alloc (Nat.le_refl _) _).alloc (by simp) _
  have HU := Lib.hid (show Calls Try.prog 12 #[.pointer (some ⟨w.heap.size, 0, none⟩), .int .i64 1] W fun e w' => ∃ c r, e = .returned c ∧ Wr 54 5 w.heap.size r (putU32 1).2 w' ∧ St 39 k (goneCs s) w' ∧ St 51 (w.heap.size + 1) #[.pointer (some ⟨w.heap.size, 0, none⟩)] w' ∧ Below w.heap.size w w' ∧ some k ≠ r ∧ some (w.heap.size + 1) ≠ r ∧ ∀ j, r = some j → w.heap.size ≤ j from
    (wU32_any w.heap.size none [] 1 W (by simp) s1).mono fun e w' ⟨he, r, q1, q2, q3⟩ => by
      have hr : r = none ∨ ∃ j, r = some j ∧ w.heap.size + 1 < j := by
        rcases q3 with rfl | ⟨j, rfl, hj⟩
        · exact .inl rfl
        · exact .inr ⟨j, rfl, by omega⟩
      refine ⟨_, r, he, by simpa using q1, Keep.same q2 s0 (by omega) (by simp), Keep.same q2 s2 (by omega) (by simp), bW.trans (q2.below (Nat.le_refl _) (by omega) (by simp)), ?_, ?_, ?_⟩
      · rcases hr with rfl | ⟨j, rfl, hj⟩
        · simp
        · intro e; injection e with e; omega
      · rcases hr with rfl | ⟨j, rfl, hj⟩
        · simp
        · intro e; injection e with e; omega
      · rcases hr with rfl | ⟨j, rfl, hj⟩
        · simp
        · intro i e; injection e with e; omega)
  have HV := Lib.hid (show ∀ r W', Wr 54 5 w.heap.size r (putU32 1).2 W' → St 39 k (goneCs s) W' → St 51 (w.heap.size + 1) #[.pointer (some ⟨w.heap.size, 0, none⟩)] W' → Below w.heap.size w W' → some k ≠ r ∧ some (w.heap.size + 1) ≠ r ∧ (∀ j, r = some j → w.heap.size ≤ j) →
      Calls Try.prog 13 #[.slice (some ⟨k, 0, none⟩) 1 1, .agg #[.func (.func 14) #[] #[.pointer (some ⟨w.heap.size + 1, 0, none⟩)], .func (.func 15) #[] #[.pointer (some ⟨w.heap.size + 1, 0, none⟩)], .func (.func 16) #[] #[.pointer (some ⟨w.heap.size + 1, 0, none⟩)], .func (.func 18) #[] #[.pointer (some ⟨w.heap.size + 1, 0, none⟩)], .func (.func 20) #[] #[.pointer (some ⟨w.heap.size + 1, 0, none⟩)]]] W' fun e w' => e = .returned (.bool true) ∧ (∃ r', Wr 54 5 w.heap.size r' ((putU32 1).2 ++ (putU32 4).2 ++ (putOpaque s).2) w') ∧ St 51 (w.heap.size + 1) #[.pointer (some ⟨w.heap.size, 0, none⟩)] w' ∧ Below w.heap.size w w' from
    fun r W' q1 q2 q3 q4 q5 => (visit_write w.heap.size k (w.heap.size + 1) w.heap.size r _ s W' (by rw [show (putU32 1).2 = be 4 1 from rfl, be_length]; omega) ⟨by omega, q5.1⟩ ⟨by omega, q5.2.1⟩ ⟨Nat.le_refl _, q4.size, q5.2.2⟩ q2 q3 q1).mono fun e w' ⟨he, g1, g2, g3⟩ => ⟨he, g1, g2, q4.trans g3⟩)
  have c0 : W.cell? ⟨w.heap.size + 1, 0, none⟩ = some (.pointer (some ⟨w.heap.size, 0, none⟩)) := s2.cell rfl
  have HW := Lib.hid hW
  obtain ⟨ys, hys⟩ : ∃ ys, ys = (putU32 1).2 ++ (putU32 4).2 ++ (putOpaque s).2 := ⟨_, rfl⟩
  rw [← hys] at HV ⊢
  obtain ⟨y0, hy0⟩ : ∃ y, y = (putU32 1).2 := ⟨_, rfl⟩
  rw [← hy0] at HV HU
  clear hW hk hsz s0 s1 s2 bW h hys hy0
  go_enter Try.func10, Try.ntmps10
  go_wp2_with fail
  rw [← HW.out]
  go_wp2_with (first
    | (go_at_call 12; go_must (refine HU.out.mono ?_); rintro e w3 ⟨c, r, rfl, q1, q2, q3, q4, q5⟩; have c3 : w3.cell? ⟨w.heap.size + 1, 0, none⟩ = some (.pointer (some ⟨w.heap.size, 0, none⟩)) := q3.cell rfl; have HV3 := Lib.hid (HV.out r w3 q1 q2 q3 q4 q5); clear q1 q2 q3 q4 q5)
    | (go_at_call 13; go_must (refine HV3.out.mono ?_); rintro e w4 ⟨rfl, ⟨r4, q1⟩, q2, q3⟩; have c4 : w4.cell? ⟨w.heap.size + 1, 0, none⟩ = some (.pointer (some ⟨w.heap.size, 0, none⟩)) := q2.cell rfl; have Q1 := Lib.hid q1; have Q3 := Lib.hid q3; clear q1 q2 q3)
    | (go_at_call 22; go_must (refine (wText_any _ r4 ys _ Q1.out).mono ?_); rintro e w5 ⟨rfl, rfl⟩))
  go_ret
  exact ⟨rfl, Q3.out⟩

set_option maxRecDepth 100000 in
set_option maxHeartbeats 1000000 in
theorem recPut_gone (k : Nat) (s : ByteArray) (w : World) (hs : s.size = 2) (h : St 39 k (goneCs s) w) : Calls Try.prog 8 #[.slice (some ⟨k, 0, none⟩) 1 1] w fun e w' => e = .returned (.tuple #[.string (str ((putU32 1).2 ++ (putU32 4).2 ++ (putOpaque s).2)), .int .i64 0]) ∧ Below w.heap.size w w' := by
  have HA := Lib.hid (recAllValid_gone k s w hs h)
  have HWr := Lib.hid (fun W (hW : Below w.heap.size w W) => recWrite_gone k s W (h.below hW))
  obtain ⟨ys, hys⟩ : ∃ ys, ys = str ((putU32 1).2 ++ (putU32 4).2 ++ (putOpaque s).2) := ⟨_, rfl⟩
  rw [← hys] at HWr ⊢
  clear h hs hys
  go_enter Try.func8, Try.ntmps8
  go_wp2_with (first
    | (go_at_call 9; go_must (refine HA.out.mono ?_); rintro e w3 ⟨rfl, b3⟩; have B3 := Lib.hid b3; clear b3)
    | (go_at_call 10; go_must (refine (HWr.out _ B3.out).mono ?_); rintro e w4 ⟨rfl, b4⟩))
  go_ret2
  exact ⟨rfl, B3.out.trans (b4.mono B3.out.size)⟩

set_option maxRecDepth 100000 in
set_option maxHeartbeats 1000000 in
theorem rxknown_any (w : World) : Calls Try.prog 4 #[] w fun e w' => e = .returned (.bool true) ∧ Below w.heap.size w w' := by
  have HP := Lib.hid (show Calls Try.prog 8 #[.slice (some ⟨w.heap.size, 0, none⟩) 1 1] (w.alloc (.cells #[.int .i64 4, .int .i64 0, .int .i64 0, .string ⟨#[97, 98]⟩, .string ⟨#[]⟩, .string ⟨#[]⟩, .int .i64 0, .int .i64 0, .int .i64 0, .int .i64 0, .int .i64 0, .int .i64 0, .int .i64 0, .int .i64 0, .int .i64 0, .int .i64 0, .int .i64 0, .int .i64 0] 39 (0, 0))) fun e w' => e = .returned (.tuple #[.string ⟨#[0, 0, 0, 1, 0, 0, 0, 4, 0, 0, 0, 2, 97, 98, 0, 0]⟩, .int .i64 0]) ∧ Below w.heap.size w w' from
    (recPut_gone w.heap.size ⟨#[97, 98]⟩ (w.alloc (.cells #[.int .i64 4, .int .i64 0, .int .i64 0, .string ⟨#[97, 98]⟩, .string ⟨#[]⟩, .string ⟨#[]⟩, .int .i64 0, .int .i64 0, .int .i64 0, .int .i64 0, .int .i64 0, .int .i64 0, .int .i64 0, .int .i64 0, .int .i64 0, .int .i64 0, .int .i64 0, .int .i64 0] 39 (0, 0))) rfl (St.new w 39 #[.int .i64 4, .int .i64 0, .int .i64 0, .string ⟨#[97, 98]⟩, .string ⟨#[]⟩, .string ⟨#[]⟩, .int .i64 0, .int .i64 0, .int .i64 0, .int .i64 0, .int .i64 0, .int .i64 0, .int .i64 0, .int .i64 0, .int .i64 0, .int .i64 0, .int .i64 0, .int .i64 0])).mono fun e w' ⟨he, hb⟩ => ⟨he.trans (by
      congr 1), ((Below.refl _ w).alloc (Nat.le_refl _) _).trans (hb.mono (by simp))⟩)
  go_enter Try.func4, Try.ntmps4
  go_wp2_with (go_at_call 8; go_must (refine HP.out.mono ?_); rintro e w3 ⟨rfl, b3⟩)
  go_ret
  exact ⟨rfl, b3⟩
end Go.Proofs.Ytfobknppdjiniaa
