/- The law of a record's pieces. -/
import Derived.Test.YtfipojmgmmjnmaaQf
import Derived.Test.YtfipojmgmmjnmaaQe
namespace Go.Proofs.Ytfipojmgmmjnmaa
open Go.RowKit

theorem joinedPair_pieces (r : ByteArray) (e q : Int) (hn : numsB e q = true) (hr : r.size ≤ 6400) : joinedPair (pieces r e q) = (r, 0) := by
  unfold joinedPair
  rw [joined_pieces r e q hn hr]
set_option maxRecDepth 100000 in
theorem cuts_big (r : ByteArray) (e q : Int) (w : World) (hr : 7000 < r.size) : Calls Try.prog 6 #[.string r, .int .i64 e, .int .i64 q] w fun a w' => a = .returned (.bool true) ∧ Below w.heap.size w w' := by
  have d1 : decide ((r.size : Int) > 7000) = true := decide_eq_true (by omega)
  go_enter Try.func6, Try.ntmps6
  go_wp2_with (go_at_call 26; go_must (refine (pcknown_any _).mono ?_); rintro a w1 ⟨rfl, b1⟩; have B1 := Lib.hid b1; clear b1)
  go_ret
  exact ⟨rfl, B1.out⟩
set_option maxRecDepth 100000 in
theorem cuts_long (r : ByteArray) (e q : Int) (w : World) (h1 : r.size ≤ 7000) (h2 : 6400 < r.size) : Calls Try.prog 6 #[.string r, .int .i64 e, .int .i64 q] w fun a w' => a = .returned (.bool true) ∧ Below w.heap.size w w' := by
  have d1 : decide ((r.size : Int) > 7000) = false := decide_eq_false (by omega)
  have d2 : decide ((r.size : Int) > 6400) = true := decide_eq_true (by omega)
  have HC := Lib.hid (fun W => pcCut_long r e q W h2)
  have HK := Lib.hid (fun W => pcCount_out (r.size : Int) W (.inr (by omega)))
  go_enter Try.func6, Try.ntmps6
  go_wp2_with (first
    | (go_at_call 27; go_must (refine (HC.out _).mono ?_); rintro a w1 ⟨rfl, b1⟩; have B1 := Lib.hid b1; clear b1)
    | (go_at_call 28; go_must (refine (HK.out _).mono ?_); rintro a w2 ⟨rfl, q2, hw2⟩; have B2 := Lib.hid (show Below w.heap.size w w2 from by rw [hw2]; exact below_drewN B1.out q2); clear hw2)
    | (go_at_call 26; go_must (refine (pcknown_any _).mono ?_); rintro a w3 ⟨rfl, b3⟩; have B3 := Lib.hid b3; clear b3))
  go_ret
  exact ⟨rfl, below_chain B2.out B3.out⟩
set_option maxRecDepth 100000 in
theorem cuts_none (r : ByteArray) (e q : Int) (w : World) (h2 : r.size ≤ 6400) (hn : numsB e q = false) : Calls Try.prog 6 #[.string r, .int .i64 e, .int .i64 q] w fun a w' => a = .returned (.bool true) ∧ Below w.heap.size w w' := by
  have d1 : decide ((r.size : Int) > 7000) = false := decide_eq_false (by omega)
  have d2 : decide ((r.size : Int) > 6400) = false := decide_eq_false (by omega)
  have HC := Lib.hid (fun W => pcCut_none r e q W h2 hn)
  have HN := Lib.hid (fun W => pkNums_any e q W)
  rw [hn] at HN
  go_enter Try.func6, Try.ntmps6
  go_wp2_with (first
    | (go_at_call 27; go_must (refine (HC.out _).mono ?_); rintro a w1 ⟨rfl, b1⟩; have B1 := Lib.hid b1; clear b1)
    | (go_at_call 29; go_must (refine (HN.out _).mono ?_); rintro a w2 ⟨rfl, rfl⟩)
    | (go_at_call 26; go_must (refine (pcknown_any _).mono ?_); rintro a w3 ⟨rfl, b3⟩; have B3 := Lib.hid b3; clear b3))
  go_ret
  exact ⟨rfl, below_chain B1.out B3.out⟩
set_option maxRecDepth 100000 in
set_option maxHeartbeats 1000000 in
theorem cuts_do (r : ByteArray) (e q : Int) (w : World) (h2 : r.size ≤ 6400) (hn : numsB e q = true) : Calls Try.prog 6 #[.string r, .int .i64 e, .int .i64 q] w fun a w' => a = .returned (.bool true) ∧ Below w.heap.size w w' := by
  have d1 : decide ((r.size : Int) > 7000) = false := decide_eq_false (by omega)
  have d2 : decide ((r.size : Int) > 6400) = false := decide_eq_false (by omega)
  have HC := Lib.hid (fun W => pcCut_do r e q W h2 hn)
  have HN := Lib.hid (fun W => pkNums_any e q W)
  rw [hn] at HN
  have HL := Lib.hid (pieces_len r e q)
  have HJ := Lib.hid (joinedPair_pieces r e q hn h2)
  have HR := Lib.hid (fun W => pkCut_any r e q W (by omega))
  have HK := Lib.hid (fun W => pcCount_in r.size W h2)
  have hcn : cnt r.size ≤ 64 := cnt_most _ h2
  obtain ⟨m, hm⟩ : ∃ m, m = cnt r.size := ⟨_, rfl⟩
  obtain ⟨L, hL⟩ : ∃ L, L = pieces r e q := ⟨_, rfl⟩
  rw [← hm] at HC HK HL hcn
  rw [← hL] at HC HJ HR HL
  clear hm hL h2 hn
  go_enter Try.func6, Try.ntmps6
  go_wp2_with (first
    | (go_at_call 27; go_must (refine (HC.out _).mono ?_); rintro a w1 ⟨v, rfl, ho, b1⟩; have hP := pzs_row ho HL.out.symm; obtain ⟨ao, cap, hv⟩ := own_slice ho; subst hv; have P1 := Lib.hid hP; have B1 := Lib.hid b1; clear ho b1 hP)
    | (go_at_call 29; go_must (refine (HN.out _).mono ?_); rintro a w2 ⟨rfl, rfl⟩)
    | (go_at_call 30; go_must (refine (pcJoin_any _ L _ P1.out).mono ?_); rintro a w3 ⟨h3, b3⟩; rw [HJ.out] at h3; subst h3; have B3 := Lib.hid b3; have P3 := Lib.hid (P1.out.below b3); clear b3)
    | (go_at_call 32; go_must (refine (HR.out _).mono ?_); rintro a w4 ⟨v4, rfl, p4, b4⟩; have B4 := Lib.hid b4; have P4 := Lib.hid (P3.out.below b4); have Q4 := Lib.hid p4; clear b4 p4)
    | (go_at_call 31; go_must (refine (pkSame_eq _ _ L L _ P4.out Q4.out).mono ?_); rintro a w5 ⟨h5, b5⟩; rw [decide_eq_true rfl] at h5; subst h5; have B5 := Lib.hid b5; clear b5)
    | (go_at_call 28; go_must (refine (HK.out _).mono ?_); rintro a w6 ⟨rfl, q6, hw6⟩; have B6 := Lib.hid (show Below w5.heap.size w5 w6 from by rw [hw6]; exact below_drewN (Below.refl _ _) q6); clear hw6)
    | (go_at_call 26; go_must (refine (pcknown_any _).mono ?_); rintro a w7 ⟨rfl, b7⟩; have B7 := Lib.hid b7; clear b7))
  go_ret
  exact ⟨rfl, below_chain (below_chain (below_chain (below_chain (below_chain B1.out B3.out) B4.out) B5.out) B6.out) B7.out⟩
theorem cuts_any (r : ByteArray) (e q : Int) (w : World) : Calls Try.prog 6 #[.string r, .int .i64 e, .int .i64 q] w fun a w' => a = .returned (.bool true) ∧ Below w.heap.size w w' := by
  by_cases h1 : 7000 < r.size
  · exact cuts_big r e q w h1
  · by_cases h2 : 6400 < r.size
    · exact cuts_long r e q w (by omega) h2
    · cases hn : numsB e q with
      | false => exact cuts_none r e q w (by omega) hn
      | true => exact cuts_do r e q w (by omega) hn
end Go.Proofs.Ytfipojmgmmjnmaa
