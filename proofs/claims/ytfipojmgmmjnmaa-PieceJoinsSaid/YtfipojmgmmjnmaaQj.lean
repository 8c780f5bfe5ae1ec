/- The law of joined pieces. -/
import Derived.Test.YtfipojmgmmjnmaaJe
import Derived.Test.YtfipojmgmmjnmaaQg
namespace Go.Proofs.Ytfipojmgmmjnmaa
open Go.RowKit

set_option maxRecDepth 100000 in
theorem joins_large {ok : Nat → Prop} (v : Value) (xs : List Pz) (n : Int) (w : World) (h : Pzs ok v xs w) (hl : largePz xs = true) : Calls Try.prog 7 #[v, .int .i64 n] w fun a w' => a = .returned (.bool true) ∧ Below w.heap.size w w' := by
  have P0 := Lib.hid h
  have HL := Lib.hid hl
  clear h hl
  go_enter Try.func7, Try.ntmps7
  go_wp2_with (first
    | (go_at_call 33; go_must (with_reducible refine (pkLarge_any _ _ _ P0.out).mono ?_); rintro a w1 ⟨h1, rfl⟩; rw [HL.out] at h1; subst h1)
    | (go_at_call 26; go_must (refine (pcknown_any _).mono ?_); rintro a w5 ⟨rfl, b5⟩; have B5 := Lib.hid b5; clear b5))
  go_ret
  exact ⟨rfl, B5.out⟩
set_option maxRecDepth 100000 in
set_option maxHeartbeats 1000000 in
theorem joins_some_lo {ok : Nat → Prop} (v : Value) (xs : List Pz) (n : Int) (hn : n < 0) (r : ByteArray) (w : World) (h : Pzs ok v xs w) (hl : largePz xs = false) (hj : joined xs = some r) : Calls Try.prog 7 #[v, .int .i64 (n : Int)] w fun a w' => a = .returned (.bool true) ∧ Below w.heap.size w w' := by
  have P0 := Lib.hid h
  have HL := Lib.hid hl
  have HS := Lib.hid (show xs.length ≤ 100000 ∧ ∀ x ∈ xs, x.data.size ≤ 1000 from ⟨by have := (not_largePz hl).1; omega, fun x hx => by have := (not_largePz hl).2 x hx; omega⟩)
  have HR := Lib.hid hj
  have HJ := Lib.hid (show joinedPair xs = (r, 0) from by unfold joinedPair; rw [hj])
  have HK := Lib.hid (fun W => pcCount_out n W (.inl hn))
  have d1 : decide (n ≥ 0) = false := decide_eq_false (by omega)
  clear h hl hj hn
  go_enter Try.func7, Try.ntmps7
  go_wp2_with (first
    | (go_at_call 33; go_must (with_reducible refine (pkLarge_any _ _ _ P0.out).mono ?_); rintro a w1 ⟨h1, rfl⟩; rw [HL.out] at h1; subst h1)
    | (go_at_call 30; go_must (with_reducible refine (pcJoin_any _ _ _ P0.out).mono ?_); rintro a w2 ⟨h2, b2⟩; rw [HJ.out] at h2; subst h2; have B2 := Lib.hid b2; have P2 := Lib.hid (P0.out.below b2); clear b2)
    | (go_at_call 34; go_must (with_reducible refine (pkJoin_any _ _ _ HS.out.2 HS.out.1 P2.out).mono ?_); rintro a w3 ⟨h3, b3⟩; rw [HR.out] at h3; simp only [Option.getD_some, Option.isSome_some] at h3; subst h3; have B3 := Lib.hid b3; clear b3)
    | (go_at_call 28; go_must (refine (HK.out _).mono ?_); rintro a w4 ⟨rfl, q4, hw4⟩; have B4 := Lib.hid (show Below w3.heap.size w3 w4 from by rw [hw4]; exact below_drewN (Below.refl _ _) q4); clear hw4)
    | (go_at_call 26; go_must (refine (pcknown_any _).mono ?_); rintro a w5 ⟨rfl, b5⟩; have B5 := Lib.hid b5; clear b5))
  all_goals
    go_ret
    exact ⟨rfl, below_chain (below_chain (below_chain B2.out B3.out) B4.out) B5.out⟩
set_option maxRecDepth 100000 in
set_option maxHeartbeats 1000000 in
theorem joins_some_hi {ok : Nat → Prop} (v : Value) (xs : List Pz) (n : Int) (hn : 6400 < n) (r : ByteArray) (w : World) (h : Pzs ok v xs w) (hl : largePz xs = false) (hj : joined xs = some r) : Calls Try.prog 7 #[v, .int .i64 (n : Int)] w fun a w' => a = .returned (.bool true) ∧ Below w.heap.size w w' := by
  have P0 := Lib.hid h
  have HL := Lib.hid hl
  have HS := Lib.hid (show xs.length ≤ 100000 ∧ ∀ x ∈ xs, x.data.size ≤ 1000 from ⟨by have := (not_largePz hl).1; omega, fun x hx => by have := (not_largePz hl).2 x hx; omega⟩)
  have HR := Lib.hid hj
  have HJ := Lib.hid (show joinedPair xs = (r, 0) from by unfold joinedPair; rw [hj])
  have HK := Lib.hid (fun W => pcCount_out n W (.inr hn))
  have d1 : decide (n ≥ 0) = true := decide_eq_true (by omega)
  have d2 : decide (n ≤ 6400) = false := decide_eq_false (by omega)
  clear h hl hj hn
  go_enter Try.func7, Try.ntmps7
  go_wp2_with (first
    | (go_at_call 33; go_must (with_reducible refine (pkLarge_any _ _ _ P0.out).mono ?_); rintro a w1 ⟨h1, rfl⟩; rw [HL.out] at h1; subst h1)
    | (go_at_call 30; go_must (with_reducible refine (pcJoin_any _ _ _ P0.out).mono ?_); rintro a w2 ⟨h2, b2⟩; rw [HJ.out] at h2; subst h2; have B2 := Lib.hid b2; have P2 := Lib.hid (P0.out.below b2); clear b2)
    | (go_at_call 34; go_must (with_reducible refine (pkJoin_any _ _ _ HS.out.2 HS.out.1 P2.out).mono ?_); rintro a w3 ⟨h3, b3⟩; rw [HR.out] at h3; simp only [Option.getD_some, Option.isSome_some] at h3; subst h3; have B3 := Lib.hid b3; clear b3)
    | (go_at_call 28; go_must (refine (HK.out _).mono ?_); rintro a w4 ⟨rfl, q4, hw4⟩; have B4 := Lib.hid (show Below w3.heap.size w3 w4 from by rw [hw4]; exact below_drewN (Below.refl _ _) q4); clear hw4)
    | (go_at_call 26; go_must (refine (pcknown_any _).mono ?_); rintro a w5 ⟨rfl, b5⟩; have B5 := Lib.hid b5; clear b5))
  all_goals
    go_ret
    exact ⟨rfl, below_chain (below_chain (below_chain B2.out B3.out) B4.out) B5.out⟩
set_option maxRecDepth 100000 in
set_option maxHeartbeats 1000000 in
theorem joins_some_in {ok : Nat → Prop} (v : Value) (xs : List Pz) (n : Nat) (hn : n ≤ 6400) (r : ByteArray) (w : World) (h : Pzs ok v xs w) (hl : largePz xs = false) (hj : joined xs = some r) : Calls Try.prog 7 #[v, .int .i64 (n : Int)] w fun a w' => a = .returned (.bool true) ∧ Below w.heap.size w w' := by
  have P0 := Lib.hid h
  have HL := Lib.hid hl
  have HS := Lib.hid (show xs.length ≤ 100000 ∧ ∀ x ∈ xs, x.data.size ≤ 1000 from ⟨by have := (not_largePz hl).1; omega, fun x hx => by have := (not_largePz hl).2 x hx; omega⟩)
  have HR := Lib.hid hj
  have HJ := Lib.hid (show joinedPair xs = (r, 0) from by unfold joinedPair; rw [hj])
  have HK := Lib.hid (fun W => pcCount_in n W hn)
  have d1 : decide ((n : Int) ≥ 0) = true := decide_eq_true (by omega)
  have d2 : decide ((n : Int) ≤ 6400) = true := decide_eq_true (by omega)
  have hmx : max 1 (((n : Int) + 99) / 100) = ((cnt n : Nat) : Int) := by unfold cnt; split <;> omega
  clear h hl hj
  go_enter Try.func7, Try.ntmps7
  go_wp2_with (first
    | (go_at_call 33; go_must (with_reducible refine (pkLarge_any _ _ _ P0.out).mono ?_); rintro a w1 ⟨h1, rfl⟩; rw [HL.out] at h1; subst h1)
    | (go_at_call 30; go_must (with_reducible refine (pcJoin_any _ _ _ P0.out).mono ?_); rintro a w2 ⟨h2, b2⟩; rw [HJ.out] at h2; subst h2; have B2 := Lib.hid b2; have P2 := Lib.hid (P0.out.below b2); clear b2)
    | (go_at_call 34; go_must (with_reducible refine (pkJoin_any _ _ _ HS.out.2 HS.out.1 P2.out).mono ?_); rintro a w3 ⟨h3, b3⟩; rw [HR.out] at h3; simp only [Option.getD_some, Option.isSome_some] at h3; subst h3; have B3 := Lib.hid b3; clear b3)
    | (go_at_call 28; go_must (refine (HK.out _).mono ?_); rintro a w4 ⟨rfl, q4, hw4⟩; have B4 := Lib.hid (show Below w3.heap.size w3 w4 from by rw [hw4]; exact below_drewN (Below.refl _ _) q4); clear hw4)
    | (go_at_call 26; go_must (refine (pcknown_any _).mono ?_); rintro a w5 ⟨rfl, b5⟩; have B5 := Lib.hid b5; clear b5))
  all_goals
    go_ret
    exact ⟨rfl, below_chain (below_chain (below_chain B2.out B3.out) B4.out) B5.out⟩
set_option maxRecDepth 100000 in
set_option maxHeartbeats 1000000 in
theorem joins_none_lo {ok : Nat → Prop} (v : Value) (xs : List Pz) (n : Int) (hn : n < 0) (w : World) (h : Pzs ok v xs w) (hl : largePz xs = false) (hj : joined xs = none) : Calls Try.prog 7 #[v, .int .i64 (n : Int)] w fun a w' => a = .returned (.bool true) ∧ Below w.heap.size w w' := by
  have P0 := Lib.hid h
  have HL := Lib.hid hl
  have HS := Lib.hid (show xs.length ≤ 100000 ∧ ∀ x ∈ xs, x.data.size ≤ 1000 from ⟨by have := (not_largePz hl).1; omega, fun x hx => by have := (not_largePz hl).2 x hx; omega⟩)
  have HR := Lib.hid hj
  have HJ := Lib.hid (show joinedPair xs = (⟨#[]⟩, 14) from by unfold joinedPair; rw [hj])
  have HK := Lib.hid (fun W => pcCount_out n W (.inl hn))
  have d1 : decide (n ≥ 0) = false := decide_eq_false (by omega)
  clear h hl hj hn
  go_enter Try.func7, Try.ntmps7
  go_wp2_with (first
    | (go_at_call 33; go_must (with_reducible refine (pkLarge_any _ _ _ P0.out).mono ?_); rintro a w1 ⟨h1, rfl⟩; rw [HL.out] at h1; subst h1)
    | (go_at_call 30; go_must (with_reducible refine (pcJoin_any _ _ _ P0.out).mono ?_); rintro a w2 ⟨h2, b2⟩; rw [HJ.out] at h2; subst h2; have B2 := Lib.hid b2; have P2 := Lib.hid (P0.out.below b2); clear b2)
    | (go_at_call 34; go_must (with_reducible refine (pkJoin_any _ _ _ HS.out.2 HS.out.1 P2.out).mono ?_); rintro a w3 ⟨h3, b3⟩; rw [HR.out] at h3; simp only [Option.getD_none, Option.isSome_none] at h3; subst h3; have B3 := Lib.hid b3; clear b3)
    | (go_at_call 28; go_must (refine (HK.out _).mono ?_); rintro a w4 ⟨rfl, q4, hw4⟩; have B4 := Lib.hid (show Below w3.heap.size w3 w4 from by rw [hw4]; exact below_drewN (Below.refl _ _) q4); clear hw4)
    | (go_at_call 26; go_must (refine (pcknown_any _).mono ?_); rintro a w5 ⟨rfl, b5⟩; have B5 := Lib.hid b5; clear b5))
  all_goals
    go_ret
    exact ⟨rfl, below_chain (below_chain (below_chain B2.out B3.out) B4.out) B5.out⟩
set_option maxRecDepth 100000 in
set_option maxHeartbeats 1000000 in
theorem joins_none_hi {ok : Nat → Prop} (v : Value) (xs : List Pz) (n : Int) (hn : 6400 < n) (w : World) (h : Pzs ok v xs w) (hl : largePz xs = false) (hj : joined xs = none) : Calls Try.prog 7 #[v, .int .i64 (n : Int)] w fun a w' => a = .returned (.bool true) ∧ Below w.heap.size w w' := by
  have P0 := Lib.hid h
  have HL := Lib.hid hl
  have HS := Lib.hid (show xs.length ≤ 100000 ∧ ∀ x ∈ xs, x.data.size ≤ 1000 from ⟨by have := (not_largePz hl).1; omega, fun x hx => by have := (not_largePz hl).2 x hx; omega⟩)
  have HR := Lib.hid hj
  have HJ := Lib.hid (show joinedPair xs = (⟨#[]⟩, 14) from by unfold joinedPair; rw [hj])
  have HK := Lib.hid (fun W => pcCount_out n W (.inr hn))
  have d1 : decide (n ≥ 0) = true := decide_eq_true (by omega)
  have d2 : decide (n ≤ 6400) = false := decide_eq_false (by omega)
  clear h hl hj hn
  go_enter Try.func7, Try.ntmps7
  go_wp2_with (first
    | (go_at_call 33; go_must (with_reducible refine (pkLarge_any _ _ _ P0.out).mono ?_); rintro a w1 ⟨h1, rfl⟩; rw [HL.out] at h1; subst h1)
    | (go_at_call 30; go_must (with_reducible refine (pcJoin_any _ _ _ P0.out).mono ?_); rintro a w2 ⟨h2, b2⟩; rw [HJ.out] at h2; subst h2; have B2 := Lib.hid b2; have P2 := Lib.hid (P0.out.below b2); clear b2)
    | (go_at_call 34; go_must (with_reducible refine (pkJoin_any _ _ _ HS.out.2 HS.out.1 P2.out).mono ?_); rintro a w3 ⟨h3, b3⟩; rw [HR.out] at h3; simp only [Option.getD_none, Option.isSome_none] at h3; subst h3; have B3 := Lib.hid b3; clear b3)
    | (go_at_call 28; go_must (refine (HK.out _).mono ?_); rintro a w4 ⟨rfl, q4, hw4⟩; have B4 := Lib.hid (show Below w3.heap.size w3 w4 from by rw [hw4]; exact below_drewN (Below.refl _ _) q4); clear hw4)
    | (go_at_call 26; go_must (refine (pcknown_any _).mono ?_); rintro a w5 ⟨rfl, b5⟩; have B5 := Lib.hid b5; clear b5))
  all_goals
    go_ret
    exact ⟨rfl, below_chain (below_chain (below_chain B2.out B3.out) B4.out) B5.out⟩
set_option maxRecDepth 100000 in
set_option maxHeartbeats 1000000 in
theorem joins_none_in {ok : Nat → Prop} (v : Value) (xs : List Pz) (n : Nat) (hn : n ≤ 6400) (w : World) (h : Pzs ok v xs w) (hl : largePz xs = false) (hj : joined xs = none) : Calls Try.prog 7 #[v, .int .i64 (n : Int)] w fun a w' => a = .returned (.bool true) ∧ Below w.heap.size w w' := by
  have P0 := Lib.hid h
  have HL := Lib.hid hl
  have HS := Lib.hid (show xs.length ≤ 100000 ∧ ∀ x ∈ xs, x.data.size ≤ 1000 from ⟨by have := (not_largePz hl).1; omega, fun x hx => by have := (not_largePz hl).2 x hx; omega⟩)
  have HR := Lib.hid hj
  have HJ := Lib.hid (show joinedPair xs = (⟨#[]⟩, 14) from by unfold joinedPair; rw [hj])
  have HK := Lib.hid (fun W => pcCount_in n W hn)
  have d1 : decide ((n : Int) ≥ 0) = true := decide_eq_true (by omega)
  have d2 : decide ((n : Int) ≤ 6400) = true := decide_eq_true (by omega)
  have hmx : max 1 (((n : Int) + 99) / 100) = ((cnt n : Nat) : Int) := by unfold cnt; split <;> omega
  clear h hl hj
  go_enter Try.func7, Try.ntmps7
  go_wp2_with (first
    | (go_at_call 33; go_must (with_reducible refine (pkLarge_any _ _ _ P0.out).mono ?_); rintro a w1 ⟨h1, rfl⟩; rw [HL.out] at h1; subst h1)
    | (go_at_call 30; go_must (with_reducible refine (pcJoin_any _ _ _ P0.out).mono ?_); rintro a w2 ⟨h2, b2⟩; rw [HJ.out] at h2; subst h2; have B2 := Lib.hid b2; have P2 := Lib.hid (P0.out.below b2); clear b2)
    | (go_at_call 34; go_must (with_reducible refine (pkJoin_any _ _ _ HS.out.2 HS.out.1 P2.out).mono ?_); rintro a w3 ⟨h3, b3⟩; rw [HR.out] at h3; simp only [Option.getD_none, Option.isSome_none] at h3; subst h3; have B3 := Lib.hid b3; clear b3)
    | (go_at_call 28; go_must (refine (HK.out _).mono ?_); rintro a w4 ⟨rfl, q4, hw4⟩; have B4 := Lib.hid (show Below w3.heap.size w3 w4 from by rw [hw4]; exact below_drewN (Below.refl _ _) q4); clear hw4)
    | (go_at_call 26; go_must (refine (pcknown_any _).mono ?_); rintro a w5 ⟨rfl, b5⟩; have B5 := Lib.hid b5; clear b5))
  all_goals
    go_ret
    exact ⟨rfl, below_chain (below_chain (below_chain B2.out B3.out) B4.out) B5.out⟩
theorem joins_any {ok : Nat → Prop} (v : Value) (xs : List Pz) (n : Int) (w : World) (h : Pzs ok v xs w) : Calls Try.prog 7 #[v, .int .i64 n] w fun a w' => a = .returned (.bool true) ∧ Below w.heap.size w w' := by
  cases hl : largePz xs with
  | true => exact joins_large v xs n w h hl
  | false =>
    cases hj : joined xs with
    | some r =>
      by_cases h1 : n < 0
      · exact joins_some_lo v xs n h1 r w h hl hj
      · by_cases h2 : 6400 < n
        · exact joins_some_hi v xs n h2 r w h hl hj
        · obtain ⟨k, rfl⟩ : ∃ k : Nat, n = (k : Int) := ⟨n.toNat, by omega⟩
          exact joins_some_in v xs k (by omega) r w h hl hj
    | none =>
      by_cases h1 : n < 0
      · exact joins_none_lo v xs n h1 w h hl hj
      · by_cases h2 : 6400 < n
        · exact joins_none_hi v xs n h2 w h hl hj
        · obtain ⟨k, rfl⟩ : ∃ k : Nat, n = (k : Int) := ⟨n.toNat, by omega⟩
          exact joins_none_in v xs k (by omega) w h hl hj
end Go.Proofs.Ytfipojmgmmjnmaa
