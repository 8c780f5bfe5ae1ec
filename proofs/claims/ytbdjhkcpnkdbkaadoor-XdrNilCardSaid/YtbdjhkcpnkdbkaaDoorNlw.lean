/- The law of nil writers and readers. -/
import Derived.Test.YtbdjhkcpnkdbkaaDoorNlt
import Derived.Test.YtbdjhkcpnkdbkaaDoorLaw
namespace Go.Proofs.YtbdjhkcpnkdbkaaDoor
open Go.RowKit

/-- Four cells of a block. -/
def F4 (k : Nat) (a b c d : Value) (w : World) : Prop := w.cell? ⟨k, 0, none⟩ = some a ∧ w.cell? ⟨k, 1, none⟩ = some b ∧ w.cell? ⟨k, 2, none⟩ = some c ∧ w.cell? ⟨k, 3, none⟩ = some d
theorem St.f4 {T : TypeId} {k : Nat} {a b c d : Value} {w : World} (h : St T k #[a, b, c, d] w) : w.cell? ⟨k, 0, none⟩ = some a ∧ w.cell? ⟨k, 1, none⟩ = some b ∧ w.cell? ⟨k, 2, none⟩ = some c ∧ w.cell? ⟨k, 3, none⟩ = some d :=
  ⟨h.cell rfl, h.cell rfl, h.cell rfl, h.cell rfl⟩

theorem xput_nil_in (kind n : Int) (is : Bool) (s : ByteArray) (w : World) (h1 : 1 ≤ kind) (h2 : kind ≤ 6) :
    Calls Tryd.prog 16 #[.pointer none, .agg #[.int .i64 kind, .int .i64 n, .bool is, .string s]] w fun e w' => e = .returned (.int .i64 1) ∧ Below w.heap.size w w' := by
  have h := xput_nil kind n is s w
  rwa [show nilErr kind = 1 from if_pos ⟨h1, h2⟩] at h
theorem xput_nil_out (kind n : Int) (is : Bool) (s : ByteArray) (w : World) (h1 : ¬ (1 ≤ kind ∧ kind ≤ 6)) :
    Calls Tryd.prog 16 #[.pointer none, .agg #[.int .i64 kind, .int .i64 n, .bool is, .string s]] w fun e w' => e = .returned (.int .i64 0) ∧ Below w.heap.size w w' := by
  have h := xput_nil kind n is s w
  rwa [show nilErr kind = 0 from if_neg h1] at h

set_option maxRecDepth 100000 in
set_option maxHeartbeats 2000000 in
theorem nil_in (kind n : Int) (is : Bool) (s : ByteArray) (w : World) (h1 : 1 ≤ kind) (h2 : kind ≤ 6) (hs : s.size ≤ 200) :
    Calls Tryd.prog 6 #[.agg #[.int .i64 kind, .int .i64 n, .bool is, .string s]] w fun e w' => e = .returned (.bool true) ∧ Below w.heap.size w w' := by
  have hl : decide ((s.size : Int) > 200) = false := by simp; omega
  have hk1 : decide (kind < 1) = false := by simp; omega
  have hk2 : decide (kind > 6) = false := by simp; omega
  have HX := And.intro (Lib.hid h1) (Lib.hid h2)
  clear h1 h2
  have S0 : St 32 w.heap.size #[.int .i64 kind, .int .i64 n, .bool is, .string s] (w.alloc (.cells #[.int .i64 kind, .int .i64 n, .bool is, .string s] 32 (0, 0))).drew := St.new w 32 _
  have B0 : Below w.heap.size w (w.alloc (.cells #[.int .i64 kind, .int .i64 n, .bool is, .string s] 32 (0, 0))).drew := (boxed0 (w := w)).drew
  go_enter Tryd.func6, Tryd.ntmps6
  go_wp2_with fail
  go_region_held3 (fun w' => w'.cell? ⟨w.heap.size, 0, none⟩ = some (.int .i64 kind) ∧ w'.cell? ⟨w.heap.size, 1, none⟩ = some (.int .i64 n) ∧ w'.cell? ⟨w.heap.size, 2, none⟩ = some (.bool is) ∧ w'.cell? ⟨w.heap.size, 3, none⟩ = some (.string s))
    (first | assumption | (simp; done))
    (first
      | (go_at_call 16; go_must (refine (xput_nil_in kind n is s _ HX.1.out HX.2.out).mono ?_); rintro e w1 ⟨rfl, hb⟩; have hb1 := B0.trans (hb.mono B0.size); have st1 := S0.below hb; have q1 := st1.f4)
      | (go_at_call 17; go_must (refine (nText _).mono ?_); rintro e w2 ⟨rfl, rfl⟩)
      | (go_at_call 18; go_must (refine (nLen _).mono ?_); rintro e w2 ⟨rfl, rfl⟩)
      | (go_at_call 10; go_must (refine (xtake_nil kind n _).mono ?_); rintro e w3 ⟨rfl, hb3⟩; have hb2 := hb1.trans (hb3.mono hb1.size); have st2 := st1.below hb3; have q2 := st2.f4)
      | (go_at_call 12; go_must (refine (nErr _).mono ?_); rintro e w4 ⟨rfl, rfl⟩)
      | (go_at_call 15; go_must (refine (nDone _).mono ?_); rintro e w4 ⟨rfl, rfl⟩)
      | (go_at_call 13; go_must (refine (nLeft _).mono ?_); rintro e w4 ⟨rfl, rfl⟩)
      | (go_at_call 8; go_must (refine (xknown_any _).mono ?_); rintro e w5 ⟨rfl, hb5⟩; have hb4 := hb2.trans (hb5.mono hb2.size); have st3 := st2.below hb5; have q3 := st3.f4))
  go_wp2
  go_ret
  exact ⟨rfl, hb4⟩
set_option maxRecDepth 100000 in
set_option maxHeartbeats 2000000 in
theorem nil_low (kind n : Int) (is : Bool) (s : ByteArray) (w : World) (h1 : kind < 1) (hs : s.size ≤ 200) :
    Calls Tryd.prog 6 #[.agg #[.int .i64 kind, .int .i64 n, .bool is, .string s]] w fun e w' => e = .returned (.bool true) ∧ Below w.heap.size w w' := by
  have hl : decide ((s.size : Int) > 200) = false := by simp; omega
  have hk1 : decide (kind < 1) = true := by simp; omega
  have HX := Lib.hid (show ¬ (1 ≤ kind ∧ kind ≤ 6) by omega)
  clear h1
  have S0 : St 32 w.heap.size #[.int .i64 kind, .int .i64 n, .bool is, .string s] (w.alloc (.cells #[.int .i64 kind, .int .i64 n, .bool is, .string s] 32 (0, 0))).drew := St.new w 32 _
  have B0 : Below w.heap.size w (w.alloc (.cells #[.int .i64 kind, .int .i64 n, .bool is, .string s] 32 (0, 0))).drew := (boxed0 (w := w)).drew
  go_enter Tryd.func6, Tryd.ntmps6
  go_wp2_with fail
  go_region_held3 (fun w' => w'.cell? ⟨w.heap.size, 0, none⟩ = some (.int .i64 kind) ∧ w'.cell? ⟨w.heap.size, 1, none⟩ = some (.int .i64 n) ∧ w'.cell? ⟨w.heap.size, 2, none⟩ = some (.bool is) ∧ w'.cell? ⟨w.heap.size, 3, none⟩ = some (.string s))
    (first | assumption | (simp; done))
    (first
      | (go_at_call 16; go_must (refine (xput_nil_out kind n is s _ HX.out).mono ?_); rintro e w1 ⟨rfl, hb⟩; have hb1 := B0.trans (hb.mono B0.size); have st1 := S0.below hb; have q1 := st1.f4)
      | (go_at_call 17; go_must (refine (nText _).mono ?_); rintro e w2 ⟨rfl, rfl⟩)
      | (go_at_call 18; go_must (refine (nLen _).mono ?_); rintro e w2 ⟨rfl, rfl⟩)
      | (go_at_call 10; go_must (refine (xtake_nil kind n _).mono ?_); rintro e w3 ⟨rfl, hb3⟩; have hb2 := hb1.trans (hb3.mono hb1.size); have st2 := st1.below hb3; have q2 := st2.f4)
      | (go_at_call 12; go_must (refine (nErr _).mono ?_); rintro e w4 ⟨rfl, rfl⟩)
      | (go_at_call 15; go_must (refine (nDone _).mono ?_); rintro e w4 ⟨rfl, rfl⟩)
      | (go_at_call 13; go_must (refine (nLeft _).mono ?_); rintro e w4 ⟨rfl, rfl⟩)
      | (go_at_call 8; go_must (refine (xknown_any _).mono ?_); rintro e w5 ⟨rfl, hb5⟩; have hb4 := hb2.trans (hb5.mono hb2.size); have st3 := st2.below hb5; have q3 := st3.f4))
  go_wp2
  go_ret
  exact ⟨rfl, hb4⟩
set_option maxRecDepth 100000 in
set_option maxHeartbeats 2000000 in
theorem nil_high (kind n : Int) (is : Bool) (s : ByteArray) (w : World) (h1 : 6 < kind) (hs : s.size ≤ 200) :
    Calls Tryd.prog 6 #[.agg #[.int .i64 kind, .int .i64 n, .bool is, .string s]] w fun e w' => e = .returned (.bool true) ∧ Below w.heap.size w w' := by
  have hl : decide ((s.size : Int) > 200) = false := by simp; omega
  have hk1 : decide (kind < 1) = false := by simp; omega
  have hk2 : decide (kind > 6) = true := by simp; omega
  have HX := Lib.hid (show ¬ (1 ≤ kind ∧ kind ≤ 6) by omega)
  clear h1
  have S0 : St 32 w.heap.size #[.int .i64 kind, .int .i64 n, .bool is, .string s] (w.alloc (.cells #[.int .i64 kind, .int .i64 n, .bool is, .string s] 32 (0, 0))).drew := St.new w 32 _
  have B0 : Below w.heap.size w (w.alloc (.cells #[.int .i64 kind, .int .i64 n, .bool is, .string s] 32 (0, 0))).drew := (boxed0 (w := w)).drew
  go_enter Tryd.func6, Tryd.ntmps6
  go_wp2_with fail
  go_region_held3 (fun w' => w'.cell? ⟨w.heap.size, 0, none⟩ = some (.int .i64 kind) ∧ w'.cell? ⟨w.heap.size, 1, none⟩ = some (.int .i64 n) ∧ w'.cell? ⟨w.heap.size, 2, none⟩ = some (.bool is) ∧ w'.cell? ⟨w.heap.size, 3, none⟩ = some (.string s))
    (first | assumption | (simp; done))
    (first
      | (go_at_call 16; go_must (refine (xput_nil_out kind n is s _ HX.out).mono ?_); rintro e w1 ⟨rfl, hb⟩; have hb1 := B0.trans (hb.mono B0.size); have st1 := S0.below hb; have q1 := st1.f4)
      | (go_at_call 17; go_must (refine (nText _).mono ?_); rintro e w2 ⟨rfl, rfl⟩)
      | (go_at_call 18; go_must (refine (nLen _).mono ?_); rintro e w2 ⟨rfl, rfl⟩)
      | (go_at_call 10; go_must (refine (xtake_nil kind n _).mono ?_); rintro e w3 ⟨rfl, hb3⟩; have hb2 := hb1.trans (hb3.mono hb1.size); have st2 := st1.below hb3; have q2 := st2.f4)
      | (go_at_call 12; go_must (refine (nErr _).mono ?_); rintro e w4 ⟨rfl, rfl⟩)
      | (go_at_call 15; go_must (refine (nDone _).mono ?_); rintro e w4 ⟨rfl, rfl⟩)
      | (go_at_call 13; go_must (refine (nLeft _).mono ?_); rintro e w4 ⟨rfl, rfl⟩)
      | (go_at_call 8; go_must (refine (xknown_any _).mono ?_); rintro e w5 ⟨rfl, hb5⟩; have hb4 := hb2.trans (hb5.mono hb2.size); have st3 := st2.below hb5; have q3 := st3.f4))
  go_wp2
  go_ret
  exact ⟨rfl, hb4⟩
set_option maxRecDepth 100000 in
theorem nil_long (kind n : Int) (is : Bool) (s : ByteArray) (w : World) (hs : 200 < s.size) :
    Calls Tryd.prog 6 #[.agg #[.int .i64 kind, .int .i64 n, .bool is, .string s]] w fun e w' => e = .returned (.bool true) ∧ Below w.heap.size w w' := by
  have hl : decide ((s.size : Int) > 200) = true := by simp; omega
  go_enter Tryd.func6, Tryd.ntmps6
  go_wp2_with (go_at_call 8; go_must (refine (xknown_any _).mono ?_); rintro e w1 ⟨rfl, hb⟩)
  go_ret
  exact ⟨rfl, boxed hb⟩

theorem nil_any (kind n : Int) (is : Bool) (s : ByteArray) (w : World) :
    Calls Tryd.prog 6 #[.agg #[.int .i64 kind, .int .i64 n, .bool is, .string s]] w fun e w' => e = .returned (.bool true) ∧ Below w.heap.size w w' := by
  by_cases h : s.size ≤ 200
  · by_cases h1 : kind < 1
    · exact nil_low kind n is s w h1 h
    · by_cases h2 : 6 < kind
      · exact nil_high kind n is s w h2 h
      · exact nil_in kind n is s w (by omega) (by omega) h
  · exact nil_long kind n is s w (by omega)

end Go.Proofs.YtbdjhkcpnkdbkaaDoor
