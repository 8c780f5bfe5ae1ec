/- A scope in which the run jumps: as often as it does. The functions that rec's visit is given, at a change that goes. -/
import Derived.Test.YtfobknppdjiniaaVc
import Derived.Test.YtfobknppdjiniaaWm
import Derived.StillTailTactics
import Derived.ScopeJumps
namespace Go.Proofs.Ytfobknppdjiniaa
open Go.RowKit

/-- As Q; by a goto: on from that label, no more than so many times. -/
def ScopeFrom (P : Program) (c : Code) (Q : Exit → Act → World → Prop) : Nat → Exit → Act → World → Prop
  | _, .normal, a, w => Q .normal a w
  | _, .exit i, a, w => Q (.exit i) a w
  | 0, .goto _, _, _ => False
  | n + 1, .goto l, a, w => ∃ rest, findLabel c l = some rest ∧ rest.wp P (ScopeFrom P c Q n) a w
  | _, .ret, a, w => Q .ret a w
  | _, .panic ch, a, w => Q (.panic ch) a w
  | _, .outgrown, a, w => Q .outgrown a w
theorem scopeFrom_ret {P : Program} {c : Code} {Q : Exit → Act → World → Prop} {n : Nat} {a : Act} {w : World} : ScopeFrom P c Q n .ret a w = Q .ret a w := by cases n <;> rfl
theorem scopeFrom_goto {P : Program} {c rest : Code} {Q : Exit → Act → World → Prop} {n l : Nat} {a : Act} {w : World} (hf : findLabel c l = some rest) (h : rest.wp P (ScopeFrom P c Q n) a w) : ScopeFrom P c Q (n + 1) (.goto l) a w := ⟨rest, hf, h⟩
theorem wp_scope_from {P : Program} {c : Code} {Q : Exit → Act → World → Prop} {a : Act} {w : World} (n : Nat) (D : Code) (hD : c = D) (h : c.wp P (ScopeFrom P D Q n) a w) : (Code.scope c).wp P Q a w := by
  subst hD
  intro b k cs
  have key : ∀ n (r : Code) a w, r.wp P (ScopeFrom P c Q n) a w → ∃ e a' w', Q e a' w' ∧ Arrives P (lone (b.at a (.code r :: .inScope c :: k)) cs w) b k cs e a' w' := by
    intro n
    induction n with
    | zero =>
      intro r a w hr
      obtain ⟨e, a₁, w₁, hq, harr⟩ := hr b (.inScope c :: k) cs
      cases e with
      | normal => exact ⟨.normal, a₁, w₁, hq, Steps.trans harr (.one step_inScope)⟩
      | exit id => exact ⟨.exit id, a₁, w₁, hq, fun k' hk => harr k' (by simp [exitTo, hk])⟩
      | goto l' => exact hq.elim
      | ret => exact ⟨_, a₁, w₁, hq, harr⟩
      | panic ch => exact ⟨_, a₁, w₁, hq, harr⟩
      | outgrown => exact ⟨_, a₁, w₁, hq, harr⟩
    | succ n ih =>
      intro r a w hr
      obtain ⟨e, a₁, w₁, hq, harr⟩ := hr b (.inScope c :: k) cs
      cases e with
      | normal => exact ⟨.normal, a₁, w₁, hq, Steps.trans harr (.one step_inScope)⟩
      | exit id => exact ⟨.exit id, a₁, w₁, hq, fun k' hk => harr k' (by simp [exitTo, hk])⟩
      | goto l' =>
        obtain ⟨rest, hf, hr2⟩ := hq
        have hg : gotoIn l' (.inScope c :: k) = some (.code rest :: .inScope c :: k) := by simp [gotoIn, hf]
        obtain ⟨e₂, a₂, w₂, hq₂, harr₂⟩ := ih rest a₁ w₁ hr2
        exact ⟨e₂, a₂, w₂, hq₂, .of_steps (harr _ hg) harr₂⟩
      | ret => exact ⟨_, a₁, w₁, hq, harr⟩
      | panic ch => exact ⟨_, a₁, w₁, hq, harr⟩
      | outgrown => exact ⟨_, a₁, w₁, hq, harr⟩
  obtain ⟨e, a', w', hq, harr⟩ := key n c a w h
  exact ⟨e, a', w', hq, .of_steps (.one step_scope) harr⟩

theorem recC1_any (p : Addr) (w : World) : Calls Try.prog 23 #[.pointer (some p)] w fun e w' => e = .returned (.tuple #[]) ∧ w = w' := by
  go_enter Try.func23, Try.ntmps23
  go_wp2
  go_end0
  exact ⟨rfl, rfl⟩
set_option maxRecDepth 100000 in
theorem recC4_any (k o g : Nat) (s : ByteArray) (least most : Int) (w : World) (hkg : k ≠ g) (h1 : w.cell? ⟨k, o, none⟩ = some (.string s)) (h2 : w.cell? ⟨g, 0, none⟩ = some (.bool true)) (f1 : w.frozen? ⟨k, o, none⟩ = false) (f2 : w.frozen? ⟨g, 0, none⟩ = false)
    (hl : decide (least ≤ (s.size : Int)) = true) (hm : decide ((s.size : Int) ≤ most) = true) :
    Calls Try.prog 26 #[.pointer (some ⟨k, o, none⟩), .int .i64 least, .int .i64 most, .pointer (some ⟨g, 0, none⟩)] w fun e w' => e = .returned (.tuple #[]) ∧ (w.setCell ⟨g, 0, none⟩ (.bool true)).setCell ⟨k, o, none⟩ (.string ⟨#[]⟩) = w' := by
  go_enter Try.func26, Try.ntmps26
  go_wp2
  go_end0
  exact ⟨rfl, rfl⟩
/-- A change that goes, cell by cell. -/
def goneCs (s : ByteArray) : Array Value := #[.int .i64 4, .int .i64 0, .int .i64 0, .string s, .string ⟨#[]⟩, .string ⟨#[]⟩, .int .i64 0, .int .i64 0, .int .i64 0, .int .i64 0, .int .i64 0, .int .i64 0, .int .i64 0, .int .i64 0, .int .i64 0, .int .i64 0, .int .i64 0, .int .i64 0]
theorem wrote_undrew {T E : TypeId} {k : Nat} {r : Option Nat} {ys : List UInt8} {w w' : World} (h : Wrote T E k r ys w.drew w') : Wrote T E k r ys w w' := by
  obtain ⟨r', h1, h2, h3⟩ := h
  exact ⟨r', h1, ⟨h2.os, h2.tape, h2.output, h2.size, h2.block⟩, h3⟩
set_option maxRecDepth 100000 in
theorem recW1_any (k o b m : Nat) (n : Int) (r : Option Nat) (xs : List UInt8) (w : World) (hl : xs.length ≤ 1073741824) (hc : w.cell? ⟨k, o, none⟩ = some (.int .i64 n)) (hp : w.cell? ⟨b, 0, none⟩ = some (.pointer (some ⟨m, 0, none⟩))) (h : Wr 54 5 m r xs w) :
    Calls Try.prog 14 #[.pointer (some ⟨k, o, none⟩), .pointer (some ⟨b, 0, none⟩)] w fun e w' => e = .returned (.tuple #[]) ∧ Wrote 54 5 m r (xs ++ (putU32 n).2) w w' := by
  have HW := Lib.hid h.drew
  clear h
  go_enter Try.func14, Try.ntmps14
  go_wp2_with fail
  go_still_tail 4, (by kernel_rfl)
  change wpList _ _ _ _ _ w.drew
  go_wp2_with (first
      | (go_at_call 12; go_must (refine (wU32_any m r xs n _ hl HW.out).mono ?_); rintro e w1 ⟨rfl, hw⟩))
  go_end0
  exact ⟨rfl, wrote_undrew hw⟩
set_option maxRecDepth 100000 in
theorem recW4_any (k o b m : Nat) (least most : Int) (t : ByteArray) (r : Option Nat) (xs : List UInt8) (w : World) (hl : xs.length ≤ 1073741800) (hc : w.cell? ⟨k, o, none⟩ = some (.string t)) (hp : w.cell? ⟨b, 0, none⟩ = some (.pointer (some ⟨m, 0, none⟩))) (h : Wr 54 5 m r xs w) :
    Calls Try.prog 18 #[.pointer (some ⟨k, o, none⟩), .int .i64 least, .int .i64 most, .pointer (some ⟨b, 0, none⟩)] w fun e w' => e = .returned (.tuple #[]) ∧ Wrote 54 5 m r (xs ++ (putOpaque t).2) w w' := by
  have HW := Lib.hid h.drew
  clear h
  go_enter Try.func18, Try.ntmps18
  go_wp2_with fail
  go_still_tail 4, (by kernel_rfl)
  change wpList _ _ _ _ _ w.drew
  go_wp2_with (first
      | (go_at_call 19; go_must (refine (wOpaque_any m r xs t _ hl HW.out).mono ?_); rintro e w1 ⟨rfl, hw⟩))
  go_end0
  exact ⟨rfl, wrote_undrew hw⟩
theorem recC4_st (k g : Nat) (s : ByteArray) (w : World) (hs : s.size = 2) (hkg : k ≠ g) (h1 : St 39 k (goneCs s) w) (h2 : St 4 g #[.bool true] w) :
    Calls Try.prog 26 #[.pointer (some ⟨k, 3, none⟩), .int .i64 1, .int .i64 64, .pointer (some ⟨g, 0, none⟩)] w fun e w' => e = .returned (.tuple #[]) ∧ St 39 k (goneCs ⟨#[]⟩) w' ∧ St 4 g #[.bool true] w' ∧ ∀ B, B ≤ k → B ≤ g → Below B w w' := by
  refine (recC4_any k 3 g s 1 64 w hkg (h1.cell rfl) (h2.cell rfl) (h1.free 3) (h2.free 0) (by rw [hs]; decide) (by rw [hs]; decide)).mono ?_
  rintro e w' ⟨rfl, rfl⟩
  refine ⟨rfl, (h1.other g 0 _ hkg.symm).set 3 (.string ⟨#[]⟩), (h2.set 0 (.bool true)).other k 3 _ hkg, fun B hk hg => ?_⟩
  exact ((Below.refl _ _).setCell (p := ⟨g, 0, none⟩) hg _).setCell (p := ⟨k, 3, none⟩) hk _
end Go.Proofs.Ytfobknppdjiniaa
