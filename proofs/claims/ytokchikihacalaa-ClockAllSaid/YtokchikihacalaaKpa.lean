/- The program's clock (keys are texts) as it lies in memory: a ring of places, a map that has where each key stands, a set of those that are marked; its small functions. -/
import Derived.Test.YtokchikihacalaaKc
import Derived.Test.YtokchikihacalaaNs
import Derived.Test.YtokchikihacalaaKrm
import Derived.Test.YtokchikihacalaaKra
import Derived.StringKeys
import Derived.Defers
import Derived.Recover
namespace Go.Proofs.Ytokchikihacalaa
open Go.RowKit

/-- Who has to go. -/
def vic (l : List (ByteArray × Bool)) : ByteArray := ((kspin l)[0]?.map (·.1)).getD ⟨#[]⟩
/-- A key of a map. -/
def klit (s : ByteArray) : Lit := .string s.data.toList
theorem klit_inj (a b : ByteArray) (h : klit a = klit b) : a = b := by
  unfold klit at h
  injection h with h
  exact ByteArray.ext (Array.toList_inj.1 h)
theorem Try.keyedS : Maps.Keyed Try.prog 9 := Maps.string_keyed Try.underlying9
theorem Try.zeroP (w : World) : (zeroValue 54).run Try.prog w = .ok (.pointer none) w := by kernel_rfl
theorem Try.zeroU (w : World) : (zeroValue 74).run Try.prog w = .ok (.agg #[]) w := by kernel_rfl
theorem keyS {s : ByteArray} (hs : s.size ≤ 9223372036854775807) : keyOf Try.prog 9 (.string s) = some (klit s) := WideMaps.keyOf_string_mk Try.underlying9 (by unfold maxLen; exact hs)
/-- Where the first key stands. -/
def fstV (bs : List Nat) : Value :=
  match bs with
  | [] => .pointer none
  | b :: _ => .pointer (some ⟨b, 0, none⟩)
/-- At block p lies a clock: its keys in places bs, these in a map at pm, its marks in one at sm. -/
structure CL0 (B p pm sm : Nat) (bs : List Nat) (l : List (ByteArray × Bool)) (w : World) : Prop where
  st : St 56 p #[.map (some pm), .map (some sm), fstV bs] w
  ring : Rng 79 bs ((keys l).map Value.string) w
  places : PMap Try.prog 9 klit pm (keys l) bs w
  marks : SMap Try.prog 9 klit sm l w
  nodup : (keys l).Nodup
  fits : l.length ≤ 2147483648
  small : ∀ s ∈ keys l, s.size ≤ 9223372036854775807
  pms : pm ≠ sm
  bp : B ≤ p
  bpm : B ≤ pm
  bsm : B ≤ sm
  bbs : ∀ b ∈ bs, B ≤ b
theorem CL0.len {B p pm sm : Nat} {bs : List Nat} {l : List (ByteArray × Bool)} {w : World} (h : CL0 B p pm sm bs l w) : bs.length = l.length := by
  have := h.ring.len
  rw [← this]
  simp [keys]
theorem CL0.nd {B p pm sm : Nat} {bs : List Nat} {l : List (ByteArray × Bool)} {w : World} (h : CL0 B p pm sm bs l w) : bs.Nodup :=
  h.ring.nodup (List.Pairwise.map _ (fun a b hne e => hne (by injection e)) h.nodup)
theorem CL0.p_bs {B p pm sm : Nat} {bs : List Nat} {l : List (ByteArray × Bool)} {w : World} (h : CL0 B p pm sm bs l w) : p ∉ bs :=
  h.ring.apart p fun v hv a c hn => by
    obtain ⟨s, _, rfl⟩ := List.mem_map.1 hv
    have h1 := h.st
    unfold Nd St at hn
    unfold St at h1
    rw [h1] at hn
    injection hn with hn
    injection hn with hn
    simp at hn
theorem Rng.not_map {T : TypeId} {bs : List Nat} {vs : List Value} {w : World} (h : Rng T bs vs w) (m : Nat) (hm : ∃ es c, w.heap[m]? = some (.map es c)) : m ∉ bs :=
  h.apart m fun v hv a c hn => by
    obtain ⟨es, c, hm⟩ := hm
    unfold Nd St at hn
    rw [hm] at hn
    injection hn with hn
    cases hn
theorem St.not_map {T : TypeId} {p : Nat} {cs : Array Value} {w : World} (h : St T p cs w) (m : Nat) (hm : ∃ es c, w.heap[m]? = some (.map es c)) : m ≠ p := fun e => by
  obtain ⟨es, c, hm⟩ := hm
  subst e
  unfold St at h
  rw [hm] at h
  injection h with h
  cases h
theorem CL0.pm_bs {B p pm sm : Nat} {bs : List Nat} {l : List (ByteArray × Bool)} {w : World} (h : CL0 B p pm sm bs l w) : pm ∉ bs := h.ring.not_map pm h.places.block
theorem CL0.sm_bs {B p pm sm : Nat} {bs : List Nat} {l : List (ByteArray × Bool)} {w : World} (h : CL0 B p pm sm bs l w) : sm ∉ bs := h.ring.not_map sm h.marks.block
theorem CL0.pm_p {B p pm sm : Nat} {bs : List Nat} {l : List (ByteArray × Bool)} {w : World} (h : CL0 B p pm sm bs l w) : pm ≠ p := h.st.not_map pm h.places.block
theorem CL0.sm_p {B p pm sm : Nat} {bs : List Nat} {l : List (ByteArray × Bool)} {w : World} (h : CL0 B p pm sm bs l w) : sm ≠ p := h.st.not_map sm h.marks.block
theorem CL0.frm {B p pm sm : Nat} {bs : List Nat} {l : List (ByteArray × Bool)} {G : Nat → Prop} {w w' : World} (h : CL0 B p pm sm bs l w) (f : Frm G w w') (h1 : ¬ G p) (h2 : ¬ G pm) (h3 : ¬ G sm) (h4 : ∀ b ∈ bs, ¬ G b) : CL0 B p pm sm bs l w' :=
  ⟨f.st h.st h1, h.ring.frm f h4, h.places.frm f h2, h.marks.frm f h3, h.nodup, h.fits, h.small, h.pms, h.bp, h.bpm, h.bsm, h.bbs⟩
theorem CL0.same {B p pm sm : Nat} {bs : List Nat} {l : List (ByteArray × Bool)} {w w' : World} (h : CL0 B p pm sm bs l w) (f : Frm (fun _ => False) w w') : CL0 B p pm sm bs l w' :=
  h.frm f id id id fun _ _ => id
/-- At block p lies a clock, all of it in F. -/
def CL (B p : Nat) (F : Nat → Prop) (l : List (ByteArray × Bool)) (w : World) : Prop :=
  ∃ pm sm bs, CL0 B p pm sm bs l w ∧ (∀ j, F j → B ≤ j ∧ j < w.heap.size) ∧ F p ∧ F pm ∧ F sm ∧ ∀ b ∈ bs, F b
def CLid (B p : Nat) (F : Nat → Prop) (l : List (ByteArray × Bool)) (w w' : World) : Prop := CL B p (Grow F w w') l w' ∧ Frm F w w'
theorem CL.keep {B p : Nat} {F G : Nat → Prop} {l : List (ByteArray × Bool)} {w w' : World} (h : CL B p F l w) (f : Frm G w w') (hd : ∀ j, F j → ¬ G j) : CL B p F l w' := by
  obtain ⟨pm, sm, bs, h0, hF, h1, h2, h3, h4⟩ := h
  exact ⟨pm, sm, bs, h0.frm f (hd _ h1) (hd _ h2) (hd _ h3) fun b hb => hd _ (h4 b hb), fun j hj => ⟨(hF j hj).1, Nat.lt_of_lt_of_le (hF j hj).2 f.size⟩, h1, h2, h3, h4⟩
theorem CL.inF {B p : Nat} {F : Nat → Prop} {l : List (ByteArray × Bool)} {w : World} (h : CL B p F l w) : ∀ j, F j → B ≤ j ∧ j < w.heap.size := by
  obtain ⟨_, _, _, _, hF, _⟩ := h
  exact hF
theorem CL.nodup {B p : Nat} {F : Nat → Prop} {l : List (ByteArray × Bool)} {w : World} (h : CL B p F l w) : (keys l).Nodup := by
  obtain ⟨_, _, _, h0, _⟩ := h
  exact h0.nodup
theorem CL.small {B p : Nat} {F : Nat → Prop} {l : List (ByteArray × Bool)} {w : World} (h : CL B p F l w) : ∀ s ∈ keys l, s.size ≤ 9223372036854775807 := by
  obtain ⟨_, _, _, h0, _⟩ := h
  exact h0.small
theorem CL.wide {B p : Nat} {F G : Nat → Prop} {l : List (ByteArray × Bool)} {w : World} (h : CL B p F l w) (hf : ∀ j, F j → G j) (hg : ∀ j, G j → B ≤ j ∧ j < w.heap.size) : CL B p G l w := by
  obtain ⟨pm, sm, bs, h0, hF, h1, h2, h3, h4⟩ := h
  exact ⟨pm, sm, bs, h0, hg, hf _ h1, hf _ h2, hf _ h3, fun j hj => hf _ (h4 j hj)⟩
theorem CL.drewN {B p : Nat} {F : Nat → Prop} {l : List (ByteArray × Bool)} {w : World} (h : CL B p F l w) (q : Nat) : CL B p F l (w.drewN q) := h.keep (G := fun _ => False) ((Frm.refl _ w).drewN q) fun _ _ e => e
theorem CL.below {B p : Nat} {F : Nat → Prop} {l : List (ByteArray × Bool)} {w w' : World} (h : CL B p F l w) (b : Below w.heap.size w w') : CL B p F l w' := h.keep (G := fun _ => False) (Frm.of_below b) fun _ _ e => e
theorem CLid.same {B p : Nat} {F : Nat → Prop} {l : List (ByteArray × Bool)} {w : World} (h : CL B p F l w) : CLid B p F l w w :=
  ⟨h.wide (fun _ e => .inl e) (fun j hj => by rcases hj with hj | hj; exact h.inF j hj; omega), Frm.refl _ _⟩
theorem CLid.below {B p : Nat} {F : Nat → Prop} {l : List (ByteArray × Bool)} {w w' : World} (h : CLid B p F l w w') (hB : B ≤ w.heap.size) (hF : ∀ j, F j → B ≤ j) : Below B w w' := h.2.below hB hF
/-- What a method leaves. -/
theorem CLid.mk' {B p : Nat} {F : Nat → Prop} {pm sm : Nat} {bs : List Nat} {l : List (ByteArray × Bool)} {w w' : World} (hF : ∀ j, F j → B ≤ j ∧ j < w.heap.size) (hB : B ≤ w.heap.size) (hp : F p) (hm : F pm) (hs : F sm) (h : CL0 B p pm sm bs l w') (f : Frm F w w') (hk : ∀ b ∈ bs, F b ∨ w.heap.size ≤ b) : CLid B p F l w w' :=
  ⟨⟨pm, sm, bs, h, fun j hj => by
      rcases hj with hj | hj
      · exact ⟨(hF j hj).1, Nat.lt_of_lt_of_le (hF j hj).2 f.size⟩
      · omega,
    .inl hp, .inl hm, .inl hs, fun j hj => (hk j hj).imp id fun e => ⟨e, h.ring.lt j hj⟩⟩, f⟩
/-- The deferred function, where nothing was thrown. -/
theorem ktakesc_calm (w : World) : CallsD Try.prog 55 #[] .returning w fun e u' w' => e = .returned (.tuple #[]) ∧ u' = .returning ∧ w = w' := by
  refine callsD_of_wpS Try.func55 rfl fun c₀ cs hu => ?_
  apply wpS_region
  simp [wpOpsS, go_sem, recoverD, hu, Try.ntmps55]
  exact ⟨rfl, .returning, by rw [← hu], .tuple #[], results_none Try.results55 _ _ _, rfl, rfl, rfl⟩
set_option maxRecDepth 100000 in
theorem ktakes_at {B p pm sm : Nat} {bs : List Nat} {l : List (ByteArray × Bool)} (s : ByteArray) (hs : s.size ≤ 9223372036854775807) {w : World} (h : CL0 B p pm sm bs l w) : Calls Try.prog 42 #[.pointer (some ⟨p, 0, none⟩), .string s] w fun e w' => e = .returned (.bool true) ∧ w = w' := by
  have hmf : ∀ (fn : Fn) (first cap : Array Value) (w : World), (Instr.makeFunc fn first cap).run Try.prog w = .ok (.func fn first cap) w := fun _ _ _ _ => rfl
  have c0 : w.cell? ⟨p, 0, none⟩ = some (.map (some pm)) := h.st.cell rfl
  have hne : (binOp BinOp.eql 52 (.map (some pm)) (.map none)).run Try.prog w = .ok (.bool false) w := by kernel_rfl
  obtain ⟨v, hlk⟩ := h.places.look_any Try.keyedS Try.underlying52 (Try.zeroP w) (keyS hs)
  clear h
  go_enter_defers Try.func42, Try.ntmps42
  go_wp2
  refine leaves_cons (f := 55) (args := #[]) (by simp) (by simp [go_sem]) ?_
  refine (ktakesc_calm _).mono ?_
  rintro e u' w3 ⟨rfl, rfl, rfl⟩
  refine ⟨.bool true, ?_, rfl, rfl⟩
  unfold results
  rw [Try.results42]
  simp [go_sem]
set_option maxRecDepth 100000 in
theorem kLen_at {B p pm sm : Nat} {bs : List Nat} {l : List (ByteArray × Bool)} {w : World} (h : CL0 B p pm sm bs l w) : Calls Try.prog 30 #[.pointer (some ⟨p, 0, none⟩)] w fun e w' => e = .returned (.int .i64 (l.length : Int)) ∧ ∃ q, w' = w.drewN q := by
  have c0 : w.cell? ⟨p, 0, none⟩ = some (.map (some pm)) := h.st.cell rfl
  have hkl : (keys l).length = l.length := by simp [keys]
  have hln := h.places.size Try.underlying52 3
  rw [hkl] at hln
  obtain ⟨n, hn⟩ : ∃ n, n = l.length := ⟨_, rfl⟩
  rw [← hn] at hln ⊢
  clear h hn hkl
  go_enter Try.func30, Try.ntmps30
  go_wp2
  go_returns
  exact ⟨rfl, 0, rfl⟩
set_option maxRecDepth 100000 in
theorem kHas_at {B p pm sm : Nat} {bs : List Nat} {l : List (ByteArray × Bool)} (s : ByteArray) (hs : s.size ≤ 9223372036854775807) {w : World} (h : CL0 B p pm sm bs l w) : Calls Try.prog 21 #[.pointer (some ⟨p, 0, none⟩), .string s] w fun e w' => e = .returned (.bool (inK s l)) ∧ ∃ q, w' = w.drewN q := by
  have HM := Lib.hid (ktakes_at s hs h)
  obtain ⟨v, hlk⟩ := h.places.look_ok Try.keyedS Try.underlying52 (Try.zeroP w) (keyS hs)
  have c0 : w.cell? ⟨p, 0, none⟩ = some (.map (some pm)) := h.st.cell rfl
  obtain ⟨r, hr⟩ : ∃ r, r = inK s l := ⟨_, rfl⟩
  rw [isIn_keys, ← hr] at hlk
  rw [← hr]
  clear h hr
  go_enter Try.func21, Try.ntmps21
  go_wp2_with (go_at_call 42; go_must (with_reducible refine HM.out.mono ?_); rintro e w1 ⟨rfl, rfl⟩)
  go_returns
  exact ⟨rfl, 0, rfl⟩
set_option maxRecDepth 100000 in
theorem kMarked_at {B p pm sm : Nat} {bs : List Nat} {l : List (ByteArray × Bool)} (s : ByteArray) (hs : s.size ≤ 9223372036854775807) {w : World} (h : CL0 B p pm sm bs l w) : Calls Try.prog 23 #[.pointer (some ⟨p, 0, none⟩), .string s] w fun e w' => e = .returned (.bool (mkd l s)) ∧ Below w.heap.size w w' := by
  have HM := Lib.hid (ktakes_at s hs h)
  have hlk := h.marks.look_ok Try.keyedS Try.underlying53 (Try.zeroU w) (keyS hs)
  have c0 : w.cell? ⟨p, 1, none⟩ = some (.map (some sm)) := h.st.cell rfl
  obtain ⟨r, hr⟩ : ∃ r, r = mkd l s := ⟨_, rfl⟩
  rw [← hr] at hlk ⊢
  have HB := Lib.hid (Below.refl w.heap.size w)
  clear h hr
  go_enter Try.func23, Try.ntmps23
  go_wp2_with (go_at_call 42; go_must (with_reducible refine HM.out.mono ?_); rintro e w1 ⟨rfl, rfl⟩)
  go_returns
  exact ⟨rfl, HB.out.alloc (Nat.le_refl _) _⟩
set_option maxRecDepth 100000 in
theorem kNew_any (w : World) : Calls Try.prog 12 #[] w fun e w' => ∃ p, e = .returned (.pointer (some ⟨p, 0, none⟩)) ∧ CL w.heap.size p (fun j => w.heap.size ≤ j ∧ j < w'.heap.size) [] w' ∧ Below w.heap.size w w' := by
  have hmk := run_makeMap (P := Try.prog) 52 w
  have hs : (w.alloc (.map #[] 0)).heap.size = w.heap.size + 1 := by simp
  have hmk2 := run_makeMap (P := Try.prog) 53 (w.alloc (.map #[] 0))
  have hs2 : ((w.alloc (.map #[] 0)).alloc (.map #[] 0)).heap.size = w.heap.size + 1 + 1 := by simp
  have T0 := St.new ((w.alloc (.map #[] 0)).alloc (.map #[] 0)) 56 #[.map (some w.heap.size), .map (some (w.heap.size + 1)), .pointer none]
  rw [hs2] at T0
  have S0 := SMap.made (P := Try.prog) (kt := 9) (lit := klit) (w.alloc (.map #[] 0))
  rw [hs] at S0
  have HE := Lib.hid (show CL w.heap.size (w.heap.size + 1 + 1) (fun j => w.heap.size ≤ j ∧ j < (((w.alloc (.map #[] 0)).alloc (.map #[] 0)).alloc (.cells #[.map (some w.heap.size), .map (some (w.heap.size + 1)), .pointer none] 56 (0, 0))).heap.size) [] (((w.alloc (.map #[] 0)).alloc (.map #[] 0)).alloc (.cells #[.map (some w.heap.size), .map (some (w.heap.size + 1)), .pointer none] 56 (0, 0))) from
    ⟨w.heap.size, w.heap.size + 1, [], ⟨T0, Rng.nil _ _, (PMap.made w).frm (G := fun _ => False) (((Frm.refl _ _).alloc _).alloc _) id, S0.frm (G := fun _ => False) ((Frm.refl _ _).alloc _) id, List.nodup_nil, by simp, fun s h => by simp [keys] at h, by omega, by omega, Nat.le_refl _, by omega, fun b hb => by simp at hb⟩, fun j hj => hj, by simp <;> omega, by simp <;> omega, by simp <;> omega, fun b hb => by simp at hb⟩)
  have HB := Lib.hid (show Below w.heap.size w (((w.alloc (.map #[] 0)).alloc (.map #[] 0)).alloc (.cells #[.map (some w.heap.size), .map (some (w.heap.size + 1)), .pointer none] 56 (0, 0))) from (((Below.refl _ w).alloc (Nat.le_refl _) _).alloc (by simp) _).alloc (by simp <;> omega) _)
  clear T0 S0 hs hs2
  go_enter Try.func12, Try.ntmps12
  go_wp2
  go_returns
  exact ⟨_, rfl, HE.out, HB.out⟩
theorem Frm.grow1 {F : Nat → Prop} {a b c : World} {row : Option Nat} (h : Frm F a b) (hg : b.grownBy c row) (hr : ∀ k, row = some k → F k) : Frm F a c := h.grown hg fun k hk => .inl (hr k hk)
end Go.Proofs.Ytokchikihacalaa
