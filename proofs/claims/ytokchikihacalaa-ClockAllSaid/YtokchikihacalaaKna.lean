/- The program's clock (keys are numbers) as it lies in memory: a ring of places, a map that has where each key stands, a set of those that are marked; its small functions. -/
import Derived.Test.YtokchikihacalaaKpa
import Derived.Test.YtokchikihacalaaIn
namespace Go.Proofs.Ytokchikihacalaa
open Go.RowKit

/-- Who has to go. -/
def vicN (l : List (Int × Bool)) : Int := ((kspin l)[0]?.map (·.1)).getD 0
/-- A key of a map. -/
def klitN (s : Int) : Lit := .int .i64 s
theorem klit_injN (a b : Int) (h : klitN a = klitN b) : a = b := by
  unfold klitN at h
  injection h
theorem Try.keyedSN : Maps.Keyed Try.prog 3 := Maps.int_keyed Try.underlying3
theorem Try.zeroPN (w : World) : (zeroValue 84).run Try.prog w = .ok (.pointer none) w := by kernel_rfl
theorem keySN {s : Int} (hs : (-9223372036854775808 ≤ s ∧ s ≤ 9223372036854775807)) : keyOf Try.prog 3 (.int .i64 s) = some (klitN s) := Maps.keyOf_int_mk Try.underlying3 (by simp only [Lit.wf, Bool.and_eq_true, decide_eq_true_eq]; exact hs)
/-- At block p lies a clock: its keys in places bs, these in a map at pm, its marks in one at sm. -/
structure CL0N (B p pm sm : Nat) (bs : List Nat) (l : List (Int × Bool)) (w : World) : Prop where
  st : St 86 p #[.map (some pm), .map (some sm), fstV bs] w
  ring : Rng 88 bs ((keys l).map (Value.int .i64)) w
  places : PMap Try.prog 3 klitN pm (keys l) bs w
  marks : SMap Try.prog 3 klitN sm l w
  nodup : (keys l).Nodup
  fits : l.length ≤ 2147483648
  small : ∀ s ∈ keys l, (-9223372036854775808 ≤ s ∧ s ≤ 9223372036854775807)
  pms : pm ≠ sm
  bp : B ≤ p
  bpm : B ≤ pm
  bsm : B ≤ sm
  bbs : ∀ b ∈ bs, B ≤ b
theorem CL0N.len {B p pm sm : Nat} {bs : List Nat} {l : List (Int × Bool)} {w : World} (h : CL0N B p pm sm bs l w) : bs.length = l.length := by
  have := h.ring.len
  rw [← this]
  simp [keys]
theorem CL0N.nd {B p pm sm : Nat} {bs : List Nat} {l : List (Int × Bool)} {w : World} (h : CL0N B p pm sm bs l w) : bs.Nodup :=
  h.ring.nodup (List.Pairwise.map _ (fun a b hne e => hne (by injection e)) h.nodup)
theorem CL0N.p_bs {B p pm sm : Nat} {bs : List Nat} {l : List (Int × Bool)} {w : World} (h : CL0N B p pm sm bs l w) : p ∉ bs :=
  h.ring.apart p fun v hv a c hn => by
    obtain ⟨s, _, rfl⟩ := List.mem_map.1 hv
    have h1 := h.st
    unfold Nd St at hn
    unfold St at h1
    rw [h1] at hn
    injection hn with hn
    injection hn with hn
    simp at hn
theorem CL0N.pm_bs {B p pm sm : Nat} {bs : List Nat} {l : List (Int × Bool)} {w : World} (h : CL0N B p pm sm bs l w) : pm ∉ bs := h.ring.not_map pm h.places.block
theorem CL0N.sm_bs {B p pm sm : Nat} {bs : List Nat} {l : List (Int × Bool)} {w : World} (h : CL0N B p pm sm bs l w) : sm ∉ bs := h.ring.not_map sm h.marks.block
theorem CL0N.pm_p {B p pm sm : Nat} {bs : List Nat} {l : List (Int × Bool)} {w : World} (h : CL0N B p pm sm bs l w) : pm ≠ p := h.st.not_map pm h.places.block
theorem CL0N.sm_p {B p pm sm : Nat} {bs : List Nat} {l : List (Int × Bool)} {w : World} (h : CL0N B p pm sm bs l w) : sm ≠ p := h.st.not_map sm h.marks.block
theorem CL0N.frm {B p pm sm : Nat} {bs : List Nat} {l : List (Int × Bool)} {G : Nat → Prop} {w w' : World} (h : CL0N B p pm sm bs l w) (f : Frm G w w') (h1 : ¬ G p) (h2 : ¬ G pm) (h3 : ¬ G sm) (h4 : ∀ b ∈ bs, ¬ G b) : CL0N B p pm sm bs l w' :=
  ⟨f.st h.st h1, h.ring.frm f h4, h.places.frm f h2, h.marks.frm f h3, h.nodup, h.fits, h.small, h.pms, h.bp, h.bpm, h.bsm, h.bbs⟩
theorem CL0N.same {B p pm sm : Nat} {bs : List Nat} {l : List (Int × Bool)} {w w' : World} (h : CL0N B p pm sm bs l w) (f : Frm (fun _ => False) w w') : CL0N B p pm sm bs l w' :=
  h.frm f id id id fun _ _ => id
/-- At block p lies a clock, all of it in F. -/
def CLN (B p : Nat) (F : Nat → Prop) (l : List (Int × Bool)) (w : World) : Prop :=
  ∃ pm sm bs, CL0N B p pm sm bs l w ∧ (∀ j, F j → B ≤ j ∧ j < w.heap.size) ∧ F p ∧ F pm ∧ F sm ∧ ∀ b ∈ bs, F b
def CLidN (B p : Nat) (F : Nat → Prop) (l : List (Int × Bool)) (w w' : World) : Prop := CLN B p (Grow F w w') l w' ∧ Frm F w w'
theorem CLN.keep {B p : Nat} {F G : Nat → Prop} {l : List (Int × Bool)} {w w' : World} (h : CLN B p F l w) (f : Frm G w w') (hd : ∀ j, F j → ¬ G j) : CLN B p F l w' := by
  obtain ⟨pm, sm, bs, h0, hF, h1, h2, h3, h4⟩ := h
  exact ⟨pm, sm, bs, h0.frm f (hd _ h1) (hd _ h2) (hd _ h3) fun b hb => hd _ (h4 b hb), fun j hj => ⟨(hF j hj).1, Nat.lt_of_lt_of_le (hF j hj).2 f.size⟩, h1, h2, h3, h4⟩
theorem CLN.inF {B p : Nat} {F : Nat → Prop} {l : List (Int × Bool)} {w : World} (h : CLN B p F l w) : ∀ j, F j → B ≤ j ∧ j < w.heap.size := by
  obtain ⟨_, _, _, _, hF, _⟩ := h
  exact hF
theorem CLN.nodup {B p : Nat} {F : Nat → Prop} {l : List (Int × Bool)} {w : World} (h : CLN B p F l w) : (keys l).Nodup := by
  obtain ⟨_, _, _, h0, _⟩ := h
  exact h0.nodup
theorem CLN.small {B p : Nat} {F : Nat → Prop} {l : List (Int × Bool)} {w : World} (h : CLN B p F l w) : ∀ s ∈ keys l, (-9223372036854775808 ≤ s ∧ s ≤ 9223372036854775807) := by
  obtain ⟨_, _, _, h0, _⟩ := h
  exact h0.small
theorem CLN.wide {B p : Nat} {F G : Nat → Prop} {l : List (Int × Bool)} {w : World} (h : CLN B p F l w) (hf : ∀ j, F j → G j) (hg : ∀ j, G j → B ≤ j ∧ j < w.heap.size) : CLN B p G l w := by
  obtain ⟨pm, sm, bs, h0, hF, h1, h2, h3, h4⟩ := h
  exact ⟨pm, sm, bs, h0, hg, hf _ h1, hf _ h2, hf _ h3, fun j hj => hf _ (h4 j hj)⟩
theorem CLN.drewN {B p : Nat} {F : Nat → Prop} {l : List (Int × Bool)} {w : World} (h : CLN B p F l w) (q : Nat) : CLN B p F l (w.drewN q) := h.keep (G := fun _ => False) ((Frm.refl _ w).drewN q) fun _ _ e => e
theorem CLN.below {B p : Nat} {F : Nat → Prop} {l : List (Int × Bool)} {w w' : World} (h : CLN B p F l w) (b : Below w.heap.size w w') : CLN B p F l w' := h.keep (G := fun _ => False) (Frm.of_below b) fun _ _ e => e
theorem CLidN.same {B p : Nat} {F : Nat → Prop} {l : List (Int × Bool)} {w : World} (h : CLN B p F l w) : CLidN B p F l w w :=
  ⟨h.wide (fun _ e => .inl e) (fun j hj => by rcases hj with hj | hj; exact h.inF j hj; omega), Frm.refl _ _⟩
theorem CLidN.below {B p : Nat} {F : Nat → Prop} {l : List (Int × Bool)} {w w' : World} (h : CLidN B p F l w w') (hB : B ≤ w.heap.size) (hF : ∀ j, F j → B ≤ j) : Below B w w' := h.2.below hB hF
/-- What a method leaves. -/
theorem CLidN.mk' {B p : Nat} {F : Nat → Prop} {pm sm : Nat} {bs : List Nat} {l : List (Int × Bool)} {w w' : World} (hF : ∀ j, F j → B ≤ j ∧ j < w.heap.size) (hB : B ≤ w.heap.size) (hp : F p) (hm : F pm) (hs : F sm) (h : CL0N B p pm sm bs l w') (f : Frm F w w') (hk : ∀ b ∈ bs, F b ∨ w.heap.size ≤ b) : CLidN B p F l w w' :=
  ⟨⟨pm, sm, bs, h, fun j hj => by
      rcases hj with hj | hj
      · exact ⟨(hF j hj).1, Nat.lt_of_lt_of_le (hF j hj).2 f.size⟩
      · omega,
    .inl hp, .inl hm, .inl hs, fun j hj => (hk j hj).imp id fun e => ⟨e, h.ring.lt j hj⟩⟩, f⟩
/-- The deferred function, where nothing was thrown. -/
theorem ktakesc_calmN (w : World) : CallsD Try.prog 56 #[] .returning w fun e u' w' => e = .returned (.tuple #[]) ∧ u' = .returning ∧ w = w' := by
  refine callsD_of_wpS Try.func56 rfl fun c₀ cs hu => ?_
  apply wpS_region
  simp [wpOpsS, go_sem, recoverD, hu, Try.ntmps56]
  exact ⟨rfl, .returning, by rw [← hu], .tuple #[], results_none Try.results56 _ _ _, rfl, rfl, rfl⟩
set_option maxRecDepth 100000 in
theorem ktakes_atN {B p pm sm : Nat} {bs : List Nat} {l : List (Int × Bool)} (s : Int) (hs : (-9223372036854775808 ≤ s ∧ s ≤ 9223372036854775807)) {w : World} (h : CL0N B p pm sm bs l w) : Calls Try.prog 45 #[.pointer (some ⟨p, 0, none⟩), .int .i64 s] w fun e w' => e = .returned (.bool true) ∧ w = w' := by
  have hmf : ∀ (fn : Fn) (first cap : Array Value) (w : World), (Instr.makeFunc fn first cap).run Try.prog w = .ok (.func fn first cap) w := fun _ _ _ _ => rfl
  have c0 : w.cell? ⟨p, 0, none⟩ = some (.map (some pm)) := h.st.cell rfl
  have hne : (binOp BinOp.eql 82 (.map (some pm)) (.map none)).run Try.prog w = .ok (.bool false) w := by kernel_rfl
  obtain ⟨v, hlk⟩ := h.places.look_any Try.keyedSN Try.underlying82 (Try.zeroPN w) (keySN hs)
  clear h
  go_enter_defers Try.func45, Try.ntmps45
  go_wp2
  refine leaves_cons (f := 56) (args := #[]) (by simp) (by simp [go_sem]) ?_
  refine (ktakesc_calmN _).mono ?_
  rintro e u' w3 ⟨rfl, rfl, rfl⟩
  refine ⟨.bool true, ?_, rfl, rfl⟩
  unfold results
  rw [Try.results45]
  simp [go_sem]
set_option maxRecDepth 100000 in
theorem kLen_atN {B p pm sm : Nat} {bs : List Nat} {l : List (Int × Bool)} {w : World} (h : CL0N B p pm sm bs l w) : Calls Try.prog 26 #[.pointer (some ⟨p, 0, none⟩)] w fun e w' => e = .returned (.int .i64 (l.length : Int)) ∧ ∃ q, w' = w.drewN q := by
  have c0 : w.cell? ⟨p, 0, none⟩ = some (.map (some pm)) := h.st.cell rfl
  have hkl : (keys l).length = l.length := by simp [keys]
  have hln := h.places.size Try.underlying82 3
  rw [hkl] at hln
  obtain ⟨n, hn⟩ : ∃ n, n = l.length := ⟨_, rfl⟩
  rw [← hn] at hln ⊢
  clear h hn hkl
  go_enter Try.func26, Try.ntmps26
  go_wp2
  go_returns
  exact ⟨rfl, 0, rfl⟩
set_option maxRecDepth 100000 in
theorem kHas_atN {B p pm sm : Nat} {bs : List Nat} {l : List (Int × Bool)} (s : Int) (hs : (-9223372036854775808 ≤ s ∧ s ≤ 9223372036854775807)) {w : World} (h : CL0N B p pm sm bs l w) : Calls Try.prog 29 #[.pointer (some ⟨p, 0, none⟩), .int .i64 s] w fun e w' => e = .returned (.bool (inK s l)) ∧ ∃ q, w' = w.drewN q := by
  have HM := Lib.hid (ktakes_atN s hs h)
  obtain ⟨v, hlk⟩ := h.places.look_ok Try.keyedSN Try.underlying82 (Try.zeroPN w) (keySN hs)
  have c0 : w.cell? ⟨p, 0, none⟩ = some (.map (some pm)) := h.st.cell rfl
  obtain ⟨r, hr⟩ : ∃ r, r = inK s l := ⟨_, rfl⟩
  rw [isIn_keys, ← hr] at hlk
  rw [← hr]
  clear h hr
  go_enter Try.func29, Try.ntmps29
  go_wp2_with (go_at_call 45; go_must (with_reducible refine HM.out.mono ?_); rintro e w1 ⟨rfl, rfl⟩)
  go_returns
  exact ⟨rfl, 0, rfl⟩
set_option maxRecDepth 100000 in
theorem kMarked_atN {B p pm sm : Nat} {bs : List Nat} {l : List (Int × Bool)} (s : Int) (hs : (-9223372036854775808 ≤ s ∧ s ≤ 9223372036854775807)) {w : World} (h : CL0N B p pm sm bs l w) : Calls Try.prog 47 #[.pointer (some ⟨p, 0, none⟩), .int .i64 s] w fun e w' => e = .returned (.bool (mkd l s)) ∧ Below w.heap.size w w' := by
  have HM := Lib.hid (ktakes_atN s hs h)
  have hlk := h.marks.look_ok Try.keyedSN Try.underlying83 (Try.zeroU w) (keySN hs)
  have c0 : w.cell? ⟨p, 1, none⟩ = some (.map (some sm)) := h.st.cell rfl
  obtain ⟨r, hr⟩ : ∃ r, r = mkd l s := ⟨_, rfl⟩
  rw [← hr] at hlk ⊢
  have HB := Lib.hid (Below.refl w.heap.size w)
  clear h hr
  go_enter Try.func47, Try.ntmps47
  go_wp2_with (go_at_call 45; go_must (with_reducible refine HM.out.mono ?_); rintro e w1 ⟨rfl, rfl⟩)
  go_returns
  exact ⟨rfl, HB.out.alloc (Nat.le_refl _) _⟩
set_option maxRecDepth 100000 in
theorem kNew_anyN (w : World) : Calls Try.prog 24 #[] w fun e w' => ∃ p, e = .returned (.pointer (some ⟨p, 0, none⟩)) ∧ CLN w.heap.size p (fun j => w.heap.size ≤ j ∧ j < w'.heap.size) [] w' ∧ Below w.heap.size w w' := by
  have hmk := run_makeMap (P := Try.prog) 82 w
  have hs : (w.alloc (.map #[] 0)).heap.size = w.heap.size + 1 := by simp
  have hmk2 := run_makeMap (P := Try.prog) 83 (w.alloc (.map #[] 0))
  have hs2 : ((w.alloc (.map #[] 0)).alloc (.map #[] 0)).heap.size = w.heap.size + 1 + 1 := by simp
  have T0 := St.new ((w.alloc (.map #[] 0)).alloc (.map #[] 0)) 86 #[.map (some w.heap.size), .map (some (w.heap.size + 1)), .pointer none]
  rw [hs2] at T0
  have S0 := SMap.made (P := Try.prog) (kt := 3) (lit := klitN) (w.alloc (.map #[] 0))
  rw [hs] at S0
  have HE := Lib.hid (show CLN w.heap.size (w.heap.size + 1 + 1) (fun j => w.heap.size ≤ j ∧ j < (((w.alloc (.map #[] 0)).alloc (.map #[] 0)).alloc (.cells #[.map (some w.heap.size), .map (some (w.heap.size + 1)), .pointer none] 86 (0, 0))).heap.size) [] (((w.alloc (.map #[] 0)).alloc (.map #[] 0)).alloc (.cells #[.map (some w.heap.size), .map (some (w.heap.size + 1)), .pointer none] 86 (0, 0))) from
    ⟨w.heap.size, w.heap.size + 1, [], ⟨T0, Rng.nil _ _, (PMap.made w).frm (G := fun _ => False) (((Frm.refl _ _).alloc _).alloc _) id, S0.frm (G := fun _ => False) ((Frm.refl _ _).alloc _) id, List.nodup_nil, by simp, fun s h => by simp [keys] at h, by omega, by omega, Nat.le_refl _, by omega, fun b hb => by simp at hb⟩, fun j hj => hj, by simp <;> omega, by simp <;> omega, by simp <;> omega, fun b hb => by simp at hb⟩)
  have HB := Lib.hid (show Below w.heap.size w (((w.alloc (.map #[] 0)).alloc (.map #[] 0)).alloc (.cells #[.map (some w.heap.size), .map (some (w.heap.size + 1)), .pointer none] 86 (0, 0))) from (((Below.refl _ w).alloc (Nat.le_refl _) _).alloc (by simp) _).alloc (by simp <;> omega) _)
  clear T0 S0 hs hs2
  go_enter Try.func24, Try.ntmps24
  go_wp2
  go_returns
  exact ⟨_, rfl, HE.out, HB.out⟩
end Go.Proofs.Ytokchikihacalaa
