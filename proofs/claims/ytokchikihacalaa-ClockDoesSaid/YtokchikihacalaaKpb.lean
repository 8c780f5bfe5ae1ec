/- The program's clock (keys are texts): a key's place is made, and taken out. -/
import Derived.Test.YtokchikihacalaaKpa
import Derived.LaidEqlPtr
namespace Go.Proofs.Ytokchikihacalaa
open Go.RowKit

section
variable {α : Type} [DecidableEq α]
theorem add_marks (l : List (α × Bool)) (s : α) : keys (l ++ [(s, false)]) = keys l ++ [s] ∧ (l ++ [(s, false)]).countP (·.2) = l.countP (·.2) ∧ ∀ x, mkd (l ++ [(s, false)]) x = mkd l x := by
  refine ⟨by simp [keys], by simp, fun x => ?_⟩
  unfold mkd
  rw [decide_eq_decide]
  simp
end
/-- A place is made for a key, and stands in the map. -/
structure Kmid (B p pm sm : Nat) (bs : List Nat) (l : List (ByteArray × Bool)) (s : ByteArray) (w w2 : World) : Prop where
  st : St 56 p #[.map (some pm), .map (some sm), fstV bs] w2
  ring : Rng 79 bs ((keys l).map Value.string) w2
  nd : St 79 w.heap.size #[.string s, .pointer none, .pointer none] w2
  places : PMap Try.prog 9 klit pm (keys l ++ [s]) (bs ++ [w.heap.size]) w2
  marks : SMap Try.prog 9 klit sm l w2
  frm : Frm (fun j => j = pm) w w2
theorem CL0.mid {B p pm sm : Nat} {bs : List Nat} {l : List (ByteArray × Bool)} {w : World} (h : CL0 B p pm sm bs l w) (s : ByteArray) (hs : s.size ≤ 9223372036854775807) (hn : s ∉ keys l) (hl : l.length ≤ 1073741824) :
    ∃ w2, (Instr.mapUpdate 52 (.map (some pm)) (.string s) (.pointer (some ⟨w.heap.size, 0, none⟩))).run Try.prog (w.alloc (.cells #[.string s, .pointer none, .pointer none] 79 (0, 0))) = .ok () w2 ∧ Kmid B p pm sm bs l s w w2 := by
  have f1 : Frm (fun _ => False) w (w.alloc (.cells #[.string s, .pointer none, .pointer none] 79 (0, 0))) := (Frm.refl _ w).alloc _
  have h1 := h.same f1
  have n1 := St.new w 79 #[.string s, .pointer none, .pointer none]
  have hkl : (keys l).length = l.length := by simp [keys]
  obtain ⟨w2, hrun, hp, hg⟩ := h1.places.add Try.keyedS Try.underlying52 klit_inj (keyS hs) trivial (by unfold maxLen; omega) hn w.heap.size
  have f2 : Frm (fun j => j = pm) (w.alloc (.cells #[.string s, .pointer none, .pointer none] 79 (0, 0))) w2 := (Frm.refl _ _).grow1 hg fun k hk => by cases hk; rfl
  have hpl := h.places.block
  have hlt : pm < w.heap.size := by
    obtain ⟨es, c, e⟩ := hpl
    exact lt_of_block e
  refine ⟨w2, hrun, f2.st h1.st (fun e => h.pm_p e.symm), h1.ring.frm f2 (fun b hb e => h.pm_bs (by rw [← e]; exact hb)), f2.st n1 (by omega), hp, h1.marks.frm f2 (fun e => h.pms e.symm), (f1.wide fun _ e => e.elim).next f2⟩
theorem fstV_app {bs : List Nat} (h : 0 < bs.length) (q : Nat) : fstV (bs ++ [q]) = fstV bs := by
  cases bs with
  | nil => simp at h
  | cons b r => rfl
theorem fstV_at {bs : List Nat} (h : 0 < bs.length) : fstV bs = .pointer (some ⟨bs.getD 0 0, 0, none⟩) := by
  cases bs with
  | nil => simp at h
  | cons b r => rfl
theorem getD_mem {bs : List Nat} {j : Nat} (hj : j < bs.length) : bs.getD j 0 ∈ bs := by rw [List.getD_eq_getElem?_getD, List.getElem?_eq_getElem hj]; exact List.getElem_mem hj
/-- The clock, when the place has been linked. -/
theorem CL0.linked {B p pm sm : Nat} {bs : List Nat} {l : List (ByteArray × Bool)} {w : World} (h : CL0 B p pm sm bs l w) (hB : B ≤ w.heap.size) (s : ByteArray) (hs : s.size ≤ 9223372036854775807) (hn : s ∉ keys l) (hl : l.length ≤ 1073741824) {w2 : World} (m : Kmid B p pm sm bs l s w w2) {w5 : World} (f : Frm (fun j => j = p ∨ j = w.heap.size ∨ j ∈ bs) w2 w5)
    (h1 : St 56 p #[.map (some pm), .map (some sm), fstV (bs ++ [w.heap.size])] w5) (h2 : Rng 79 (bs ++ [w.heap.size]) ((keys l).map Value.string ++ [.string s]) w5) :
    CL0 B p pm sm (bs ++ [w.heap.size]) (l ++ [(s, false)]) w5 ∧ Frm (fun j => j = p ∨ j = pm ∨ j ∈ bs) w w5 := by
  obtain ⟨a1, a2, a3⟩ := add_marks l s
  have hpl : pm < w.heap.size := by
    obtain ⟨es, c, e⟩ := h.places.block
    exact lt_of_block e
  have hsl : sm < w.heap.size := by
    obtain ⟨es, c, e⟩ := h.marks.block
    exact lt_of_block e
  refine ⟨⟨h1, by rw [a1, List.map_append]; exact h2, by rw [a1]; exact m.places.frm f (fun e => by rcases e with e | e | e; exact h.pm_p e; omega; exact h.pm_bs e), ?_, ?_, by simp; omega, ?_, h.pms, h.bp, h.bpm, h.bsm, ?_⟩, ?_⟩
  · exact KM.as (m.marks.frm f (fun e => by rcases e with e | e | e; exact h.sm_p e; omega; exact h.sm_bs e)) a2.symm fun x => by rw [a3]
  · rw [a1]
    exact List.nodup_append.2 ⟨h.nodup, by simp, fun a ha b hb e2 => by simp at hb; subst hb; subst e2; exact hn ha⟩
  · intro x hx
    rw [a1] at hx
    rcases List.mem_append.1 hx with h3 | h3
    · exact h.small x h3
    · simp at h3; subst h3; exact hs
  · intro b hb
    rcases List.mem_append.1 hb with h3 | h3
    · exact h.bbs b h3
    · simp at h3; omega
  · refine Frm.trans (m.frm.wide fun j e => .inr (.inl e)) (f.wide fun j e => ?_)
    rcases e with e | e | e
    · exact .inl (.inl e)
    · exact .inr ⟨by omega, by subst e; exact m.nd.lt⟩
    · exact .inl (.inr (.inr e))
set_option maxRecDepth 100000 in
set_option maxHeartbeats 1000000 in
theorem kadd_first {B p pm sm : Nat} {l : List (ByteArray × Bool)} (s : ByteArray) (hs : s.size ≤ 9223372036854775807) {w : World} (hB : B ≤ w.heap.size) (hn : s ∉ keys l) (hl : l.length ≤ 1073741824) (h : CL0 B p pm sm [] l w) :
    Calls Try.prog 43 #[.pointer (some ⟨p, 0, none⟩), .string s] w fun e w' => e = .returned (.tuple #[]) ∧ CL0 B p pm sm ([] ++ [w.heap.size]) (l ++ [(s, false)]) w' ∧ Frm (fun j => j = p ∨ j = pm ∨ j ∈ ([] : List Nat)) w w' := by
  obtain ⟨w2, hrun, m⟩ := h.mid s hs hn hl
  have hpq : p ≠ w.heap.size := by have := h.st.lt; omega
  have HE := Lib.hid (show CL0 B p pm sm ([] ++ [w.heap.size]) (l ++ [(s, false)]) (((w2.setCell ⟨w.heap.size, 1, none⟩ (.pointer (some ⟨w.heap.size, 0, none⟩))).setCell ⟨w.heap.size, 2, none⟩ (.pointer (some ⟨w.heap.size, 0, none⟩))).setCell ⟨p, 2, none⟩ (.pointer (some ⟨w.heap.size, 0, none⟩))) ∧ Frm (fun j => j = p ∨ j = pm ∨ j ∈ ([] : List Nat)) w _ from by
    have hk : keys l = [] := by rw [List.length_eq_zero_iff.1 h.len.symm]; rfl
    refine h.linked hB s hs hn hl m (((Frm.refl _ w2).setCell (p := ⟨w.heap.size, 1, none⟩) (.inl (.inr (.inl rfl))) _).setCell (p := ⟨w.heap.size, 2, none⟩) (.inl (.inr (.inl rfl))) _ |>.setCell (p := ⟨p, 2, none⟩) (.inl (.inl rfl)) _) ?_ ?_
    · exact ((m.st.other _ 1 _ (by omega)).other _ 2 _ (by omega)).set 2 _
    · rw [hk]
      exact Rng.one (((m.nd.set 1 _).set 2 _).other p 2 _ hpq))
  have c0 : (w.alloc (.cells #[.string s, .pointer none, .pointer none] 79 (0, 0))).cell? ⟨p, 0, none⟩ = some (.map (some pm)) := (h.st.alloc _).cell rfl
  have c2 : w2.cell? ⟨p, 2, none⟩ = some (.pointer none) := m.st.cell rfl
  have z1 : w2.frozen? ⟨w.heap.size, 1, none⟩ = false := m.nd.free 1
  have z2 : w2.frozen? ⟨w.heap.size, 2, none⟩ = false := m.nd.free 2
  have k1 : w2.cell? ⟨w.heap.size, 1, none⟩ = some (.pointer none) := m.nd.cell rfl
  have k2 : w2.cell? ⟨w.heap.size, 2, none⟩ = some (.pointer none) := m.nd.cell rfl
  have z3 : w2.frozen? ⟨p, 2, none⟩ = false := m.st.free 2
  have hpq2 : w.heap.size ≠ p := by omega
  clear h m hn hl hB
  go_enter Try.func43, Try.ntmps43
  go_wp2_with ((with_reducible show wpList _ _ _ ({ dst := _, op := .mapUpdate _ _ _ _, type := _, pos := _, after := _, guard := _ } :: _) _ _); refine wpList_mapUpdate_run rfl (.tmp 11) (.tmp 12) (.tmp 13) 52 rfl _ _ _ (by simp [Act.eval]) (by simp [Act.eval]) (by simp [Act.eval]) hrun ?_)
  go_returns
  exact ⟨rfl, HE.out⟩
set_option maxRecDepth 100000 in
set_option maxHeartbeats 4000000 in
theorem kadd_more {B p pm sm : Nat} {bs : List Nat} {l : List (ByteArray × Bool)} (s : ByteArray) (hs : s.size ≤ 9223372036854775807) {w : World} (hB : B ≤ w.heap.size) (hn : s ∉ keys l) (hl : l.length ≤ 1073741824) (h : CL0 B p pm sm bs l w) (hb : 0 < bs.length) :
    Calls Try.prog 43 #[.pointer (some ⟨p, 0, none⟩), .string s] w fun e w' => e = .returned (.tuple #[]) ∧ CL0 B p pm sm (bs ++ [w.heap.size]) (l ++ [(s, false)]) w' ∧ Frm (fun j => j = p ∨ j = pm ∨ j ∈ bs) w w' := by
  obtain ⟨w2, hrun, m⟩ := h.mid s hs hn hl
  have hpq : p ≠ w.heap.size := by have := h.st.lt; omega
  have hqp : w.heap.size ≠ p := fun e => hpq e.symm
  obtain ⟨z, hz⟩ : ∃ z, z = bs.getD (bs.length - 1) 0 := ⟨_, rfl⟩
  obtain ⟨f, hf⟩ : ∃ f, f = bs.getD 0 0 := ⟨_, rfl⟩
  have hzm : z ∈ bs := by rw [hz]; exact getD_mem (by omega)
  have hfm : f ∈ bs := by rw [hf]; exact getD_mem hb
  have hzq : z ≠ w.heap.size := by have := h.ring.lt z hzm; omega
  have hfq : f ≠ w.heap.size := by have := h.ring.lt f hfm; omega
  have hqz : w.heap.size ≠ z := fun e => hzq e.symm
  have hqf : w.heap.size ≠ f := fun e => hfq e.symm
  have hzp : z ≠ p := fun e => h.p_bs (by rw [← e]; exact hzm)
  have hfp : f ≠ p := fun e => h.p_bs (by rw [← e]; exact hfm)
  have hfst : fstV bs = .pointer (some ⟨f, 0, none⟩) := by rw [hf]; exact fstV_at hb
  have hvl : 0 < ((keys l).map Value.string).length := by rw [h.ring.len]; exact hb
  have hfn : ∃ v c, Nd 79 f v z c w2 := by
    have := m.ring.node 0 f _ (by rw [hf, List.getD_eq_getElem?_getD, List.getElem?_eq_getElem hb]; rfl) (List.getElem?_eq_getElem hvl)
    have e : prv bs 0 = z := by unfold prv pI; rw [if_pos rfl, hz]
    rw [e] at this
    exact ⟨_, _, this⟩
  have hzn : ∃ v a c, Nd 79 z v a c w2 := by
    have := m.ring.node (bs.length - 1) z _ (by rw [hz, List.getD_eq_getElem?_getD, List.getElem?_eq_getElem (by omega)]; rfl) (List.getElem?_eq_getElem (by rw [h.ring.len]; omega))
    exact ⟨_, _, _, this⟩
  have HE := Lib.hid (show CL0 B p pm sm (bs ++ [w.heap.size]) (l ++ [(s, false)]) ((((w2.setCell ⟨w.heap.size, 1, none⟩ (.pointer (some ⟨z, 0, none⟩))).setCell ⟨w.heap.size, 2, none⟩ (.pointer (some ⟨f, 0, none⟩))).setCell ⟨z, 2, none⟩ (.pointer (some ⟨w.heap.size, 0, none⟩))).setCell ⟨f, 1, none⟩ (.pointer (some ⟨w.heap.size, 0, none⟩))) ∧ Frm (fun j => j = p ∨ j = pm ∨ j ∈ bs) w _ from by
    refine h.linked hB s hs hn hl m ((((Frm.refl _ w2).setCell (p := ⟨w.heap.size, 1, none⟩) (.inl (.inr (.inl rfl))) _).setCell (p := ⟨w.heap.size, 2, none⟩) (.inl (.inr (.inl rfl))) _).setCell (p := ⟨z, 2, none⟩) (.inl (.inr (.inr hzm))) _ |>.setCell (p := ⟨f, 1, none⟩) (.inl (.inr (.inr hfm))) _) ?_ ?_
    · rw [fstV_app hb]
      exact (((m.st.other _ 1 _ hqp).other _ 2 _ hqp).other z 2 _ hzp).other f 1 _ hfp
    · have r2 := m.ring.frm (F := fun j => j = w.heap.size) (((Frm.refl (fun j => j = w.heap.size) w2).setCell (p := ⟨w.heap.size, 1, none⟩) (.inl rfl) (.pointer (some ⟨z, 0, none⟩))).setCell (p := ⟨w.heap.size, 2, none⟩) (.inl rfl) (.pointer (some ⟨f, 0, none⟩))) (fun b hb e => by have := h.ring.lt b hb; omega)
      have n2 : Nd 79 w.heap.size (.string s) z f ((w2.setCell ⟨w.heap.size, 1, none⟩ (.pointer (some ⟨z, 0, none⟩))).setCell ⟨w.heap.size, 2, none⟩ (.pointer (some ⟨f, 0, none⟩))) := (m.nd.set 1 _).set 2 _
      rw [hz, hf] at n2 r2
      have := r2.add hb h.nd (fun e => by have := h.ring.lt _ e; omega) n2
      rw [← hz, ← hf] at this
      exact this)
  obtain ⟨fv, fc, hfn⟩ := hfn
  obtain ⟨zv, za, zc, hzn⟩ := hzn
  have c0 : (w.alloc (.cells #[.string s, .pointer none, .pointer none] 79 (0, 0))).cell? ⟨p, 0, none⟩ = some (.map (some pm)) := (h.st.alloc _).cell rfl
  have c2 : w2.cell? ⟨p, 2, none⟩ = some (.pointer (some ⟨f, 0, none⟩)) := by rw [← hfst]; exact m.st.cell rfl
  have c3 : w2.cell? ⟨f, 1, none⟩ = some (.pointer (some ⟨z, 0, none⟩)) := St.cell hfn rfl
  have k1 : w2.cell? ⟨w.heap.size, 1, none⟩ = some (.pointer none) := m.nd.cell rfl
  have k2 : w2.cell? ⟨w.heap.size, 2, none⟩ = some (.pointer none) := m.nd.cell rfl
  have z1 : w2.frozen? ⟨w.heap.size, 1, none⟩ = false := m.nd.free 1
  have z2 : w2.frozen? ⟨w.heap.size, 2, none⟩ = false := m.nd.free 2
  have z3 : w2.frozen? ⟨z, 2, none⟩ = false := St.free hzn 2
  have z4 : w2.frozen? ⟨f, 1, none⟩ = false := St.free hfn 1
  have k3 : w2.cell? ⟨z, 2, none⟩ = some (.pointer (some ⟨zc, 0, none⟩)) := St.cell hzn rfl
  clear h m hn hl hB hzm hfm hfst hvl hfn hzn hz hf
  go_enter Try.func43, Try.ntmps43
  go_wp2_with ((with_reducible show wpList _ _ _ ({ dst := _, op := .mapUpdate _ _ _ _, type := _, pos := _, after := _, guard := _ } :: _) _ _); refine wpList_mapUpdate_run rfl (.tmp 11) (.tmp 12) (.tmp 13) 52 rfl _ _ _ (by simp [Act.eval]) (by simp [Act.eval]) (by simp [Act.eval]) hrun ?_)
  go_region
  go_wp2_with fail
  go_region
  go_end0
  exact ⟨rfl, HE.out.1.same ((Frm.refl _ _).drew.drew), HE.out.2.drew.drew⟩
theorem kadd_at {B p pm sm : Nat} {bs : List Nat} {l : List (ByteArray × Bool)} (s : ByteArray) (hs : s.size ≤ 9223372036854775807) {w : World} (hB : B ≤ w.heap.size) (hn : s ∉ keys l) (hl : l.length ≤ 1073741824) (h : CL0 B p pm sm bs l w) :
    Calls Try.prog 43 #[.pointer (some ⟨p, 0, none⟩), .string s] w fun e w' => e = .returned (.tuple #[]) ∧ CL0 B p pm sm (bs ++ [w.heap.size]) (l ++ [(s, false)]) w' ∧ Frm (fun j => j = p ∨ j = pm ∨ j ∈ bs) w w' := by
  by_cases hb : 0 < bs.length
  · exact kadd_more s hs hB hn hl h hb
  · obtain rfl : bs = [] := List.length_eq_zero_iff.1 (by omega)
    exact kadd_first s hs hB hn hl h
theorem Try.infoPlace : (Try.prog.info? 79).map (·.size) = some 3 := by kernel_rfl
theorem Try.ptrSame (a : Nat) (w : World) : (binOp BinOp.eql 54 (.pointer (some ⟨a, 0, none⟩)) (.pointer (some ⟨a, 0, none⟩))).run Try.prog w = .ok (.bool true) w := by
  obtain ⟨j, hj, _⟩ := Option.map_eq_some_iff.1 Try.infoPlace
  exact run_eql_ptr_same w _ Try.underlying54 hj
theorem Try.ptrOther {a b : Nat} {w : World} (hab : a ≠ b) (ha : ∃ cs, St 79 a cs w) (hb : ∃ cs, St 79 b cs w) : (binOp BinOp.eql 54 (.pointer (some ⟨a, 0, none⟩)) (.pointer (some ⟨b, 0, none⟩))).run Try.prog w = .ok (.bool false) w := by
  obtain ⟨j, hj, hz⟩ := Option.map_eq_some_iff.1 Try.infoPlace
  obtain ⟨ca, ha⟩ := ha
  obtain ⟨cb, hb⟩ := hb
  exact run_eql_ptr_other w Try.underlying54 hj (by omega) (fun e => hab (by injection e)) ha hb
/-- The places, when the one at i has been taken out. -/
structure Krem (p pm sm : Nat) (bs : List Nat) (l : List (ByteArray × Bool)) (i : Nat) (w w' : World) : Prop where
  st : St 56 p #[.map (some pm), .map (some sm), fstV (bs.eraseIdx i)] w'
  ring : Rng 79 (bs.eraseIdx i) (((keys l).map Value.string).eraseIdx i) w'
  frm : Frm (fun j => j = p ∨ j ∈ bs) w w'
theorem Krem.drewN {p pm sm : Nat} {bs : List Nat} {l : List (ByteArray × Bool)} {i : Nat} {w w' : World} (h : Krem p pm sm bs l i w w') (q : Nat) : Krem p pm sm bs l i w (w'.drewN q) :=
  ⟨h.st, h.ring.frm (F := fun _ => False) ((Frm.refl _ w').drewN q) fun _ _ => id, h.frm.drewN q⟩
theorem fstV_erase {bs : List Nat} {i : Nat} (h0 : 0 < i) (hi : i < bs.length) : fstV (bs.eraseIdx i) = fstV bs := by
  cases bs with
  | nil => simp at hi
  | cons b r =>
    cases i with
    | zero => omega
    | succ i => rfl
theorem fstV_first {bs : List Nat} (h : 1 < bs.length) : fstV (bs.eraseIdx 0) = .pointer (some ⟨nxt bs 0, 0, none⟩) := by
  match bs, h with
  | b :: c :: r, _ =>
    have e : nxt (b :: c :: r) 0 = c := by unfold nxt nI; simp
    rw [e]
    rfl
set_option maxRecDepth 100000 in
set_option maxHeartbeats 4000000 in
theorem kremove_at {B p pm sm : Nat} {bs : List Nat} {l : List (ByteArray × Bool)} (i q : Nat) {w : World} (h : CL0 B p pm sm bs l w) (hq : bs[i]? = some q) :
    Calls Try.prog 44 #[.pointer (some ⟨p, 0, none⟩), .pointer (some ⟨q, 0, none⟩)] w fun e w' => e = .returned (.tuple #[]) ∧ Krem p pm sm bs l i w w' := by
  have hi := (List.getElem?_eq_some_iff.1 hq).1
  have hql : q ∈ bs := List.mem_of_getElem? hq
  have hqp : q ≠ p := fun e => h.p_bs (by rw [← e]; exact hql)
  obtain ⟨a, ha⟩ : ∃ a, a = prv bs i := ⟨_, rfl⟩
  obtain ⟨c, hc⟩ : ∃ c, c = nxt bs i := ⟨_, rfl⟩
  have l1 : nI bs.length i < bs.length := by unfold nI; split <;> omega
  have l2 : pI bs.length i < bs.length := by unfold pI; split <;> omega
  have ham : a ∈ bs := by rw [ha]; exact getD_mem l2
  have hcm : c ∈ bs := by rw [hc]; exact getD_mem l1
  have hap : a ≠ p := fun e => h.p_bs (by rw [← e]; exact ham)
  have hcp : c ≠ p := fun e => h.p_bs (by rw [← e]; exact hcm)
  have hall : ∀ j, j < bs.length → ∃ v a c, Nd 79 (bs.getD j 0) v a c w := fun j hj => by
    have := h.ring.node j (bs.getD j 0) _ (by rw [List.getD_eq_getElem?_getD, List.getElem?_eq_getElem hj]; rfl) (List.getElem?_eq_getElem (by rw [h.ring.len]; exact hj))
    exact ⟨_, _, _, this⟩
  obtain ⟨va, aa, ca, na⟩ := hall _ l2
  obtain ⟨vc, ac, cc, nc⟩ := hall _ l1
  have na : Nd 79 a va aa ca w := by rw [ha]; exact na
  have nc : Nd 79 c vc ac cc w := by rw [hc]; exact nc
  have nq : ∃ v, Nd 79 q v a c w := by
    have := h.ring.node i q _ hq (List.getElem?_eq_getElem (by rw [h.ring.len]; exact hi))
    rw [← ha, ← hc] at this
    exact ⟨_, this⟩
  obtain ⟨vq, nq⟩ := nq
  have hr := h.ring.out h.nd i hi
  rw [← ha, ← hc] at hr
  obtain ⟨w1, hw1⟩ : ∃ w1, w1 = (w.setCell ⟨a, 2, none⟩ (.pointer (some ⟨c, 0, none⟩))).setCell ⟨c, 1, none⟩ (.pointer (some ⟨a, 0, none⟩)) := ⟨_, rfl⟩
  have nq1 : ∃ a', Nd 79 q vq a' c w1 := by
    have := (nq.behind a c).ahead c a
    rw [← hw1] at this
    have e : (if q = a then c else c) = c := by split <;> rfl
    rw [e] at this
    exact ⟨_, this⟩
  obtain ⟨aq, nq1⟩ := nq1
  have st1 : St 56 p #[.map (some pm), .map (some sm), fstV bs] w1 := by rw [hw1]; exact (h.st.other a 2 _ hap).other c 1 _ hcp
  have f1 : Frm (fun j => j = p ∨ j ∈ bs) w w1 := by
    rw [hw1]
    exact ((Frm.refl _ w).setCell (p := ⟨a, 2, none⟩) (.inl (.inr ham)) _).setCell (p := ⟨c, 1, none⟩) (.inl (.inr hcm)) _
  rw [← hw1] at hr
  have hst1 : ∀ j, j < bs.length → ∃ cs, St 79 (bs.getD j 0) cs w1 := fun j hj => by
    obtain ⟨v, a', c', hn⟩ := hall j hj
    have := (hn.behind a c).ahead c a
    rw [← hw1] at this
    exact ⟨_, this⟩
  have hsq : ∃ cs, St 79 q cs w1 := ⟨_, nq1⟩
  have hsc : ∃ cs, St 79 c cs w1 := by rw [hc]; exact hst1 _ l1
  have hsf : ∃ cs, St 79 (bs.getD 0 0) cs w1 := hst1 0 (by omega)
  have hfst : fstV bs = .pointer (some ⟨bs.getD 0 0, 0, none⟩) := fstV_at (by omega)
  have e0 : q = bs.getD i 0 := (getD_at bs i q hq).symm
  have i1 : c = q ↔ bs.length = 1 := by
    rw [hc, e0]
    unfold nxt
    rw [getD_inj h.nd l1 hi]
    unfold nI
    split <;> omega
  have i2 : q = bs.getD 0 0 ↔ i = 0 := by rw [e0]; exact getD_inj h.nd hi (by omega)
  obtain ⟨f, hf⟩ : ∃ f, f = bs.getD 0 0 := ⟨_, rfl⟩
  rw [← hf] at hfst i2 hsf
  have c1 : w.cell? ⟨q, 1, none⟩ = some (.pointer (some ⟨a, 0, none⟩)) := St.cell nq rfl
  have c2 : w.cell? ⟨q, 2, none⟩ = some (.pointer (some ⟨c, 0, none⟩)) := St.cell nq rfl
  have k1 : w.cell? ⟨a, 2, none⟩ = some (.pointer (some ⟨ca, 0, none⟩)) := St.cell na rfl
  have k2 : w.cell? ⟨c, 1, none⟩ = some (.pointer (some ⟨ac, 0, none⟩)) := St.cell nc rfl
  have z1 : w.frozen? ⟨a, 2, none⟩ = false := St.free na 2
  have z2 : w.frozen? ⟨c, 1, none⟩ = false := St.free nc 1
  have D1 : w1.cell? ⟨q, 2, none⟩ = some (.pointer (some ⟨c, 0, none⟩)) := St.cell nq1 rfl
  have D2 : w1.cell? ⟨p, 2, none⟩ = some (.pointer (some ⟨f, 0, none⟩)) := by rw [← hfst]; exact st1.cell rfl
  have D3 : w1.frozen? ⟨p, 2, none⟩ = false := st1.free 2
  have HS := Lib.hid (And.intro st1 (And.intro hr f1))
  have HQ := Lib.hid (And.intro hsq (And.intro hsc hsf))
  have PB := Lib.hid h.p_bs
  have CC := Lib.hid hc
  have I1 := Lib.hid i1
  have I2 := Lib.hid i2
  have HI := Lib.hid hi
  clear h hql ha hc ham hcm hall na nc nq nq1 st1 f1 hr hqp e0 hq i1 i2 hf hfst hi l1 l2 hst1 hsq hsc hsf
  have HW := Lib.hid hw1
  clear hw1
  go_enter Try.func44, Try.ntmps44
  go_wp2_with fail
  go_region
  rw [← HW.out]
  have E1 : w1.drew.cell? ⟨q, 2, none⟩ = some (.pointer (some ⟨c, 0, none⟩)) := D1
  have E2 : w1.drew.cell? ⟨p, 2, none⟩ = some (.pointer (some ⟨f, 0, none⟩)) := D2
  have E3 : w1.drew.frozen? ⟨p, 2, none⟩ = false := D3
  have HS2 := Lib.hid (show St 56 p #[.map (some pm), .map (some sm), fstV bs] w1.drew ∧ Rng 79 (bs.eraseIdx i) (((keys l).map Value.string).eraseIdx i) w1.drew ∧ Frm (fun j => j = p ∨ j ∈ bs) w w1.drew from ⟨HS.out.1, HS.out.2.1.frm (F := fun _ => False) ((Frm.refl _ w1).drew) fun _ _ => id, HS.out.2.2.drew⟩)
  have HQ2 := Lib.hid (show (∃ cs, St 79 q cs w1.drew) ∧ (∃ cs, St 79 c cs w1.drew) ∧ ∃ cs, St 79 f cs w1.drew from HQ.out)
  generalize w1.drew = W at E1 E2 E3 HS2 HQ2 ⊢
  clear D1 D2 D3 HS HW c1 c2 k1 k2 z1 z2 HQ
  by_cases hcq : c = q
  · subst hcq
    have HE := Lib.hid (show Krem p pm sm bs l i w (W.setCell ⟨p, 2, none⟩ (.pointer none)) from by
      have hn := I1.out.1 rfl
      have hi := HI.out
      have e : bs.eraseIdx i = [] := List.length_eq_zero_iff.1 (by rw [List.length_eraseIdx_of_lt hi, hn])
      have hfr : Frm (fun j => j = p) W (W.setCell ⟨p, 2, none⟩ (.pointer none)) := (Frm.refl (fun j => j = p) W).setCell (p := ⟨p, 2, none⟩) (.inl rfl) _
      exact ⟨by rw [e]; exact HS2.out.1.set 2 _, HS2.out.2.1.frm hfr (fun b hb => by rw [e] at hb; simp at hb), HS2.out.2.2.next (hfr.wide fun j e => .inl e)⟩)
    have hsame := Try.ptrSame c W
    clear HS2 I1 I2 HI HQ2
    go_wp2
    go_end0
    exact ⟨rfl, HE.out⟩
  · have hoth := Try.ptrOther hcq HQ2.out.2.1 HQ2.out.1
    have hn1 : bs.length ≠ 1 := fun e => hcq (I1.out.2 e)
    by_cases hqf : q = f
    · subst hqf
      have HE := Lib.hid (show Krem p pm sm bs l i w (W.setCell ⟨p, 2, none⟩ (.pointer (some ⟨c, 0, none⟩))) from by
        have hi := HI.out
        have hi0 := I2.out.1 rfl
        have hpb := PB.out
        have hfr : Frm (fun j => j = p) W (W.setCell ⟨p, 2, none⟩ (.pointer (some ⟨c, 0, none⟩))) := (Frm.refl (fun j => j = p) W).setCell (p := ⟨p, 2, none⟩) (.inl rfl) _
        refine ⟨?_, HS2.out.2.1.frm hfr (fun b hb e => hpb (by rw [← e]; exact List.mem_of_mem_eraseIdx hb)), HS2.out.2.2.next (hfr.wide fun j e => .inl e)⟩
        have e : fstV (bs.eraseIdx i) = .pointer (some ⟨c, 0, none⟩) := by
          rw [hi0, fstV_first (by omega), CC.out, hi0]
        rw [e]
        exact HS2.out.1.set 2 _)
      have hsame := Try.ptrSame q W
      clear HS2 I1 I2 HI HQ2 hn1
      go_wp2
      go_end0
      exact ⟨rfl, HE.out⟩
    · have HE := Lib.hid (show Krem p pm sm bs l i w W from by
        have hi := HI.out
        have hi0 : i ≠ 0 := fun e => hqf (I2.out.2 e)
        exact ⟨by rw [fstV_erase (by omega) hi]; exact HS2.out.1, HS2.out.2.1, HS2.out.2.2⟩)
      have hoth2 := Try.ptrOther hqf HQ2.out.1 HQ2.out.2.2
      clear HS2 I1 I2 HI HQ2 hn1
      go_wp2
      go_end0
      exact ⟨rfl, HE.out⟩
end Go.Proofs.Ytokchikihacalaa
