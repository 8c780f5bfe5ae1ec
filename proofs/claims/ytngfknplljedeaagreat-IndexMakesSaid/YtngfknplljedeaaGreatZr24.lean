/- Lemmas for the laws of index. -/
import Derived.Test.YtngfknplljedeaaGreatZr18
namespace Go.Proofs.YtngfknplljedeaaGreat
section
variable {α : Type}
theorem tw_all {p : α → Bool} : ∀ {xs : List α}, (∀ y ∈ xs, p y = true) → xs.takeWhile p = xs ∧ xs.dropWhile p = []
 | [], _ => ⟨rfl, rfl⟩
 | y :: xs, h => by
  have h1 := h y List.mem_cons_self
  obtain ⟨h2, h3⟩ := tw_all (xs := xs) fun z hz => h z (List.mem_cons_of_mem _ hz)
  rw [List.takeWhile_cons, List.dropWhile_cons, if_pos h1, if_pos h1, h2, h3]
  exact ⟨rfl, rfl⟩
theorem putIn_end {ge keep : α → Bool} {x : α} {xs : List α} (h : ∀ y ∈ xs, ge y = false ∧ keep y = true) : putIn ge keep x xs = xs ++ [x] := by
 rw [putIn_eq]
 obtain ⟨h1, h2⟩ := tw_all (p := fun y => !ge y) (xs := xs) fun y hy => by rw [(h y hy).1]; rfl
 rw [h1, h2, List.filter_eq_self.2 (fun y hy => (h y hy).2)]
 rfl
theorem pairs_take {R : α → α → Prop} {xs : List α} (h : xs.Pairwise R) {i : Nat} {x : α} (hx : xs[i]? = some x) : ∀ y ∈ xs.take i, R y x := by
 intro y hy
 have hs := List.take_append_drop i xs
 rw [← hs, List.pairwise_append] at h
 refine h.2.2 y hy x ?_
 have : (xs.drop i)[0]? = some x := by rw [List.getElem?_drop, Nat.add_zero, hx]
 exact List.mem_of_getElem? this
theorem fnd_none {p : α → Bool} {xs : List α} (h : ∀ x ∈ xs, p x = false) : fnd p xs < 0 := by
 rcases fnd_cases p xs with ⟨h1, _⟩ | ⟨i, x, _, h2, h3, _⟩
 · rw [h1]; decide
 · rw [h x (List.mem_of_getElem? h2)] at h3; cases h3
theorem stage_all (mk : List α → CA) (ch : α → Ch) (xs : List α) (h : ∀ i x, xs[i]? = some x → (mk (xs.take i)).apply (ch x) = (mk (xs.take i ++ [x]), true)) : ∀ i, i ≤ xs.length → (mk []).allFrom ((xs.take i).map ch) = (mk (xs.take i), true) := by
 intro i
 induction i with
 | zero => intro _; rw [List.take_zero]; rfl
 | succ i ih =>
  intro hi
  have hx : xs[i]? = some xs[i] := List.getElem?_eq_getElem (by omega)
  rw [take_one xs i _ hx, List.map_append, List.map_singleton, CA.allFrom_one (ih (by omega)), h i _ hx]
  rfl
end
end Go.Proofs.YtngfknplljedeaaGreat
namespace Go.Proofs.YtngfknplljedeaaGreat
theorem CA.apply_hold (c : CA) (x : Hd) (hok : x.ch.ok = true) (n1 : fnd (pHeld x.epoch x.serial) c.helds < 0) (n2 : fnd (pIssued x.up) c.helds < 0) :
 c.apply x.ch = (⟨putIn (fun y => !ltHd y x) (fun _ => true) x c.helds, c.files, c.names, c.blocks⟩, true) := by
 unfold CA.apply
 refine (if_neg (by rw [hok]; decide)).trans ((if_pos rfl).trans (if_neg ?_))
 rintro (e | e)
 · exact absurd (show 0 ≤ fnd (pHeld x.epoch x.serial) c.helds from e) (by omega)
 · exact absurd (show 0 ≤ fnd (pIssued x.up) c.helds from e) (by omega)
theorem CA.apply_block (c : CA) (x : Bk) (hok : x.ch.ok = true) (hf : ¬ fnd (pFile x.up) c.files < 0) (ht : ∀ y ∈ c.blocks, y.slot ≠ x.slot) : c.apply x.ch = (⟨c.helds, c.files, c.names, putIn (fun y => !ltBk y x) (fun y => !(decide (y.up = x.up) && decide (y.no = x.no))) x c.blocks⟩, true) := by
 unfold CA.apply
 refine (if_neg (by rw [hok]; decide)).trans ((if_neg (not_int (a := 8) rfl)).trans ((if_neg (not_int (a := 8) rfl)).trans ((if_neg (not_int (a := 8) rfl)).trans ((if_pos rfl).trans (if_neg ?_)))))
 rintro (g | g)
 · exact hf g
 · obtain ⟨y, hy, hp⟩ := List.any_eq_true.1 g
   simp only [tkn, Bool.and_eq_true, decide_eq_true_eq] at hp
   exact ht y hy hp.1
theorem CA.stage1 {c : CA} (h : c.Ok) : (CA.mk [] [] [] []).allFrom (c.helds.map Hd.ch) = (CA.mk c.helds [] [] [], true) := by
 have := stage_all (fun l => CA.mk l [] [] []) Hd.ch c.helds (fun i x hx => by
  have hok : x.ch.ok = true := h.chs _ (CA.mem_changes.2 (.inl ⟨x, List.mem_of_getElem? hx, rfl⟩))
  have l1 := pairs_take h.helds hx
  have l2 := pairs_take h.ups hx
  have n1 : fnd (pHeld x.epoch x.serial) (c.helds.take i) < 0 := fnd_none fun y hy => by
   have e := l1 y hy
   simp only [ltHd, Bool.or_eq_true, Bool.and_eq_true, decide_eq_true_eq] at e
   unfold pHeld
   rw [Bool.and_eq_false_iff, decide_eq_false_iff_not, decide_eq_false_iff_not]
   omega
  have n2 : fnd (pIssued x.up) (c.helds.take i) < 0 := fnd_none fun y hy => decide_eq_false (l2 y hy)
  rw [CA.apply_hold _ x hok n1 n2]
  rw [putIn_end (fun y hy => ⟨by rw [l1 y hy]; rfl, rfl⟩)]) c.helds.length (Nat.le_refl _)
 rwa [List.take_length] at this
theorem CA.stage2 {c : CA} (h : c.Ok) : (CA.mk c.helds [] [] []).allFrom (c.files.map Cd.ch) = (CA.mk c.helds c.files [] [], true) := by
 have := stage_all (fun l => CA.mk c.helds l [] []) Cd.ch c.files (fun i x hx => by
  have hok : x.ch.ok = true := h.chs _ (CA.mem_changes.2 (.inr (.inl ⟨x, List.mem_of_getElem? hx, rfl⟩)))
  have l1 := pairs_take h.files hx
  rw [CA.apply_file _ x hok]
  rw [putIn_end (fun y hy => by
   have e := l1 y hy
   have ne : ¬ y.up = x.up := fun g => by rw [g, slt_irr] at e; cases e
   exact ⟨by rw [e]; rfl, by rw [decide_eq_false ne]; rfl⟩)]) c.files.length (Nat.le_refl _)
 rwa [List.take_length] at this
theorem CA.stage3 {c : CA} (h : c.Ok) : (CA.mk c.helds c.files [] []).allFrom (c.names.map Kn.ch) = (CA.mk c.helds c.files c.names [], true) := by
 have := stage_all (fun l => CA.mk c.helds c.files l []) Kn.ch c.names (fun i x hx => by
  have hok : x.ch.ok = true := h.chs _ (CA.mem_changes.2 (.inr (.inr (.inl ⟨x, List.mem_of_getElem? hx, rfl⟩))))
  have l1 := pairs_take h.names hx
  rw [CA.apply_name ⟨c.helds, c.files, c.names.take i, []⟩ x hok (fnd_file (h.dirs x (List.mem_of_getElem? hx)))]
  rw [putIn_end (fun y hy => by
   have e := l1 y hy
   refine ⟨by rw [e]; rfl, ?_⟩
   have ne : ¬ (y.dir = x.dir ∧ y.name = x.name) := by
    rintro ⟨g1, g2⟩
    simp [ltKn, g1, g2, slt_irr] at e
   rw [Bool.not_eq_true', Bool.and_eq_false_iff]
   by_cases g1 : y.dir = x.dir
   · exact .inr (decide_eq_false fun g2 => ne ⟨g1, g2⟩)
   · exact .inl (decide_eq_false g1))]) c.names.length (Nat.le_refl _)
 rwa [List.take_length] at this
theorem CA.stage4 {c : CA} (h : c.Ok) : (CA.mk c.helds c.files c.names []).allFrom (c.blocks.map Bk.ch) = (c, true) := by
 have := stage_all (fun l => CA.mk c.helds c.files c.names l) Bk.ch c.blocks (fun i x hx => by
  have hok : x.ch.ok = true := h.chs _ (CA.mem_changes.2 (.inr (.inr (.inr ⟨x, List.mem_of_getElem? hx, rfl⟩))))
  have l1 := pairs_take h.blocks hx
  have l2 := pairs_take h.slots hx
  rw [CA.apply_block ⟨c.helds, c.files, c.names, c.blocks.take i⟩ x hok (fnd_file (h.ofs x (List.mem_of_getElem? hx))) l2]
  rw [putIn_end (fun y hy => by
   have e := l1 y hy
   refine ⟨by rw [e]; rfl, ?_⟩
   have ne : ¬ (y.up = x.up ∧ y.no = x.no) := by
    rintro ⟨g1, g2⟩
    simp [ltBk, g1, g2, slt_irr] at e
   rw [Bool.not_eq_true', Bool.and_eq_false_iff]
   by_cases g1 : y.up = x.up
   · exact .inr (decide_eq_false fun g2 => ne ⟨g1, g2⟩)
   · exact .inl (decide_eq_false g1))]) c.blocks.length (Nat.le_refl _)
 rwa [List.take_length] at this
theorem CA.Ok.remade {c : CA} (h : c.Ok) : CA.none.allFrom c.changes = (c, true) := by
 have s1 := CA.stage1 h
 have s2 := CA.stage2 h
 have s3 := CA.stage3 h
 have s4 := CA.stage4 h
 unfold CA.changes CA.none
 rw [CA.allFrom_append _ _ _ (by rw [CA.allFrom_append _ _ _ (by rw [CA.allFrom_append _ _ _ (by rw [s1]), s1, s2]), CA.allFrom_append _ _ _ (by rw [s1]), s1, s2, s3]),
  CA.allFrom_append _ _ _ (by rw [CA.allFrom_append _ _ _ (by rw [s1]), s1, s2]), CA.allFrom_append _ _ _ (by rw [s1]), s1, s2, s3, s4]
theorem CA.Ok.all_made {c : CA} (h : c.Ok) : CA.none.all c.changes = (c, true) := by
 unfold CA.all
 rw [h.remade]
 rfl
end Go.Proofs.YtngfknplljedeaaGreat
