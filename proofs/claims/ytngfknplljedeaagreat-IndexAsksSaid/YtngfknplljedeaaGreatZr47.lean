/- Lemmas for the laws of index. -/
import Derived.Shelf.Spec.SlicesInsert
import Derived.Test.YtngfknplljedeaaGreatZr32
import Derived.Test.YtngfknplljedeaaGreatZr39
import Derived.Test.YtngfknplljedeaaGreatZrTk
import Derived.Test.YtngfknplljedeaaGreatZrHi
namespace Go.Proofs.YtngfknplljedeaaGreat
open Go.RowKit
theorem St.shape {T : TypeId} {j : Nat} {c : Array Value} {w : World} (h : St T j c w) : w.shape? j = some (T, c.size) := by
 unfold St at h
 simp [World.shape?, h]
end Go.Proofs.YtngfknplljedeaaGreat
namespace Go.Proofs.YtngfknplljedeaaGreat
open Go.RowKit
section
variable {β : Type}
theorem shift_splice (A D rest X : List β) (k : Nat) (hX : X.length = k) (hr : k ≤ rest.length) : splice (splice (A ++ (D ++ rest)) (A.length + k) D) A.length X = A ++ (X ++ (D ++ rest.drop k)) := by
 have e1 : D ++ rest = (D ++ rest).take k ++ (((D ++ rest).drop k).take D.length ++ rest.drop k) := by
  conv => lhs; rw [← List.take_append_drop k (D ++ rest), ← List.take_append_drop D.length ((D ++ rest).drop k)]
  rw [List.drop_drop, show k + D.length = D.length + k from Nat.add_comm _ _, List.drop_append]
  simp
 have l1 : ((D ++ rest).take k).length = k := by rw [List.length_take, List.length_append]; omega
 have l2 : (((D ++ rest).drop k).take D.length).length = D.length := by rw [List.length_take, List.length_drop, List.length_append]; omega
 generalize (D ++ rest).take k = E1 at e1 l1
 generalize ((D ++ rest).drop k).take D.length = E2 at e1 l2
 rw [e1, ← List.append_assoc A E1, ← l1, show A.length + E1.length = (A ++ E1).length from by simp, splice_at _ _ _ _ l2, List.append_assoc, splice_at _ _ _ _ (by rw [hX, l1])]
theorem grow_splice (A Z1 Z2 X D : List β) (hZ : Z1.length = X.length + D.length) : splice (splice (A ++ (Z1 ++ Z2)) A.length X) (A.length + X.length) D = A ++ (X ++ (D ++ Z2)) := by
 have e1 : Z1 = Z1.take X.length ++ Z1.drop X.length := (List.take_append_drop _ _).symm
 have l1 : (Z1.take X.length).length = X.length := by rw [List.length_take]; omega
 have l2 : (Z1.drop X.length).length = D.length := by rw [List.length_drop]; omega
 generalize Z1.take X.length = E1 at e1 l1
 generalize Z1.drop X.length = E2 at e1 l2
 rw [e1, List.append_assoc E1, splice_at _ _ _ _ l1, ← List.append_assoc A X, show A.length + X.length = (A ++ X).length from by simp, splice_at _ _ _ _ l2, List.append_assoc]
end
end Go.Proofs.YtngfknplljedeaaGreat
namespace Go.Proofs.YtngfknplljedeaaGreat
open Go.RowKit
section
variable {α : Type} {T : TypeId} {f : α → List Value} {k : Nat}
theorem flat_ins (xs : List α) (x : α) (i : Nat) (rest : List Value) : (xs.take i).flatMap f ++ (f x ++ ((xs.drop i).flatMap f ++ rest)) = (xs.take i ++ x :: xs.drop i).flatMap f ++ rest := by
 rw [List.flatMap_append, List.flatMap_cons]
 simp
theorem flat_cut (xs : List α) (i : Nat) (rest : List Value) : xs.flatMap f ++ rest = (xs.take i).flatMap f ++ ((xs.drop i).flatMap f ++ rest) := by
 rw [← List.append_assoc, ← List.flatMap_append, List.take_append_drop]
theorem flat_take_len (hf : ∀ x, (f x).length = k) {xs : List α} {i : Nat} (hi : i ≤ xs.length) : ((xs.take i).flatMap f).length = i * k := by rw [flat_length hf, List.length_take]; congr 1; omega
theorem flat_drop_len (hf : ∀ x, (f x).length = k) {xs : List α} {i : Nat} : ((xs.drop i).flatMap f).length = (xs.length - i) * k := by rw [flat_length hf, List.length_drop]
theorem ins_len {xs : List α} {x : α} {i : Nat} (hi : i ≤ xs.length) : (xs.take i ++ x :: xs.drop i).length = xs.length + 1 := by
 rw [List.length_append, List.length_cons, List.length_take, List.length_drop]
 omega
theorem Row.shift {g : Nat} {w : World} (hf : ∀ x, (f x).length = k) {xs : List α} {rest : List Value} (h : Row T f g xs rest w) {i : Nat} (hi : i ≤ xs.length) (x : α) (hr : k ≤ rest.length) :
 Row T f g (xs.take i ++ x :: xs.drop i) (rest.drop k) ((w.setCells g ((i + 1) * k) ((xs.drop i).flatMap f)).setCells g (i * k) (f x)) := by
 have hA := flat_take_len hf hi
 have hD := flat_drop_len (i := i) hf (xs := xs)
 have e0 : i * k + k + (xs.length - i) * k = xs.length * k + k := by
  rw [Nat.add_right_comm, ← Nat.add_mul, show i + (xs.length - i) = xs.length from by omega]
 unfold Row at h ⊢
 have hl0 : (xs.flatMap f ++ rest).length = xs.length * k + rest.length := by rw [List.length_append, flat_length hf]
 rw [← flat_ins, ← shift_splice _ _ _ _ k (hf x) hr, ← flat_cut, hA, Nat.succ_mul]
 have h1 := St.cells ((xs.drop i).flatMap f) (i * k + k) _ w h (by rw [hD, hl0]; omega)
 refine St.cells (f x) (i * k) _ _ h1 ?_
 rw [length_splice _ _ _ (by rw [hD, hl0]; omega), hl0, hf]
 have := Nat.mul_le_mul_right k hi
 omega
theorem Row.grew {g : Nat} {w : World} (hf : ∀ x, (f x).length = k) {xs : List α} {Z1 Z2 : List Value} {i : Nat} (hi : i ≤ xs.length) (h : St T g ((xs.take i).flatMap f ++ (Z1 ++ Z2)).toArray w) (hZ : Z1.length = (xs.length + 1 - i) * k) (x : α) :
 Row T f g (xs.take i ++ x :: xs.drop i) Z2 ((w.setCells g (i * k) (f x)).setCells g ((i + 1) * k) ((xs.drop i).flatMap f)) := by
 have hA := flat_take_len hf hi
 have hD := flat_drop_len (i := i) hf (xs := xs)
 have hZ2 : Z1.length = k + (xs.length - i) * k := by rw [hZ, show xs.length + 1 - i = (xs.length - i) + 1 from by omega, Nat.succ_mul, Nat.add_comm]
 unfold Row
 have hg := grow_splice ((xs.take i).flatMap f) Z1 Z2 (f x) ((xs.drop i).flatMap f) (by rw [hf, hD]; exact hZ2)
 rw [← flat_ins, ← hg, hA, hf, Nat.succ_mul]
 have hl0 : ((xs.take i).flatMap f ++ (Z1 ++ Z2)).length = i * k + (k + (xs.length - i) * k + Z2.length) := by rw [List.length_append, List.length_append, hA, hZ2]
 have h1 := St.cells (f x) (i * k) _ w h (by rw [hl0, hf]; omega)
 refine St.cells _ (i * k + k) _ _ h1 ?_
 rw [length_splice _ _ _ (by rw [hl0, hf]; omega), hl0, hD]
 omega
end
end Go.Proofs.YtngfknplljedeaaGreat
namespace Go.Proofs.YtngfknplljedeaaGreat
open Go.RowKit
set_option maxRecDepth 100000 in
set_option maxHeartbeats 2000000 in
theorem sxInsHeld_room {B : Nat} (b cap vb i : Nat) (xs : List Hd) (x : Hd) (rest : List Value) (w : World) (hrow : Row 49 Hd.vs b xs rest w) (hv : St 49 vb x.vs.toArray w) (hvb : vb ≠ b) (hi : i < xs.length) (hcap : xs.length + 1 ≤ cap) (hc : xs.length * 3 + rest.length = cap * 3) (hm2 : cap ≤ maxLen) (hB : B ≤ b) :
 Calls Tryz.prog 175 #[.slice (some ⟨b, 0, none⟩) xs.length cap, .int .i64 i, .slice (some ⟨vb, 0, none⟩) 1 1] w fun e w' => ∃ v', e = .returned v' ∧ OwnAt 49 3 Hd.vs B v' (xs.take i ++ x :: xs.drop i) w' ∧ Frm (fun j => j = b) w w' := by
 have hr : 3 ≤ rest.length := by
  have := Nat.mul_le_mul_right 3 hcap
  omega
 have h1f := Hd.flat_one (xs.drop i)
 have hsz : (Tryz.prog.info? 49).map (·.size) = some 3 := by kernel_rfl
 have hD := flat_drop_len (i := i) Hd.vs_length (xs := xs)
 have hov : ∀ lb cb, (callFunc 202 #[.slice (some ⟨vb, 0, none⟩) 1 1, .slice (some ⟨b, (i + 1) * 3, none⟩) lb cb]).run Tryz.prog w = .ok (.value (.bool false)) w := fun lb cb => by
  rw [run_callFunc_extern Tryz.func202 (by kernel_rfl) (by kernel_rfl) (by kernel_rfl) (e := Extern.SlicesOverlaps.overlaps #[22, 22] #[4]) (by kernel_rfl),
   Lib.run_overlaps_apart w 22 4 49 Tryz.underlying22 3 Tryz.sizeOf49 ⟨vb, 0, none⟩ ⟨b, (i + 1) * 3, none⟩ 1 1 lb cb hvb 49 49 _ _ (hv.shape) (St.shape hrow) (by rw [List.size_toArray, List.length_append, flat_length Hd.vs_length]; omega) (hv.free _) (hv.free _)]
  rfl
 have hcp1 : ∀ ty dc sc, (Builtin.copy_ #[22, 22] ty #[.slice (some ⟨b, (i + 1) * 3, none⟩) (xs.length - i) dc, .slice (some ⟨b, i * 3, none⟩) (xs.length + 1 - i) sc]).run Tryz.prog w.drew = .ok (goInt (Nat.min (xs.length + 1 - i) (xs.length - i))) (w.drew.setCells b ((i + 1) * 3) ((xs.drop i).flatMap Hd.vs)) := fun ty dc sc =>
  run_copy_k w.drew _ _ ty 49 b ((i + 1) * 3) (xs.length - i) dc ⟨b, i * 3, none⟩ (xs.length + 1 - i) sc 3 ((xs.drop i).flatMap Hd.vs) Tryz.underlying22 hsz (by rw [hD]; congr 1; simp only [Nat.min_def]; split <;> omega)
   (fun j u hj => by
    rw [Addr.add_mid]
    refine St.cell (T := 49) hrow ?_
    rw [List.getElem?_toArray, flat_cut xs i, List.getElem?_append_right (by rw [flat_take_len Hd.vs_length (by omega)]; omega), flat_take_len Hd.vs_length (by omega), Nat.add_sub_cancel_left, List.getElem?_append_left (List.getElem?_eq_some_iff.1 hj).1]
    exact hj)
   (fun j hj => by
    have hlt : (i + 1) * 3 + j < (xs.flatMap Hd.vs ++ rest).length := by
     rw [List.length_append, flat_length Hd.vs_length]
     rw [hD] at hj
     omega
    exact ⟨by rw [St.cell (T := 49) (w := w.drew) hrow (j := (i + 1) * 3 + j) (by rw [List.getElem?_toArray, List.getElem?_eq_getElem hlt])]; rfl, St.free (T := 49) (w := w.drew) hrow _⟩) h1f
 obtain ⟨W1, hW1⟩ : ∃ W1, W1 = w.drew.setCells b ((i + 1) * 3) ((xs.drop i).flatMap Hd.vs) := ⟨_, rfl⟩
 rw [← hW1] at hcp1
 have F1 : Frm (fun j => j = b) w W1 := by rw [hW1]; exact Frm.cells' (F := fun j => j = b) (g := b) (.inl rfl) _ _ _ (Frm.refl _ w).drew
 have hv1 : St 49 vb x.vs.toArray W1 := hv.frm F1 hvb
 have hend : Row 49 Hd.vs b (xs.take i ++ x :: xs.drop i) (rest.drop 3) (W1.setCells b (i * 3) x.vs) := by rw [hW1]; exact Row.shift (w := w.drew) Hd.vs_length hrow (by omega) x hr
 have hth : W1.there b (i * 3) 3 := by
  intro j hj
  have hl0 : (xs.flatMap Hd.vs ++ rest).length = xs.length * 3 + rest.length := by rw [List.length_append, flat_length Hd.vs_length]
  have h2 : St 49 b (splice (xs.flatMap Hd.vs ++ rest) ((i + 1) * 3) ((xs.drop i).flatMap Hd.vs)).toArray W1 := by
   rw [hW1]
   exact St.cells _ _ _ _ (show St _ _ _ w.drew from hrow) (by rw [hD, hl0]; omega)
  have hlt : i * 3 + j < (splice (xs.flatMap Hd.vs ++ rest) ((i + 1) * 3) ((xs.drop i).flatMap Hd.vs)).length := by
   rw [length_splice _ _ _ (by rw [hD, hl0]; omega), hl0]
   omega
  exact ⟨by rw [h2.cell (j := i * 3 + j) (by rw [List.getElem?_toArray, List.getElem?_eq_getElem hlt])]; rfl, h2.free _⟩
 have hcp2 : ∀ (W : World), (∀ a, W.cell? a = W1.cell? a) → (∀ a, W.frozen? a = W1.frozen? a) → ∀ ty dc, (Builtin.copy_ #[22, 22] ty #[.slice (some ⟨b, i * 3, none⟩) (xs.length + 1 - i) dc, .slice (some ⟨vb, 0, none⟩) 1 1]).run Tryz.prog W = .ok (goInt (Nat.min 1 (xs.length + 1 - i))) (W.setCells b (i * 3) x.vs) := fun W hWc hWf ty dc =>
  run_copy_k W _ _ ty 49 b (i * 3) (xs.length + 1 - i) dc ⟨vb, 0, none⟩ 1 1 3 x.vs Tryz.underlying22 hsz (by rw [Hd.vs_length]; simp only [Nat.min_def]; split <;> omega)
   (fun j u hj => by rw [Addr.add_mid, Nat.zero_add, hWc]; exact hv1.cell (by rw [List.getElem?_toArray]; exact hj))
   (fun j hj => by rw [hWc, hWf]; exact hth j hj) (Hd.one x)
 have F2 : Frm (fun j => j = b) w (W1.setCells b (i * 3) x.vs) := Frm.cells' (F := fun j => j = b) (g := b) (.inl rfl) _ _ _ F1
 have HE := hI (show OwnAt 49 3 Hd.vs B (.slice (some ⟨b, 0, none⟩) (xs.length + 1) cap) (xs.take i ++ x :: xs.drop i) (W1.setCells b (i * 3) x.vs) ∧ Frm (fun j => j = b) w (W1.setCells b (i * 3) x.vs) from ⟨by
  have := hend.own Hd.vs_length (B := B) (cap := cap) hB (by rw [ins_len (by omega), List.length_drop]; omega) (by rw [ins_len (by omega)]; omega) hm2
  rw [ins_len (by omega)] at this
  exact this, F2⟩)
 obtain ⟨n, hn⟩ : ∃ n, n = xs.length := ⟨_, rfl⟩
 rw [← hn] at hcp1 hcp2 hi hcap HE ⊢
 have HL := hI hn
 have hm3 : cap ≤ 9223372036854775807 := hm2
 clear hrow hv hc hB hm2 hr hD hth hend F1 F2 hv1 hW1 h1f hn
 have hz2 : ¬ ((i : Int) = (n : Int)) := by omega
 have hb0 : (i : Int) ≤ (n : Int) := by omega
 have hb1 : ¬ ((cap : Int) < (n : Int) + 1) := by omega
 have hb2 : (n : Int) + 1 ≤ (cap : Int) := by omega
 have hb3 : ¬ (cap = i + 1) := by omega
 have hb4 : ¬ (cap = i) := by omega
 have hb5 : ((n : Int) + 1).toNat = n + 1 := by omega
 have hb6 : ((i : Int) + 1).toNat = i + 1 := by omega
 have hb7 : IntKind.i64.wrap ((n : Int) + 1) = (n : Int) + 1 := by rw [IntKind.wrap_i64]; omega
 have hb8 : IntKind.i64.wrap ((i : Int) + 1) = (i : Int) + 1 := by rw [IntKind.wrap_i64]; omega
 have hb9 : (0 : Int) ≤ (i : Int) + 1 := by omega
 have hb10 : (0 : Int) ≤ (n : Int) + 1 := by omega
 have hb11 : (i : Int) + 1 ≤ (n : Int) + 1 := by omega
 have hb12 : (i : Int) ≤ (n : Int) + 1 := by omega
 go_enter Tryz.func175, Tryz.ntmps175
 go_wp2_with (simp only [hov])
 go_region_law (refine step_copy_runI rfl _ _ 22 22 rfl _ _ (by simp [Act.eval, Act.put]) (by simp [Act.eval, Act.put]) (hcp1 _ _ _) ?_)
 go_wp2_with (at_builtin; refine wpList_copy_runI _ rfl _ _ 22 22 rfl _ _ rfl rfl (hcp2 _ (fun _ => rfl) (fun _ => rfl) _ _) ?_)
 go_ret
 exact ⟨_, rfl, HE.out⟩
set_option maxRecDepth 100000 in
set_option maxHeartbeats 2000000 in
theorem sxInsHeld_end {B : Nat} (v : Value) (vb : Nat) (xs : List Hd) (x : Hd) (w : World) (h : OwnAt 49 3 Hd.vs B v xs w) (hB : B ≤ w.heap.size) (hv : St 49 vb x.vs.toArray w) (hm : xs.length ≤ 1073741823) :
 Calls Tryz.prog 175 #[v, .int .i64 xs.length, .slice (some ⟨vb, 0, none⟩) 1 1] w fun e w' => ∃ v', e = .returned v' ∧ OwnAt 49 3 Hd.vs B v' (xs ++ [x]) w' ∧ Frm (fun j => v.ownBlock = some j) w w' := by
 obtain ⟨iz, hiz, hz0, hz1, hz2⟩ := info_parts Tryz.infoHd
 obtain ⟨n, hn⟩ : ∃ n, n = xs.length := ⟨_, rfl⟩
 have HO := hI (h.row hn)
 rw [← hn] at hm ⊢
 have HN := hI hn
 have HV := hI (show ∀ j u, x.vs[j]? = some u → w.cell? ((⟨vb, 0, none⟩ : Addr).add j) = some u from fun j u hu => by rw [Addr.add_mid, Nat.zero_add]; exact hv.cell (by rw [List.getElem?_toArray]; exact hu))
 rcases h.open with ⟨rfl, rfl⟩ | ⟨b, cap, rest, rfl, hB2, hl, hm2, hc, hrow⟩
 · have h0 : n = 0 := hn
   have HX0 := hI h0
   clear h hn hv
   subst h0
   go_enter Tryz.func175, Tryz.ntmps175
   go_wp2_with (at_builtin; refine wpList_append_own _ rfl _ _ 22 rfl B 49 iz (.agg #[.int .i64 0, .int .i64 0, .string ⟨#[]⟩]) 3 32 Tryz.underlying22 hiz hz0 hz1 hz2 rfl (by decide) _ 0 _ rfl HO.out ⟨vb, 0, none⟩ 1 1 x.vs rfl rfl HV.out (Hd.one x) (by unfold maxLen; omega) (by omega) hB ?_; intro v9 w9 h9 g9 _; have R9 := hI h9; have G9 := hI g9; clear h9 g9)
   go_returns
   exact ⟨_, rfl, OwnAt.more HN.out R9.out, (Frm.refl _ w).grown G9.out fun k hk => by cases hk⟩
 · rw [← hn] at hl hc HO
   rw [show (Value.slice (some ⟨b, 0, none⟩) xs.length cap) = Value.slice (some ⟨b, 0, none⟩) n cap from by rw [HN.out]]
   have hm3 : cap ≤ 9223372036854775807 := hm2
   clear h hn hv hrow hm2 hc
   by_cases he : cap = n
   · go_enter Tryz.func175, Tryz.ntmps175
     go_wp2_with (at_builtin; refine wpList_append_own _ rfl _ _ 22 rfl B 49 iz (.agg #[.int .i64 0, .int .i64 0, .string ⟨#[]⟩]) 3 32 Tryz.underlying22 hiz hz0 hz1 hz2 rfl (by decide) _ n _ rfl HO.out ⟨vb, 0, none⟩ 1 1 x.vs rfl rfl HV.out (Hd.one x) (by unfold maxLen; omega) (by omega) hB ?_; intro v9 w9 h9 g9 _; have R9 := hI h9; have G9 := hI g9; clear h9 g9)
     all_goals go_returns
     all_goals exact ⟨_, rfl, OwnAt.more HN.out R9.out, (Frm.refl _ w).grown G9.out fun k hk => .inl hk⟩
   · go_enter Tryz.func175, Tryz.ntmps175
     go_wp2_with (at_builtin; refine wpList_append_own _ rfl _ _ 22 rfl B 49 iz (.agg #[.int .i64 0, .int .i64 0, .string ⟨#[]⟩]) 3 32 Tryz.underlying22 hiz hz0 hz1 hz2 rfl (by decide) _ n _ rfl HO.out ⟨vb, 0, none⟩ 1 1 x.vs rfl rfl HV.out (Hd.one x) (by unfold maxLen; omega) (by omega) hB ?_; intro v9 w9 h9 g9 _; have R9 := hI h9; have G9 := hI g9; clear h9 g9)
     all_goals go_returns
     all_goals exact ⟨_, rfl, OwnAt.more HN.out R9.out, (Frm.refl _ w).grown G9.out fun k hk => .inl hk⟩
set_option maxRecDepth 100000 in
set_option maxHeartbeats 2000000 in
theorem sxInsHeld_grow {B : Nat} (b vb i : Nat) (xs : List Hd) (x : Hd) (rest : List Value) (w : World) (hrow : Row 49 Hd.vs b xs rest w) (hv : St 49 vb x.vs.toArray w) (hi : i < xs.length) (hm : xs.length ≤ 1073741823) (hB : B ≤ w.heap.size) :
 Calls Tryz.prog 175 #[.slice (some ⟨b, 0, none⟩) xs.length xs.length, .int .i64 i, .slice (some ⟨vb, 0, none⟩) 1 1] w fun e w' => ∃ v', e = .returned v' ∧ OwnAt 49 3 Hd.vs B v' (xs.take i ++ x :: xs.drop i) w' ∧ Frm (fun _ => False) w w' := by
 obtain ⟨iz, hiz, hz0, hz1, hz2⟩ := info_parts Tryz.infoHd
 have hbw := St.lt hrow
 have hvw := hv.lt
 have hsz : (Tryz.prog.info? 49).map (·.size) = some 3 := by kernel_rfl
 have hD := flat_drop_len (i := i) Hd.vs_length (xs := xs)
 have hA := flat_take_len Hd.vs_length (xs := xs) (i := i) (by omega)
 obtain ⟨n, hn⟩ : ∃ n, n = xs.length := ⟨_, rfl⟩
 have hold : (Builtin.firstCells iz.size i (.slice (some ⟨b, 0, none⟩) i n)).run Tryz.prog w.drew = .ok ((xs.take i).flatMap Hd.vs).toArray w.drew := by
  rw [hz1]
  exact run_firstCells_some w.drew 3 i ⟨b, 0, none⟩ i n _ hA (fun j u hj => by
   rw [Addr.add_mid, Nat.zero_add]
   refine St.cell (T := 49) (w := w.drew) hrow ?_
   rw [List.getElem?_toArray, flat_cut xs i, List.getElem?_append_left (List.getElem?_eq_some_iff.1 hj).1]
   exact hj)
 have hrz : ∀ ty, (Builtin.append_ #[22, 3] ty #[.slice (some ⟨b, 0, none⟩) i n, .int .i64 ((n : Int) + 1 - (i : Int))]).run Tryz.prog w = .ok (.slice (some ⟨w.heap.size, 0, none⟩) (n + 1) (grownCap w (n + 1) n 49)) (w.drew.alloc (.cells (((xs.take i).flatMap Hd.vs).toArray ++ Builtin.zeroCells (.agg #[.int .i64 0, .int .i64 0, .string ⟨#[]⟩] : Value).cells (n + 1 - i) ++ Builtin.zeroCells (.agg #[.int .i64 0, .int .i64 0, .string ⟨#[]⟩] : Value).cells (grownCap w (n + 1) n 49 - (n + 1))) 49)) := fun ty => by
  have h := Lib.run_append_grow_zeros w 22 3 ty 49 iz (.agg #[.int .i64 0, .int .i64 0, .string ⟨#[]⟩]) .i64 .i64 Tryz.underlying22 Tryz.underlying3 hiz hz0 (some ⟨b, 0, none⟩) i n _ hold (n + 1 - i) (by omega) (by omega) (by omega) (by omega) (by rw [hz2]; omega) (by rw [hz2, show i + (n + 1 - i) = n + 1 from by omega]; exact growslice_fits (by omega) (by omega))
  rw [show i + (n + 1 - i) = n + 1 from by omega] at h
  rw [show (n : Int) + 1 - (i : Int) = ((n + 1 - i : Nat) : Int) from by omega]
  exact h
 obtain ⟨G, hG⟩ : ∃ G, G = grownCap w (n + 1) n 49 := ⟨_, rfl⟩
 obtain ⟨Z1, hZ1⟩ : ∃ Z1, Z1 = (Builtin.zeroCells (.agg #[.int .i64 0, .int .i64 0, .string ⟨#[]⟩] : Value).cells (n + 1 - i)).toList := ⟨_, rfl⟩
 obtain ⟨Z2, hZ2⟩ : ∃ Z2, Z2 = (Builtin.zeroCells (.agg #[.int .i64 0, .int .i64 0, .string ⟨#[]⟩] : Value).cells (G - (n + 1))).toList := ⟨_, rfl⟩
 have lZ1 : Z1.length = (xs.length + 1 - i) * 3 := by rw [hZ1, Array.length_toList, zeroCells_size, hn]; rfl
 have lZ2 : Z2.length = (G - (n + 1)) * 3 := by rw [hZ2, Array.length_toList, zeroCells_size]; rfl
 obtain ⟨ROW, hROW⟩ : ∃ ROW : Array Value, ROW = ((xs.take i).flatMap Hd.vs).toArray ++ Builtin.zeroCells (.agg #[.int .i64 0, .int .i64 0, .string ⟨#[]⟩] : Value).cells (n + 1 - i) ++ Builtin.zeroCells (.agg #[.int .i64 0, .int .i64 0, .string ⟨#[]⟩] : Value).cells (G - (n + 1)) := ⟨_, rfl⟩
 have hROW2 : ROW = ((xs.take i).flatMap Hd.vs ++ (Z1 ++ Z2)).toArray := by
  rw [hROW, hZ1, hZ2]
  apply Array.toList_inj.1
  simp
 rw [← hG] at hrz
 rw [← hROW] at hrz
 have hGn : n + 1 ≤ G := by rw [hG]; exact grownCap_ge w _ _ _
 have hGm : G ≤ maxLen := by rw [hG]; exact grownCap_le_maxLen w _ _ _ (by unfold maxLen; omega)
 obtain ⟨W1, hW1⟩ : ∃ W1, W1 = w.drew.alloc (.cells ROW 49) := ⟨_, rfl⟩
 have F1 : Frm (fun _ => False) w W1 := by rw [hW1]; exact ((Frm.refl _ w).drew).alloc _
 have S1 : St 49 w.heap.size ((xs.take i).flatMap Hd.vs ++ (Z1 ++ Z2)).toArray W1 := by rw [hW1, ← hROW2]; exact St.new w.drew _ _
 have hv1 : St 49 vb x.vs.toArray W1 := hv.frm F1 id
 have hr1 : Row 49 Hd.vs b xs rest W1 := hrow.frm F1 id
 have hl0 : ((xs.take i).flatMap Hd.vs ++ (Z1 ++ Z2)).length = i * 3 + ((xs.length + 1 - i) * 3 + Z2.length) := by rw [List.length_append, List.length_append, hA, lZ1]
 obtain ⟨W2, hW2⟩ : ∃ W2, W2 = W1.setCells w.heap.size (i * 3) x.vs := ⟨_, rfl⟩
 have hcpA : ∀ ty dc, (Builtin.copy_ #[22, 22] ty #[.slice (some ⟨w.heap.size, i * 3, none⟩) (n + 1 - i) dc, .slice (some ⟨vb, 0, none⟩) 1 1]).run Tryz.prog W1 = .ok (goInt (Nat.min 1 (n + 1 - i))) W2 := fun ty dc => by
  rw [hW2]
  exact run_copy_k W1 _ _ ty 49 w.heap.size (i * 3) (n + 1 - i) dc ⟨vb, 0, none⟩ 1 1 3 x.vs Tryz.underlying22 hsz (by rw [Hd.vs_length]; simp only [Nat.min_def]; split <;> omega)
   (fun j u hj => by rw [Addr.add_mid, Nat.zero_add]; exact hv1.cell (by rw [List.getElem?_toArray]; exact hj))
   (fun j hj => by
    rw [Hd.vs_length] at hj
    have hlt : i * 3 + j < ((xs.take i).flatMap Hd.vs ++ (Z1 ++ Z2)).length := by rw [hl0]; omega
    exact ⟨by rw [S1.cell (j := i * 3 + j) (by rw [List.getElem?_toArray, List.getElem?_eq_getElem hlt])]; rfl, S1.free _⟩) (Hd.one x)
 have S2 : St 49 w.heap.size (splice ((xs.take i).flatMap Hd.vs ++ (Z1 ++ Z2)) (i * 3) x.vs).toArray W2 := by rw [hW2]; exact St.cells _ _ _ _ S1 (by rw [hl0, Hd.vs_length]; omega)
 have F2 : Frm (fun _ => False) w W2 := by rw [hW2]; exact Frm.cells' (.inr (Nat.le_refl _)) _ _ _ F1
 have hr2 : Row 49 Hd.vs b xs rest W2 := hrow.frm F2 id
 obtain ⟨W3, hW3⟩ : ∃ W3, W3 = W2.drew.setCells w.heap.size ((i + 1) * 3) ((xs.drop i).flatMap Hd.vs) := ⟨_, rfl⟩
 have hcpB : ∀ ty dc sc, (Builtin.copy_ #[22, 22] ty #[.slice (some ⟨w.heap.size, (i + 1) * 3, none⟩) (n - i) dc, .slice (some ⟨b, i * 3, none⟩) (n - i) sc]).run Tryz.prog W2.drew = .ok (goInt (Nat.min (n - i) (n - i))) W3 := fun ty dc sc => by
  rw [hW3]
  exact run_copy_k W2.drew _ _ ty 49 w.heap.size ((i + 1) * 3) (n - i) dc ⟨b, i * 3, none⟩ (n - i) sc 3 ((xs.drop i).flatMap Hd.vs) Tryz.underlying22 hsz (by rw [hD, hn]; congr 1; simp only [Nat.min_def]; split <;> omega)
   (fun j u hj => by
    rw [Addr.add_mid]
    refine St.cell (T := 49) (w := W2.drew) hr2 ?_
    rw [List.getElem?_toArray, flat_cut xs i, List.getElem?_append_right (by rw [hA]; omega), hA, Nat.add_sub_cancel_left, List.getElem?_append_left (List.getElem?_eq_some_iff.1 hj).1]
    exact hj)
   (fun j hj => by
    rw [hD] at hj
    have hlt : (i + 1) * 3 + j < (splice ((xs.take i).flatMap Hd.vs ++ (Z1 ++ Z2)) (i * 3) x.vs).length := by rw [length_splice _ _ _ (by rw [hl0, Hd.vs_length]; omega), hl0]; omega
    exact ⟨by rw [St.cell (T := 49) (w := W2.drew) S2 (j := (i + 1) * 3 + j) (by rw [List.getElem?_toArray, List.getElem?_eq_getElem hlt])]; rfl, St.free (T := 49) (w := W2.drew) S2 _⟩) (Hd.flat_one (xs.drop i))
 have hend : Row 49 Hd.vs w.heap.size (xs.take i ++ x :: xs.drop i) Z2 W3 := by
  have h3 := Row.grew (T := 49) (w := W1.drew) Hd.vs_length (by omega) S1 lZ1 x
  rw [hW3, hW2, drew_setCells]
  exact h3
 have F3 : Frm (fun _ => False) w W3 := by rw [hW3]; exact Frm.cells' (.inr (Nat.le_refl _)) _ _ _ F2.drew
 have hown := hend.own Hd.vs_length (B := B) (cap := G) hB (by rw [ins_len (by omega), lZ2, hn, ← Nat.add_mul]; congr 1; rw [hn] at hGn; omega) (by rw [ins_len (by omega), ← hn]; exact hGn) hGm
 rw [ins_len (by omega), ← hn] at hown
 have HOW := hI hown
 have HF3 := hI F3
 have hw1' : w.drew.alloc (.cells ROW 49) = W1 := hW1.symm
 rw [← hn] at hi hm ⊢
 rw [hw1'] at hrz
 have hG63 : G ≤ 9223372036854775807 := hGm
 clear hrow hv hB hD hA hold hZ1 hZ2 lZ1 lZ2 hROW hROW2 hG hGm F1 S1 hv1 hr1 hl0 S2 F2 hr2 hend F3 hown hn hsz hw1' hW1 hW2 hW3
 have hz2 : ¬ ((i : Int) = (n : Int)) := by omega
 have hb0 : (i : Int) ≤ (n : Int) := by omega
 have hb2 : ¬ (G = i) := by omega
 have hb3 : ¬ (G = i + 1) := by omega
 have hb4 : ¬ (n = i) := by omega
 have hb8 : IntKind.i64.wrap ((i : Int) + 1) = (i : Int) + 1 := by rw [IntKind.wrap_i64]; omega
 have hb9 : (0 : Int) ≤ (i : Int) + 1 := by omega
 have hb11 : (i : Int) + 1 ≤ (n : Int) + 1 := by omega
 have hb12 : (i : Int) ≤ (n : Int) + 1 := by omega
 have hb6 : ((i : Int) + 1).toNat = i + 1 := by omega
 go_enter Tryz.func175, Tryz.ntmps175
 go_wp2_with (first
  | (at_builtin; refine Lib.wpList_append_run _ rfl _ _ _ _ rfl _ _ rfl rfl _ _ (hrz _) ?_)
  | (at_builtin; refine wpList_copy_runI _ rfl _ _ 22 22 rfl _ _ rfl rfl (hcpA _ _) ?_))
 go_region_law (refine step_copy_runI rfl _ _ 22 22 rfl _ _ (by simp [Act.eval, Act.put]) (by simp [Act.eval, Act.put]) (hcpB _ _ _) ?_)
 go_wp2
 go_ret
 exact ⟨_, rfl, HOW.out, HF3.out⟩
theorem sxInsHeld_any {B : Nat} (v : Value) (vb i : Nat) (xs : List Hd) (x : Hd) (w : World) (h : OwnAt 49 3 Hd.vs B v xs w) (hB : B ≤ w.heap.size) (hv : St 49 vb x.vs.toArray w) (hvb : ¬ v.ownBlock = some vb) (hm : xs.length ≤ 1073741823) (hi : i ≤ xs.length) :
 Calls Tryz.prog 175 #[v, .int .i64 i, .slice (some ⟨vb, 0, none⟩) 1 1] w fun e w' => ∃ v', e = .returned v' ∧ OwnAt 49 3 Hd.vs B v' (xs.take i ++ x :: xs.drop i) w' ∧ Frm (fun j => v.ownBlock = some j) w w' := by
 by_cases he : i = xs.length
 · subst he
   rw [List.take_length, List.drop_length]
   exact sxInsHeld_end v vb xs x w h hB hv hm
 · rcases h.open with ⟨rfl, rfl⟩ | ⟨b, cap, rest, rfl, hB2, hl, hm2, hc, hrow⟩
   · exact absurd (by simpa using hi) he
   · by_cases hcap : cap = xs.length
     · subst hcap
       exact (sxInsHeld_grow b vb i xs x rest w hrow hv (by omega) hm hB).mono fun e w' ⟨v', h1, h2, h3⟩ => ⟨v', h1, h2, h3.wide fun _ e => e.elim⟩
     · exact (sxInsHeld_room b cap vb i xs x rest w hrow hv (fun e => hvb (by rw [e]; rfl)) (by omega) (by omega) hc hm2 hB2).mono fun e w' ⟨v', h1, h2, h3⟩ => ⟨v', h1, h2, h3.wide fun j e => by show Value.ownBlock _ = some j; rw [e]; rfl⟩
set_option maxRecDepth 100000 in
set_option maxHeartbeats 2000000 in
theorem sxInsCached_room {B : Nat} (b cap vb i : Nat) (xs : List Cd) (x : Cd) (rest : List Value) (w : World) (hrow : Row 57 Cd.vs b xs rest w) (hv : St 57 vb x.vs.toArray w) (hvb : vb ≠ b) (hi : i < xs.length) (hcap : xs.length + 1 ≤ cap) (hc : xs.length * 11 + rest.length = cap * 11) (hm2 : cap ≤ maxLen) (hB : B ≤ b) :
 Calls Tryz.prog 150 #[.slice (some ⟨b, 0, none⟩) xs.length cap, .int .i64 i, .slice (some ⟨vb, 0, none⟩) 1 1] w fun e w' => ∃ v', e = .returned v' ∧ OwnAt 57 11 Cd.vs B v' (xs.take i ++ x :: xs.drop i) w' ∧ Frm (fun j => j = b) w w' := by
 have hr : 11 ≤ rest.length := by
  have := Nat.mul_le_mul_right 11 hcap
  omega
 have h1f := Cd.flat_one (xs.drop i)
 have hsz : (Tryz.prog.info? 57).map (·.size) = some 11 := by kernel_rfl
 have hD := flat_drop_len (i := i) Cd.vs_length (xs := xs)
 have hov : ∀ lb cb, (callFunc 176 #[.slice (some ⟨vb, 0, none⟩) 1 1, .slice (some ⟨b, (i + 1) * 11, none⟩) lb cb]).run Tryz.prog w = .ok (.value (.bool false)) w := fun lb cb => by
  rw [run_callFunc_extern Tryz.func176 (by kernel_rfl) (by kernel_rfl) (by kernel_rfl) (e := Extern.SlicesOverlaps.overlaps #[23, 23] #[4]) (by kernel_rfl),
   Lib.run_overlaps_apart w 23 4 57 Tryz.underlying23 11 Tryz.sizeOf57 ⟨vb, 0, none⟩ ⟨b, (i + 1) * 11, none⟩ 1 1 lb cb hvb 57 57 _ _ (hv.shape) (St.shape hrow) (by rw [List.size_toArray, List.length_append, flat_length Cd.vs_length]; omega) (hv.free _) (hv.free _)]
  rfl
 have hcp1 : ∀ ty dc sc, (Builtin.copy_ #[23, 23] ty #[.slice (some ⟨b, (i + 1) * 11, none⟩) (xs.length - i) dc, .slice (some ⟨b, i * 11, none⟩) (xs.length + 1 - i) sc]).run Tryz.prog w.drew = .ok (goInt (Nat.min (xs.length + 1 - i) (xs.length - i))) (w.drew.setCells b ((i + 1) * 11) ((xs.drop i).flatMap Cd.vs)) := fun ty dc sc =>
  run_copy_k w.drew _ _ ty 57 b ((i + 1) * 11) (xs.length - i) dc ⟨b, i * 11, none⟩ (xs.length + 1 - i) sc 11 ((xs.drop i).flatMap Cd.vs) Tryz.underlying23 hsz (by rw [hD]; congr 1; simp only [Nat.min_def]; split <;> omega)
   (fun j u hj => by
    rw [Addr.add_mid]
    refine St.cell (T := 57) hrow ?_
    rw [List.getElem?_toArray, flat_cut xs i, List.getElem?_append_right (by rw [flat_take_len Cd.vs_length (by omega)]; omega), flat_take_len Cd.vs_length (by omega), Nat.add_sub_cancel_left, List.getElem?_append_left (List.getElem?_eq_some_iff.1 hj).1]
    exact hj)
   (fun j hj => by
    have hlt : (i + 1) * 11 + j < (xs.flatMap Cd.vs ++ rest).length := by
     rw [List.length_append, flat_length Cd.vs_length]
     rw [hD] at hj
     omega
    exact ⟨by rw [St.cell (T := 57) (w := w.drew) hrow (j := (i + 1) * 11 + j) (by rw [List.getElem?_toArray, List.getElem?_eq_getElem hlt])]; rfl, St.free (T := 57) (w := w.drew) hrow _⟩) h1f
 obtain ⟨W1, hW1⟩ : ∃ W1, W1 = w.drew.setCells b ((i + 1) * 11) ((xs.drop i).flatMap Cd.vs) := ⟨_, rfl⟩
 rw [← hW1] at hcp1
 have F1 : Frm (fun j => j = b) w W1 := by rw [hW1]; exact Frm.cells' (F := fun j => j = b) (g := b) (.inl rfl) _ _ _ (Frm.refl _ w).drew
 have hv1 : St 57 vb x.vs.toArray W1 := hv.frm F1 hvb
 have hend : Row 57 Cd.vs b (xs.take i ++ x :: xs.drop i) (rest.drop 11) (W1.setCells b (i * 11) x.vs) := by rw [hW1]; exact Row.shift (w := w.drew) Cd.vs_length hrow (by omega) x hr
 have hth : W1.there b (i * 11) 11 := by
  intro j hj
  have hl0 : (xs.flatMap Cd.vs ++ rest).length = xs.length * 11 + rest.length := by rw [List.length_append, flat_length Cd.vs_length]
  have h2 : St 57 b (splice (xs.flatMap Cd.vs ++ rest) ((i + 1) * 11) ((xs.drop i).flatMap Cd.vs)).toArray W1 := by
   rw [hW1]
   exact St.cells _ _ _ _ (show St _ _ _ w.drew from hrow) (by rw [hD, hl0]; omega)
  have hlt : i * 11 + j < (splice (xs.flatMap Cd.vs ++ rest) ((i + 1) * 11) ((xs.drop i).flatMap Cd.vs)).length := by
   rw [length_splice _ _ _ (by rw [hD, hl0]; omega), hl0]
   omega
  exact ⟨by rw [h2.cell (j := i * 11 + j) (by rw [List.getElem?_toArray, List.getElem?_eq_getElem hlt])]; rfl, h2.free _⟩
 have hcp2 : ∀ (W : World), (∀ a, W.cell? a = W1.cell? a) → (∀ a, W.frozen? a = W1.frozen? a) → ∀ ty dc, (Builtin.copy_ #[23, 23] ty #[.slice (some ⟨b, i * 11, none⟩) (xs.length + 1 - i) dc, .slice (some ⟨vb, 0, none⟩) 1 1]).run Tryz.prog W = .ok (goInt (Nat.min 1 (xs.length + 1 - i))) (W.setCells b (i * 11) x.vs) := fun W hWc hWf ty dc =>
  run_copy_k W _ _ ty 57 b (i * 11) (xs.length + 1 - i) dc ⟨vb, 0, none⟩ 1 1 11 x.vs Tryz.underlying23 hsz (by rw [Cd.vs_length]; simp only [Nat.min_def]; split <;> omega)
   (fun j u hj => by rw [Addr.add_mid, Nat.zero_add, hWc]; exact hv1.cell (by rw [List.getElem?_toArray]; exact hj))
   (fun j hj => by rw [hWc, hWf]; exact hth j hj) (Cd.one x)
 have F2 : Frm (fun j => j = b) w (W1.setCells b (i * 11) x.vs) := Frm.cells' (F := fun j => j = b) (g := b) (.inl rfl) _ _ _ F1
 have HE := hI (show OwnAt 57 11 Cd.vs B (.slice (some ⟨b, 0, none⟩) (xs.length + 1) cap) (xs.take i ++ x :: xs.drop i) (W1.setCells b (i * 11) x.vs) ∧ Frm (fun j => j = b) w (W1.setCells b (i * 11) x.vs) from ⟨by
  have := hend.own Cd.vs_length (B := B) (cap := cap) hB (by rw [ins_len (by omega), List.length_drop]; omega) (by rw [ins_len (by omega)]; omega) hm2
  rw [ins_len (by omega)] at this
  exact this, F2⟩)
 obtain ⟨n, hn⟩ : ∃ n, n = xs.length := ⟨_, rfl⟩
 rw [← hn] at hcp1 hcp2 hi hcap HE ⊢
 have HL := hI hn
 have hm3 : cap ≤ 9223372036854775807 := hm2
 clear hrow hv hc hB hm2 hr hD hth hend F1 F2 hv1 hW1 h1f hn
 have hz2 : ¬ ((i : Int) = (n : Int)) := by omega
 have hb0 : (i : Int) ≤ (n : Int) := by omega
 have hb1 : ¬ ((cap : Int) < (n : Int) + 1) := by omega
 have hb2 : (n : Int) + 1 ≤ (cap : Int) := by omega
 have hb3 : ¬ (cap = i + 1) := by omega
 have hb4 : ¬ (cap = i) := by omega
 have hb5 : ((n : Int) + 1).toNat = n + 1 := by omega
 have hb6 : ((i : Int) + 1).toNat = i + 1 := by omega
 have hb7 : IntKind.i64.wrap ((n : Int) + 1) = (n : Int) + 1 := by rw [IntKind.wrap_i64]; omega
 have hb8 : IntKind.i64.wrap ((i : Int) + 1) = (i : Int) + 1 := by rw [IntKind.wrap_i64]; omega
 have hb9 : (0 : Int) ≤ (i : Int) + 1 := by omega
 have hb10 : (0 : Int) ≤ (n : Int) + 1 := by omega
 have hb11 : (i : Int) + 1 ≤ (n : Int) + 1 := by omega
 have hb12 : (i : Int) ≤ (n : Int) + 1 := by omega
 go_enter Tryz.func150, Tryz.ntmps150
 go_wp2_with (simp only [hov])
 go_region_law (refine step_copy_runI rfl _ _ 23 23 rfl _ _ (by simp [Act.eval, Act.put]) (by simp [Act.eval, Act.put]) (hcp1 _ _ _) ?_)
 go_wp2_with (at_builtin; refine wpList_copy_runI _ rfl _ _ 23 23 rfl _ _ rfl rfl (hcp2 _ (fun _ => rfl) (fun _ => rfl) _ _) ?_)
 go_ret
 exact ⟨_, rfl, HE.out⟩
set_option maxRecDepth 100000 in
set_option maxHeartbeats 2000000 in
theorem sxInsCached_end {B : Nat} (v : Value) (vb : Nat) (xs : List Cd) (x : Cd) (w : World) (h : OwnAt 57 11 Cd.vs B v xs w) (hB : B ≤ w.heap.size) (hv : St 57 vb x.vs.toArray w) (hm : xs.length ≤ 1073741823) :
 Calls Tryz.prog 150 #[v, .int .i64 xs.length, .slice (some ⟨vb, 0, none⟩) 1 1] w fun e w' => ∃ v', e = .returned v' ∧ OwnAt 57 11 Cd.vs B v' (xs ++ [x]) w' ∧ Frm (fun j => v.ownBlock = some j) w w' := by
 obtain ⟨iz, hiz, hz0, hz1, hz2⟩ := info_parts Tryz.infoCd
 obtain ⟨n, hn⟩ : ∃ n, n = xs.length := ⟨_, rfl⟩
 have HO := hI (h.row hn)
 rw [← hn] at hm ⊢
 have HN := hI hn
 have HV := hI (show ∀ j u, x.vs[j]? = some u → w.cell? ((⟨vb, 0, none⟩ : Addr).add j) = some u from fun j u hu => by rw [Addr.add_mid, Nat.zero_add]; exact hv.cell (by rw [List.getElem?_toArray]; exact hu))
 rcases h.open with ⟨rfl, rfl⟩ | ⟨b, cap, rest, rfl, hB2, hl, hm2, hc, hrow⟩
 · have h0 : n = 0 := hn
   have HX0 := hI h0
   clear h hn hv
   subst h0
   go_enter Tryz.func150, Tryz.ntmps150
   go_wp2_with (at_builtin; refine wpList_append_own _ rfl _ _ 23 rfl B 57 iz (.agg #[.string ⟨#[]⟩, .int .i64 0, .int .i64 0, .int .i64 0, .int .i64 0, .int .i64 0, .int .i64 0, .int .i64 0, .int .i64 0, .int .i64 0, .int .i64 0]) 11 96 Tryz.underlying23 hiz hz0 hz1 hz2 rfl (by decide) _ 0 _ rfl HO.out ⟨vb, 0, none⟩ 1 1 x.vs rfl rfl HV.out (Cd.one x) (by unfold maxLen; omega) (by omega) hB ?_; intro v9 w9 h9 g9 _; have R9 := hI h9; have G9 := hI g9; clear h9 g9)
   go_returns
   exact ⟨_, rfl, OwnAt.more HN.out R9.out, (Frm.refl _ w).grown G9.out fun k hk => by cases hk⟩
 · rw [← hn] at hl hc HO
   rw [show (Value.slice (some ⟨b, 0, none⟩) xs.length cap) = Value.slice (some ⟨b, 0, none⟩) n cap from by rw [HN.out]]
   have hm3 : cap ≤ 9223372036854775807 := hm2
   clear h hn hv hrow hm2 hc
   by_cases he : cap = n
   · go_enter Tryz.func150, Tryz.ntmps150
     go_wp2_with (at_builtin; refine wpList_append_own _ rfl _ _ 23 rfl B 57 iz (.agg #[.string ⟨#[]⟩, .int .i64 0, .int .i64 0, .int .i64 0, .int .i64 0, .int .i64 0, .int .i64 0, .int .i64 0, .int .i64 0, .int .i64 0, .int .i64 0]) 11 96 Tryz.underlying23 hiz hz0 hz1 hz2 rfl (by decide) _ n _ rfl HO.out ⟨vb, 0, none⟩ 1 1 x.vs rfl rfl HV.out (Cd.one x) (by unfold maxLen; omega) (by omega) hB ?_; intro v9 w9 h9 g9 _; have R9 := hI h9; have G9 := hI g9; clear h9 g9)
     all_goals go_returns
     all_goals exact ⟨_, rfl, OwnAt.more HN.out R9.out, (Frm.refl _ w).grown G9.out fun k hk => .inl hk⟩
   · go_enter Tryz.func150, Tryz.ntmps150
     go_wp2_with (at_builtin; refine wpList_append_own _ rfl _ _ 23 rfl B 57 iz (.agg #[.string ⟨#[]⟩, .int .i64 0, .int .i64 0, .int .i64 0, .int .i64 0, .int .i64 0, .int .i64 0, .int .i64 0, .int .i64 0, .int .i64 0, .int .i64 0]) 11 96 Tryz.underlying23 hiz hz0 hz1 hz2 rfl (by decide) _ n _ rfl HO.out ⟨vb, 0, none⟩ 1 1 x.vs rfl rfl HV.out (Cd.one x) (by unfold maxLen; omega) (by omega) hB ?_; intro v9 w9 h9 g9 _; have R9 := hI h9; have G9 := hI g9; clear h9 g9)
     all_goals go_returns
     all_goals exact ⟨_, rfl, OwnAt.more HN.out R9.out, (Frm.refl _ w).grown G9.out fun k hk => .inl hk⟩
set_option maxRecDepth 100000 in
set_option maxHeartbeats 2000000 in
theorem sxInsCached_grow {B : Nat} (b vb i : Nat) (xs : List Cd) (x : Cd) (rest : List Value) (w : World) (hrow : Row 57 Cd.vs b xs rest w) (hv : St 57 vb x.vs.toArray w) (hi : i < xs.length) (hm : xs.length ≤ 1073741823) (hB : B ≤ w.heap.size) :
 Calls Tryz.prog 150 #[.slice (some ⟨b, 0, none⟩) xs.length xs.length, .int .i64 i, .slice (some ⟨vb, 0, none⟩) 1 1] w fun e w' => ∃ v', e = .returned v' ∧ OwnAt 57 11 Cd.vs B v' (xs.take i ++ x :: xs.drop i) w' ∧ Frm (fun _ => False) w w' := by
 obtain ⟨iz, hiz, hz0, hz1, hz2⟩ := info_parts Tryz.infoCd
 have hbw := St.lt hrow
 have hvw := hv.lt
 have hsz : (Tryz.prog.info? 57).map (·.size) = some 11 := by kernel_rfl
 have hD := flat_drop_len (i := i) Cd.vs_length (xs := xs)
 have hA := flat_take_len Cd.vs_length (xs := xs) (i := i) (by omega)
 obtain ⟨n, hn⟩ : ∃ n, n = xs.length := ⟨_, rfl⟩
 have hold : (Builtin.firstCells iz.size i (.slice (some ⟨b, 0, none⟩) i n)).run Tryz.prog w.drew = .ok ((xs.take i).flatMap Cd.vs).toArray w.drew := by
  rw [hz1]
  exact run_firstCells_some w.drew 11 i ⟨b, 0, none⟩ i n _ hA (fun j u hj => by
   rw [Addr.add_mid, Nat.zero_add]
   refine St.cell (T := 57) (w := w.drew) hrow ?_
   rw [List.getElem?_toArray, flat_cut xs i, List.getElem?_append_left (List.getElem?_eq_some_iff.1 hj).1]
   exact hj)
 have hrz : ∀ ty, (Builtin.append_ #[23, 3] ty #[.slice (some ⟨b, 0, none⟩) i n, .int .i64 ((n : Int) + 1 - (i : Int))]).run Tryz.prog w = .ok (.slice (some ⟨w.heap.size, 0, none⟩) (n + 1) (grownCap w (n + 1) n 57)) (w.drew.alloc (.cells (((xs.take i).flatMap Cd.vs).toArray ++ Builtin.zeroCells (.agg #[.string ⟨#[]⟩, .int .i64 0, .int .i64 0, .int .i64 0, .int .i64 0, .int .i64 0, .int .i64 0, .int .i64 0, .int .i64 0, .int .i64 0, .int .i64 0] : Value).cells (n + 1 - i) ++ Builtin.zeroCells (.agg #[.string ⟨#[]⟩, .int .i64 0, .int .i64 0, .int .i64 0, .int .i64 0, .int .i64 0, .int .i64 0, .int .i64 0, .int .i64 0, .int .i64 0, .int .i64 0] : Value).cells (grownCap w (n + 1) n 57 - (n + 1))) 57)) := fun ty => by
  have h := Lib.run_append_grow_zeros w 23 3 ty 57 iz (.agg #[.string ⟨#[]⟩, .int .i64 0, .int .i64 0, .int .i64 0, .int .i64 0, .int .i64 0, .int .i64 0, .int .i64 0, .int .i64 0, .int .i64 0, .int .i64 0]) .i64 .i64 Tryz.underlying23 Tryz.underlying3 hiz hz0 (some ⟨b, 0, none⟩) i n _ hold (n + 1 - i) (by omega) (by omega) (by omega) (by omega) (by rw [hz2]; omega) (by rw [hz2, show i + (n + 1 - i) = n + 1 from by omega]; exact growslice_fits (by omega) (by omega))
  rw [show i + (n + 1 - i) = n + 1 from by omega] at h
  rw [show (n : Int) + 1 - (i : Int) = ((n + 1 - i : Nat) : Int) from by omega]
  exact h
 obtain ⟨G, hG⟩ : ∃ G, G = grownCap w (n + 1) n 57 := ⟨_, rfl⟩
 obtain ⟨Z1, hZ1⟩ : ∃ Z1, Z1 = (Builtin.zeroCells (.agg #[.string ⟨#[]⟩, .int .i64 0, .int .i64 0, .int .i64 0, .int .i64 0, .int .i64 0, .int .i64 0, .int .i64 0, .int .i64 0, .int .i64 0, .int .i64 0] : Value).cells (n + 1 - i)).toList := ⟨_, rfl⟩
 obtain ⟨Z2, hZ2⟩ : ∃ Z2, Z2 = (Builtin.zeroCells (.agg #[.string ⟨#[]⟩, .int .i64 0, .int .i64 0, .int .i64 0, .int .i64 0, .int .i64 0, .int .i64 0, .int .i64 0, .int .i64 0, .int .i64 0, .int .i64 0] : Value).cells (G - (n + 1))).toList := ⟨_, rfl⟩
 have lZ1 : Z1.length = (xs.length + 1 - i) * 11 := by rw [hZ1, Array.length_toList, zeroCells_size, hn]; rfl
 have lZ2 : Z2.length = (G - (n + 1)) * 11 := by rw [hZ2, Array.length_toList, zeroCells_size]; rfl
 obtain ⟨ROW, hROW⟩ : ∃ ROW : Array Value, ROW = ((xs.take i).flatMap Cd.vs).toArray ++ Builtin.zeroCells (.agg #[.string ⟨#[]⟩, .int .i64 0, .int .i64 0, .int .i64 0, .int .i64 0, .int .i64 0, .int .i64 0, .int .i64 0, .int .i64 0, .int .i64 0, .int .i64 0] : Value).cells (n + 1 - i) ++ Builtin.zeroCells (.agg #[.string ⟨#[]⟩, .int .i64 0, .int .i64 0, .int .i64 0, .int .i64 0, .int .i64 0, .int .i64 0, .int .i64 0, .int .i64 0, .int .i64 0, .int .i64 0] : Value).cells (G - (n + 1)) := ⟨_, rfl⟩
 have hROW2 : ROW = ((xs.take i).flatMap Cd.vs ++ (Z1 ++ Z2)).toArray := by
  rw [hROW, hZ1, hZ2]
  apply Array.toList_inj.1
  simp
 rw [← hG] at hrz
 rw [← hROW] at hrz
 have hGn : n + 1 ≤ G := by rw [hG]; exact grownCap_ge w _ _ _
 have hGm : G ≤ maxLen := by rw [hG]; exact grownCap_le_maxLen w _ _ _ (by unfold maxLen; omega)
 obtain ⟨W1, hW1⟩ : ∃ W1, W1 = w.drew.alloc (.cells ROW 57) := ⟨_, rfl⟩
 have F1 : Frm (fun _ => False) w W1 := by rw [hW1]; exact ((Frm.refl _ w).drew).alloc _
 have S1 : St 57 w.heap.size ((xs.take i).flatMap Cd.vs ++ (Z1 ++ Z2)).toArray W1 := by rw [hW1, ← hROW2]; exact St.new w.drew _ _
 have hv1 : St 57 vb x.vs.toArray W1 := hv.frm F1 id
 have hr1 : Row 57 Cd.vs b xs rest W1 := hrow.frm F1 id
 have hl0 : ((xs.take i).flatMap Cd.vs ++ (Z1 ++ Z2)).length = i * 11 + ((xs.length + 1 - i) * 11 + Z2.length) := by rw [List.length_append, List.length_append, hA, lZ1]
 obtain ⟨W2, hW2⟩ : ∃ W2, W2 = W1.setCells w.heap.size (i * 11) x.vs := ⟨_, rfl⟩
 have hcpA : ∀ ty dc, (Builtin.copy_ #[23, 23] ty #[.slice (some ⟨w.heap.size, i * 11, none⟩) (n + 1 - i) dc, .slice (some ⟨vb, 0, none⟩) 1 1]).run Tryz.prog W1 = .ok (goInt (Nat.min 1 (n + 1 - i))) W2 := fun ty dc => by
  rw [hW2]
  exact run_copy_k W1 _ _ ty 57 w.heap.size (i * 11) (n + 1 - i) dc ⟨vb, 0, none⟩ 1 1 11 x.vs Tryz.underlying23 hsz (by rw [Cd.vs_length]; simp only [Nat.min_def]; split <;> omega)
   (fun j u hj => by rw [Addr.add_mid, Nat.zero_add]; exact hv1.cell (by rw [List.getElem?_toArray]; exact hj))
   (fun j hj => by
    rw [Cd.vs_length] at hj
    have hlt : i * 11 + j < ((xs.take i).flatMap Cd.vs ++ (Z1 ++ Z2)).length := by rw [hl0]; omega
    exact ⟨by rw [S1.cell (j := i * 11 + j) (by rw [List.getElem?_toArray, List.getElem?_eq_getElem hlt])]; rfl, S1.free _⟩) (Cd.one x)
 have S2 : St 57 w.heap.size (splice ((xs.take i).flatMap Cd.vs ++ (Z1 ++ Z2)) (i * 11) x.vs).toArray W2 := by rw [hW2]; exact St.cells _ _ _ _ S1 (by rw [hl0, Cd.vs_length]; omega)
 have F2 : Frm (fun _ => False) w W2 := by rw [hW2]; exact Frm.cells' (.inr (Nat.le_refl _)) _ _ _ F1
 have hr2 : Row 57 Cd.vs b xs rest W2 := hrow.frm F2 id
 obtain ⟨W3, hW3⟩ : ∃ W3, W3 = W2.drew.setCells w.heap.size ((i + 1) * 11) ((xs.drop i).flatMap Cd.vs) := ⟨_, rfl⟩
 have hcpB : ∀ ty dc sc, (Builtin.copy_ #[23, 23] ty #[.slice (some ⟨w.heap.size, (i + 1) * 11, none⟩) (n - i) dc, .slice (some ⟨b, i * 11, none⟩) (n - i) sc]).run Tryz.prog W2.drew = .ok (goInt (Nat.min (n - i) (n - i))) W3 := fun ty dc sc => by
  rw [hW3]
  exact run_copy_k W2.drew _ _ ty 57 w.heap.size ((i + 1) * 11) (n - i) dc ⟨b, i * 11, none⟩ (n - i) sc 11 ((xs.drop i).flatMap Cd.vs) Tryz.underlying23 hsz (by rw [hD, hn]; congr 1; simp only [Nat.min_def]; split <;> omega)
   (fun j u hj => by
    rw [Addr.add_mid]
    refine St.cell (T := 57) (w := W2.drew) hr2 ?_
    rw [List.getElem?_toArray, flat_cut xs i, List.getElem?_append_right (by rw [hA]; omega), hA, Nat.add_sub_cancel_left, List.getElem?_append_left (List.getElem?_eq_some_iff.1 hj).1]
    exact hj)
   (fun j hj => by
    rw [hD] at hj
    have hlt : (i + 1) * 11 + j < (splice ((xs.take i).flatMap Cd.vs ++ (Z1 ++ Z2)) (i * 11) x.vs).length := by rw [length_splice _ _ _ (by rw [hl0, Cd.vs_length]; omega), hl0]; omega
    exact ⟨by rw [St.cell (T := 57) (w := W2.drew) S2 (j := (i + 1) * 11 + j) (by rw [List.getElem?_toArray, List.getElem?_eq_getElem hlt])]; rfl, St.free (T := 57) (w := W2.drew) S2 _⟩) (Cd.flat_one (xs.drop i))
 have hend : Row 57 Cd.vs w.heap.size (xs.take i ++ x :: xs.drop i) Z2 W3 := by
  have h3 := Row.grew (T := 57) (w := W1.drew) Cd.vs_length (by omega) S1 lZ1 x
  rw [hW3, hW2, drew_setCells]
  exact h3
 have F3 : Frm (fun _ => False) w W3 := by rw [hW3]; exact Frm.cells' (.inr (Nat.le_refl _)) _ _ _ F2.drew
 have hown := hend.own Cd.vs_length (B := B) (cap := G) hB (by rw [ins_len (by omega), lZ2, hn, ← Nat.add_mul]; congr 1; rw [hn] at hGn; omega) (by rw [ins_len (by omega), ← hn]; exact hGn) hGm
 rw [ins_len (by omega), ← hn] at hown
 have HOW := hI hown
 have HF3 := hI F3
 have hw1' : w.drew.alloc (.cells ROW 57) = W1 := hW1.symm
 rw [← hn] at hi hm ⊢
 rw [hw1'] at hrz
 have hG63 : G ≤ 9223372036854775807 := hGm
 clear hrow hv hB hD hA hold hZ1 hZ2 lZ1 lZ2 hROW hROW2 hG hGm F1 S1 hv1 hr1 hl0 S2 F2 hr2 hend F3 hown hn hsz hw1' hW1 hW2 hW3
 have hz2 : ¬ ((i : Int) = (n : Int)) := by omega
 have hb0 : (i : Int) ≤ (n : Int) := by omega
 have hb2 : ¬ (G = i) := by omega
 have hb3 : ¬ (G = i + 1) := by omega
 have hb4 : ¬ (n = i) := by omega
 have hb8 : IntKind.i64.wrap ((i : Int) + 1) = (i : Int) + 1 := by rw [IntKind.wrap_i64]; omega
 have hb9 : (0 : Int) ≤ (i : Int) + 1 := by omega
 have hb11 : (i : Int) + 1 ≤ (n : Int) + 1 := by omega
 have hb12 : (i : Int) ≤ (n : Int) + 1 := by omega
 have hb6 : ((i : Int) + 1).toNat = i + 1 := by omega
 go_enter Tryz.func150, Tryz.ntmps150
 go_wp2_with (first
  | (at_builtin; refine Lib.wpList_append_run _ rfl _ _ _ _ rfl _ _ rfl rfl _ _ (hrz _) ?_)
  | (at_builtin; refine wpList_copy_runI _ rfl _ _ 23 23 rfl _ _ rfl rfl (hcpA _ _) ?_))
 go_region_law (refine step_copy_runI rfl _ _ 23 23 rfl _ _ (by simp [Act.eval, Act.put]) (by simp [Act.eval, Act.put]) (hcpB _ _ _) ?_)
 go_wp2
 go_ret
 exact ⟨_, rfl, HOW.out, HF3.out⟩
theorem sxInsCached_any {B : Nat} (v : Value) (vb i : Nat) (xs : List Cd) (x : Cd) (w : World) (h : OwnAt 57 11 Cd.vs B v xs w) (hB : B ≤ w.heap.size) (hv : St 57 vb x.vs.toArray w) (hvb : ¬ v.ownBlock = some vb) (hm : xs.length ≤ 1073741823) (hi : i ≤ xs.length) :
 Calls Tryz.prog 150 #[v, .int .i64 i, .slice (some ⟨vb, 0, none⟩) 1 1] w fun e w' => ∃ v', e = .returned v' ∧ OwnAt 57 11 Cd.vs B v' (xs.take i ++ x :: xs.drop i) w' ∧ Frm (fun j => v.ownBlock = some j) w w' := by
 by_cases he : i = xs.length
 · subst he
   rw [List.take_length, List.drop_length]
   exact sxInsCached_end v vb xs x w h hB hv hm
 · rcases h.open with ⟨rfl, rfl⟩ | ⟨b, cap, rest, rfl, hB2, hl, hm2, hc, hrow⟩
   · exact absurd (by simpa using hi) he
   · by_cases hcap : cap = xs.length
     · subst hcap
       exact (sxInsCached_grow b vb i xs x rest w hrow hv (by omega) hm hB).mono fun e w' ⟨v', h1, h2, h3⟩ => ⟨v', h1, h2, h3.wide fun _ e => e.elim⟩
     · exact (sxInsCached_room b cap vb i xs x rest w hrow hv (fun e => hvb (by rw [e]; rfl)) (by omega) (by omega) hc hm2 hB2).mono fun e w' ⟨v', h1, h2, h3⟩ => ⟨v', h1, h2, h3.wide fun j e => by show Value.ownBlock _ = some j; rw [e]; rfl⟩
set_option maxRecDepth 100000 in
set_option maxHeartbeats 2000000 in
theorem sxInsKnown_room {B : Nat} (b cap vb i : Nat) (xs : List Kn) (x : Kn) (rest : List Value) (w : World) (hrow : Row 61 Kn.vs b xs rest w) (hv : St 61 vb x.vs.toArray w) (hvb : vb ≠ b) (hi : i < xs.length) (hcap : xs.length + 1 ≤ cap) (hc : xs.length * 3 + rest.length = cap * 3) (hm2 : cap ≤ maxLen) (hB : B ≤ b) :
 Calls Tryz.prog 179 #[.slice (some ⟨b, 0, none⟩) xs.length cap, .int .i64 i, .slice (some ⟨vb, 0, none⟩) 1 1] w fun e w' => ∃ v', e = .returned v' ∧ OwnAt 61 3 Kn.vs B v' (xs.take i ++ x :: xs.drop i) w' ∧ Frm (fun j => j = b) w w' := by
 have hr : 3 ≤ rest.length := by
  have := Nat.mul_le_mul_right 3 hcap
  omega
 have h1f := Kn.flat_one (xs.drop i)
 have hsz : (Tryz.prog.info? 61).map (·.size) = some 3 := by kernel_rfl
 have hD := flat_drop_len (i := i) Kn.vs_length (xs := xs)
 have hov : ∀ lb cb, (callFunc 205 #[.slice (some ⟨vb, 0, none⟩) 1 1, .slice (some ⟨b, (i + 1) * 3, none⟩) lb cb]).run Tryz.prog w = .ok (.value (.bool false)) w := fun lb cb => by
  rw [run_callFunc_extern Tryz.func205 (by kernel_rfl) (by kernel_rfl) (by kernel_rfl) (e := Extern.SlicesOverlaps.overlaps #[24, 24] #[4]) (by kernel_rfl),
   Lib.run_overlaps_apart w 24 4 61 Tryz.underlying24 3 Tryz.sizeOf61 ⟨vb, 0, none⟩ ⟨b, (i + 1) * 3, none⟩ 1 1 lb cb hvb 61 61 _ _ (hv.shape) (St.shape hrow) (by rw [List.size_toArray, List.length_append, flat_length Kn.vs_length]; omega) (hv.free _) (hv.free _)]
  rfl
 have hcp1 : ∀ ty dc sc, (Builtin.copy_ #[24, 24] ty #[.slice (some ⟨b, (i + 1) * 3, none⟩) (xs.length - i) dc, .slice (some ⟨b, i * 3, none⟩) (xs.length + 1 - i) sc]).run Tryz.prog w.drew = .ok (goInt (Nat.min (xs.length + 1 - i) (xs.length - i))) (w.drew.setCells b ((i + 1) * 3) ((xs.drop i).flatMap Kn.vs)) := fun ty dc sc =>
  run_copy_k w.drew _ _ ty 61 b ((i + 1) * 3) (xs.length - i) dc ⟨b, i * 3, none⟩ (xs.length + 1 - i) sc 3 ((xs.drop i).flatMap Kn.vs) Tryz.underlying24 hsz (by rw [hD]; congr 1; simp only [Nat.min_def]; split <;> omega)
   (fun j u hj => by
    rw [Addr.add_mid]
    refine St.cell (T := 61) hrow ?_
    rw [List.getElem?_toArray, flat_cut xs i, List.getElem?_append_right (by rw [flat_take_len Kn.vs_length (by omega)]; omega), flat_take_len Kn.vs_length (by omega), Nat.add_sub_cancel_left, List.getElem?_append_left (List.getElem?_eq_some_iff.1 hj).1]
    exact hj)
   (fun j hj => by
    have hlt : (i + 1) * 3 + j < (xs.flatMap Kn.vs ++ rest).length := by
     rw [List.length_append, flat_length Kn.vs_length]
     rw [hD] at hj
     omega
    exact ⟨by rw [St.cell (T := 61) (w := w.drew) hrow (j := (i + 1) * 3 + j) (by rw [List.getElem?_toArray, List.getElem?_eq_getElem hlt])]; rfl, St.free (T := 61) (w := w.drew) hrow _⟩) h1f
 obtain ⟨W1, hW1⟩ : ∃ W1, W1 = w.drew.setCells b ((i + 1) * 3) ((xs.drop i).flatMap Kn.vs) := ⟨_, rfl⟩
 rw [← hW1] at hcp1
 have F1 : Frm (fun j => j = b) w W1 := by rw [hW1]; exact Frm.cells' (F := fun j => j = b) (g := b) (.inl rfl) _ _ _ (Frm.refl _ w).drew
 have hv1 : St 61 vb x.vs.toArray W1 := hv.frm F1 hvb
 have hend : Row 61 Kn.vs b (xs.take i ++ x :: xs.drop i) (rest.drop 3) (W1.setCells b (i * 3) x.vs) := by rw [hW1]; exact Row.shift (w := w.drew) Kn.vs_length hrow (by omega) x hr
 have hth : W1.there b (i * 3) 3 := by
  intro j hj
  have hl0 : (xs.flatMap Kn.vs ++ rest).length = xs.length * 3 + rest.length := by rw [List.length_append, flat_length Kn.vs_length]
  have h2 : St 61 b (splice (xs.flatMap Kn.vs ++ rest) ((i + 1) * 3) ((xs.drop i).flatMap Kn.vs)).toArray W1 := by
   rw [hW1]
   exact St.cells _ _ _ _ (show St _ _ _ w.drew from hrow) (by rw [hD, hl0]; omega)
  have hlt : i * 3 + j < (splice (xs.flatMap Kn.vs ++ rest) ((i + 1) * 3) ((xs.drop i).flatMap Kn.vs)).length := by
   rw [length_splice _ _ _ (by rw [hD, hl0]; omega), hl0]
   omega
  exact ⟨by rw [h2.cell (j := i * 3 + j) (by rw [List.getElem?_toArray, List.getElem?_eq_getElem hlt])]; rfl, h2.free _⟩
 have hcp2 : ∀ (W : World), (∀ a, W.cell? a = W1.cell? a) → (∀ a, W.frozen? a = W1.frozen? a) → ∀ ty dc, (Builtin.copy_ #[24, 24] ty #[.slice (some ⟨b, i * 3, none⟩) (xs.length + 1 - i) dc, .slice (some ⟨vb, 0, none⟩) 1 1]).run Tryz.prog W = .ok (goInt (Nat.min 1 (xs.length + 1 - i))) (W.setCells b (i * 3) x.vs) := fun W hWc hWf ty dc =>
  run_copy_k W _ _ ty 61 b (i * 3) (xs.length + 1 - i) dc ⟨vb, 0, none⟩ 1 1 3 x.vs Tryz.underlying24 hsz (by rw [Kn.vs_length]; simp only [Nat.min_def]; split <;> omega)
   (fun j u hj => by rw [Addr.add_mid, Nat.zero_add, hWc]; exact hv1.cell (by rw [List.getElem?_toArray]; exact hj))
   (fun j hj => by rw [hWc, hWf]; exact hth j hj) (Kn.one x)
 have F2 : Frm (fun j => j = b) w (W1.setCells b (i * 3) x.vs) := Frm.cells' (F := fun j => j = b) (g := b) (.inl rfl) _ _ _ F1
 have HE := hI (show OwnAt 61 3 Kn.vs B (.slice (some ⟨b, 0, none⟩) (xs.length + 1) cap) (xs.take i ++ x :: xs.drop i) (W1.setCells b (i * 3) x.vs) ∧ Frm (fun j => j = b) w (W1.setCells b (i * 3) x.vs) from ⟨by
  have := hend.own Kn.vs_length (B := B) (cap := cap) hB (by rw [ins_len (by omega), List.length_drop]; omega) (by rw [ins_len (by omega)]; omega) hm2
  rw [ins_len (by omega)] at this
  exact this, F2⟩)
 obtain ⟨n, hn⟩ : ∃ n, n = xs.length := ⟨_, rfl⟩
 rw [← hn] at hcp1 hcp2 hi hcap HE ⊢
 have HL := hI hn
 have hm3 : cap ≤ 9223372036854775807 := hm2
 clear hrow hv hc hB hm2 hr hD hth hend F1 F2 hv1 hW1 h1f hn
 have hz2 : ¬ ((i : Int) = (n : Int)) := by omega
 have hb0 : (i : Int) ≤ (n : Int) := by omega
 have hb1 : ¬ ((cap : Int) < (n : Int) + 1) := by omega
 have hb2 : (n : Int) + 1 ≤ (cap : Int) := by omega
 have hb3 : ¬ (cap = i + 1) := by omega
 have hb4 : ¬ (cap = i) := by omega
 have hb5 : ((n : Int) + 1).toNat = n + 1 := by omega
 have hb6 : ((i : Int) + 1).toNat = i + 1 := by omega
 have hb7 : IntKind.i64.wrap ((n : Int) + 1) = (n : Int) + 1 := by rw [IntKind.wrap_i64]; omega
 have hb8 : IntKind.i64.wrap ((i : Int) + 1) = (i : Int) + 1 := by rw [IntKind.wrap_i64]; omega
 have hb9 : (0 : Int) ≤ (i : Int) + 1 := by omega
 have hb10 : (0 : Int) ≤ (n : Int) + 1 := by omega
 have hb11 : (i : Int) + 1 ≤ (n : Int) + 1 := by omega
 have hb12 : (i : Int) ≤ (n : Int) + 1 := by omega
 go_enter Tryz.func179, Tryz.ntmps179
 go_wp2_with (simp only [hov])
 go_region_law (refine step_copy_runI rfl _ _ 24 24 rfl _ _ (by simp [Act.eval, Act.put]) (by simp [Act.eval, Act.put]) (hcp1 _ _ _) ?_)
 go_wp2_with (at_builtin; refine wpList_copy_runI _ rfl _ _ 24 24 rfl _ _ rfl rfl (hcp2 _ (fun _ => rfl) (fun _ => rfl) _ _) ?_)
 go_ret
 exact ⟨_, rfl, HE.out⟩
set_option maxRecDepth 100000 in
set_option maxHeartbeats 2000000 in
theorem sxInsKnown_end {B : Nat} (v : Value) (vb : Nat) (xs : List Kn) (x : Kn) (w : World) (h : OwnAt 61 3 Kn.vs B v xs w) (hB : B ≤ w.heap.size) (hv : St 61 vb x.vs.toArray w) (hm : xs.length ≤ 1073741823) :
 Calls Tryz.prog 179 #[v, .int .i64 xs.length, .slice (some ⟨vb, 0, none⟩) 1 1] w fun e w' => ∃ v', e = .returned v' ∧ OwnAt 61 3 Kn.vs B v' (xs ++ [x]) w' ∧ Frm (fun j => v.ownBlock = some j) w w' := by
 obtain ⟨iz, hiz, hz0, hz1, hz2⟩ := info_parts Tryz.infoKn
 obtain ⟨n, hn⟩ : ∃ n, n = xs.length := ⟨_, rfl⟩
 have HO := hI (h.row hn)
 rw [← hn] at hm ⊢
 have HN := hI hn
 have HV := hI (show ∀ j u, x.vs[j]? = some u → w.cell? ((⟨vb, 0, none⟩ : Addr).add j) = some u from fun j u hu => by rw [Addr.add_mid, Nat.zero_add]; exact hv.cell (by rw [List.getElem?_toArray]; exact hu))
 rcases h.open with ⟨rfl, rfl⟩ | ⟨b, cap, rest, rfl, hB2, hl, hm2, hc, hrow⟩
 · have h0 : n = 0 := hn
   have HX0 := hI h0
   clear h hn hv
   subst h0
   go_enter Tryz.func179, Tryz.ntmps179
   go_wp2_with (at_builtin; refine wpList_append_own _ rfl _ _ 24 rfl B 61 iz (.agg #[.string ⟨#[]⟩, .string ⟨#[]⟩, .string ⟨#[]⟩]) 3 48 Tryz.underlying24 hiz hz0 hz1 hz2 rfl (by decide) _ 0 _ rfl HO.out ⟨vb, 0, none⟩ 1 1 x.vs rfl rfl HV.out (Kn.one x) (by unfold maxLen; omega) (by omega) hB ?_; intro v9 w9 h9 g9 _; have R9 := hI h9; have G9 := hI g9; clear h9 g9)
   go_returns
   exact ⟨_, rfl, OwnAt.more HN.out R9.out, (Frm.refl _ w).grown G9.out fun k hk => by cases hk⟩
 · rw [← hn] at hl hc HO
   rw [show (Value.slice (some ⟨b, 0, none⟩) xs.length cap) = Value.slice (some ⟨b, 0, none⟩) n cap from by rw [HN.out]]
   have hm3 : cap ≤ 9223372036854775807 := hm2
   clear h hn hv hrow hm2 hc
   by_cases he : cap = n
   · go_enter Tryz.func179, Tryz.ntmps179
     go_wp2_with (at_builtin; refine wpList_append_own _ rfl _ _ 24 rfl B 61 iz (.agg #[.string ⟨#[]⟩, .string ⟨#[]⟩, .string ⟨#[]⟩]) 3 48 Tryz.underlying24 hiz hz0 hz1 hz2 rfl (by decide) _ n _ rfl HO.out ⟨vb, 0, none⟩ 1 1 x.vs rfl rfl HV.out (Kn.one x) (by unfold maxLen; omega) (by omega) hB ?_; intro v9 w9 h9 g9 _; have R9 := hI h9; have G9 := hI g9; clear h9 g9)
     all_goals go_returns
     all_goals exact ⟨_, rfl, OwnAt.more HN.out R9.out, (Frm.refl _ w).grown G9.out fun k hk => .inl hk⟩
   · go_enter Tryz.func179, Tryz.ntmps179
     go_wp2_with (at_builtin; refine wpList_append_own _ rfl _ _ 24 rfl B 61 iz (.agg #[.string ⟨#[]⟩, .string ⟨#[]⟩, .string ⟨#[]⟩]) 3 48 Tryz.underlying24 hiz hz0 hz1 hz2 rfl (by decide) _ n _ rfl HO.out ⟨vb, 0, none⟩ 1 1 x.vs rfl rfl HV.out (Kn.one x) (by unfold maxLen; omega) (by omega) hB ?_; intro v9 w9 h9 g9 _; have R9 := hI h9; have G9 := hI g9; clear h9 g9)
     all_goals go_returns
     all_goals exact ⟨_, rfl, OwnAt.more HN.out R9.out, (Frm.refl _ w).grown G9.out fun k hk => .inl hk⟩
set_option maxRecDepth 100000 in
set_option maxHeartbeats 2000000 in
theorem sxInsKnown_grow {B : Nat} (b vb i : Nat) (xs : List Kn) (x : Kn) (rest : List Value) (w : World) (hrow : Row 61 Kn.vs b xs rest w) (hv : St 61 vb x.vs.toArray w) (hi : i < xs.length) (hm : xs.length ≤ 1073741823) (hB : B ≤ w.heap.size) :
 Calls Tryz.prog 179 #[.slice (some ⟨b, 0, none⟩) xs.length xs.length, .int .i64 i, .slice (some ⟨vb, 0, none⟩) 1 1] w fun e w' => ∃ v', e = .returned v' ∧ OwnAt 61 3 Kn.vs B v' (xs.take i ++ x :: xs.drop i) w' ∧ Frm (fun _ => False) w w' := by
 obtain ⟨iz, hiz, hz0, hz1, hz2⟩ := info_parts Tryz.infoKn
 have hbw := St.lt hrow
 have hvw := hv.lt
 have hsz : (Tryz.prog.info? 61).map (·.size) = some 3 := by kernel_rfl
 have hD := flat_drop_len (i := i) Kn.vs_length (xs := xs)
 have hA := flat_take_len Kn.vs_length (xs := xs) (i := i) (by omega)
 obtain ⟨n, hn⟩ : ∃ n, n = xs.length := ⟨_, rfl⟩
 have hold : (Builtin.firstCells iz.size i (.slice (some ⟨b, 0, none⟩) i n)).run Tryz.prog w.drew = .ok ((xs.take i).flatMap Kn.vs).toArray w.drew := by
  rw [hz1]
  exact run_firstCells_some w.drew 3 i ⟨b, 0, none⟩ i n _ hA (fun j u hj => by
   rw [Addr.add_mid, Nat.zero_add]
   refine St.cell (T := 61) (w := w.drew) hrow ?_
   rw [List.getElem?_toArray, flat_cut xs i, List.getElem?_append_left (List.getElem?_eq_some_iff.1 hj).1]
   exact hj)
 have hrz : ∀ ty, (Builtin.append_ #[24, 3] ty #[.slice (some ⟨b, 0, none⟩) i n, .int .i64 ((n : Int) + 1 - (i : Int))]).run Tryz.prog w = .ok (.slice (some ⟨w.heap.size, 0, none⟩) (n + 1) (grownCap w (n + 1) n 61)) (w.drew.alloc (.cells (((xs.take i).flatMap Kn.vs).toArray ++ Builtin.zeroCells (.agg #[.string ⟨#[]⟩, .string ⟨#[]⟩, .string ⟨#[]⟩] : Value).cells (n + 1 - i) ++ Builtin.zeroCells (.agg #[.string ⟨#[]⟩, .string ⟨#[]⟩, .string ⟨#[]⟩] : Value).cells (grownCap w (n + 1) n 61 - (n + 1))) 61)) := fun ty => by
  have h := Lib.run_append_grow_zeros w 24 3 ty 61 iz (.agg #[.string ⟨#[]⟩, .string ⟨#[]⟩, .string ⟨#[]⟩]) .i64 .i64 Tryz.underlying24 Tryz.underlying3 hiz hz0 (some ⟨b, 0, none⟩) i n _ hold (n + 1 - i) (by omega) (by omega) (by omega) (by omega) (by rw [hz2]; omega) (by rw [hz2, show i + (n + 1 - i) = n + 1 from by omega]; exact growslice_fits (by omega) (by omega))
  rw [show i + (n + 1 - i) = n + 1 from by omega] at h
  rw [show (n : Int) + 1 - (i : Int) = ((n + 1 - i : Nat) : Int) from by omega]
  exact h
 obtain ⟨G, hG⟩ : ∃ G, G = grownCap w (n + 1) n 61 := ⟨_, rfl⟩
 obtain ⟨Z1, hZ1⟩ : ∃ Z1, Z1 = (Builtin.zeroCells (.agg #[.string ⟨#[]⟩, .string ⟨#[]⟩, .string ⟨#[]⟩] : Value).cells (n + 1 - i)).toList := ⟨_, rfl⟩
 obtain ⟨Z2, hZ2⟩ : ∃ Z2, Z2 = (Builtin.zeroCells (.agg #[.string ⟨#[]⟩, .string ⟨#[]⟩, .string ⟨#[]⟩] : Value).cells (G - (n + 1))).toList := ⟨_, rfl⟩
 have lZ1 : Z1.length = (xs.length + 1 - i) * 3 := by rw [hZ1, Array.length_toList, zeroCells_size, hn]; rfl
 have lZ2 : Z2.length = (G - (n + 1)) * 3 := by rw [hZ2, Array.length_toList, zeroCells_size]; rfl
 obtain ⟨ROW, hROW⟩ : ∃ ROW : Array Value, ROW = ((xs.take i).flatMap Kn.vs).toArray ++ Builtin.zeroCells (.agg #[.string ⟨#[]⟩, .string ⟨#[]⟩, .string ⟨#[]⟩] : Value).cells (n + 1 - i) ++ Builtin.zeroCells (.agg #[.string ⟨#[]⟩, .string ⟨#[]⟩, .string ⟨#[]⟩] : Value).cells (G - (n + 1)) := ⟨_, rfl⟩
 have hROW2 : ROW = ((xs.take i).flatMap Kn.vs ++ (Z1 ++ Z2)).toArray := by
  rw [hROW, hZ1, hZ2]
  apply Array.toList_inj.1
  simp
 rw [← hG] at hrz
 rw [← hROW] at hrz
 have hGn : n + 1 ≤ G := by rw [hG]; exact grownCap_ge w _ _ _
 have hGm : G ≤ maxLen := by rw [hG]; exact grownCap_le_maxLen w _ _ _ (by unfold maxLen; omega)
 obtain ⟨W1, hW1⟩ : ∃ W1, W1 = w.drew.alloc (.cells ROW 61) := ⟨_, rfl⟩
 have F1 : Frm (fun _ => False) w W1 := by rw [hW1]; exact ((Frm.refl _ w).drew).alloc _
 have S1 : St 61 w.heap.size ((xs.take i).flatMap Kn.vs ++ (Z1 ++ Z2)).toArray W1 := by rw [hW1, ← hROW2]; exact St.new w.drew _ _
 have hv1 : St 61 vb x.vs.toArray W1 := hv.frm F1 id
 have hr1 : Row 61 Kn.vs b xs rest W1 := hrow.frm F1 id
 have hl0 : ((xs.take i).flatMap Kn.vs ++ (Z1 ++ Z2)).length = i * 3 + ((xs.length + 1 - i) * 3 + Z2.length) := by rw [List.length_append, List.length_append, hA, lZ1]
 obtain ⟨W2, hW2⟩ : ∃ W2, W2 = W1.setCells w.heap.size (i * 3) x.vs := ⟨_, rfl⟩
 have hcpA : ∀ ty dc, (Builtin.copy_ #[24, 24] ty #[.slice (some ⟨w.heap.size, i * 3, none⟩) (n + 1 - i) dc, .slice (some ⟨vb, 0, none⟩) 1 1]).run Tryz.prog W1 = .ok (goInt (Nat.min 1 (n + 1 - i))) W2 := fun ty dc => by
  rw [hW2]
  exact run_copy_k W1 _ _ ty 61 w.heap.size (i * 3) (n + 1 - i) dc ⟨vb, 0, none⟩ 1 1 3 x.vs Tryz.underlying24 hsz (by rw [Kn.vs_length]; simp only [Nat.min_def]; split <;> omega)
   (fun j u hj => by rw [Addr.add_mid, Nat.zero_add]; exact hv1.cell (by rw [List.getElem?_toArray]; exact hj))
   (fun j hj => by
    rw [Kn.vs_length] at hj
    have hlt : i * 3 + j < ((xs.take i).flatMap Kn.vs ++ (Z1 ++ Z2)).length := by rw [hl0]; omega
    exact ⟨by rw [S1.cell (j := i * 3 + j) (by rw [List.getElem?_toArray, List.getElem?_eq_getElem hlt])]; rfl, S1.free _⟩) (Kn.one x)
 have S2 : St 61 w.heap.size (splice ((xs.take i).flatMap Kn.vs ++ (Z1 ++ Z2)) (i * 3) x.vs).toArray W2 := by rw [hW2]; exact St.cells _ _ _ _ S1 (by rw [hl0, Kn.vs_length]; omega)
 have F2 : Frm (fun _ => False) w W2 := by rw [hW2]; exact Frm.cells' (.inr (Nat.le_refl _)) _ _ _ F1
 have hr2 : Row 61 Kn.vs b xs rest W2 := hrow.frm F2 id
 obtain ⟨W3, hW3⟩ : ∃ W3, W3 = W2.drew.setCells w.heap.size ((i + 1) * 3) ((xs.drop i).flatMap Kn.vs) := ⟨_, rfl⟩
 have hcpB : ∀ ty dc sc, (Builtin.copy_ #[24, 24] ty #[.slice (some ⟨w.heap.size, (i + 1) * 3, none⟩) (n - i) dc, .slice (some ⟨b, i * 3, none⟩) (n - i) sc]).run Tryz.prog W2.drew = .ok (goInt (Nat.min (n - i) (n - i))) W3 := fun ty dc sc => by
  rw [hW3]
  exact run_copy_k W2.drew _ _ ty 61 w.heap.size ((i + 1) * 3) (n - i) dc ⟨b, i * 3, none⟩ (n - i) sc 3 ((xs.drop i).flatMap Kn.vs) Tryz.underlying24 hsz (by rw [hD, hn]; congr 1; simp only [Nat.min_def]; split <;> omega)
   (fun j u hj => by
    rw [Addr.add_mid]
    refine St.cell (T := 61) (w := W2.drew) hr2 ?_
    rw [List.getElem?_toArray, flat_cut xs i, List.getElem?_append_right (by rw [hA]; omega), hA, Nat.add_sub_cancel_left, List.getElem?_append_left (List.getElem?_eq_some_iff.1 hj).1]
    exact hj)
   (fun j hj => by
    rw [hD] at hj
    have hlt : (i + 1) * 3 + j < (splice ((xs.take i).flatMap Kn.vs ++ (Z1 ++ Z2)) (i * 3) x.vs).length := by rw [length_splice _ _ _ (by rw [hl0, Kn.vs_length]; omega), hl0]; omega
    exact ⟨by rw [St.cell (T := 61) (w := W2.drew) S2 (j := (i + 1) * 3 + j) (by rw [List.getElem?_toArray, List.getElem?_eq_getElem hlt])]; rfl, St.free (T := 61) (w := W2.drew) S2 _⟩) (Kn.flat_one (xs.drop i))
 have hend : Row 61 Kn.vs w.heap.size (xs.take i ++ x :: xs.drop i) Z2 W3 := by
  have h3 := Row.grew (T := 61) (w := W1.drew) Kn.vs_length (by omega) S1 lZ1 x
  rw [hW3, hW2, drew_setCells]
  exact h3
 have F3 : Frm (fun _ => False) w W3 := by rw [hW3]; exact Frm.cells' (.inr (Nat.le_refl _)) _ _ _ F2.drew
 have hown := hend.own Kn.vs_length (B := B) (cap := G) hB (by rw [ins_len (by omega), lZ2, hn, ← Nat.add_mul]; congr 1; rw [hn] at hGn; omega) (by rw [ins_len (by omega), ← hn]; exact hGn) hGm
 rw [ins_len (by omega), ← hn] at hown
 have HOW := hI hown
 have HF3 := hI F3
 have hw1' : w.drew.alloc (.cells ROW 61) = W1 := hW1.symm
 rw [← hn] at hi hm ⊢
 rw [hw1'] at hrz
 have hG63 : G ≤ 9223372036854775807 := hGm
 clear hrow hv hB hD hA hold hZ1 hZ2 lZ1 lZ2 hROW hROW2 hG hGm F1 S1 hv1 hr1 hl0 S2 F2 hr2 hend F3 hown hn hsz hw1' hW1 hW2 hW3
 have hz2 : ¬ ((i : Int) = (n : Int)) := by omega
 have hb0 : (i : Int) ≤ (n : Int) := by omega
 have hb2 : ¬ (G = i) := by omega
 have hb3 : ¬ (G = i + 1) := by omega
 have hb4 : ¬ (n = i) := by omega
 have hb8 : IntKind.i64.wrap ((i : Int) + 1) = (i : Int) + 1 := by rw [IntKind.wrap_i64]; omega
 have hb9 : (0 : Int) ≤ (i : Int) + 1 := by omega
 have hb11 : (i : Int) + 1 ≤ (n : Int) + 1 := by omega
 have hb12 : (i : Int) ≤ (n : Int) + 1 := by omega
 have hb6 : ((i : Int) + 1).toNat = i + 1 := by omega
 go_enter Tryz.func179, Tryz.ntmps179
 go_wp2_with (first
  | (at_builtin; refine Lib.wpList_append_run _ rfl _ _ _ _ rfl _ _ rfl rfl _ _ (hrz _) ?_)
  | (at_builtin; refine wpList_copy_runI _ rfl _ _ 24 24 rfl _ _ rfl rfl (hcpA _ _) ?_))
 go_region_law (refine step_copy_runI rfl _ _ 24 24 rfl _ _ (by simp [Act.eval, Act.put]) (by simp [Act.eval, Act.put]) (hcpB _ _ _) ?_)
 go_wp2
 go_ret
 exact ⟨_, rfl, HOW.out, HF3.out⟩
theorem sxInsKnown_any {B : Nat} (v : Value) (vb i : Nat) (xs : List Kn) (x : Kn) (w : World) (h : OwnAt 61 3 Kn.vs B v xs w) (hB : B ≤ w.heap.size) (hv : St 61 vb x.vs.toArray w) (hvb : ¬ v.ownBlock = some vb) (hm : xs.length ≤ 1073741823) (hi : i ≤ xs.length) :
 Calls Tryz.prog 179 #[v, .int .i64 i, .slice (some ⟨vb, 0, none⟩) 1 1] w fun e w' => ∃ v', e = .returned v' ∧ OwnAt 61 3 Kn.vs B v' (xs.take i ++ x :: xs.drop i) w' ∧ Frm (fun j => v.ownBlock = some j) w w' := by
 by_cases he : i = xs.length
 · subst he
   rw [List.take_length, List.drop_length]
   exact sxInsKnown_end v vb xs x w h hB hv hm
 · rcases h.open with ⟨rfl, rfl⟩ | ⟨b, cap, rest, rfl, hB2, hl, hm2, hc, hrow⟩
   · exact absurd (by simpa using hi) he
   · by_cases hcap : cap = xs.length
     · subst hcap
       exact (sxInsKnown_grow b vb i xs x rest w hrow hv (by omega) hm hB).mono fun e w' ⟨v', h1, h2, h3⟩ => ⟨v', h1, h2, h3.wide fun _ e => e.elim⟩
     · exact (sxInsKnown_room b cap vb i xs x rest w hrow hv (fun e => hvb (by rw [e]; rfl)) (by omega) (by omega) hc hm2 hB2).mono fun e w' ⟨v', h1, h2, h3⟩ => ⟨v', h1, h2, h3.wide fun j e => by show Value.ownBlock _ = some j; rw [e]; rfl⟩
set_option maxRecDepth 100000 in
set_option maxHeartbeats 2000000 in
theorem sxInsPlaced_room {B : Nat} (b cap vb i : Nat) (xs : List Bk) (x : Bk) (rest : List Value) (w : World) (hrow : Row 66 Bk.vs b xs rest w) (hv : St 66 vb x.vs.toArray w) (hvb : vb ≠ b) (hi : i < xs.length) (hcap : xs.length + 1 ≤ cap) (hc : xs.length * 3 + rest.length = cap * 3) (hm2 : cap ≤ maxLen) (hB : B ≤ b) :
 Calls Tryz.prog 181 #[.slice (some ⟨b, 0, none⟩) xs.length cap, .int .i64 i, .slice (some ⟨vb, 0, none⟩) 1 1] w fun e w' => ∃ v', e = .returned v' ∧ OwnAt 66 3 Bk.vs B v' (xs.take i ++ x :: xs.drop i) w' ∧ Frm (fun j => j = b) w w' := by
 have hr : 3 ≤ rest.length := by
  have := Nat.mul_le_mul_right 3 hcap
  omega
 have h1f := Bk.flat_one (xs.drop i)
 have hsz : (Tryz.prog.info? 66).map (·.size) = some 3 := by kernel_rfl
 have hD := flat_drop_len (i := i) Bk.vs_length (xs := xs)
 have hov : ∀ lb cb, (callFunc 207 #[.slice (some ⟨vb, 0, none⟩) 1 1, .slice (some ⟨b, (i + 1) * 3, none⟩) lb cb]).run Tryz.prog w = .ok (.value (.bool false)) w := fun lb cb => by
  rw [run_callFunc_extern Tryz.func207 (by kernel_rfl) (by kernel_rfl) (by kernel_rfl) (e := Extern.SlicesOverlaps.overlaps #[25, 25] #[4]) (by kernel_rfl),
   Lib.run_overlaps_apart w 25 4 66 Tryz.underlying25 3 Tryz.sizeOf66 ⟨vb, 0, none⟩ ⟨b, (i + 1) * 3, none⟩ 1 1 lb cb hvb 66 66 _ _ (hv.shape) (St.shape hrow) (by rw [List.size_toArray, List.length_append, flat_length Bk.vs_length]; omega) (hv.free _) (hv.free _)]
  rfl
 have hcp1 : ∀ ty dc sc, (Builtin.copy_ #[25, 25] ty #[.slice (some ⟨b, (i + 1) * 3, none⟩) (xs.length - i) dc, .slice (some ⟨b, i * 3, none⟩) (xs.length + 1 - i) sc]).run Tryz.prog w.drew = .ok (goInt (Nat.min (xs.length + 1 - i) (xs.length - i))) (w.drew.setCells b ((i + 1) * 3) ((xs.drop i).flatMap Bk.vs)) := fun ty dc sc =>
  run_copy_k w.drew _ _ ty 66 b ((i + 1) * 3) (xs.length - i) dc ⟨b, i * 3, none⟩ (xs.length + 1 - i) sc 3 ((xs.drop i).flatMap Bk.vs) Tryz.underlying25 hsz (by rw [hD]; congr 1; simp only [Nat.min_def]; split <;> omega)
   (fun j u hj => by
    rw [Addr.add_mid]
    refine St.cell (T := 66) hrow ?_
    rw [List.getElem?_toArray, flat_cut xs i, List.getElem?_append_right (by rw [flat_take_len Bk.vs_length (by omega)]; omega), flat_take_len Bk.vs_length (by omega), Nat.add_sub_cancel_left, List.getElem?_append_left (List.getElem?_eq_some_iff.1 hj).1]
    exact hj)
   (fun j hj => by
    have hlt : (i + 1) * 3 + j < (xs.flatMap Bk.vs ++ rest).length := by
     rw [List.length_append, flat_length Bk.vs_length]
     rw [hD] at hj
     omega
    exact ⟨by rw [St.cell (T := 66) (w := w.drew) hrow (j := (i + 1) * 3 + j) (by rw [List.getElem?_toArray, List.getElem?_eq_getElem hlt])]; rfl, St.free (T := 66) (w := w.drew) hrow _⟩) h1f
 obtain ⟨W1, hW1⟩ : ∃ W1, W1 = w.drew.setCells b ((i + 1) * 3) ((xs.drop i).flatMap Bk.vs) := ⟨_, rfl⟩
 rw [← hW1] at hcp1
 have F1 : Frm (fun j => j = b) w W1 := by rw [hW1]; exact Frm.cells' (F := fun j => j = b) (g := b) (.inl rfl) _ _ _ (Frm.refl _ w).drew
 have hv1 : St 66 vb x.vs.toArray W1 := hv.frm F1 hvb
 have hend : Row 66 Bk.vs b (xs.take i ++ x :: xs.drop i) (rest.drop 3) (W1.setCells b (i * 3) x.vs) := by rw [hW1]; exact Row.shift (w := w.drew) Bk.vs_length hrow (by omega) x hr
 have hth : W1.there b (i * 3) 3 := by
  intro j hj
  have hl0 : (xs.flatMap Bk.vs ++ rest).length = xs.length * 3 + rest.length := by rw [List.length_append, flat_length Bk.vs_length]
  have h2 : St 66 b (splice (xs.flatMap Bk.vs ++ rest) ((i + 1) * 3) ((xs.drop i).flatMap Bk.vs)).toArray W1 := by
   rw [hW1]
   exact St.cells _ _ _ _ (show St _ _ _ w.drew from hrow) (by rw [hD, hl0]; omega)
  have hlt : i * 3 + j < (splice (xs.flatMap Bk.vs ++ rest) ((i + 1) * 3) ((xs.drop i).flatMap Bk.vs)).length := by
   rw [length_splice _ _ _ (by rw [hD, hl0]; omega), hl0]
   omega
  exact ⟨by rw [h2.cell (j := i * 3 + j) (by rw [List.getElem?_toArray, List.getElem?_eq_getElem hlt])]; rfl, h2.free _⟩
 have hcp2 : ∀ (W : World), (∀ a, W.cell? a = W1.cell? a) → (∀ a, W.frozen? a = W1.frozen? a) → ∀ ty dc, (Builtin.copy_ #[25, 25] ty #[.slice (some ⟨b, i * 3, none⟩) (xs.length + 1 - i) dc, .slice (some ⟨vb, 0, none⟩) 1 1]).run Tryz.prog W = .ok (goInt (Nat.min 1 (xs.length + 1 - i))) (W.setCells b (i * 3) x.vs) := fun W hWc hWf ty dc =>
  run_copy_k W _ _ ty 66 b (i * 3) (xs.length + 1 - i) dc ⟨vb, 0, none⟩ 1 1 3 x.vs Tryz.underlying25 hsz (by rw [Bk.vs_length]; simp only [Nat.min_def]; split <;> omega)
   (fun j u hj => by rw [Addr.add_mid, Nat.zero_add, hWc]; exact hv1.cell (by rw [List.getElem?_toArray]; exact hj))
   (fun j hj => by rw [hWc, hWf]; exact hth j hj) (Bk.one x)
 have F2 : Frm (fun j => j = b) w (W1.setCells b (i * 3) x.vs) := Frm.cells' (F := fun j => j = b) (g := b) (.inl rfl) _ _ _ F1
 have HE := hI (show OwnAt 66 3 Bk.vs B (.slice (some ⟨b, 0, none⟩) (xs.length + 1) cap) (xs.take i ++ x :: xs.drop i) (W1.setCells b (i * 3) x.vs) ∧ Frm (fun j => j = b) w (W1.setCells b (i * 3) x.vs) from ⟨by
  have := hend.own Bk.vs_length (B := B) (cap := cap) hB (by rw [ins_len (by omega), List.length_drop]; omega) (by rw [ins_len (by omega)]; omega) hm2
  rw [ins_len (by omega)] at this
  exact this, F2⟩)
 obtain ⟨n, hn⟩ : ∃ n, n = xs.length := ⟨_, rfl⟩
 rw [← hn] at hcp1 hcp2 hi hcap HE ⊢
 have HL := hI hn
 have hm3 : cap ≤ 9223372036854775807 := hm2
 clear hrow hv hc hB hm2 hr hD hth hend F1 F2 hv1 hW1 h1f hn
 have hz2 : ¬ ((i : Int) = (n : Int)) := by omega
 have hb0 : (i : Int) ≤ (n : Int) := by omega
 have hb1 : ¬ ((cap : Int) < (n : Int) + 1) := by omega
 have hb2 : (n : Int) + 1 ≤ (cap : Int) := by omega
 have hb3 : ¬ (cap = i + 1) := by omega
 have hb4 : ¬ (cap = i) := by omega
 have hb5 : ((n : Int) + 1).toNat = n + 1 := by omega
 have hb6 : ((i : Int) + 1).toNat = i + 1 := by omega
 have hb7 : IntKind.i64.wrap ((n : Int) + 1) = (n : Int) + 1 := by rw [IntKind.wrap_i64]; omega
 have hb8 : IntKind.i64.wrap ((i : Int) + 1) = (i : Int) + 1 := by rw [IntKind.wrap_i64]; omega
 have hb9 : (0 : Int) ≤ (i : Int) + 1 := by omega
 have hb10 : (0 : Int) ≤ (n : Int) + 1 := by omega
 have hb11 : (i : Int) + 1 ≤ (n : Int) + 1 := by omega
 have hb12 : (i : Int) ≤ (n : Int) + 1 := by omega
 go_enter Tryz.func181, Tryz.ntmps181
 go_wp2_with (simp only [hov])
 go_region_law (refine step_copy_runI rfl _ _ 25 25 rfl _ _ (by simp [Act.eval, Act.put]) (by simp [Act.eval, Act.put]) (hcp1 _ _ _) ?_)
 go_wp2_with (at_builtin; refine wpList_copy_runI _ rfl _ _ 25 25 rfl _ _ rfl rfl (hcp2 _ (fun _ => rfl) (fun _ => rfl) _ _) ?_)
 go_ret
 exact ⟨_, rfl, HE.out⟩
set_option maxRecDepth 100000 in
set_option maxHeartbeats 2000000 in
theorem sxInsPlaced_end {B : Nat} (v : Value) (vb : Nat) (xs : List Bk) (x : Bk) (w : World) (h : OwnAt 66 3 Bk.vs B v xs w) (hB : B ≤ w.heap.size) (hv : St 66 vb x.vs.toArray w) (hm : xs.length ≤ 1073741823) :
 Calls Tryz.prog 181 #[v, .int .i64 xs.length, .slice (some ⟨vb, 0, none⟩) 1 1] w fun e w' => ∃ v', e = .returned v' ∧ OwnAt 66 3 Bk.vs B v' (xs ++ [x]) w' ∧ Frm (fun j => v.ownBlock = some j) w w' := by
 obtain ⟨iz, hiz, hz0, hz1, hz2⟩ := info_parts Tryz.infoBk
 obtain ⟨n, hn⟩ : ∃ n, n = xs.length := ⟨_, rfl⟩
 have HO := hI (h.row hn)
 rw [← hn] at hm ⊢
 have HN := hI hn
 have HV := hI (show ∀ j u, x.vs[j]? = some u → w.cell? ((⟨vb, 0, none⟩ : Addr).add j) = some u from fun j u hu => by rw [Addr.add_mid, Nat.zero_add]; exact hv.cell (by rw [List.getElem?_toArray]; exact hu))
 rcases h.open with ⟨rfl, rfl⟩ | ⟨b, cap, rest, rfl, hB2, hl, hm2, hc, hrow⟩
 · have h0 : n = 0 := hn
   have HX0 := hI h0
   clear h hn hv
   subst h0
   go_enter Tryz.func181, Tryz.ntmps181
   go_wp2_with (at_builtin; refine wpList_append_own _ rfl _ _ 25 rfl B 66 iz (.agg #[.string ⟨#[]⟩, .int .i64 0, .int .i64 0]) 3 32 Tryz.underlying25 hiz hz0 hz1 hz2 rfl (by decide) _ 0 _ rfl HO.out ⟨vb, 0, none⟩ 1 1 x.vs rfl rfl HV.out (Bk.one x) (by unfold maxLen; omega) (by omega) hB ?_; intro v9 w9 h9 g9 _; have R9 := hI h9; have G9 := hI g9; clear h9 g9)
   go_returns
   exact ⟨_, rfl, OwnAt.more HN.out R9.out, (Frm.refl _ w).grown G9.out fun k hk => by cases hk⟩
 · rw [← hn] at hl hc HO
   rw [show (Value.slice (some ⟨b, 0, none⟩) xs.length cap) = Value.slice (some ⟨b, 0, none⟩) n cap from by rw [HN.out]]
   have hm3 : cap ≤ 9223372036854775807 := hm2
   clear h hn hv hrow hm2 hc
   by_cases he : cap = n
   · go_enter Tryz.func181, Tryz.ntmps181
     go_wp2_with (at_builtin; refine wpList_append_own _ rfl _ _ 25 rfl B 66 iz (.agg #[.string ⟨#[]⟩, .int .i64 0, .int .i64 0]) 3 32 Tryz.underlying25 hiz hz0 hz1 hz2 rfl (by decide) _ n _ rfl HO.out ⟨vb, 0, none⟩ 1 1 x.vs rfl rfl HV.out (Bk.one x) (by unfold maxLen; omega) (by omega) hB ?_; intro v9 w9 h9 g9 _; have R9 := hI h9; have G9 := hI g9; clear h9 g9)
     all_goals go_returns
     all_goals exact ⟨_, rfl, OwnAt.more HN.out R9.out, (Frm.refl _ w).grown G9.out fun k hk => .inl hk⟩
   · go_enter Tryz.func181, Tryz.ntmps181
     go_wp2_with (at_builtin; refine wpList_append_own _ rfl _ _ 25 rfl B 66 iz (.agg #[.string ⟨#[]⟩, .int .i64 0, .int .i64 0]) 3 32 Tryz.underlying25 hiz hz0 hz1 hz2 rfl (by decide) _ n _ rfl HO.out ⟨vb, 0, none⟩ 1 1 x.vs rfl rfl HV.out (Bk.one x) (by unfold maxLen; omega) (by omega) hB ?_; intro v9 w9 h9 g9 _; have R9 := hI h9; have G9 := hI g9; clear h9 g9)
     all_goals go_returns
     all_goals exact ⟨_, rfl, OwnAt.more HN.out R9.out, (Frm.refl _ w).grown G9.out fun k hk => .inl hk⟩
set_option maxRecDepth 100000 in
set_option maxHeartbeats 2000000 in
theorem sxInsPlaced_grow {B : Nat} (b vb i : Nat) (xs : List Bk) (x : Bk) (rest : List Value) (w : World) (hrow : Row 66 Bk.vs b xs rest w) (hv : St 66 vb x.vs.toArray w) (hi : i < xs.length) (hm : xs.length ≤ 1073741823) (hB : B ≤ w.heap.size) :
 Calls Tryz.prog 181 #[.slice (some ⟨b, 0, none⟩) xs.length xs.length, .int .i64 i, .slice (some ⟨vb, 0, none⟩) 1 1] w fun e w' => ∃ v', e = .returned v' ∧ OwnAt 66 3 Bk.vs B v' (xs.take i ++ x :: xs.drop i) w' ∧ Frm (fun _ => False) w w' := by
 obtain ⟨iz, hiz, hz0, hz1, hz2⟩ := info_parts Tryz.infoBk
 have hbw := St.lt hrow
 have hvw := hv.lt
 have hsz : (Tryz.prog.info? 66).map (·.size) = some 3 := by kernel_rfl
 have hD := flat_drop_len (i := i) Bk.vs_length (xs := xs)
 have hA := flat_take_len Bk.vs_length (xs := xs) (i := i) (by omega)
 obtain ⟨n, hn⟩ : ∃ n, n = xs.length := ⟨_, rfl⟩
 have hold : (Builtin.firstCells iz.size i (.slice (some ⟨b, 0, none⟩) i n)).run Tryz.prog w.drew = .ok ((xs.take i).flatMap Bk.vs).toArray w.drew := by
  rw [hz1]
  exact run_firstCells_some w.drew 3 i ⟨b, 0, none⟩ i n _ hA (fun j u hj => by
   rw [Addr.add_mid, Nat.zero_add]
   refine St.cell (T := 66) (w := w.drew) hrow ?_
   rw [List.getElem?_toArray, flat_cut xs i, List.getElem?_append_left (List.getElem?_eq_some_iff.1 hj).1]
   exact hj)
 have hrz : ∀ ty, (Builtin.append_ #[25, 3] ty #[.slice (some ⟨b, 0, none⟩) i n, .int .i64 ((n : Int) + 1 - (i : Int))]).run Tryz.prog w = .ok (.slice (some ⟨w.heap.size, 0, none⟩) (n + 1) (grownCap w (n + 1) n 66)) (w.drew.alloc (.cells (((xs.take i).flatMap Bk.vs).toArray ++ Builtin.zeroCells (.agg #[.string ⟨#[]⟩, .int .i64 0, .int .i64 0] : Value).cells (n + 1 - i) ++ Builtin.zeroCells (.agg #[.string ⟨#[]⟩, .int .i64 0, .int .i64 0] : Value).cells (grownCap w (n + 1) n 66 - (n + 1))) 66)) := fun ty => by
  have h := Lib.run_append_grow_zeros w 25 3 ty 66 iz (.agg #[.string ⟨#[]⟩, .int .i64 0, .int .i64 0]) .i64 .i64 Tryz.underlying25 Tryz.underlying3 hiz hz0 (some ⟨b, 0, none⟩) i n _ hold (n + 1 - i) (by omega) (by omega) (by omega) (by omega) (by rw [hz2]; omega) (by rw [hz2, show i + (n + 1 - i) = n + 1 from by omega]; exact growslice_fits (by omega) (by omega))
  rw [show i + (n + 1 - i) = n + 1 from by omega] at h
  rw [show (n : Int) + 1 - (i : Int) = ((n + 1 - i : Nat) : Int) from by omega]
  exact h
 obtain ⟨G, hG⟩ : ∃ G, G = grownCap w (n + 1) n 66 := ⟨_, rfl⟩
 obtain ⟨Z1, hZ1⟩ : ∃ Z1, Z1 = (Builtin.zeroCells (.agg #[.string ⟨#[]⟩, .int .i64 0, .int .i64 0] : Value).cells (n + 1 - i)).toList := ⟨_, rfl⟩
 obtain ⟨Z2, hZ2⟩ : ∃ Z2, Z2 = (Builtin.zeroCells (.agg #[.string ⟨#[]⟩, .int .i64 0, .int .i64 0] : Value).cells (G - (n + 1))).toList := ⟨_, rfl⟩
 have lZ1 : Z1.length = (xs.length + 1 - i) * 3 := by rw [hZ1, Array.length_toList, zeroCells_size, hn]; rfl
 have lZ2 : Z2.length = (G - (n + 1)) * 3 := by rw [hZ2, Array.length_toList, zeroCells_size]; rfl
 obtain ⟨ROW, hROW⟩ : ∃ ROW : Array Value, ROW = ((xs.take i).flatMap Bk.vs).toArray ++ Builtin.zeroCells (.agg #[.string ⟨#[]⟩, .int .i64 0, .int .i64 0] : Value).cells (n + 1 - i) ++ Builtin.zeroCells (.agg #[.string ⟨#[]⟩, .int .i64 0, .int .i64 0] : Value).cells (G - (n + 1)) := ⟨_, rfl⟩
 have hROW2 : ROW = ((xs.take i).flatMap Bk.vs ++ (Z1 ++ Z2)).toArray := by
  rw [hROW, hZ1, hZ2]
  apply Array.toList_inj.1
  simp
 rw [← hG] at hrz
 rw [← hROW] at hrz
 have hGn : n + 1 ≤ G := by rw [hG]; exact grownCap_ge w _ _ _
 have hGm : G ≤ maxLen := by rw [hG]; exact grownCap_le_maxLen w _ _ _ (by unfold maxLen; omega)
 obtain ⟨W1, hW1⟩ : ∃ W1, W1 = w.drew.alloc (.cells ROW 66) := ⟨_, rfl⟩
 have F1 : Frm (fun _ => False) w W1 := by rw [hW1]; exact ((Frm.refl _ w).drew).alloc _
 have S1 : St 66 w.heap.size ((xs.take i).flatMap Bk.vs ++ (Z1 ++ Z2)).toArray W1 := by rw [hW1, ← hROW2]; exact St.new w.drew _ _
 have hv1 : St 66 vb x.vs.toArray W1 := hv.frm F1 id
 have hr1 : Row 66 Bk.vs b xs rest W1 := hrow.frm F1 id
 have hl0 : ((xs.take i).flatMap Bk.vs ++ (Z1 ++ Z2)).length = i * 3 + ((xs.length + 1 - i) * 3 + Z2.length) := by rw [List.length_append, List.length_append, hA, lZ1]
 obtain ⟨W2, hW2⟩ : ∃ W2, W2 = W1.setCells w.heap.size (i * 3) x.vs := ⟨_, rfl⟩
 have hcpA : ∀ ty dc, (Builtin.copy_ #[25, 25] ty #[.slice (some ⟨w.heap.size, i * 3, none⟩) (n + 1 - i) dc, .slice (some ⟨vb, 0, none⟩) 1 1]).run Tryz.prog W1 = .ok (goInt (Nat.min 1 (n + 1 - i))) W2 := fun ty dc => by
  rw [hW2]
  exact run_copy_k W1 _ _ ty 66 w.heap.size (i * 3) (n + 1 - i) dc ⟨vb, 0, none⟩ 1 1 3 x.vs Tryz.underlying25 hsz (by rw [Bk.vs_length]; simp only [Nat.min_def]; split <;> omega)
   (fun j u hj => by rw [Addr.add_mid, Nat.zero_add]; exact hv1.cell (by rw [List.getElem?_toArray]; exact hj))
   (fun j hj => by
    rw [Bk.vs_length] at hj
    have hlt : i * 3 + j < ((xs.take i).flatMap Bk.vs ++ (Z1 ++ Z2)).length := by rw [hl0]; omega
    exact ⟨by rw [S1.cell (j := i * 3 + j) (by rw [List.getElem?_toArray, List.getElem?_eq_getElem hlt])]; rfl, S1.free _⟩) (Bk.one x)
 have S2 : St 66 w.heap.size (splice ((xs.take i).flatMap Bk.vs ++ (Z1 ++ Z2)) (i * 3) x.vs).toArray W2 := by rw [hW2]; exact St.cells _ _ _ _ S1 (by rw [hl0, Bk.vs_length]; omega)
 have F2 : Frm (fun _ => False) w W2 := by rw [hW2]; exact Frm.cells' (.inr (Nat.le_refl _)) _ _ _ F1
 have hr2 : Row 66 Bk.vs b xs rest W2 := hrow.frm F2 id
 obtain ⟨W3, hW3⟩ : ∃ W3, W3 = W2.drew.setCells w.heap.size ((i + 1) * 3) ((xs.drop i).flatMap Bk.vs) := ⟨_, rfl⟩
 have hcpB : ∀ ty dc sc, (Builtin.copy_ #[25, 25] ty #[.slice (some ⟨w.heap.size, (i + 1) * 3, none⟩) (n - i) dc, .slice (some ⟨b, i * 3, none⟩) (n - i) sc]).run Tryz.prog W2.drew = .ok (goInt (Nat.min (n - i) (n - i))) W3 := fun ty dc sc => by
  rw [hW3]
  exact run_copy_k W2.drew _ _ ty 66 w.heap.size ((i + 1) * 3) (n - i) dc ⟨b, i * 3, none⟩ (n - i) sc 3 ((xs.drop i).flatMap Bk.vs) Tryz.underlying25 hsz (by rw [hD, hn]; congr 1; simp only [Nat.min_def]; split <;> omega)
   (fun j u hj => by
    rw [Addr.add_mid]
    refine St.cell (T := 66) (w := W2.drew) hr2 ?_
    rw [List.getElem?_toArray, flat_cut xs i, List.getElem?_append_right (by rw [hA]; omega), hA, Nat.add_sub_cancel_left, List.getElem?_append_left (List.getElem?_eq_some_iff.1 hj).1]
    exact hj)
   (fun j hj => by
    rw [hD] at hj
    have hlt : (i + 1) * 3 + j < (splice ((xs.take i).flatMap Bk.vs ++ (Z1 ++ Z2)) (i * 3) x.vs).length := by rw [length_splice _ _ _ (by rw [hl0, Bk.vs_length]; omega), hl0]; omega
    exact ⟨by rw [St.cell (T := 66) (w := W2.drew) S2 (j := (i + 1) * 3 + j) (by rw [List.getElem?_toArray, List.getElem?_eq_getElem hlt])]; rfl, St.free (T := 66) (w := W2.drew) S2 _⟩) (Bk.flat_one (xs.drop i))
 have hend : Row 66 Bk.vs w.heap.size (xs.take i ++ x :: xs.drop i) Z2 W3 := by
  have h3 := Row.grew (T := 66) (w := W1.drew) Bk.vs_length (by omega) S1 lZ1 x
  rw [hW3, hW2, drew_setCells]
  exact h3
 have F3 : Frm (fun _ => False) w W3 := by rw [hW3]; exact Frm.cells' (.inr (Nat.le_refl _)) _ _ _ F2.drew
 have hown := hend.own Bk.vs_length (B := B) (cap := G) hB (by rw [ins_len (by omega), lZ2, hn, ← Nat.add_mul]; congr 1; rw [hn] at hGn; omega) (by rw [ins_len (by omega), ← hn]; exact hGn) hGm
 rw [ins_len (by omega), ← hn] at hown
 have HOW := hI hown
 have HF3 := hI F3
 have hw1' : w.drew.alloc (.cells ROW 66) = W1 := hW1.symm
 rw [← hn] at hi hm ⊢
 rw [hw1'] at hrz
 have hG63 : G ≤ 9223372036854775807 := hGm
 clear hrow hv hB hD hA hold hZ1 hZ2 lZ1 lZ2 hROW hROW2 hG hGm F1 S1 hv1 hr1 hl0 S2 F2 hr2 hend F3 hown hn hsz hw1' hW1 hW2 hW3
 have hz2 : ¬ ((i : Int) = (n : Int)) := by omega
 have hb0 : (i : Int) ≤ (n : Int) := by omega
 have hb2 : ¬ (G = i) := by omega
 have hb3 : ¬ (G = i + 1) := by omega
 have hb4 : ¬ (n = i) := by omega
 have hb8 : IntKind.i64.wrap ((i : Int) + 1) = (i : Int) + 1 := by rw [IntKind.wrap_i64]; omega
 have hb9 : (0 : Int) ≤ (i : Int) + 1 := by omega
 have hb11 : (i : Int) + 1 ≤ (n : Int) + 1 := by omega
 have hb12 : (i : Int) ≤ (n : Int) + 1 := by omega
 have hb6 : ((i : Int) + 1).toNat = i + 1 := by omega
 go_enter Tryz.func181, Tryz.ntmps181
 go_wp2_with (first
  | (at_builtin; refine Lib.wpList_append_run _ rfl _ _ _ _ rfl _ _ rfl rfl _ _ (hrz _) ?_)
  | (at_builtin; refine wpList_copy_runI _ rfl _ _ 25 25 rfl _ _ rfl rfl (hcpA _ _) ?_))
 go_region_law (refine step_copy_runI rfl _ _ 25 25 rfl _ _ (by simp [Act.eval, Act.put]) (by simp [Act.eval, Act.put]) (hcpB _ _ _) ?_)
 go_wp2
 go_ret
 exact ⟨_, rfl, HOW.out, HF3.out⟩
theorem sxInsPlaced_any {B : Nat} (v : Value) (vb i : Nat) (xs : List Bk) (x : Bk) (w : World) (h : OwnAt 66 3 Bk.vs B v xs w) (hB : B ≤ w.heap.size) (hv : St 66 vb x.vs.toArray w) (hvb : ¬ v.ownBlock = some vb) (hm : xs.length ≤ 1073741823) (hi : i ≤ xs.length) :
 Calls Tryz.prog 181 #[v, .int .i64 i, .slice (some ⟨vb, 0, none⟩) 1 1] w fun e w' => ∃ v', e = .returned v' ∧ OwnAt 66 3 Bk.vs B v' (xs.take i ++ x :: xs.drop i) w' ∧ Frm (fun j => v.ownBlock = some j) w w' := by
 by_cases he : i = xs.length
 · subst he
   rw [List.take_length, List.drop_length]
   exact sxInsPlaced_end v vb xs x w h hB hv hm
 · rcases h.open with ⟨rfl, rfl⟩ | ⟨b, cap, rest, rfl, hB2, hl, hm2, hc, hrow⟩
   · exact absurd (by simpa using hi) he
   · by_cases hcap : cap = xs.length
     · subst hcap
       exact (sxInsPlaced_grow b vb i xs x rest w hrow hv (by omega) hm hB).mono fun e w' ⟨v', h1, h2, h3⟩ => ⟨v', h1, h2, h3.wide fun _ e => e.elim⟩
     · exact (sxInsPlaced_room b cap vb i xs x rest w hrow hv (fun e => hvb (by rw [e]; rfl)) (by omega) (by omega) hc hm2 hB2).mono fun e w' ⟨v', h1, h2, h3⟩ => ⟨v', h1, h2, h3.wide fun j e => by show Value.ownBlock _ = some j; rw [e]; rfl⟩
theorem step_store_mid {P : Program} {ops : Array Oper} {o : Oper} {a : Act} {w : World} {K : Act → World → Prop} {Q : Exit → Act → World → Prop} {E : Prop} (hgd : o.guard = none) (ty : TypeId) (x y : Operand) (ho : o.op = .store ty x y)
 (b off : Nat) (cells : Array Value) (hx : a.eval x = .pointer (some ⟨b, off, none⟩)) (hy : a.eval y = .agg cells)
 (ht : w.there b off cells.size) (hi : (P.info? ty).map (·.size) = some cells.size) (h1 : cells.all (·.oneCell') = true)
 (h : K (a.put o.dst undef) (w.setCells b off cells.toList)) : if Region.wanted o (yielded ops a.tmps) = true then Oper.wp P o a w K Q else E := by
 rw [if_pos (by simp [Region.wanted, hgd])]
 exact wp_store_mid ty x y ho b off cells hx hy ht hi h1 h
end Go.Proofs.YtngfknplljedeaaGreat
namespace Go.Proofs.YtngfknplljedeaaGreat
open Go.RowKit
section
variable {α : Type}
def putAt (lt : α → α → Bool) (xs : List α) (x : α) (i : Nat) : List α := if isAt lt xs x i = true then xs.set i x else xs.take i ++ x :: xs.drop i
theorem isAt_lt {lt : α → α → Bool} {xs : List α} {x : α} {i : Nat} (h : isAt lt xs x i = true) : i < xs.length := by
 unfold isAt at h
 cases e : xs[i]? with
 | none => rw [e] at h; cases h
 | some y => exact (List.getElem?_eq_some_iff.1 e).1
theorem OwnAt.set' {T : TypeId} {k B : Nat} {f : α → List Value} {v : Value} {xs : List α} {w : World} (hf : ∀ x, (f x).length = k) (h : OwnAt T k f B v xs w) {i : Nat} (hi : i < xs.length) (x : α) :
 ∃ g cap, v = .slice (some ⟨g, 0, none⟩) xs.length cap ∧ w.there g (i * k) k ∧ OwnAt T k f B v (xs.set i x) (w.setCells g (i * k) (f x)) := by
 rcases h.open with ⟨_, rfl⟩ | ⟨g, cap, rest, rfl, hB, hl, hm, hc, hrow⟩
 · simp at hi
 · refine ⟨g, cap, rfl, hrow.there hf hi, ?_⟩
   have := (hrow.set hf x hi).own hf (B := B) (cap := cap) hB (by rw [List.length_set]; exact hc) (by rw [List.length_set]; exact hl) hm
   rw [List.length_set] at this
   exact this
end
end Go.Proofs.YtngfknplljedeaaGreat
namespace Go.Proofs.YtngfknplljedeaaGreat
open Go.RowKit
set_option maxRecDepth 100000 in
set_option maxHeartbeats 2000000 in
theorem inPutHeld_any {B b : Nat} (v1 v2 v3 v4 : Value) (xs : List Hd) (x : Hd) (g : Nat) (w : World) (h : OwnAt 49 3 Hd.vs B v1 xs w) (hs : St 27 b #[v1, v2, v3, v4] w) (hB : B ≤ w.heap.size) (hm : xs.length ≤ 1073741823) (eg : ∀ args w, (callFunc g args).run Tryz.prog w = .ok (.enter g args) w)
 (ho : ∀ (W : World) (y z : Hd), Calls Tryz.prog g #[.agg y.vs.toArray, .agg z.vs.toArray] W fun e w' => e = .returned (.int .i64 (ord ltHd y z)) ∧ Below W.heap.size W w')
 (hmono : ∀ (i j : Nat) y z, i ≤ j → xs[i]? = some y → xs[j]? = some z → ltHd z x = true → ltHd y x = true) :
 Calls Tryz.prog 147 #[.pointer (some ⟨b, 0, none⟩), .agg x.vs.toArray, .func (.func g) #[] #[]] w fun e w' => ∃ v' i, e = .returned (.tuple #[]) ∧ Place ltHd xs x i ∧ OwnAt 49 3 Hd.vs B v' (putAt ltHd xs x i) w' ∧ St 27 b #[v', v2, v3, v4] w' ∧ Frm (fun j => v1.ownBlock = some j ∨ j = b) w w' := by
 have hne : ¬ (v1.ownBlock = some b) := fun e => by
  obtain ⟨cur, hc⟩ := h.tag e
  exact absurd (St.tag hc hs) (by decide)
 obtain ⟨w1, hw1⟩ : ∃ w1, w1 = w.alloc (.cells x.vs.toArray 49 (0, 0)) := ⟨_, rfl⟩
 have hb1 : Below w.heap.size w w1 := by rw [hw1]; exact (Below.refl _ w).alloc (Nat.le_refl _) _
 have hst : St 49 w.heap.size x.vs.toArray w1 := by rw [hw1]; exact St.new w _ _
 have hlt := fun j (e : v1.ownBlock = some j) => (World.ownsRow.lt h j e).2
 obtain ⟨ao, n, cap, rfl⟩ := h.slice
 have hnl : n = xs.length := by
  rcases h.2 with ⟨e, e0⟩ | ⟨g, cap, cur, e, _⟩
  · cases e; rw [e0]
  · cases e; rfl
 have HN := hI hnl
 have HO0 := hI h
 have HOW := hI (show ∀ W, Below w1.heap.size w1 W → OwnAt 49 3 Hd.vs B (.slice ao n cap) xs W from fun W hW => h.below (hb1.trans (hW.mono hb1.size)))
 have HSC := hI (show ∀ W, Below w1.heap.size w1 W → St 27 b #[(.slice ao n cap), v2, v3, v4] W from fun W hW => hs.below (hb1.trans (hW.mono hb1.size)))
 have HSX := hI (show ∀ W, Below w1.heap.size w1 W → St 49 w.heap.size x.vs.toArray W from fun W hW => hst.below hW)
 have HBS := hI (show ∀ W, Below w1.heap.size w1 W → Calls Tryz.prog 174 #[.slice ao n cap, .agg x.vs.toArray, .func (.func g) #[] #[]] W fun e w' => (∃ i : Nat, e = .returned (.tuple #[.int .i64 i, .bool (isAt ltHd xs x i)]) ∧ Place ltHd xs x i) ∧ Below W.heap.size W w' from fun W hW => sxBsHeld_any _ xs x g W ((HOW.out W hW).rows Hd.vs_length) hm eg ho hmono)
 have HW1 := hI hw1
 have HB1 := hI hb1
 have HNE := hI hne
 have HLT := hI hlt
 have HBw := hI (Nat.le_trans hB hb1.size)
 have HM := hI hm
 have HBB := hI (show b < w.heap.size from St.lt hs)
 clear hw1 hb1 hst h hs hB hm ho hmono hne hlt hnl eg
 obtain ⟨x0, x1, x2⟩ := x
 show Calls Tryz.prog 147 #[.pointer (some ⟨b, 0, none⟩), .agg #[.int .i64 x0, .int .i64 x1, .string x2], .func (.func g) #[] #[]] w _
 go_enter Tryz.func147, Tryz.ntmps147
 go_wp2_with fail
 rw [show w.alloc (.cells #[.int .i64 x0, .int .i64 x1, .string x2] 49) = w1 from HW1.out.symm]
 have HBD := hI (show Below w1.heap.size w1 w1.drew from (Below.refl _ _).drew)
 have C0 := hI (show w1.drew.cell? ⟨b, 0, none⟩ = some (.slice ao n cap) ∧ St 49 w.heap.size #[.int .i64 x0, .int .i64 x1, .string x2] w1.drew from ⟨(HSC.out _ HBD.out).cell rfl, HSX.out _ HBD.out⟩)
 refine wp_region_held (S := (fun W => W.cell? ⟨b, 0, none⟩ = some (.slice ao n cap) ∧ St 49 w.heap.size #[.int .i64 x0, .int .i64 x1, .string x2] W)) (by kernel_rfl) ?_
 change wpAnyH _ _ _ _ _ _ _ _ (World.drew _)
 generalize World.drew w1 = WD at HBD C0 ⊢
 refine tkp 0 (.pointer (some ⟨b, 0, none⟩)) rfl (by kernel_rfl) q3 (fun w' hS => ?_) C0.out ?_
 · clear hS; go_simp
 try go_simp
 refine tkp 1 (.pointer (some ⟨b, 0, none⟩)) rfl (by kernel_rfl) q3 (fun w' hS => ?_) C0.out ?_
 · clear hS; go_simp
 try go_simp
 refine tkp 2 (.slice ao n cap) rfl (by kernel_rfl) q3 (fun w' hS => ?_) C0.out ?_
 · obtain ⟨s0, _⟩ := hS; go_simp
 try go_simp
 refine tkl 3 (.agg #[.int .i64 x0, .int .i64 x1, .string x2]) rfl (by kernel_rfl) q3 (yld_boxi (by kernel_rfl) 49 (.tmp 4) rfl (w.heap.size) (by first | rfl | simp [Act.eval, Act.put]) 49 #[.int .i64 x0, .int .i64 x1, .string x2] (fun w' hS => hS.2) _ Tryz.underlying49 rfl (by kernel_rfl)) C0.out ?_
 try go_simp
 refine tkp 4 (.func (.func g) #[] #[]) rfl (by kernel_rfl) q3 (fun w' hS => ?_) C0.out ?_
 · clear hS; go_simp
 try go_simp
 refine rd1 5 (by kernel_rfl) rfl fun K hK => ?_
 go_simp
 refine (HBS.out _ HBD.out).mono ?_
 rintro e w2 ⟨⟨i, rfl, hpl⟩, hb⟩
 have HPL := hI hpl
 have B2 := hI (HBD.out.trans (hb.mono HBD.out.size))
 have C2 := hI (show w2.cell? ⟨b, 0, none⟩ = some (.slice ao n cap) ∧ St 49 w.heap.size #[.int .i64 x0, .int .i64 x1, .string x2] w2 from ⟨(HSC.out _ B2.out).cell rfl, HSX.out _ B2.out⟩)
 clear hb hpl
 obtain ⟨f, hf⟩ : ∃ f, f = isAt ltHd xs (⟨x0, x1, x2⟩ : Hd) i := ⟨_, rfl⟩
 rw [← hf]
 have HFF := hI hf
 clear hf
 go_simp
 refine hK.out _ _ C2.out (fun S1 => ?_)
 clear hK K S1
 refine tkp 6 (.tuple #[.int .i64 i, .bool f]) rfl (by kernel_rfl) q3 (fun w' hS => ?_) C2.out ?_
 · clear hS; go_simp
 try go_simp
 refine tkp 7 (.int .i64 i) rfl (by kernel_rfl) q3 (fun w' hS => ?_) C2.out ?_
 · clear hS; go_simp
 try go_simp
 refine tkp 8 (.bool f) rfl (by kernel_rfl) q3 (fun w' hS => ?_) C2.out ?_
 · clear hS; go_simp
 try go_simp
 refine rd1 9 (by kernel_rfl) rfl fun K hK => ?_
 go_simp
 refine hK.out _ _ C2.out (fun S1 => ?_)
 clear hK K S1
 refine rd1 10 (by kernel_rfl) rfl fun K hK => ?_
 go_simp
 refine hK.out _ _ C2.out (fun S1 => ?_)
 clear hK K S1
 refine wpAnyH_done (by kernel_rfl) ?_ _
 cases f with
 | true =>
  have HIL := hI (isAt_lt HFF.out.symm)
  have i0 : (0 : Int) ≤ (i : Int) := by omega
  have i1 : (i : Int) < (n : Int) := by have := HIL.out; rw [← HN.out] at this; omega
  obtain ⟨q, hq⟩ : ∃ q, ao = some ⟨q, 0, none⟩ := by
   rcases HO0.out.2 with ⟨e, e0⟩ | ⟨g, cap, cur, e, _⟩
   · have := HIL.out; omega
   · cases e; exact ⟨_, rfl⟩
  subst hq
  have B3 := hI (show Below w1.heap.size w1 w2.drew from B2.out.drew)
  have HTO := hI (show w2.drew.there q (i * 3) 3 ∧ OwnAt 49 3 Hd.vs B (.slice (some ⟨q, 0, none⟩) n cap) (xs.set i (⟨x0, x1, x2⟩ : Hd)) (w2.drew.setCells q (i * 3) (⟨x0, x1, x2⟩ : Hd).vs) from by
   obtain ⟨q2, cap2, hq, hth, hown⟩ := (HOW.out _ B3.out).set' Hd.vs_length HIL.out (⟨x0, x1, x2⟩ : Hd)
   cases hq
   exact ⟨hth, hown⟩)
  have C3 := hI (show w2.drew.cell? ⟨b, 0, none⟩ = some (.slice (some ⟨q, 0, none⟩) n cap) ∧ St 49 w.heap.size #[.int .i64 x0, .int .i64 x1, .string x2] w2.drew from ⟨(HSC.out _ B3.out).cell rfl, HSX.out _ B3.out⟩)
  go_wp2_with fail
  refine wp_region_held (S := (fun W => W.cell? ⟨b, 0, none⟩ = some (.slice (some ⟨q, 0, none⟩) n cap) ∧ St 49 w.heap.size #[.int .i64 x0, .int .i64 x1, .string x2] W)) (by kernel_rfl) ?_
  change wpAnyH _ _ _ _ _ _ _ _ (World.drew _)
  generalize World.drew w2 = WE at B3 HTO C3 ⊢
  refine tkp 0 (.pointer (some ⟨b, 0, none⟩)) rfl (by kernel_rfl) q3 (fun w' hS => ?_) C3.out ?_
  · clear hS; go_simp
  try go_simp
  refine tkp 1 (.pointer (some ⟨b, 0, none⟩)) rfl (by kernel_rfl) q3 (fun w' hS => ?_) C3.out ?_
  · clear hS; go_simp
  try go_simp
  refine tkp 2 (.slice (some ⟨q, 0, none⟩) n cap) rfl (by kernel_rfl) q3 (fun w' hS => ?_) C3.out ?_
  · obtain ⟨s0, _⟩ := hS; go_simp
  try go_simp
  refine tkp 3 (.int .i64 i) rfl (by kernel_rfl) q3 (fun w' hS => ?_) C3.out ?_
  · clear hS; go_simp
  try go_simp
  refine tkl 4 (.agg #[.int .i64 x0, .int .i64 x1, .string x2]) rfl (by kernel_rfl) q3 (yld_boxi (by kernel_rfl) 49 (.tmp 4) rfl (w.heap.size) (by first | rfl | simp [Act.eval, Act.put]) 49 #[.int .i64 x0, .int .i64 x1, .string x2] (fun w' hS => hS.2) _ Tryz.underlying49 rfl (by kernel_rfl)) C3.out ?_
  try go_simp
  refine tkp 5 (.pointer (some ⟨q, i * 3, none⟩)) rfl (by kernel_rfl) q3 (fun w' hS => ?_) C3.out ?_
  · clear hS; go_simp
  try go_simp
  refine rd1 6 (by kernel_rfl) rfl fun K hK => ?_
  refine step_store_mid rfl 49 (.tmp 23) (.tmp 22) rfl q (i * 3) #[.int .i64 x0, .int .i64 x1, .string x2] (by first | rfl | simp [Act.eval, Act.put]) (by first | rfl | simp [Act.eval, Act.put]) HTO.out.1 (by kernel_rfl) (all_oneCell_toArray (Hd.one (⟨x0, x1, x2⟩ : Hd))) ?_
  have hqb : q ≠ b := fun e => HNE.out (by rw [e]; rfl)
  have hqx : q < w.heap.size := HLT.out q rfl
  have F4 := hI (show Frm (fun j => j = q) w (WE.setCells q (i * 3) (⟨x0, x1, x2⟩ : Hd).vs) from Frm.cells' (F := fun j => j = q) (g := q) (.inl rfl) _ _ _ (Frm.of_below (HB1.out.trans (B3.out.mono HB1.out.size))))
  have F5 := hI (show Frm (fun j => j = q) WE (WE.setCells q (i * 3) (⟨x0, x1, x2⟩ : Hd).vs) from Frm.cells' (F := fun j => j = q) (g := q) (.inl rfl) _ _ _ (Frm.refl _ _))
  have C4 := hI (show (WE.setCells q (i * 3) (⟨x0, x1, x2⟩ : Hd).vs).cell? ⟨b, 0, none⟩ = some (.slice (some ⟨q, 0, none⟩) n cap) ∧ St 49 w.heap.size #[.int .i64 x0, .int .i64 x1, .string x2] (WE.setCells q (i * 3) (⟨x0, x1, x2⟩ : Hd).vs) from ⟨((HSC.out _ B3.out).frm F5.out (fun e => hqb e.symm)).cell rfl, St.frm (T := 49) C3.out.2 F5.out (by omega)⟩)
  have S4 := hI (show St 27 b #[(.slice (some ⟨q, 0, none⟩) n cap), v2, v3, v4] (WE.setCells q (i * 3) (⟨x0, x1, x2⟩ : Hd).vs) from (HSC.out _ B3.out).frm F5.out (fun e => hqb e.symm))
  go_simp
  refine hK.out _ _ C4.out (fun S1 => ?_)
  clear hK K S1
  refine wpAnyH_done (by kernel_rfl) ?_ _
  go_wp2_with fail
  go_returns
  refine ⟨_, i, rfl, HPL.out, ?_, S4.out, F4.out.wide fun j e => .inl (by show Value.ownBlock _ = some j; rw [e]; rfl)⟩
  unfold putAt
  rw [if_pos HFF.out.symm]
  exact HTO.out.2
 | false =>
  have B3 := hI (show Below w1.heap.size w1 w2.drew from B2.out.drew)
  have C3 := hI (show St 49 w.heap.size #[.int .i64 x0, .int .i64 x1, .string x2] w2.drew from HSX.out _ B3.out)
  have c3 : w2.drew.cell? ⟨b, 0, none⟩ = some (.slice ao n cap) := (HSC.out _ B3.out).cell rfl
  go_wp2_with fail
  refine wp_region_held (S := (fun W => St 49 w.heap.size #[.int .i64 x0, .int .i64 x1, .string x2] W)) (by kernel_rfl) ?_
  change wpAnyH _ _ _ _ _ _ _ _ (World.drew _)
  generalize World.drew w2 = WE at B3 C3 c3 ⊢
  refine tkp 0 (.pointer (some ⟨b, 0, none⟩)) rfl (by kernel_rfl) q3 (fun w' hS => ?_) C3.out ?_
  · clear hS; go_simp
  try go_simp
  refine tkp 1 (.pointer (some ⟨b, 0, none⟩)) rfl (by kernel_rfl) q3 (fun w' hS => ?_) C3.out ?_
  · clear hS; go_simp
  try go_simp
  refine tkp 2 (.pointer (some ⟨b, 0, none⟩)) rfl (by kernel_rfl) q3 (fun w' hS => ?_) C3.out ?_
  · clear hS; go_simp
  try go_simp
  refine tkp 4 (.int .i64 i) rfl (by kernel_rfl) q3 (fun w' hS => ?_) C3.out ?_
  · clear hS; go_simp
  try go_simp
  refine tkl 5 (.agg #[.int .i64 x0, .int .i64 x1, .string x2]) rfl (by kernel_rfl) q3 (yld_boxi (by kernel_rfl) 49 (.tmp 4) rfl (w.heap.size) (by first | rfl | simp [Act.eval, Act.put]) 49 #[.int .i64 x0, .int .i64 x1, .string x2] (fun w' hS => hS) _ Tryz.underlying49 rfl (by kernel_rfl)) C3.out ?_
  try go_simp
  refine wpAnyH_ready (rs := [3, 6]) (by kernel_rfl) (by simp) ?_
  refine AllReadyH.cons rfl (fun K hK => ?_) (AllReadyH.cons rfl (fun K hK => ?_) AllReadyH.nil)
  · go_simp
    refine hK.out _ _ C3.out (fun S1 => ?_)
    clear hK K S1
    refine rd1 6 (by kernel_rfl) rfl fun K hK => ?_
    go_simp
    obtain ⟨W4, hw4⟩ : ∃ W, W = WE.alloc (.cells #[.int .i64 x0, .int .i64 x1, .string x2] 49 (0, 0)) := ⟨_, rfl⟩
    have B4 := hI (show Below w1.heap.size w1 W4 from by rw [hw4]; exact B3.out.alloc B3.out.size _)
    have N4 := hI (show St 49 WE.heap.size #[.int .i64 x0, .int .i64 x1, .string x2] W4 from by rw [hw4]; exact St.new _ _ _)
    obtain ⟨z, hz⟩ : ∃ z, z = WE.heap.size := ⟨_, rfl⟩
    have HZ := hI (show w1.heap.size ≤ z from by rw [hz]; exact B3.out.size)
    rw [show WE.alloc (.cells #[.int .i64 x0, .int .i64 x1, .string x2] 49) = W4 from hw4.symm, ← hz]
    rw [← hz] at N4
    have C4 := hI (HSX.out _ B4.out)
    have c4 : W4.cell? ⟨b, 0, none⟩ = some (.slice ao n cap) := (HSC.out _ B4.out).cell rfl
    clear hw4 hz
    refine hK.out _ _ C4.out (fun S1 => ?_)
    clear hK K S1
    refine rd1 7 (by kernel_rfl) rfl fun K hK => ?_
    go_simp
    refine (sxInsHeld_any (.slice ao n cap) z i xs (⟨x0, x1, x2⟩ : Hd) _ (HOW.out _ B4.out) (Nat.le_trans HBw.out B4.out.size) N4.out (fun e => by have := HLT.out z e; have h1 := HZ.out; have h2 := HB1.out.size; omega) HM.out HPL.out.le).mono ?_
    rintro e w9 ⟨v', rfl, ho, hf⟩
    obtain ⟨a2, n2, c2, rfl⟩ := ho.slice
    have HO := hI ho
    have HF := hI hf
    have S9 := hI (St.frm (HSC.out _ B4.out) hf HNE.out)
    have C9 := hI (show St 49 w.heap.size #[.int .i64 x0, .int .i64 x1, .string x2] w9 from St.frm (T := 49) C4.out hf (fun e => by have := HLT.out _ e; omega))
    have c9 : w9.cell? ⟨b, 0, none⟩ = some (.slice ao n cap) := S9.out.cell rfl
    have f9 := S9.out.free 0
    clear ho hf
    go_simp
    refine hK.out _ _ C9.out (fun S1 => ?_)
    clear hK K S1
    refine tkp 8 (.pointer (some ⟨b, 0, none⟩)) rfl (by kernel_rfl) q3 (fun w' hS => ?_) C9.out ?_
    · clear hS; go_simp
    try go_simp
    refine rd1 9 (by kernel_rfl) rfl fun K hK => ?_
    go_simp
    have C8 := hI (show St 49 w.heap.size #[.int .i64 x0, .int .i64 x1, .string x2] (w9.setCell ⟨b, 0, none⟩ (.slice a2 n2 c2)) from St.other (T := 49) C9.out _ _ _ (by have := HBB.out; omega))
    refine hK.out _ _ C8.out (fun S1 => ?_)
    clear hK K S1
    refine wpAnyH_done (by kernel_rfl) ?_ _
    go_wp2_with fail
    go_end0
    have FS : Frm (fun j => j = b) w9 (w9.setCell ⟨b, 0, none⟩ (.slice a2 n2 c2)) := Frm.setCell (F := fun j => j = b) (Frm.refl _ _) (.inl rfl) _
    refine ⟨.slice a2 n2 c2, i, rfl, HPL.out, ?_, S9.out.set 0 _, ?_⟩
    · unfold putAt
      rw [if_neg (by rw [← HFF.out]; decide)]
      refine FS.own HO.out fun j hj e => ?_
      subst e
      obtain ⟨cur, hc⟩ := HO.out.tag hj
      exact absurd (St.tag hc S9.out) (by decide)
    · exact ((Frm.of_below (HB1.out.trans (B4.out.mono HB1.out.size))).next (HF.out.wide fun j e => .inl e)).next (FS.wide fun j e => .inr e)
  · go_simp
    obtain ⟨W4, hw4⟩ : ∃ W, W = WE.alloc (.cells #[.int .i64 x0, .int .i64 x1, .string x2] 49 (0, 0)) := ⟨_, rfl⟩
    have B4 := hI (show Below w1.heap.size w1 W4 from by rw [hw4]; exact B3.out.alloc B3.out.size _)
    have N4 := hI (show St 49 WE.heap.size #[.int .i64 x0, .int .i64 x1, .string x2] W4 from by rw [hw4]; exact St.new _ _ _)
    obtain ⟨z, hz⟩ : ∃ z, z = WE.heap.size := ⟨_, rfl⟩
    have HZ := hI (show w1.heap.size ≤ z from by rw [hz]; exact B3.out.size)
    rw [show WE.alloc (.cells #[.int .i64 x0, .int .i64 x1, .string x2] 49) = W4 from hw4.symm, ← hz]
    rw [← hz] at N4
    have C4 := hI (HSX.out _ B4.out)
    have c4 : W4.cell? ⟨b, 0, none⟩ = some (.slice ao n cap) := (HSC.out _ B4.out).cell rfl
    clear hw4 hz
    refine hK.out _ _ C4.out (fun S1 => ?_)
    clear hK K S1
    refine rd1 3 (by kernel_rfl) rfl fun K hK => ?_
    go_simp
    refine hK.out _ _ C4.out (fun S1 => ?_)
    clear hK K S1
    refine rd1 7 (by kernel_rfl) rfl fun K hK => ?_
    go_simp
    refine (sxInsHeld_any (.slice ao n cap) z i xs (⟨x0, x1, x2⟩ : Hd) _ (HOW.out _ B4.out) (Nat.le_trans HBw.out B4.out.size) N4.out (fun e => by have := HLT.out z e; have h1 := HZ.out; have h2 := HB1.out.size; omega) HM.out HPL.out.le).mono ?_
    rintro e w9 ⟨v', rfl, ho, hf⟩
    obtain ⟨a2, n2, c2, rfl⟩ := ho.slice
    have HO := hI ho
    have HF := hI hf
    have S9 := hI (St.frm (HSC.out _ B4.out) hf HNE.out)
    have C9 := hI (show St 49 w.heap.size #[.int .i64 x0, .int .i64 x1, .string x2] w9 from St.frm (T := 49) C4.out hf (fun e => by have := HLT.out _ e; omega))
    have c9 : w9.cell? ⟨b, 0, none⟩ = some (.slice ao n cap) := S9.out.cell rfl
    have f9 := S9.out.free 0
    clear ho hf
    go_simp
    refine hK.out _ _ C9.out (fun S1 => ?_)
    clear hK K S1
    refine tkp 8 (.pointer (some ⟨b, 0, none⟩)) rfl (by kernel_rfl) q3 (fun w' hS => ?_) C9.out ?_
    · clear hS; go_simp
    try go_simp
    refine rd1 9 (by kernel_rfl) rfl fun K hK => ?_
    go_simp
    have C8 := hI (show St 49 w.heap.size #[.int .i64 x0, .int .i64 x1, .string x2] (w9.setCell ⟨b, 0, none⟩ (.slice a2 n2 c2)) from St.other (T := 49) C9.out _ _ _ (by have := HBB.out; omega))
    refine hK.out _ _ C8.out (fun S1 => ?_)
    clear hK K S1
    refine wpAnyH_done (by kernel_rfl) ?_ _
    go_wp2_with fail
    go_end0
    have FS : Frm (fun j => j = b) w9 (w9.setCell ⟨b, 0, none⟩ (.slice a2 n2 c2)) := Frm.setCell (F := fun j => j = b) (Frm.refl _ _) (.inl rfl) _
    refine ⟨.slice a2 n2 c2, i, rfl, HPL.out, ?_, S9.out.set 0 _, ?_⟩
    · unfold putAt
      rw [if_neg (by rw [← HFF.out]; decide)]
      refine FS.own HO.out fun j hj e => ?_
      subst e
      obtain ⟨cur, hc⟩ := HO.out.tag hj
      exact absurd (St.tag hc S9.out) (by decide)
    · exact ((Frm.of_below (HB1.out.trans (B4.out.mono HB1.out.size))).next (HF.out.wide fun j e => .inl e)).next (FS.wide fun j e => .inr e)
set_option maxRecDepth 100000 in
set_option maxHeartbeats 2000000 in
theorem inSetName_no {B b : Nat} (v1 v2 v3 v4 : Value) (c : CA) (x : Kn) (w : World) (s : St 27 b #[v1, v2, v3, v4] w) (o1 : OwnAt 49 3 Hd.vs B v1 c.helds w) (o2 : OwnAt 57 11 Cd.vs B v2 c.files w) (o3 : OwnAt 61 3 Kn.vs B v3 c.names w) (o4 : OwnAt 66 3 Bk.vs B v4 c.blocks w) (hb : B ≤ b) (hm : c.lens 1073741823) (h1 : c.files.any (pFile x.dir) = false) :
 Calls Tryz.prog 117 #[.pointer (some ⟨b, 0, none⟩), .agg x.vs.toArray] w fun e w' => e = .returned (.bool false) ∧ Below w.heap.size w w' := by
 obtain ⟨w1, hw1⟩ : ∃ w1, w1 = w.alloc (.cells x.vs.toArray 61 (0, 0)) := ⟨_, rfl⟩
 have hb1 : Below w.heap.size w w1 := by rw [hw1]; exact (Below.refl _ w).alloc (Nat.le_refl _) _
 have hst : St 61 w.heap.size x.vs.toArray w1 := by rw [hw1]; exact St.new w _ _
 obtain ⟨x0, x1, x2⟩ := x
 have HST := hI (show St 61 w.heap.size #[.string x0, .string x1, .string x2] w1 from hst)
 have HW1 := hI (show w1 = w.alloc (.cells #[.string x0, .string x1, .string x2] 61 (0, 0)) from hw1)
 have HB1 := hI hb1
 have H1 := hI o1
 have H2 := hI o2
 have H3 := hI o3
 have H4 := hI o4
 have HSb := hI s
 have HBb := hI hb
 have HM := hI hm
 have lb0 := hI s.lt
 clear hst hw1 hb1 s o1 o2 o3 o4 hb hm
 have HH := hI (show ∀ (W : World) (lb : Array Value) (F : Nat → Prop), Below w1.heap.size w1 W → PredW Tryz.prog 125 lb Cd.vs (pFile x0) F W → Calls Tryz.prog 151 #[v2, .func (.func 125) #[] lb] W fun e w' => e = .returned (.bool false) ∧ Below W.heap.size W w' from fun W lb F hW hp => by
  rw [← (show c.files.any (pFile x0) = false from h1)]
  exact sxHasCached_any v2 c.files _ _ lb F W ((H2.out.below (HB1.out.trans (hW.mono HB1.out.size))).rows Cd.vs_length) (enters_of Tryz.func125 (by kernel_rfl) rfl) hp)
 have HS := hI (show ∀ W, Below w1.heap.size w1 W → W.cell? ⟨b, 1, none⟩ = some v2 ∧ W.cell? ⟨w.heap.size, 0, none⟩ = some (.string x0) from fun W hW => ⟨(HSb.out.below (HB1.out.trans (hW.mono HB1.out.size))).cell rfl, (HST.out.below hW).cell rfl⟩)
 clear h1
 show Calls Tryz.prog 117 #[.pointer (some ⟨b, 0, none⟩), .agg #[.string x0, .string x1, .string x2]] w _
 go_enter Tryz.func117, Tryz.ntmps117
 go_wp2_with fail
 rw [show w.alloc (.cells #[.string x0, .string x1, .string x2] 61) = w1 from HW1.out.symm]
 have HBD := hI (show Below w1.heap.size w1 w1.drew from (Below.refl _ _).drew)
 have C0 := hI (HS.out _ HBD.out)
 refine wp_region_held (S := (fun W => W.cell? ⟨b, 1, none⟩ = some v2 ∧ W.cell? ⟨w.heap.size, 0, none⟩ = some (.string x0))) (by kernel_rfl) ?_
 change wpAnyH _ _ _ _ _ _ _ _ (World.drew _)
 generalize World.drew w1 = WD at HBD C0 ⊢
 refine tkp 0 (.pointer (some ⟨b, 0, none⟩)) rfl (by kernel_rfl) q3 (fun w' hS => ?_) C0.out ?_
 · clear hS; go_simp
 try go_simp
 refine tkp 1 (.pointer (some ⟨b, 0, none⟩)) rfl (by kernel_rfl) q3 (fun w' hS => ?_) C0.out ?_
 · clear hS; go_simp
 try go_simp
 refine tkp 2 (.pointer (some ⟨b, 1, none⟩)) rfl (by kernel_rfl) q3 (fun w' hS => ?_) C0.out ?_
 · clear hS; go_simp
 try go_simp
 refine tkp 3 (v2) rfl (by kernel_rfl) q3 (fun w' hS => ?_) C0.out ?_
 · obtain ⟨s0, s1⟩ := hS; go_simp
 try go_simp
 refine tkp 4 (.pointer (some ⟨w.heap.size, 0, none⟩)) rfl (by kernel_rfl) q3 (fun w' hS => ?_) C0.out ?_
 · clear hS; go_simp
 try go_simp
 refine tkp 5 (.string x0) rfl (by kernel_rfl) q3 (fun w' hS => ?_) C0.out ?_
 · obtain ⟨s0, s1⟩ := hS; go_simp
 try go_simp
 refine rd1 6 (by kernel_rfl) rfl fun K hK => ?_
 go_simp
 refine (inqFile_any x0 _).mono ?_
 rintro e w5 ⟨lb, rfl, hb, hp⟩
 have HP := hI hp
 clear hp
 have B5 := hI (HBD.out.trans (hb.mono HBD.out.size))
 clear hb
 go_simp
 refine hK.out _ _ (HS.out _ B5.out) (fun S1 => ?_)
 clear hK K S1
 refine rd1 7 (by kernel_rfl) rfl fun K hK => ?_
 go_simp
 refine (HH.out _ lb _ B5.out HP.out).mono ?_
 rintro e w6 ⟨rfl, hb⟩
 have B6 := hI (B5.out.trans (hb.mono B5.out.size))
 clear hb
 go_simp
 refine hK.out _ _ (HS.out _ B6.out) (fun S1 => ?_)
 clear hK K S1
 refine tkp 8 (.bool true) rfl (by kernel_rfl) q3 (fun w' hS => ?_) (HS.out _ B6.out) ?_
 · clear hS; go_simp
 try go_simp
 refine wpAnyH_done (by kernel_rfl) ?_ _
 go_wp2
 go_returns
 exact ⟨rfl, HB1.out.trans (B6.out.mono HB1.out.size)⟩
end Go.Proofs.YtngfknplljedeaaGreat
