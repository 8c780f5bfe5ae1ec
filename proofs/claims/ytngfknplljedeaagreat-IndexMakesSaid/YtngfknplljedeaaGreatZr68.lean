/- Lemmas for the laws of index. -/
import Derived.Test.YtngfknplljedeaaGreatZr22
import Derived.Test.YtngfknplljedeaaGreatZr24
import Derived.Test.YtngfknplljedeaaGreatZr49
import Derived.Test.YtngfknplljedeaaGreatZr53
import Derived.Test.YtngfknplljedeaaGreatZr55
import Derived.Test.YtngfknplljedeaaGreatZr58
import Derived.Test.YtngfknplljedeaaGreatZr59
import Derived.Test.YtngfknplljedeaaGreatZrHi
namespace Go.Proofs.YtngfknplljedeaaGreat
open Go.RowKit
def CA.touch (c : CA) (u : ByteArray) : CA := ⟨c.helds, (match c.files with | [] => [] | x :: l => ⟨u, x.attr⟩ :: l), c.names, c.blocks⟩
theorem own_apart {T T' : TypeId} {k k' : Nat} {α β : Type} {f : α → List Value} {f' : β → List Value} {B B' : Nat} {v : Value} {xs : List α} {ys : List β} {w : World} {g n cap : Nat} (h : OwnAt T k f B v xs w) (h' : OwnAt T' k' f' B' (.slice (some ⟨g, 0, none⟩) n cap) ys w) (hT : T ≠ T') : v.ownBlock ≠ some g := by
 intro e
 rcases h.2 with ⟨rfl, _⟩ | ⟨g1, cap1, cur1, rfl, _, hg1, _⟩
 · cases e
 · cases e
   rcases h'.2 with ⟨e2, _⟩ | ⟨g2, cap2, cur2, e2, _, hg2, _⟩
   · cases e2
   · cases e2
     rw [hg1] at hg2
     cases hg2
     exact hT rfl
theorem RowsAt.touch {B : Nat} {g n cap : Nat} {x : Cd} {l : List Cd} {w : World} {u : ByteArray} (h : RowsAt B 11 Cd.vs (.slice (some ⟨g, 0, none⟩) n cap) (x :: l) w) : RowsAt B 11 Cd.vs (.slice (some ⟨g, 0, none⟩) n cap) (⟨u, x.attr⟩ :: l) (w.setCell ⟨g, 0, none⟩ (.string u)) := by
 obtain ⟨ao, cap', b, off, e, hl, hao, hx⟩ := h
 cases e
 obtain ⟨e1, e2⟩ := hao (by simp)
 cases e1
 refine ⟨_, _, g, 0, rfl, hl, fun _ => ⟨rfl, e2⟩, fun i y hi j z hz => ?_⟩
 match i, hi with
 | 0, hi =>
  cases hi
  match j, hz with
  | 0, hz =>
   cases hz
   have := hx 0 x rfl 0 _ rfl
   exact World.cell?_setCell_same _ _ _ this
  | j + 1, hz =>
   have := hx 0 x rfl (j + 1) z hz
   have hne : (⟨g, 0, none⟩ : Addr) ≠ ⟨g, 0 + 0 * 11 + (j + 1), none⟩ := fun e => by
    have := congrArg Addr.off e
    simp only at this
    omega
   rw [World.cell?_setCell_other _ _ _ _ hne]
   exact this
 | i + 1, hi =>
  have := hx (i + 1) y hi j z hz
  have hne : (⟨g, 0, none⟩ : Addr) ≠ ⟨g, 0 + (i + 1) * 11 + j, none⟩ := fun e => by
   have := congrArg Addr.off e
   simp only at this
   omega
  rw [World.cell?_setCell_other _ _ _ _ hne]
  exact this
theorem CA.touch_ne (c : CA) (x : Cd) (l : List Cd) (u : ByteArray) (h : c.files = x :: l) (hu : u ≠ x.up) : decide (c.touch u = c) = false := by
 refine decide_eq_false fun e => hu ?_
 have := congrArg CA.files e
 unfold CA.touch at this
 rw [h] at this
 simp only [List.cons.injEq, and_true] at this
 exact congrArg Cd.up this
set_option maxRecDepth 100000 in
set_option maxHeartbeats 8000000 in
theorem imakes_walk (v : Value) (xs : List Ch) (w : World) (h : RowsAt w.heap.size 18 Ch.vs v xs w) (hn : ∀ x ∈ xs, x.num) : Calls Tryz.prog 7 #[v] w fun e w' => e = .returned (.bool true) ∧ Below w.heap.size w w' := by
 have HLg := hI (rxLarge_any v xs w h)
 have HNm := hI hn
 clear hn
 have HKn := hI (fun W => ixknown_any W)
 have HMd := hI (show xs.length ≤ 40 → Calls Tryz.prog 18 #[v] w fun e w' => ∃ cs, e = .returned (.agg cs.toArray) ∧ CAt w'.heap.size cs (CA.made xs) w' ∧ Below w.heap.size w w' from fun hn => ixMade_any v xs w h (by omega))
 clear h
 go_enter Tryz.func7, Tryz.ntmps7
 go_wp2_with (first
  | (go_at_call 14; go_must (with_reducible refine HLg.out.mono ?_); rintro e5 w5 ⟨⟨r, rfl, hr⟩, rfl⟩; have HR := hI hr; clear hr; cases r)
  | (go_at_call 10; go_must (with_reducible refine (HKn.out _).mono ?_); rintro e6 w6 ⟨rfl, b6⟩))
 · have h1 := (HR.out (by trivial)).1
   have HMd := hI (HMd.out h1)
   have hok := CA.made_ok xs
   have hnum := CA.made_num xs HNm.out
   have hle := (CA.made_lens xs).mono h1
   obtain ⟨c, hc⟩ : ∃ c, c = CA.made xs := ⟨_, rfl⟩
   rw [← hc] at HMd hok hle hnum
   have HCh := hI (show ∀ (es : List Value) W, CAt W.heap.size es c W → Calls Tryz.prog 31 #[.agg es.toArray] W fun e w' => ∃ v, e = .returned v ∧ RowsAt w'.heap.size 18 Ch.vs v c.changes w' ∧ Below W.heap.size W w' from fun es W q => rcChanges_any es c W q (by obtain ⟨q1, q2, q3, q4⟩ := hle; omega))
   have HAl := hI (show ∀ (u : Value) W, RowsAt W.heap.size 18 Ch.vs u c.changes W → Calls Tryz.prog 19 #[.agg #[.slice none 0 0, .slice none 0 0, .slice none 0 0, .slice none 0 0], u] W fun e w' => ∃ ds, e = .returned (.tuple #[.agg ds.toArray, .bool true]) ∧ CAt w'.heap.size ds c w' ∧ Below W.heap.size W w' from fun u W q => by
    have := inAll_any [.slice none 0 0, .slice none 0 0, .slice none 0 0, .slice none 0 0] CA.none u c.changes W (zero_at _ _) CA.none_ok 0 ⟨by simp [CA.none], by simp [CA.none], by simp [CA.none], by simp [CA.none]⟩ q (by rw [CA.changes_length]; obtain ⟨q1, q2, q3, q4⟩ := hle; omega) (CA.num_changes hnum)
    rw [hok.all_made] at this
    exact this)
   have HCl := hI (show ∀ (es : List Value) W, CAt W.heap.size es c W → Calls Tryz.prog 32 #[.agg es.toArray] W fun e w' => ∃ v1 v2 v3 v4, e = .returned (.agg #[v1, v2, v3, v4]) ∧ OwnAt 49 3 Hd.vs W.heap.size v1 c.helds w' ∧ OwnAt 57 11 Cd.vs W.heap.size v2 c.files w' ∧ OwnAt 61 3 Kn.vs W.heap.size v3 c.names w' ∧ OwnAt 66 3 Bk.vs W.heap.size v4 c.blocks w' ∧ Below W.heap.size W w' from fun es W q => (inClone_any es c W q (hle.mono (by omega))).mono fun e w' ⟨v1, v2, v3, v4, he, ho, hb⟩ => ⟨v1, v2, v3, v4, he, ho.1, ho.2.1, ho.2.2.1, ho.2.2.2, hb⟩)
   have HSm := hI (show ∀ (es fs : List Value) W, CAt W.heap.size es c W → CAt W.heap.size fs c W → Calls Tryz.prog 17 #[.agg es.toArray, .agg fs.toArray] W fun e w' => e = .returned (.bool true) ∧ Below W.heap.size W w' from fun es fs W q1 q2 => by
    have hs : c.helds.length + c.files.length + c.names.length + c.blocks.length ≤ 1073741824 := by obtain ⟨q1, q2, q3, q4⟩ := hle; omega
    have := ixSame_any es fs c c W q1 q2 (Nat.le_refl _) hs hs
    rw [decide_eq_true rfl] at this
    exact this)
   have HSp := hI (show ∀ (es fs : List Value) W, CAt W.heap.size es c W → CAt W.heap.size fs c W → Calls Tryz.prog 33 #[.agg es.toArray, .agg fs.toArray] W fun e w' => e = .returned (.bool true) ∧ Below W.heap.size W w' from fun es fs W q1 q2 => by
    have := inSame_any es fs c c W q1 q2
    rw [decide_eq_true rfl] at this
    exact this)
   have HSd := hI (show ∀ (es fs : List Value) (x : Cd) (l : List Cd) (u : ByteArray) W, c.files = x :: l → u ≠ x.up → CAt W.heap.size es (c.touch u) W → CAt W.heap.size fs c W → Calls Tryz.prog 33 #[.agg es.toArray, .agg fs.toArray] W fun e w' => e = .returned (.bool false) ∧ Below W.heap.size W w' from fun es fs x l u W hf hu q1 q2 => by
    have hl2 : (c.touch u).lens 1000 := by
     obtain ⟨q1, q2, q3, q4⟩ := hle
     refine ⟨by show c.helds.length ≤ 1000; omega, ?_, by show c.names.length ≤ 1000; omega, by show c.blocks.length ≤ 1000; omega⟩
     rw [hf] at q2
     unfold CA.touch
     simp only [hf, List.length_cons] at q2 ⊢
     omega
    have := inSame_any es fs (c.touch u) c W q1 q2
    rw [c.touch_ne x l u hf hu] at this
    exact this)
   have HUp := hI (show ∀ (x : Cd) (l : List Cd), c.files = x :: l → x.up.size ≤ 64 from fun x l hf => by
    have := hok.chs x.ch (CA.mem_changes.2 (.inr (.inl ⟨x, by rw [hf]; exact List.mem_cons_self, rfl⟩)))
    have h4 := (Ch.ok_parts this).2.2.2.1
    have : textB true x.up 1 64 = true := h4
    simp only [textB, if_true, Bool.and_eq_true, decide_eq_true_eq] at this
    omega)
   clear hok hnum hle hc h1
   go_wp2_with (first
    | (go_at_call 18; go_must (with_reducible refine HMd.out.mono ?_); rintro e5 w5 ⟨cs, rfl, h5, b5⟩; obtain ⟨W1, hW1⟩ : ∃ W, W = w5.alloc (.cells cs.toArray 27 (0, 0)) := ⟨_, rfl⟩; have I1 := hI (show InBox 27 w5.heap.size cs c W1 from by rw [hW1]; exact ⟨St.new _ _ _, (h5.below ((Below.refl _ _).alloc (Nat.le_refl _) _)).raise (by simp)⟩); have B1 := hI (show Below w.heap.size w W1 from by rw [hW1]; exact b5.alloc b5.size _); have HW1 := hI hW1; have L5 := hI h5.len; have O5 := hI h5.ones; clear hW1 h5 b5)
    | ((with_reducible show wpList _ _ _ ({ dst := _, op := .store 27 (.tmp 3) _, type := _, pos := _, after := _, guard := _ } :: _) _ _); refine wpList_store_st rfl 27 _ _ rfl w5.heap.size cs.toArray (by first | rfl | simp [Act.eval, Act.put]) (by first | rfl | simp [Act.eval, Act.put]) _ (St.new w5 _ _) (by rw [L5.out]; exact infoCa) (by rw [L5.out]; rfl) O5.out ?_; rintro wq rfl -; rw [alloc_row, ← HW1.out])
    | ((with_reducible show wpList _ _ _ ({ dst := some 14, op := .load 27 _, type := _, pos := _, after := _, guard := _ } :: _) _ _); refine wpList_load_st rfl 27 _ rfl (w5.heap.size) (by first | rfl | simp [Act.eval, Act.put]) 27 cs.toArray (I1.out.st) _ Tryz.underlying27 rfl (by rw [L5.out]; exact infoCa) ?_)
    | (go_at_call 31; go_must (with_reducible refine (HCh.out cs W1 I1.out.at').mono ?_); rintro e6 w6 ⟨vc, rfl, h6, b6⟩; have H6 := hI h6; have B6 := hI b6; clear h6 b6)
    | (go_at_call 19; go_must (with_reducible refine (HAl.out vc w6 H6.out).mono ?_); rintro e7 w7 ⟨ds, rfl, h7, b7⟩; obtain ⟨W2, hW2⟩ : ∃ W, W = w7.alloc (.cells ds.toArray 27 (0, 0)) := ⟨_, rfl⟩; have B12 := hI (show Below W1.heap.size W1 W2 from by rw [hW2]; exact (B6.out.trans (b7.mono B6.out.size)).alloc (Nat.le_trans B6.out.size b7.size) _); have B2 := hI (B1.out.trans (B12.out.mono B1.out.size)); have I2 := hI (I1.out.below B12.out); have J2 := hI (show InBox 27 w7.heap.size ds c W2 from by rw [hW2]; exact ⟨St.new _ _ _, (h7.below ((Below.refl _ _).alloc (Nat.le_refl _) _)).raise (by simp)⟩); have HW2 := hI hW2; have L7 := hI h7.len; have O7 := hI h7.ones; clear hW2 h7 b7)
    | ((with_reducible show wpList _ _ _ ({ dst := _, op := .store 27 (.tmp 4) _, type := _, pos := _, after := _, guard := _ } :: _) _ _); refine wpList_store_st rfl 27 _ _ rfl w7.heap.size ds.toArray (by first | rfl | simp [Act.eval, Act.put]) (by first | rfl | simp [Act.eval, Act.put]) _ (St.new w7 _ _) (by rw [L7.out]; exact infoCa) (by rw [L7.out]; rfl) O7.out ?_; rintro wq rfl -; rw [alloc_row, ← HW2.out])
    | ((with_reducible show wpList _ _ _ ({ dst := some 19, op := .load 27 _, type := _, pos := _, after := _, guard := _ } :: _) _ _); refine wpList_load_st rfl 27 _ rfl (w5.heap.size) (by first | rfl | simp [Act.eval, Act.put]) 27 cs.toArray (I2.out.st) _ Tryz.underlying27 rfl (by rw [L5.out]; exact infoCa) ?_)
    | (go_at_call 32; go_must (with_reducible refine (HCl.out cs W2 I2.out.at').mono ?_); rintro e8 w8 ⟨v1, v2, v3, v4, rfl, q1, q2, q3, q4, b8⟩; obtain ⟨a1, n1, k1, rfl⟩ := q1.slice; obtain ⟨a2, n2, k2, rfl⟩ := q2.slice; obtain ⟨a3, n3, k3, rfl⟩ := q3.slice; obtain ⟨a4, n4, k4, rfl⟩ := q4.slice; obtain ⟨W3, hW3⟩ : ∃ W, W = w8.alloc (.cells #[.slice a1 n1 k1, .slice a2 n2 k2, .slice a3 n3 k3, .slice a4 n4 k4] 27 (0, 0)) := ⟨_, rfl⟩; have b83 : Below w8.heap.size w8 W3 := (by rw [hW3]; exact (Below.refl _ _).alloc (Nat.le_refl _) _); have B23 := hI (show Below W2.heap.size W2 W3 from b8.trans (b83.mono b8.size)); have St3 := hI (show St 27 w8.heap.size #[.slice a1 n1 k1, .slice a2 n2 k2, .slice a3 n3 k3, .slice a4 n4 k4] W3 from by rw [hW3]; exact St.new _ _ _); have Q1 := hI (q1.below b83); have Q2 := hI (q2.below b83); have Q3 := hI (q3.below b83); have Q4 := hI (q4.below b83); have hs8 := b8.size; have HG := hI (show ∀ g, (Value.slice a2 n2 k2).ownBlock = some g → W2.heap.size ≤ g ∧ g < w8.heap.size from fun g hg => World.ownsRow.lt q2 g hg); have HW3 := hI hW3; clear hW3 q1 q2 q3 q4 b8 b83)
    | ((with_reducible show wpList _ _ _ ({ dst := _, op := .store 27 (.tmp 6) _, type := _, pos := _, after := _, guard := _ } :: _) _ _); refine wpList_store_st rfl 27 _ _ rfl w8.heap.size #[.slice a1 n1 k1, .slice a2 n2 k2, .slice a3 n3 k3, .slice a4 n4 k4] (by first | rfl | simp [Act.eval, Act.put]) (by first | rfl | simp [Act.eval, Act.put]) _ (St.new w8 _ _) (by kernel_rfl) rfl (by simp [Value.oneCell']) ?_; rintro wq rfl -; rw [alloc_row, ← HW3.out]; have HCA := hI (show ∀ W, Below W3.heap.size W3 W → InBox 27 w5.heap.size cs c W ∧ InBox 27 w7.heap.size ds c W ∧ InBox 27 w8.heap.size ([.slice a1 n1 k1, .slice a2 n2 k2, .slice a3 n3 k3, .slice a4 n4 k4] : List Value) c W from fun W hW => ⟨I2.out.below (B23.out.trans (hW.mono B23.out.size)), J2.out.below (B23.out.trans (hW.mono B23.out.size)), (show InBox 27 w8.heap.size ([.slice a1 n1 k1, .slice a2 n2 k2, .slice a3 n3 k3, .slice a4 n4 k4] : List Value) c W3 from ⟨St3.out, _, _, _, _, rfl, RowsAt.own Hd.vs_length Q1.out, RowsAt.own Cd.vs_length Q2.out, RowsAt.own Kn.vs_length Q3.out, RowsAt.own Bk.vs_length Q4.out⟩).below hW⟩); have HC0 := hI (HCA.out _ (Below.refl _ _)))
    | ((with_reducible show wpList _ _ _ ({ dst := some 24, op := .load 27 _, type := _, pos := _, after := _, guard := _ } :: _) _ _); refine wpList_load_stg (by rfl) 27 _ rfl (w7.heap.size) (by first | rfl | simp [Act.eval, Act.put]) 27 ds.toArray (HC0.out.2.1.st) _ Tryz.underlying27 rfl (by rw [L7.out]; exact infoCa) ?_)
    | ((with_reducible show wpList _ _ _ ({ dst := some 25, op := .load 27 _, type := _, pos := _, after := _, guard := _ } :: _) _ _); refine wpList_load_stg (by rfl) 27 _ rfl (w5.heap.size) (by first | rfl | simp [Act.eval, Act.put]) 27 cs.toArray (HC0.out.1.st) _ Tryz.underlying27 rfl (by rw [L5.out]; exact infoCa) ?_)
    | (go_at_call 17; (with_reducible refine (HSm.out ds cs _ HC0.out.2.1.at' HC0.out.1.at').mono ?_); rintro e9 w9 ⟨rfl, b9⟩; have B9 := hI b9; have HC9 := hI (HCA.out _ b9); clear b9)
    | ((with_reducible show wpList _ _ _ ({ dst := some 30, op := .load 27 _, type := _, pos := _, after := _, guard := _ } :: _) _ _); refine wpList_load_stg (by rfl) 27 _ rfl (w8.heap.size) (by first | rfl | simp [Act.eval, Act.put]) 27 #[.slice a1 n1 k1, .slice a2 n2 k2, .slice a3 n3 k3, .slice a4 n4 k4] (HC9.out.2.2.st) _ Tryz.underlying27 rfl (by kernel_rfl) ?_)
    | ((with_reducible show wpList _ _ _ ({ dst := some 31, op := .load 27 _, type := _, pos := _, after := _, guard := _ } :: _) _ _); refine wpList_load_stg (by rfl) 27 _ rfl (w5.heap.size) (by first | rfl | simp [Act.eval, Act.put]) 27 cs.toArray (HC9.out.1.st) _ Tryz.underlying27 rfl (by rw [L5.out]; exact infoCa) ?_)
    | (go_at_call 17; (with_reducible refine (HSm.out ([.slice a1 n1 k1, .slice a2 n2 k2, .slice a3 n3 k3, .slice a4 n4 k4] : List Value) cs _ HC9.out.2.2.at' HC9.out.1.at').mono ?_); rintro e10 w10 ⟨rfl, b10⟩; have B10 := hI (B9.out.trans (b10.mono B9.out.size)); have HC10 := hI (HCA.out _ B10.out); clear b10)
    | ((with_reducible show wpList _ _ _ ({ dst := some 36, op := .load 27 _, type := _, pos := _, after := _, guard := _ } :: _) _ _); refine wpList_load_stg (by rfl) 27 _ rfl (w7.heap.size) (by first | rfl | simp [Act.eval, Act.put]) 27 ds.toArray (HC10.out.2.1.st) _ Tryz.underlying27 rfl (by rw [L7.out]; exact infoCa) ?_)
    | ((with_reducible show wpList _ _ _ ({ dst := some 37, op := .load 27 _, type := _, pos := _, after := _, guard := _ } :: _) _ _); refine wpList_load_stg (by rfl) 27 _ rfl (w5.heap.size) (by first | rfl | simp [Act.eval, Act.put]) 27 cs.toArray (HC10.out.1.st) _ Tryz.underlying27 rfl (by rw [L5.out]; exact infoCa) ?_)
    | (go_at_call 33; (with_reducible refine (HSp.out ds cs _ HC10.out.2.1.at' HC10.out.1.at').mono ?_); rintro e11 w11 ⟨rfl, b11⟩; have B11 := hI (B10.out.trans (b11.mono B10.out.size)); have HC11 := hI (HCA.out _ B11.out); have c11 : w11.cell? ⟨w8.heap.size, 1, none⟩ = some (.slice a2 n2 k2) := HC11.out.2.2.st.cell rfl; clear b11)
    | (go_at_call 10; (with_reducible refine (HKn.out _).mono ?_); rintro e12 w12 ⟨rfl, b12⟩))
   · rcases hf : c.files with _ | ⟨x, l⟩
     · exfalso
       have q := Q2.out.2
       rw [hf] at q
       rcases q with ⟨e, _⟩ | ⟨g, cap, cur, e, _⟩ <;> cases e <;> simp at *
     have hB11 := B11.out
     have QF := Q2.out.below hB11
     rw [hf] at QF
     rcases QF.2 with ⟨e, _⟩ | ⟨g, cap, cur, e, q1, q2, q3⟩
     · cases e
       omega
     cases e
     have R2 := RowsAt.own Cd.vs_length QF
     have cg : w11.cell? ⟨g, 0, none⟩ = some (.string x.up) := by
      obtain ⟨ao, cap', b, off, e, hl, hao, hx⟩ := R2
      cases e
      obtain ⟨e1, -⟩ := hao (by simp)
      cases e1
      exact hx 0 x rfl 0 _ rfl
     have hg := HG.out g rfl
     have hu := HUp.out x l hf
     have hlim : ¬ 9223372036854775807 < x.up.size + 1 := by omega
     have hlt : (0 : Int) < ((l.length + 1 : Nat) : Int) := by omega
     have hfz : w11.frozen? ⟨g, 0, none⟩ = false := by simp [World.frozen?, q2]
     clear q1 q2 q3
     go_still_tail 10, (by kernel_rfl)
     change wpList _ _ _ _ _ w11.drew
     obtain ⟨u, hu4⟩ : ∃ u, u = x.up ++ (⟨#[120]⟩ : ByteArray) := ⟨_, rfl⟩
     have hne : u ≠ x.up := fun e => by
      have e1 := congrArg ByteArray.size (hu4.symm.trans e)
      rw [ByteArray.size_append] at e1
      have : (⟨#[120]⟩ : ByteArray).size = 1 := rfl
      omega
     obtain ⟨W4, hW4⟩ : ∃ W, W = (w11.setCell ⟨g, 0, none⟩ (.string u)).drew := ⟨_, rfl⟩
     have B24 := (show Below W2.heap.size W2 W4 from by rw [hW4]; exact ((B23.out.trans (hB11.mono B23.out.size)).setCell hg.1 _).drew)
     have B4 := hI (B2.out.trans (B24.mono B2.out.size))
     have J4 := hI (J2.out.below B24)
     have I4 := hI (I2.out.below B24)
     have D4 := hI (show InBox 27 w8.heap.size ([.slice a1 n1 k1, .slice (some ⟨g, 0, none⟩) (l.length + 1) k2, .slice a3 n3 k3, .slice a4 n4 k4] : List Value) (c.touch u) W4 from by
      have S1 := HC11.out.2.2.st.other g 0 (.string u) (by omega)
      have P1 := ownsRow_setCell_other (Q1.out.below hB11) (a := ⟨g, 0, none⟩) (own_apart Q1.out Q2.out (by decide)) (.string u)
      have P3 := ownsRow_setCell_other (Q3.out.below hB11) (a := ⟨g, 0, none⟩) (own_apart Q3.out Q2.out (by decide)) (.string u)
      have P4 := ownsRow_setCell_other (Q4.out.below hB11) (a := ⟨g, 0, none⟩) (own_apart Q4.out Q2.out (by decide)) (.string u)
      have P2 : RowsAt (w11.setCell ⟨g, 0, none⟩ (.string u)).heap.size 11 Cd.vs (.slice (some ⟨g, 0, none⟩) (x :: l).length k2) (c.touch u).files (w11.setCell ⟨g, 0, none⟩ (.string u)) := by
       have e : (c.touch u).files = ⟨u, x.attr⟩ :: l := by unfold CA.touch; rw [hf]
       rw [e]
       exact (R2.touch (u := u)).raise (by simp)
      rw [hW4]
      exact ⟨S1, _, _, _, _, rfl, RowsAt.own Hd.vs_length P1, P2, RowsAt.own Kn.vs_length P3, RowsAt.own Bk.vs_length P4⟩)
     have HSx := hI (HSd.out ([.slice a1 n1 k1, .slice (some ⟨g, 0, none⟩) (l.length + 1) k2, .slice a3 n3 k3, .slice a4 n4 k4] : List Value) cs x l u W4 hf hne D4.out.at' I4.out.at')
     have HW4 := hI hW4
     have HU4 := hI hu4
     clear hW4 hu4 hne B24 R2 QF hB11 hf
     go_wp2_with (first
      | ((with_reducible show wpList _ _ _ ({ dst := some 55, op := .load 27 _, type := _, pos := _, after := _, guard := _ } :: _) _ _); rw [← HU4.out, ← HW4.out]; refine wpList_load_st rfl 27 _ rfl (w8.heap.size) (by first | rfl | simp [Act.eval, Act.put]) 27 #[.slice a1 n1 k1, .slice (some ⟨g, 0, none⟩) (l.length + 1) k2, .slice a3 n3 k3, .slice a4 n4 k4] (D4.out.st) _ Tryz.underlying27 rfl (by kernel_rfl) ?_)
      | ((with_reducible show wpList _ _ _ ({ dst := some 56, op := .load 27 _, type := _, pos := _, after := _, guard := _ } :: _) _ _); refine wpList_load_st rfl 27 _ rfl (w5.heap.size) (by first | rfl | simp [Act.eval, Act.put]) 27 cs.toArray (I4.out.st) _ Tryz.underlying27 rfl (by rw [L5.out]; exact infoCa) ?_)
      | (go_at_call 33; (with_reducible refine HSx.out.mono ?_); rintro e12 w12 ⟨rfl, b12⟩; have I12 := hI (I4.out.below b12); have J12 := hI (J4.out.below b12); have B12x := hI (B4.out.trans (b12.mono B4.out.size)); clear b12)
      | ((with_reducible show wpList _ _ _ ({ dst := some 60, op := .load 27 _, type := _, pos := _, after := _, guard := _ } :: _) _ _); refine wpList_load_stg (by rfl) 27 _ rfl (w7.heap.size) (by first | rfl | simp [Act.eval, Act.put]) 27 ds.toArray (J12.out.st) _ Tryz.underlying27 rfl (by rw [L7.out]; exact infoCa) ?_)
      | ((with_reducible show wpList _ _ _ ({ dst := some 61, op := .load 27 _, type := _, pos := _, after := _, guard := _ } :: _) _ _); refine wpList_load_stg (by rfl) 27 _ rfl (w5.heap.size) (by first | rfl | simp [Act.eval, Act.put]) 27 cs.toArray (I12.out.st) _ Tryz.underlying27 rfl (by rw [L5.out]; exact infoCa) ?_)
      | (go_at_call 33; (with_reducible refine (HSp.out ds cs _ J12.out.at' I12.out.at').mono ?_); rintro e13 w13 ⟨rfl, b13⟩; have B13 := hI (B12x.out.trans (b13.mono B12x.out.size)); clear b13)
      | (go_at_call 10; (with_reducible refine (HKn.out _).mono ?_); rintro e14 w14 ⟨rfl, b14⟩; have B14 := hI (B13.out.trans (b14.mono B13.out.size)); clear b14))
     go_ret
     exact ⟨rfl, B14.out⟩
   · go_ret
     exact ⟨rfl, (B2.out.trans ((B23.out.trans (B11.out.mono B23.out.size)).mono B2.out.size)).trans (b12.mono (Nat.le_trans (B2.out.trans ((B23.out.trans (B11.out.mono B23.out.size)).mono B2.out.size)).size (Nat.le_refl _)))⟩
 · go_ret
   exact ⟨rfl, b6⟩
end Go.Proofs.YtngfknplljedeaaGreat
