/- Lemmas for the laws of index. -/
import Derived.Test.YtngfknplljedeaaGreatZr30
import Derived.Test.YtngfknplljedeaaGreatZr33
import Derived.Test.YtngfknplljedeaaGreatZrHi
namespace Go.Proofs.YtngfknplljedeaaGreat
open Go.RowKit Go.Sort Go.Shelf
theorem bsI_own {g cap : Nat} {L : List Int} {x : Int} {w : World} (hc : ∀ (j : Nat) (u : Value), (L.map (Value.int .i64))[j]? = some u → w.cell? ⟨g, j, none⟩ = some u) (hm : L.length ≤ 1073741823) (hs : L.Pairwise (· < ·)) :
 Calls Tryz.prog 132 #[.slice (some ⟨g, 0, none⟩) L.length cap, .int .i64 x] w fun e w' => ∃ i : Int, e = .returned (.tuple #[.int .i64 i, .bool (decide (x ∈ L))]) ∧ ∃ q, w' = w.drewN q := by
 refine (Tryz.slices_BinarySearch_int g 0 L.length cap L x w (Nat.le_refl _) (by omega) (fun j hj => ?_) ?_).mono ?_
 · rw [Nat.zero_add]
   refine hc j _ ?_
   simp [hj]
 · rw [List.take_length]
   exact hs.imp fun h => by omega
 · rintro e w' ⟨rfl, h⟩
   rw [List.take_length]
   exact ⟨_, congrArg (fun b => Ending.returned (Value.tuple #[.int .i64 ((L.countP (· < x) : Nat) : Int), .bool b])) (by simp), h⟩
set_option maxRecDepth 100000 in
set_option maxHeartbeats 1000000 in
theorem inWithoutcI_any {g cap q : Nat} {M : List (Int)} (x : Int) (w : World) (hq : w.cell? ⟨q, 0, none⟩ = some (.slice (some ⟨g, 0, none⟩) M.length cap)) (hc : ∀ (j : Nat) (u : Value), (M.map (Value.int .i64))[j]? = some u → w.cell? ⟨g, j, none⟩ = some u) (hm : M.length ≤ 1073741823) (hs : M.Pairwise (· < ·)) :
 Calls Tryz.prog 131 #[.int .i64 x, .pointer (some ⟨q, 0, none⟩)] w fun e w' => e = .returned (.bool (decide (x ∈ M))) ∧ ∃ k, w' = w.drewN k := by
 have HC := hI (bsI_own (cap := cap) (x := x) hc hm hs)
 obtain ⟨m, hmm⟩ : ∃ m, m = M.length := ⟨_, rfl⟩
 obtain ⟨f, hf⟩ : ∃ f, f = decide (x ∈ M) := ⟨_, rfl⟩
 rw [← hmm] at hq hm HC
 rw [← hf] at HC ⊢
 clear hc hs hmm hf
 go_enter Tryz.func131, Tryz.ntmps131
 go_wp2_with ((with_reducible refine HC.out.mono ?_); rintro e w8 ⟨i, rfl, k, rfl⟩)
 go_ret
 exact ⟨rfl, k, rfl⟩
set_option maxRecDepth 100000 in
set_option maxHeartbeats 1000000 in
theorem inWithoutI_any {B B2 g g2 cap cap2 : Nat} {L M : List (Int)} (w : World) (h : w.ownsRow B 3 1 (.slice (some ⟨g, 0, none⟩) L.length cap) L.length (L.map (Value.int .i64))) (h2 : w.ownsRow B2 3 1 (.slice (some ⟨g2, 0, none⟩) M.length cap2) M.length (M.map (Value.int .i64))) (hne : g2 ≠ g) (hl : L.length ≤ 1073741823) (hm : M.length ≤ 1073741823) (hs : M.Pairwise (· < ·)) :
 Calls Tryz.prog 75 #[.slice (some ⟨g, 0, none⟩) L.length cap, .slice (some ⟨g2, 0, none⟩) M.length cap2] w fun e w' => e = .returned (.slice (some ⟨g, 0, none⟩) (L.filter fun x => !decide (x ∈ M)).length cap) ∧ w'.ownsRow B 3 1 (.slice (some ⟨g, 0, none⟩) (L.filter fun x => !decide (x ∈ M)).length cap) (L.filter fun x => !decide (x ∈ M)).length ((L.filter fun x => !decide (x ∈ M)).map (Value.int .i64)) ∧ Frm (fun j => j = g) w w' := by
 obtain ⟨w1, hw1⟩ : ∃ w1, w1 = w.alloc (.cells #[.slice (some ⟨g2, 0, none⟩) M.length cap2] 71 (0, 0)) := ⟨_, rfl⟩
 have hb1 : Below w.heap.size w w1 := by rw [hw1]; exact (Below.refl _ w).alloc (Nat.le_refl _) _
 have s1 : St 71 w.heap.size #[.slice (some ⟨g2, 0, none⟩) M.length cap2] w1 := by rw [hw1]; exact St.new _ _ _
 have h' : w1.ownsRow B 3 1 (.slice (some ⟨g, 0, none⟩) L.length cap) L.length (L.map (Value.int .i64)) := (Frm.of_below (F := fun _ => False) hb1).own h (fun _ _ e => e)
 have h2' : w1.ownsRow B2 3 1 (.slice (some ⟨g2, 0, none⟩) M.length cap2) M.length (M.map (Value.int .i64)) := (Frm.of_below (F := fun _ => False) hb1).own h2 (fun _ _ e => e)
 obtain ⟨lg, _, _, _, _⟩ := ownsRow_at h
 obtain ⟨lg2, _, _, _, hc2⟩ := ownsRow_at h2'
 have HP : ∀ W (x : Int), Frm (fun j => j = g) w1 W → Calls Tryz.prog 131 (#[(Value.int .i64) x] ++ #[.pointer (some ⟨w.heap.size, 0, none⟩)]) W fun e w' => e = .returned (.bool (decide (x ∈ M))) ∧ ∃ k, w' = W.drewN k := fun W x hW => inWithoutcI_any x W ((show St 71 w.heap.size #[.slice (some ⟨g2, 0, none⟩) M.length cap2] W from hW.st s1 (by omega)).cell rfl) (fun j u hu => (hW.cell (q := ⟨g2, j, none⟩) lg2 hne).trans (hc2 j u hu)) hm hs
 have HD := hI (show Calls Tryz.prog 130 #[.slice (some ⟨g, 0, none⟩) L.length cap, .func (.func 131) #[] #[.pointer (some ⟨w.heap.size, 0, none⟩)]] w1 fun e w' => e = .returned (.slice (some ⟨g, 0, none⟩) (L.filter fun x => !decide (x ∈ M)).length cap) ∧ w'.ownsRow B 3 1 (.slice (some ⟨g, 0, none⟩) (L.filter fun x => !decide (x ∈ M)).length cap) (L.filter fun x => !decide (x ∈ M)).length ((L.filter fun x => !decide (x ∈ M)).map (Value.int .i64)) ∧ Frm (fun j => j = g) w1 w' from by
  have h0 := h'
  rcases h'.2 with ⟨e, _⟩ | ⟨g', cap', cur, e, hB, hg, k1, k2, k3, k4⟩
  · cases e
  · cases e
    have := Tryz.slices_DeleteFunc_f130 (Value.int .i64) (fun _ => rfl) (fun x => decide (x ∈ M)) 131 #[.pointer (some ⟨w.heap.size, 0, none⟩)] (enters_of Tryz.func131 (by kernel_rfl) rfl) (0 : Int) Tryz.zeroValue3 g 0 cap L.toArray w1 (fun W x hW => HP W x (Frm.of_below hW)) (fun n os dk x hd => HP _ x ((Frm.refl _ w1).grown (grownBy_sortedI _) (fun k e => .inl (Option.some.inj e).symm))) (holds_of_blockI hg (by simpa using k4)) (by simp; omega) (by simpa using k1)
    simp only [List.size_toArray] at this
    refine this.mono ?_
    rintro e w' ⟨rfl, q, rfl⟩
    exact ⟨rfl, laidI _ h0 (List.length_filter_le _ _)⟩)
 have HW1 := hI hw1
 have HB1 := hI hb1
 obtain ⟨r, hr⟩ : ∃ r, r = L.filter fun x => !decide (x ∈ M) := ⟨_, rfl⟩
 rw [← hr] at HD ⊢
 obtain ⟨n, hn⟩ : ∃ n, n = L.length := ⟨_, rfl⟩
 obtain ⟨m, hmm⟩ : ∃ m, m = M.length := ⟨_, rfl⟩
 rw [← hn] at HD ⊢
 rw [← hmm] at HW1 ⊢
 clear HP hb1 hw1 s1 h' h2' lg lg2 hc2 h h2 hr hn hmm hl hm hs
 go_enter Tryz.func75, Tryz.ntmps75
 go_wp2_with (rw [← HW1.out]; (with_reducible refine HD.out.mono ?_); rintro e w8 ⟨rfl, h8, f8⟩; have H8 := hI h8; have F8 := hI f8; clear h8 f8)
 go_ret
 exact ⟨rfl, H8.out, (Frm.of_below HB1.out).next F8.out⟩
end Go.Proofs.YtngfknplljedeaaGreat
