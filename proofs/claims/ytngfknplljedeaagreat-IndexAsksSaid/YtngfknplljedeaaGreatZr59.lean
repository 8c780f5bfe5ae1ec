/- Lemmas for the laws of index. -/
import Derived.Shelf.Spec.SearchS
import Derived.Sort.OwnSortedInts
import Derived.Test.YtngfknplljedeaaGreatZr52
import Derived.Test.YtngfknplljedeaaGreatZrHi
namespace Go.Proofs.YtngfknplljedeaaGreat
open Go.RowKit Go.Sort
theorem row_frm {F : Nat → Prop} {w w' : World} {B : Nat} {e : TypeId} {g n cap : Nat} {xs : List Value} (h : w.ownsRow B e 1 (.slice (some ⟨g, 0, none⟩) n cap) n xs) (hF : Frm F w w') (hn : ¬ F g) : w'.ownsRow B e 1 (.slice (some ⟨g, 0, none⟩) n cap) n xs := hF.own h (fun j e => by cases e; exact hn)
theorem Pa.zero_num : Pa.zero.num := by simp [Pa.num, i64, Pa.zero]
theorem Hd.ch_num {x : Hd} (h : x.num) : x.ch.num := ⟨by unfold i64; simp [Hd.ch], h.1, h.2.1, h.2.2, (by show (⟨#[]⟩ : ByteArray).size ≤ _; decide), (by show (⟨#[]⟩ : ByteArray).size ≤ _; decide), Pa.zero_num, by unfold i64; simp [Hd.ch], by unfold i64; simp [Hd.ch]⟩
theorem Cd.ch_num {x : Cd} (h : x.num) : x.ch.num := ⟨by unfold i64; simp [Cd.ch], by unfold i64; simp [Cd.ch], by unfold i64; simp [Cd.ch], h.1, (by show (⟨#[]⟩ : ByteArray).size ≤ _; decide), (by show (⟨#[]⟩ : ByteArray).size ≤ _; decide), h.2, by unfold i64; simp [Cd.ch], by unfold i64; simp [Cd.ch]⟩
theorem Kn.ch_num {x : Kn} (h : x.num) : x.ch.num := ⟨by unfold i64; simp [Kn.ch], by unfold i64; simp [Kn.ch], by unfold i64; simp [Kn.ch], h.1, h.2.1, h.2.2, Pa.zero_num, by unfold i64; simp [Kn.ch], by unfold i64; simp [Kn.ch]⟩
theorem Bk.ch_num {x : Bk} (h : x.num) : x.ch.num := ⟨by unfold i64; simp [Bk.ch], by unfold i64; simp [Bk.ch], by unfold i64; simp [Bk.ch], h.1, (by show (⟨#[]⟩ : ByteArray).size ≤ _; decide), (by show (⟨#[]⟩ : ByteArray).size ≤ _; decide), Pa.zero_num, h.2.1, h.2.2⟩
theorem CA.num_changes {c : CA} (h : c.num) : ∀ x ∈ c.changes, x.num := by
 intro x hx
 rcases CA.mem_changes.1 hx with ⟨y, hy, rfl⟩ | ⟨y, hy, rfl⟩ | ⟨y, hy, rfl⟩ | ⟨y, hy, rfl⟩
 · exact Hd.ch_num (h.1 y hy)
 · exact Cd.ch_num (h.2.1 y hy)
 · exact Kn.ch_num (h.2.2.1 y hy)
 · exact Bk.ch_num (h.2.2.2 y hy)
end Go.Proofs.YtngfknplljedeaaGreat
namespace Go.Proofs.YtngfknplljedeaaGreat
open Go.RowKit
theorem yld_box {P : Program} {ops : Array Oper} {S : World → Prop} {op : Oper} {a : Act} (hw : Region.wanted op (yielded ops a.tmps) = true) (ty : TypeId) (x : Operand) (ho : op.op = .load ty x)
 (k : Nat) (hx : a.eval x = .pointer (some ⟨k, 0, none⟩)) (T : TypeId) (cs : Array Value) (hS : ∀ w, S w → St T k cs w) (d : TypeDesc) (hu : P.underlying ty = some d) (hd : (match d with | .struct _ | .array _ _ => true | _ => false) = true) (hi : (P.info? ty).map (·.size) = some cs.size) :
 YieldsIf P ops S op (.agg cs) a := .inl ⟨hw, fun w hw' => by
 unfold execOp
 simp only [ho, hx, Instr.loadAt, Instr.sureAddr, Sem.run_bind, Sem.run_pure, Result.andThen_ok, run_loadVar_row w k T ty cs (0, 0) d (hS w hw') hu hd hi]⟩
def kn3 : List Ch := [Cd.ch ⟨⟨#[100]⟩, ⟨2, 0, 0, 0, 0, 0, 0, 0, 0, 0⟩⟩, Kn.ch ⟨⟨#[100]⟩, ⟨#[97]⟩, ⟨#[]⟩⟩, ⟨5, 0, 0, ⟨#[100]⟩, ⟨#[]⟩, ⟨#[]⟩, Pa.zero, 0, 0⟩]
theorem kn3_num : ∀ x ∈ kn3, x.num := by
 intro x hx
 simp only [kn3, List.mem_cons, List.not_mem_nil, or_false] at hx
 rcases hx with rfl | rfl | rfl <;> (unfold Ch.num Pa.num i64; decide)
theorem kn3_all : CA.none.all kn3 = (⟨[], [⟨⟨#[100]⟩, ⟨2, 0, 0, 0, 0, 0, 0, 0, 0, 0⟩⟩], [], []⟩, true) := by
 have h1 : CA.none.apply (Cd.ch ⟨⟨#[100]⟩, ⟨2, 0, 0, 0, 0, 0, 0, 0, 0, 0⟩⟩) = (⟨[], [⟨⟨#[100]⟩, ⟨2, 0, 0, 0, 0, 0, 0, 0, 0, 0⟩⟩], [], []⟩, true) := by
  rw [CA.apply_file _ _ (by decide)]
  rfl
 have h2 : (CA.mk [] [⟨⟨#[100]⟩, ⟨2, 0, 0, 0, 0, 0, 0, 0, 0, 0⟩⟩] [] []).apply (Kn.ch ⟨⟨#[100]⟩, ⟨#[97]⟩, ⟨#[]⟩⟩) = (⟨[], [⟨⟨#[100]⟩, ⟨2, 0, 0, 0, 0, 0, 0, 0, 0, 0⟩⟩], [⟨⟨#[100]⟩, ⟨#[97]⟩, ⟨#[]⟩⟩], []⟩, true) := by
  rw [CA.apply_name _ _ (by decide) (fnd_file ⟨_, List.mem_cons_self, rfl⟩)]
  rfl
 have h3 : (CA.mk [] [⟨⟨#[100]⟩, ⟨2, 0, 0, 0, 0, 0, 0, 0, 0, 0⟩⟩] [⟨⟨#[100]⟩, ⟨#[97]⟩, ⟨#[]⟩⟩] []).apply ⟨5, 0, 0, ⟨#[100]⟩, ⟨#[]⟩, ⟨#[]⟩, Pa.zero, 0, 0⟩ = (⟨[], [⟨⟨#[100]⟩, ⟨2, 0, 0, 0, 0, 0, 0, 0, 0, 0⟩⟩], [], []⟩, true) := by
  decide
 unfold CA.all kn3
 simp only [CA.allFrom, h1, h2, h3, if_true]
set_option maxRecDepth 100000 in
set_option maxHeartbeats 2000000 in
theorem ixknown_any (w : World) : Calls Tryz.prog 10 #[] w fun e w' => e = .returned (.bool true) ∧ Below w.heap.size w w' := by
 obtain ⟨w1, hw1⟩ : ∃ w1, w1 = w.alloc (.cells (kn3.flatMap Ch.vs).toArray 40 (0, 0)) := ⟨_, rfl⟩
 have hb1 : Below w.heap.size w w1 := by rw [hw1]; exact (Below.refl _ w).alloc (Nat.le_refl _) _
 have hst : St 40 w.heap.size (kn3.flatMap Ch.vs).toArray w1 := by rw [hw1]; exact St.new w _ _
 have HA := hI (show Calls Tryz.prog 19 #[.agg #[.slice none 0 0, .slice none 0 0, .slice none 0 0, .slice none 0 0], .slice (some ⟨w.heap.size, 0, none⟩) 3 3] w1 fun e w' => ∃ a1 n1 c1 a2 c2 a3 c3 a4 n4 c4, e = .returned (.tuple #[.agg #[.slice a1 n1 c1, .slice a2 1 c2, .slice a3 0 c3, .slice a4 n4 c4], .bool true]) ∧ Below w.heap.size w w' from by
  refine (inAll_any [.slice none 0 0, .slice none 0 0, .slice none 0 0, .slice none 0 0] CA.none (.slice (some ⟨w.heap.size, 0, none⟩) 3 3) kn3 w1 (zero_at _ _) CA.none_ok 0 ⟨by simp [CA.none], by simp [CA.none], by simp [CA.none], by simp [CA.none]⟩ (RowsAt.made Ch.vs_length hst (by decide)) (by decide) kn3_num).mono ?_
  rintro e w' ⟨ds, he, hc, hb⟩
  rw [kn3_all] at he hc
  obtain ⟨v1, v2, v3, v4, rfl, ⟨a1, c1, _, _, rfl, _⟩, ⟨a2, c2, _, _, rfl, _⟩, ⟨a3, c3, _, _, rfl, _⟩, ⟨a4, c4, _, _, rfl, _⟩⟩ := hc
  exact ⟨a1, _, c1, a2, c2, a3, c3, a4, _, c4, he, hb1.trans (hb.mono hb1.size)⟩)
 have HW1 := hI (hw1.trans (show _ = w.alloc (.cells #[.int .i64 3, .int .i64 0, .int .i64 0, .string ⟨#[100]⟩, .string ⟨#[]⟩, .string ⟨#[]⟩, .int .i64 2, .int .i64 0, .int .i64 0, .int .i64 0, .int .i64 0, .int .i64 0, .int .i64 0, .int .i64 0, .int .i64 0, .int .i64 0, .int .i64 0, .int .i64 0, .int .i64 6, .int .i64 0, .int .i64 0, .string ⟨#[100]⟩, .string ⟨#[97]⟩, .string ⟨#[]⟩, .int .i64 0, .int .i64 0, .int .i64 0, .int .i64 0, .int .i64 0, .int .i64 0, .int .i64 0, .int .i64 0, .int .i64 0, .int .i64 0, .int .i64 0, .int .i64 0, .int .i64 5, .int .i64 0, .int .i64 0, .string ⟨#[100]⟩, .string ⟨#[]⟩, .string ⟨#[]⟩, .int .i64 0, .int .i64 0, .int .i64 0, .int .i64 0, .int .i64 0, .int .i64 0, .int .i64 0, .int .i64 0, .int .i64 0, .int .i64 0, .int .i64 0, .int .i64 0] 40 (0, 0)) from rfl))
 clear hw1 hb1 hst
 go_enter Tryz.func10, Tryz.ntmps10
 go_wp2_with (first
  | (go_at_call 19; rw [← HW1.out]; go_must (with_reducible refine HA.out.mono ?_); rintro e5 w5 ⟨a1, n1, c1, a2, c2, a3, c3, a4, n4, c4, rfl, b5⟩; have B5 := hI b5; have hs5 := b5.size; clear b5)
  | ((with_reducible show wpList _ _ _ ({ dst := _, op := .store 27 (.tmp 1) _, type := _, pos := _, after := _, guard := _ } :: _) _ _); refine wpList_store_st rfl 27 _ _ rfl w5.heap.size #[.slice a1 n1 c1, .slice a2 1 c2, .slice a3 0 c3, .slice a4 n4 c4] (by first | rfl | simp [Act.eval, Act.put]) (by first | rfl | simp [Act.eval, Act.put]) _ (St.new w5 _ _) (by kernel_rfl) rfl (by simp [Value.oneCell']) ?_; rintro w6 rfl -; rw [alloc_row]))
 go_ret
 exact ⟨rfl, B5.out.alloc hs5 _⟩
end Go.Proofs.YtngfknplljedeaaGreat
