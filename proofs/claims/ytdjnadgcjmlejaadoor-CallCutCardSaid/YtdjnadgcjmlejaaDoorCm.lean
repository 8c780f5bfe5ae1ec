/- Calls: two calls held against each other. -/
import Derived.Test.YtdjnadgcjmlejaaDoorCa
import Derived.Test.YtdjnadgcjmlejaaDoorRows
import Derived.Laws.StructEq
import Derived.WalkKit
namespace Go.Proofs.YtdjnadgcjmlejaaDoor
open Go.RowKit

theorem toList_eq (a b : ByteArray) : (a.toList == b.toList) = decide (a = b) := by
  rw [Lib.toList_data, Lib.toList_data]
  by_cases h : a = b
  · subst h; simp
  · have h2 : ¬ a.data = b.data := fun e => h (ByteArray.ext e)
    simp [h, h2]
theorem eqFields_cons {P : Program} {w : World} {d : Nat} {xs ys : Array Value} {f : Field} {fs : List Field} {a b : Value} {r q : Bool} (hn : (f.name == "_") = false)
    (hx : (part f.type xs f.offset).run P w = .ok a w) (hy : (part f.type ys f.offset).run P w = .ok b w) (he : (Op.equalIn d f.type a b).run P w = .ok r w) (hr : (Op.eqFields d xs ys fs).run P w = .ok q w) :
    (Op.eqFields d xs ys (f :: fs)).run P w = .ok (r && q) w := by
  have hn2 : f.name ≠ "_" := by simpa using hn
  cases r <;> simp [Op.eqFields, hn2, Sem.run_bind, hx, hy, he, hr, Result.andThen]
theorem eqFields_nil {P : Program} {w : World} {d : Nat} {xs ys : Array Value} : (Op.eqFields d xs ys []).run P w = .ok true w := by simp [Op.eqFields]
theorem eq_int (a b : Int) (d : Nat) (w : World) : (Op.equalIn (d + 1) 3 (.int .i64 a) (.int .i64 b)).run Tryd.prog w = .ok (decide (a = b)) w := by
  rw [run_equalIn_int w d 3 .i64 .i64 a b Tryd.underlying3]
  congr 1
theorem eq_bool (a b : Bool) (d : Nat) (w : World) : (Op.equalIn (d + 1) 4 (.bool a) (.bool b)).run Tryd.prog w = .ok (decide (a = b)) w := by
  rw [run_equalIn_bool w d 4 a b Tryd.underlying4]
  congr 1
theorem eq_str (a b : ByteArray) (d : Nat) (w : World) : (Op.equalIn (d + 1) 9 (.string a) (.string b)).run Tryd.prog w = .ok (decide (a = b)) w := by
  rw [run_equalIn_string w d 9 a b Tryd.underlying9, toList_eq]
set_option maxRecDepth 100000 in
theorem eq_opt (a b : Po) (d : Nat) (w : World) : (Op.equalIn (d + 2) 26 (.agg #[.bool a.is, .int .i64 a.n]) (.agg #[.bool b.is, .int .i64 b.n])).run Tryd.prog w = .ok (decide (a = b)) w := by
  have hS : Tryd.prog.underlying 26 = some (.struct (Tryd.prog.fieldsOf 26)) := by kernel_rfl
  have hp : Tryd.prog.stoodInHeld 26 = false := by kernel_rfl
  rw [run_equalIn_struct w (d + 1) 26 _ _ hS hp]
  simp only [Program.fieldsOf, Tryd.underlying26]
  refine (eqFields_cons (by rfl) (by kernel_rfl) (by kernel_rfl) (eq_bool a.is b.is d w) (eqFields_cons (by rfl) (by kernel_rfl) (by kernel_rfl) (eq_int a.n b.n d w) (eqFields_nil))).trans ?_
  congr 1
  obtain ⟨i, n⟩ := a
  obtain ⟨j, m⟩ := b
  rw [Bool.eq_iff_iff]
  simp
set_option maxRecDepth 100000 in
theorem eq_set (a b : Ps) (d : Nat) (w : World) : (Op.equalIn (d + 3) 28 (.agg #[.bool a.mode.is, .int .i64 a.mode.n, .bool a.uid.is, .int .i64 a.uid.n, .bool a.gid.is, .int .i64 a.gid.n, .bool a.size.is, .int .i64 a.size.n, .bool a.time.is, .int .i64 a.time.n]) (.agg #[.bool b.mode.is, .int .i64 b.mode.n, .bool b.uid.is, .int .i64 b.uid.n, .bool b.gid.is, .int .i64 b.gid.n, .bool b.size.is, .int .i64 b.size.n, .bool b.time.is, .int .i64 b.time.n])).run Tryd.prog w = .ok (decide (a = b)) w := by
  have hS : Tryd.prog.underlying 28 = some (.struct (Tryd.prog.fieldsOf 28)) := by kernel_rfl
  have hp : Tryd.prog.stoodInHeld 28 = false := by kernel_rfl
  rw [run_equalIn_struct w (d + 2) 28 _ _ hS hp]
  simp only [Program.fieldsOf, Tryd.underlying28]
  refine (eqFields_cons (by rfl) (by kernel_rfl) (by kernel_rfl) (eq_opt a.mode b.mode d w) (eqFields_cons (by rfl) (by kernel_rfl) (by kernel_rfl) (eq_opt a.uid b.uid d w) (eqFields_cons (by rfl) (by kernel_rfl) (by kernel_rfl) (eq_opt a.gid b.gid d w) (eqFields_cons (by rfl) (by kernel_rfl) (by kernel_rfl) (eq_opt a.size b.size d w) (eqFields_cons (by rfl) (by kernel_rfl) (by kernel_rfl) (eq_opt a.time b.time d w) (eqFields_nil)))))).trans ?_
  congr 1
  obtain ⟨a0, a1, a2, a3, a4⟩ := a
  obtain ⟨b0, b1, b2, b3, b4⟩ := b
  rw [Bool.eq_iff_iff]
  simp
set_option maxRecDepth 100000 in
theorem eq_call (a b : Cl) (d : Nat) (w : World) : (Op.equalIn (d + 4) 30 (.agg a.arr) (.agg b.arr)).run Tryd.prog w = .ok (decide (a = b)) w := by
  have hS : Tryd.prog.underlying 30 = some (.struct (Tryd.prog.fieldsOf 30)) := by kernel_rfl
  have hp : Tryd.prog.stoodInHeld 30 = false := by kernel_rfl
  rw [run_equalIn_struct w (d + 3) 30 _ _ hS hp]
  simp only [Program.fieldsOf, Tryd.underlying30]
  refine (eqFields_cons (by rfl) (by kernel_rfl) (by kernel_rfl) (eq_int a.proc b.proc (d + 2) w) (eqFields_cons (by rfl) (by kernel_rfl) (by kernel_rfl) (eq_str a.fh b.fh (d + 2) w) (eqFields_cons (by rfl) (by kernel_rfl) (by kernel_rfl) (eq_str a.name b.name (d + 2) w) (eqFields_cons (by rfl) (by kernel_rfl) (by kernel_rfl) (eq_str a.fh2 b.fh2 (d + 2) w) (eqFields_cons (by rfl) (by kernel_rfl) (by kernel_rfl) (eq_str a.name2 b.name2 (d + 2) w) (eqFields_cons (by rfl) (by kernel_rfl) (by kernel_rfl) (eq_int a.offset b.offset (d + 2) w) (eqFields_cons (by rfl) (by kernel_rfl) (by kernel_rfl) (eq_int a.count b.count (d + 2) w) (eqFields_cons (by rfl) (by kernel_rfl) (by kernel_rfl) (eq_int a.how b.how (d + 2) w) (eqFields_cons (by rfl) (by kernel_rfl) (by kernel_rfl) (eq_str a.data b.data (d + 2) w) (eqFields_cons (by rfl) (by kernel_rfl) (by kernel_rfl) (eq_set a.set b.set d w) (eqFields_cons (by rfl) (by kernel_rfl) (by kernel_rfl) (eq_opt a.guard b.guard (d + 1) w) (eqFields_cons (by rfl) (by kernel_rfl) (by kernel_rfl) (eq_int a.cookie b.cookie (d + 2) w) (eqFields_cons (by rfl) (by kernel_rfl) (by kernel_rfl) (eq_int a.verf b.verf (d + 2) w) (eqFields_cons (by rfl) (by kernel_rfl) (by kernel_rfl) (eq_str a.text b.text (d + 2) w) (eqFields_nil))))))))))))))).trans ?_
  congr 1
  obtain ⟨a0, a1, a2, a3, a4, a5, a6, a7, a8, a9, a10, a11, a12, a13⟩ := a
  obtain ⟨b0, b1, b2, b3, b4, b5, b6, b7, b8, b9, b10, b11, b12, b13⟩ := b
  rw [Bool.eq_iff_iff]
  simp
set_option maxRecDepth 100000 in
theorem run_eq_call (a b : Cl) (w : World) : (binOp .eql 30 (.agg a.arr) (.agg b.arr)).run Tryd.prog w = .ok (.bool (decide (a = b))) w := by
  rw [run_eql_struct, show (10000 : Nat) = 9996 + 4 from rfl, eq_call a b 9996 w]
  rfl
set_option maxRecDepth 100000 in
theorem run_ne_call (a b : Cl) (w : World) : (binOp .neq 30 (.agg a.arr) (.agg b.arr)).run Tryd.prog w = .ok (.bool (!decide (a = b))) w := by
  rw [run_neq_struct, show (10000 : Nat) = 9996 + 4 from rfl, eq_call a b 9996 w]
  rfl
end Go.Proofs.YtdjnadgcjmlejaaDoor
