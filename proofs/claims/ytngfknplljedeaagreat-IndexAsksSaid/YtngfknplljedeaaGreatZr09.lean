/- Lemmas for the laws of index. -/
import Derived.Lib.Strings
import Derived.Test.YtngfknplljedeaaGreatRows
import Derived.WalkKit
namespace Go.Proofs.YtngfknplljedeaaGreat
open Go.RowKit
theorem toList_eq (a b : ByteArray) : (a.toList == b.toList) = decide (a = b) := by
 rw [Lib.toList_data, Lib.toList_data]
 by_cases h : a = b
 · subst h; simp
 · have h2 : ¬ a.data = b.data := fun e => h (ByteArray.ext e)
   simp [h, h2]
theorem eqFields_cons {P : Program} {w : World} {d : Nat} {xs ys : Array Value} {f : Field} {fs : List Field} {a b : Value} {r q : Bool} (hn : (f.name == "_") = false)
 (hx : (part f.type xs f.offset).run P w = .ok a w) (hy : (part f.type ys f.offset).run P w = .ok b w) (he : (Op.equalIn d f.type a b).run P w = .ok r w) (hr : (Op.eqFields d xs ys fs).run P w = .ok q w) :
 (Op.eqFields d xs ys (f :: fs)).run P w = .ok (r && q) w := by
 have hn2 : f.name ≠ "_" := by simpa using hn
 cases r <;> simp [Op.eqFields, hn2, Sem.run_bind, hx, hy, he, hr, Result.andThen]
theorem eqFields_nil {P : Program} {w : World} {d : Nat} {xs ys : Array Value} : (Op.eqFields d xs ys []).run P w = .ok true w := by simp [Op.eqFields]
theorem eq_int (a b : Int) (d : Nat) (w : World) : (Op.equalIn (d + 1) 3 (.int .i64 a) (.int .i64 b)).run Tryz.prog w = .ok (decide (a = b)) w := by
 rw [run_equalIn_int w d 3 .i64 .i64 a b Tryz.underlying3]
 congr 1
theorem eq_str (a b : ByteArray) (d : Nat) (w : World) : (Op.equalIn (d + 1) 9 (.string a) (.string b)).run Tryz.prog w = .ok (decide (a = b)) w := by
 rw [run_equalIn_string w d 9 a b Tryz.underlying9, toList_eq]
end Go.Proofs.YtngfknplljedeaaGreat
