/- Lemmas for the laws of index. -/
import Derived.Deep.AppendLies
import Derived.Deep.DeepMust
import Derived.Deep.RegionLaw
import Derived.Handy
import Derived.Lib.Hide
import Derived.Test.YtngfknplljedeaaGreatRows
import Derived.WalkLawsBesides
namespace Go.Proofs.YtngfknplljedeaaGreat
open Go.RowKit
structure Pa where
 ty : Int
 mode : Int
 nlink : Int
 uid : Int
 gid : Int
 size : Int
 id : Int
 gen : Int
 change : Int
 time : Int
deriving DecidableEq
def Pa.zero : Pa := ⟨0, 0, 0, 0, 0, 0, 0, 0, 0, 0⟩
structure Po where
 is : Bool
 n : Int
deriving DecidableEq
def Po.zero : Po := ⟨false, 0⟩
structure Pp where
 is : Bool
 attr : Pa
deriving DecidableEq
def Pp.zero : Pp := ⟨false, .zero⟩
structure Pw where
 before : Po
 after : Pp
deriving DecidableEq
def Pw.zero : Pw := ⟨.zero, .zero⟩
structure Ps where
 mode : Po
 uid : Po
 gid : Po
 size : Po
 time : Po
deriving DecidableEq
def Ps.zero : Ps := ⟨.zero, .zero, .zero, .zero, .zero⟩
def Pa.vs (a : Pa) : List Value := [.int .i64 a.ty, .int .i64 a.mode, .int .i64 a.nlink, .int .i64 a.uid, .int .i64 a.gid, .int .i64 a.size, .int .i64 a.id, .int .i64 a.gen, .int .i64 a.change, .int .i64 a.time]
def Po.vs (o : Po) : List Value := [.bool o.is, .int .i64 o.n]
def Pp.vs (p : Pp) : List Value := .bool p.is :: p.attr.vs
def Pw.vs (c : Pw) : List Value := c.before.vs ++ c.after.vs
def Ps.vs (s : Ps) : List Value := s.mode.vs ++ s.uid.vs ++ s.gid.vs ++ s.size.vs ++ s.time.vs
def okIn (n most : Int) : Bool := decide (0 ≤ n) && decide (n ≤ most)
def okPa (a : Pa) : Bool :=
 decide (1 ≤ a.ty) && decide (a.ty ≤ 7) && okIn a.mode 4095 && okIn a.nlink 4294967295 && okIn a.uid 4294967295 && okIn a.gid 4294967295 && okIn a.id 4294967295 &&
  decide (0 ≤ a.size) && decide (0 ≤ a.gen) && decide (0 ≤ a.change) && decide (0 ≤ a.time)
theorem okIn_iff (n most : Int) : okIn n most = true ↔ 0 ≤ n ∧ n ≤ most := by simp [okIn]
theorem okPa_iff (a : Pa) : okPa a = true ↔ 1 ≤ a.ty ∧ a.ty ≤ 7 ∧ (0 ≤ a.mode ∧ a.mode ≤ 4095) ∧ (0 ≤ a.nlink ∧ a.nlink ≤ 4294967295) ∧ (0 ≤ a.uid ∧ a.uid ≤ 4294967295) ∧ (0 ≤ a.gid ∧ a.gid ≤ 4294967295) ∧
 (0 ≤ a.id ∧ a.id ≤ 4294967295) ∧ 0 ≤ a.size ∧ 0 ≤ a.gen ∧ 0 ≤ a.change ∧ 0 ≤ a.time := by
 simp only [okPa, okIn_iff, Bool.and_eq_true, decide_eq_true_eq, and_assoc]
end Go.Proofs.YtngfknplljedeaaGreat
