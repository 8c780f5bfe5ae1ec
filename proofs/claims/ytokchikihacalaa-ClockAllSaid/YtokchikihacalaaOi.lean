/- Slices of numbers as arguments. No function of the program is named here. -/
import Derived.Test.YtokchikihacalaaIn
import Derived.Test.YtokchikihacalaaOs
namespace Go.Proofs.Ytokchikihacalaa
open Go.Joins Go.ChangeShapes Go.WideShapes Go.RowKit Go.Deep

section
variable {H : Type} {enc : TypeId × Value → H} {w : World} {base : Nat} {held : Bool}
theorem open_ints {fuel : Nat} {v : Value} {x : DataW H × List MemPlace} (hv : ∃ a len cap, v = .slice a len cap) (h : DataW.trod enc Try.prog w base (fun _ => true) held fuel 43 v.cells.toList = some x) :
    ∃ xs : List Int, Ints (fun j => j < w.heap.size) v xs w ∧ ∀ y ∈ xs, i64 y := by
  obtain ⟨ao, n, cap, b, off, rfl, hn, hao, hc⟩ := open_rows (P := Try.prog) (k := 1) (R := fun cs => ∃ m : Int, cs = [.int .i64 m] ∧ i64 m) Try.underlying43 (by kernel_rfl) (by omega) (fun {fuel cs x} h => by
    obtain ⟨m, e1, _, e3⟩ := DataW.trod_int Try.underlying3 h
    exact ⟨m, e1, i64_of e3⟩) hv h
  obtain ⟨xs, hl, hx⟩ := exists_list n (fun i (m : Int) => w.cell? ⟨b, off + i, none⟩ = some (.int .i64 m) ∧ i64 m) fun i hi => by
    obtain ⟨cs, hcl, ⟨m, rfl, hm⟩, hj⟩ := hc i hi
    exact ⟨m, by have := hj 0 (by omega); simpa using this, hm⟩
  refine ⟨xs, ⟨ao, cap, b, off, by rw [hl], ⟨by omega, hn.2⟩, fun h0 => ⟨(hao (by omega)).1, (hao (by omega)).2, (hao (by omega)).2⟩, fun i y hy => (hx i y hy).1⟩, fun y hy => ?_⟩
  obtain ⟨i, hi⟩ := List.mem_iff_getElem?.1 hy
  exact (hx i y hi).2
end
end Go.Proofs.Ytokchikihacalaa
