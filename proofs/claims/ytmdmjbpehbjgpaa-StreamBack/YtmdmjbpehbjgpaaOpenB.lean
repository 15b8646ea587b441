/-
  An argument of the type []bool, opened.
-/
import Derived.Test.YtmdmjbpehbjgpaaOpen
import Derived.Test.YtmdmjbpehbjgpaaFrom
import Derived.Deep.Grids
namespace Go.Proofs.Ytmdmjbpehbjgpaa
open Go.ChangeShapes Go.WideShapes Go.ChangeAt Go.RowKit Go.Joins Num Bit

theorem Try.cells4 : Try.prog.cellsOf 4 = 1 := by kernel_rfl

theorem open_bl {H : Type} {enc : TypeId × Value → H} {W : World} {base : Nat} {v : Value} {d : DataW H} {p : List MemPlace} (hv : Value.okWide Try.prog W .any base 43 v) (h : DataW.Trod enc Try.prog W 0 (fun _ => true) true 43 v d p) :
    ∃ ao l cap, v = .slice ao (List.length l) cap ∧ Bl W ao l := by
  obtain ⟨a0, len0, cap0, rfl⟩ := okWide_slice Try.underlying43 hv
  obtain ⟨fuel, hf⟩ := h
  rcases Deep.open_bools Try.underlying43 Try.underlying4 Try.cells4 hf with ⟨hcs, _⟩ | ⟨a, len, cap, B, hcs, _, hl, _, _, hc⟩
  · simp [Value.cells] at hcs
    obtain ⟨rfl, rfl, rfl⟩ := hcs
    exact ⟨none, [], 0, rfl, fun h => absurd h (by simp)⟩
  · simp [Value.cells] at hcs
    obtain ⟨rfl, rfl, rfl⟩ := hcs
    refine ⟨some a, (List.range len0).map B, cap0, by simp, ?_⟩
    intro h0
    have h00 : 0 < len0 := by simpa using h0
    obtain ⟨b, off, s⟩ := a
    have c0 := hc 0 (by omega)
    obtain ⟨k1, rfl⟩ := cell_lt (show W.cell? ⟨b, off, s⟩ = _ from c0)
    refine ⟨b, off, rfl, k1, fun i hi => ?_⟩
    have hi2 : i < len0 := by simpa using hi
    have ci := hc i (by omega)
    have e : bt ((List.range len0).map B) i = B i := by
      unfold bt
      rw [List.getD_eq_getElem?_getD, List.getElem?_map, List.getElem?_range hi2]; rfl
    rw [e, ← ci]
    unfold Addr.add
    split
    · subst_vars; rfl
    · rfl
end Go.Proofs.Ytmdmjbpehbjgpaa
