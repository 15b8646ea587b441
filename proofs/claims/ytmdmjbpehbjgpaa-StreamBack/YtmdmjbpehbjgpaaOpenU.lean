/-
  What a slice of uint64 that is handed in reads as.
-/
import Derived.Test.YtmdmjbpehbjgpaaOpen
namespace Go.Proofs.Ytmdmjbpehbjgpaa
open Go.ChangeShapes Go.WideShapes Go.ChangeAt Go.RowKit Num Bit
set_option maxRecDepth 100000

theorem open_u64s {H : Type} {enc : TypeId × Value → H} {W : World} {base : Nat} {v : Value} {d : DataW H} {p : List MemPlace} (hv : Value.okWide Try.prog W .any base 22 v) (h : DataW.Trod enc Try.prog W 0 (fun _ => true) true 22 v d p) :
    ∃ ao xs cap, v = .slice ao xs.length cap ∧ Wd W ao xs ∧ Fit xs ∧ xs.length ≤ cap := by
  obtain ⟨a0, len, cap, rfl⟩ := okWide_slice Try.underlying22 hv
  obtain ⟨fuel, hf⟩ := h
  have hf2 : DataW.trod enc Try.prog W 0 (fun _ => true) true fuel 22 [.slice a0 len cap] = some (d, p) := by simpa [Value.cells] using hf
  rcases open_ints Try.underlying22 Try.underlying27 Try.cells27 hf2 with ⟨hcs, _⟩ | ⟨x, l, cp, zs, hcs, _, hl, hm, hz, _, hcell, hwz⟩
  · simp at hcs
    obtain ⟨rfl, rfl, rfl⟩ := hcs
    exact ⟨none, [], 0, rfl, fun h => absurd h (by simp), fun i => by unfold gt; simp, by simp⟩
  · simp at hcs
    obtain ⟨rfl, rfl, rfl⟩ := hcs
    have hz2 : zs.length = cap := by simpa using hz
    obtain ⟨xs, hx1, hx2, hx3⟩ := wd_of W x len zs (by omega) hcell hwz
    subst hx1
    exact ⟨some x, xs, cap, rfl, hx2, hx3, hl⟩
end Go.Proofs.Ytmdmjbpehbjgpaa
