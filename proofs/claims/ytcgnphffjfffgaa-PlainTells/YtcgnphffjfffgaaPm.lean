/-
  Numbers in memory (a slice of ints that reads as a list), boxes of four cells, and an argument of the type api.Plain, opened.
-/
import Derived.Test.YtcgnphffjfffgaaOpen
import Derived.Test.YtcgnphffjfffgaaPl
import Derived.OwnWalk
import Derived.Deep.AppendLies
import Derived.Deep.Strs
namespace Go.Proofs.Ytcgnphffjfffgaa
open Go.ChangeShapes Go.WideShapes Go.ChangeAt Go.RowKit Go.Joins Go.Deep Num Bit
set_option linter.unusedVariables false
set_option maxRecDepth 100000

/-- A slice of ints that reads as a list. -/
def Nd (w : World) (ao : Option Addr) (l : List Int) : Prop :=
  0 < l.length → ∃ b off, ao = some ⟨b, off, none⟩ ∧ b < w.heap.size ∧ ∀ i, i < l.length → w.cell? ⟨b, off + i, none⟩ = some (.int .i64 (gi l i))
theorem Nd.keep {w w' : World} {ao : Option Addr} {l : List Int} (h : Nd w ao l) (hb : Below w.heap.size w w') : Nd w' ao l := by
  intro hi
  obtain ⟨b, off, e, hlt, hc⟩ := h hi
  exact ⟨b, off, e, Nat.lt_of_lt_of_le hlt hb.size, fun i hi => (hb.cell (p := ⟨b, off + i, none⟩) hlt).trans (hc i hi)⟩
theorem nd0 (w : World) (ao : Option Addr) : Nd w ao [] := fun h => absurd h (by simp)
theorem wd0' (w : World) (ao : Option Addr) : Wd w ao [] := fun h => absurd h (by simp)
def FitI (l : List Int) : Prop := ∀ i, -9223372036854775808 ≤ gi l i ∧ gi l i ≤ 9223372036854775807

theorem Try.cells3 : Try.prog.cellsOf 3 = 1 := by kernel_rfl
theorem Try.cells27 : Try.prog.cellsOf 27 = 1 := by kernel_rfl
theorem Try.cells22 : Try.prog.cellsOf 22 = 1 := by kernel_rfl
theorem Try.cells29 : Try.prog.cellsOf 29 = 4 := by kernel_rfl
theorem Try.info3 : (Try.prog.info? 3).map (fun i => (i.zero, i.size, i.bytes)) = some (some (.int .i64 0), 1, 8) := by kernel_rfl

theorem nd_of (w : World) (a : Addr) (len : Nat) (zs : List Int) (hl : len ≤ zs.length) (hc : ∀ i, i < zs.length → w.cell? (a.add i) = some (.int .i64 (zs.getD i 0))) (hw : ∀ n ∈ zs, (Lit.int .i64 n).wf = true) :
    ∃ l : List Int, l.length = len ∧ Nd w (some a) l ∧ FitI l := by
  have hlen : (zs.take len).length = len := by simp; omega
  have hg : ∀ i, i < len → gi (zs.take len) i = zs.getD i 0 := by
    intro i hi
    unfold gi
    rw [List.getD_eq_getElem?_getD, List.getD_eq_getElem?_getD, List.getElem?_take_of_lt hi]
  refine ⟨zs.take len, hlen, ?_, ?_⟩
  · intro h0
    obtain ⟨b, off, s⟩ := a
    have c0 := hc 0 (by omega)
    obtain ⟨k1, rfl⟩ := cell_lt (show w.cell? ⟨b, off, s⟩ = _ from c0)
    refine ⟨b, off, rfl, k1, fun i hi => ?_⟩
    have ci := hc i (by omega)
    rw [hg i (by omega), ← ci]
    unfold Addr.add
    split
    · subst_vars; rfl
    · rfl
  · intro i
    by_cases c : i < len
    · rw [hg i c]
      have : zs.getD i 0 = zs[i] := by rw [List.getD_eq_getElem?_getD, List.getElem?_eq_getElem (by omega)]; rfl
      rw [this]
      exact i64_wf _ (hw _ (List.getElem_mem (by omega)))
    · unfold gi
      rw [List.getD_eq_getElem?_getD, List.getElem?_eq_none (by omega)]
      decide
theorem open_is {H : Type} {enc : TypeId × Value → H} {W : World} {n : Nat} {c : Value} {y : DataW H × List MemPlace} (h : DataW.trod enc Try.prog W 0 (fun _ => true) true n 27 [c] = some y) :
    ∃ ao l cap, c = .slice ao (List.length l) cap ∧ Nd W ao l ∧ FitI l ∧ l.length ≤ cap := by
  rcases open_ints Try.underlying27 Try.underlying3 Try.cells3 h with ⟨hcs, _⟩ | ⟨x, l, cp, zs, hcs, _, hl, hm, hz, _, hcell, hwz⟩
  · simp at hcs
    subst hcs
    exact ⟨none, [], 0, rfl, nd0 _ _, fun i => by unfold gi; simp, by simp⟩
  · simp at hcs
    subst hcs
    have hz2 : zs.length = cp := by simpa using hz
    obtain ⟨xs, hx1, hx2, hx3⟩ := nd_of W x l zs (by omega) hcell hwz
    subst hx1
    exact ⟨some x, xs, cp, rfl, hx2, hx3, hl⟩
theorem array4 {cs : Array Value} (h : cs.size = 4) : ∃ a b c d, cs = #[a, b, c, d] := by
  obtain ⟨l⟩ := cs
  match l, h with
  | [a, b, c, d], _ => exact ⟨a, b, c, d, rfl⟩

theorem open_plain {H : Type} {enc : TypeId × Value → H} {W : World} {base : Nat} {v : Value} {d : DataW H} {p : List MemPlace} (hv : Value.okWide Try.prog W .any base 29 v) (h : DataW.Trod enc Try.prog W 0 (fun _ => true) true 29 v d p) :
    ∃ N ao xs cap so su sc tO sb tc, v = .agg #[.int .i64 N, .slice ao (List.length xs) cap, .slice so (List.length su) sc, .slice tO (List.length sb) tc] ∧ (-9223372036854775808 ≤ N ∧ N ≤ 9223372036854775807) ∧ Wd W ao xs ∧ Fit xs ∧ xs.length ≤ cap ∧ Nd W so su ∧ FitI su ∧ su.length ≤ sc ∧ Nd W tO sb ∧ FitI sb ∧ sb.length ≤ tc := by
  obtain ⟨cs, rfl, hsz⟩ := okWide_struct Try.underlying29 hv
  obtain ⟨c0, c1, c2, c3, rfl⟩ := array4 (hsz.trans Try.cells29)
  obtain ⟨fuel, hf⟩ := h
  obtain ⟨y0, y1, y2, n, hx, _, h0, h1, h2⟩ := trod_struct3 Try.underlying29 hf
  have g0 : DataW.trod enc Try.prog W 0 (fun _ => true) true n 24 [c0, c1] = some y0 := by simpa [Value.cells, Try.cells24] using h0
  have g1 : DataW.trod enc Try.prog W 0 (fun _ => true) true n 27 [c2] = some y1 := by simpa [Value.cells, Try.cells27, Try.cells24] using h1
  have g2 : DataW.trod enc Try.prog W 0 (fun _ => true) true n 27 [c3] = some y2 := by simpa [Value.cells, Try.cells27, Try.cells24] using h2
  obtain ⟨z0, z1, m, _, _, k0, k1⟩ := trod_struct2 Try.underlying24 g0
  have j0 : DataW.trod enc Try.prog W 0 (fun _ => true) true m 3 [c0] = some z0 := by simpa [Try.cells3] using k0
  have j1 : DataW.trod enc Try.prog W 0 (fun _ => true) true m 22 [c1] = some z1 := by simpa [Try.cells3, Try.cells22] using k1
  obtain ⟨a, e0, _, wa⟩ := DataW.trod_int Try.underlying3 j0
  simp at e0
  subst e0
  obtain ⟨so, su, sc, rfl, u1, u2, u3⟩ := open_is g1
  obtain ⟨tO, sb, tc, rfl, v1, v2, v3⟩ := open_is g2
  rcases open_ints Try.underlying22 Try.underlying52 Try.cells52 j1 with ⟨hcs, _⟩ | ⟨x, l, cp, zs, hcs, _, hl, hm, hz, _, hcell, hwz⟩
  · simp at hcs
    subst hcs
    exact ⟨a, none, [], 0, so, su, sc, tO, sb, tc, rfl, i64_wf a wa, wd0' _ _, fun i => by unfold gt; simp, by simp, u1, u2, u3, v1, v2, v3⟩
  · simp at hcs
    subst hcs
    have hz2 : zs.length = cp := by simpa using hz
    obtain ⟨xs, hx1, hx2, hx3⟩ := wd_of W x l zs (by omega) hcell hwz
    subst hx1
    exact ⟨a, some x, xs, cp, so, su, sc, tO, sb, tc, rfl, i64_wf a wa, hx2, hx3, hl, u1, u2, u3, v1, v2, v3⟩
end Go.Proofs.Ytcgnphffjfffgaa
