/-
  Arguments of the types api.Ints and []uint64, opened; the variable errors.errorType, as the row lists it.
-/
import Derived.Test.YtjilehaokignoaaDoorOpen
import Derived.Test.YtjilehaokignoaaDoorAs
import Derived.Test.YtjilehaokignoaaDoorRows
import Derived.ChangeSame
import Derived.ChangeVars
import Derived.JoinedOf
import Derived.RowKit
import Derived.RowKitTokens
import Derived.LaidLaws
import Derived.LaidHandle
import Derived.Stop.Joined
import Derived.Deep.Strs
namespace Go.Proofs.YtjilehaokignoaaDoor
open Go.ChangeShapes Go.WideShapes Go.ChangeAt Go.RowKit Go.Joins Go.Deep Num Bit
set_option maxRecDepth 100000

theorem icells27 : Tryd.prog.cellsOf 27 = 4 := by kernel_rfl
theorem icells3 : Tryd.prog.cellsOf 3 = 1 := by kernel_rfl
theorem icells22 : Tryd.prog.cellsOf 22 = 1 := by kernel_rfl
theorem array4 {cs : Array Value} (h : cs.size = 4) : ∃ a b c d, cs = #[a, b, c, d] := by
  obtain ⟨l⟩ := cs
  match l, h with
  | [a, b, c, d], _ => exact ⟨a, b, c, d, rfl⟩

theorem open_ints4 {H : Type} {enc : TypeId × Value → H} {W : World} {base : Nat} {v : Value} {d : DataW H} {p : List MemPlace} (hv : Value.okWide Tryd.prog W .any base 27 v) (h : DataW.Trod enc Tryd.prog W 0 (fun _ => true) true 27 v d p) :
    ∃ N D M ao xs cap, v = .agg #[.int .i64 N, .int .i64 D, .int .i64 M, .slice ao xs.length cap] ∧ (-9223372036854775808 ≤ N ∧ N ≤ 9223372036854775807) ∧ (-9223372036854775808 ≤ D ∧ D ≤ 9223372036854775807) ∧ (-9223372036854775808 ≤ M ∧ M ≤ 9223372036854775807) ∧ Wd W ao xs ∧ Fit xs ∧ xs.length ≤ cap := by
  obtain ⟨cs, rfl, hsz⟩ := okWide_struct Tryd.underlying27 hv
  obtain ⟨c0, c1, c2, c3, rfl⟩ := array4 (hsz.trans icells27)
  obtain ⟨fuel, hf⟩ := h
  obtain ⟨y0, y1, y2, n, hx, _, h0, h1, h2⟩ := trod_struct3 Tryd.underlying27 hf
  have g0 : DataW.trod enc Tryd.prog W 0 (fun _ => true) true n 3 [c0] = some y0 := by simpa [Value.cells, icells3] using h0
  have g1 : DataW.trod enc Tryd.prog W 0 (fun _ => true) true n 3 [c1] = some y1 := by simpa [Value.cells, icells3] using h1
  have g2 : DataW.trod enc Tryd.prog W 0 (fun _ => true) true n 25 [c2, c3] = some y2 := by simpa [Value.cells, Tryd.cells25] using h2
  obtain ⟨z0, z1, m, _, _, k0, k1⟩ := trod_struct2 Tryd.underlying25 g2
  have j0 : DataW.trod enc Tryd.prog W 0 (fun _ => true) true m 3 [c2] = some z0 := by simpa [icells3] using k0
  have j1 : DataW.trod enc Tryd.prog W 0 (fun _ => true) true m 22 [c3] = some z1 := by simpa [icells22] using k1
  obtain ⟨a, e0, _, wa⟩ := DataW.trod_int Tryd.underlying3 g0
  obtain ⟨b, e1, _, wb⟩ := DataW.trod_int Tryd.underlying3 g1
  obtain ⟨c, e2, _, wc⟩ := DataW.trod_int Tryd.underlying3 j0
  simp at e0 e1 e2
  subst e0 e1 e2
  rcases open_ints Tryd.underlying22 Tryd.underlying31 Tryd.cells31 j1 with ⟨hcs, _⟩ | ⟨x, l, cp, zs, hcs, _, hl, hm, hz, _, hcell, hwz⟩
  · simp at hcs
    subst hcs
    exact ⟨a, b, c, none, [], 0, rfl, i64_wf a wa, i64_wf b wb, i64_wf c wc, fun h => absurd h (by simp), fun i => by unfold gt; simp, by simp⟩
  · simp at hcs
    subst hcs
    have hz2 : zs.length = cp := by simpa using hz
    obtain ⟨xs, hx1, hx2, hx3⟩ := wd_of W x l zs (by omega) hcell hwz
    subst hx1
    exact ⟨a, b, c, some x, xs, cp, rfl, i64_wf a wa, i64_wf b wb, i64_wf c wc, hx2, hx3, hl⟩

theorem open_u64s {H : Type} {enc : TypeId × Value → H} {W : World} {base : Nat} {v : Value} {d : DataW H} {p : List MemPlace} (hv : Value.okWide Tryd.prog W .any base 22 v) (h : DataW.Trod enc Tryd.prog W 0 (fun _ => true) true 22 v d p) :
    ∃ ao xs cap, v = .slice ao xs.length cap ∧ Wd W ao xs ∧ Fit xs ∧ xs.length ≤ cap := by
  obtain ⟨a0, len, cap, rfl⟩ := okWide_slice Tryd.underlying22 hv
  obtain ⟨fuel, hf⟩ := h
  have hf2 : DataW.trod enc Tryd.prog W 0 (fun _ => true) true fuel 22 [.slice a0 len cap] = some (d, p) := by simpa [Value.cells] using hf
  rcases open_ints Tryd.underlying22 Tryd.underlying31 Tryd.cells31 hf2 with ⟨hcs, _⟩ | ⟨x, l, cp, zs, hcs, _, hl, hm, hz, _, hcell, hwz⟩
  · simp at hcs
    obtain ⟨rfl, rfl, rfl⟩ := hcs
    exact ⟨none, [], 0, rfl, fun h => absurd h (by simp), fun i => by unfold gt; simp, by simp⟩
  · simp at hcs
    obtain ⟨rfl, rfl, rfl⟩ := hcs
    have hz2 : zs.length = cap := by simpa using hz
    obtain ⟨xs, hx1, hx2, hx3⟩ := wd_of W x len zs (by omega) hcell hwz
    subst hx1
    exact ⟨some x, xs, cap, rfl, hx2, hx3, hl⟩

theorem et_at : Tryd.prog.globalNamed "errors.errorType" = some 0 := by kernel_rfl
theorem rt_at : (Tryd.prog.cutTypes.find? (·.1 == "internal/reflectlite.rtype")).map (·.2) = some 96 := by kernel_rfl
theorem oneRow : ((List.range 139).filter fun t => Tryd.prog.rowNamed t [101, 114, 114, 111, 114]) = [53] := by kernel_rfl
theorem typesSize : Tryd.prog.types.size = 139 := by kernel_rfl
theorem et_of_laid {W : World} (h : laidMetH Tryd.prog [("errors.errorType", Rows.laid_errors_errorType)] W) : ET W := by
  have h' : laidMet Tryd.prog [] W ∧ handlesMet Tryd.prog [("errors.errorType", Rows.laid_errors_errorType)] W := h
  obtain ⟨name, u, ty, e1, e2, e3, e4, e5⟩ := h'.2 _ (List.mem_singleton.2 rfl)
  have en : name = [101, 114, 114, 111, 114] := (Option.some.inj e1).symm
  subst en
  obtain rfl := Option.some.inj (rt_at.symm.trans e2)
  have hm : ty ∈ (List.range 139).filter fun t => Tryd.prog.rowNamed t [101, 114, 114, 111, 114] := List.mem_filter.2 ⟨List.mem_range.2 (by rw [← typesSize]; exact e3), e4⟩
  rw [oneRow] at hm
  obtain rfl := List.mem_singleton.1 hm
  have hh : typeHandle Tryd.prog 53 = .pointer (some ⟨1, 53, none⟩) := by kernel_rfl
  rw [hh] at e5
  unfold ET
  simpa using World.var?_cell et_at e5 0
end Go.Proofs.YtjilehaokignoaaDoor
