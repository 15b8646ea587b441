/-
  A configuration opened; two of them compared by '!='.
-/
import Derived.Test.YtadfnllfeoidhaaDoorCl
import Derived.ChangeMaps5
import Derived.ChangeOld
namespace Go.Proofs.YtadfnllfeoidhaaDoor
open Go.ChangeShapes Go.WideShapes Go.ChangeAt Go.RowKit Go.Joins Go.Deep
set_option linter.unusedVariables false
set_option linter.unusedSimpArgs false
set_option maxRecDepth 100000

theorem Tryd.cells23 : Tryd.prog.cellsOf 23 = 5 := by kernel_rfl
theorem array5 {α : Type} {cs : Array α} (h : cs.size = 5) : ∃ c0 c1 c2 c3 c4, cs = #[c0, c1, c2, c3, c4] := by
  obtain ⟨l⟩ := cs
  match l, h with
  | [c0, c1, c2, c3, c4], _ => exact ⟨c0, c1, c2, c3, c4, rfl⟩
theorem open_cfg {H : Type} {enc : TypeId × Value → H} {W : World} {base : Nat} {v : Value} {d : DataW H} {p : List MemPlace} (hv : Value.okWide Tryd.prog W .any base 23 v) (h : DataW.Trod enc Tryd.prog W 0 (fun _ => true) true 23 v d p) :
    ∃ z1 z2 z3 z4 z5 : Int, v = .agg #[.int .i64 z1, .int .i64 z2, .int .i64 z3, .int .i64 z4, .int .i64 z5] := by
  obtain ⟨cs, rfl, hsz⟩ := okWide_struct Tryd.underlying23 hv
  obtain ⟨c0, c1, c2, c3, c4, rfl⟩ := array5 (hsz.trans Tryd.cells23)
  obtain ⟨fuel, hf⟩ := h
  obtain ⟨xs, n, _, _, hl, hlen, hfs⟩ := DataW.trod_struct Tryd.underlying23 hf
  match xs, hlen with
  | [y0, y1, y2, y3, y4], _ =>
    have g0 : DataW.trod enc Tryd.prog W 0 (fun _ => true) true n 3 [c0] = some y0 := by simpa [Value.cells, Tryd.cells3] using hfs 0 _ rfl
    have g1 : DataW.trod enc Tryd.prog W 0 (fun _ => true) true n 3 [c1] = some y1 := by simpa [Value.cells, Tryd.cells3] using hfs 1 _ rfl
    have g2 : DataW.trod enc Tryd.prog W 0 (fun _ => true) true n 3 [c2] = some y2 := by simpa [Value.cells, Tryd.cells3] using hfs 2 _ rfl
    have g3 : DataW.trod enc Tryd.prog W 0 (fun _ => true) true n 3 [c3] = some y3 := by simpa [Value.cells, Tryd.cells3] using hfs 3 _ rfl
    have g4 : DataW.trod enc Tryd.prog W 0 (fun _ => true) true n 3 [c4] = some y4 := by simpa [Value.cells, Tryd.cells3] using hfs 4 _ rfl
    obtain ⟨z1, e1, _⟩ := DataW.trod_int Tryd.underlying3 g0
    obtain ⟨z2, e2, _⟩ := DataW.trod_int Tryd.underlying3 g1
    obtain ⟨z3, e3, _⟩ := DataW.trod_int Tryd.underlying3 g2
    obtain ⟨z4, e4, _⟩ := DataW.trod_int Tryd.underlying3 g3
    obtain ⟨z5, e5, _⟩ := DataW.trod_int Tryd.underlying3 g4
    simp at e1 e2 e3 e4 e5
    subst e1 e2 e3 e4 e5
    exact ⟨z1, z2, z3, z4, z5, rfl⟩
theorem neq_cfg (w : World) (a b : Co.Zf) : (binOp .neq 23 (.agg (Co.cv a).toArray) (.agg (Co.cv b).toArray)).run Tryd.prog w = .ok (.bool (!decide (a = b))) w := by
  have h := eq_cfg w a b
  rw [run_eql_struct] at h
  rw [run_neq_struct]
  generalize (Op.equalIn 10000 23 (.agg (Co.cv a).toArray) (.agg (Co.cv b).toArray)).run Tryd.prog w = r at h ⊢
  cases r with
  | ok x w' =>
    simp only [Result.andThen] at h ⊢
    injection h with h1 h2
    injection h1 with h1
    rw [h1, h2]
  | halt x w' => simp [Result.andThen] at h
end Go.Proofs.YtadfnllfeoidhaaDoor
