/-
  A row of words of the call's own, with room behind it, and the document's put over such a row.
-/
import Derived.Test.YtmdmjbpehbjgpaaRefMake
import Derived.Deep.AppendLies
namespace Go.Proofs.Ytmdmjbpehbjgpaa
open Go.RowKit Num Bit

/-- The words lie at the head of block g, which is not frozen; there may be room behind them. -/
def OwnC (w : World) (g : Nat) (ys : List Nat) : Prop :=
  ∃ cur : Array Value, w.heap[g]? = some (.cells cur 27 (0, 0)) ∧ ∀ i, i < ys.length → cur[i]? = some (.int .u64 (gt ys i))

theorem Own.c {w : World} {g : Nat} {ys : List Nat} (h : Own w g ys) : OwnC w g ys :=
  ⟨_, h, fun i hi => by rw [List.getElem?_toArray, wv, List.getElem?_map, gt_get ys i hi]; rfl⟩
theorem OwnC.cell {w : World} {g : Nat} {ys : List Nat} (h : OwnC w g ys) (j : Nat) (hj : j < ys.length) : w.cell? ⟨g, j, none⟩ = some (.int .u64 (gt ys j)) := by
  obtain ⟨cur, hh, hc⟩ := h
  unfold World.cell?
  rw [show w.heap[({ block := g, off := j, spot := none } : Addr).block]? = _ from hh]
  exact hc j hj
theorem OwnC.frozen {w : World} {g : Nat} {ys : List Nat} (h : OwnC w g ys) (j : Nat) : w.frozen? ⟨g, j, none⟩ = false := by
  obtain ⟨cur, hh, hc⟩ := h
  unfold World.frozen?
  rw [show w.heap[({ block := g, off := j, spot := none } : Addr).block]? = _ from hh]
  simp
theorem OwnC.lt {w : World} {g : Nat} {ys : List Nat} (h : OwnC w g ys) : g < w.heap.size := by
  obtain ⟨cur, hh, _⟩ := h
  exact (Array.getElem?_eq_some_iff.1 hh).1
theorem OwnC.set {w : World} {g : Nat} {ys : List Nat} (h : OwnC w g ys) (j v : Nat) (hj : j < ys.length) : OwnC (w.setCell ⟨g, j, none⟩ (.int .u64 v)) g (ys.set j v) := by
  obtain ⟨cur, hh, hc⟩ := h
  refine ⟨cur.setIfInBounds j (.int .u64 v), ?_, ?_⟩
  · simp only [World.setCell, Array.getElem?_modify]
    rw [if_pos trivial, hh]
    simp
  · intro i hi
    rw [List.length_set] at hi
    rw [gt_set ys j i v hj, Array.getElem?_setIfInBounds]
    have hjs : j < cur.size := (Array.getElem?_eq_some_iff.1 (hc j hj)).1
    by_cases e : j = i
    · subst e; simp [hjs]
    · simp [e, hc i hi]
theorem OwnC.set_other {w : World} {g : Nat} {ys : List Nat} (h : OwnC w g ys) {a : Addr} (ha : g ≠ a.block) (v : Value) : OwnC (w.setCell a v) g ys := by
  obtain ⟨cur, hh, hc⟩ := h
  exact ⟨cur, (Below.heap_setCell w a v g ha).trans hh, hc⟩
theorem OwnC.wd {w : World} {g : Nat} {ys : List Nat} (h : OwnC w g ys) : Wd w (some ⟨g, 0, none⟩) ys :=
  fun _ => ⟨g, 0, rfl, h.lt, fun i hi => by rw [Nat.zero_add]; exact h.cell i hi⟩
theorem OwnC.keep {w w' : World} {g : Nat} {ys : List Nat} (h : OwnC w g ys) (hb : Below w.heap.size w w') : OwnC w' g ys := by
  have hl := h.lt
  obtain ⟨cur, hh, hc⟩ := h
  exact ⟨cur, (hb.block g hl).trans hh, hc⟩
theorem owns_c {w : World} {base g n cap : Nat} {ys : List Nat} (h : w.ownsRow base 27 1 (.slice (some ⟨g, 0, none⟩) n cap) n (wv ys)) : OwnC w g ys ∧ n = ys.length := by
  have hl : (wv ys).length = n * 1 := h.1
  rw [length_wv] at hl
  refine ⟨?_, by omega⟩
  obtain ⟨_, h | ⟨g', cap', cur, e, _, hh, _, _, hs, ht⟩⟩ := h
  · simp at h
  · simp only [Value.slice.injEq, Option.some.injEq, Addr.mk.injEq] at e
    obtain ⟨⟨rfl, _, _⟩, _, rfl⟩ := e
    refine ⟨cur, hh, fun i hi => ?_⟩
    have e1 : (cur.toList.take (n * 1))[i]? = (wv ys)[i]? := by rw [ht]
    rw [List.getElem?_take_of_lt (by omega), wv, List.getElem?_map, gt_get ys i hi] at e1
    rw [← Array.getElem?_toList]
    exact e1

theorem refputC_c (ys : List Nat) (l g cap p : Nat) (P : Int) (x : Bool) (w : World) (hl : ys.length = l) (hP : P = (p : Int)) (hO : OwnC w g ys) (hp : p ≤ 2097152) (hf : Fit ys) (h1 : p / 64 < l) :
    Calls Try.prog 54 #[.slice (some ⟨g, 0, none⟩) l cap, .int .i64 P, .bool x] w fun e w' => e = .returned (.tuple #[]) ∧ OwnC w' g (rputL ys p x) ∧ Turned g w w' := by
  subst hl hP
  have l1' : (p : Int) / 64 < (ys.length : Int) := by omega
  have e1 := hO.cell (p / 64) h1
  have f1 := hO.frozen (p / 64)
  have SO : Hid (IntKind.u64.wrap ((2 : Int) ^ (p % 64)) = ((2 ^ (p % 64) : Nat) : Int)) := shl_one _ (by omega)
  have SP : Hid (2 ^ (p % 64) < 18446744073709551616) := two_pow_lt _ (by omega)
  have SA : Hid (gt ys (p / 64) &&& (18446744073709551615 - 2 ^ (p % 64)) < 18446744073709551616) := Nat.lt_of_le_of_lt Nat.and_le_left (hf _)
  cases x with
  | false =>
    go_enter Try.func54, Try.ntmps54
    go_wp2
    go_end0
    rw [SO.out, u64_andNot_nat _ _ (hf _) SP.out]
    exact ⟨rfl, hO.set _ _ h1, (Turned.refl _ _).set _ _⟩
  | true =>
    go_enter Try.func54, Try.ntmps54
    go_wp2
    go_end0
    rw [SO.out, u64_andNot_nat _ _ (hf _) SP.out, u64_or_nat _ _ SA.out SP.out]
    refine ⟨rfl, ?_, ((Turned.refl _ _).set _ _).set _ _⟩
    have h := (hO.set (p / 64) (gt ys (p / 64) &&& (18446744073709551615 - 2 ^ (p % 64))) h1).set (p / 64) ((gt ys (p / 64) &&& (18446744073709551615 - 2 ^ (p % 64))) ||| 2 ^ (p % 64)) (by rw [List.length_set]; exact h1)
    rw [List.set_set] at h
    exact h
end Go.Proofs.Ytmdmjbpehbjgpaa
