/-
  The contract of the document's Set.
-/
import Derived.Test.YtmdmjbpehbjgpaaOwnC
namespace Go.Proofs.Ytmdmjbpehbjgpaa
open Go.RowKit Num Bit

theorem news_wd {w : World} {b off : Nat} {xs : List Nat} (hc : ∀ i, i < xs.length → w.cell? ⟨b, off + i, none⟩ = some (.int .u64 (gt xs i))) : ∀ j u, (wv xs)[j]? = some u → w.cell? ((⟨b, off, none⟩ : Addr).add j) = some u := by
  intro j u hj
  have hjl : j < xs.length := by
    have := (List.getElem?_eq_some_iff.1 hj).1
    rwa [length_wv] at this
  rw [wv, List.getElem?_map, gt_get xs j hjl] at hj
  simp only [Option.map_some, Option.some.injEq] at hj
  rw [← hj, ← hc j hjl]
  unfold Addr.add
  split
  · subst_vars; rfl
  · rfl
theorem one_wv (xs : List Nat) : ∀ u ∈ wv xs, u.oneCell' = true := by
  intro u hu
  obtain ⟨a, _, rfl⟩ := List.mem_map.1 hu
  rfl
theorem owns_empty (w : World) (base : Nat) (hb : base ≤ w.heap.size) : (w.alloc (.cells #[] 27)).ownsRow base 27 1 (.slice (some ⟨w.heap.size, 0, none⟩) 0 0) 0 [] := by
  refine ⟨by simp, .inr ⟨w.heap.size, 0, #[], rfl, hb, ?_, by simp, by simp, by simp, by simp⟩⟩
  exact heap_alloc_new w _

theorem owns_empty2 (w : World) (o : Obj) (base : Nat) (hb : base ≤ w.heap.size + 1) : ((w.alloc o).alloc (.cells #[] 27)).ownsRow base 27 1 (.slice (some ⟨w.heap.size + 1, 0, none⟩) 0 0) 0 [] := by
  have h := owns_empty (w.alloc o) base (by simpa using hb)
  rw [show (w.alloc o).heap.size = w.heap.size + 1 by simp] at h
  exact h

theorem owns_cap {w : World} {base g n cap : Nat} {vs : List Value} (h : w.ownsRow base 27 1 (.slice (some ⟨g, 0, none⟩) n cap) n vs) : n ≤ cap := by
  obtain ⟨_, h | ⟨g', cap', cur, e, _, hh, hle, _, hs, ht⟩⟩ := h
  · simp at h
  · simp only [Value.slice.injEq] at e
    omega

theorem set2_cell {w : World} {b o t : Nat} {x u v : Value} (h : w.cell? ⟨b, o, none⟩ = some x) (hne : b ≠ t) : ((w.setCell ⟨t, 0, none⟩ u).setCell ⟨t, 1, none⟩ v).cell? ⟨b, o, none⟩ = some x :=
  (((Turned.refl t w).set 0 u).set 1 v).cell (p := ⟨b, o, none⟩) hne |>.trans h
theorem old_alloc {w : World} {b o : Nat} {x : Value} {ob : Obj} (h : w.cell? ⟨b, o, none⟩ = some x) (hlt : b < w.heap.size) : (w.alloc ob).cell? ⟨b, o, none⟩ = some x :=
  ((below_alloc w ob).cell (p := ⟨b, o, none⟩) hlt).trans h

end Go.Proofs.Ytmdmjbpehbjgpaa
