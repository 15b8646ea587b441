/-
  The contract of layer 17's heads.
-/
import Derived.Test.YtojjinjgmijgcaaRp
namespace Go.Proofs.Ytojjinjgmijgcaa
open Go.RowKit
set_option linter.unusedVariables false
set_option linter.unusedSimpArgs false
set_option maxRecDepth 100000

theorem bd_lit (w : World) (xs : List Nat) (mk : Nat × Nat) : Bd (w.alloc (.cells (yv xs).toArray 5 mk)) (some ⟨w.heap.size, 0, none⟩) xs := by
  intro _
  refine ⟨w.heap.size, 0, rfl, by simp, fun i hi => ?_⟩
  rw [World.cell?_alloc_mark]
  simp [yv_get xs i hi]
theorem nd_lit (w : World) (xs : List Nat) : Nd (w.alloc (.cells (iv xs).toArray 3)) (some ⟨w.heap.size, 0, none⟩) (toI xs) := nd_cel (Cel.new w (iv xs) 3)
def ban : List Nat := [98, 97, 110, 97, 110, 97]
theorem ban_sa : Su.arrL ban = [6, 5, 3, 1, 0, 4, 2] ∧ Su.arrE ban = 0 := by
  have h : Su.Ord ban [6, 5, 3, 1, 0, 4, 2] := ⟨by unfold Su.So; decide +kernel, by decide +kernel⟩
  obtain ⟨a, b⟩ := Su.arr_in (t := ban) (by decide)
  exact ⟨by rw [a]; exact h.eq.symm, b⟩
theorem ban_inv : Su.invL (toI [6, 5, 3, 1, 0, 4, 2]) = [4, 3, 6, 2, 5, 1, 0] ∧ Su.invE (toI [6, 5, 3, 1, 0, 4, 2]) = 0 := by
  have h : Su.Gd (toI [6, 5, 3, 1, 0, 4, 2]) (toI [6, 5, 3, 1, 0, 4, 2]).length := Su.pm_gd (fun i _ => by rw [gi_toI]; omega) (by unfold Su.Pm; decide +kernel)
  obtain ⟨a, b⟩ := Su.inv_yes h
  exact ⟨by rw [b]; decide +kernel, a⟩
theorem two_inv : Su.invL (toI [0, 0]) = [] ∧ Su.invE (toI [0, 0]) = 2 := by
  obtain ⟨a, b⟩ := Su.inv_no (l := toI [0, 0]) (q := 2) (Nat.le_refl _) fun h => h.2 0 1 (by decide) (by decide) rfl
  exact ⟨b, a⟩
theorem ban_chk : Su.chk ban (toI [6, 5, 3, 1, 0, 4, 2]) = true ∧ Su.chk [] (toI [6, 5, 3, 1, 0, 4, 2]) = false := by
  have e : Su.sa ban = [6, 5, 3, 1, 0, 4, 2] := by rw [← (Su.arr_in (t := ban) (by decide)).1]; exact ban_sa.1
  refine ⟨?_, ?_⟩
  · unfold Su.chk
    rw [e]
    decide +kernel
  · unfold Su.chk
    rw [decide_eq_false (p := toI (Su.sa []) = _) fun h => ?_]
    · rfl
    · have := congrArg List.length h
      rw [length_toI, Su.length_sa] at this
      simp [toI] at this
theorem ba_less : lessE [98, 97] 1 0 = true := by decide +kernel
theorem bytes_zero (n : Nat) : Bytes (List.replicate n 0) := fun x hx => by rw [(List.mem_replicate.1 hx).2]; decide
theorem ban_bytes : Bytes ban := by unfold Bytes ban; decide
end Go.Proofs.Ytojjinjgmijgcaa
