/-
  The contracts of small, of the document's Same and Rows at what is the same.
-/
import Derived.Test.YtjilehaokignoaaDoorErr
import Derived.Test.YtjilehaokignoaaDoorSame
namespace Go.Proofs.YtjilehaokignoaaDoor
open Go.RowKit Num Bit
set_option maxRecDepth 100000
set_option linter.unusedVariables false

theorem ismall_t (N W M : Int) (ao : Option Addr) (n cap : Nat) (w : World) (h1 : N ≤ 1000) (h2 : M ≤ 9000) (h3 : (n : Int) ≤ 1000) :
    Calls Tryd.prog 12 #[.agg #[.int .i64 N, .int .i64 W, .int .i64 M, .slice ao n cap]] w fun e w' => e = .returned (.bool true) ∧ Below w.heap.size w w' := by
  go_enter Tryd.func12, Tryd.ntmps12
  go_wp2
  go_ret
  exact ⟨by simp, below_alloc w _⟩
theorem ismall_f (N W M : Int) (ao : Option Addr) (n cap : Nat) (w : World) (h : ¬ (N ≤ 1000 ∧ M ≤ 9000 ∧ (n : Int) ≤ 1000)) :
    Calls Tryd.prog 12 #[.agg #[.int .i64 N, .int .i64 W, .int .i64 M, .slice ao n cap]] w fun e w' => e = .returned (.bool false) ∧ Below w.heap.size w w' := by
  by_cases h1 : N ≤ 1000
  · by_cases h2 : M ≤ 9000
    · have h3 : ¬ (n : Int) ≤ 1000 := fun h3 => h ⟨h1, h2, h3⟩
      have h3' : decide ((n : Int) ≤ 1000) = false := by simpa using h3
      clear h
      go_enter Tryd.func12, Tryd.ntmps12
      go_wp2
      go_ret
      exact ⟨by simp, below_alloc w _⟩
    · have h2' : decide (M ≤ 9000) = false := by simpa using h2
      clear h
      go_enter Tryd.func12, Tryd.ntmps12
      go_wp2
      go_ret
      exact ⟨by simp, below_alloc w _⟩
  · have h1' : decide (N ≤ 1000) = false := by simpa using h1
    clear h
    go_enter Tryd.func12, Tryd.ntmps12
    go_wp2
    go_ret
    exact ⟨by simp, below_alloc w _⟩

theorem isame_eq (N W M : Int) (ao bo : Option Addr) (xs : List Nat) (cap dap : Nat) (w : World) (hx : Wd w ao xs) (hy : Wd w bo xs) (hl : xs.length ≤ 1048576) :
    Calls Tryd.prog 11 #[.agg #[.int .i64 N, .int .i64 W, .int .i64 M, .slice ao xs.length cap], .agg #[.int .i64 N, .int .i64 W, .int .i64 M, .slice bo xs.length dap]] w fun e w' => e = .returned (.bool true) ∧ Below w.heap.size w w' := by
  have K : ∀ o o', Below w.heap.size w ((w.alloc o).alloc o') := fun o o' => (below_alloc w o).alloc (by simp) o'
  have n1 : (N == N) = true := by simp
  have n2 : (W == W) = true := by simp
  go_enter Tryd.func11, Tryd.ntmps11
  go_wp2_with fail
  refine (same_c _ _ _ _ _ _ _ _ _ (hx.keep (K _ _)) (hy.keep (K _ _)) hl).mono ?_
  rintro e w1 ⟨rfl, hb⟩
  have hw := (K (.cells #[.int .i64 N, .int .i64 W, .int .i64 M, .slice ao xs.length cap] 27) (.cells #[.int .i64 N, .int .i64 W, .int .i64 M, .slice bo xs.length dap] 27)).trans (hb.mono (by simp; omega))
  clear hb K
  go_wp2
  go_ret
  exact ⟨by simp, hw⟩

theorem rows_eq (ao bo : Option Addr) (xs : List Nat) (cap dap : Nat) (w : World) (hx : Wd w ao xs) (hy : Wd w bo xs) (hl : xs.length ≤ 1048576) :
    Calls Tryd.prog 21 #[.slice ao xs.length cap, .slice bo xs.length dap] w fun e w' => e = .returned (.bool true) ∧ Below w.heap.size w w' := by
  have h2' : ((xs.length : Int) != (xs.length : Int)) = false := by simp
  go_enter Tryd.func21, Tryd.ntmps21
  go_wp2
  go_loopw [5] (fun i wr => ∃ k : Nat, k ≤ xs.length ∧ i = .int .i64 k ∧ Below w.heap.size w wr) (fun i _ => xs.length - (intOf i).toNat)
  case atStart => exact ⟨0, by omega, rfl, Below.refl _ _⟩
  case round =>
    obtain ⟨k, hk, rfl, hw⟩ := hrel
    by_cases hlt : k < xs.length
    · obtain ⟨b, off, rfl, hb, hc⟩ := hx (by omega)
      obtain ⟨d, off2, rfl, hd, hc2⟩ := hy (by omega)
      have e1 := (hw.cell (p := ⟨b, off + k, none⟩) hb).trans (hc k hlt)
      have e2 := (hw.cell (p := ⟨d, off2 + k, none⟩) hd).trans (hc2 k hlt)
      have hlt3 : (k : Int) < (xs.length : Int) := by omega
      have hne : ((gt xs k : Int) != (gt xs k : Int)) = false := by simp
      clear hc hc2
      go_wp2
      go_quiet (fail)
      go_wp2
      exact ⟨⟨k + 1, by omega, by go_num, below_drewN hw _⟩, by simp only [intOf]; omega⟩
    · go_wp2
      go_ret
      exact ⟨rfl, by assumption⟩
end Go.Proofs.YtjilehaokignoaaDoor
