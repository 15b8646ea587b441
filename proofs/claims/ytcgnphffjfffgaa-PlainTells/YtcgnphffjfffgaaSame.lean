/-
  The contract of Same, the law that two rows are one.
-/
import Derived.Test.YtcgnphffjfffgaaRead
import Derived.Test.YtcgnphffjfffgaaBit2
import Derived.Deep.QuietTactic
import Derived.BigQuiet
namespace Go.Proofs.Ytcgnphffjfffgaa
open Go.RowKit Num Bit

theorem same_end {xs ys : List Nat} (hl : xs.length = ys.length) (k : Nat) (hk : ¬ k < xs.length) (h : ∀ j, j < k → gt xs j = gt ys j) : xs = ys :=
  list_ext xs ys hl fun i hi => h i (by omega)

theorem same_c (N : Int) (ao : Option Addr) (xs : List Nat) (cap : Nat) (M : Int) (bo : Option Addr) (ys : List Nat) (dap : Nat) (w : World) (hx : Wd w ao xs) (hy : Wd w bo ys) (hl : xs.length ≤ 1048576) :
    Calls Try.prog 23 #[.agg #[.int .i64 N, .slice ao xs.length cap], .agg #[.int .i64 M, .slice bo ys.length dap]] w fun e w' => e = .returned (.bool (decide (N = M) && decide (xs = ys))) ∧ Below w.heap.size w w' := by
  by_cases h1 : N = M
  · subst h1
    by_cases h2 : xs.length = ys.length
    · have h1' : (N != N) = false := by simp
      have h2' : ((xs.length : Int) != (ys.length : Int)) = false := by simp [h2]
      have H2 : Hid (xs.length = ys.length) := h2
      have h3 : xs.length ≤ ys.length := by omega
      clear h2
      go_enter Try.func23, Try.ntmps23
      go_wp2
      go_loopw [5] (fun i wr => ∃ k : Nat, k ≤ xs.length ∧ i = .int .i64 k ∧ Hid (∀ j, j < k → gt xs j = gt ys j) ∧ wr.cell? ⟨w.heap.size, 1, none⟩ = some (.slice ao xs.length cap) ∧ wr.cell? ⟨w.heap.size + 1, 1, none⟩ = some (.slice bo ys.length dap) ∧ Below w.heap.size w wr) (fun i _ => xs.length - (intOf i).toNat)
      case atStart => exact ⟨0, by omega, rfl, fun j hj => absurd hj (by omega), by simp, by simp, ((Below.refl _ _).alloc (Nat.le_refl _) _).alloc (by simp) _⟩
      case round =>
        obtain ⟨k, hk, rfl, H, c1, d1, hw⟩ := hrel
        by_cases hlt : k < xs.length
        · obtain ⟨b, off, rfl, hb, hc⟩ := hx (by omega)
          obtain ⟨d, off2, rfl, hd, hc2⟩ := hy (by omega)
          have e1 := (hw.cell (p := ⟨b, off + k, none⟩) hb).trans (hc k hlt)
          have e2 := (hw.cell (p := ⟨d, off2 + k, none⟩) hd).trans (hc2 k (by omega))
          have hlt2 : k < ys.length := by omega
          have hlt3 : (k : Int) < (xs.length : Int) := by omega
          have hlt4 : (k : Int) < (ys.length : Int) := by omega
          clear hc hc2
          go_wp2
          go_quiet (fail)
          go_wp2
          · have hne : ((gt xs k : Int) != (gt ys k : Int)) = true := by assumption
            go_ret
            refine ⟨ret_bool ?_, below_drewN hw _⟩
            have : ¬ xs = ys := fun e => by subst e; simp at hne
            simp [this]
          · have heq : ((gt xs k : Int) != (gt ys k : Int)) = false := by assumption
            refine ⟨⟨k + 1, by omega, by go_num, ?_, c1, d1, below_drewN hw _⟩, by simp only [intOf]; omega⟩
            intro j hj
            by_cases e : j = k
            · subst e; have h2 : (gt xs j : Int) = (gt ys j : Int) := by simpa using heq
              omega
            · exact H.out j (by omega)
        · go_wp2
          go_ret
          exact ⟨ret_bool (by simp [same_end H2.out k hlt H.out]), by assumption⟩
    · have h1' : (N != N) = false := by simp
      have h2' : ((xs.length : Int) != (ys.length : Int)) = true := by simp; omega
      have R : Hid (false = (decide (N = N) && decide (xs = ys))) := by
        have : ¬ xs = ys := fun e => h2 (by rw [e])
        simp [this, Hid]
      clear h2
      go_enter Try.func23, Try.ntmps23
      go_wp2
      go_ret
      exact ⟨ret_bool R.out, ((Below.refl _ _).alloc (Nat.le_refl _) _).alloc (by simp) _⟩
  · have h1' : (N != M) = true := by simpa using h1
    have R : Hid (false = (decide (N = M) && decide (xs = ys))) := by simp [h1, Hid]
    clear h1
    go_enter Try.func23, Try.ntmps23
    go_wp2
    go_ret
    exact ⟨ret_bool R.out, ((Below.refl _ _).alloc (Nat.le_refl _) _).alloc (by simp) _⟩

end Go.Proofs.Ytcgnphffjfffgaa
