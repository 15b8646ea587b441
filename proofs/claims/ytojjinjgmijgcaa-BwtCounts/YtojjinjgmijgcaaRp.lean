/-
  The contracts of slices.Equal at numbers and of the program's Check; with those of Array, Inverse and Less they are the program's side of layer 17.
-/
import Derived.Test.YtojjinjgmijgcaaTb
import Derived.Test.YtojjinjgmijgcaaTc
import Derived.Test.YtojjinjgmijgcaaTj
namespace Go.Proofs.Ytojjinjgmijgcaa
open Go.RowKit
set_option linter.unusedVariables false
set_option linter.unusedSimpArgs false
set_option maxRecDepth 100000

set_option maxHeartbeats 2000000 in
theorem seq_c (ao : Option Addr) (l : List Int) (cap : Nat) (bo : Option Addr) (m : List Int) (dap : Nat) (w : World) (hx : Nd w ao l) (hy : Nd w bo m) (hm : m.length ≤ 1048576) :
    Calls Try.prog 33 #[.slice ao l.length cap, .slice bo m.length dap] w fun e w' => e = .returned (.bool (decide (l = m))) ∧ Below w.heap.size w w' := by
  by_cases h2 : l.length = m.length
  · have h2' : ((l.length : Int) != (m.length : Int)) = false := by simp [h2]
    have H2 : Hid (l.length = m.length) := h2
    have h3 : l.length ≤ m.length := by omega
    have hl : l.length ≤ 1048576 := by omega
    clear h2
    go_enter Try.func33, Try.ntmps33
    go_wp2
    go_loopw [13] (fun i wr => ∃ k : Nat, k ≤ l.length ∧ i = .int .i64 k ∧ Hid (∀ j, j < k → gi l j = gi m j) ∧ Below w.heap.size w wr) (fun i _ => l.length - (intOf i).toNat)
    case atStart => exact ⟨0, by omega, rfl, fun j hj => absurd hj (by omega), Below.refl _ _⟩
    case round =>
      obtain ⟨k, hk, rfl, H, hw⟩ := hrel
      by_cases hlt : k < l.length
      · obtain ⟨b, off, rfl, hb, hc⟩ := hx (by omega)
        obtain ⟨d, off2, rfl, hd, hc2⟩ := hy (by omega)
        have e1 := (hw.cell (p := ⟨b, off + k, none⟩) hb).trans (hc k hlt)
        have e2 := (hw.cell (p := ⟨d, off2 + k, none⟩) hd).trans (hc2 k (by omega))
        have hlt2 : k < m.length := by omega
        have hlt3 : (k : Int) < (l.length : Int) := by omega
        have hlt4 : (k : Int) < (m.length : Int) := by omega
        clear hc hc2
        by_cases hv : gi l k = gi m k
        · have hne : (gi l k != gi m k) = false := by simp [hv]
          have HN : Hid (∀ j, j < k + 1 → gi l j = gi m j) := fun j hj => by
            by_cases e : j = k
            · subst e; exact hv
            · exact H.out j (by omega)
          clear hv
          generalize gi l k = x at *
          generalize gi m k = y at *
          go_wp2
          go_quiet (fail)
          go_wp2
          exact ⟨⟨k + 1, by omega, by go_num, HN, below_drewN hw _⟩, by simp only [intOf]; omega⟩
        · have hne : (gi l k != gi m k) = true := by simp [hv]
          have R : Hid (decide (l = m) = false) := by
            show decide (l = m) = false
            simp only [decide_eq_false_iff_not]
            intro e; subst e; exact hv rfl
          generalize gi l k = x at *
          generalize gi m k = y at *
          go_wp2
          go_quiet (fail)
          go_wp2
          go_ret
          rw [R.out]
          exact ⟨rfl, below_drewN hw _⟩
      · have R : Hid (decide (l = m) = true) := by
          show decide (l = m) = true
          simp only [decide_eq_true_eq]
          exact gi_ext H2.out (fun i hi => H.out i (by omega))
        go_wp2
        go_ret
        rw [R.out]
        exact ⟨rfl, hw⟩
  · have h2' : ((l.length : Int) != (m.length : Int)) = true := by simp; omega
    have R : Hid (decide (l = m) = false) := by
      show decide (l = m) = false
      simp only [decide_eq_false_iff_not]
      intro e; subst e; exact h2 rfl
    go_enter Try.func33, Try.ntmps33
    go_wp2
    go_ret
    rw [R.out]
    exact ⟨rfl, Below.refl _ _⟩
end Go.Proofs.Ytojjinjgmijgcaa
