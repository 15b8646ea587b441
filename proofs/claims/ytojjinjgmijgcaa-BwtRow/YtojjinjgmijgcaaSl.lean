/-
  The contract of the document's Less.
-/
import Derived.Test.YtojjinjgmijgcaaSf
import Derived.BigQuiet
namespace Go.Proofs.Ytojjinjgmijgcaa
open Go.RowKit
set_option linter.unusedVariables false
set_option linter.unusedSimpArgs false
set_option maxRecDepth 100000

/-- A slice from a place on reads as what is left. -/
theorem Bd.from {w : World} {ao : Option Addr} {t : List Nat} (h : Bd w ao t) (i cap : Nat) (hc : t.length ≤ cap) : Bd w (if cap = i then ao else ao.map (·.add i)) (t.drop i) := by
  intro h0
  rw [List.length_drop] at h0
  obtain ⟨b, off, rfl, hlt, hcc⟩ := h (by omega)
  rw [if_neg (by omega)]
  refine ⟨b, off + i, ?_, hlt, fun j hj => ?_⟩
  · simp only [Option.map_some, Option.some.injEq]
    unfold Addr.add
    split
    · subst_vars; rfl
    · rfl
  · rw [List.length_drop] at hj
    rw [gt_drop, Nat.add_assoc]
    exact hcc (i + j) (by omega)
theorem conv_from {w : World} {ao : Option Addr} {t : List Nat} (h : Bd w ao t) (i cap : Nat) (hc : t.length ≤ cap) : (convert 22 9 (.slice (if cap = i then ao else ao.map (·.add i)) (t.length - i) (cap - i))).run Try.prog w = .ok (.string (strOfNums (nums (t.drop i)))) w := by
  have := conv (cap - i) (h.from i cap hc)
  rw [List.length_drop] at this
  exact this
def lessE (t : List Nat) (i j : Int) : Bool := decide (0 ≤ i ∧ 0 ≤ j ∧ i ≤ t.length ∧ j ≤ t.length) && Su.ah t i.toNat j.toNat
theorem less_in (t : List Nat) (i j : Nat) (hi : i ≤ t.length) (hj : j ≤ t.length) : lessE t i j = Su.ah t i j := by
  unfold lessE
  rw [decide_eq_true (by omega)]
  simp
theorem less_out (t : List Nat) (i j : Int) (h : ¬ (0 ≤ i ∧ 0 ≤ j ∧ i ≤ t.length ∧ j ≤ t.length)) : lessE t i j = false := by
  unfold lessE
  rw [decide_eq_false h]
  rfl
set_option maxHeartbeats 2000000 in
theorem rless_c (ao : Option Addr) (t : List Nat) (cap : Nat) (i j : Int) (w : World) (hx : Bd w ao t) (hb : Bytes t) (hc : t.length ≤ cap) (hl : t.length ≤ 1048576) :
    Calls Try.prog 21 #[.slice ao t.length cap, .int .i64 i, .int .i64 j] w fun e w' => e = .returned (.bool (lessE t i j)) ∧ Below w.heap.size w w' := by
  by_cases h1 : i < 0
  · have R := hide (less_out t i j (by omega))
    go_enter Try.func21, Try.ntmps21
    go_wp2
    go_ret
    rw [R.out]
    exact ⟨rfl, Below.refl _ _⟩
  by_cases h2 : j < 0
  · have R := hide (less_out t i j (by omega))
    go_enter Try.func21, Try.ntmps21
    go_wp2
    go_ret
    rw [R.out]
    exact ⟨rfl, Below.refl _ _⟩
  by_cases h3 : (t.length : Int) < i
  · have R := hide (less_out t i j (by omega))
    go_enter Try.func21, Try.ntmps21
    go_wp2
    go_ret
    rw [R.out]
    exact ⟨rfl, Below.refl _ _⟩
  by_cases h4 : (t.length : Int) < j
  · have R := hide (less_out t i j (by omega))
    go_enter Try.func21, Try.ntmps21
    go_wp2
    go_ret
    rw [R.out]
    exact ⟨rfl, Below.refl _ _⟩
  obtain ⟨i, rfl⟩ := Int.eq_ofNat_of_zero_le (show 0 ≤ i by omega)
  obtain ⟨j, rfl⟩ := Int.eq_ofNat_of_zero_le (show 0 ≤ j by omega)
  have k1 : ((i : Nat) : Int) ≤ (t.length : Int) := by omega
  have k2 : ((j : Nat) : Int) ≤ (t.length : Int) := by omega
  have C1 := fun n => conv_from (w := w.drewN n) (hx.keep (below_drewN (Below.refl _ _) n)) i cap hc
  have C2 := fun n => conv_from (w := w.drewN n) (hx.keep (below_drewN (Below.refl _ _) n)) j cap hc
  have R : Hid (Op.bytesLess (strOfNums (nums (t.drop i))).toList (strOfNums (nums (t.drop j))).toList = lessE t i j) := by
    show _ = lessE t i j
    rw [less_str _ _ (hb.drop i) (hb.drop j), less_in t i j (by omega) (by omega)]
    rfl
  generalize strOfNums (nums (t.drop i)) = S1 at *
  generalize strOfNums (nums (t.drop j)) = S2 at *
  go_enter Try.func21, Try.ntmps21
  go_wp2
  go_quiet (fail)
  clear C1 C2
  generalize (if cap = i then ao else Option.map (fun x => x.add i) ao) = a1
  generalize (if cap = j then ao else Option.map (fun x => x.add j) ao) = a2
  go_wp2
  go_ret
  exact ⟨ret_bool R.out, below_drewN (Below.refl _ _) _⟩
end Go.Proofs.Ytojjinjgmijgcaa
