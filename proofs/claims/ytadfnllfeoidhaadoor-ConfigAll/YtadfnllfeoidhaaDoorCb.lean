/-
  The contracts of the document's samples, logs, in and Check.
-/
import Derived.Test.YtadfnllfeoidhaaDoorRi
import Derived.Test.YtadfnllfeoidhaaDoorRg
import Derived.Test.YtadfnllfeoidhaaDoorCa
import Derived.Deep.QuietTactic
import Derived.BigQuiet
namespace Go.Proofs.YtadfnllfeoidhaaDoor
open Go.RowKit
set_option linter.unusedVariables false
set_option linter.unusedSimpArgs false
set_option maxRecDepth 100000

namespace Co
/-- A configuration as it is handed in: whatever numbers. -/
abbrev Zf := Int × Int × Int × Int × Int
def cv (z : Zf) : List Value := [.int .i64 z.1, .int .i64 z.2.1, .int .i64 z.2.2.1, .int .i64 z.2.2.2.1, .int .i64 z.2.2.2.2]
def inZ (l : List Nat) (n : Int) : Bool := decide (n ∈ toI l)
def okZ (z : Zf) : Bool := decide (1 ≤ z.1) && (decide (z.1 ≤ 4) && (decide (1 ≤ z.2.2.2.1) && (decide (z.2.2.2.1 ≤ 3) && (inZ sam z.2.2.2.2 && bif decide (z.1 = 4) then decide (1 ≤ z.2.1) && (decide (z.2.1 ≤ 3) && inZ lgs z.2.2.1) else decide (z.2.1 = 0) && decide (z.2.2.1 = 0)))))
end Co
theorem rsam_c (w : World) : Calls Tryd.prog 28 #[] w fun e w' => ∃ g, e = .returned (.slice (some ⟨g, 0, none⟩) 7 7) ∧ Nd w' (some ⟨g, 0, none⟩) (toI Co.sam) ∧ Below w.heap.size w w' := by
  have H : Hid (Cel (w.alloc (.cells (iv Co.sam).toArray 3)) w.heap.size (iv Co.sam) 3) := Cel.new w _ _
  have B := hide (below_alloc w (.cells (iv Co.sam).toArray 3))
  go_enter Tryd.func28, Tryd.ntmps28
  go_wp2
  go_ret
  exact ⟨_, rfl, nd_cel H.out, B.out⟩
theorem rlog_c (w : World) : Calls Tryd.prog 29 #[] w fun e w' => ∃ g, e = .returned (.slice (some ⟨g, 0, none⟩) 5 5) ∧ Nd w' (some ⟨g, 0, none⟩) (toI Co.lgs) ∧ Below w.heap.size w w' := by
  have H : Hid (Cel (w.alloc (.cells (iv Co.lgs).toArray 3)) w.heap.size (iv Co.lgs) 3) := Cel.new w _ _
  have B := hide (below_alloc w (.cells (iv Co.lgs).toArray 3))
  go_enter Tryd.func29, Tryd.ntmps29
  go_wp2
  go_ret
  exact ⟨_, rfl, nd_cel H.out, B.out⟩
theorem mem_gi {l : List Int} {n : Int} (h : n ∈ l) : ∃ i, i < l.length ∧ gi l i = n := by
  obtain ⟨i, hi⟩ := List.getElem?_of_mem h
  have hl := (List.getElem?_eq_some_iff.1 hi).1
  rw [gi_get l i hl] at hi
  injection hi with hi
  exact ⟨i, hl, hi⟩
set_option maxHeartbeats 2000000 in
theorem rin_c (ao : Option Addr) (l : List Int) (cap : Nat) (n : Int) (w : World) (hx : Nd w ao l) (hl : l.length ≤ 1000) :
    Calls Tryd.prog 27 #[.slice ao l.length cap, .int .i64 n] w fun e w' => e = .returned (.bool (decide (n ∈ l))) ∧ Below w.heap.size w w' := by
  go_enter Tryd.func27, Tryd.ntmps27
  go_wp2
  go_loopw [5] (fun vi wr => ∃ k : Nat, k ≤ l.length ∧ vi = .int .i64 k ∧ Hid (∀ i, i < k → gi l i ≠ n) ∧ Below w.heap.size w wr) (fun vi _ => l.length - (intOf vi).toNat)
  case atStart => exact ⟨0, Nat.zero_le _, rfl, fun i h => absurd h (Nat.not_lt_zero _), Below.refl _ _⟩
  case round =>
    obtain ⟨k, hk, rfl, H, hw⟩ := hrel
    by_cases hlt : k < l.length
    · obtain ⟨b, off, rfl, hb, hc⟩ := hx (by omega)
      have e1 := (hw.cell (p := ⟨b, off + k, none⟩) hb).trans (hc k hlt)
      have hltz : (k : Int) < (l.length : Int) := by omega
      by_cases hv : gi l k = n
      · have R : Hid (decide (n ∈ l) = true) := decide_eq_true (by rw [← hv]; exact List.mem_of_getElem? (gi_get l k hlt))
        have hv2 : (gi l k == n) = true := by simp [hv]
        clear hc hv
        generalize gi l k = x at *
        go_wp2
        try (go_quiet (fail); go_wp2)
        go_ret
        rw [R.out]
        exact ⟨rfl, by first | exact hw | exact below_drewN hw _⟩
      · have hv2 : (gi l k == n) = false := by simp [hv]
        have HN : Hid (∀ i, i < k + 1 → gi l i ≠ n) := fun i hi => by
          by_cases e : i = k
          · subst e; exact hv
          · exact H.out i (by omega)
        clear hc hv
        generalize gi l k = x at *
        go_wp2
        try (go_quiet (fail); go_wp2)
        exact ⟨⟨k + 1, by omega, by go_num, HN, by first | exact hw | exact below_drewN hw _⟩, by simp only [intOf]; omega⟩
    · have hge : (l.length : Int) ≤ (k : Int) := by omega
      have R : Hid (decide (n ∈ l) = false) := decide_eq_false fun h => by
        obtain ⟨i, hi, e⟩ := mem_gi h
        exact H.out i (by omega) e
      go_wp2
      go_ret
      rw [R.out]
      exact ⟨rfl, hw⟩
end Go.Proofs.YtadfnllfeoidhaaDoor
