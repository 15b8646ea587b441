/-
  The contracts of Get and Slice.
-/
import Derived.Test.YtcgnphffjfffgaaRead
import Derived.Test.YtcgnphffjfffgaaBit2
namespace Go.Proofs.Ytcgnphffjfffgaa
open Go.RowKit Num Bit

theorem get_end (xs : List Nat) (hg : Fit xs) (i : Nat) (j k : Nat) (hj : j = i / 64) (hk : k = i % 64) : (bits BinOp.and IntKind.u64 ((gt xs j : Int) / 2 ^ k) 1 == 1) = bitAt xs i := by
  subst hj hk
  have h := hg (i / 64)
  rw [bit_and _ _ (by omega) (by omega)]
  unfold bitAt
  rw [bit_test, Int.toNat_natCast, Bool.eq_iff_iff, beq_iff_eq, decide_eq_true_eq]
  omega

theorem get_c (N : Int) (ao : Option Addr) (xs : List Nat) (cap : Nat) (i : Int) (w : World) (hx : Wd w ao xs) (hg : Fit xs) :
    Calls Try.prog 34 #[.agg #[.int .i64 N, .slice ao xs.length cap], .int .i64 i] w fun e w' => e = .returned (.tuple #[.bool (getB N xs i), .int .i64 (getE N xs i)]) ∧ Below w.heap.size w w' := by
  have K : ∀ o, Wd (w.alloc o) ao xs := fun o => hx.keep (below_alloc w o)
  by_cases hE : getE N xs i = 0
  · have hk : chk N xs = true := by unfold getE at hE; cases h : chk N xs with | true => rfl | false => simp [h] at hE
    have hi : 0 ≤ i ∧ i < N := by
      unfold getE at hE; rw [if_neg (by simp [hk])] at hE
      by_cases h : i < 0 ∨ N ≤ i
      · rw [if_pos h] at hE; omega
      · omega
    obtain ⟨hc0, hc1, hc2, _⟩ := chk_out N xs hk
    obtain ⟨n, rfl⟩ := Int.eq_ofNat_of_zero_le hi.1
    obtain ⟨b, off, rfl, hb, hc⟩ := hx (by omega)
    have hE' : (getE N xs n == 0) = true := by simpa using hE
    have hB : Hid (bitAt xs n = getB N xs n) := by unfold getB; rw [hk, show decide (0 ≤ (n : Int) ∧ (n : Int) < N) = true by simpa using hi.2]; simp [Hid]
    have hcj := hc (n / 64) (by omega)
    clear hx hk hc
    obtain ⟨h0, h1⟩ := hi
    have hl : (n : Int) / 64 < (xs.length : Int) := by omega
    clear hc2 
    go_enter Try.func34, Try.ntmps34
    go_wp2_with (go_at_call 46; refine (place_c _ _ _ _ _ _ (K _)).mono ?_; rintro e w' ⟨rfl, hb⟩; obtain ⟨c0, c1, hz, hw⟩ := box_cells hb; have hcw := (hw.cell (p := ⟨_, off + n / 64, none⟩) (by assumption)).trans hcj; clear hb)
    go_ret2
    exact ⟨ret_pair (congrArg Value.bool ((get_end xs hg n _ _ rfl rfl).trans hB.out)) (congrArg (Value.int IntKind.i64) hE.symm), by assumption⟩
  · have hE' : (getE N xs i == 0) = false := by simpa using hE
    have hB : Hid (false = getB N xs i) := by
      unfold getB getE at *
      cases h : chk N xs with
      | false => simp [Hid]
      | true =>
        simp only [h] at hE
        by_cases h2 : i < 0 ∨ N ≤ i
        · have : decide (0 ≤ i ∧ i < N) = false := by simp; omega
          rw [this]; simp [Hid]
        · simp [h2] at hE
    clear hE
    go_enter Try.func34, Try.ntmps34
    go_wp2_with (go_at_call 46; refine (place_c _ _ _ _ _ _ (K _)).mono ?_; rintro e w' ⟨rfl, hb⟩; obtain ⟨c0, c1, hz, hw⟩ := box_cells hb; clear hb)
    go_ret2
    exact ⟨ret_pair (congrArg Value.bool hB.out) rfl, by assumption⟩

end Go.Proofs.Ytcgnphffjfffgaa
