/-
  Plain arithmetic of numbers that are put one behind the other: how long the row is, its bits, what is read.
-/
import Derived.Test.YtmdmjbpehbjgpaaSc
import Derived.Test.YtmdmjbpehbjgpaaFrom
namespace Go.Proofs.Ytmdmjbpehbjgpaa
open Num
namespace Bit

def szN (ds : List Bool) (l : List Nat) : Nat → Nat
  | 0 => 0
  | q + 1 => szN ds l q + cL (bt ds q) (gt l q)
def rwN (ds : List Bool) (l : List Nat) : Nat → List Nat
  | 0 => []
  | q + 1 => pL (bt ds q) (szN ds l q) (rwN ds l q) (gt l q)

theorem cL_zero (d : Bool) : cL d 0 = 0 := by simp [cL]
theorem szN_le (ds : List Bool) (l : List Nat) (hf : Fit l) (q : Nat) : szN ds l q ≤ 127 * q := by
  induction q with
  | zero => simp [szN]
  | succ q ih => simp only [szN]; have := cL_le (bt ds q) (gt l q) (hf q); omega

theorem put_row (d : Bool) (n x : Nat) (f : Nat → Bool) (hn : n ≤ 1000000) (h0 : x ≠ 0) (h64 : x < 18446744073709551616) :
    pE d n (rowOf n f) x = 0 ∧ pN d n (rowOf n f) x = ((n + cL d x : Nat) : Int) ∧ pL d n (rowOf n f) x = rowOf (n + cL d x) (fun j => if j < n then f j else cF d x (j - n)) := by
  have c0 := chk_rowOf n f (by omega)
  have c1 := chk_cR d x h64
  have cl := cL_le d x h64
  have e : joinE n (rowOf n f) (cL d x) (cR d x) = 0 := by unfold joinE; rw [if_neg (by rw [c0, c1]; simp; omega)]
  unfold pN pL pE
  simp only [if_neg h0]
  refine ⟨e, ?_, ?_⟩
  · unfold joinN; rw [if_pos e]; omega
  · unfold joinL
    rw [if_pos e, show ((n : Int) + (cL d x : Int)).toNat = n + cL d x by omega]
    refine rowOf_congr _ _ _ fun j hj => ?_
    rw [Int.toNat_natCast]
    split
    · rename_i h; rw [bitAt_rowOf]; simp [h]
    · rename_i h; unfold cR; rw [bitAt_rowOf]; simp; omega

/-- The row behind q numbers: its bits, code by code. -/
theorem rwN_spec (ds : List Bool) (l : List Nat) (hf : Fit l) (q : Nat) (hq : q ≤ 60) :
    ∃ f : Nat → Bool, rwN ds l q = rowOf (szN ds l q) f ∧ ∀ k, k < q → ∀ j, j < cL (bt ds k) (gt l k) → szN ds l k + j < szN ds l q ∧ f (szN ds l k + j) = cF (bt ds k) (gt l k) j := by
  induction q with
  | zero => exact ⟨fun _ => false, by simp [rwN, szN, rowOf], fun k hk => absurd hk (Nat.not_lt_zero _)⟩
  | succ q ih =>
    obtain ⟨f, h1, h2⟩ := ih (by omega)
    have sz := szN_le ds l hf q
    by_cases h0 : gt l q = 0
    · refine ⟨f, ?_, ?_⟩
      · simp only [rwN, szN]
        rw [h0, cL_zero, Nat.add_zero, ← h1]
        simp [pL]
      · intro k hk j hj
        simp only [szN]
        rw [h0, cL_zero, Nat.add_zero]
        by_cases e : k = q
        · subst e; rw [h0, cL_zero] at hj; omega
        · exact h2 k (by omega) j hj
    · obtain ⟨p1, p2, p3⟩ := put_row (bt ds q) (szN ds l q) (gt l q) f (by omega) h0 (hf q)
      refine ⟨fun j => if j < szN ds l q then f j else cF (bt ds q) (gt l q) (j - szN ds l q), ?_, ?_⟩
      · simp only [rwN, szN]
        rw [h1, p3]
      · intro k hk j hj
        simp only [szN]
        by_cases e : k = q
        · subst e
          refine ⟨by omega, ?_⟩
          rw [if_neg (by omega), show szN ds l k + j - szN ds l k = j by omega]
        · obtain ⟨a, b⟩ := h2 k (by omega) j hj
          refine ⟨by omega, ?_⟩
          rw [if_pos a, b]

theorem rwN_facts (ds : List Bool) (l : List Nat) (hf : Fit l) (q : Nat) (hq : q ≤ 60) :
    chk (szN ds l q) (rwN ds l q) = true ∧ Fit (rwN ds l q) ∧ (rwN ds l q).length ≤ 1048576 := by
  obtain ⟨f, h1, -⟩ := rwN_spec ds l hf q hq
  have sz := szN_le ds l hf q
  rw [h1]
  exact ⟨chk_rowOf _ _ (by omega), fit_rowOf _ _, by rw [length_rowOf]; omega⟩

theorem rwN_put (ds : List Bool) (l : List Nat) (hf : Fit l) (q : Nat) (hq : q ≤ 60) :
    pN (bt ds q) (szN ds l q) (rwN ds l q) (gt l q) = (szN ds l (q + 1) : Int) ∧ (pE (bt ds q) (szN ds l q) (rwN ds l q) (gt l q) == 0) = (gt l q != 0) := by
  obtain ⟨f, h1, -⟩ := rwN_spec ds l hf q hq
  have sz := szN_le ds l hf q
  by_cases h0 : gt l q = 0
  · simp only [szN]
    rw [h0, cL_zero]
    simp [pN, pE]
  · obtain ⟨p1, p2, p3⟩ := put_row (bt ds q) (szN ds l q) (gt l q) f (by omega) h0 (hf q)
    rw [h1, p1, p2]
    exact ⟨rfl, by simp [h0]⟩

theorem rwN_read (ds : List Bool) (l : List Nat) (hf : Fit l) (n k : Nat) (hn : n ≤ 60) (hk : k < n) (h0 : gt l k ≠ 0) :
    rd (bt ds k) (szN ds l n) (rwN ds l n) (szN ds l k : Int) = (gt l k, (szN ds l (k + 1) : Int), 0) := by
  obtain ⟨f, h1, h2⟩ := rwN_spec ds l hf n hn
  obtain ⟨hc, -, -⟩ := rwN_facts ds l hf n hn
  have cp := cL_pos (bt ds k) (gt l k) h0
  have lt := (h2 k hk (cL (bt ds k) (gt l k) - 1) (by omega)).1
  have := rd_code (bt ds k) (szN ds l n) (rwN ds l n) (szN ds l k) (gt l k) hc h0 (hf k) (by omega) (fun j hj => by
    obtain ⟨a, b⟩ := h2 k hk j hj
    rw [h1, bitAt_rowOf, b, show decide (szN ds l k + j < szN ds l n) = true by simpa using a]
    rfl)
  rw [this]
  simp only [szN]
  refine Prod.ext rfl (Prod.ext ?_ rfl)
  simp only
  omega
end Bit
end Go.Proofs.Ytmdmjbpehbjgpaa
