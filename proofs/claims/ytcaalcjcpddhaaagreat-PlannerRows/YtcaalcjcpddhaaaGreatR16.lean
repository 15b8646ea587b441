/-
  The contract of the program's Build. A row by places that is built, right; an argument of the type api.Fano, opened. What is built of a row that may be; an argument of one of the kinds opened.
-/
import Derived.Test.YtcaalcjcpddhaaaGreatR15
import Derived.Test.YtcaalcjcpddhaaaGreatR13
import Derived.Test.YtcaalcjcpddhaaaGreatR01
import Derived.Test.YtcaalcjcpddhaaaGreatRows
import Derived.ChangeSame
import Derived.Test.YtcaalcjcpddhaaaGreatR14
namespace Go.Proofs.YtcaalcjcpddhaaaGreat
open Go.RowKit Go.Shelf Num Bit
set_option linter.unusedVariables false
set_option linter.unusedSimpArgs false
set_option maxRecDepth 100000

end Go.Proofs.YtcaalcjcpddhaaaGreat

namespace Go.Proofs.YtcaalcjcpddhaaaGreat
open Go.ChangeShapes Go.WideShapes Go.ChangeAt Go.RowKit Go.Joins Go.Deep Num Bit
set_option linter.unusedVariables false
set_option maxRecDepth 100000

theorem kB_ok9 (N : Int) (xs : List Nat) (hf : Fit xs) (hk : chk N xs = true) (hN : N ≤ 3000) : kOk9 (kB9 N xs) = true ∧ kBN9 (kB9 N xs) = N ∧ kBX9 (kB9 N xs) = xs := by
 obtain ⟨h0, h1, _, _⟩ := chk_out N xs hk
 obtain ⟨n, rfl⟩ := Int.eq_ofNat_of_zero_le h0
 have hn : n ≤ 3000 := by omega
 obtain ⟨L, hL⟩ : ∃ L, L = plc (bitAt xs) n := ⟨_, rfl⟩
 have RS : Rise L n := by rw [hL]; exact plc_rise _ _
 have mn := RS.len
 have v20 := wdF_le n L.length (by omega)
 have e : kB9 (n : Int) xs = fOf n L := by
  unfold kB9
  rw [if_pos hk, Int.toNat_natCast, ← hL]
 have hE : n / 2 ^ wdF n L.length ≤ n := Nat.div_le_self _ _
 have hrow : fRow (fOf n L) = some L := by
  refine fRow_of RS (by omega) (by unfold hiN; omega) ?_
  have l1 := length_lo_le L (wdF n L.length)
  have l3 : (loP L (wdF n L.length)).length * max (wdF n L.length) 1 ≤ 3000 * 20 := Nat.mul_le_mul (by omega) (by omega)
  omega
 have ok : kOk9 (fOf n L) = true := by
  unfold kOk9
  rw [hrow]
  exact (fSame_iff _ _).2 rfl
 rw [e]
 refine ⟨ok, ?_, ?_⟩
 ·unfold kBN9
  rw [if_pos ok]
  rfl
 ·unfold kBX9 kRow
  rw [if_pos ok, hrow]
  show rowOf n (isIn L) = xs
  have hy := chk_row (n : Int) xs hf hk
  rw [Int.toNat_natCast] at hy
  rw [rowOf_congr n _ (bitAt xs) fun j hj => by rw [hL, isIn_plc, decide_eq_true hj, Bool.true_and]]
  exact hy.symm
end Go.Proofs.YtcaalcjcpddhaaaGreat

namespace Go.Proofs.YtcaalcjcpddhaaaGreat
open Go.ChangeShapes Go.WideShapes Go.ChangeAt Go.RowKit Go.Joins Go.Deep Num Bit Bn
set_option linter.unusedVariables false
set_option maxRecDepth 100000

theorem kB_p (N : Int) (xs : List Nat) (h : kE7 N xs = 0) : kB 1 N xs = ⟨1, kB7 N xs, n8, n9⟩ := by
 have e : kE 1 N xs = 0 := h
 unfold kB
 rw [if_pos e]
 rfl
theorem kB_r (N : Int) (xs : List Nat) (h : kE8 N xs = 0) : kB 2 N xs = ⟨2, n7, kB8 N xs, n9⟩ := by
 have e : kE 2 N xs = 0 := h
 unfold kB
 rw [if_pos e]
 rfl
theorem kB_f (N : Int) (xs : List Nat) (h : kE9 N xs = 0) : kB 3 N xs = ⟨3, n7, n8, kB9 N xs⟩ := by
 have e : kE 3 N xs = 0 := h
 unfold kB
 rw [if_pos e]
 rfl
theorem kB_none (k N : Int) (xs : List Nat) (h : kE k N xs ≠ 0) : kB k N xs = ⟨0, n7, n8, n9⟩ := by
 unfold kB
 rw [if_neg h]
theorem on_mp (p : RA7) : kOn ⟨1, p, n8, n9⟩ = 1 := by
 have : kZs ⟨1, p, n8, n9⟩ = true := rfl
 unfold kOn
 rw [if_pos this]
theorem on_mr (r : RA8) : kOn ⟨2, n7, r, n9⟩ = 2 := by
 have : kZs ⟨2, n7, r, n9⟩ = true := rfl
 unfold kOn
 rw [if_pos this]
theorem on_mf (f : RA9) : kOn ⟨3, n7, n8, f⟩ = 3 := by
 have : kZs ⟨3, n7, n8, f⟩ = true := rfl
 unfold kOn
 rw [if_pos this]
end Go.Proofs.YtcaalcjcpddhaaaGreat
