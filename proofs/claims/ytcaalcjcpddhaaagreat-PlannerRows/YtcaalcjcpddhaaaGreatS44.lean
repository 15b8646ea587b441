/-
  A row in blocks that is built, right; an argument of the type api.Rrr, opened. The contract of the program's Bits.
-/
import Derived.ChangeSame
import Derived.Test.YtcaalcjcpddhaaaGreatS43
set_option linter.unusedVariables false
set_option maxRecDepth 100000
set_option linter.unusedSimpArgs false
namespace Go.Proofs.YtcaalcjcpddhaaaGreat
open Go.ChangeShapes Go.WideShapes Go.ChangeAt Go.RowKit Go.Joins Go.Deep Num Bit Bn
theorem row_back (m : Nat) (xs : List Nat) (hf : Fit xs) (hk : chk (m : Int) xs = true) : rowOf m (bitAt xs) = xs := by
 have := chk_row m xs hf hk
 rw [Int.toNat_natCast] at this
 exact this.symm
theorem kB_ok8 (N : Int) (xs : List Nat) (hf : Fit xs) (hk : chk N xs = true) : kOk8 (kB8 N xs) = true ∧ kBN8 (kB8 N xs) = N ∧ kBX8 (kB8 N xs) = xs := by
 obtain ⟨h0, h1, _, _⟩ := chk_out N xs hk
 obtain ⟨m, rfl⟩ := Int.eq_ofNat_of_zero_le h0
 have hm : m ≤ 1048576 := by omega
 have e : kB8 (m : Int) xs = ⟨m, nb m, 4, (nb m : Int) * 4, rC m (bitAt xs), bat m (bitAt xs) (nb m), rO m (bitAt xs), rS m (bitAt xs), rT m (bitAt xs)⟩ := by
  unfold kB8 rbN rbK rbV rbM rbC rbL rbO rbS rbT
  rw [hk, Int.toNat_natCast]
  rfl
 have hd : rDec m (nb m) 4 (rC m (bitAt xs)) (bat m (bitAt xs) (nb m)) (rO m (bitAt xs)) = some ((List.range m).map (bitAt xs)) := rDec_built m (bitAt xs) hm
 have e1 : rwN (some ((List.range m).map (bitAt xs))) = m := by simp [rwN]
 have e2 : rwX (some ((List.range m).map (bitAt xs))) = xs := by
  show frL _ = xs
  rw [fr_row, row_back m xs hf hk]
 have hn := nb_le m hm
 have hb := bat_le m (bitAt xs) (nb m)
 have i1 : ichk (nb m : Int) 4 ((nb m : Int) * 4) (rC m (bitAt xs)) = true := by
  have := ichk_mk (bclP m (bitAt xs) (nb m)) 4 (by decide) (by decide) (by rw [length_bclP]; omega)
  rw [length_bclP] at this
  unfold rC
  rw [show ((nb m : Int) * 4) = ((nb m * 4 : Nat) : Int) by omega]
  exact this
 have i2 : chk (bat m (bitAt xs) (nb m) : Int) (rO m (bitAt xs)) = true := by
  unfold rO
  rw [fr_off]
  exact chk_rowOf _ _ (by omega)
 have ok : rOk m (nb m) 4 ((nb m : Int) * 4) (rC m (bitAt xs)) (bat m (bitAt xs) (nb m)) (rO m (bitAt xs)) (rS m (bitAt xs)) (rT m (bitAt xs)) = true := by
  unfold rOk
  rw [hd, e1, e2, i1, i2, decide_eq_true (show (0 : Int) ≤ m ∧ (m : Int) ≤ 1048576 by omega), rEq_self]
  rfl
 rw [e]
 refine ⟨ok, ?_, ?_⟩
 ·unfold kBN8 rBN
  rw [if_pos ok, hd, e1]
 ·unfold kBX8 rBX
  rw [if_pos ok, hd, e2]
theorem kZ_val8 (m : Nat) (xs : List Nat) (hf : Fit xs) (hk : chk (m : Int) xs = true) : kZ8 (kB8 m xs) = (nb m : Int) * 4 + bat m (bitAt xs) (nb m) + 64 * (gN m : Int) := by
 have ok := (kB_ok8 m xs hf hk).1
 unfold kZ8 rzN
 rw [show rOk (kB8 m xs).N (kB8 m xs).k (kB8 m xs).V (kB8 m xs).M (kB8 m xs).xs (kB8 m xs).L (kB8 m xs).ys (kB8 m xs).S (kB8 m xs).T = true from ok, if_pos rfl]
 have e1 : (kB8 m xs).M = (nb m : Int) * 4 := by unfold kB8 rbM; rw [hk, Int.toNat_natCast]; rfl
 have e2 : (kB8 m xs).L = (bat m (bitAt xs) (nb m) : Int) := by unfold kB8 rbL; rw [hk, Int.toNat_natCast]; rfl
 have e3 : (kB8 m xs).S.length = gN m := by
  have : (kB8 m xs).S = rS m (bitAt xs) := by unfold kB8 rbS; rw [hk, Int.toNat_natCast]; rfl
  rw [this]
  unfold rS
  rw [length_onL]
 rw [e1, e2, e3]
end Go.Proofs.YtcaalcjcpddhaaaGreat
namespace Go.Proofs.YtcaalcjcpddhaaaGreat
open Go.RowKit Go.Shelf Num Bit
attribute [local go_sem] Oper.semAt_some
end Go.Proofs.YtcaalcjcpddhaaaGreat
