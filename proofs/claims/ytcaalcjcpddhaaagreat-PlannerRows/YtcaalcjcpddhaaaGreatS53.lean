/-
  Plain: what is built of a row needs no more than layer 21 tells.
-/
import Derived.Test.YtcaalcjcpddhaaaGreatS46
import Derived.Test.YtcaalcjcpddhaaaGreatS01
set_option linter.unusedVariables false
set_option linter.unusedSimpArgs false
set_option maxRecDepth 100000
namespace Go.Proofs.YtcaalcjcpddhaaaGreat
open Go.RowKit Num Bit Bn
theorem kE_in {k N : Int} {xs : List Nat} (h : kE k N xs = 0) : (k = 1 ∨ k = 2 ∨ k = 3) ∧ chk N xs = true := by
 unfold kE at h
 split at h
 ·rename_i e
  refine ⟨.inl e, ?_⟩
  unfold kE7 pbE at h
  by_cases c : chk N xs = true
  ·exact c
  ·rw [if_neg c] at h; omega
 split at h
 ·rename_i e
  refine ⟨.inr (.inl e), ?_⟩
  unfold kE8 rbE at h
  by_cases c : chk N xs = true
  ·exact c
  ·rw [if_neg c] at h; omega
 split at h
 ·rename_i e
  refine ⟨.inr (.inr e), ?_⟩
  unfold kE9 at h
  by_cases c : chk N xs = true
  ·exact c
  ·rw [if_neg c] at h; omega
 ·omega
theorem kZ_row1 (n : Nat) (xs : List Nat) (hk : chk (n : Int) xs = true) : kZ7 (kB7 n xs) = (Zz.Pn.row 1 n (cntB xs n) : Int) := by
 obtain ⟨_, _, hl, _⟩ := chk_out _ xs hk
 have ok := (kB_ok7 n xs hk).1
 unfold kOk7 at ok
 unfold kZ7 pzN
 rw [if_pos ok]
 unfold kB7 pbN pbS pbT
 simp only [if_pos hk]
 rw [length_supL, length_subL, Int.toNat_natCast]
 unfold Zz.Pn.row Zz.Pn.up
 rw [if_pos rfl]
 omega
theorem kZ_row2 (n : Nat) (xs : List Nat) (hf : Fit xs) (hk : chk (n : Int) xs = true) : kZ8 (kB8 n xs) ≤ (Zz.Pn.row 2 n (cntB xs n) : Int) := by
 have h := kZ_val8 n xs hf hk
 have b := bat_le n (bitAt xs) (nb n)
 rw [h]
 have e : Zz.Pn.row 2 n (cntB xs n) = 17 * nb n + 64 * gN n := by
  unfold Zz.Pn.row
  rw [if_neg (by decide), if_pos rfl]
  unfold Zz.Pn.up gN nb
  omega
 rw [e]
 omega
theorem kZ_row3 (n : Nat) (xs : List Nat) (hf : Fit xs) (hk : chk (n : Int) xs = true) (hn : n ≤ 3000) : kZ9 (kB9 n xs) = (Zz.Pn.row 3 n (cntB xs n) : Int) := by
 have ok := (kB_ok9 n xs hf hk (by omega)).1
 have hc := plc_cnt xs n
 obtain ⟨L, hL⟩ : ∃ L, L = plc (bitAt xs) n := ⟨_, rfl⟩
 rw [← hL] at hc
 have e : kB9 (n : Int) xs = fOf n L := by
  unfold kB9
  rw [if_pos hk, Int.toNat_natCast, ← hL]
 rw [e] at ok ⊢
 unfold kZ9
 rw [if_pos ok]
 show ((loP L (wdF n L.length)).length : Int) * (max (wdF n L.length) 1 : Nat) + (hiN L n (wdF n L.length) : Int) + 64 = _
 rw [← Int.natCast_mul]
 have ew : Zz.Pn.fw n L.length = wdF n L.length := by
  unfold Zz.Pn.fw wdF
  by_cases z : L.length = 0
  ·rw [if_pos z, if_neg (by omega)]
  ·rw [if_neg z, if_pos (by omega)]
 have ef : Zz.Pn.row 3 n (cntB xs n) = L.length * wdF n L.length + L.length + n / 2 ^ wdF n L.length + 1 + 64 := by
  unfold Zz.Pn.row
  rw [if_neg (by decide), if_neg (by decide), if_pos rfl, ← hc]
  unfold Zz.Pn.fano
  rw [ew]
 have key : (loP L (wdF n L.length)).length * max (wdF n L.length) 1 = L.length * wdF n L.length := by
  by_cases c : wdF n L.length = 0
  ·rw [c, show loP L 0 = [] from rfl]
   simp
  ·rw [length_loP L _ (by omega), show max (wdF n L.length) 1 = wdF n L.length by omega]
 rw [ef, key]
 unfold hiN
 omega
theorem kZ_row (k N : Int) (xs : List Nat) (hf : Fit xs) (h : kE k N xs = 0) (hN : N ≤ 3000) : kZ (kB k N xs) ≤ (Zz.Pn.rowI k N (onesI N xs N) : Int) := by
 obtain ⟨h1, hk⟩ := kE_in h
 obtain ⟨h0, h2, _, _⟩ := chk_out N xs hk
 obtain ⟨n, rfl⟩ := Int.eq_ofNat_of_zero_le h0
 have eo : onesI (n : Int) xs (n : Int) = (cntB xs n : Int) := by
  unfold onesI
  rw [if_pos hk, show (min (n : Int) (n : Int)).toNat = n by omega]
 have cl : cntB xs n ≤ n := by
  have := plc_cnt xs n
  have := plc_le (bitAt xs) n
  omega
 rw [eo]
 have er : Zz.Pn.rowI k (n : Int) (cntB xs n : Int) = Zz.Pn.row k n (cntB xs n) := by
  unfold Zz.Pn.rowI
  rw [if_pos (by omega), Int.toNat_natCast, Int.toNat_natCast]
 rw [er]
 rcases h1 with rfl | rfl | rfl
 ·rw [kB_p _ _ h, (on_p (on_mp (kB7 n xs))).2.2.2, kZ_row1 n xs hk]
  exact Int.le_refl _
 ·rw [kB_r _ _ h, (on_r (on_mr (kB8 n xs))).2.2.2]
  exact kZ_row2 n xs hf hk
 ·rw [kB_f _ _ h, (on_f (on_mf (kB9 n xs))).2.2.2, kZ_row3 n xs hf hk (by omega)]
  exact Int.le_refl _
end Go.Proofs.YtcaalcjcpddhaaaGreat
