/-
  Plain arithmetic of the landed package plain: groups of eight words, their counts, the word that is sought.
-/
import Derived.Test.YtcgnphffjfffgaaPl
namespace Go.Proofs.Ytcgnphffjfffgaa
open Num
namespace Bit
set_option linter.unusedVariables false

/-- The words of group g. -/
def grp (xs : List Nat) (g : Nat) : List Nat := (xs.drop (8 * g)).take 8
theorem length_grp (xs : List Nat) (g : Nat) : (grp xs g).length = min 8 (xs.length - 8 * g) := by simp [grp]
theorem gt_grp (xs : List Nat) (g k : Nat) (h : k < 8) : gt (grp xs g) k = gt xs (8 * g + k) := by
  unfold gt grp
  rw [List.getD_eq_getElem?_getD, List.getD_eq_getElem?_getD, List.getElem?_take_of_lt h, List.getElem?_drop]
theorem fit_grp (xs : List Nat) (hf : Fit xs) (g : Nat) : Fit (grp xs g) := by
  intro i
  by_cases h : i < 8
  · rw [gt_grp xs g i h]; exact hf _
  · rw [gt_out _ _ (by rw [length_grp]; omega)]; decide
theorem bitAt_grp (xs : List Nat) (g i : Nat) (h : i < 512) : bitAt (grp xs g) i = bitAt xs (512 * g + i) := by
  unfold bitAt
  rw [gt_grp xs g (i / 64) (by omega), show (512 * g + i) / 64 = 8 * g + i / 64 by omega, show (512 * g + i) % 64 = i % 64 by omega]
theorem cntB_grp (xs : List Nat) (g : Nat) : ∀ i, i ≤ 512 → cntB xs (512 * g + i) = cntB xs (512 * g) + cntB (grp xs g) i
  | 0, _ => by simp [cntB]
  | i + 1, h => by
    have ih := cntB_grp xs g i (by omega)
    rw [show 512 * g + (i + 1) = 512 * g + i + 1 by omega]
    simp only [cntB]
    rw [ih, bitAt_grp xs g i (by omega)]
    omega
theorem bitAt_out (xs : List Nat) (i : Nat) (h : 64 * xs.length ≤ i) : bitAt xs i = false := by
  unfold bitAt
  rw [gt_out xs _ (by omega)]
  simp
theorem cntB_out (xs : List Nat) (d : Nat) : cntB xs (64 * xs.length + d) = cntB xs (64 * xs.length) := by
  induction d with
  | zero => rfl
  | succ d ih =>
    rw [show 64 * xs.length + (d + 1) = 64 * xs.length + d + 1 by omega]
    simp only [cntB]
    rw [ih, bitAt_out xs _ (by omega)]
    simp
theorem cntB_all (xs : List Nat) (g : Nat) : cntB xs (512 * (g + 1)) = cntB xs (512 * g) + cntB (grp xs g) (64 * (grp xs g).length) := by
  have a := cntB_grp xs g 512 (by omega)
  have hl : (grp xs g).length ≤ 8 := by rw [length_grp]; omega
  have b := cntB_out (grp xs g) (512 - 64 * (grp xs g).length)
  rw [show 64 * (grp xs g).length + (512 - 64 * (grp xs g).length) = 512 by omega] at b
  rw [show 512 * (g + 1) = 512 * g + 512 by omega, a, b]

/-- The counts ahead of each word of a group, in eight places. -/
def ahP (ws : List Nat) (q : Nat) : List Int := (List.range 8).map fun j => if j < q then (cntB ws (64 * j) : Int) else 0
def ahd (ws : List Nat) : List Int := ahP ws ws.length
theorem length_ahP (ws : List Nat) (q : Nat) : (ahP ws q).length = 8 := by simp [ahP]
theorem length_ahd (ws : List Nat) : (ahd ws).length = 8 := length_ahP _ _
theorem gi_ahP (ws : List Nat) (q i : Nat) (h : i < 8) : gi (ahP ws q) i = if i < q then (cntB ws (64 * i) : Int) else 0 := gi_map _ _ _ h
theorem ahP_zero (ws : List Nat) : ahP ws 0 = List.replicate 8 0 := by
  unfold ahP
  simp
  rfl
theorem gi_set (l : List Int) (i j : Nat) (v : Int) (h : i < l.length) : gi (l.set i v) j = if i = j then v else gi l j := by
  unfold gi
  rw [List.getD_eq_getElem?_getD, List.getD_eq_getElem?_getD, List.getElem?_set]
  by_cases c : i = j
  · subst c; simp [h]
  · simp [c]
theorem ahP_step (ws : List Nat) (q : Nat) (h : q < 8) : (ahP ws q).set q (cntB ws (64 * q) : Int) = ahP ws (q + 1) := by
  refine gi_ext (by simp [length_ahP]) fun i hi => ?_
  rw [List.length_set, length_ahP] at hi
  rw [gi_set _ _ _ _ (by rw [length_ahP]; exact h), gi_ahP _ _ _ hi, gi_ahP _ _ _ hi]
  by_cases c : q = i
  · subst c; rw [if_pos rfl, if_pos (by omega)]
  · rw [if_neg c]
    by_cases d : i < q
    · rw [if_pos d, if_pos (by omega)]
    · rw [if_neg d, if_neg (by omega)]
theorem cntB_step (ws : List Nat) (q : Nat) : cntB ws (64 * (q + 1)) = cntB ws (64 * q) + cnt (gt ws q) 64 := by
  have := cntB_word ws q 64 (Nat.le_refl _)
  rw [show 64 * (q + 1) = 64 * q + 64 by omega]
  exact this
/-- The counts of group g, as many as it has words. -/
def ahT (xs : List Nat) (g : Nat) : List Int := (ahd (grp xs g)).take (grp xs g).length
theorem length_ahT (xs : List Nat) (g : Nat) : (ahT xs g).length = (grp xs g).length := by
  unfold ahT
  rw [List.length_take, length_ahd, length_grp]
  omega
theorem gi_take (l : List Int) (n i : Nat) (h : i < n) : gi (l.take n) i = gi l i := by
  unfold gi
  rw [List.getD_eq_getElem?_getD, List.getD_eq_getElem?_getD, List.getElem?_take_of_lt h]
theorem gi_drop (l : List Int) (n i : Nat) : gi (l.drop n) i = gi l (n + i) := by
  unfold gi
  rw [List.getD_eq_getElem?_getD, List.getD_eq_getElem?_getD, List.getElem?_drop]
theorem gi_ahT (xs : List Nat) (g i : Nat) (h : i < (grp xs g).length) : gi (ahT xs g) i = (cntB (grp xs g) (64 * i) : Int) := by
  have := length_grp xs g
  unfold ahT
  rw [gi_take _ _ _ h]
  unfold ahd
  rw [gi_ahP _ _ _ (by omega), if_pos h]

theorem chk_len (N : Int) (xs : List Nat) (h : chk N xs = true) : ∃ m : Nat, N = (m : Int) ∧ m ≤ 1048576 ∧ xs.length = (m + 63) / 64 := by
  obtain ⟨h0, h1, h2, _⟩ := chk_out N xs h
  exact ⟨N.toNat, by omega, by omega, by omega⟩
theorem onesI_ok (m : Nat) (xs : List Nat) (hk : chk (m : Int) xs = true) (i : Nat) (hi : i ≤ m) : onesI (m : Int) xs (i : Int) = (cntB xs i : Int) := by
  unfold onesI
  rw [if_pos hk, show (min (i : Int) (m : Int)).toNat = i by omega]
theorem supI_ok (m : Nat) (xs : List Nat) (hk : chk (m : Int) xs = true) (g : Nat) (hg : g ≤ m / 512) : supI (m : Int) xs g = (cntB xs (512 * g) : Int) := by
  unfold supI
  have := onesI_ok m xs hk (512 * g) (by omega)
  rw [← this]
  congr 1
theorem subI_ok (m : Nat) (xs : List Nat) (hk : chk (m : Int) xs = true) (hl : xs.length = (m + 63) / 64) (g i : Nat) (hi : i < (grp xs g).length) : subI (m : Int) xs (8 * g + i) = (cntB (grp xs g) (64 * i) : Int) := by
  rw [length_grp] at hi
  unfold subI
  have a := onesI_ok m xs hk (64 * (8 * g + i)) (by omega)
  have b := supI_ok m xs hk g (by omega)
  have c := cntB_grp xs g (64 * i) (by omega)
  rw [show 512 * g + 64 * i = 64 * (8 * g + i) by omega] at c
  rw [show (64 * ((8 * g + i : Nat) : Int)) = ((64 * (8 * g + i) : Nat) : Int) by omega, a, show (8 * g + i) / 8 = g by omega, b, c]
  omega
theorem subP_grp (m : Nat) (xs : List Nat) (hk : chk (m : Int) xs = true) (hl : xs.length = (m + 63) / 64) (g : Nat) (hg : 8 * g ≤ xs.length) : subP (m : Int) xs (8 * g) ++ ahT xs g = subP (m : Int) xs (8 * g + (grp xs g).length) := by
  refine gi_ext (by rw [List.length_append, length_subP, length_subP, length_ahT]) fun i hi => ?_
  rw [List.length_append, length_subP, length_ahT] at hi
  rw [gi_subP _ _ _ _ hi]
  by_cases c : i < 8 * g
  · have : gi (subP (m : Int) xs (8 * g) ++ ahT xs g) i = gi (subP (m : Int) xs (8 * g)) i := by
      unfold gi
      rw [List.getD_eq_getElem?_getD, List.getD_eq_getElem?_getD, List.getElem?_append_left (by rw [length_subP]; exact c)]
    rw [this, gi_subP _ _ _ _ c]
  · have : gi (subP (m : Int) xs (8 * g) ++ ahT xs g) i = gi (ahT xs g) (i - 8 * g) := by
      unfold gi
      rw [List.getD_eq_getElem?_getD, List.getD_eq_getElem?_getD, List.getElem?_append_right (by rw [length_subP]; omega), length_subP]
    rw [this, gi_ahT xs g _ (by omega), ← subI_ok m xs hk hl g (i - 8 * g) (by omega), show 8 * g + (i - 8 * g) = i by omega]
theorem grp_end (m : Nat) (xs : List Nat) (hl : xs.length = (m + 63) / 64) (g : Nat) (hg : g < m / 512) : 8 * g + (grp xs g).length = 8 * (g + 1) := by
  rw [length_grp]; omega
theorem grp_last (m : Nat) (xs : List Nat) (hl : xs.length = (m + 63) / 64) : 8 * (m / 512) + (grp xs (m / 512)).length = xs.length := by
  rw [length_grp]; omega

/-- The word of bits that are like bit. -/
def wb (xs : List Nat) (bit : Bool) (j : Nat) : Nat := if bit then gt xs j else 18446744073709551615 - gt xs j
theorem wb_lt (xs : List Nat) (hf : Fit xs) (bit : Bool) (j : Nat) : wb xs bit j < 18446744073709551616 := by
  have := hf j
  unfold wb
  split <;> omega
theorem cB_word (xs : List Nat) (hf : Fit xs) (bit : Bool) (j r : Nat) (hr : r ≤ 64) : cB xs bit (64 * j + r) = cB xs bit (64 * j) + cnt (wb xs bit j) r := by
  have a := cntB_word xs j r hr
  have l := cntB_le xs (64 * j)
  have l2 := cnt_le (gt xs j) r
  unfold cB wb
  cases bit with
  | true => simp only [if_true]; exact a
  | false =>
    have f := cnt_flip (gt xs j) r 64 (by have := hf j; omega) hr
    rw [show (2 ^ 64 - 1 - gt xs j) = 18446744073709551615 - gt xs j by omega] at f
    simp only [Bool.false_eq_true, if_false]
    rw [a, f]
    omega
theorem wb_bit (xs : List Nat) (hf : Fit xs) (bit : Bool) (j r : Nat) (hr : r < 64) (h : bitAt xs (64 * j + r) = bit) : wb xs bit j / 2 ^ r % 2 = 1 := by
  have a := cB_word xs hf bit j r (by omega)
  have b := cB_word xs hf bit j (r + 1) (by omega)
  have c := cB_succ xs bit (64 * j + r)
  rw [if_pos h] at c
  rw [show 64 * j + (r + 1) = 64 * j + r + 1 by omega] at b
  simp only [cnt] at b
  have : (wb xs bit j / 2 ^ r % 2) < 2 := Nat.mod_lt _ (by decide)
  revert b
  generalize wb xs bit j / 2 ^ r % 2 = z at *
  intro b
  omega
/-- The place is in the word that is sought. -/
theorem sought_end (m : Nat) (xs : List Nat) (hf : Fit xs) (hl : xs.length = (m + 63) / 64) (bit : Bool) (k j : Nat) (hk : k < cB xs bit m) (hj : j ≤ xs.length - 1)
    (h1 : ∀ i, i < j → cB xs bit (64 * (i + 1)) ≤ k) (h2 : ∀ i, j ≤ i → i < xs.length - 1 → k < cB xs bit (64 * (i + 1))) :
    cB xs bit (64 * j) ≤ k ∧ ∃ r : Nat, r < 64 ∧ selI (wb xs bit j : Int) ((k : Int) - (cB xs bit (64 * j) : Int)) = (r : Int) ∧ pselO (m : Int) xs bit (k : Int) = some (64 * j + r) := by
  have hle : cB xs bit (64 * j) ≤ k := by
    by_cases c : j = 0
    · subst c; have := cB_le xs bit (64 * 0); omega
    · have := h1 (j - 1) (by omega)
      rw [show j - 1 + 1 = j by omega] at this
      exact this
  refine ⟨hle, ?_⟩
  have hs : (pselO (m : Int) xs bit (k : Int)).isSome = true := (psel_iff _ _ _ _).2 ⟨by omega, by rw [Int.toNat_natCast]; omega⟩
  obtain ⟨i, hi⟩ := Option.isSome_iff_exists.1 hs
  obtain ⟨g1, g2, g3⟩ := psel_spec _ _ _ _ _ hi
  rw [Int.toNat_natCast] at g1
  have e1 : 64 * j ≤ i := by
    apply Nat.le_of_not_lt
    intro c
    have a := cB_succ xs bit i
    rw [if_pos g2] at a
    have b := cB_mono xs bit (i + 1) (64 * j - (i + 1))
    rw [show i + 1 + (64 * j - (i + 1)) = 64 * j by omega] at b
    omega
  have e2 : i < 64 * (j + 1) := by
    apply Nat.lt_of_not_le
    intro c
    have a := h2 j (Nat.le_refl _) (by omega)
    have b := cB_mono xs bit (64 * (j + 1)) (i - 64 * (j + 1))
    rw [show 64 * (j + 1) + (i - 64 * (j + 1)) = i by omega] at b
    omega
  have ei : i = 64 * j + (i - 64 * j) := by omega
  refine ⟨i - 64 * j, by omega, ?_, by rw [← ei]; exact hi⟩
  have w1 := wb_bit xs hf bit j (i - 64 * j) (by omega) (by rw [← ei]; exact g2)
  have w2 := cB_word xs hf bit j (i - 64 * j) (by omega)
  rw [← ei] at w2
  unfold selI
  rw [Int.toNat_natCast]
  have := selGo_find (wb xs bit j) ((k : Int) - (cB xs bit (64 * j) : Int)) (i - 64 * j) w1 (by omega) (i - 64 * j) 0 (by omega) (by omega)
  rw [show 64 - 0 = 64 from rfl] at this
  rw [this]
theorem flip_wb (xs : List Nat) (hf : Fit xs) (j : Nat) : Go.bits .xor .u64 18446744073709551615 (gt xs j : Int) = (wb xs false j : Int) := by
  have h := hf j
  rw [flip_nat _ (by omega) (by omega), Int.toNat_natCast]
  unfold wb
  simp
theorem count_ok (m : Nat) (xs : List Nat) (hf : Fit xs) (hk : chk (m : Int) xs = true) (hl : xs.length = (m + 63) / 64) (j r : Nat) (h0 : 0 < r) (h1 : r ≤ 64) (h2 : 64 * j + r ≤ m) :
    supI (m : Int) xs (j / 8) + subI (m : Int) xs j + rankI (gt xs j : Int) (r : Int) = (cntB xs (64 * j + r) : Int) := by
  have a := onesI_ok m xs hk (64 * j) (by omega)
  have b := cntB_word xs j r h1
  unfold subI rankI
  rw [show (64 * (j : Int)) = ((64 * j : Nat) : Int) by omega, a, b, Int.toNat_natCast, Int.toNat_natCast, show min r 64 = r by omega]
  omega
theorem pchk_nat (N : Int) (xs : List Nat) (su sb : List Int) (h : pchk N xs su sb = true) : ∃ m : Nat, N = (m : Int) ∧ m ≤ 1048576 ∧ xs.length = (m + 63) / 64 ∧ chk (m : Int) xs = true ∧ su = supL (m : Int) xs ∧ sb = subL (m : Int) xs := by
  obtain ⟨a, b, c⟩ := pchk_out N xs su sb h
  obtain ⟨m, rfl, h1, h2⟩ := chk_len N xs a
  exact ⟨m, rfl, h1, h2, a, b, c⟩
end Bit
end Go.Proofs.Ytcgnphffjfffgaa
