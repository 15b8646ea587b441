/-
  The contracts of Get and Slice. The contracts of the document's answers that only read: Words, Check, At, Get. The contracts of the document's Slice and Ones. Blocks of cells that may be written, whole: what they hold, what a store makes of them, what stays; numbers in memory. The contracts of the document's Numbers and Same. The contract of the program's ofOnes: what it makes tells the places of the bits that are 1. errors.As at the target of package ints (a struct of a number and a text): an error of that very type is found, and the target holds it; numberOf answers its number. The contracts of package ints that tell why something may not be, and of what only reads: wide, narrow, mayBe, place, puttable, numberOf, Check, Get.
-/
import Derived.Test.YtjkihmjbhiiknaaDoorM02
import Derived.Test.YtjkihmjbhiiknaaDoorM00
import Derived.Deep.RegionHeld3
import Derived.Test.YtjkihmjbhiiknaaDoorRows
import Derived.WalkKit
import Derived.WalkSmall
import Derived.OwnWalk
import Derived.Test.YtjkihmjbhiiknaaDoorM01
import Derived.Shelf.Abstract
import Derived.OwnWalkIn
import Derived.TacticsInMore
import Derived.LoopNIn
import Derived.LoopIn
import Derived.LaidEql
import Derived.Stop.Asserts
import Derived.RowKitTokens
namespace Go.Proofs.YtjkihmjbhiiknaaDoor
open Go.RowKit Num Bit
set_option maxRecDepth 100000

theorem get_end (xs : List Nat) (hg : Fit xs) (i : Nat) (j k : Nat) (hj : j = i / 64) (hk : k = i % 64) : (bits BinOp.and IntKind.u64 ((gt xs j : Int) / 2 ^ k) 1 == 1) = bitAt xs i := by
  subst hj hk
  have h := hg (i / 64)
  rw [bit_and _ _ (by omega) (by omega)]
  unfold bitAt
  rw [bit_test, Int.toNat_natCast, Bool.eq_iff_iff, beq_iff_eq, decide_eq_true_eq]
  omega

theorem slice_c (N : Int) (ao : Option Addr) (xs : List Nat) (cap : Nat) (i n : Int) (w : World) (hx : Wd w ao xs) (hg : Fit xs) (_hi : -9223372036854775808 ≤ i) (_hi2 : i ≤ 9223372036854775807) (_hn : -9223372036854775808 ≤ n) (_hn2 : n ≤ 9223372036854775807) :
    Calls Tryd.prog 63 #[.agg #[.int .i64 N, .slice ao xs.length cap], .int .i64 i, .int .i64 n] w fun e w' => e = .returned (.tuple #[.int .u64 (slcX N xs i n), .int .i64 (slcE N xs i n)]) ∧ Below w.heap.size w w' := by
  have K : ∀ o, Wd (w.alloc o) ao xs := fun o => hx.keep (below_alloc w o)
  by_cases hE : slcE N xs i n = 0
  · have hk : chk N xs = true := by unfold slcE at hE; cases h : chk N xs with | true => rfl | false => simp [h] at hE
    have hi : 0 ≤ n ∧ n ≤ 64 ∧ 0 ≤ i ∧ i ≤ N - n := by
      unfold slcE at hE
      by_cases h : chk N xs = false ∨ n < 0 ∨ 64 < n
      · rw [if_pos h] at hE; omega
      · rw [if_neg h] at hE
        by_cases h2 : i < 0 ∨ N - n < i
        · rw [if_pos h2] at hE; omega
        · simp [hk] at h; omega
    obtain ⟨hc0, hc1, hc2, _⟩ := chk_out N xs hk
    obtain ⟨hn0, hn1, hi0, hi1⟩ := hi
    by_cases hz : n = 0
    · subst hz
      have R : Hid (0 = ((slcX N xs i 0 : Nat) : Int)) := by unfold slcX Hid; rw [if_pos hE]; rfl
      have RE : Hid (0 = slcE N xs i 0) := hE.symm
      clear hE hx hc2
      go_enter Tryd.func63, Tryd.ntmps63
      go_wp2_with (go_at_call 30; refine (check_c _ _ _ _ _ (K _)).mono ?_; rintro e w' ⟨rfl, hb⟩; obtain ⟨c0, c1, hz, hw⟩ := box_cells hb; clear hb)
      go_ret2
      exact ⟨ret_pair (congrArg (Value.int IntKind.u64) R.out) (congrArg (Value.int IntKind.i64) RE.out), by assumption⟩
    · obtain ⟨m, rfl⟩ := Int.eq_ofNat_of_zero_le hi0
      obtain ⟨b, off, rfl, hb, hc⟩ := hx (by omega)
      have hz' : (n == 0) = false := by simpa using hz
      have hcj := hc (m / 64) (by omega)
      have RE : Hid (0 = slcE N xs m n) := hE.symm
      by_cases hl : m / 64 + 1 < xs.length
      · have hcj2 := hc (m / 64 + 1) hl
        have hl1 : (m : Int) / 64 < (xs.length : Int) := by omega
        have hl2 : (m : Int) / 64 + 1 < (xs.length : Int) := by omega
        have hl3 : xs.length ≤ 16384 := by omega
        clear hE hx hc2 hc hz
        go_enter Tryd.func63, Tryd.ntmps63
        go_wp2_with (first | (go_at_call 30; refine (check_c _ _ _ _ _ (K _)).mono ?_; rintro e w' ⟨rfl, hb⟩; obtain ⟨c0, c1, hz, hw⟩ := box_cells hb; have hcw := (hw.cell (p := ⟨_, off + m / 64, none⟩) (by assumption)).trans hcj; have hcw2 := (hw.cell (p := ⟨_, off + (m / 64 + 1), none⟩) (by assumption)).trans hcj2; clear hb) | (go_at_call 53; refine (mask_c _ _).mono ?_; rintro e w' ⟨rfl, rfl⟩))
        go_ret2
        refine ⟨ret_pair (congrArg (Value.int IntKind.u64) ?_) (congrArg (Value.int IntKind.i64) RE.out), by assumption⟩
        rw [slice_two xs hg m n hn1, slcX, if_pos RE.out.symm, Int.toNat_natCast]
      · have hl2 : ¬ (m : Int) / 64 + 1 < (xs.length : Int) := by omega
        have hl1 : (m : Int) / 64 < (xs.length : Int) := by omega
        have hl3 : xs.length ≤ 16384 := by omega
        clear hE hx hc2 hc hz
        go_enter Tryd.func63, Tryd.ntmps63
        go_wp2_with (first | (go_at_call 30; refine (check_c _ _ _ _ _ (K _)).mono ?_; rintro e w' ⟨rfl, hb⟩; obtain ⟨c0, c1, hz, hw⟩ := box_cells hb; have hcw := (hw.cell (p := ⟨_, off + m / 64, none⟩) (by assumption)).trans hcj; clear hb) | (go_at_call 53; refine (mask_c _ _).mono ?_; rintro e w' ⟨rfl, rfl⟩))
        go_ret2
        refine ⟨ret_pair (congrArg (Value.int IntKind.u64) ?_) (congrArg (Value.int IntKind.i64) RE.out), by assumption⟩
        rw [slice_one xs hg m n hn1 (by omega), slcX, if_pos RE.out.symm, Int.toNat_natCast]
  · have R : Hid (0 = ((slcX N xs i n : Nat) : Int)) := by unfold slcX Hid; rw [if_neg hE]; rfl
    cases hk : chk N xs with
    | false =>
      have RE : Hid (2 = slcE N xs i n) := by unfold slcE Hid; rw [if_pos (.inl hk)]
      clear hE
      go_enter Tryd.func63, Tryd.ntmps63
      go_wp2_with (go_at_call 30; refine (check_c _ _ _ _ _ (K _)).mono ?_; rintro e w' ⟨rfl, hb⟩; obtain ⟨c0, c1, hz, hw⟩ := box_cells hb; clear hb)
      go_ret2
      exact ⟨ret_pair (congrArg (Value.int IntKind.u64) R.out) (congrArg (Value.int IntKind.i64) RE.out), by assumption⟩
    | true =>
      obtain ⟨hc0, hc1, _, _⟩ := chk_out N xs hk
      by_cases hn : n < 0
      · have RE : Hid (2 = slcE N xs i n) := by unfold slcE Hid; rw [if_pos (.inr (.inl hn))]
        clear hE
        go_enter Tryd.func63, Tryd.ntmps63
        go_wp2_with (go_at_call 30; refine (check_c _ _ _ _ _ (K _)).mono ?_; rintro e w' ⟨rfl, hb⟩; obtain ⟨c0, c1, hz, hw⟩ := box_cells hb; clear hb)
        go_ret2
        exact ⟨ret_pair (congrArg (Value.int IntKind.u64) R.out) (congrArg (Value.int IntKind.i64) RE.out), by assumption⟩
      · by_cases hn2 : 64 < n
        · have RE : Hid (2 = slcE N xs i n) := by unfold slcE Hid; rw [if_pos (.inr (.inr hn2))]
          clear hE
          go_enter Tryd.func63, Tryd.ntmps63
          go_wp2_with (go_at_call 30; refine (check_c _ _ _ _ _ (K _)).mono ?_; rintro e w' ⟨rfl, hb⟩; obtain ⟨c0, c1, hz, hw⟩ := box_cells hb; clear hb)
          go_ret2
          exact ⟨ret_pair (congrArg (Value.int IntKind.u64) R.out) (congrArg (Value.int IntKind.i64) RE.out), by assumption⟩
        · have hcond : i < 0 ∨ N - n < i := by
            unfold slcE at hE
            rw [if_neg (by simp [hk]; omega)] at hE
            by_cases h2 : i < 0 ∨ N - n < i
            · exact h2
            · rw [if_neg h2] at hE; exact absurd rfl hE
          have RE : Hid (3 = slcE N xs i n) := by unfold slcE Hid; rw [if_neg (by simp [hk]; omega), if_pos hcond]
          clear hE
          by_cases h3 : i < 0
          · go_enter Tryd.func63, Tryd.ntmps63
            go_wp2_with (go_at_call 30; refine (check_c _ _ _ _ _ (K _)).mono ?_; rintro e w' ⟨rfl, hb⟩; obtain ⟨c0, c1, hz, hw⟩ := box_cells hb; clear hb)
            go_ret2
            exact ⟨ret_pair (congrArg (Value.int IntKind.u64) R.out) (congrArg (Value.int IntKind.i64) RE.out), by assumption⟩
          · have h4 : N - n < i := by omega
            clear hcond
            go_enter Tryd.func63, Tryd.ntmps63
            go_wp2_with (go_at_call 30; refine (check_c _ _ _ _ _ (K _)).mono ?_; rintro e w' ⟨rfl, hb⟩; obtain ⟨c0, c1, hz, hw⟩ := box_cells hb; clear hb)
            go_ret2
            exact ⟨ret_pair (congrArg (Value.int IntKind.u64) R.out) (congrArg (Value.int IntKind.i64) RE.out), by assumption⟩

end Go.Proofs.YtjkihmjbhiiknaaDoor

namespace Go.Proofs.YtjkihmjbhiiknaaDoor
open Go.RowKit Num Bit

theorem refwords_c (n : Int) (h0 : 0 ≤ n) (h1 : n ≤ 2097152) (w : World) :
    Calls Tryd.prog 28 #[.int .i64 n] w fun e w' => e = .returned (.int .i64 ((n + 63) / 64)) ∧ w' = w := by
  go_enter Tryd.func28, Tryd.ntmps28
  go_wp2
  go_ret
  exact ⟨rfl, rfl⟩

theorem andnot_mask (x k : Nat) (hx : x < 18446744073709551616) (hk : k ≤ 64) : (bits .andNot .u64 (x : Int) (maskI k) == 0) = decide (x < 2 ^ k) := by
  unfold maskI
  rw [show min (k : Int).toNat 64 = k by omega]
  have hp := Nat.pow_le_pow_right (n := 2) (j := 64) (by decide) hk
  rw [show (2 : Nat) ^ 64 = 18446744073709551616 from rfl] at hp
  have hq := Nat.two_pow_pos k
  rw [u64_andNot_nat _ _ hx (by omega), Bool.eq_iff_iff, beq_iff_eq, decide_eq_true_eq]
  have e : 18446744073709551615 - (2 ^ k - 1) = 18446744073709551616 - 2 ^ k := by omega
  rw [e]
  have tb : ∀ i, (x &&& (18446744073709551616 - 2 ^ k)).testBit i = (x.testBit i && decide (k ≤ i)) := by
    intro i
    rw [Nat.testBit_and]
    by_cases hi : i < 64
    · congr 1
      have h := Nat.testBit_two_pow_sub_succ (n := 64) (x := 2 ^ k - 1) (by rw [show (2 : Nat) ^ 64 = 18446744073709551616 from rfl]; omega) i
      rw [show 2 ^ k - 1 + 1 = 2 ^ k by omega, show (2 : Nat) ^ 64 = 18446744073709551616 from rfl] at h
      rw [h, Nat.testBit_two_pow_sub_one]
      by_cases c : i < k
      · simp [c, show ¬ k ≤ i by omega]
      · simp [hi, c, show k ≤ i by omega]
    · rw [test_big x i hx (by omega)]; simp
  constructor
  · intro h
    have h0 : x &&& (18446744073709551616 - 2 ^ k) = 0 := by omega
    refine Nat.lt_pow_two_of_testBit _ fun i hi => ?_
    have h1 := tb i
    rw [h0, Nat.zero_testBit] at h1
    simpa [hi] using h1.symm
  · intro h
    have h0 : x &&& (18446744073709551616 - 2 ^ k) = 0 := by
      refine Nat.eq_of_testBit_eq fun i => ?_
      rw [tb i, Nat.zero_testBit]
      by_cases c : k ≤ i
      · rw [Nat.testBit_lt_two_pow (Nat.lt_of_lt_of_le h (Nat.pow_le_pow_right (by decide) c))]; rfl
      · simp [c]
    rw [h0]; rfl

theorem refchk_end (N : Int) (xs : List Nat) (hf : Fit xs) (h1 : 0 ≤ N) (h2 : N ≤ 1048576) (h3 : (xs.length : Int) = (N + 63) / 64) (h4 : ¬ N % 64 = 0) :
    (bits .andNot .u64 (gt xs (xs.length - 1) : Int) (maskI (N % 64)) == 0) = chk N xs := by
  have e : N % 64 = (((N % 64).toNat : Nat) : Int) := by omega
  rw [e, andnot_mask _ _ (hf _) (by omega)]
  unfold chk
  rw [decide_eq_decide]
  constructor
  · intro h; exact ⟨h1, h2, h3, .inr (by simpa using h)⟩
  · rintro ⟨_, _, _, h | h⟩
    · exact absurd h h4
    · simpa using h

theorem refcheck_c (N : Int) (ao : Option Addr) (xs : List Nat) (cap : Nat) (w : World) (hx : Wd w ao xs) (hf : Fit xs) :
    Calls Tryd.prog 8 #[.agg #[.int .i64 N, .slice ao xs.length cap]] w fun e w' => e = .returned (.bool (chk N xs)) ∧ Below w.heap.size w w' := by
  by_cases h1 : N < 0
  · have hd : decide (N < 0) = true := by simpa using h1
    have r : false = chk N xs := by unfold chk; rw [eq_comm, decide_eq_false_iff_not]; omega
    have R : Hid (false = chk N xs) := r
    clear r hx
    go_enter Tryd.func8, Tryd.ntmps8
    go_wp2
    go_quiet (fail)
    go_wp2
    go_ret
    exact ⟨ret_bool R.out, below_drewN ((Below.refl _ _).alloc (Nat.le_refl _) _) _⟩
  have hd : decide (N < 0) = false := by simpa using h1
  by_cases h2 : N > 1048576
  · have hd2 : decide (1048576 < N) = true := by simpa using h2
    have r : false = chk N xs := by unfold chk; rw [eq_comm, decide_eq_false_iff_not]; omega
    have R : Hid (false = chk N xs) := r
    clear r hx
    go_enter Tryd.func8, Tryd.ntmps8
    go_wp2
    go_quiet (fail)
    go_wp2
    go_ret
    exact ⟨ret_bool R.out, below_drewN ((Below.refl _ _).alloc (Nat.le_refl _) _) _⟩
  have hd2 : decide (1048576 < N) = false := by simpa using h2
  by_cases h3 : (xs.length : Int) = (N + 63) / 64
  · have h3' : ((xs.length : Int) != (N + 63) / 64) = false := by simpa using h3
    by_cases h4 : N % 64 = 0
    · have h4' : (N % 64 == 0) = true := by simpa using h4
      have h4'' : N.tmod 64 = 0 := by rw [Int.tmod_eq_emod_of_nonneg (by omega)]; exact h4
      have r : true = chk N xs := by unfold chk; rw [eq_comm, decide_eq_true_eq]; omega
      have R : Hid (true = chk N xs) := r
      clear r hx h3 h4
      go_enter Tryd.func8, Tryd.ntmps8
      go_wp2
      go_quiet ((go_at_call 28; exact Calls.quiet_of_same (refwords_c _ (by omega) (by omega) _)))
      go_wp2
      go_quiet (fail)
      go_wp2
      go_ret
      exact ⟨ret_bool R.out, below_drewN (below_drewN ((Below.refl _ _).alloc (Nat.le_refl _) _) _) _⟩
    · have h4' : (N % 64 == 0) = false := by simpa using h4
      have hl : 1 ≤ xs.length := by omega
      have hl2 : xs.length ≤ 16384 := by omega
      have hl3 : (1 : Int) ≤ (xs.length : Int) := by omega
      obtain ⟨b, off, rfl, hb, hc⟩ := hx hl
      have R : Hid ((bits .andNot .u64 (gt xs (xs.length - 1) : Int) (maskI (N % 64)) == 0) = chk N xs) := refchk_end N xs hf (by omega) (by omega) h3 h4
      have hc1 := hc (xs.length - 1) (by omega)
      have ht : N.tmod 64 = N % 64 := Int.tmod_eq_emod_of_nonneg (by omega)
      have hs : IntKind.i64.wrap ((xs.length : Int) - 1) = (xs.length : Int) - 1 := wraps_i64 _ (by omega) (by omega)
      have hn : ((xs.length : Int) - 1).toNat = xs.length - 1 := by omega
      have HM : Hid (∀ w0 : World, Calls Tryd.prog 29 #[.int .i64 (N % 64)] w0 fun e w' => e = .returned (.int .u64 (maskI (N % 64))) ∧ w' = w0) := fun w0 => refmask_c (N % 64) (by omega) (by omega) w0
      have hix : (xs.length : Int) - 1 < (xs.length : Int) := by omega
      have hix0 : (0 : Int) ≤ (xs.length : Int) - 1 := by omega
      clear hx h3 h4 hc
      go_enter Tryd.func8, Tryd.ntmps8
      go_wp2
      go_quiet ((go_at_call 28; exact Calls.quiet_of_same (refwords_c _ (by omega) (by omega) _)))
      go_wp2
      go_region_held3 (fun w' => w'.cell? ⟨w.heap.size, 0, none⟩ = some (.int .i64 N) ∧ w'.cell? ⟨w.heap.size, 1, none⟩ = some (.slice (some ⟨b, off, none⟩) xs.length cap) ∧ w'.cell? ⟨b, off + (xs.length - 1), none⟩ = some (.int .u64 (gt xs (xs.length - 1)))) (go_keep) (first | (go_at_call 29; refine (HM.out _).mono ?_; rintro e w2 ⟨rfl, rfl⟩))
      go_wp2
      go_ret
      exact ⟨ret_bool R.out, below_drewN ((Below.refl _ _).alloc (Nat.le_refl _) _) _⟩
  · have h3' : ((xs.length : Int) != (N + 63) / 64) = true := by simpa using h3
    have r : false = chk N xs := by unfold chk; rw [eq_comm, decide_eq_false_iff_not]; omega
    have R : Hid (false = chk N xs) := r
    clear r hx
    go_enter Tryd.func8, Tryd.ntmps8
    go_wp2
    go_quiet ((go_at_call 28; exact Calls.quiet_of_same (refwords_c _ (by omega) (by omega) _)))
    go_wp2
    go_ret
    exact ⟨ret_bool R.out, below_drewN ((Below.refl _ _).alloc (Nat.le_refl _) _) _⟩

theorem at_end (xs : List Nat) (i : Nat) : (((gt xs (i / 64) : Int) / 2 ^ (i % 64)).tmod 2 == 1) = bitAt xs i := by
  rw [bit_tmod _ _ (Int.natCast_nonneg _)]
  unfold bitAt
  rw [bit_test, Int.toNat_natCast, Bool.eq_iff_iff, beq_iff_eq, decide_eq_true_eq]
  omega

theorem at_c (N : Int) (ao : Option Addr) (xs : List Nat) (cap : Nat) (i : Nat) (w : World) (hx : Wd w ao xs) (hi : i / 64 < xs.length) (hi2 : i ≤ 1048576) :
    Calls Tryd.prog 37 #[.agg #[.int .i64 N, .slice ao xs.length cap], .int .i64 i] w fun e w' => e = .returned (.bool (bitAt xs i)) ∧ Below w.heap.size w w' := by
  obtain ⟨b, off, rfl, hb, hc⟩ := hx (by omega)
  have hl : (i : Int) / 64 < (xs.length : Int) := by omega
  have hcj := hc (i / 64) hi
  have R : Hid ((((gt xs (i / 64) : Int) / 2 ^ (i % 64)).tmod 2 == 1) = bitAt xs i) := at_end xs i
  clear hx hc
  go_enter Tryd.func37, Tryd.ntmps37
  go_wp2
  go_ret
  exact ⟨ret_bool R.out, below_alloc w _⟩

theorem refget_c (N : Int) (ao : Option Addr) (xs : List Nat) (cap : Nat) (i : Int) (w : World) (hx : Wd w ao xs) (hf : Fit xs) :
    Calls Tryd.prog 42 #[.agg #[.int .i64 N, .slice ao xs.length cap], .int .i64 i] w fun e w' => e = .returned (.tuple #[.bool (getB N xs i), .int .i64 (getE N xs i)]) ∧ Below w.heap.size w w' := by
  have K : ∀ o, Wd (w.alloc o) ao xs := fun o => hx.keep (below_alloc w o)
  cases hk : chk N xs with
  | false =>
    have R : Hid (2 = getE N xs i) := by unfold getE; rw [if_pos hk]; rfl
    have RB : Hid (false = getB N xs i) := by unfold getB; rw [hk]; simp [Hid]
    go_enter Tryd.func42, Tryd.ntmps42
    go_wp2_with (go_at_call 8; refine (refcheck_c _ _ _ _ _ (K _) hf).mono ?_; rintro e w' ⟨rfl, hb⟩; obtain ⟨c0, c1, hz, hw⟩ := box_cells hb; clear hb)
    go_ret2
    exact ⟨ret_pair (congrArg Value.bool RB.out) (congrArg (Value.int IntKind.i64) R.out), by assumption⟩
  | true =>
    by_cases h1 : i < 0 ∨ N ≤ i
    · have R : Hid (3 = getE N xs i) := by unfold getE; rw [if_neg (by simp [hk]), if_pos h1]; rfl
      have RB : Hid (false = getB N xs i) := by unfold getB; rw [show decide (0 ≤ i ∧ i < N) = false by simp; omega]; simp [Hid]
      by_cases h2 : i < 0
      · clear h1
        go_enter Tryd.func42, Tryd.ntmps42
        go_wp2_with (go_at_call 8; refine (refcheck_c _ _ _ _ _ (K _) hf).mono ?_; rintro e w' ⟨rfl, hb⟩; obtain ⟨c0, c1, hz, hw⟩ := box_cells hb; clear hb)
        go_ret2
        exact ⟨ret_pair (congrArg Value.bool RB.out) (congrArg (Value.int IntKind.i64) R.out), by assumption⟩
      · have h3 : N ≤ i := by omega
        clear h1
        go_enter Tryd.func42, Tryd.ntmps42
        go_wp2_with (go_at_call 8; refine (refcheck_c _ _ _ _ _ (K _) hf).mono ?_; rintro e w' ⟨rfl, hb⟩; obtain ⟨c0, c1, hz, hw⟩ := box_cells hb; clear hb)
        go_ret2
        exact ⟨ret_pair (congrArg Value.bool RB.out) (congrArg (Value.int IntKind.i64) R.out), by assumption⟩
    · obtain ⟨n, rfl⟩ := Int.eq_ofNat_of_zero_le (show 0 ≤ i by omega)
      obtain ⟨hc0, hc1, hc2, _⟩ := chk_out N xs hk
      have R : Hid (0 = getE N xs n) := by unfold getE; rw [if_neg (by simp [hk]), if_neg h1]; rfl
      have RB : Hid (bitAt xs n = getB N xs n) := by unfold getB; rw [hk, show decide (0 ≤ (n : Int) ∧ (n : Int) < N) = true by simp; omega]; simp [Hid]
      have h2 : (n : Int) < N := by omega
      have H1 : Hid (n / 64 < xs.length) := by unfold Hid; omega
      have H2 : Hid (n ≤ 1048576) := by unfold Hid; omega
      clear h1 hc2
      go_enter Tryd.func42, Tryd.ntmps42
      go_wp2_with fail
      refine (refcheck_c _ _ _ _ _ (K _) hf).mono ?_
      rintro e w1 ⟨rfl, hb⟩
      have KK := box_cells hb
      clear hb
      obtain ⟨c0, c1, hz, hw⟩ := KK
      go_wp2_with fail
      refine (at_c _ _ _ _ _ _ (hx.keep hw) H1.out H2.out).mono ?_
      rintro e w2 ⟨rfl, hb⟩
      have hw2 := hw.trans (hb.mono hw.size)
      clear hb
      go_wp2
      go_ret2
      exact ⟨ret_pair (congrArg Value.bool RB.out) (congrArg (Value.int IntKind.i64) R.out), hw2⟩
end Go.Proofs.YtjkihmjbhiiknaaDoor

namespace Go.Proofs.YtjkihmjbhiiknaaDoor
open Go.RowKit Num Bit

theorem at_i (N : Int) (ao : Option Addr) (xs : List Nat) (cap : Nat) (i : Nat) (P : Int) (w : World) (hP : P = (i : Int)) (hx : Wd w ao xs) (hi : i / 64 < xs.length) (hi2 : i ≤ 1048576) :
    Calls Tryd.prog 37 #[.agg #[.int .i64 N, .slice ao xs.length cap], .int .i64 P] w fun e w' => e = .returned (.bool (bitAt xs i)) ∧ Below w.heap.size w w' := by
  subst hP
  exact at_c N ao xs cap i w hx hi hi2

theorem or_num (q : Nat) (f : Nat → Bool) (hq : q < 64) (hf : f q = true) : bits .or .u64 (Bit.numOf q f : Int) (IntKind.u64.wrap (2 ^ q)) = ((Bit.numOf (q + 1) f : Nat) : Int) := by
  have l := numOf_lt q f
  have l2 := two_pow_lt q hq
  rw [shl_one q hq, u64_or_nat _ _ (by omega) l2]
  congr 1
  simp only [Bit.numOf, hf, if_true]
  have e := Nat.two_pow_add_eq_or_of_lt l 1
  rw [Nat.mul_one] at e
  rw [Nat.or_comm, ← e, Nat.add_comm]

theorem refslice_ok (ao : Option Addr) (xs : List Nat) (cap : Nat) (N : Int) (m n : Nat) (w : World) (hx : Wd w ao xs) (hf : Fit xs) (hk : chk N xs = true) (hn : n ≤ 64) (hm : (m : Int) + n ≤ N) :
    Calls Tryd.prog 86 #[.agg #[.int .i64 N, .slice ao xs.length cap], .int .i64 m, .int .i64 n] w fun e w' => e = .returned (.tuple #[.int .u64 (Bit.numOf n (fun k => bitAt xs (m + k)) : Nat), .int .i64 0]) ∧ Below w.heap.size w w' := by
  obtain ⟨hc0, hc1, hc2, _⟩ := chk_out N xs hk
  have K : ∀ o, Wd (w.alloc o) ao xs := fun o => hx.keep (below_alloc w o)
  have HL : Hid ((xs.length : Int) = (N + 63) / 64) := hc2
  have d1 : decide ((n : Int) < 0) = false := by simp
  have d2 : decide (64 < (n : Int)) = false := by simp; omega
  have d3 : decide ((m : Int) < 0) = false := by simp
  have d4 : decide (N < (m : Int)) = false := by simp; omega
  have d5 : decide (N - (m : Int) < (n : Int)) = false := by simp; omega
  have h5 : (n : Int) ≤ N - m := by omega
  have h6 : (m : Int) ≤ N := by omega
  clear hc2
  go_enter Tryd.func86, Tryd.ntmps86
  go_wp2_with fail
  refine (refcheck_c _ _ _ _ _ (K _) hf).mono ?_
  rintro e w1 ⟨rfl, hb⟩
  have KK := box_cells hb
  clear hb
  obtain ⟨c0, c1, hz, hw⟩ := KK
  go_wp2
  go_loopw [8, 9] (fun x k wr => ∃ q : Nat, q ≤ n ∧ k = .int .i64 q ∧ x = .int .u64 (Bit.numOf q (fun k => bitAt xs (m + k)) : Nat) ∧ (wr.cell? ⟨w.heap.size, 0, none⟩ = some (.int .i64 N) ∧ wr.cell? ⟨w.heap.size, 1, none⟩ = some (.slice ao xs.length cap)) ∧ w.heap.size < wr.heap.size ∧ Below w.heap.size w wr) (fun _ k _ => n - (intOf k).toNat)
  case atStart => exact ⟨0, Nat.zero_le _, rfl, rfl, ⟨c0, c1⟩, hz, hw⟩
  case round =>
    obtain ⟨q, hq, rfl, rfl, ⟨r0, r1⟩, hz2, hwr⟩ := hrel
    by_cases hlt : q < n
    · have hlt2 : (q : Int) < (n : Int) := by omega
      go_wp2_with fail
      refine (at_i _ _ _ _ (m + q) _ _ (by omega) (hx.keep hwr) (by have := HL.out; omega) (by omega)).mono ?_
      rintro e w2 ⟨rfl, hb⟩
      have s0 := (hb.cell (p := ⟨w.heap.size, 0, none⟩) hz2).trans r0
      have s1 := (hb.cell (p := ⟨w.heap.size, 1, none⟩) hz2).trans r1
      have hz3 : w.heap.size < w2.heap.size := Nat.lt_of_lt_of_le hz2 hb.size
      have hw2 := hwr.trans (hb.mono hwr.size)
      clear hb r0 r1 hwr hz2
      cases hb : bitAt xs (m + q) with
      | true =>
        have R : Hid (bits .or .u64 (Bit.numOf q (fun k => bitAt xs (m + k)) : Int) (IntKind.u64.wrap (2 ^ q)) = ((Bit.numOf (q + 1) (fun k => bitAt xs (m + k)) : Nat) : Int)) := or_num q _ (by omega) hb
        go_wp2
        refine ⟨⟨q + 1, by omega, by go_num, ?_, ⟨s0, s1⟩, hz3, hw2⟩, by simp only [intOf]; omega⟩
        rw [← R.out]
      | false =>
        have R : Hid ((Bit.numOf q (fun k => bitAt xs (m + k)) : Nat) = Bit.numOf (q + 1) (fun k => bitAt xs (m + k))) := by unfold Hid; simp [Bit.numOf, hb]
        go_wp2
        refine ⟨⟨q + 1, by omega, by go_num, ?_, ⟨s0, s1⟩, hz3, hw2⟩, by simp only [intOf]; omega⟩
        rw [← R.out]
    · have hq2 : q = n := by omega
      have R : Hid ((Bit.numOf q (fun k => bitAt xs (m + k)) : Nat) = Bit.numOf n (fun k => bitAt xs (m + k))) := by rw [hq2]; rfl
      clear hq2
      go_wp2
      go_ret2
      exact ⟨ret_pair (congrArg (fun x : Nat => Value.int IntKind.u64 (x : Int)) R.out) rfl, hwr⟩

theorem refslice_c (N : Int) (ao : Option Addr) (xs : List Nat) (cap : Nat) (i n : Int) (w : World) (hx : Wd w ao xs) (hf : Fit xs) (_hi : -9223372036854775808 ≤ i) (_hi2 : i ≤ 9223372036854775807) (_hn : -9223372036854775808 ≤ n) (_hn2 : n ≤ 9223372036854775807) :
    Calls Tryd.prog 86 #[.agg #[.int .i64 N, .slice ao xs.length cap], .int .i64 i, .int .i64 n] w fun e w' => e = .returned (.tuple #[.int .u64 (slcX N xs i n), .int .i64 (slcE N xs i n)]) ∧ Below w.heap.size w w' := by
  have K : ∀ o, Wd (w.alloc o) ao xs := fun o => hx.keep (below_alloc w o)
  by_cases hE : slcE N xs i n = 0
  · have hk : chk N xs = true := by unfold slcE at hE; cases h : chk N xs with | true => rfl | false => simp [h] at hE
    have hi : 0 ≤ n ∧ n ≤ 64 ∧ 0 ≤ i ∧ i ≤ N - n := by
      unfold slcE at hE
      by_cases h : chk N xs = false ∨ n < 0 ∨ 64 < n
      · rw [if_pos h] at hE; omega
      · rw [if_neg h] at hE
        by_cases h2 : i < 0 ∨ N - n < i
        · rw [if_pos h2] at hE; omega
        · simp [hk] at h; omega
    obtain ⟨hn0, hn1, hi0, hi1⟩ := hi
    obtain ⟨m, rfl⟩ := Int.eq_ofNat_of_zero_le hi0
    obtain ⟨k, rfl⟩ := Int.eq_ofNat_of_zero_le hn0
    refine (refslice_ok ao xs cap N m k w hx hf hk (by omega) (by omega)).mono ?_
    rintro e w' ⟨rfl, hb⟩
    refine ⟨ret_pair ?_ (congrArg (Value.int IntKind.i64) hE.symm), hb⟩
    rw [slcX, if_pos hE, Int.toNat_natCast, Int.toNat_natCast]
  · have R : Hid (0 = ((slcX N xs i n : Nat) : Int)) := by unfold slcX Hid; rw [if_neg hE]; rfl
    cases hk : chk N xs with
    | false =>
      have RE : Hid (2 = slcE N xs i n) := by unfold slcE Hid; rw [if_pos (.inl hk)]
      clear hE
      go_enter Tryd.func86, Tryd.ntmps86
      go_wp2_with (go_at_call 8; refine (refcheck_c _ _ _ _ _ (K _) hf).mono ?_; rintro e w' ⟨rfl, hb⟩; obtain ⟨c0, c1, hz, hw⟩ := box_cells hb; clear hb)
      go_ret2
      exact ⟨ret_pair (congrArg (Value.int IntKind.u64) R.out) (congrArg (Value.int IntKind.i64) RE.out), by assumption⟩
    | true =>
      obtain ⟨hc0, hc1, _, _⟩ := chk_out N xs hk
      by_cases hn : n < 0
      · have RE : Hid (2 = slcE N xs i n) := by unfold slcE Hid; rw [if_pos (.inr (.inl hn))]
        clear hE
        go_enter Tryd.func86, Tryd.ntmps86
        go_wp2_with (go_at_call 8; refine (refcheck_c _ _ _ _ _ (K _) hf).mono ?_; rintro e w' ⟨rfl, hb⟩; obtain ⟨c0, c1, hz, hw⟩ := box_cells hb; clear hb)
        go_ret2
        exact ⟨ret_pair (congrArg (Value.int IntKind.u64) R.out) (congrArg (Value.int IntKind.i64) RE.out), by assumption⟩
      · by_cases hn2 : 64 < n
        · have RE : Hid (2 = slcE N xs i n) := by unfold slcE Hid; rw [if_pos (.inr (.inr hn2))]
          clear hE
          go_enter Tryd.func86, Tryd.ntmps86
          go_wp2_with (go_at_call 8; refine (refcheck_c _ _ _ _ _ (K _) hf).mono ?_; rintro e w' ⟨rfl, hb⟩; obtain ⟨c0, c1, hz, hw⟩ := box_cells hb; clear hb)
          go_ret2
          exact ⟨ret_pair (congrArg (Value.int IntKind.u64) R.out) (congrArg (Value.int IntKind.i64) RE.out), by assumption⟩
        · have hcond : i < 0 ∨ N - n < i := by
            unfold slcE at hE
            rw [if_neg (by simp [hk]; omega)] at hE
            by_cases h2 : i < 0 ∨ N - n < i
            · exact h2
            · rw [if_neg h2] at hE; exact absurd rfl hE
          have RE : Hid (3 = slcE N xs i n) := by unfold slcE Hid; rw [if_neg (by simp [hk]; omega), if_pos hcond]
          clear hE
          by_cases h3 : i < 0
          · clear hcond
            go_enter Tryd.func86, Tryd.ntmps86
            go_wp2_with (go_at_call 8; refine (refcheck_c _ _ _ _ _ (K _) hf).mono ?_; rintro e w' ⟨rfl, hb⟩; obtain ⟨c0, c1, hz, hw⟩ := box_cells hb; clear hb)
            go_ret2
            exact ⟨ret_pair (congrArg (Value.int IntKind.u64) R.out) (congrArg (Value.int IntKind.i64) RE.out), by assumption⟩
          · have d3 : decide (i < 0) = false := by simpa using h3
            by_cases h4 : N < i
            · clear hcond
              go_enter Tryd.func86, Tryd.ntmps86
              go_wp2_with (go_at_call 8; refine (refcheck_c _ _ _ _ _ (K _) hf).mono ?_; rintro e w' ⟨rfl, hb⟩; obtain ⟨c0, c1, hz, hw⟩ := box_cells hb; clear hb)
              go_ret2
              exact ⟨ret_pair (congrArg (Value.int IntKind.u64) R.out) (congrArg (Value.int IntKind.i64) RE.out), by assumption⟩
            · have d4 : decide (N < i) = false := by simpa using h4
              have h5 : N - i < n := by omega
              clear hcond
              go_enter Tryd.func86, Tryd.ntmps86
              go_wp2_with (go_at_call 8; refine (refcheck_c _ _ _ _ _ (K _) hf).mono ?_; rintro e w' ⟨rfl, hb⟩; obtain ⟨c0, c1, hz, hw⟩ := box_cells hb; clear hb)
              go_ret2
              exact ⟨ret_pair (congrArg (Value.int IntKind.u64) R.out) (congrArg (Value.int IntKind.i64) RE.out), by assumption⟩

theorem refones_c (N : Int) (ao : Option Addr) (xs : List Nat) (cap : Nat) (n : Int) (w : World) (hx : Wd w ao xs) (hf : Fit xs) :
    Calls Tryd.prog 13 #[.agg #[.int .i64 N, .slice ao xs.length cap], .int .i64 n] w fun e w' => e = .returned (.int .i64 (onesI N xs n)) ∧ Below w.heap.size w w' := by
  go_enter Tryd.func13, Tryd.ntmps13
  go_wp2
  go_loopw [5, 6] (fun c i wr => ∃ k t : Nat, i = .int .i64 k ∧ c = .int .i64 t ∧ t ≤ k ∧ Hid (k = 0 ∨ ((k : Int) ≤ n ∧ (k : Int) ≤ N ∧ chk N xs = true)) ∧ k ≤ 1048576 ∧ Hid (t = cntB xs k) ∧ (wr.cell? ⟨w.heap.size, 0, none⟩ = some (.int .i64 N) ∧ wr.cell? ⟨w.heap.size, 1, none⟩ = some (.slice ao xs.length cap)) ∧ w.heap.size < wr.heap.size ∧ Below w.heap.size w wr) (fun _ i _ => 1048577 - (intOf i).toNat)
  case atStart => exact ⟨0, 0, rfl, rfl, Nat.le_refl _, .inl rfl, by omega, rfl, ⟨by simp, by simp⟩, by simp, below_alloc w _⟩
  case round =>
    obtain ⟨k, t, rfl, rfl, ht, HK, hk2, HT, ⟨r0, r1⟩, hz, hwr⟩ := hrel
    by_cases c1 : (k : Int) < n
    · by_cases c2 : (k : Int) < N
      · cases hk : chk N xs with
        | true =>
          obtain ⟨hc0, hc1, hc2, _⟩ := chk_out N xs hk
          have H1 : Hid (k / 64 < xs.length) := by unfold Hid; omega
          clear hc2
          go_wp2_with fail
          refine (refcheck_c _ _ _ _ _ (hx.keep hwr) hf).mono ?_
          rintro e w1 ⟨rfl, hb⟩
          have s0 := (hb.cell (p := ⟨w.heap.size, 0, none⟩) hz).trans r0
          have s1 := (hb.cell (p := ⟨w.heap.size, 1, none⟩) hz).trans r1
          have hz1 : w.heap.size < w1.heap.size := Nat.lt_of_lt_of_le hz hb.size
          have hw1 := hwr.trans (hb.mono hwr.size)
          clear hb r0 r1 hz hwr
          go_wp2_with fail
          refine (at_c _ _ _ _ _ _ (hx.keep hw1) H1.out hk2).mono ?_
          rintro e w2 ⟨rfl, hb⟩
          have q0 := (hb.cell (p := ⟨w.heap.size, 0, none⟩) hz1).trans s0
          have q1 := (hb.cell (p := ⟨w.heap.size, 1, none⟩) hz1).trans s1
          have hz2 : w.heap.size < w2.heap.size := Nat.lt_of_lt_of_le hz1 hb.size
          have hw2 := hw1.trans (hb.mono hw1.size)
          clear hb s0 s1 hz1 hw1
          cases hb : bitAt xs k with
          | true =>
            have R : Hid (t + 1 = cntB xs (k + 1)) := by unfold Hid; simp only [cntB, hb]; rw [HT.out]; rfl
            go_wp2
            exact ⟨⟨k + 1, t + 1, by go_num, by go_num, by omega, .inr ⟨by omega, by omega, by first | trivial | exact hk⟩, by omega, R, ⟨q0, q1⟩, hz2, hw2⟩, by simp only [intOf]; omega⟩
          | false =>
            have R : Hid (t = cntB xs (k + 1)) := by unfold Hid; simp only [cntB, hb]; rw [HT.out]; rfl
            go_wp2
            exact ⟨⟨k + 1, t, by go_num, rfl, by omega, .inr ⟨by omega, by omega, by first | trivial | exact hk⟩, by omega, R, ⟨q0, q1⟩, hz2, hw2⟩, by simp only [intOf]; omega⟩
        | false =>
          have R : Hid ((t : Int) = onesI N xs n) := by
            unfold onesI Hid
            rw [hk]
            have := HT.out
            rcases HK.out with h | ⟨_, _, h⟩
            · subst h; simp [this, cntB]
            · rw [hk] at h; cases h
          go_wp2_with fail
          refine (refcheck_c _ _ _ _ _ (hx.keep hwr) hf).mono ?_
          rintro e w1 ⟨rfl, hb⟩
          have hw1 := hwr.trans (hb.mono hwr.size)
          clear hb
          go_wp2
          go_ret
          exact ⟨ret_int R.out, hw1⟩
      · have R : Hid ((t : Int) = onesI N xs n) := by
          unfold onesI Hid
          have := HT.out
          rcases HK.out with h | ⟨h1, h2, h3⟩
          · subst h
            split
            · rw [show (min n N).toNat = 0 by omega, this]
            · simp [this, cntB]
          · rw [h3, show (min n N).toNat = k by omega, this]; rfl
        go_wp2
        go_ret
        exact ⟨ret_int R.out, hwr⟩
    · have c1' : decide ((k : Int) < n) = false := by simpa using c1
      have R : Hid ((t : Int) = onesI N xs n) := by
        unfold onesI Hid
        have := HT.out
        rcases HK.out with h | ⟨h1, h2, h3⟩
        · subst h
          split
          · rw [show (min n N).toNat = 0 by omega, this]
          · simp [this, cntB]
        · rw [h3, show (min n N).toNat = k by omega, this]; rfl
      go_wp2
      go_ret
      exact ⟨ret_int R.out, hwr⟩
end Go.Proofs.YtjkihmjbhiiknaaDoor

namespace Go.Proofs.YtjkihmjbhiiknaaDoor
open Go.RowKit
set_option linter.unusedVariables false

/-- Block b holds just these cells, and may be written. -/
def Cel (w : World) (b : Nat) (cs : List Value) (T : TypeId) : Prop := w.heap[b]? = some (.cells cs.toArray T (0, 0))
theorem Cel.lt {w : World} {b : Nat} {cs : List Value} {T : TypeId} (h : Cel w b cs T) : b < w.heap.size := (Array.getElem?_eq_some_iff.1 h).1
theorem Cel.cell {w : World} {b : Nat} {cs : List Value} {T : TypeId} (h : Cel w b cs T) (i : Nat) {v : Value} (hv : cs[i]? = some v) : w.cell? ⟨b, i, none⟩ = some v := by
  unfold World.cell?
  rw [show w.heap[({ block := b, off := i, spot := none } : Addr).block]? = _ from h]
  simpa using hv
theorem Cel.frozen {w : World} {b : Nat} {cs : List Value} {T : TypeId} (h : Cel w b cs T) (i : Nat) : w.frozen? ⟨b, i, none⟩ = false := by
  unfold World.frozen?
  rw [show w.heap[({ block := b, off := i, spot := none } : Addr).block]? = _ from h]
  simp
theorem Cel.set {w : World} {b : Nat} {cs : List Value} {T : TypeId} (h : Cel w b cs T) (i : Nat) (v : Value) : Cel (w.setCell ⟨b, i, none⟩ v) b (cs.set i v) T := by
  unfold Cel at h ⊢
  simp only [World.setCell, Array.getElem?_modify]
  rw [if_pos trivial, h]
  simp
theorem Cel.other {w : World} {b : Nat} {cs : List Value} {T : TypeId} (h : Cel w b cs T) {a : Addr} (ha : b ≠ a.block) (v : Value) : Cel (w.setCell a v) b cs T := (Below.heap_setCell w a v b ha).trans h
theorem Cel.keep {w w' : World} {b base : Nat} {cs : List Value} {T : TypeId} (h : Cel w b cs T) (hb : Below base w w') (hlt : b < base) : Cel w' b cs T := (hb.block b hlt).trans h
theorem Cel.kept {w w' : World} {b : Nat} {cs : List Value} {T : TypeId} (h : Cel w b cs T) (hb : Below w.heap.size w w') : Cel w' b cs T := h.keep hb h.lt
theorem Cel.drew {w : World} {b : Nat} {cs : List Value} {T : TypeId} (h : Cel w b cs T) : Cel w.drew b cs T := h
theorem Cel.new (w : World) (cs : List Value) (T : TypeId) : Cel (w.alloc (.cells cs.toArray T)) w.heap.size cs T := by
  show (w.heap.push (.cells cs.toArray T))[w.heap.size]? = _
  simp
theorem Cel.new2 (w : World) (o : Obj) (cs : List Value) (T : TypeId) : Cel ((w.alloc o).alloc (.cells cs.toArray T)) (w.heap.size + 1) cs T := by
  have := Cel.new (w.alloc o) cs T
  simpa using this
theorem Cel.alloc {w : World} {b : Nat} {cs : List Value} {T : TypeId} (h : Cel w b cs T) (o : Obj) : Cel (w.alloc o) b cs T := h.kept ((Below.refl _ _).alloc (Nat.le_refl _) _)
end Go.Proofs.YtjkihmjbhiiknaaDoor

namespace Go.Proofs.YtjkihmjbhiiknaaDoor
open Go.RowKit Num Bit
set_option linter.unusedVariables false
set_option linter.unusedSimpArgs false
set_option maxRecDepth 100000

end Go.Proofs.YtjkihmjbhiiknaaDoor

namespace Go.Proofs.YtjkihmjbhiiknaaDoor
open Go.RowKit Go.Shelf Num Bit
set_option linter.unusedVariables false
set_option linter.unusedSimpArgs false
set_option maxRecDepth 100000
attribute [local go_sem] Oper.semAt_some

theorem Kept.wd {K : Nat → Prop} {W W' : World} {ao : Option Addr} {xs : List Nat} (h : Kept K W W') (hx : Wd W ao xs) (hK : ∀ p, ao = some p → 0 < xs.length → K p.block) : Wd W' ao xs := by
  intro h0
  obtain ⟨g, off, rfl, hl, hc⟩ := hx h0
  have hk := h.same g (hK _ rfl h0) hl
  exact ⟨g, off, rfl, Nat.lt_of_lt_of_le hl h.size, fun i hi => (World.cell?_of_block (w := W) hk).trans (hc i hi)⟩
theorem Kept.cel {K : Nat → Prop} {W W' : World} {b : Nat} {cs : List Value} {T : TypeId} (h : Kept K W W') (hc : Cel W b cs T) (hK : K b) : Cel W' b cs T := (h.same b hK hc.lt).trans hc
theorem len_pow (t : Nat) (h : t < 64) : lenI ((2 ^ t : Nat) : Int) = (t : Int) + 1 := by
  unfold lenI
  rw [Int.toNat_natCast, len_eq (2 ^ t) t (Nat.pow_lt_pow_right (by decide) (by omega)) (by rw [Nat.div_self (Nat.two_pow_pos t)])]
  omega

set_option maxHeartbeats 8000000 in
theorem ofOnes1_goes (Bb N : Nat) (ao : Option Addr) (xs : List Nat) (cap : Nat) (K : Nat → Prop) (w : World) (hx : Wd w ao xs) (hf : Fit xs) (hc : Cel w Bb [.int .i64 N, .slice ao xs.length cap] 24) (hK : K Bb) (hKx : ∀ p, ao = some p → 0 < xs.length → K p.block) (hk : chk (N : Int) xs = true) :
    Goes Tryd.prog 65 #[.pointer (some ⟨Bb, 0, none⟩)] (plc (bitAt xs) N).length (fun q => #[.int .i64 q, .int .i64 (gt (plc (bitAt xs) N) q : Nat)]) K w := by
  intro l J Jx W hW hKW hJ hJx hY h0
  refine (callsIn_wide (n := 0)).1 (callsIn_of_wp Tryd.func65 rfl trivial ?_)
  simp only [Tryd.ntmps65, List.size_toArray, List.length_cons, List.length_nil, Nat.reduceAdd, Nat.reduceSub, Array.replicate_succ, Array.replicate_zero, List.push_toArray, List.append_toArray, List.nil_append, List.cons_append]
  replace hc := hc.kept hW
  replace hx := hx.keep hW
  have q1 := hc.cell 1 rfl
  obtain ⟨_, hN, hlen, hhi⟩ := chk_out (N : Int) xs hk
  have HL : Hid (plc (bitAt xs) (64 * xs.length) = plc (bitAt xs) N) := by
    show plc _ _ = _
    have hle : N ≤ 64 * xs.length := by omega
    rw [show 64 * xs.length = N + (64 * xs.length - N) by omega]
    exact plc_skip _ _ _ fun k h1 h2 => chk_high N xs hk k (by omega)
  have lx : xs.length ≤ 16384 := by omega
  clear hlen hc
  gi_wp2
  gi_loopw [3, 4, 5, 6, 10] (fun iv jv rv lv kv wr => ∃ j c : Nat, j ≤ xs.length ∧ kv = .int .i64 j ∧ iv = .int .i64 c ∧ c ≤ 1048576 ∧ Hid (c = (plc (bitAt xs) (64 * j)).length) ∧ Hid (J c wr) ∧ Hid (Wd wr ao xs) ∧ W.heap.size ≤ wr.heap.size) (fun _ _ _ _ k _ => xs.length - (intOf k).toNat)
  case atStart => exact ⟨0, 0, Nat.zero_le _, rfl, rfl, by omega, by show 0 = _; simp [plc], h0, hx, Nat.le_refl _⟩
  case round =>
    obtain ⟨j, c, hj, rfl, rfl, hc0, hc, HJ, HX, hz⟩ := hrel
    by_cases hlt : j < xs.length
    · have hlt2 : (j : Int) < (xs.length : Int) := by omega
      obtain ⟨g, off, rfl, hgl, hcell⟩ := HX.out (by omega)
      have cj := hcell j hlt
      have xl := hf j
      obtain ⟨x, hxx⟩ : ∃ x, Hid (x = gt xs j) := ⟨_, rfl⟩
      rw [← hxx.out] at cj xl
      gi_wp2
      gi_loopw [3, 5, 6] (fun iv rv lv wq => ∃ p c r : Nat, p ≤ 64 ∧ iv = .int .i64 c ∧ rv = .int .u64 r ∧ r < 18446744073709551616 ∧ Hid (r = restW x p) ∧ c ≤ 1048576 ∧ Hid (c = (plc (bitAt xs) (64 * j + p)).length) ∧ Hid (J c wq) ∧ Hid (Wd wq (some ⟨g, off, none⟩) xs) ∧ W.heap.size ≤ wq.heap.size) (fun _ rv _ _ => (intOf rv).toNat)
      case atStart => exact ⟨0, c, x, by omega, rfl, by rw [hxx.out], xl, by show x = _; rw [restW_zero], hc0, hc, HJ, HX, hz⟩
      case round =>
        clear hcell cj
        obtain ⟨p, c, r, hp, rfl, rfl, hr, Hr, hc0, hc, HJ, HX, hz⟩ := hrel
        by_cases hr0 : r = 0
        · subst hr0
          have HS : Hid (c = (plc (bitAt xs) (64 * (j + 1))).length) := by
            show c = _
            have e := plc_skip (bitAt xs) (64 * j + p) (64 - p) fun k h1 h2 => by
              rw [show k = 64 * j + (k - 64 * j) by omega, bitAt_word xs j _ (by omega), ← hxx.out]
              exact rest_end x p Hr.out.symm _ (by omega)
            rw [hc.out, show 64 * (j + 1) = 64 * j + p + (64 - p) by omega, e]
          gi_wp2
          exact ⟨⟨j + 1, c, by omega, by go_num, rfl, hc0, HS, HJ, HX, hz⟩, by simp only [intOf]; omega⟩
        · have r0 : ((r : Int) != 0) = true := by simp; omega
          obtain ⟨t, h1, h2, h3, h4, h5, h6⟩ := rest_low x p xl (fun e => hr0 (Hr.out.trans e))
          rw [← Hr.out] at h5 h6
          have hneg : IntKind.u64.wrap (-(r : Int)) = ((18446744073709551616 - r : Nat) : Int) := by rw [IntKind.wrap_u64]; omega
          have L : Hid (∀ w0, Calls Tryd.prog 66 #[.int .u64 (bits BinOp.and IntKind.u64 (r : Int) (IntKind.u64.wrap (-(r : Int))))] w0 fun e w' => e = .returned (.int .i64 ((t : Int) + 1)) ∧ w' = w0) := fun w0 => by
            rw [hneg, bits_and _ _ (by omega) (by omega) (by omega) (by omega), Int.toNat_natCast, Int.toNat_natCast, h5]
            have := len_c ((2 ^ t : Nat) : Int) (by omega) (by have := two_pow_lt t h2; omega) w0
            rw [len_pow t h2] at this
            exact this
          have hpl : plc (bitAt xs) (64 * j + t) = plc (bitAt xs) (64 * j + p) := by
            rw [show 64 * j + t = 64 * j + p + (t - p) by omega]
            refine plc_skip _ _ _ fun k e1 e2 => ?_
            rw [show k = 64 * j + (k - 64 * j) by omega, bitAt_word xs j _ (by omega), ← hxx.out]
            exact h4 _ (by omega) (by omega)
          have hbt : bitAt xs (64 * j + t) = true := by rw [bitAt_word xs j t h2, ← hxx.out]; exact h3
          have htN : 64 * j + t < N := by
            refine Nat.lt_of_not_le fun e => ?_
            rw [chk_high N xs hk _ (by omega)] at hbt
            cases hbt
          obtain ⟨n1, n2, n3⟩ := plc_next (bitAt xs) (64 * j + t) N htN hbt
          rw [hpl, ← hc.out] at n1 n2 n3
          have Y := hY c wr n1 HJ.out hz
          have n1' := n1
          rw [n2, show ((64 * j + t : Nat) : Int) = (j : Int) * 64 + (t : Int) by omega] at Y
          obtain ⟨r', hr'⟩ : ∃ r', Hid (r' = restW x (t + 1)) := ⟨_, rfl⟩
          have hand : bits BinOp.and IntKind.u64 (r : Int) ((r : Int) - 1) = (r' : Int) := by
            rw [show (r : Int) - 1 = ((r - 1 : Nat) : Int) by omega, bits_and _ _ (by omega) (by omega) (by omega) (by omega), Int.toNat_natCast, Int.toNat_natCast, h6, hr'.out]
          have hrl : r' < r := by
            rw [hr'.out, ← h6]
            have : r &&& (r - 1) ≤ r - 1 := Nat.and_le_right
            omega
          have HC : Hid (c + 1 = (plc (bitAt xs) (64 * j + (t + 1))).length) := n3.symm
          have c1 : c + 1 ≤ 1048576 := by
            have := plc_le (bitAt xs) N
            omega
          obtain ⟨fn, tmps, assign, body, hy, hR⟩ := Y
          clear h5 h6 hneg n1 n2 n3 hbt hpl h4 h3
          gi_wp2_with fail
          refine ⟨trivial, rfl, ?_⟩
          refine (callsIn_wide.2 (L.out _)).mono ?_
          rintro e w1 ⟨rfl, hw1⟩
          rw [hw1]
          clear hw1 w1 L
          gi_wp2
          refine ⟨rfl, hR.mono ?_⟩
          rintro e W3 ⟨hkp, ⟨rfl, hJ3⟩ | ⟨rfl, hJx3⟩⟩
          · have HJ3 : Hid (J (c + 1) W3) := hJ3
            have HX3 : Hid (Wd W3 (some ⟨g, off, none⟩) xs) := hkp.wd HX.out hKx
            have hz3 := Nat.le_trans hz hkp.size
            clear hJ3 hkp HJ HX hY hJ hJx
            gi_wp2
            exact ⟨⟨t + 1, c + 1, r', by omega, by go_num, rfl, by omega, hr', c1, HC, HJ3, HX3, hz3⟩, by simp only [intOf]; omega⟩
          · have HF : Hid (∃ q, q < (plc (bitAt xs) N).length ∧ Jx q W3) := ⟨c, n1', hJx3⟩
            clear hJx3 hkp HJ HX hY hJ hJx
            gi_wp2
            refine bodyPost_ret (results_none rfl _ _ _) rfl ?_
            exact ⟨⟨_, rfl⟩, .inr HF.out⟩
    · obtain rfl : j = xs.length := by omega
      have HE : Hid (J (plc (bitAt xs) N).length wr) := by
        show J _ _
        rw [← HL.out, ← hc.out]
        exact HJ.out
      clear HJ HX hY hJ hJx
      gi_wp2
      refine bodyPost_end (results_none rfl _ _ _) rfl ?_
      exact ⟨⟨_, rfl⟩, .inl HE.out⟩

theorem ofOnes_c (N : Nat) (ao : Option Addr) (xs : List Nat) (cap : Nat) (w : World) :
    Calls Tryd.prog 52 #[.agg #[.int .i64 N, .slice ao xs.length cap]] w fun e w' => e = .returned (.func (.func 65) #[] #[.pointer (some ⟨w.heap.size, 0, none⟩)]) ∧ w' = w.alloc (.cells #[.int .i64 N, .slice ao xs.length cap] 24) := by
  go_enter Tryd.func52, Tryd.ntmps52
  go_wp2
  go_ret
  exact ⟨rfl, rfl⟩
end Go.Proofs.YtjkihmjbhiiknaaDoor

namespace Go.Proofs.YtjkihmjbhiiknaaDoor
open Go.RowKit Go.Extern.Stop Go.Stop Go.Extern

/-- The variable errors.errorType, as the program's text lays it. -/
def ET (w : World) : Prop := w.cell? ⟨0, 0, none⟩ = some (.iface 126 (.agg #[.pointer (some ⟨1, 95, none⟩)]))
theorem ET.lt {w : World} (h : ET w) : 0 < w.heap.size := by
  rcases Nat.eq_zero_or_pos w.heap.size with h0 | h1
  · simp [ET, World.cell?, h0] at h
  · exact h1
theorem ET.keep {w w' : World} (h : ET w) (hb : Below w.heap.size w w') : ET w' := (hb.cell (p := ⟨0, 0, none⟩) h.lt).trans h

end Go.Proofs.YtjkihmjbhiiknaaDoor

namespace Go.Proofs.YtjkihmjbhiiknaaDoor
open Go.RowKit Num Bit
set_option maxRecDepth 100000
set_option linter.unusedVariables false

theorem wide_ok (W : Int) (h0 : 1 ≤ W) (h1 : W ≤ 64) (w : World) :
    Calls Tryd.prog 78 #[.int .i64 W] w fun e w' => e = .returned .nilIface ∧ w' = w := by
  go_enter Tryd.func78, Tryd.ntmps78
  go_wp2
  go_ret
  exact ⟨rfl, rfl⟩
theorem wide_bad (W : Int) (h : W < 1 ∨ 64 < W) (w : World) :
    Calls Tryd.prog 78 #[.int .i64 W] w fun e w' => (∃ s, e = .returned (.iface 106 (.agg #[.int .i64 2, .string s]))) ∧ w' = w := by
  rcases h with h | h
  · go_enter Tryd.func78, Tryd.ntmps78
    go_wp2
    go_ret
    exact ⟨⟨_, rfl⟩, rfl⟩
  · have h' : ¬ W < 1 := by omega
    go_enter Tryd.func78, Tryd.ntmps78
    go_wp2
    go_ret
    exact ⟨⟨_, rfl⟩, rfl⟩
theorem narrow_ok (v W : Int) (h0 : 0 ≤ v) (h1 : v < 18446744073709551616) (h : lenI v ≤ W) (w : World) :
    Calls Tryd.prog 79 #[.int .u64 v, .int .i64 W] w fun e w' => e = .returned .nilIface ∧ w' = w := by
  go_enter Tryd.func79, Tryd.ntmps79
  go_wp2_with (go_at_call 66; refine (len_c _ ?_ ?_ _).mono ?_; exact h0; exact h1; rintro e w' ⟨rfl, rfl⟩)
  go_ret
  exact ⟨rfl, rfl⟩
theorem narrow_bad (v W : Int) (h0 : 0 ≤ v) (h1 : v < 18446744073709551616) (h : W < lenI v) (w : World) :
    Calls Tryd.prog 79 #[.int .u64 v, .int .i64 W] w fun e w' => (∃ s, e = .returned (.iface 106 (.agg #[.int .i64 2, .string s]))) ∧ w' = w := by
  go_enter Tryd.func79, Tryd.ntmps79
  go_wp2_with (go_at_call 66; refine (len_c _ ?_ ?_ _).mono ?_; exact h0; exact h1; rintro e w' ⟨rfl, rfl⟩)
  go_ret
  exact ⟨⟨_, rfl⟩, rfl⟩

/-- A box of four cells. -/
def Box4 (w : World) (b : Nat) (p q r s : Value) : Prop := b < w.heap.size ∧ w.cell? ⟨b, 0, none⟩ = some p ∧ w.cell? ⟨b, 1, none⟩ = some q ∧ w.cell? ⟨b, 2, none⟩ = some r ∧ w.cell? ⟨b, 3, none⟩ = some s
theorem Box4.keep {w w' : World} {b : Nat} {p q r s : Value} (h : Box4 w b p q r s) (hb : Below w.heap.size w w') : Box4 w' b p q r s :=
  ⟨Nat.lt_of_lt_of_le h.1 hb.size, (hb.cell (p := ⟨b, 0, none⟩) h.1).trans h.2.1, (hb.cell (p := ⟨b, 1, none⟩) h.1).trans h.2.2.1, (hb.cell (p := ⟨b, 2, none⟩) h.1).trans h.2.2.2.1, (hb.cell (p := ⟨b, 3, none⟩) h.1).trans h.2.2.2.2⟩
theorem Box4.new {w w' : World} {p q r s : Value} {T : TypeId} (hb : Below (w.alloc (.cells #[p, q, r, s] T)).heap.size (w.alloc (.cells #[p, q, r, s] T)) w') : Box4 w' w.heap.size p q r s ∧ Below w.heap.size w w' := by
  have hz : (w.alloc (.cells #[p, q, r, s] T)).heap.size = w.heap.size + 1 := by simp
  refine ⟨⟨?_, ?_, ?_, ?_, ?_⟩, ?_⟩
  · have := hb.size; omega
  · rw [hb.cell (p := ⟨w.heap.size, 0, none⟩) (by simp)]; simp
  · rw [hb.cell (p := ⟨w.heap.size, 1, none⟩) (by simp)]; simp
  · rw [hb.cell (p := ⟨w.heap.size, 2, none⟩) (by simp)]; simp
  · rw [hb.cell (p := ⟨w.heap.size, 3, none⟩) (by simp)]; simp
  · exact (below_alloc w _).trans (hb.mono (by omega))

theorem mayBe_ok (N W M : Int) (ao : Option Addr) (xs : List Nat) (cap : Nat) (w : World) (hx : Wd w ao xs) (hk : ichk N W M xs = true) :
    Calls Tryd.prog 76 #[.agg #[.int .i64 N, .int .i64 W, .int .i64 M, .slice ao xs.length cap]] w fun e w' => e = .returned .nilIface ∧ Below w.heap.size w w' := by
  have K : ∀ o, Wd (w.alloc o) ao xs := fun o => hx.keep (below_alloc w o)
  obtain ⟨a1, a2, a3, a4, a5, a6, a7, a8⟩ := ichk_out N W M xs hk
  have d1 : (N * W != M) = false := by simpa using a4
  have hm : 0 ≤ N * W := by omega
  have hm2 : N * W ≤ 1048576 := by omega
  clear a4 hk
  go_enter Tryd.func76, Tryd.ntmps76
  go_wp2_with (first | (go_at_call 78; refine (wide_ok _ ?_ ?_ _).mono ?_; exact a1; exact a2; rintro e w' ⟨rfl, rfl⟩) | (go_at_call 30; refine (check_c _ _ _ _ _ (K _)).mono ?_; rintro e w' ⟨rfl, hb⟩; have KK := Box4.new hb; clear hb; obtain ⟨⟨hz, c0, c1, c2, c3⟩, hw⟩ := KK))
  go_ret
  exact ⟨rfl, by assumption⟩

theorem mayBe_bad (N W M : Int) (ao : Option Addr) (xs : List Nat) (cap : Nat) (w : World) (hx : Wd w ao xs) (hk : ichk N W M xs = false) :
    Calls Tryd.prog 76 #[.agg #[.int .i64 N, .int .i64 W, .int .i64 M, .slice ao xs.length cap]] w fun e w' => (∃ s, e = .returned (.iface 106 (.agg #[.int .i64 2, .string s]))) ∧ Below w.heap.size w w' := by
  have K : ∀ o, Wd (w.alloc o) ao xs := fun o => hx.keep (below_alloc w o)
  by_cases c : W < 1 ∨ 64 < W
  · clear hk
    go_enter Tryd.func76, Tryd.ntmps76
    go_wp2_with (go_at_call 78; refine (wide_bad _ ?_ _).mono ?_; exact c; rintro e w' ⟨⟨s, rfl⟩, rfl⟩)
    go_ret
    exact ⟨⟨_, rfl⟩, below_alloc w _⟩
  have a1 : 1 ≤ W := by omega
  have a2 : W ≤ 64 := by omega
  clear c
  cases hc : chk M xs with
  | false =>
    clear hk
    go_enter Tryd.func76, Tryd.ntmps76
    go_wp2_with (first | (go_at_call 78; refine (wide_ok _ ?_ ?_ _).mono ?_; exact a1; exact a2; rintro e w' ⟨rfl, rfl⟩) | (go_at_call 30; refine (check_c _ _ _ _ _ (K _)).mono ?_; rintro e w' ⟨rfl, hb⟩; have KK := Box4.new hb; clear hb; obtain ⟨⟨hz, c0, c1, c2, c3⟩, hw⟩ := KK))
    go_ret
    exact ⟨⟨_, rfl⟩, by assumption⟩
  | true =>
    obtain ⟨m0, m1, _, _⟩ := chk_out M xs hc
    by_cases n0 : N < 0
    · clear hk
      go_enter Tryd.func76, Tryd.ntmps76
      go_wp2_with (first | (go_at_call 78; refine (wide_ok _ ?_ ?_ _).mono ?_; exact a1; exact a2; rintro e w' ⟨rfl, rfl⟩) | (go_at_call 30; refine (check_c _ _ _ _ _ (K _)).mono ?_; rintro e w' ⟨rfl, hb⟩; have KK := Box4.new hb; clear hb; obtain ⟨⟨hz, c0, c1, c2, c3⟩, hw⟩ := KK))
      go_ret
      exact ⟨⟨_, rfl⟩, by assumption⟩
    have n0' : 0 ≤ N := by omega
    by_cases n1 : M < N
    · clear hk n0
      go_enter Tryd.func76, Tryd.ntmps76
      go_wp2_with (first | (go_at_call 78; refine (wide_ok _ ?_ ?_ _).mono ?_; exact a1; exact a2; rintro e w' ⟨rfl, rfl⟩) | (go_at_call 30; refine (check_c _ _ _ _ _ (K _)).mono ?_; rintro e w' ⟨rfl, hb⟩; have KK := Box4.new hb; clear hb; obtain ⟨⟨hz, c0, c1, c2, c3⟩, hw⟩ := KK))
      go_ret
      exact ⟨⟨_, rfl⟩, by assumption⟩
    have n2 : ¬ N * W = M := fun e => by unfold ichk at hk; rw [hc, show decide (1 ≤ W ∧ W ≤ 64 ∧ 0 ≤ N ∧ N * W = M) = true by simp; omega] at hk; cases hk
    have n3 : (N * W != M) = true := by simpa using n2
    have b1 : 0 ≤ N * W := Int.mul_nonneg n0' (by omega)
    have b2 : N * W ≤ 1048576 * 64 := Int.mul_le_mul (by omega) a2 (by omega) (by omega)
    clear hk n0 n2
    go_enter Tryd.func76, Tryd.ntmps76
    go_wp2_with (first | (go_at_call 78; refine (wide_ok _ ?_ ?_ _).mono ?_; exact a1; exact a2; rintro e w' ⟨rfl, rfl⟩) | (go_at_call 30; refine (check_c _ _ _ _ _ (K _)).mono ?_; rintro e w' ⟨rfl, hb⟩; have KK := Box4.new hb; clear hb; obtain ⟨⟨hz, c0, c1, c2, c3⟩, hw⟩ := KK))
    go_ret
    exact ⟨⟨_, rfl⟩, by assumption⟩

theorem icheck_c (N W M : Int) (ao : Option Addr) (xs : List Nat) (cap : Nat) (w : World) (hx : Wd w ao xs) :
    Calls Tryd.prog 61 #[.agg #[.int .i64 N, .int .i64 W, .int .i64 M, .slice ao xs.length cap]] w fun e w' => e = .returned (.bool (ichk N W M xs)) ∧ Below w.heap.size w w' := by
  have K : ∀ o, Wd (w.alloc o) ao xs := fun o => hx.keep (below_alloc w o)
  cases hk : ichk N W M xs with
  | true =>
    go_enter Tryd.func61, Tryd.ntmps61
    go_wp2_with (go_at_call 76; refine (mayBe_ok _ _ _ _ _ _ _ (K _) hk).mono ?_; rintro e w' ⟨rfl, hb⟩; have KK := Box4.new hb; clear hb; obtain ⟨⟨hz, c0, c1, c2, c3⟩, hw⟩ := KK)
    go_ret
    exact ⟨rfl, by assumption⟩
  | false =>
    go_enter Tryd.func61, Tryd.ntmps61
    go_wp2_with (go_at_call 76; refine (mayBe_bad _ _ _ _ _ _ _ (K _) hk).mono ?_; rintro e w' ⟨⟨s, rfl⟩, hb⟩; have KK := Box4.new hb; clear hb; obtain ⟨⟨hz, c0, c1, c2, c3⟩, hw⟩ := KK)
    go_ret
    exact ⟨rfl, by assumption⟩

end Go.Proofs.YtjkihmjbhiiknaaDoor
