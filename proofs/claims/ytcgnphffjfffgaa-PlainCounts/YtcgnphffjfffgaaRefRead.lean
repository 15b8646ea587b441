/-
  The contracts of the document's answers that only read: Words, Check, At, Get.
-/
import Derived.Test.YtcgnphffjfffgaaGet
import Derived.Deep.RegionHeld3
namespace Go.Proofs.Ytcgnphffjfffgaa
open Go.RowKit Num Bit

theorem refwords_c (n : Int) (h0 : 0 ≤ n) (h1 : n ≤ 2097152) (w : World) :
    Calls Try.prog 26 #[.int .i64 n] w fun e w' => e = .returned (.int .i64 ((n + 63) / 64)) ∧ w' = w := by
  go_enter Try.func26, Try.ntmps26
  go_wp2
  go_ret
  exact ⟨rfl, rfl⟩

theorem andnot_mask (x k : Nat) (hx : x < 18446744073709551616) (hk : k ≤ 64) : (bits .andNot .u64 (x : Int) (maskI k) == 0) = decide (x < 2 ^ k) := by
  unfold maskI
  rw [show min (k : Int).toNat 64 = k by omega]
  have hp := Nat.pow_le_pow_right (n := 2) (j := 64) (by decide) hk
  rw [show (2 : Nat) ^ 64 = 18446744073709551616 from rfl] at hp
  have hq := Nat.two_pow_pos k
  rw [u64_andNot_nat _ _ hx (by omega), Bool.eq_iff_iff, beq_iff_eq, decide_eq_true_eq]
  have e : 18446744073709551615 - (2 ^ k - 1) = 18446744073709551616 - 2 ^ k := by omega
  rw [e]
  have tb : ∀ i, (x &&& (18446744073709551616 - 2 ^ k)).testBit i = (x.testBit i && decide (k ≤ i)) := by
    intro i
    rw [Nat.testBit_and]
    by_cases hi : i < 64
    · congr 1
      have h := Nat.testBit_two_pow_sub_succ (n := 64) (x := 2 ^ k - 1) (by rw [show (2 : Nat) ^ 64 = 18446744073709551616 from rfl]; omega) i
      rw [show 2 ^ k - 1 + 1 = 2 ^ k by omega, show (2 : Nat) ^ 64 = 18446744073709551616 from rfl] at h
      rw [h, Nat.testBit_two_pow_sub_one]
      by_cases c : i < k
      · simp [c, show ¬ k ≤ i by omega]
      · simp [hi, c, show k ≤ i by omega]
    · rw [test_big x i hx (by omega)]; simp
  constructor
  · intro h
    have h0 : x &&& (18446744073709551616 - 2 ^ k) = 0 := by omega
    refine Nat.lt_pow_two_of_testBit _ fun i hi => ?_
    have h1 := tb i
    rw [h0, Nat.zero_testBit] at h1
    simpa [hi] using h1.symm
  · intro h
    have h0 : x &&& (18446744073709551616 - 2 ^ k) = 0 := by
      refine Nat.eq_of_testBit_eq fun i => ?_
      rw [tb i, Nat.zero_testBit]
      by_cases c : k ≤ i
      · rw [Nat.testBit_lt_two_pow (Nat.lt_of_lt_of_le h (Nat.pow_le_pow_right (by decide) c))]; rfl
      · simp [c]
    rw [h0]; rfl

theorem refchk_end (N : Int) (xs : List Nat) (hf : Fit xs) (h1 : 0 ≤ N) (h2 : N ≤ 1048576) (h3 : (xs.length : Int) = (N + 63) / 64) (h4 : ¬ N % 64 = 0) :
    (bits .andNot .u64 (gt xs (xs.length - 1) : Int) (maskI (N % 64)) == 0) = chk N xs := by
  have e : N % 64 = (((N % 64).toNat : Nat) : Int) := by omega
  rw [e, andnot_mask _ _ (hf _) (by omega)]
  unfold chk
  rw [decide_eq_decide]
  constructor
  · intro h; exact ⟨h1, h2, h3, .inr (by simpa using h)⟩
  · rintro ⟨_, _, _, h | h⟩
    · exact absurd h h4
    · simpa using h

theorem refcheck_c (N : Int) (ao : Option Addr) (xs : List Nat) (cap : Nat) (w : World) (hx : Wd w ao xs) (hf : Fit xs) :
    Calls Try.prog 7 #[.agg #[.int .i64 N, .slice ao xs.length cap]] w fun e w' => e = .returned (.bool (chk N xs)) ∧ Below w.heap.size w w' := by
  by_cases h1 : N < 0
  · have hd : decide (N < 0) = true := by simpa using h1
    have r : false = chk N xs := by unfold chk; rw [eq_comm, decide_eq_false_iff_not]; omega
    have R : Hid (false = chk N xs) := r
    clear r hx
    go_enter Try.func7, Try.ntmps7
    go_wp2
    go_quiet (fail)
    go_wp2
    go_ret
    exact ⟨ret_bool R.out, below_drewN ((Below.refl _ _).alloc (Nat.le_refl _) _) _⟩
  have hd : decide (N < 0) = false := by simpa using h1
  by_cases h2 : N > 1048576
  · have hd2 : decide (1048576 < N) = true := by simpa using h2
    have r : false = chk N xs := by unfold chk; rw [eq_comm, decide_eq_false_iff_not]; omega
    have R : Hid (false = chk N xs) := r
    clear r hx
    go_enter Try.func7, Try.ntmps7
    go_wp2
    go_quiet (fail)
    go_wp2
    go_ret
    exact ⟨ret_bool R.out, below_drewN ((Below.refl _ _).alloc (Nat.le_refl _) _) _⟩
  have hd2 : decide (1048576 < N) = false := by simpa using h2
  by_cases h3 : (xs.length : Int) = (N + 63) / 64
  · have h3' : ((xs.length : Int) != (N + 63) / 64) = false := by simpa using h3
    by_cases h4 : N % 64 = 0
    · have h4' : (N % 64 == 0) = true := by simpa using h4
      have h4'' : N.tmod 64 = 0 := by rw [Int.tmod_eq_emod_of_nonneg (by omega)]; exact h4
      have r : true = chk N xs := by unfold chk; rw [eq_comm, decide_eq_true_eq]; omega
      have R : Hid (true = chk N xs) := r
      clear r hx h3 h4
      go_enter Try.func7, Try.ntmps7
      go_wp2
      go_quiet ((go_at_call 26; exact Calls.quiet_of_same (refwords_c _ (by omega) (by omega) _)))
      go_wp2
      go_quiet (fail)
      go_wp2
      go_ret
      exact ⟨ret_bool R.out, below_drewN (below_drewN ((Below.refl _ _).alloc (Nat.le_refl _) _) _) _⟩
    · have h4' : (N % 64 == 0) = false := by simpa using h4
      have hl : 1 ≤ xs.length := by omega
      have hl2 : xs.length ≤ 16384 := by omega
      have hl3 : (1 : Int) ≤ (xs.length : Int) := by omega
      obtain ⟨b, off, rfl, hb, hc⟩ := hx hl
      have R : Hid ((bits .andNot .u64 (gt xs (xs.length - 1) : Int) (maskI (N % 64)) == 0) = chk N xs) := refchk_end N xs hf (by omega) (by omega) h3 h4
      have hc1 := hc (xs.length - 1) (by omega)
      have ht : N.tmod 64 = N % 64 := Int.tmod_eq_emod_of_nonneg (by omega)
      have hs : IntKind.i64.wrap ((xs.length : Int) - 1) = (xs.length : Int) - 1 := wraps_i64 _ (by omega) (by omega)
      have hn : ((xs.length : Int) - 1).toNat = xs.length - 1 := by omega
      have HM : Hid (∀ w0 : World, Calls Try.prog 27 #[.int .i64 (N % 64)] w0 fun e w' => e = .returned (.int .u64 (maskI (N % 64))) ∧ w' = w0) := fun w0 => refmask_c (N % 64) (by omega) (by omega) w0
      have hix : (xs.length : Int) - 1 < (xs.length : Int) := by omega
      have hix0 : (0 : Int) ≤ (xs.length : Int) - 1 := by omega
      clear hx h3 h4 hc
      go_enter Try.func7, Try.ntmps7
      go_wp2
      go_quiet ((go_at_call 26; exact Calls.quiet_of_same (refwords_c _ (by omega) (by omega) _)))
      go_wp2
      go_region_held3 (fun w' => w'.cell? ⟨w.heap.size, 0, none⟩ = some (.int .i64 N) ∧ w'.cell? ⟨w.heap.size, 1, none⟩ = some (.slice (some ⟨b, off, none⟩) xs.length cap) ∧ w'.cell? ⟨b, off + (xs.length - 1), none⟩ = some (.int .u64 (gt xs (xs.length - 1)))) (go_keep) (first | (go_at_call 27; refine (HM.out _).mono ?_; rintro e w2 ⟨rfl, rfl⟩))
      go_wp2
      go_ret
      exact ⟨ret_bool R.out, below_drewN ((Below.refl _ _).alloc (Nat.le_refl _) _) _⟩
  · have h3' : ((xs.length : Int) != (N + 63) / 64) = true := by simpa using h3
    have r : false = chk N xs := by unfold chk; rw [eq_comm, decide_eq_false_iff_not]; omega
    have R : Hid (false = chk N xs) := r
    clear r hx
    go_enter Try.func7, Try.ntmps7
    go_wp2
    go_quiet ((go_at_call 26; exact Calls.quiet_of_same (refwords_c _ (by omega) (by omega) _)))
    go_wp2
    go_ret
    exact ⟨ret_bool R.out, below_drewN ((Below.refl _ _).alloc (Nat.le_refl _) _) _⟩

theorem at_end (xs : List Nat) (i : Nat) : (((gt xs (i / 64) : Int) / 2 ^ (i % 64)).tmod 2 == 1) = bitAt xs i := by
  rw [bit_tmod _ _ (Int.natCast_nonneg _)]
  unfold bitAt
  rw [bit_test, Int.toNat_natCast, Bool.eq_iff_iff, beq_iff_eq, decide_eq_true_eq]
  omega

theorem at_c (N : Int) (ao : Option Addr) (xs : List Nat) (cap : Nat) (i : Nat) (w : World) (hx : Wd w ao xs) (hi : i / 64 < xs.length) (hi2 : i ≤ 1048576) :
    Calls Try.prog 40 #[.agg #[.int .i64 N, .slice ao xs.length cap], .int .i64 i] w fun e w' => e = .returned (.bool (bitAt xs i)) ∧ Below w.heap.size w w' := by
  obtain ⟨b, off, rfl, hb, hc⟩ := hx (by omega)
  have hl : (i : Int) / 64 < (xs.length : Int) := by omega
  have hcj := hc (i / 64) hi
  have R : Hid ((((gt xs (i / 64) : Int) / 2 ^ (i % 64)).tmod 2 == 1) = bitAt xs i) := at_end xs i
  clear hx hc
  go_enter Try.func40, Try.ntmps40
  go_wp2
  go_ret
  exact ⟨ret_bool R.out, below_alloc w _⟩

theorem refget_c (N : Int) (ao : Option Addr) (xs : List Nat) (cap : Nat) (i : Int) (w : World) (hx : Wd w ao xs) (hf : Fit xs) :
    Calls Try.prog 38 #[.agg #[.int .i64 N, .slice ao xs.length cap], .int .i64 i] w fun e w' => e = .returned (.tuple #[.bool (getB N xs i), .int .i64 (getE N xs i)]) ∧ Below w.heap.size w w' := by
  have K : ∀ o, Wd (w.alloc o) ao xs := fun o => hx.keep (below_alloc w o)
  cases hk : chk N xs with
  | false =>
    have R : Hid (2 = getE N xs i) := by unfold getE; rw [if_pos hk]; rfl
    have RB : Hid (false = getB N xs i) := by unfold getB; rw [hk]; simp [Hid]
    go_enter Try.func38, Try.ntmps38
    go_wp2_with (go_at_call 7; refine (refcheck_c _ _ _ _ _ (K _) hf).mono ?_; rintro e w' ⟨rfl, hb⟩; obtain ⟨c0, c1, hz, hw⟩ := box_cells hb; clear hb)
    go_ret2
    exact ⟨ret_pair (congrArg Value.bool RB.out) (congrArg (Value.int IntKind.i64) R.out), by assumption⟩
  | true =>
    by_cases h1 : i < 0 ∨ N ≤ i
    · have R : Hid (3 = getE N xs i) := by unfold getE; rw [if_neg (by simp [hk]), if_pos h1]; rfl
      have RB : Hid (false = getB N xs i) := by unfold getB; rw [show decide (0 ≤ i ∧ i < N) = false by simp; omega]; simp [Hid]
      by_cases h2 : i < 0
      · clear h1
        go_enter Try.func38, Try.ntmps38
        go_wp2_with (go_at_call 7; refine (refcheck_c _ _ _ _ _ (K _) hf).mono ?_; rintro e w' ⟨rfl, hb⟩; obtain ⟨c0, c1, hz, hw⟩ := box_cells hb; clear hb)
        go_ret2
        exact ⟨ret_pair (congrArg Value.bool RB.out) (congrArg (Value.int IntKind.i64) R.out), by assumption⟩
      · have h3 : N ≤ i := by omega
        clear h1
        go_enter Try.func38, Try.ntmps38
        go_wp2_with (go_at_call 7; refine (refcheck_c _ _ _ _ _ (K _) hf).mono ?_; rintro e w' ⟨rfl, hb⟩; obtain ⟨c0, c1, hz, hw⟩ := box_cells hb; clear hb)
        go_ret2
        exact ⟨ret_pair (congrArg Value.bool RB.out) (congrArg (Value.int IntKind.i64) R.out), by assumption⟩
    · obtain ⟨n, rfl⟩ := Int.eq_ofNat_of_zero_le (show 0 ≤ i by omega)
      obtain ⟨hc0, hc1, hc2, _⟩ := chk_out N xs hk
      have R : Hid (0 = getE N xs n) := by unfold getE; rw [if_neg (by simp [hk]), if_neg h1]; rfl
      have RB : Hid (bitAt xs n = getB N xs n) := by unfold getB; rw [hk, show decide (0 ≤ (n : Int) ∧ (n : Int) < N) = true by simp; omega]; simp [Hid]
      have h2 : (n : Int) < N := by omega
      have H1 : Hid (n / 64 < xs.length) := by unfold Hid; omega
      have H2 : Hid (n ≤ 1048576) := by unfold Hid; omega
      clear h1 hc2
      go_enter Try.func38, Try.ntmps38
      go_wp2_with fail
      refine (refcheck_c _ _ _ _ _ (K _) hf).mono ?_
      rintro e w1 ⟨rfl, hb⟩
      have KK := box_cells hb
      clear hb
      obtain ⟨c0, c1, hz, hw⟩ := KK
      go_wp2_with fail
      refine (at_c _ _ _ _ _ _ (hx.keep hw) H1.out H2.out).mono ?_
      rintro e w2 ⟨rfl, hb⟩
      have hw2 := hw.trans (hb.mono hw.size)
      clear hb
      go_wp2
      go_ret2
      exact ⟨ret_pair (congrArg Value.bool RB.out) (congrArg (Value.int IntKind.i64) R.out), hw2⟩
end Go.Proofs.Ytcgnphffjfffgaa
