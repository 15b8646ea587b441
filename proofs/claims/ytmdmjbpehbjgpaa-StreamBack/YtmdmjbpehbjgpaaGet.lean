/-
  The contracts of Get and Slice.
-/
import Derived.Test.YtmdmjbpehbjgpaaRead
import Derived.Test.YtmdmjbpehbjgpaaBit2
namespace Go.Proofs.Ytmdmjbpehbjgpaa
open Go.RowKit Num Bit

theorem get_end (xs : List Nat) (hg : Fit xs) (i : Nat) (j k : Nat) (hj : j = i / 64) (hk : k = i % 64) : (bits BinOp.and IntKind.u64 ((gt xs j : Int) / 2 ^ k) 1 == 1) = bitAt xs i := by
  subst hj hk
  have h := hg (i / 64)
  rw [bit_and _ _ (by omega) (by omega)]
  unfold bitAt
  rw [bit_test, Int.toNat_natCast, Bool.eq_iff_iff, beq_iff_eq, decide_eq_true_eq]
  omega

theorem get_c (N : Int) (ao : Option Addr) (xs : List Nat) (cap : Nat) (i : Int) (w : World) (hx : Wd w ao xs) (hg : Fit xs) :
    Calls Try.prog 25 #[.agg #[.int .i64 N, .slice ao xs.length cap], .int .i64 i] w fun e w' => e = .returned (.tuple #[.bool (getB N xs i), .int .i64 (getE N xs i)]) ∧ Below w.heap.size w w' := by
  have K : ∀ o, Wd (w.alloc o) ao xs := fun o => hx.keep (below_alloc w o)
  by_cases hE : getE N xs i = 0
  · have hk : chk N xs = true := by unfold getE at hE; cases h : chk N xs with | true => rfl | false => simp [h] at hE
    have hi : 0 ≤ i ∧ i < N := by
      unfold getE at hE; rw [if_neg (by simp [hk])] at hE
      by_cases h : i < 0 ∨ N ≤ i
      · rw [if_pos h] at hE; omega
      · omega
    obtain ⟨hc0, hc1, hc2, _⟩ := chk_out N xs hk
    obtain ⟨n, rfl⟩ := Int.eq_ofNat_of_zero_le hi.1
    obtain ⟨b, off, rfl, hb, hc⟩ := hx (by omega)
    have hE' : (getE N xs n == 0) = true := by simpa using hE
    have hB : Hid (bitAt xs n = getB N xs n) := by unfold getB; rw [hk, show decide (0 ≤ (n : Int) ∧ (n : Int) < N) = true by simpa using hi.2]; simp [Hid]
    have hcj := hc (n / 64) (by omega)
    clear hx hk hc
    obtain ⟨h0, h1⟩ := hi
    have hl : (n : Int) / 64 < (xs.length : Int) := by omega
    clear hc2 
    go_enter Try.func25, Try.ntmps25
    go_wp2_with (go_at_call 38; refine (place_c _ _ _ _ _ _ (K _)).mono ?_; rintro e w' ⟨rfl, hb⟩; obtain ⟨c0, c1, hz, hw⟩ := box_cells hb; have hcw := (hw.cell (p := ⟨_, off + n / 64, none⟩) (by assumption)).trans hcj; clear hb)
    go_ret2
    exact ⟨ret_pair (congrArg Value.bool ((get_end xs hg n _ _ rfl rfl).trans hB.out)) (congrArg (Value.int IntKind.i64) hE.symm), by assumption⟩
  · have hE' : (getE N xs i == 0) = false := by simpa using hE
    have hB : Hid (false = getB N xs i) := by
      unfold getB getE at *
      cases h : chk N xs with
      | false => simp [Hid]
      | true =>
        simp only [h] at hE
        by_cases h2 : i < 0 ∨ N ≤ i
        · have : decide (0 ≤ i ∧ i < N) = false := by simp; omega
          rw [this]; simp [Hid]
        · simp [h2] at hE
    clear hE
    go_enter Try.func25, Try.ntmps25
    go_wp2_with (go_at_call 38; refine (place_c _ _ _ _ _ _ (K _)).mono ?_; rintro e w' ⟨rfl, hb⟩; obtain ⟨c0, c1, hz, hw⟩ := box_cells hb; clear hb)
    go_ret2
    exact ⟨ret_pair (congrArg Value.bool hB.out) rfl, by assumption⟩

theorem slice_c (N : Int) (ao : Option Addr) (xs : List Nat) (cap : Nat) (i n : Int) (w : World) (hx : Wd w ao xs) (hg : Fit xs) (_hi : -9223372036854775808 ≤ i) (_hi2 : i ≤ 9223372036854775807) (_hn : -9223372036854775808 ≤ n) (_hn2 : n ≤ 9223372036854775807) :
    Calls Try.prog 39 #[.agg #[.int .i64 N, .slice ao xs.length cap], .int .i64 i, .int .i64 n] w fun e w' => e = .returned (.tuple #[.int .u64 (slcX N xs i n), .int .i64 (slcE N xs i n)]) ∧ Below w.heap.size w w' := by
  have K : ∀ o, Wd (w.alloc o) ao xs := fun o => hx.keep (below_alloc w o)
  by_cases hE : slcE N xs i n = 0
  · have hk : chk N xs = true := by unfold slcE at hE; cases h : chk N xs with | true => rfl | false => simp [h] at hE
    have hi : 0 ≤ n ∧ n ≤ 64 ∧ 0 ≤ i ∧ i ≤ N - n := by
      unfold slcE at hE
      by_cases h : chk N xs = false ∨ n < 0 ∨ 64 < n
      · rw [if_pos h] at hE; omega
      · rw [if_neg h] at hE
        by_cases h2 : i < 0 ∨ N - n < i
        · rw [if_pos h2] at hE; omega
        · simp [hk] at h; omega
    obtain ⟨hc0, hc1, hc2, _⟩ := chk_out N xs hk
    obtain ⟨hn0, hn1, hi0, hi1⟩ := hi
    by_cases hz : n = 0
    · subst hz
      have R : Hid (0 = ((slcX N xs i 0 : Nat) : Int)) := by unfold slcX Hid; rw [if_pos hE]; rfl
      have RE : Hid (0 = slcE N xs i 0) := hE.symm
      clear hE hx hc2
      go_enter Try.func39, Try.ntmps39
      go_wp2_with (go_at_call 37; refine (check_c _ _ _ _ _ (K _)).mono ?_; rintro e w' ⟨rfl, hb⟩; obtain ⟨c0, c1, hz, hw⟩ := box_cells hb; clear hb)
      go_ret2
      exact ⟨ret_pair (congrArg (Value.int IntKind.u64) R.out) (congrArg (Value.int IntKind.i64) RE.out), by assumption⟩
    · obtain ⟨m, rfl⟩ := Int.eq_ofNat_of_zero_le hi0
      obtain ⟨b, off, rfl, hb, hc⟩ := hx (by omega)
      have hz' : (n == 0) = false := by simpa using hz
      have hcj := hc (m / 64) (by omega)
      have RE : Hid (0 = slcE N xs m n) := hE.symm
      by_cases hl : m / 64 + 1 < xs.length
      · have hcj2 := hc (m / 64 + 1) hl
        have hl1 : (m : Int) / 64 < (xs.length : Int) := by omega
        have hl2 : (m : Int) / 64 + 1 < (xs.length : Int) := by omega
        have hl3 : xs.length ≤ 16384 := by omega
        clear hE hx hc2 hc hz
        go_enter Try.func39, Try.ntmps39
        go_wp2_with (first | (go_at_call 37; refine (check_c _ _ _ _ _ (K _)).mono ?_; rintro e w' ⟨rfl, hb⟩; obtain ⟨c0, c1, hz, hw⟩ := box_cells hb; have hcw := (hw.cell (p := ⟨_, off + m / 64, none⟩) (by assumption)).trans hcj; have hcw2 := (hw.cell (p := ⟨_, off + (m / 64 + 1), none⟩) (by assumption)).trans hcj2; clear hb) | (go_at_call 51; refine (mask_c _ _).mono ?_; rintro e w' ⟨rfl, rfl⟩))
        go_ret2
        refine ⟨ret_pair (congrArg (Value.int IntKind.u64) ?_) (congrArg (Value.int IntKind.i64) RE.out), by assumption⟩
        rw [slice_two xs hg m n hn1, slcX, if_pos RE.out.symm, Int.toNat_natCast]
      · have hl2 : ¬ (m : Int) / 64 + 1 < (xs.length : Int) := by omega
        have hl1 : (m : Int) / 64 < (xs.length : Int) := by omega
        have hl3 : xs.length ≤ 16384 := by omega
        clear hE hx hc2 hc hz
        go_enter Try.func39, Try.ntmps39
        go_wp2_with (first | (go_at_call 37; refine (check_c _ _ _ _ _ (K _)).mono ?_; rintro e w' ⟨rfl, hb⟩; obtain ⟨c0, c1, hz, hw⟩ := box_cells hb; have hcw := (hw.cell (p := ⟨_, off + m / 64, none⟩) (by assumption)).trans hcj; clear hb) | (go_at_call 51; refine (mask_c _ _).mono ?_; rintro e w' ⟨rfl, rfl⟩))
        go_ret2
        refine ⟨ret_pair (congrArg (Value.int IntKind.u64) ?_) (congrArg (Value.int IntKind.i64) RE.out), by assumption⟩
        rw [slice_one xs hg m n hn1 (by omega), slcX, if_pos RE.out.symm, Int.toNat_natCast]
  · have R : Hid (0 = ((slcX N xs i n : Nat) : Int)) := by unfold slcX Hid; rw [if_neg hE]; rfl
    cases hk : chk N xs with
    | false =>
      have RE : Hid (2 = slcE N xs i n) := by unfold slcE Hid; rw [if_pos (.inl hk)]
      clear hE
      go_enter Try.func39, Try.ntmps39
      go_wp2_with (go_at_call 37; refine (check_c _ _ _ _ _ (K _)).mono ?_; rintro e w' ⟨rfl, hb⟩; obtain ⟨c0, c1, hz, hw⟩ := box_cells hb; clear hb)
      go_ret2
      exact ⟨ret_pair (congrArg (Value.int IntKind.u64) R.out) (congrArg (Value.int IntKind.i64) RE.out), by assumption⟩
    | true =>
      obtain ⟨hc0, hc1, _, _⟩ := chk_out N xs hk
      by_cases hn : n < 0
      · have RE : Hid (2 = slcE N xs i n) := by unfold slcE Hid; rw [if_pos (.inr (.inl hn))]
        clear hE
        go_enter Try.func39, Try.ntmps39
        go_wp2_with (go_at_call 37; refine (check_c _ _ _ _ _ (K _)).mono ?_; rintro e w' ⟨rfl, hb⟩; obtain ⟨c0, c1, hz, hw⟩ := box_cells hb; clear hb)
        go_ret2
        exact ⟨ret_pair (congrArg (Value.int IntKind.u64) R.out) (congrArg (Value.int IntKind.i64) RE.out), by assumption⟩
      · by_cases hn2 : 64 < n
        · have RE : Hid (2 = slcE N xs i n) := by unfold slcE Hid; rw [if_pos (.inr (.inr hn2))]
          clear hE
          go_enter Try.func39, Try.ntmps39
          go_wp2_with (go_at_call 37; refine (check_c _ _ _ _ _ (K _)).mono ?_; rintro e w' ⟨rfl, hb⟩; obtain ⟨c0, c1, hz, hw⟩ := box_cells hb; clear hb)
          go_ret2
          exact ⟨ret_pair (congrArg (Value.int IntKind.u64) R.out) (congrArg (Value.int IntKind.i64) RE.out), by assumption⟩
        · have hcond : i < 0 ∨ N - n < i := by
            unfold slcE at hE
            rw [if_neg (by simp [hk]; omega)] at hE
            by_cases h2 : i < 0 ∨ N - n < i
            · exact h2
            · rw [if_neg h2] at hE; exact absurd rfl hE
          have RE : Hid (3 = slcE N xs i n) := by unfold slcE Hid; rw [if_neg (by simp [hk]; omega), if_pos hcond]
          clear hE
          by_cases h3 : i < 0
          · go_enter Try.func39, Try.ntmps39
            go_wp2_with (go_at_call 37; refine (check_c _ _ _ _ _ (K _)).mono ?_; rintro e w' ⟨rfl, hb⟩; obtain ⟨c0, c1, hz, hw⟩ := box_cells hb; clear hb)
            go_ret2
            exact ⟨ret_pair (congrArg (Value.int IntKind.u64) R.out) (congrArg (Value.int IntKind.i64) RE.out), by assumption⟩
          · have h4 : N - n < i := by omega
            clear hcond
            go_enter Try.func39, Try.ntmps39
            go_wp2_with (go_at_call 37; refine (check_c _ _ _ _ _ (K _)).mono ?_; rintro e w' ⟨rfl, hb⟩; obtain ⟨c0, c1, hz, hw⟩ := box_cells hb; clear hb)
            go_ret2
            exact ⟨ret_pair (congrArg (Value.int IntKind.u64) R.out) (congrArg (Value.int IntKind.i64) RE.out), by assumption⟩

end Go.Proofs.Ytmdmjbpehbjgpaa
