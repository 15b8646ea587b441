/-
  The contracts of the calls of package bits that only read: Check, Get, Ones, Slice, and small of the law.
-/
import Derived.Test.YtcgnphffjfffgaaMem
import Derived.Deep.QuietTactic
import Derived.BigQuiet
import Derived.Deep.DrawnRows
namespace Go.Proofs.Ytcgnphffjfffgaa
open Go.RowKit Num Bit

theorem need_c (n : Int) (h0 : 0 ≤ n) (h1 : n ≤ 2097152) (w : World) :
    Calls Try.prog 42 #[.int .i64 n] w fun e w' => e = .returned (.int .i64 ((n + 63) / 64)) ∧ w' = w := by
  go_enter Try.func42, Try.ntmps42
  go_wp2
  go_ret
  exact ⟨congrArg (fun a => Ending.returned (Value.int IntKind.i64 (a / 64))) (by omega), rfl⟩

theorem chk_end (N : Int) (xs : List Nat) (h1 : 0 ≤ N) (h2 : N ≤ 1048576) (h3 : (xs.length : Int) = (N + 63) / 64) (h4 : ¬ N % 64 = 0) (j : Nat) (hj : j = xs.length - 1) (k : Nat) (hk : k = (N % 64).toNat) :
    ((gt xs j : Int) / 2 ^ k == 0) = chk N xs := by
  subst hj hk
  unfold chk
  rw [Bool.eq_iff_iff, beq_iff_eq, decide_eq_true_eq]
  have e : ((gt xs (xs.length - 1) : Int) / 2 ^ (N % 64).toNat) = ((gt xs (xs.length - 1) / 2 ^ (N % 64).toNat : Nat) : Int) := by
    rw [Int.natCast_ediv, Int.natCast_pow]; rfl
  rw [e]
  have hp : 0 < 2 ^ (N % 64).toNat := Nat.pow_pos (by decide)
  constructor
  · intro h
    refine ⟨h1, h2, h3, .inr ?_⟩
    have : gt xs (xs.length - 1) / 2 ^ (N % 64).toNat = 0 := by omega
    exact (Nat.div_eq_zero_iff_lt hp).1 this
  · rintro ⟨_, _, _, h | h⟩
    · exact absurd h h4
    · rw [Nat.div_eq_of_lt h]; rfl

theorem check_c (N : Int) (ao : Option Addr) (xs : List Nat) (cap : Nat) (w : World) (hx : Wd w ao xs) :
    Calls Try.prog 28 #[.agg #[.int .i64 N, .slice ao xs.length cap]] w fun e w' => e = .returned (.bool (chk N xs)) ∧ Below w.heap.size w w' := by
  by_cases h1 : N < 0
  · have hd : decide (N < 0) = true := by simpa using h1
    have r : false = chk N xs := by unfold chk; rw [eq_comm, decide_eq_false_iff_not]; omega
    have R : Hid (false = chk N xs) := r
    clear r hx
    go_enter Try.func28, Try.ntmps28
    go_wp2
    go_quiet (fail)
    go_wp2
    go_ret
    exact ⟨ret_bool R.out, below_drewN ((Below.refl _ _).alloc (Nat.le_refl _) _) _⟩
  have hd : decide (N < 0) = false := by simpa using h1
  by_cases h2 : N > 1048576
  · have hd2 : decide (1048576 < N) = true := by simpa using h2
    have r : false = chk N xs := by unfold chk; rw [eq_comm, decide_eq_false_iff_not]; omega
    have R : Hid (false = chk N xs) := r
    clear r hx
    go_enter Try.func28, Try.ntmps28
    go_wp2
    go_quiet (fail)
    go_wp2
    go_ret
    exact ⟨ret_bool R.out, below_drewN ((Below.refl _ _).alloc (Nat.le_refl _) _) _⟩
  have hd2 : decide (1048576 < N) = false := by simpa using h2
  by_cases h3 : (xs.length : Int) = (N + 63) / 64
  · have h3' : ((xs.length : Int) != (N + 63) / 64) = false := by simpa using h3
    by_cases h4 : N % 64 = 0
    · have h4' : (N % 64 == 0) = true := by simpa using h4
      have r : true = chk N xs := by unfold chk; rw [eq_comm, decide_eq_true_eq]; omega
      have R : Hid (true = chk N xs) := r
      clear r hx h3 h4
      go_enter Try.func28, Try.ntmps28
      go_wp2
      go_quiet ((go_at_call 42; exact Calls.quiet_of_same (need_c _ (by omega) (by omega) _)))
      go_wp2
      go_ret
      exact ⟨ret_bool R.out, below_drewN ((Below.refl _ _).alloc (Nat.le_refl _) _) _⟩
    · have h4' : (N % 64 == 0) = false := by simpa using h4
      have hl : 1 ≤ xs.length := by omega
      have hl2 : xs.length ≤ 16384 := by omega
      obtain ⟨b, off, rfl, hb, hc⟩ := hx hl
      have R : Hid (((gt xs (xs.length - 1) : Int) / 2 ^ (N % 64).toNat == 0) = chk N xs) := chk_end N xs (by omega) (by omega) h3 h4 _ rfl _ rfl
      have hc1 := hc (xs.length - 1) (by omega)
      clear hx h3 h4 hc
      go_enter Try.func28, Try.ntmps28
      go_wp2
      go_quiet ((go_at_call 42; exact Calls.quiet_of_same (need_c _ (by omega) (by omega) _)))
      go_wp2
      go_ret
      exact ⟨ret_bool R.out, below_drewN ((Below.refl _ _).alloc (Nat.le_refl _) _) _⟩
  · have h3' : ((xs.length : Int) != (N + 63) / 64) = true := by simpa using h3
    have r : false = chk N xs := by unfold chk; rw [eq_comm, decide_eq_false_iff_not]; omega
    have R : Hid (false = chk N xs) := r
    clear r hx
    go_enter Try.func28, Try.ntmps28
    go_wp2
    go_quiet ((go_at_call 42; exact Calls.quiet_of_same (need_c _ (by omega) (by omega) _)))
    go_wp2
    go_ret
    exact ⟨ret_bool R.out, below_drewN ((Below.refl _ _).alloc (Nat.le_refl _) _) _⟩

theorem place_c (N : Int) (ao : Option Addr) (xs : List Nat) (cap : Nat) (i : Int) (w : World) (hx : Wd w ao xs) :
    Calls Try.prog 46 #[.agg #[.int .i64 N, .slice ao xs.length cap], .int .i64 i] w fun e w' => e = .returned (.int .i64 (getE N xs i)) ∧ Below w.heap.size w w' := by
  have K : ∀ o, Wd (w.alloc o) ao xs := fun o => hx.keep (below_alloc w o)
  cases hk : chk N xs with
  | false =>
    have R : Hid (2 = getE N xs i) := by unfold getE; rw [if_pos hk]; rfl
    go_enter Try.func46, Try.ntmps46
    go_wp2_with (go_at_call 28; refine (check_c _ _ _ _ _ (K _)).mono ?_; rintro e w' ⟨rfl, hb⟩; obtain ⟨c0, c1, hz, hw⟩ := box_cells hb; clear hb)
    go_ret
    exact ⟨ret_int R.out, by assumption⟩
  | true =>
    by_cases h1 : i < 0
    · have R : Hid (3 = getE N xs i) := by unfold getE; rw [if_neg (by simp [hk]), if_pos (.inl h1)]; rfl
      go_enter Try.func46, Try.ntmps46
      go_wp2_with (go_at_call 28; refine (check_c _ _ _ _ _ (K _)).mono ?_; rintro e w' ⟨rfl, hb⟩; obtain ⟨c0, c1, hz, hw⟩ := box_cells hb; clear hb)
      go_ret
      exact ⟨ret_int R.out, by assumption⟩
    · by_cases h2 : N ≤ i
      · have R : Hid (3 = getE N xs i) := by unfold getE; rw [if_neg (by simp [hk]), if_pos (.inr h2)]; rfl
        go_enter Try.func46, Try.ntmps46
        go_wp2_with (go_at_call 28; refine (check_c _ _ _ _ _ (K _)).mono ?_; rintro e w' ⟨rfl, hb⟩; obtain ⟨c0, c1, hz, hw⟩ := box_cells hb; clear hb)
        go_ret
        exact ⟨ret_int R.out, by assumption⟩
      · have R : Hid (0 = getE N xs i) := by unfold getE; rw [if_neg (by simp [hk]), if_neg (by omega)]; rfl
        go_enter Try.func46, Try.ntmps46
        go_wp2_with (go_at_call 28; refine (check_c _ _ _ _ _ (K _)).mono ?_; rintro e w' ⟨rfl, hb⟩; obtain ⟨c0, c1, hz, hw⟩ := box_cells hb; clear hb)
        go_ret
        exact ⟨ret_int R.out, by assumption⟩

end Go.Proofs.Ytcgnphffjfffgaa
