/-
  The contracts of the document's answers on rows of numbers that only read: Check, fits, Width, Get.
-/
import Derived.Test.YtjilehaokignoaaDoorErr
import Derived.Test.YtjilehaokignoaaDoorRefSlice
namespace Go.Proofs.YtjilehaokignoaaDoor
open Go.RowKit Num Bit
set_option maxRecDepth 100000
set_option linter.unusedVariables false

theorem reffits_c (v W : Int) (h0 : 0 ≤ v) (h1 : v < 18446744073709551616) (w : World) :
    Calls Tryd.prog 35 #[.int .u64 v, .int .i64 W] w fun e w' => e = .returned (.bool (decide (lenI v ≤ W))) ∧ w' = w := by
  go_enter Tryd.func35, Tryd.ntmps35
  go_wp2_with (go_at_call 47; refine (reflen_c _ ?_ ?_ _).mono ?_; exact h0; exact h1; rintro e w' ⟨rfl, rfl⟩)
  go_ret
  exact ⟨rfl, rfl⟩

set_option maxHeartbeats 1000000 in
theorem refwidth_c (al : Option Addr) (l : List Nat) (cap : Nat) (w : World) (hx : Wd w al l) (hf : Fit l) (hcap : l.length ≤ 1048576) :
    Calls Tryd.prog 37 #[.slice al l.length cap] w fun e w' => e = .returned (.int .i64 (wm l l.length)) ∧ w' = w := by
  go_enter Tryd.func37, Tryd.ntmps37
  go_wp2
  go_loop [3, 4] (fun m i => ∃ k : Nat, k ≤ l.length ∧ i = .int .i64 k ∧ m = .int .i64 (wm l k)) (fun _ i => l.length - (intOf i).toNat)
  case atStart => exact ⟨0, by omega, rfl, rfl⟩
  case round =>
    obtain ⟨k, hk, rfl, rfl⟩ := hrel
    by_cases hlt : k < l.length
    · obtain ⟨b, off, rfl, hb, hc⟩ := hx (by omega)
      have e1 := hc k hlt
      have hlt3 : (k : Int) < (l.length : Int) := by omega
      have F1 : Hid ((gt l k : Int) < 18446744073709551616) := by unfold Hid; have := hf k; omega
      have ME : Hid ((if ((wm l k : Nat) : Int) < lenI (gt l k) then lenI (gt l k) else ((wm l k : Nat) : Int)) = ((wm l (k + 1) : Nat) : Int)) := by
        unfold Hid lenI; simp only [wm, Int.toNat_natCast]; split <;> omega
      clear hc
      go_wp2_with (go_at_call 47; refine (reflen_c _ ?_ ?_ _).mono ?_; (exact Int.natCast_nonneg _); exact F1.out; rintro e w' ⟨rfl, rfl⟩)
      go_round
      case rel => exact ⟨k + 1, by omega, by go_num, congrArg (Value.int IntKind.i64) ME.out⟩
      case measure => simp only [intOf]; omega
    · have hq2 : k = l.length := by omega
      subst hq2
      go_wp2
      go_ret
      exact ⟨rfl, rfl⟩

theorem irefcheck_c (N W M : Int) (ao : Option Addr) (xs : List Nat) (cap : Nat) (w : World) (hx : Wd w ao xs) (hf : Fit xs) :
    Calls Tryd.prog 20 #[.agg #[.int .i64 N, .int .i64 W, .int .i64 M, .slice ao xs.length cap]] w fun e w' => e = .returned (.bool (ichk N W M xs)) ∧ Below w.heap.size w w' := by
  have K : ∀ o, Wd (w.alloc o) ao xs := fun o => hx.keep (below_alloc w o)
  by_cases a1 : 1 ≤ W
  case neg =>
    have d1 : decide (1 ≤ W) = false := by simpa using a1
    have R : Hid (false = ichk N W M xs) := by unfold Hid ichk; rw [show decide (1 ≤ W ∧ W ≤ 64 ∧ 0 ≤ N ∧ N * W = M) = false by simp; omega]; rfl
    go_enter Tryd.func20, Tryd.ntmps20
    go_wp2
    go_ret
    exact ⟨ret_bool R.out, below_alloc w _⟩
  by_cases a2 : W ≤ 64
  case neg =>
    have d2 : decide (W ≤ 64) = false := by simpa using a2
    have R : Hid (false = ichk N W M xs) := by unfold Hid ichk; rw [show decide (1 ≤ W ∧ W ≤ 64 ∧ 0 ≤ N ∧ N * W = M) = false by simp; omega]; rfl
    go_enter Tryd.func20, Tryd.ntmps20
    go_wp2
    go_ret
    exact ⟨ret_bool R.out, below_alloc w _⟩
  by_cases a3 : 0 ≤ N
  case neg =>
    have d3 : decide (0 ≤ N) = false := by simpa using a3
    have R : Hid (false = ichk N W M xs) := by unfold Hid ichk; rw [show decide (1 ≤ W ∧ W ≤ 64 ∧ 0 ≤ N ∧ N * W = M) = false by simp; omega]; rfl
    go_enter Tryd.func20, Tryd.ntmps20
    go_wp2
    go_ret
    exact ⟨ret_bool R.out, below_alloc w _⟩
  by_cases a4 : N ≤ 1048576
  case neg =>
    have d4 : decide (N ≤ 1048576) = false := by simpa using a4
    have R : Hid (false = ichk N W M xs) := by
      unfold Hid
      cases h : ichk N W M xs with
      | false => rfl
      | true => obtain ⟨_, _, _, _, _, _, b7, b8⟩ := ichk_out N W M xs h; omega
    go_enter Tryd.func20, Tryd.ntmps20
    go_wp2
    go_ret
    exact ⟨ret_bool R.out, below_alloc w _⟩
  have b1 : 0 ≤ N * W := Int.mul_nonneg a3 (by omega)
  have b2 : N * W ≤ 1048576 * 64 := Int.mul_le_mul a4 a2 (by omega) (by omega)
  cases hc : chk M xs with
  | false =>
    have R : Hid (false = ichk N W M xs) := by unfold Hid ichk; rw [hc, Bool.and_false]
    go_enter Tryd.func20, Tryd.ntmps20
    go_wp2_with (go_at_call 38; refine (refcheck_c _ _ _ _ _ (K _) hf).mono ?_; rintro e w' ⟨rfl, hb⟩; have KK := Box4.new hb; clear hb; obtain ⟨⟨hz, c0, c1, c2, c3⟩, hw⟩ := KK)
    go_ret
    exact ⟨ret_bool R.out, by assumption⟩
  | true =>
    have R : Hid ((M == N * W) = ichk N W M xs) := by
      unfold Hid ichk
      rw [hc, Bool.and_true, Bool.eq_iff_iff, beq_iff_eq, decide_eq_true_eq]
      omega
    go_enter Tryd.func20, Tryd.ntmps20
    go_wp2_with (go_at_call 38; refine (refcheck_c _ _ _ _ _ (K _) hf).mono ?_; rintro e w' ⟨rfl, hb⟩; have KK := Box4.new hb; clear hb; obtain ⟨⟨hz, c0, c1, c2, c3⟩, hw⟩ := KK)
    go_ret
    exact ⟨ret_bool R.out, by assumption⟩

theorem irefget_c (N W M : Int) (ao : Option Addr) (xs : List Nat) (cap : Nat) (i : Int) (w : World) (hx : Wd w ao xs) (hf : Fit xs) :
    Calls Tryd.prog 14 #[.agg #[.int .i64 N, .int .i64 W, .int .i64 M, .slice ao xs.length cap], .int .i64 i] w fun e w' => e = .returned (.tuple #[.int .u64 (igX N W M xs i), .int .i64 (igE N W M xs i)]) ∧ Below w.heap.size w w' := by
  have K : ∀ o, Wd (w.alloc o) ao xs := fun o => hx.keep (below_alloc w o)
  by_cases hE : igE N W M xs i = 0
  · obtain ⟨hk, i0, i1⟩ := igE_zero N W M xs i hE
    obtain ⟨a1, a2, a3, a4, a5, a6, a7, a8⟩ := ichk_out N W M xs hk
    obtain ⟨q1, q2, q3, q4⟩ := get_place N W M i a1 a2 a3 a4 a7 i0 i1
    have R : Hid (slcX M xs (i * W) W = igX N W M xs i ∧ slcE M xs (i * W) W = igE N W M xs i) := get_slice N W M xs i hk i0 i1
    clear a4 q3 hE
    go_enter Tryd.func14, Tryd.ntmps14
    go_wp2_with fail
    refine (irefcheck_c _ _ _ _ _ _ _ (K _) hf).mono ?_
    rintro e w1 ⟨rfl, hb⟩
    have KK := Box4.new hb
    clear hb K
    obtain ⟨⟨hz, c0, c1, c2, c3⟩, hw⟩ := KK
    go_wp2_with fail
    refine (refslice_c _ _ _ _ _ _ _ (hx.keep hw) hf (by omega) (by omega) (by omega) (by omega)).mono ?_
    rintro e w2 ⟨rfl, hb⟩
    have hw2 := hw.trans (hb.mono hw.size)
    clear hb
    go_wp2
    go_ret2
    exact ⟨ret_pair (congrArg (Value.int IntKind.u64) (congrArg Int.ofNat R.out.1)) (congrArg (Value.int IntKind.i64) R.out.2), hw2⟩
  · have R : Hid (0 = ((igX N W M xs i : Nat) : Int)) := by unfold igX Hid; rw [if_neg hE]; rfl
    cases hk : ichk N W M xs with
    | false =>
      have RE : Hid (2 = igE N W M xs i) := by unfold igE Hid; rw [if_pos hk]
      clear hE
      go_enter Tryd.func14, Tryd.ntmps14
      go_wp2_with (go_at_call 20; refine (irefcheck_c _ _ _ _ _ _ _ (K _) hf).mono ?_; rintro e w' ⟨rfl, hb⟩; have KK := Box4.new hb; clear hb; obtain ⟨⟨hz, c0, c1, c2, c3⟩, hw⟩ := KK)
      go_ret2
      exact ⟨ret_pair (congrArg (Value.int IntKind.u64) R.out) (congrArg (Value.int IntKind.i64) RE.out), by assumption⟩
    | true =>
      have hc : i < 0 ∨ N ≤ i := by
        unfold igE at hE
        rw [if_neg (by simp [hk])] at hE
        by_cases h : i < 0 ∨ N ≤ i
        · exact h
        · rw [if_neg h] at hE; exact absurd rfl hE
      have RE : Hid (3 = igE N W M xs i) := by unfold igE Hid; rw [if_neg (by simp [hk]), if_pos hc]
      clear hE
      by_cases i0 : i < 0
      · clear hc
        go_enter Tryd.func14, Tryd.ntmps14
        go_wp2_with (go_at_call 20; refine (irefcheck_c _ _ _ _ _ _ _ (K _) hf).mono ?_; rintro e w' ⟨rfl, hb⟩; have KK := Box4.new hb; clear hb; obtain ⟨⟨hz, c0, c1, c2, c3⟩, hw⟩ := KK)
        go_ret2
        exact ⟨ret_pair (congrArg (Value.int IntKind.u64) R.out) (congrArg (Value.int IntKind.i64) RE.out), by assumption⟩
      · have i1 : N ≤ i := by omega
        clear hc
        go_enter Tryd.func14, Tryd.ntmps14
        go_wp2_with (go_at_call 20; refine (irefcheck_c _ _ _ _ _ _ _ (K _) hf).mono ?_; rintro e w' ⟨rfl, hb⟩; have KK := Box4.new hb; clear hb; obtain ⟨⟨hz, c0, c1, c2, c3⟩, hw⟩ := KK)
        go_ret2
        exact ⟨ret_pair (congrArg (Value.int IntKind.u64) R.out) (congrArg (Value.int IntKind.i64) RE.out), by assumption⟩
end Go.Proofs.YtjilehaokignoaaDoor
