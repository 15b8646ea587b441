/-
  The contracts of Choose and Width.
-/
import Derived.Test.YtjbabnnibocdfaaBb
namespace Go.Proofs.Ytjbabnnibocdfaa
open Go.RowKit Num Bn Ow
set_option linter.unusedVariables false
set_option linter.unusedSimpArgs false
set_option maxRecDepth 100000

theorem within_in (n : Int) (h0 : 0 ≤ n) (h1 : n ≤ 62) (w : World) :
    Calls Try.prog 19 #[.int .i64 n] w fun e w' => e = .returned (.bool true) ∧ w' = w := by
  go_enter Try.func19, Try.ntmps19
  go_wp2
  go_ret
  exact ⟨rfl, rfl⟩
theorem within_out (n : Int) (h : n < 0 ∨ 62 < n) (w : World) :
    Calls Try.prog 19 #[.int .i64 n] w fun e w' => e = .returned (.bool false) ∧ w' = w := by
  by_cases h0 : n < 0
  · go_enter Try.func19, Try.ntmps19
    go_wp2
    go_ret
    exact ⟨rfl, rfl⟩
  · have h1 : 62 < n := by omega
    have h2 : 0 ≤ n := by omega
    have h3 : ¬ n ≤ 62 := by omega
    clear h h0
    go_enter Try.func19, Try.ntmps19
    go_wp2
    go_ret
    exact ⟨rfl, rfl⟩

set_option maxHeartbeats 2000000 in
theorem choose_c (n k : Int) (hn : -9223372036854775808 ≤ n ∧ n ≤ 9223372036854775807) (hk : -9223372036854775808 ≤ k ∧ k ≤ 9223372036854775807) (w : World) :
    Calls Try.prog 9 #[.int .i64 n, .int .i64 k] w fun e w' => e = .returned (.int .u64 (chN n k)) ∧ Below w.heap.size w w' := by
  by_cases hw : n < 0 ∨ 62 < n
  · rw [show chN n k = 0 by unfold chN; rw [if_pos (by omega)]]
    have W : Hid (∀ w, Calls Try.prog 19 #[.int .i64 n] w fun e w' => e = .returned (.bool false) ∧ w' = w) := within_out n hw
    clear hw
    go_enter Try.func9, Try.ntmps9
    go_wp2_with fail
    refine (W.out _).mono ?_
    rintro e w1 ⟨rfl, hw1⟩
    rw [hw1]
    clear hw1 w1
    go_wp2
    go_ret
    exact ⟨rfl, Below.refl _ _⟩
  have W : Hid (∀ w, Calls Try.prog 19 #[.int .i64 n] w fun e w' => e = .returned (.bool true) ∧ w' = w) := within_in n (by omega) (by omega)
  by_cases h3 : k < 0
  · rw [show chN n k = 0 by unfold chN; rw [if_pos (by omega)]]
    go_enter Try.func9, Try.ntmps9
    go_wp2_with fail
    refine (W.out _).mono ?_
    rintro e w1 ⟨rfl, hw1⟩
    rw [hw1]
    clear hw1 w1
    go_wp2
    go_ret
    exact ⟨rfl, Below.refl _ _⟩
  by_cases h4 : n < k
  · rw [show chN n k = 0 by unfold chN; rw [if_pos (by omega)]]
    go_enter Try.func9, Try.ntmps9
    go_wp2_with fail
    refine (W.out _).mono ?_
    rintro e w1 ⟨rfl, hw1⟩
    rw [hw1]
    clear hw1 w1
    go_wp2
    go_ret
    exact ⟨rfl, Below.refl _ _⟩
  rw [show chN n k = ch n.toNat k.toNat by unfold chN; rw [if_neg (by omega)]]
  obtain ⟨a, rfl⟩ := Int.eq_ofNat_of_zero_le (show 0 ≤ n by omega)
  obtain ⟨b, rfl⟩ := Int.eq_ofNat_of_zero_le (show 0 ≤ k by omega)
  rw [Int.toNat_natCast, Int.toNat_natCast]
  have ha : a ≤ 62 := by omega
  have hba : b ≤ a := by omega
  have b63 : (b : Int) < 63 := by omega
  have R : Hid (∀ w, Calls Try.prog 20 #[.int .i64 a] w fun e w' => e = .returned (.agg (wv (rowP 62 a)).toArray) ∧ Below w.heap.size w w') := rowOf_c a ha
  clear hw
  go_enter Try.func9, Try.ntmps9
  go_wp2_with fail
  refine (W.out _).mono ?_
  rintro e w1 ⟨rfl, hw1⟩
  rw [hw1]
  clear hw1 w1 W
  go_wp2_with fail
  refine (R.out _).mono ?_
  rintro e w1 ⟨rfl, hb1⟩
  go_wp2_with (refine alloc_row ?_)
  intro w2 hc2 hb2 hs2
  go_wp2_with (refine store_row w1.heap.size _ _ rfl rfl hc2 (by simp) (length_rowP 62 a) ?_)
  intro w3 hc3 hb3
  have HB : Hid (Below w.heap.size w w3) := (hb1.trans (hb2.mono hb1.size)).trans (hb3.mono hb1.size)
  clear hb1 hc2 hb2 hs2 hb3 w2 R
  have e1 := cel_wv hc3 b (by rw [length_rowP]; omega)
  rw [gt_rowP _ _ _ (by omega)] at e1
  obtain ⟨Z, hZ⟩ : ∃ Z, Hid (Z = ch a b) := ⟨_, rfl⟩
  rw [← hZ.out] at e1
  clear hc3
  go_wp2
  go_ret
  rw [← hZ.out]
  exact ⟨rfl, HB.out⟩

set_option maxHeartbeats 2000000 in
theorem width_c (n k : Int) (hn : -9223372036854775808 ≤ n ∧ n ≤ 9223372036854775807) (hk : -9223372036854775808 ≤ k ∧ k ≤ 9223372036854775807) (w : World) :
    Calls Try.prog 11 #[.int .i64 n, .int .i64 k] w fun e w' => e = .returned (.int .i64 (wdN n k)) ∧ Below w.heap.size w w' := by
  have C : Hid (∀ w0, Calls Try.prog 9 #[.int .i64 n, .int .i64 k] w0 fun e w' => e = .returned (.int .u64 (chN n k)) ∧ Below w0.heap.size w0 w') := fun w0 => choose_c n k hn hk w0
  have b := chN_le n k
  unfold wdN
  generalize chN n k = c at *
  by_cases h0 : c = 0
  · subst h0
    rw [if_pos rfl]
    go_enter Try.func11, Try.ntmps11
    go_wp2_with fail
    refine (C.out _).mono ?_
    rintro e w1 ⟨rfl, hb⟩
    go_wp2
    go_ret
    exact ⟨rfl, hb⟩
  · rw [if_neg h0]
    obtain ⟨d, rfl⟩ : ∃ d, c = d + 1 := ⟨c - 1, by omega⟩
    rw [Nat.add_sub_cancel]
    have L : Hid (∀ w0, Calls Try.prog 21 #[.int .u64 d] w0 fun e w' => e = .returned (.int .i64 (Go.bitLen d)) ∧ w' = w0) := fun w0 => by
      have := len_c (d : Int) (by omega) (by omega) w0
      unfold lenI at this
      rw [Int.toNat_natCast] at this
      exact this
    have c1 : (((d + 1 : Nat) : Int) == 0) = false := by simp; omega
    generalize Go.bitLen d = Z at *
    go_enter Try.func11, Try.ntmps11
    go_wp2_with fail
    refine (C.out _).mono ?_
    rintro e w1 ⟨rfl, hb⟩
    have e2 : ((d + 1 : Nat) : Int) = (d : Int) + 1 := by omega
    rw [e2]
    go_wp2_with fail
    refine (L.out _).mono ?_
    rintro e w2 ⟨rfl, h2⟩
    rw [h2]
    clear h2 w2
    go_wp2
    go_ret
    exact ⟨rfl, hb⟩
end Go.Proofs.Ytjbabnnibocdfaa
