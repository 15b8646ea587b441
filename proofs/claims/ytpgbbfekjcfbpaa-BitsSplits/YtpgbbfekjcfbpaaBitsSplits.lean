/-
  For every row of bits, right or not, and all numbers: a slice is two slices side by side (P2.2). No condition.
-/
import Derived.Test.YtpgbbfekjcfbpaaHeads
import Derived.Test.YtpgbbfekjcfbpaaOpen
import Derived.ChangeOld
namespace Go.Proofs.Ytpgbbfekjcfbpaa.bitsSplits
open Go.ChangeShapes Go.WideShapes Go.ChangeAt Go.RowKit Num Bit
set_option linter.unusedVariables false

theorem slcE_ok (N : Int) (xs : List Nat) (hk : chk N xs = true) (a n : Int) (h0 : 0 ≤ a) (h1 : 0 ≤ n) (h2 : n ≤ 64) (h3 : a + n ≤ N) : slcE N xs a n = 0 := by
  unfold slcE; rw [if_neg (by simp [hk]; omega), if_neg (by omega)]
theorem slcE_far (N : Int) (xs : List Nat) (hk : chk N xs = true) (a n : Int) (h1 : 0 ≤ n) (h2 : n ≤ 64) (h3 : N < a + n) : slcE N xs a n = 3 := by
  unfold slcE; rw [if_neg (by simp [hk]; omega), if_pos (by omega)]
theorem numOf_split (p q : Nat) (f : Nat → Bool) (h : p + q ≤ 64) : Bit.numOf (p + q) f = Bit.numOf p f ||| (Bit.numOf q (fun k => f (p + k)) * 2 ^ p % 18446744073709551616) := by
  refine (eq_numOf _ _ _ fun k => ?_).symm
  rw [Nat.testBit_or, testBit_numOf]
  by_cases hk : k < 64
  · rw [test_shl _ _ _ hk, testBit_numOf]
    by_cases c1 : k < p
    · simp [c1, show ¬ p ≤ k by omega, show k < p + q by omega]
    · by_cases c2 : k < p + q
      · simp [c1, c2, show p ≤ k by omega, show k - p < q by omega, show p + (k - p) = k by omega]
      · simp [c1, c2, show ¬ k - p < q by omega]
  · rw [test_big _ _ (Nat.mod_lt _ (by decide)) (by omega)]
    simp [show ¬ k < p by omega, show ¬ k < p + q by omega]
theorem splits_num (N : Int) (xs : List Nat) (a p q : Nat) (h : p + q ≤ 64) (E1 : slcE N xs a ((p : Int) + q) = 0) (E2 : slcE N xs a p = 0) (E3 : slcE N xs ((a : Int) + p) q = 0) :
    ((slcX N xs a ((p : Int) + q) : Int) == bits .or .u64 (slcX N xs a p : Int) (IntKind.u64.wrap ((slcX N xs ((a : Int) + p) q : Int) * 2 ^ p))) = true := by
  have l1 : slcX N xs a p < 18446744073709551616 := by
    unfold slcX; rw [if_pos E2]
    exact Nat.lt_of_lt_of_le (numOf_lt _ _) (Nat.pow_le_pow_right (n := 2) (j := 64) (by decide) (by omega))
  rw [shl_nat, u64_or_nat _ _ l1 (Nat.mod_lt _ (by decide)), beq_iff_eq]
  congr 1
  unfold slcX
  rw [if_pos E1, if_pos E2, if_pos E3, show ((p : Int) + q).toNat = p + q by omega, show ((a : Int) + p).toNat = a + p by omega, Int.toNat_natCast, Int.toNat_natCast, Int.toNat_natCast]
  rw [numOf_split p q _ h]
  congr 3
  exact numOf_congr _ _ _ fun k _ => by rw [Nat.add_assoc]
theorem splits_0 (N : Int) (xs : List Nat) (a : Int) : slcX N xs a 0 = 0 := by
  unfold slcX; split <;> simp [Bit.numOf]

set_option maxHeartbeats 4000000 in
theorem walk (w : World) (Nb : Int) (ab : Option Addr) (xb : List Nat) (cb : Nat) (hbN : -9223372036854775808 ≤ Nb ∧ Nb ≤ 9223372036854775807) (Xb : Wd w ab xb) (Fb : Fit xb) (Cb : xb.length ≤ cb) (i : Int) (hi : -9223372036854775808 ≤ i ∧ i ≤ 9223372036854775807) (n : Int) (hn : -9223372036854775808 ≤ n ∧ n ≤ 9223372036854775807) (m : Int) (hm : -9223372036854775808 ≤ m ∧ m ≤ 9223372036854775807) :
    Calls Try.prog 4 #[.agg #[.int .i64 Nb, .slice ab xb.length cb], .int .i64 i, .int .i64 n, .int .i64 m] w fun e w' => e = .returned (.bool true) ∧ Below w.heap.size w w' := by
  by_cases s1 : Nb ≤ 5000
  case neg =>
    have s1' : decide (Nb ≤ 5000) = false := by simpa using s1
    go_enter Try.func4, Try.ntmps4
    have hw : Below w.heap.size w w := Below.refl _ _
    go_wp2_with fail
    refine (small_c _ _ _ _ _).mono ?_
    rintro e w1 ⟨rfl, hb⟩
    have B0 := Box.new hb
    have hB : Below w.heap.size w w1 := Below.trans (by repeat (first | exact Below.refl _ _ | apply Below.drew | apply below_drewN | refine Below.alloc ?_ (by simp) _)) (hb.mono (by simp))
    clear hb
    replace Xb := Xb.keep hB
    replace hw := hw.trans (hB.mono hw.size)
    clear hB
    have B0l := B0.1
    have B0u := B0.2.1
    have B0v := B0.2.2
    go_wp2_with fail
    refine (heads_c _).mono ?_
    rintro e w2 ⟨rfl, hb⟩
    have hB : Below w1.heap.size w1 w2 := Below.trans (by repeat (first | exact Below.refl _ _ | apply Below.drew | apply below_drewN | refine Below.alloc ?_ (by simp) _)) (hb.mono (by simp))
    clear hb
    clear B0l B0u B0v
    replace B0 := B0.keep hB
    replace Xb := Xb.keep hB
    replace hw := hw.trans (hB.mono hw.size)
    clear hB
    have B0l := B0.1
    have B0u := B0.2.1
    have B0v := B0.2.2
    go_wp2
    go_ret
    exact ⟨rfl, hw⟩
  by_cases s2 : (xb.length : Int) ≤ 5000
  case neg =>
    have s2' : decide ((xb.length : Int) ≤ 5000) = false := by simpa using s2
    go_enter Try.func4, Try.ntmps4
    have hw : Below w.heap.size w w := Below.refl _ _
    go_wp2_with fail
    refine (small_c _ _ _ _ _).mono ?_
    rintro e w1 ⟨rfl, hb⟩
    have B0 := Box.new hb
    have hB : Below w.heap.size w w1 := Below.trans (by repeat (first | exact Below.refl _ _ | apply Below.drew | apply below_drewN | refine Below.alloc ?_ (by simp) _)) (hb.mono (by simp))
    clear hb
    replace Xb := Xb.keep hB
    replace hw := hw.trans (hB.mono hw.size)
    clear hB
    have B0l := B0.1
    have B0u := B0.2.1
    have B0v := B0.2.2
    go_wp2_with fail
    refine (heads_c _).mono ?_
    rintro e w2 ⟨rfl, hb⟩
    have hB : Below w1.heap.size w1 w2 := Below.trans (by repeat (first | exact Below.refl _ _ | apply Below.drew | apply below_drewN | refine Below.alloc ?_ (by simp) _)) (hb.mono (by simp))
    clear hb
    clear B0l B0u B0v
    replace B0 := B0.keep hB
    replace Xb := Xb.keep hB
    replace hw := hw.trans (hB.mono hw.size)
    clear hB
    have B0l := B0.1
    have B0u := B0.2.1
    have B0v := B0.2.2
    go_wp2
    go_ret
    exact ⟨rfl, hw⟩
  have s1' : decide (Nb ≤ 5000) = true := by simpa using s1
  have s2' : decide ((xb.length : Int) ≤ 5000) = true := by simpa using s2
  cases hk : chk Nb xb with
  | false =>
    go_enter Try.func4, Try.ntmps4
    have hw : Below w.heap.size w w := Below.refl _ _
    go_wp2_with fail
    refine (small_c _ _ _ _ _).mono ?_
    rintro e w1 ⟨rfl, hb⟩
    have B0 := Box.new hb
    have hB : Below w.heap.size w w1 := Below.trans (by repeat (first | exact Below.refl _ _ | apply Below.drew | apply below_drewN | refine Below.alloc ?_ (by simp) _)) (hb.mono (by simp))
    clear hb
    replace Xb := Xb.keep hB
    replace hw := hw.trans (hB.mono hw.size)
    clear hB
    have B0l := B0.1
    have B0u := B0.2.1
    have B0v := B0.2.2
    go_wp2_with fail
    refine (check_c _ _ _ _ _ (Xb.keep (by repeat (first | exact Below.refl _ _ | apply Below.drew | apply below_drewN | refine Below.alloc ?_ (by simp) _)))).mono ?_
    rintro e w2 ⟨rfl, hb⟩
    have hB : Below w1.heap.size w1 w2 := Below.trans (by repeat (first | exact Below.refl _ _ | apply Below.drew | apply below_drewN | refine Below.alloc ?_ (by simp) _)) (hb.mono (by simp))
    clear hb
    clear B0l B0u B0v
    replace B0 := B0.keep hB
    replace Xb := Xb.keep hB
    replace hw := hw.trans (hB.mono hw.size)
    clear hB
    have B0l := B0.1
    have B0u := B0.2.1
    have B0v := B0.2.2
    go_wp2_with fail
    refine (heads_c _).mono ?_
    rintro e w3 ⟨rfl, hb⟩
    have hB : Below w2.heap.size w2 w3 := Below.trans (by repeat (first | exact Below.refl _ _ | apply Below.drew | apply below_drewN | refine Below.alloc ?_ (by simp) _)) (hb.mono (by simp))
    clear hb
    clear B0l B0u B0v
    replace B0 := B0.keep hB
    replace Xb := Xb.keep hB
    replace hw := hw.trans (hB.mono hw.size)
    clear hB
    have B0l := B0.1
    have B0u := B0.2.1
    have B0v := B0.2.2
    go_wp2
    go_ret
    exact ⟨rfl, hw⟩
  | true =>
    obtain ⟨hc0, hc1, _, _⟩ := chk_out Nb xb hk
    by_cases h1 : n < 0
    case pos =>
      go_enter Try.func4, Try.ntmps4
      have hw : Below w.heap.size w w := Below.refl _ _
      go_wp2_with fail
      refine (small_c _ _ _ _ _).mono ?_
      rintro e w1 ⟨rfl, hb⟩
      have B0 := Box.new hb
      have hB : Below w.heap.size w w1 := Below.trans (by repeat (first | exact Below.refl _ _ | apply Below.drew | apply below_drewN | refine Below.alloc ?_ (by simp) _)) (hb.mono (by simp))
      clear hb
      replace Xb := Xb.keep hB
      replace hw := hw.trans (hB.mono hw.size)
      clear hB
      have B0l := B0.1
      have B0u := B0.2.1
      have B0v := B0.2.2
      go_wp2_with fail
      refine (check_c _ _ _ _ _ (Xb.keep (by repeat (first | exact Below.refl _ _ | apply Below.drew | apply below_drewN | refine Below.alloc ?_ (by simp) _)))).mono ?_
      rintro e w2 ⟨rfl, hb⟩
      have hB : Below w1.heap.size w1 w2 := Below.trans (by repeat (first | exact Below.refl _ _ | apply Below.drew | apply below_drewN | refine Below.alloc ?_ (by simp) _)) (hb.mono (by simp))
      clear hb
      clear B0l B0u B0v
      replace B0 := B0.keep hB
      replace Xb := Xb.keep hB
      replace hw := hw.trans (hB.mono hw.size)
      clear hB
      have B0l := B0.1
      have B0u := B0.2.1
      have B0v := B0.2.2
      go_wp2_with fail
      refine (heads_c _).mono ?_
      rintro e w3 ⟨rfl, hb⟩
      have hB : Below w2.heap.size w2 w3 := Below.trans (by repeat (first | exact Below.refl _ _ | apply Below.drew | apply below_drewN | refine Below.alloc ?_ (by simp) _)) (hb.mono (by simp))
      clear hb
      clear B0l B0u B0v
      replace B0 := B0.keep hB
      replace Xb := Xb.keep hB
      replace hw := hw.trans (hB.mono hw.size)
      clear hB
      have B0l := B0.1
      have B0u := B0.2.1
      have B0v := B0.2.2
      go_wp2
      go_ret
      exact ⟨rfl, hw⟩
    have h1' : decide (n < 0) = false := by simpa using h1
    by_cases h2 : m < 0
    case pos =>
      go_enter Try.func4, Try.ntmps4
      have hw : Below w.heap.size w w := Below.refl _ _
      go_wp2_with fail
      refine (small_c _ _ _ _ _).mono ?_
      rintro e w1 ⟨rfl, hb⟩
      have B0 := Box.new hb
      have hB : Below w.heap.size w w1 := Below.trans (by repeat (first | exact Below.refl _ _ | apply Below.drew | apply below_drewN | refine Below.alloc ?_ (by simp) _)) (hb.mono (by simp))
      clear hb
      replace Xb := Xb.keep hB
      replace hw := hw.trans (hB.mono hw.size)
      clear hB
      have B0l := B0.1
      have B0u := B0.2.1
      have B0v := B0.2.2
      go_wp2_with fail
      refine (check_c _ _ _ _ _ (Xb.keep (by repeat (first | exact Below.refl _ _ | apply Below.drew | apply below_drewN | refine Below.alloc ?_ (by simp) _)))).mono ?_
      rintro e w2 ⟨rfl, hb⟩
      have hB : Below w1.heap.size w1 w2 := Below.trans (by repeat (first | exact Below.refl _ _ | apply Below.drew | apply below_drewN | refine Below.alloc ?_ (by simp) _)) (hb.mono (by simp))
      clear hb
      clear B0l B0u B0v
      replace B0 := B0.keep hB
      replace Xb := Xb.keep hB
      replace hw := hw.trans (hB.mono hw.size)
      clear hB
      have B0l := B0.1
      have B0u := B0.2.1
      have B0v := B0.2.2
      go_wp2_with fail
      refine (heads_c _).mono ?_
      rintro e w3 ⟨rfl, hb⟩
      have hB : Below w2.heap.size w2 w3 := Below.trans (by repeat (first | exact Below.refl _ _ | apply Below.drew | apply below_drewN | refine Below.alloc ?_ (by simp) _)) (hb.mono (by simp))
      clear hb
      clear B0l B0u B0v
      replace B0 := B0.keep hB
      replace Xb := Xb.keep hB
      replace hw := hw.trans (hB.mono hw.size)
      clear hB
      have B0l := B0.1
      have B0u := B0.2.1
      have B0v := B0.2.2
      go_wp2
      go_ret
      exact ⟨rfl, hw⟩
    have h2' : decide (m < 0) = false := by simpa using h2
    by_cases h3 : 64 < n
    case pos =>
      go_enter Try.func4, Try.ntmps4
      have hw : Below w.heap.size w w := Below.refl _ _
      go_wp2_with fail
      refine (small_c _ _ _ _ _).mono ?_
      rintro e w1 ⟨rfl, hb⟩
      have B0 := Box.new hb
      have hB : Below w.heap.size w w1 := Below.trans (by repeat (first | exact Below.refl _ _ | apply Below.drew | apply below_drewN | refine Below.alloc ?_ (by simp) _)) (hb.mono (by simp))
      clear hb
      replace Xb := Xb.keep hB
      replace hw := hw.trans (hB.mono hw.size)
      clear hB
      have B0l := B0.1
      have B0u := B0.2.1
      have B0v := B0.2.2
      go_wp2_with fail
      refine (check_c _ _ _ _ _ (Xb.keep (by repeat (first | exact Below.refl _ _ | apply Below.drew | apply below_drewN | refine Below.alloc ?_ (by simp) _)))).mono ?_
      rintro e w2 ⟨rfl, hb⟩
      have hB : Below w1.heap.size w1 w2 := Below.trans (by repeat (first | exact Below.refl _ _ | apply Below.drew | apply below_drewN | refine Below.alloc ?_ (by simp) _)) (hb.mono (by simp))
      clear hb
      clear B0l B0u B0v
      replace B0 := B0.keep hB
      replace Xb := Xb.keep hB
      replace hw := hw.trans (hB.mono hw.size)
      clear hB
      have B0l := B0.1
      have B0u := B0.2.1
      have B0v := B0.2.2
      go_wp2_with fail
      refine (heads_c _).mono ?_
      rintro e w3 ⟨rfl, hb⟩
      have hB : Below w2.heap.size w2 w3 := Below.trans (by repeat (first | exact Below.refl _ _ | apply Below.drew | apply below_drewN | refine Below.alloc ?_ (by simp) _)) (hb.mono (by simp))
      clear hb
      clear B0l B0u B0v
      replace B0 := B0.keep hB
      replace Xb := Xb.keep hB
      replace hw := hw.trans (hB.mono hw.size)
      clear hB
      have B0l := B0.1
      have B0u := B0.2.1
      have B0v := B0.2.2
      go_wp2
      go_ret
      exact ⟨rfl, hw⟩
    have h3' : decide (64 < n) = false := by simpa using h3
    by_cases h4 : 64 - n < m
    case pos =>
      go_enter Try.func4, Try.ntmps4
      have hw : Below w.heap.size w w := Below.refl _ _
      go_wp2_with fail
      refine (small_c _ _ _ _ _).mono ?_
      rintro e w1 ⟨rfl, hb⟩
      have B0 := Box.new hb
      have hB : Below w.heap.size w w1 := Below.trans (by repeat (first | exact Below.refl _ _ | apply Below.drew | apply below_drewN | refine Below.alloc ?_ (by simp) _)) (hb.mono (by simp))
      clear hb
      replace Xb := Xb.keep hB
      replace hw := hw.trans (hB.mono hw.size)
      clear hB
      have B0l := B0.1
      have B0u := B0.2.1
      have B0v := B0.2.2
      go_wp2_with fail
      refine (check_c _ _ _ _ _ (Xb.keep (by repeat (first | exact Below.refl _ _ | apply Below.drew | apply below_drewN | refine Below.alloc ?_ (by simp) _)))).mono ?_
      rintro e w2 ⟨rfl, hb⟩
      have hB : Below w1.heap.size w1 w2 := Below.trans (by repeat (first | exact Below.refl _ _ | apply Below.drew | apply below_drewN | refine Below.alloc ?_ (by simp) _)) (hb.mono (by simp))
      clear hb
      clear B0l B0u B0v
      replace B0 := B0.keep hB
      replace Xb := Xb.keep hB
      replace hw := hw.trans (hB.mono hw.size)
      clear hB
      have B0l := B0.1
      have B0u := B0.2.1
      have B0v := B0.2.2
      go_wp2_with fail
      refine (heads_c _).mono ?_
      rintro e w3 ⟨rfl, hb⟩
      have hB : Below w2.heap.size w2 w3 := Below.trans (by repeat (first | exact Below.refl _ _ | apply Below.drew | apply below_drewN | refine Below.alloc ?_ (by simp) _)) (hb.mono (by simp))
      clear hb
      clear B0l B0u B0v
      replace B0 := B0.keep hB
      replace Xb := Xb.keep hB
      replace hw := hw.trans (hB.mono hw.size)
      clear hB
      have B0l := B0.1
      have B0u := B0.2.1
      have B0v := B0.2.2
      go_wp2
      go_ret
      exact ⟨rfl, hw⟩
    have h4' : decide (64 - n < m) = false := by simpa using h4
    by_cases h5 : i < 0
    case pos =>
      go_enter Try.func4, Try.ntmps4
      have hw : Below w.heap.size w w := Below.refl _ _
      go_wp2_with fail
      refine (small_c _ _ _ _ _).mono ?_
      rintro e w1 ⟨rfl, hb⟩
      have B0 := Box.new hb
      have hB : Below w.heap.size w w1 := Below.trans (by repeat (first | exact Below.refl _ _ | apply Below.drew | apply below_drewN | refine Below.alloc ?_ (by simp) _)) (hb.mono (by simp))
      clear hb
      replace Xb := Xb.keep hB
      replace hw := hw.trans (hB.mono hw.size)
      clear hB
      have B0l := B0.1
      have B0u := B0.2.1
      have B0v := B0.2.2
      go_wp2_with fail
      refine (check_c _ _ _ _ _ (Xb.keep (by repeat (first | exact Below.refl _ _ | apply Below.drew | apply below_drewN | refine Below.alloc ?_ (by simp) _)))).mono ?_
      rintro e w2 ⟨rfl, hb⟩
      have hB : Below w1.heap.size w1 w2 := Below.trans (by repeat (first | exact Below.refl _ _ | apply Below.drew | apply below_drewN | refine Below.alloc ?_ (by simp) _)) (hb.mono (by simp))
      clear hb
      clear B0l B0u B0v
      replace B0 := B0.keep hB
      replace Xb := Xb.keep hB
      replace hw := hw.trans (hB.mono hw.size)
      clear hB
      have B0l := B0.1
      have B0u := B0.2.1
      have B0v := B0.2.2
      go_wp2_with fail
      refine (heads_c _).mono ?_
      rintro e w3 ⟨rfl, hb⟩
      have hB : Below w2.heap.size w2 w3 := Below.trans (by repeat (first | exact Below.refl _ _ | apply Below.drew | apply below_drewN | refine Below.alloc ?_ (by simp) _)) (hb.mono (by simp))
      clear hb
      clear B0l B0u B0v
      replace B0 := B0.keep hB
      replace Xb := Xb.keep hB
      replace hw := hw.trans (hB.mono hw.size)
      clear hB
      have B0l := B0.1
      have B0u := B0.2.1
      have B0v := B0.2.2
      go_wp2
      go_ret
      exact ⟨rfl, hw⟩
    have h5' : decide (i < 0) = false := by simpa using h5
    by_cases h6 : Nb < i
    case pos =>
      go_enter Try.func4, Try.ntmps4
      have hw : Below w.heap.size w w := Below.refl _ _
      go_wp2_with fail
      refine (small_c _ _ _ _ _).mono ?_
      rintro e w1 ⟨rfl, hb⟩
      have B0 := Box.new hb
      have hB : Below w.heap.size w w1 := Below.trans (by repeat (first | exact Below.refl _ _ | apply Below.drew | apply below_drewN | refine Below.alloc ?_ (by simp) _)) (hb.mono (by simp))
      clear hb
      replace Xb := Xb.keep hB
      replace hw := hw.trans (hB.mono hw.size)
      clear hB
      have B0l := B0.1
      have B0u := B0.2.1
      have B0v := B0.2.2
      go_wp2_with fail
      refine (check_c _ _ _ _ _ (Xb.keep (by repeat (first | exact Below.refl _ _ | apply Below.drew | apply below_drewN | refine Below.alloc ?_ (by simp) _)))).mono ?_
      rintro e w2 ⟨rfl, hb⟩
      have hB : Below w1.heap.size w1 w2 := Below.trans (by repeat (first | exact Below.refl _ _ | apply Below.drew | apply below_drewN | refine Below.alloc ?_ (by simp) _)) (hb.mono (by simp))
      clear hb
      clear B0l B0u B0v
      replace B0 := B0.keep hB
      replace Xb := Xb.keep hB
      replace hw := hw.trans (hB.mono hw.size)
      clear hB
      have B0l := B0.1
      have B0u := B0.2.1
      have B0v := B0.2.2
      go_wp2_with fail
      refine (heads_c _).mono ?_
      rintro e w3 ⟨rfl, hb⟩
      have hB : Below w2.heap.size w2 w3 := Below.trans (by repeat (first | exact Below.refl _ _ | apply Below.drew | apply below_drewN | refine Below.alloc ?_ (by simp) _)) (hb.mono (by simp))
      clear hb
      clear B0l B0u B0v
      replace B0 := B0.keep hB
      replace Xb := Xb.keep hB
      replace hw := hw.trans (hB.mono hw.size)
      clear hB
      have B0l := B0.1
      have B0u := B0.2.1
      have B0v := B0.2.2
      go_wp2
      go_ret
      exact ⟨rfl, hw⟩
    have h6' : decide (Nb < i) = false := by simpa using h6
    obtain ⟨a, rfl⟩ := Int.eq_ofNat_of_zero_le (show 0 ≤ i by omega)
    by_cases c3 : n = 64 ∧ (a : Int) + 64 ≤ Nb
    case pos =>
      obtain ⟨c3, c5⟩ := c3
      have hq : m = 0 := by omega
      subst c3 hq
      have E1 := slcE_ok Nb xb hk a 64 (by omega) (by omega) (by omega) (by omega)
      have E3 := slcE_ok Nb xb hk ((a : Int) + 64) 0 (by omega) (by omega) (by omega) (by omega)
      have V2 := splits_0 Nb xb ((a : Int) + 64)
      clear h1 h2 h3 h4 h1' h2' h3' h4' hn hm
      go_enter Try.func4, Try.ntmps4
      have hw : Below w.heap.size w w := Below.refl _ _
      go_wp2_with fail
      refine (small_c _ _ _ _ _).mono ?_
      rintro e w1 ⟨rfl, hb⟩
      have B0 := Box.new hb
      have hB : Below w.heap.size w w1 := Below.trans (by repeat (first | exact Below.refl _ _ | apply Below.drew | apply below_drewN | refine Below.alloc ?_ (by simp) _)) (hb.mono (by simp))
      clear hb
      replace Xb := Xb.keep hB
      replace hw := hw.trans (hB.mono hw.size)
      clear hB
      have B0l := B0.1
      have B0u := B0.2.1
      have B0v := B0.2.2
      go_wp2_with fail
      refine (check_c _ _ _ _ _ (Xb.keep (by repeat (first | exact Below.refl _ _ | apply Below.drew | apply below_drewN | refine Below.alloc ?_ (by simp) _)))).mono ?_
      rintro e w2 ⟨rfl, hb⟩
      have hB : Below w1.heap.size w1 w2 := Below.trans (by repeat (first | exact Below.refl _ _ | apply Below.drew | apply below_drewN | refine Below.alloc ?_ (by simp) _)) (hb.mono (by simp))
      clear hb
      clear B0l B0u B0v
      replace B0 := B0.keep hB
      replace Xb := Xb.keep hB
      replace hw := hw.trans (hB.mono hw.size)
      clear hB
      have B0l := B0.1
      have B0u := B0.2.1
      have B0v := B0.2.2
      go_wp2_with fail
      refine (slice_c _ _ _ _ _ _ _ (Xb.keep (by repeat (first | exact Below.refl _ _ | apply Below.drew | apply below_drewN | refine Below.alloc ?_ (by simp) _))) Fb (by omega) (by omega) (by omega) (by omega)).mono ?_
      rintro e w3 ⟨rfl, hb⟩
      have hB : Below w2.heap.size w2 w3 := Below.trans (by repeat (first | exact Below.refl _ _ | apply Below.drew | apply below_drewN | refine Below.alloc ?_ (by simp) _)) (hb.mono (by simp))
      clear hb
      clear B0l B0u B0v
      replace B0 := B0.keep hB
      replace Xb := Xb.keep hB
      replace hw := hw.trans (hB.mono hw.size)
      clear hB
      have B0l := B0.1
      have B0u := B0.2.1
      have B0v := B0.2.2
      go_wp2_with fail
      refine (slice_c _ _ _ _ _ _ _ (Xb.keep (by repeat (first | exact Below.refl _ _ | apply Below.drew | apply below_drewN | refine Below.alloc ?_ (by simp) _))) Fb (by omega) (by omega) (by omega) (by omega)).mono ?_
      rintro e w4 ⟨rfl, hb⟩
      have hB : Below w3.heap.size w3 w4 := Below.trans (by repeat (first | exact Below.refl _ _ | apply Below.drew | apply below_drewN | refine Below.alloc ?_ (by simp) _)) (hb.mono (by simp))
      clear hb
      clear B0l B0u B0v
      replace B0 := B0.keep hB
      replace Xb := Xb.keep hB
      replace hw := hw.trans (hB.mono hw.size)
      clear hB
      have B0l := B0.1
      have B0u := B0.2.1
      have B0v := B0.2.2
      go_wp2_with fail
      refine (slice_c _ _ _ _ _ _ _ (Xb.keep (by repeat (first | exact Below.refl _ _ | apply Below.drew | apply below_drewN | refine Below.alloc ?_ (by simp) _))) Fb (by omega) (by omega) (by omega) (by omega)).mono ?_
      rintro e w5 ⟨rfl, hb⟩
      have hB : Below w4.heap.size w4 w5 := Below.trans (by repeat (first | exact Below.refl _ _ | apply Below.drew | apply below_drewN | refine Below.alloc ?_ (by simp) _)) (hb.mono (by simp))
      clear hb
      clear B0l B0u B0v
      replace B0 := B0.keep hB
      replace Xb := Xb.keep hB
      replace hw := hw.trans (hB.mono hw.size)
      clear hB
      have B0l := B0.1
      have B0u := B0.2.1
      have B0v := B0.2.2
      go_wp2_with fail
      refine (heads_c _).mono ?_
      rintro e w6 ⟨rfl, hb⟩
      have hB : Below w5.heap.size w5 w6 := Below.trans (by repeat (first | exact Below.refl _ _ | apply Below.drew | apply below_drewN | refine Below.alloc ?_ (by simp) _)) (hb.mono (by simp))
      clear hb
      clear B0l B0u B0v
      replace B0 := B0.keep hB
      replace Xb := Xb.keep hB
      replace hw := hw.trans (hB.mono hw.size)
      clear hB
      have B0l := B0.1
      have B0u := B0.2.1
      have B0v := B0.2.2
      go_wp2
      go_ret
      exact ⟨rfl, hw⟩
    obtain ⟨p, rfl⟩ := Int.eq_ofNat_of_zero_le (show 0 ≤ n by omega)
    obtain ⟨q, rfl⟩ := Int.eq_ofNat_of_zero_le (show 0 ≤ m by omega)
    by_cases c1 : (a : Int) + p + q ≤ Nb
    case neg =>
      have E1 := slcE_far Nb xb hk a ((p : Int) + q) (by omega) (by omega) (by omega)
      by_cases c2 : (a : Int) + p ≤ Nb
      case pos =>
        have E3 := slcE_far Nb xb hk ((a : Int) + p) q (by omega) (by omega) (by omega)
        have E2 := slcE_ok Nb xb hk a p (by omega) (by omega) (by omega) (by omega)
        go_enter Try.func4, Try.ntmps4
        have hw : Below w.heap.size w w := Below.refl _ _
        go_wp2_with fail
        refine (small_c _ _ _ _ _).mono ?_
        rintro e w1 ⟨rfl, hb⟩
        have B0 := Box.new hb
        have hB : Below w.heap.size w w1 := Below.trans (by repeat (first | exact Below.refl _ _ | apply Below.drew | apply below_drewN | refine Below.alloc ?_ (by simp) _)) (hb.mono (by simp))
        clear hb
        replace Xb := Xb.keep hB
        replace hw := hw.trans (hB.mono hw.size)
        clear hB
        have B0l := B0.1
        have B0u := B0.2.1
        have B0v := B0.2.2
        go_wp2_with fail
        refine (check_c _ _ _ _ _ (Xb.keep (by repeat (first | exact Below.refl _ _ | apply Below.drew | apply below_drewN | refine Below.alloc ?_ (by simp) _)))).mono ?_
        rintro e w2 ⟨rfl, hb⟩
        have hB : Below w1.heap.size w1 w2 := Below.trans (by repeat (first | exact Below.refl _ _ | apply Below.drew | apply below_drewN | refine Below.alloc ?_ (by simp) _)) (hb.mono (by simp))
        clear hb
        clear B0l B0u B0v
        replace B0 := B0.keep hB
        replace Xb := Xb.keep hB
        replace hw := hw.trans (hB.mono hw.size)
        clear hB
        have B0l := B0.1
        have B0u := B0.2.1
        have B0v := B0.2.2
        go_wp2_with fail
        refine (slice_c _ _ _ _ _ _ _ (Xb.keep (by repeat (first | exact Below.refl _ _ | apply Below.drew | apply below_drewN | refine Below.alloc ?_ (by simp) _))) Fb (by omega) (by omega) (by omega) (by omega)).mono ?_
        rintro e w3 ⟨rfl, hb⟩
        have hB : Below w2.heap.size w2 w3 := Below.trans (by repeat (first | exact Below.refl _ _ | apply Below.drew | apply below_drewN | refine Below.alloc ?_ (by simp) _)) (hb.mono (by simp))
        clear hb
        clear B0l B0u B0v
        replace B0 := B0.keep hB
        replace Xb := Xb.keep hB
        replace hw := hw.trans (hB.mono hw.size)
        clear hB
        have B0l := B0.1
        have B0u := B0.2.1
        have B0v := B0.2.2
        go_wp2_with fail
        refine (slice_c _ _ _ _ _ _ _ (Xb.keep (by repeat (first | exact Below.refl _ _ | apply Below.drew | apply below_drewN | refine Below.alloc ?_ (by simp) _))) Fb (by omega) (by omega) (by omega) (by omega)).mono ?_
        rintro e w4 ⟨rfl, hb⟩
        have hB : Below w3.heap.size w3 w4 := Below.trans (by repeat (first | exact Below.refl _ _ | apply Below.drew | apply below_drewN | refine Below.alloc ?_ (by simp) _)) (hb.mono (by simp))
        clear hb
        clear B0l B0u B0v
        replace B0 := B0.keep hB
        replace Xb := Xb.keep hB
        replace hw := hw.trans (hB.mono hw.size)
        clear hB
        have B0l := B0.1
        have B0u := B0.2.1
        have B0v := B0.2.2
        go_wp2_with fail
        refine (slice_c _ _ _ _ _ _ _ (Xb.keep (by repeat (first | exact Below.refl _ _ | apply Below.drew | apply below_drewN | refine Below.alloc ?_ (by simp) _))) Fb (by omega) (by omega) (by omega) (by omega)).mono ?_
        rintro e w5 ⟨rfl, hb⟩
        have hB : Below w4.heap.size w4 w5 := Below.trans (by repeat (first | exact Below.refl _ _ | apply Below.drew | apply below_drewN | refine Below.alloc ?_ (by simp) _)) (hb.mono (by simp))
        clear hb
        clear B0l B0u B0v
        replace B0 := B0.keep hB
        replace Xb := Xb.keep hB
        replace hw := hw.trans (hB.mono hw.size)
        clear hB
        have B0l := B0.1
        have B0u := B0.2.1
        have B0v := B0.2.2
        go_wp2_with fail
        refine (heads_c _).mono ?_
        rintro e w6 ⟨rfl, hb⟩
        have hB : Below w5.heap.size w5 w6 := Below.trans (by repeat (first | exact Below.refl _ _ | apply Below.drew | apply below_drewN | refine Below.alloc ?_ (by simp) _)) (hb.mono (by simp))
        clear hb
        clear B0l B0u B0v
        replace B0 := B0.keep hB
        replace Xb := Xb.keep hB
        replace hw := hw.trans (hB.mono hw.size)
        clear hB
        have B0l := B0.1
        have B0u := B0.2.1
        have B0v := B0.2.2
        go_wp2
        go_ret
        exact ⟨rfl, hw⟩
      case neg =>
        have E2 := slcE_far Nb xb hk a p (by omega) (by omega) (by omega)
        go_enter Try.func4, Try.ntmps4
        have hw : Below w.heap.size w w := Below.refl _ _
        go_wp2_with fail
        refine (small_c _ _ _ _ _).mono ?_
        rintro e w1 ⟨rfl, hb⟩
        have B0 := Box.new hb
        have hB : Below w.heap.size w w1 := Below.trans (by repeat (first | exact Below.refl _ _ | apply Below.drew | apply below_drewN | refine Below.alloc ?_ (by simp) _)) (hb.mono (by simp))
        clear hb
        replace Xb := Xb.keep hB
        replace hw := hw.trans (hB.mono hw.size)
        clear hB
        have B0l := B0.1
        have B0u := B0.2.1
        have B0v := B0.2.2
        go_wp2_with fail
        refine (check_c _ _ _ _ _ (Xb.keep (by repeat (first | exact Below.refl _ _ | apply Below.drew | apply below_drewN | refine Below.alloc ?_ (by simp) _)))).mono ?_
        rintro e w2 ⟨rfl, hb⟩
        have hB : Below w1.heap.size w1 w2 := Below.trans (by repeat (first | exact Below.refl _ _ | apply Below.drew | apply below_drewN | refine Below.alloc ?_ (by simp) _)) (hb.mono (by simp))
        clear hb
        clear B0l B0u B0v
        replace B0 := B0.keep hB
        replace Xb := Xb.keep hB
        replace hw := hw.trans (hB.mono hw.size)
        clear hB
        have B0l := B0.1
        have B0u := B0.2.1
        have B0v := B0.2.2
        go_wp2_with fail
        refine (slice_c _ _ _ _ _ _ _ (Xb.keep (by repeat (first | exact Below.refl _ _ | apply Below.drew | apply below_drewN | refine Below.alloc ?_ (by simp) _))) Fb (by omega) (by omega) (by omega) (by omega)).mono ?_
        rintro e w3 ⟨rfl, hb⟩
        have hB : Below w2.heap.size w2 w3 := Below.trans (by repeat (first | exact Below.refl _ _ | apply Below.drew | apply below_drewN | refine Below.alloc ?_ (by simp) _)) (hb.mono (by simp))
        clear hb
        clear B0l B0u B0v
        replace B0 := B0.keep hB
        replace Xb := Xb.keep hB
        replace hw := hw.trans (hB.mono hw.size)
        clear hB
        have B0l := B0.1
        have B0u := B0.2.1
        have B0v := B0.2.2
        go_wp2_with fail
        refine (slice_c _ _ _ _ _ _ _ (Xb.keep (by repeat (first | exact Below.refl _ _ | apply Below.drew | apply below_drewN | refine Below.alloc ?_ (by simp) _))) Fb (by omega) (by omega) (by omega) (by omega)).mono ?_
        rintro e w4 ⟨rfl, hb⟩
        have hB : Below w3.heap.size w3 w4 := Below.trans (by repeat (first | exact Below.refl _ _ | apply Below.drew | apply below_drewN | refine Below.alloc ?_ (by simp) _)) (hb.mono (by simp))
        clear hb
        clear B0l B0u B0v
        replace B0 := B0.keep hB
        replace Xb := Xb.keep hB
        replace hw := hw.trans (hB.mono hw.size)
        clear hB
        have B0l := B0.1
        have B0u := B0.2.1
        have B0v := B0.2.2
        go_wp2_with fail
        refine (slice_c _ _ _ _ _ _ _ (Xb.keep (by repeat (first | exact Below.refl _ _ | apply Below.drew | apply below_drewN | refine Below.alloc ?_ (by simp) _))) Fb (by omega) (by omega) (by omega) (by omega)).mono ?_
        rintro e w5 ⟨rfl, hb⟩
        have hB : Below w4.heap.size w4 w5 := Below.trans (by repeat (first | exact Below.refl _ _ | apply Below.drew | apply below_drewN | refine Below.alloc ?_ (by simp) _)) (hb.mono (by simp))
        clear hb
        clear B0l B0u B0v
        replace B0 := B0.keep hB
        replace Xb := Xb.keep hB
        replace hw := hw.trans (hB.mono hw.size)
        clear hB
        have B0l := B0.1
        have B0u := B0.2.1
        have B0v := B0.2.2
        go_wp2_with fail
        refine (heads_c _).mono ?_
        rintro e w6 ⟨rfl, hb⟩
        have hB : Below w5.heap.size w5 w6 := Below.trans (by repeat (first | exact Below.refl _ _ | apply Below.drew | apply below_drewN | refine Below.alloc ?_ (by simp) _)) (hb.mono (by simp))
        clear hb
        clear B0l B0u B0v
        replace B0 := B0.keep hB
        replace Xb := Xb.keep hB
        replace hw := hw.trans (hB.mono hw.size)
        clear hB
        have B0l := B0.1
        have B0u := B0.2.1
        have B0v := B0.2.2
        go_wp2
        go_ret
        exact ⟨rfl, hw⟩
    case pos =>
      have E1 := slcE_ok Nb xb hk a ((p : Int) + q) (by omega) (by omega) (by omega) (by omega)
      have E2 := slcE_ok Nb xb hk a p (by omega) (by omega) (by omega) (by omega)
      have E3 := slcE_ok Nb xb hk ((a : Int) + p) q (by omega) (by omega) (by omega) (by omega)
      have c4 : p < 64 := by omega
      have c3' : ((p : Int) == 64) = false := by simp; omega
      have V := splits_num Nb xb a p q (by omega) E1 E2 E3
      clear c3
      go_enter Try.func4, Try.ntmps4
      have hw : Below w.heap.size w w := Below.refl _ _
      go_wp2_with fail
      refine (small_c _ _ _ _ _).mono ?_
      rintro e w1 ⟨rfl, hb⟩
      have B0 := Box.new hb
      have hB : Below w.heap.size w w1 := Below.trans (by repeat (first | exact Below.refl _ _ | apply Below.drew | apply below_drewN | refine Below.alloc ?_ (by simp) _)) (hb.mono (by simp))
      clear hb
      replace Xb := Xb.keep hB
      replace hw := hw.trans (hB.mono hw.size)
      clear hB
      have B0l := B0.1
      have B0u := B0.2.1
      have B0v := B0.2.2
      go_wp2_with fail
      refine (check_c _ _ _ _ _ (Xb.keep (by repeat (first | exact Below.refl _ _ | apply Below.drew | apply below_drewN | refine Below.alloc ?_ (by simp) _)))).mono ?_
      rintro e w2 ⟨rfl, hb⟩
      have hB : Below w1.heap.size w1 w2 := Below.trans (by repeat (first | exact Below.refl _ _ | apply Below.drew | apply below_drewN | refine Below.alloc ?_ (by simp) _)) (hb.mono (by simp))
      clear hb
      clear B0l B0u B0v
      replace B0 := B0.keep hB
      replace Xb := Xb.keep hB
      replace hw := hw.trans (hB.mono hw.size)
      clear hB
      have B0l := B0.1
      have B0u := B0.2.1
      have B0v := B0.2.2
      go_wp2_with fail
      refine (slice_c _ _ _ _ _ _ _ (Xb.keep (by repeat (first | exact Below.refl _ _ | apply Below.drew | apply below_drewN | refine Below.alloc ?_ (by simp) _))) Fb (by omega) (by omega) (by omega) (by omega)).mono ?_
      rintro e w3 ⟨rfl, hb⟩
      have hB : Below w2.heap.size w2 w3 := Below.trans (by repeat (first | exact Below.refl _ _ | apply Below.drew | apply below_drewN | refine Below.alloc ?_ (by simp) _)) (hb.mono (by simp))
      clear hb
      clear B0l B0u B0v
      replace B0 := B0.keep hB
      replace Xb := Xb.keep hB
      replace hw := hw.trans (hB.mono hw.size)
      clear hB
      have B0l := B0.1
      have B0u := B0.2.1
      have B0v := B0.2.2
      go_wp2_with fail
      refine (slice_c _ _ _ _ _ _ _ (Xb.keep (by repeat (first | exact Below.refl _ _ | apply Below.drew | apply below_drewN | refine Below.alloc ?_ (by simp) _))) Fb (by omega) (by omega) (by omega) (by omega)).mono ?_
      rintro e w4 ⟨rfl, hb⟩
      have hB : Below w3.heap.size w3 w4 := Below.trans (by repeat (first | exact Below.refl _ _ | apply Below.drew | apply below_drewN | refine Below.alloc ?_ (by simp) _)) (hb.mono (by simp))
      clear hb
      clear B0l B0u B0v
      replace B0 := B0.keep hB
      replace Xb := Xb.keep hB
      replace hw := hw.trans (hB.mono hw.size)
      clear hB
      have B0l := B0.1
      have B0u := B0.2.1
      have B0v := B0.2.2
      go_wp2_with fail
      refine (slice_c _ _ _ _ _ _ _ (Xb.keep (by repeat (first | exact Below.refl _ _ | apply Below.drew | apply below_drewN | refine Below.alloc ?_ (by simp) _))) Fb (by omega) (by omega) (by omega) (by omega)).mono ?_
      rintro e w5 ⟨rfl, hb⟩
      have hB : Below w4.heap.size w4 w5 := Below.trans (by repeat (first | exact Below.refl _ _ | apply Below.drew | apply below_drewN | refine Below.alloc ?_ (by simp) _)) (hb.mono (by simp))
      clear hb
      clear B0l B0u B0v
      replace B0 := B0.keep hB
      replace Xb := Xb.keep hB
      replace hw := hw.trans (hB.mono hw.size)
      clear hB
      have B0l := B0.1
      have B0u := B0.2.1
      have B0v := B0.2.2
      go_wp2_with fail
      refine (heads_c _).mono ?_
      rintro e w6 ⟨rfl, hb⟩
      have hB : Below w5.heap.size w5 w6 := Below.trans (by repeat (first | exact Below.refl _ _ | apply Below.drew | apply below_drewN | refine Below.alloc ?_ (by simp) _)) (hb.mono (by simp))
      clear hb
      clear B0l B0u B0v
      replace B0 := B0.keep hB
      replace Xb := Xb.keep hB
      replace hw := hw.trans (hB.mono hw.size)
      clear hB
      have B0l := B0.1
      have B0u := B0.2.1
      have B0v := B0.2.2
      go_wp2
      go_ret
      exact ⟨rfl, hw⟩

set_option maxRecDepth 100000 in
theorem lifted (os : Os) (started : os.Started) (H : Type) (enc : TypeId × Value → H) :
    ReturnsInHanded {} Try.checked os 4 .any (Rows.bitsSplitsSpec.pre6 enc Try.prog Try.f4 Rows.bitsSplitsRow.domain false) (Rows.bitsSplitsSpec.post enc Try.prog Try.f4 false true false false) := by
  refine returnsInHanded_of_change (C := Try.checked) own started (by kernel_rfl) Try.func4
    (ChangeSpec.witness6 (enc := enc) (C := Try.checked) false ⟨#[], #[.agg #[.int .i64 0, .slice none 0 0], .int .i64 0, .int .i64 0, .int .i64 0], []⟩ 8 (by kernel_rfl) (by kernel_rfl) (by kernel_rfl) (by kernel_rfl)) ?_
  intro W base args ds gs before hval0 hW hcnd _
  have hval : ∀ (j : Nat) t v, Try.f4.params[j]? = some t → args[j]? = some v → Value.okWide Try.prog W .any base t v := hval0
  have hW' := hW
  obtain ⟨p, q, hA0, hV, rfl, hfz, hnd⟩ := hW
  have hA : DataW.TrodAll enc Try.prog W 0 (fun _ => true) true Try.f4.params.toList args.toList ds p := hA0
  rw [Try.params4] at hA hval
  obtain ⟨v0, vs0, d0, ds0, p0, q0, hargs, rfl, rfl, h0, r0⟩ := trodAll_cons hA
  obtain ⟨v1, vs1, d1, ds1, p1, q1, rfl, rfl, rfl, h1, r1⟩ := trodAll_cons r0
  obtain ⟨v2, vs2, d2, ds2, p2, q2, rfl, rfl, rfl, h2, r2⟩ := trodAll_cons r1
  obtain ⟨v3, vs3, d3, ds3, p3, q3, rfl, rfl, rfl, h3, r3⟩ := trodAll_cons r2
  obtain ⟨rfl, rfl, rfl⟩ := trodAll_nil r3
  obtain rfl : args = #[v0, v1, v2, v3] := by cases args; simp_all
  obtain ⟨rfl, rfl⟩ := trodVars_none hV
  have k0 := h0
  have lt0 : ∀ x ∈ p0, x.block < W.heap.size := by obtain ⟨m, hm⟩ := k0; exact DataW.trod_lt m _ _ _ hm
  obtain ⟨Nb, ab, xb, cb, rfl, bb1, bb2, bb3, bb4⟩ := open_bits (hval 0 24 v0 rfl rfl) h0
  obtain ⟨i, rfl, rfl, rfl, w1⟩ := open_int Try.underlying3 (hval 1 3 v1 rfl rfl) h1
  obtain ⟨n, rfl, rfl, rfl, w2⟩ := open_int Try.underlying3 (hval 2 3 v2 rfl rfl) h2
  obtain ⟨m, rfl, rfl, rfl, w3⟩ := open_int Try.underlying3 (hval 3 3 v3 rfl rfl) h3
  clear hA0 hval0
  refine (walk W Nb ab xb cb bb1 bb2 bb3 bb4 i (i64_wf _ w1) n (i64_wf _ w2) m (i64_wf _ w3)).mono fun e W' ⟨he, bel⟩ => ?_
  subst he
  exact ⟨_, rfl, _, _, _, [], _, [], hW', trodAll_mk1 (shut_bool Try.underlying4 _), (trodAll_cons_mk (Below.trod laidOut (by kernel_rfl) (of_decide_eq_true (by kernel_rfl)) k0 bel lt0) (trodAll_cons_mk (shut_int Try.underlying3 w1) (trodAll_cons_mk (shut_int Try.underlying3 w2) (trodAll_cons_mk (shut_int Try.underlying3 w3) trodAll_mk0)))), rfl, bel.frame _, fun h => by cases h⟩

theorem over : Rows.bitsSplitsRow.holds Try.pinned (OpenSpec.ofChange Rows.bitsSplitsSpec) :=
  OpenClaim.holds_of_wide 4 Try.f4 rfl rfl rfl rfl rfl rfl rfl ⟨rfl, rfl, rfl, rfl, rfl⟩ rfl rfl rfl rfl rfl (by kernel_rfl) Try.func4 (by kernel_rfl)
    (of_decide_eq_true (by kernel_rfl)) (by unfold Func.isWrapper; first | (rw [if_pos (by decide +kernel)]; kernel_rfl) | (rw [if_neg (by decide +kernel)]; exact ⟨rfl, rfl⟩))
    (fun os started H enc _ => lifted os started H enc)

theorem proved : Rows.BitsSplitsSaid := over
end Go.Proofs.Ytpgbbfekjcfbpaa.bitsSplits
namespace Go.Proofs.Ytpgbbfekjcfbpaa
theorem bitsSplits_holds : Rows.BitsSplitsSaid := bitsSplits.proved
#print axioms bitsSplits_holds
end Go.Proofs.Ytpgbbfekjcfbpaa
