/-
  For every row of bits, right or not, word and numbers: what is appended is sliced, and all ahead of it is as it was (P2.3). No condition.
-/
import Derived.Test.YtpgbbfekjcfbpaaHeads
import Derived.Test.YtpgbbfekjcfbpaaOpen
import Derived.ChangeOld
namespace Go.Proofs.Ytpgbbfekjcfbpaa.bitsBack
open Go.ChangeShapes Go.WideShapes Go.ChangeAt Go.RowKit Num Bit
set_option linter.unusedVariables false

theorem back_want (y p : Nat) (hy : y < 18446744073709551616) (hp : p < 64) : bits .and .u64 (y : Int) (IntKind.u64.wrap (IntKind.u64.wrap (2 ^ p) - 1)) = ((y % 2 ^ p : Nat) : Int) := by
  have e := mask_end (p : Int)
  rw [show min (p : Int).toNat 64 = p by omega] at e
  rw [e, and_mask _ _ (Int.natCast_nonneg _) (Int.ofNat_lt.2 hy), Int.toNat_natCast, show min (p : Int).toNat 64 = p by omega]

theorem back_facts (N : Int) (xs : List Nat) (hk : chk N xs = true) (y : Nat) (n : Int) (h0 : 0 ≤ n) (h1 : n ≤ 64) (h2 : N + n ≤ 1048576) :
    appE N xs n = 0 ∧ appN N xs n = N + n ∧ slcE (N + n) (appL N xs y n) N n = 0 ∧ slcX (N + n) (appL N xs y n) N n = y % 2 ^ n.toNat ∧ chk (N + n) (appL N xs y n) = true ∧
    (∀ i, 0 ≤ i → i < N → getE N xs i = 0 ∧ getE (N + n) (appL N xs y n) i = 0 ∧ getB (N + n) (appL N xs y n) i = getB N xs i) ∧ True := by
  obtain ⟨c0, c1, _, _⟩ := chk_out N xs hk
  have e1 : appE N xs n = 0 := by unfold appE; rw [if_neg (by simp [hk]; omega)]
  have e2 : appN N xs n = N + n := by unfold appN; rw [e1]; rfl
  have e3 : appL N xs y n = rowOf (N + n).toNat (fun j => if j < N.toNat then bitAt xs j else y.testBit (j - N.toNat)) := by unfold appL; rw [e1]; rfl
  have e4 : chk (N + n) (appL N xs y n) = true := by
    rw [e3]
    have h := chk_rowOf (N + n).toNat (fun j => if j < N.toNat then bitAt xs j else y.testBit (j - N.toNat)) (by omega)
    rw [show (((N + n).toNat : Nat) : Int) = N + n by omega] at h
    exact h
  have e5 : slcE (N + n) (appL N xs y n) N n = 0 := by unfold slcE; rw [if_neg (by simp [e4]; omega), if_neg (by omega)]
  refine ⟨e1, e2, e5, ?_, e4, ?_, trivial⟩
  · unfold slcX
    rw [if_pos e5]
    refine (eq_numOf _ _ _ fun k => ?_).symm
    rw [Nat.testBit_mod_two_pow, e3, bitAt_rowOf]
    by_cases c : k < n.toNat
    · rw [if_neg (by omega), show decide (N.toNat + k < (N + n).toNat) = true by simp; omega, show N.toNat + k - N.toNat = k by omega]; simp
    · simp [c]
  · intro i i0 i1
    refine ⟨?_, ?_, ?_⟩
    · unfold getE; rw [if_neg (by simp [hk]), if_neg (by omega)]
    · unfold getE; rw [if_neg (by simp [e4]), if_neg (by omega)]
    · unfold getB
      rw [hk, e4, show decide (0 ≤ i ∧ i < N) = true by simp; omega, show decide (0 ≤ i ∧ i < N + n) = true by simp; omega, e3, bitAt_rowOf, if_pos (by omega), show decide (i.toNat < (N + n).toNat) = true by simp; omega]
      simp

set_option maxHeartbeats 4000000 in
theorem walk (w : World) (Nb : Int) (ab : Option Addr) (xb : List Nat) (cb : Nat) (hbN : -9223372036854775808 ≤ Nb ∧ Nb ≤ 9223372036854775807) (Xb : Wd w ab xb) (Fb : Fit xb) (Cb : xb.length ≤ cb) (x : Int) (hx : 0 ≤ x ∧ x < 18446744073709551616) (n : Int) (hn : -9223372036854775808 ≤ n ∧ n ≤ 9223372036854775807) (i : Int) (hi : -9223372036854775808 ≤ i ∧ i ≤ 9223372036854775807) :
    Calls Try.prog 7 #[.agg #[.int .i64 Nb, .slice ab xb.length cb], .int .u64 x, .int .i64 n, .int .i64 i] w fun e w' => e = .returned (.bool true) ∧ Below w.heap.size w w' := by
  obtain ⟨y, rfl⟩ := Int.eq_ofNat_of_zero_le hx.1
  have hy : y < 18446744073709551616 := by omega
  have HY : Hid (y < 18446744073709551616) := hy
  clear hx hy
  by_cases s1 : Nb ≤ 5000
  case neg =>
    have s1' : decide (Nb ≤ 5000) = false := by simpa using s1
    go_enter Try.func7, Try.ntmps7
    have hw : Below w.heap.size w w := Below.refl _ _
    go_wp2_with fail
    refine (small_c _ _ _ _ _).mono ?_
    rintro e w1 ⟨rfl, hb⟩
    have B0 := Box.new hb
    have hB : Below w.heap.size w w1 := Below.trans (by repeat (first | exact Below.refl _ _ | apply Below.drew | apply below_drewN | refine Below.alloc ?_ (by simp) _)) (hb.mono (by simp))
    clear hb
    replace Xb := Xb.keep hB
    replace hw := hw.trans (hB.mono hw.size)
    clear hB
    have B0l := B0.1
    have B0u := B0.2.1
    have B0v := B0.2.2
    go_wp2_with fail
    refine (heads_c _).mono ?_
    rintro e w2 ⟨rfl, hb⟩
    have hB : Below w1.heap.size w1 w2 := Below.trans (by repeat (first | exact Below.refl _ _ | apply Below.drew | apply below_drewN | refine Below.alloc ?_ (by simp) _)) (hb.mono (by simp))
    clear hb
    clear B0l B0u B0v
    replace B0 := B0.keep hB
    replace Xb := Xb.keep hB
    replace hw := hw.trans (hB.mono hw.size)
    clear hB
    have B0l := B0.1
    have B0u := B0.2.1
    have B0v := B0.2.2
    go_wp2
    go_ret
    exact ⟨rfl, hw⟩
  by_cases s2 : (xb.length : Int) ≤ 5000
  case neg =>
    have s2' : decide ((xb.length : Int) ≤ 5000) = false := by simpa using s2
    go_enter Try.func7, Try.ntmps7
    have hw : Below w.heap.size w w := Below.refl _ _
    go_wp2_with fail
    refine (small_c _ _ _ _ _).mono ?_
    rintro e w1 ⟨rfl, hb⟩
    have B0 := Box.new hb
    have hB : Below w.heap.size w w1 := Below.trans (by repeat (first | exact Below.refl _ _ | apply Below.drew | apply below_drewN | refine Below.alloc ?_ (by simp) _)) (hb.mono (by simp))
    clear hb
    replace Xb := Xb.keep hB
    replace hw := hw.trans (hB.mono hw.size)
    clear hB
    have B0l := B0.1
    have B0u := B0.2.1
    have B0v := B0.2.2
    go_wp2_with fail
    refine (heads_c _).mono ?_
    rintro e w2 ⟨rfl, hb⟩
    have hB : Below w1.heap.size w1 w2 := Below.trans (by repeat (first | exact Below.refl _ _ | apply Below.drew | apply below_drewN | refine Below.alloc ?_ (by simp) _)) (hb.mono (by simp))
    clear hb
    clear B0l B0u B0v
    replace B0 := B0.keep hB
    replace Xb := Xb.keep hB
    replace hw := hw.trans (hB.mono hw.size)
    clear hB
    have B0l := B0.1
    have B0u := B0.2.1
    have B0v := B0.2.2
    go_wp2
    go_ret
    exact ⟨rfl, hw⟩
  have s1' : decide (Nb ≤ 5000) = true := by simpa using s1
  have s2' : decide ((xb.length : Int) ≤ 5000) = true := by simpa using s2
  cases hk : chk Nb xb with
  | false =>
    go_enter Try.func7, Try.ntmps7
    have hw : Below w.heap.size w w := Below.refl _ _
    go_wp2_with fail
    refine (small_c _ _ _ _ _).mono ?_
    rintro e w1 ⟨rfl, hb⟩
    have B0 := Box.new hb
    have hB : Below w.heap.size w w1 := Below.trans (by repeat (first | exact Below.refl _ _ | apply Below.drew | apply below_drewN | refine Below.alloc ?_ (by simp) _)) (hb.mono (by simp))
    clear hb
    replace Xb := Xb.keep hB
    replace hw := hw.trans (hB.mono hw.size)
    clear hB
    have B0l := B0.1
    have B0u := B0.2.1
    have B0v := B0.2.2
    go_wp2_with fail
    refine (check_c _ _ _ _ _ (Xb.keep (by repeat (first | exact Below.refl _ _ | apply Below.drew | apply below_drewN | refine Below.alloc ?_ (by simp) _)))).mono ?_
    rintro e w2 ⟨rfl, hb⟩
    have hB : Below w1.heap.size w1 w2 := Below.trans (by repeat (first | exact Below.refl _ _ | apply Below.drew | apply below_drewN | refine Below.alloc ?_ (by simp) _)) (hb.mono (by simp))
    clear hb
    clear B0l B0u B0v
    replace B0 := B0.keep hB
    replace Xb := Xb.keep hB
    replace hw := hw.trans (hB.mono hw.size)
    clear hB
    have B0l := B0.1
    have B0u := B0.2.1
    have B0v := B0.2.2
    go_wp2_with fail
    refine (heads_c _).mono ?_
    rintro e w3 ⟨rfl, hb⟩
    have hB : Below w2.heap.size w2 w3 := Below.trans (by repeat (first | exact Below.refl _ _ | apply Below.drew | apply below_drewN | refine Below.alloc ?_ (by simp) _)) (hb.mono (by simp))
    clear hb
    clear B0l B0u B0v
    replace B0 := B0.keep hB
    replace Xb := Xb.keep hB
    replace hw := hw.trans (hB.mono hw.size)
    clear hB
    have B0l := B0.1
    have B0u := B0.2.1
    have B0v := B0.2.2
    go_wp2
    go_ret
    exact ⟨rfl, hw⟩
  | true =>
    obtain ⟨hc0, hc1, _, _⟩ := chk_out Nb xb hk
    by_cases h1 : n < 0
    case pos =>
      go_enter Try.func7, Try.ntmps7
      have hw : Below w.heap.size w w := Below.refl _ _
      go_wp2_with fail
      refine (small_c _ _ _ _ _).mono ?_
      rintro e w1 ⟨rfl, hb⟩
      have B0 := Box.new hb
      have hB : Below w.heap.size w w1 := Below.trans (by repeat (first | exact Below.refl _ _ | apply Below.drew | apply below_drewN | refine Below.alloc ?_ (by simp) _)) (hb.mono (by simp))
      clear hb
      replace Xb := Xb.keep hB
      replace hw := hw.trans (hB.mono hw.size)
      clear hB
      have B0l := B0.1
      have B0u := B0.2.1
      have B0v := B0.2.2
      go_wp2_with fail
      refine (check_c _ _ _ _ _ (Xb.keep (by repeat (first | exact Below.refl _ _ | apply Below.drew | apply below_drewN | refine Below.alloc ?_ (by simp) _)))).mono ?_
      rintro e w2 ⟨rfl, hb⟩
      have hB : Below w1.heap.size w1 w2 := Below.trans (by repeat (first | exact Below.refl _ _ | apply Below.drew | apply below_drewN | refine Below.alloc ?_ (by simp) _)) (hb.mono (by simp))
      clear hb
      clear B0l B0u B0v
      replace B0 := B0.keep hB
      replace Xb := Xb.keep hB
      replace hw := hw.trans (hB.mono hw.size)
      clear hB
      have B0l := B0.1
      have B0u := B0.2.1
      have B0v := B0.2.2
      go_wp2_with fail
      refine (heads_c _).mono ?_
      rintro e w3 ⟨rfl, hb⟩
      have hB : Below w2.heap.size w2 w3 := Below.trans (by repeat (first | exact Below.refl _ _ | apply Below.drew | apply below_drewN | refine Below.alloc ?_ (by simp) _)) (hb.mono (by simp))
      clear hb
      clear B0l B0u B0v
      replace B0 := B0.keep hB
      replace Xb := Xb.keep hB
      replace hw := hw.trans (hB.mono hw.size)
      clear hB
      have B0l := B0.1
      have B0u := B0.2.1
      have B0v := B0.2.2
      go_wp2
      go_ret
      exact ⟨rfl, hw⟩
    have h1' : decide (n < 0) = false := by simpa using h1
    by_cases h3 : 64 < n
    case pos =>
      go_enter Try.func7, Try.ntmps7
      have hw : Below w.heap.size w w := Below.refl _ _
      go_wp2_with fail
      refine (small_c _ _ _ _ _).mono ?_
      rintro e w1 ⟨rfl, hb⟩
      have B0 := Box.new hb
      have hB : Below w.heap.size w w1 := Below.trans (by repeat (first | exact Below.refl _ _ | apply Below.drew | apply below_drewN | refine Below.alloc ?_ (by simp) _)) (hb.mono (by simp))
      clear hb
      replace Xb := Xb.keep hB
      replace hw := hw.trans (hB.mono hw.size)
      clear hB
      have B0l := B0.1
      have B0u := B0.2.1
      have B0v := B0.2.2
      go_wp2_with fail
      refine (check_c _ _ _ _ _ (Xb.keep (by repeat (first | exact Below.refl _ _ | apply Below.drew | apply below_drewN | refine Below.alloc ?_ (by simp) _)))).mono ?_
      rintro e w2 ⟨rfl, hb⟩
      have hB : Below w1.heap.size w1 w2 := Below.trans (by repeat (first | exact Below.refl _ _ | apply Below.drew | apply below_drewN | refine Below.alloc ?_ (by simp) _)) (hb.mono (by simp))
      clear hb
      clear B0l B0u B0v
      replace B0 := B0.keep hB
      replace Xb := Xb.keep hB
      replace hw := hw.trans (hB.mono hw.size)
      clear hB
      have B0l := B0.1
      have B0u := B0.2.1
      have B0v := B0.2.2
      go_wp2_with fail
      refine (heads_c _).mono ?_
      rintro e w3 ⟨rfl, hb⟩
      have hB : Below w2.heap.size w2 w3 := Below.trans (by repeat (first | exact Below.refl _ _ | apply Below.drew | apply below_drewN | refine Below.alloc ?_ (by simp) _)) (hb.mono (by simp))
      clear hb
      clear B0l B0u B0v
      replace B0 := B0.keep hB
      replace Xb := Xb.keep hB
      replace hw := hw.trans (hB.mono hw.size)
      clear hB
      have B0l := B0.1
      have B0u := B0.2.1
      have B0v := B0.2.2
      go_wp2
      go_ret
      exact ⟨rfl, hw⟩
    have h3' : decide (64 < n) = false := by simpa using h3
    by_cases c64 : n = 64
    case pos =>
      subst c64
      obtain ⟨A1, A2, B1, B2, C1, D1, D2⟩ := back_facts Nb xb hk y 64 (by omega) (by omega) (by omega)
      have V : ((slcX (Nb + 64) (appL Nb xb y 64) Nb 64 : Int) == (y : Int)) = true := by rw [B2]; have := HY.out; simp; omega
      clear B2 h1 h3 h1' h3' hn
      by_cases i1 : i < 0
      case pos =>
        clear D1 D2
        go_enter Try.func7, Try.ntmps7
        have hw : Below w.heap.size w w := Below.refl _ _
        go_wp2_with fail
        refine (small_c _ _ _ _ _).mono ?_
        rintro e w1 ⟨rfl, hb⟩
        have B0 := Box.new hb
        have hB : Below w.heap.size w w1 := Below.trans (by repeat (first | exact Below.refl _ _ | apply Below.drew | apply below_drewN | refine Below.alloc ?_ (by simp) _)) (hb.mono (by simp))
        clear hb
        replace Xb := Xb.keep hB
        replace hw := hw.trans (hB.mono hw.size)
        clear hB
        have B0l := B0.1
        have B0u := B0.2.1
        have B0v := B0.2.2
        go_wp2_with fail
        refine (check_c _ _ _ _ _ (Xb.keep (by repeat (first | exact Below.refl _ _ | apply Below.drew | apply below_drewN | refine Below.alloc ?_ (by simp) _)))).mono ?_
        rintro e w2 ⟨rfl, hb⟩
        have hB : Below w1.heap.size w1 w2 := Below.trans (by repeat (first | exact Below.refl _ _ | apply Below.drew | apply below_drewN | refine Below.alloc ?_ (by simp) _)) (hb.mono (by simp))
        clear hb
        clear B0l B0u B0v
        replace B0 := B0.keep hB
        replace Xb := Xb.keep hB
        replace hw := hw.trans (hB.mono hw.size)
        clear hB
        have B0l := B0.1
        have B0u := B0.2.1
        have B0v := B0.2.2
        go_wp2_with fail
        refine (app_c _ _ _ _ _ _ _ (Xb.keep (by repeat (first | exact Below.refl _ _ | apply Below.drew | apply below_drewN | refine Below.alloc ?_ (by simp) _))) Fb HY.out (by omega)).mono ?_
        rintro e w3 ⟨lo, lc, rfl, XL, FL, CL, hb⟩
        have hB : Below w2.heap.size w2 w3 := Below.trans (by repeat (first | exact Below.refl _ _ | apply Below.drew | apply below_drewN | refine Below.alloc ?_ (by simp) _)) (hb.mono (by simp))
        clear hb
        clear B0l B0u B0v
        replace B0 := B0.keep hB
        replace Xb := Xb.keep hB
        replace hw := hw.trans (hB.mono hw.size)
        clear hB
        have B0l := B0.1
        have B0u := B0.2.1
        have B0v := B0.2.2
        go_wp2_with fail
        refine (slice_c _ _ _ _ _ _ _ (XL.keep (by repeat (first | exact Below.refl _ _ | apply Below.drew | apply below_drewN | refine Below.alloc ?_ (by simp) _))) FL (by omega) (by omega) (by omega) (by omega)).mono ?_
        rintro e w4 ⟨rfl, hb⟩
        have BL := Box.new hb
        have hB : Below w3.heap.size w3 w4 := Below.trans (by repeat (first | exact Below.refl _ _ | apply Below.drew | apply below_drewN | refine Below.alloc ?_ (by simp) _)) (hb.mono (by simp))
        clear hb
        clear B0l B0u B0v
        replace B0 := B0.keep hB
        replace Xb := Xb.keep hB
        replace XL := XL.keep hB
        replace hw := hw.trans (hB.mono hw.size)
        clear hB
        have B0l := B0.1
        have B0u := B0.2.1
        have B0v := B0.2.2
        have BLl := BL.1
        have BLu := BL.2.1
        have BLv := BL.2.2
        go_wp2_with fail
        refine (get_c _ _ _ _ _ _ (Xb.keep (by repeat (first | exact Below.refl _ _ | apply Below.drew | apply below_drewN | refine Below.alloc ?_ (by simp) _))) Fb).mono ?_
        rintro e w5 ⟨rfl, hb⟩
        have hB : Below w4.heap.size w4 w5 := Below.trans (by repeat (first | exact Below.refl _ _ | apply Below.drew | apply below_drewN | refine Below.alloc ?_ (by simp) _)) (hb.mono (by simp))
        clear hb
        clear B0l B0u B0v
        clear BLl BLu BLv
        replace B0 := B0.keep hB
        replace BL := BL.keep hB
        replace Xb := Xb.keep hB
        replace XL := XL.keep hB
        replace hw := hw.trans (hB.mono hw.size)
        clear hB
        have B0l := B0.1
        have B0u := B0.2.1
        have B0v := B0.2.2
        have BLl := BL.1
        have BLu := BL.2.1
        have BLv := BL.2.2
        go_wp2_with fail
        refine (get_c _ _ _ _ _ _ (XL.keep (by repeat (first | exact Below.refl _ _ | apply Below.drew | apply below_drewN | refine Below.alloc ?_ (by simp) _))) FL).mono ?_
        rintro e w6 ⟨rfl, hb⟩
        have hB : Below w5.heap.size w5 w6 := Below.trans (by repeat (first | exact Below.refl _ _ | apply Below.drew | apply below_drewN | refine Below.alloc ?_ (by simp) _)) (hb.mono (by simp))
        clear hb
        clear B0l B0u B0v
        clear BLl BLu BLv
        replace B0 := B0.keep hB
        replace BL := BL.keep hB
        replace Xb := Xb.keep hB
        replace XL := XL.keep hB
        replace hw := hw.trans (hB.mono hw.size)
        clear hB
        have B0l := B0.1
        have B0u := B0.2.1
        have B0v := B0.2.2
        have BLl := BL.1
        have BLu := BL.2.1
        have BLv := BL.2.2
        go_wp2_with fail
        refine (check_c _ _ _ _ _ (XL.keep (by repeat (first | exact Below.refl _ _ | apply Below.drew | apply below_drewN | refine Below.alloc ?_ (by simp) _)))).mono ?_
        rintro e w7 ⟨rfl, hb⟩
        have hB : Below w6.heap.size w6 w7 := Below.trans (by repeat (first | exact Below.refl _ _ | apply Below.drew | apply below_drewN | refine Below.alloc ?_ (by simp) _)) (hb.mono (by simp))
        clear hb
        clear B0l B0u B0v
        clear BLl BLu BLv
        replace B0 := B0.keep hB
        replace BL := BL.keep hB
        replace Xb := Xb.keep hB
        replace XL := XL.keep hB
        replace hw := hw.trans (hB.mono hw.size)
        clear hB
        have B0l := B0.1
        have B0u := B0.2.1
        have B0v := B0.2.2
        have BLl := BL.1
        have BLu := BL.2.1
        have BLv := BL.2.2
        go_wp2_with fail
        refine (heads_c _).mono ?_
        rintro e w8 ⟨rfl, hb⟩
        have hB : Below w7.heap.size w7 w8 := Below.trans (by repeat (first | exact Below.refl _ _ | apply Below.drew | apply below_drewN | refine Below.alloc ?_ (by simp) _)) (hb.mono (by simp))
        clear hb
        clear B0l B0u B0v
        clear BLl BLu BLv
        replace B0 := B0.keep hB
        replace BL := BL.keep hB
        replace Xb := Xb.keep hB
        replace XL := XL.keep hB
        replace hw := hw.trans (hB.mono hw.size)
        clear hB
        have B0l := B0.1
        have B0u := B0.2.1
        have B0v := B0.2.2
        have BLl := BL.1
        have BLu := BL.2.1
        have BLv := BL.2.2
        go_wp2
        go_ret
        exact ⟨rfl, hw⟩
      case neg =>
        have i1' : decide (i < 0) = false := by simpa using i1
        by_cases i2 : Nb ≤ i
        case pos =>
          clear D1 D2
          go_enter Try.func7, Try.ntmps7
          have hw : Below w.heap.size w w := Below.refl _ _
          go_wp2_with fail
          refine (small_c _ _ _ _ _).mono ?_
          rintro e w1 ⟨rfl, hb⟩
          have B0 := Box.new hb
          have hB : Below w.heap.size w w1 := Below.trans (by repeat (first | exact Below.refl _ _ | apply Below.drew | apply below_drewN | refine Below.alloc ?_ (by simp) _)) (hb.mono (by simp))
          clear hb
          replace Xb := Xb.keep hB
          replace hw := hw.trans (hB.mono hw.size)
          clear hB
          have B0l := B0.1
          have B0u := B0.2.1
          have B0v := B0.2.2
          go_wp2_with fail
          refine (check_c _ _ _ _ _ (Xb.keep (by repeat (first | exact Below.refl _ _ | apply Below.drew | apply below_drewN | refine Below.alloc ?_ (by simp) _)))).mono ?_
          rintro e w2 ⟨rfl, hb⟩
          have hB : Below w1.heap.size w1 w2 := Below.trans (by repeat (first | exact Below.refl _ _ | apply Below.drew | apply below_drewN | refine Below.alloc ?_ (by simp) _)) (hb.mono (by simp))
          clear hb
          clear B0l B0u B0v
          replace B0 := B0.keep hB
          replace Xb := Xb.keep hB
          replace hw := hw.trans (hB.mono hw.size)
          clear hB
          have B0l := B0.1
          have B0u := B0.2.1
          have B0v := B0.2.2
          go_wp2_with fail
          refine (app_c _ _ _ _ _ _ _ (Xb.keep (by repeat (first | exact Below.refl _ _ | apply Below.drew | apply below_drewN | refine Below.alloc ?_ (by simp) _))) Fb HY.out (by omega)).mono ?_
          rintro e w3 ⟨lo, lc, rfl, XL, FL, CL, hb⟩
          have hB : Below w2.heap.size w2 w3 := Below.trans (by repeat (first | exact Below.refl _ _ | apply Below.drew | apply below_drewN | refine Below.alloc ?_ (by simp) _)) (hb.mono (by simp))
          clear hb
          clear B0l B0u B0v
          replace B0 := B0.keep hB
          replace Xb := Xb.keep hB
          replace hw := hw.trans (hB.mono hw.size)
          clear hB
          have B0l := B0.1
          have B0u := B0.2.1
          have B0v := B0.2.2
          go_wp2_with fail
          refine (slice_c _ _ _ _ _ _ _ (XL.keep (by repeat (first | exact Below.refl _ _ | apply Below.drew | apply below_drewN | refine Below.alloc ?_ (by simp) _))) FL (by omega) (by omega) (by omega) (by omega)).mono ?_
          rintro e w4 ⟨rfl, hb⟩
          have BL := Box.new hb
          have hB : Below w3.heap.size w3 w4 := Below.trans (by repeat (first | exact Below.refl _ _ | apply Below.drew | apply below_drewN | refine Below.alloc ?_ (by simp) _)) (hb.mono (by simp))
          clear hb
          clear B0l B0u B0v
          replace B0 := B0.keep hB
          replace Xb := Xb.keep hB
          replace XL := XL.keep hB
          replace hw := hw.trans (hB.mono hw.size)
          clear hB
          have B0l := B0.1
          have B0u := B0.2.1
          have B0v := B0.2.2
          have BLl := BL.1
          have BLu := BL.2.1
          have BLv := BL.2.2
          go_wp2_with fail
          refine (get_c _ _ _ _ _ _ (Xb.keep (by repeat (first | exact Below.refl _ _ | apply Below.drew | apply below_drewN | refine Below.alloc ?_ (by simp) _))) Fb).mono ?_
          rintro e w5 ⟨rfl, hb⟩
          have hB : Below w4.heap.size w4 w5 := Below.trans (by repeat (first | exact Below.refl _ _ | apply Below.drew | apply below_drewN | refine Below.alloc ?_ (by simp) _)) (hb.mono (by simp))
          clear hb
          clear B0l B0u B0v
          clear BLl BLu BLv
          replace B0 := B0.keep hB
          replace BL := BL.keep hB
          replace Xb := Xb.keep hB
          replace XL := XL.keep hB
          replace hw := hw.trans (hB.mono hw.size)
          clear hB
          have B0l := B0.1
          have B0u := B0.2.1
          have B0v := B0.2.2
          have BLl := BL.1
          have BLu := BL.2.1
          have BLv := BL.2.2
          go_wp2_with fail
          refine (get_c _ _ _ _ _ _ (XL.keep (by repeat (first | exact Below.refl _ _ | apply Below.drew | apply below_drewN | refine Below.alloc ?_ (by simp) _))) FL).mono ?_
          rintro e w6 ⟨rfl, hb⟩
          have hB : Below w5.heap.size w5 w6 := Below.trans (by repeat (first | exact Below.refl _ _ | apply Below.drew | apply below_drewN | refine Below.alloc ?_ (by simp) _)) (hb.mono (by simp))
          clear hb
          clear B0l B0u B0v
          clear BLl BLu BLv
          replace B0 := B0.keep hB
          replace BL := BL.keep hB
          replace Xb := Xb.keep hB
          replace XL := XL.keep hB
          replace hw := hw.trans (hB.mono hw.size)
          clear hB
          have B0l := B0.1
          have B0u := B0.2.1
          have B0v := B0.2.2
          have BLl := BL.1
          have BLu := BL.2.1
          have BLv := BL.2.2
          go_wp2_with fail
          refine (check_c _ _ _ _ _ (XL.keep (by repeat (first | exact Below.refl _ _ | apply Below.drew | apply below_drewN | refine Below.alloc ?_ (by simp) _)))).mono ?_
          rintro e w7 ⟨rfl, hb⟩
          have hB : Below w6.heap.size w6 w7 := Below.trans (by repeat (first | exact Below.refl _ _ | apply Below.drew | apply below_drewN | refine Below.alloc ?_ (by simp) _)) (hb.mono (by simp))
          clear hb
          clear B0l B0u B0v
          clear BLl BLu BLv
          replace B0 := B0.keep hB
          replace BL := BL.keep hB
          replace Xb := Xb.keep hB
          replace XL := XL.keep hB
          replace hw := hw.trans (hB.mono hw.size)
          clear hB
          have B0l := B0.1
          have B0u := B0.2.1
          have B0v := B0.2.2
          have BLl := BL.1
          have BLu := BL.2.1
          have BLv := BL.2.2
          go_wp2_with fail
          refine (heads_c _).mono ?_
          rintro e w8 ⟨rfl, hb⟩
          have hB : Below w7.heap.size w7 w8 := Below.trans (by repeat (first | exact Below.refl _ _ | apply Below.drew | apply below_drewN | refine Below.alloc ?_ (by simp) _)) (hb.mono (by simp))
          clear hb
          clear B0l B0u B0v
          clear BLl BLu BLv
          replace B0 := B0.keep hB
          replace BL := BL.keep hB
          replace Xb := Xb.keep hB
          replace XL := XL.keep hB
          replace hw := hw.trans (hB.mono hw.size)
          clear hB
          have B0l := B0.1
          have B0u := B0.2.1
          have B0v := B0.2.2
          have BLl := BL.1
          have BLu := BL.2.1
          have BLv := BL.2.2
          go_wp2
          go_ret
          exact ⟨rfl, hw⟩
        case neg =>
          have G1 := D1 i (by omega) (by omega)
          obtain ⟨G1, G2, G3⟩ := G1
          have i2' : decide (Nb ≤ i) = false := by simpa using i2
          clear D1 D2
          go_enter Try.func7, Try.ntmps7
          have hw : Below w.heap.size w w := Below.refl _ _
          go_wp2_with fail
          refine (small_c _ _ _ _ _).mono ?_
          rintro e w1 ⟨rfl, hb⟩
          have B0 := Box.new hb
          have hB : Below w.heap.size w w1 := Below.trans (by repeat (first | exact Below.refl _ _ | apply Below.drew | apply below_drewN | refine Below.alloc ?_ (by simp) _)) (hb.mono (by simp))
          clear hb
          replace Xb := Xb.keep hB
          replace hw := hw.trans (hB.mono hw.size)
          clear hB
          have B0l := B0.1
          have B0u := B0.2.1
          have B0v := B0.2.2
          go_wp2_with fail
          refine (check_c _ _ _ _ _ (Xb.keep (by repeat (first | exact Below.refl _ _ | apply Below.drew | apply below_drewN | refine Below.alloc ?_ (by simp) _)))).mono ?_
          rintro e w2 ⟨rfl, hb⟩
          have hB : Below w1.heap.size w1 w2 := Below.trans (by repeat (first | exact Below.refl _ _ | apply Below.drew | apply below_drewN | refine Below.alloc ?_ (by simp) _)) (hb.mono (by simp))
          clear hb
          clear B0l B0u B0v
          replace B0 := B0.keep hB
          replace Xb := Xb.keep hB
          replace hw := hw.trans (hB.mono hw.size)
          clear hB
          have B0l := B0.1
          have B0u := B0.2.1
          have B0v := B0.2.2
          go_wp2_with fail
          refine (app_c _ _ _ _ _ _ _ (Xb.keep (by repeat (first | exact Below.refl _ _ | apply Below.drew | apply below_drewN | refine Below.alloc ?_ (by simp) _))) Fb HY.out (by omega)).mono ?_
          rintro e w3 ⟨lo, lc, rfl, XL, FL, CL, hb⟩
          have hB : Below w2.heap.size w2 w3 := Below.trans (by repeat (first | exact Below.refl _ _ | apply Below.drew | apply below_drewN | refine Below.alloc ?_ (by simp) _)) (hb.mono (by simp))
          clear hb
          clear B0l B0u B0v
          replace B0 := B0.keep hB
          replace Xb := Xb.keep hB
          replace hw := hw.trans (hB.mono hw.size)
          clear hB
          have B0l := B0.1
          have B0u := B0.2.1
          have B0v := B0.2.2
          go_wp2_with fail
          refine (slice_c _ _ _ _ _ _ _ (XL.keep (by repeat (first | exact Below.refl _ _ | apply Below.drew | apply below_drewN | refine Below.alloc ?_ (by simp) _))) FL (by omega) (by omega) (by omega) (by omega)).mono ?_
          rintro e w4 ⟨rfl, hb⟩
          have BL := Box.new hb
          have hB : Below w3.heap.size w3 w4 := Below.trans (by repeat (first | exact Below.refl _ _ | apply Below.drew | apply below_drewN | refine Below.alloc ?_ (by simp) _)) (hb.mono (by simp))
          clear hb
          clear B0l B0u B0v
          replace B0 := B0.keep hB
          replace Xb := Xb.keep hB
          replace XL := XL.keep hB
          replace hw := hw.trans (hB.mono hw.size)
          clear hB
          have B0l := B0.1
          have B0u := B0.2.1
          have B0v := B0.2.2
          have BLl := BL.1
          have BLu := BL.2.1
          have BLv := BL.2.2
          go_wp2_with fail
          refine (get_c _ _ _ _ _ _ (Xb.keep (by repeat (first | exact Below.refl _ _ | apply Below.drew | apply below_drewN | refine Below.alloc ?_ (by simp) _))) Fb).mono ?_
          rintro e w5 ⟨rfl, hb⟩
          have hB : Below w4.heap.size w4 w5 := Below.trans (by repeat (first | exact Below.refl _ _ | apply Below.drew | apply below_drewN | refine Below.alloc ?_ (by simp) _)) (hb.mono (by simp))
          clear hb
          clear B0l B0u B0v
          clear BLl BLu BLv
          replace B0 := B0.keep hB
          replace BL := BL.keep hB
          replace Xb := Xb.keep hB
          replace XL := XL.keep hB
          replace hw := hw.trans (hB.mono hw.size)
          clear hB
          have B0l := B0.1
          have B0u := B0.2.1
          have B0v := B0.2.2
          have BLl := BL.1
          have BLu := BL.2.1
          have BLv := BL.2.2
          go_wp2_with fail
          refine (get_c _ _ _ _ _ _ (XL.keep (by repeat (first | exact Below.refl _ _ | apply Below.drew | apply below_drewN | refine Below.alloc ?_ (by simp) _))) FL).mono ?_
          rintro e w6 ⟨rfl, hb⟩
          have hB : Below w5.heap.size w5 w6 := Below.trans (by repeat (first | exact Below.refl _ _ | apply Below.drew | apply below_drewN | refine Below.alloc ?_ (by simp) _)) (hb.mono (by simp))
          clear hb
          clear B0l B0u B0v
          clear BLl BLu BLv
          replace B0 := B0.keep hB
          replace BL := BL.keep hB
          replace Xb := Xb.keep hB
          replace XL := XL.keep hB
          replace hw := hw.trans (hB.mono hw.size)
          clear hB
          have B0l := B0.1
          have B0u := B0.2.1
          have B0v := B0.2.2
          have BLl := BL.1
          have BLu := BL.2.1
          have BLv := BL.2.2
          go_wp2_with fail
          refine (check_c _ _ _ _ _ (XL.keep (by repeat (first | exact Below.refl _ _ | apply Below.drew | apply below_drewN | refine Below.alloc ?_ (by simp) _)))).mono ?_
          rintro e w7 ⟨rfl, hb⟩
          have hB : Below w6.heap.size w6 w7 := Below.trans (by repeat (first | exact Below.refl _ _ | apply Below.drew | apply below_drewN | refine Below.alloc ?_ (by simp) _)) (hb.mono (by simp))
          clear hb
          clear B0l B0u B0v
          clear BLl BLu BLv
          replace B0 := B0.keep hB
          replace BL := BL.keep hB
          replace Xb := Xb.keep hB
          replace XL := XL.keep hB
          replace hw := hw.trans (hB.mono hw.size)
          clear hB
          have B0l := B0.1
          have B0u := B0.2.1
          have B0v := B0.2.2
          have BLl := BL.1
          have BLu := BL.2.1
          have BLv := BL.2.2
          go_wp2_with fail
          refine (heads_c _).mono ?_
          rintro e w8 ⟨rfl, hb⟩
          have hB : Below w7.heap.size w7 w8 := Below.trans (by repeat (first | exact Below.refl _ _ | apply Below.drew | apply below_drewN | refine Below.alloc ?_ (by simp) _)) (hb.mono (by simp))
          clear hb
          clear B0l B0u B0v
          clear BLl BLu BLv
          replace B0 := B0.keep hB
          replace BL := BL.keep hB
          replace Xb := Xb.keep hB
          replace XL := XL.keep hB
          replace hw := hw.trans (hB.mono hw.size)
          clear hB
          have B0l := B0.1
          have B0u := B0.2.1
          have B0v := B0.2.2
          have BLl := BL.1
          have BLu := BL.2.1
          have BLv := BL.2.2
          go_wp2
          go_ret
          exact ⟨rfl, hw⟩
    case neg =>
      obtain ⟨p, rfl⟩ := Int.eq_ofNat_of_zero_le (show 0 ≤ n by omega)
      have p64 : p < 64 := by omega
      obtain ⟨A1, A2, B1, B2, C1, D1, D2⟩ := back_facts Nb xb hk y p (by omega) (by omega) (by omega)
      have V : ((slcX (Nb + p) (appL Nb xb y p) Nb p : Int) == bits .and .u64 (y : Int) (IntKind.u64.wrap (IntKind.u64.wrap (2 ^ p) - 1))) = true := by
        rw [B2, back_want y p HY.out p64, beq_iff_eq]; rfl
      clear B2 h1 h1'
      by_cases i1 : i < 0
      case pos =>
        clear D1 D2
        go_enter Try.func7, Try.ntmps7
        have hw : Below w.heap.size w w := Below.refl _ _
        go_wp2_with fail
        refine (small_c _ _ _ _ _).mono ?_
        rintro e w1 ⟨rfl, hb⟩
        have B0 := Box.new hb
        have hB : Below w.heap.size w w1 := Below.trans (by repeat (first | exact Below.refl _ _ | apply Below.drew | apply below_drewN | refine Below.alloc ?_ (by simp) _)) (hb.mono (by simp))
        clear hb
        replace Xb := Xb.keep hB
        replace hw := hw.trans (hB.mono hw.size)
        clear hB
        have B0l := B0.1
        have B0u := B0.2.1
        have B0v := B0.2.2
        go_wp2_with fail
        refine (check_c _ _ _ _ _ (Xb.keep (by repeat (first | exact Below.refl _ _ | apply Below.drew | apply below_drewN | refine Below.alloc ?_ (by simp) _)))).mono ?_
        rintro e w2 ⟨rfl, hb⟩
        have hB : Below w1.heap.size w1 w2 := Below.trans (by repeat (first | exact Below.refl _ _ | apply Below.drew | apply below_drewN | refine Below.alloc ?_ (by simp) _)) (hb.mono (by simp))
        clear hb
        clear B0l B0u B0v
        replace B0 := B0.keep hB
        replace Xb := Xb.keep hB
        replace hw := hw.trans (hB.mono hw.size)
        clear hB
        have B0l := B0.1
        have B0u := B0.2.1
        have B0v := B0.2.2
        go_wp2_with fail
        refine (app_c _ _ _ _ _ _ _ (Xb.keep (by repeat (first | exact Below.refl _ _ | apply Below.drew | apply below_drewN | refine Below.alloc ?_ (by simp) _))) Fb HY.out (by omega)).mono ?_
        rintro e w3 ⟨lo, lc, rfl, XL, FL, CL, hb⟩
        have hB : Below w2.heap.size w2 w3 := Below.trans (by repeat (first | exact Below.refl _ _ | apply Below.drew | apply below_drewN | refine Below.alloc ?_ (by simp) _)) (hb.mono (by simp))
        clear hb
        clear B0l B0u B0v
        replace B0 := B0.keep hB
        replace Xb := Xb.keep hB
        replace hw := hw.trans (hB.mono hw.size)
        clear hB
        have B0l := B0.1
        have B0u := B0.2.1
        have B0v := B0.2.2
        go_wp2_with fail
        refine (slice_c _ _ _ _ _ _ _ (XL.keep (by repeat (first | exact Below.refl _ _ | apply Below.drew | apply below_drewN | refine Below.alloc ?_ (by simp) _))) FL (by omega) (by omega) (by omega) (by omega)).mono ?_
        rintro e w4 ⟨rfl, hb⟩
        have BL := Box.new hb
        have hB : Below w3.heap.size w3 w4 := Below.trans (by repeat (first | exact Below.refl _ _ | apply Below.drew | apply below_drewN | refine Below.alloc ?_ (by simp) _)) (hb.mono (by simp))
        clear hb
        clear B0l B0u B0v
        replace B0 := B0.keep hB
        replace Xb := Xb.keep hB
        replace XL := XL.keep hB
        replace hw := hw.trans (hB.mono hw.size)
        clear hB
        have B0l := B0.1
        have B0u := B0.2.1
        have B0v := B0.2.2
        have BLl := BL.1
        have BLu := BL.2.1
        have BLv := BL.2.2
        go_wp2_with fail
        refine (get_c _ _ _ _ _ _ (Xb.keep (by repeat (first | exact Below.refl _ _ | apply Below.drew | apply below_drewN | refine Below.alloc ?_ (by simp) _))) Fb).mono ?_
        rintro e w5 ⟨rfl, hb⟩
        have hB : Below w4.heap.size w4 w5 := Below.trans (by repeat (first | exact Below.refl _ _ | apply Below.drew | apply below_drewN | refine Below.alloc ?_ (by simp) _)) (hb.mono (by simp))
        clear hb
        clear B0l B0u B0v
        clear BLl BLu BLv
        replace B0 := B0.keep hB
        replace BL := BL.keep hB
        replace Xb := Xb.keep hB
        replace XL := XL.keep hB
        replace hw := hw.trans (hB.mono hw.size)
        clear hB
        have B0l := B0.1
        have B0u := B0.2.1
        have B0v := B0.2.2
        have BLl := BL.1
        have BLu := BL.2.1
        have BLv := BL.2.2
        go_wp2_with fail
        refine (get_c _ _ _ _ _ _ (XL.keep (by repeat (first | exact Below.refl _ _ | apply Below.drew | apply below_drewN | refine Below.alloc ?_ (by simp) _))) FL).mono ?_
        rintro e w6 ⟨rfl, hb⟩
        have hB : Below w5.heap.size w5 w6 := Below.trans (by repeat (first | exact Below.refl _ _ | apply Below.drew | apply below_drewN | refine Below.alloc ?_ (by simp) _)) (hb.mono (by simp))
        clear hb
        clear B0l B0u B0v
        clear BLl BLu BLv
        replace B0 := B0.keep hB
        replace BL := BL.keep hB
        replace Xb := Xb.keep hB
        replace XL := XL.keep hB
        replace hw := hw.trans (hB.mono hw.size)
        clear hB
        have B0l := B0.1
        have B0u := B0.2.1
        have B0v := B0.2.2
        have BLl := BL.1
        have BLu := BL.2.1
        have BLv := BL.2.2
        go_wp2_with fail
        refine (check_c _ _ _ _ _ (XL.keep (by repeat (first | exact Below.refl _ _ | apply Below.drew | apply below_drewN | refine Below.alloc ?_ (by simp) _)))).mono ?_
        rintro e w7 ⟨rfl, hb⟩
        have hB : Below w6.heap.size w6 w7 := Below.trans (by repeat (first | exact Below.refl _ _ | apply Below.drew | apply below_drewN | refine Below.alloc ?_ (by simp) _)) (hb.mono (by simp))
        clear hb
        clear B0l B0u B0v
        clear BLl BLu BLv
        replace B0 := B0.keep hB
        replace BL := BL.keep hB
        replace Xb := Xb.keep hB
        replace XL := XL.keep hB
        replace hw := hw.trans (hB.mono hw.size)
        clear hB
        have B0l := B0.1
        have B0u := B0.2.1
        have B0v := B0.2.2
        have BLl := BL.1
        have BLu := BL.2.1
        have BLv := BL.2.2
        go_wp2_with fail
        refine (heads_c _).mono ?_
        rintro e w8 ⟨rfl, hb⟩
        have hB : Below w7.heap.size w7 w8 := Below.trans (by repeat (first | exact Below.refl _ _ | apply Below.drew | apply below_drewN | refine Below.alloc ?_ (by simp) _)) (hb.mono (by simp))
        clear hb
        clear B0l B0u B0v
        clear BLl BLu BLv
        replace B0 := B0.keep hB
        replace BL := BL.keep hB
        replace Xb := Xb.keep hB
        replace XL := XL.keep hB
        replace hw := hw.trans (hB.mono hw.size)
        clear hB
        have B0l := B0.1
        have B0u := B0.2.1
        have B0v := B0.2.2
        have BLl := BL.1
        have BLu := BL.2.1
        have BLv := BL.2.2
        go_wp2
        go_ret
        exact ⟨rfl, hw⟩
      case neg =>
        have i1' : decide (i < 0) = false := by simpa using i1
        by_cases i2 : Nb ≤ i
        case pos =>
          clear D1 D2
          go_enter Try.func7, Try.ntmps7
          have hw : Below w.heap.size w w := Below.refl _ _
          go_wp2_with fail
          refine (small_c _ _ _ _ _).mono ?_
          rintro e w1 ⟨rfl, hb⟩
          have B0 := Box.new hb
          have hB : Below w.heap.size w w1 := Below.trans (by repeat (first | exact Below.refl _ _ | apply Below.drew | apply below_drewN | refine Below.alloc ?_ (by simp) _)) (hb.mono (by simp))
          clear hb
          replace Xb := Xb.keep hB
          replace hw := hw.trans (hB.mono hw.size)
          clear hB
          have B0l := B0.1
          have B0u := B0.2.1
          have B0v := B0.2.2
          go_wp2_with fail
          refine (check_c _ _ _ _ _ (Xb.keep (by repeat (first | exact Below.refl _ _ | apply Below.drew | apply below_drewN | refine Below.alloc ?_ (by simp) _)))).mono ?_
          rintro e w2 ⟨rfl, hb⟩
          have hB : Below w1.heap.size w1 w2 := Below.trans (by repeat (first | exact Below.refl _ _ | apply Below.drew | apply below_drewN | refine Below.alloc ?_ (by simp) _)) (hb.mono (by simp))
          clear hb
          clear B0l B0u B0v
          replace B0 := B0.keep hB
          replace Xb := Xb.keep hB
          replace hw := hw.trans (hB.mono hw.size)
          clear hB
          have B0l := B0.1
          have B0u := B0.2.1
          have B0v := B0.2.2
          go_wp2_with fail
          refine (app_c _ _ _ _ _ _ _ (Xb.keep (by repeat (first | exact Below.refl _ _ | apply Below.drew | apply below_drewN | refine Below.alloc ?_ (by simp) _))) Fb HY.out (by omega)).mono ?_
          rintro e w3 ⟨lo, lc, rfl, XL, FL, CL, hb⟩
          have hB : Below w2.heap.size w2 w3 := Below.trans (by repeat (first | exact Below.refl _ _ | apply Below.drew | apply below_drewN | refine Below.alloc ?_ (by simp) _)) (hb.mono (by simp))
          clear hb
          clear B0l B0u B0v
          replace B0 := B0.keep hB
          replace Xb := Xb.keep hB
          replace hw := hw.trans (hB.mono hw.size)
          clear hB
          have B0l := B0.1
          have B0u := B0.2.1
          have B0v := B0.2.2
          go_wp2_with fail
          refine (slice_c _ _ _ _ _ _ _ (XL.keep (by repeat (first | exact Below.refl _ _ | apply Below.drew | apply below_drewN | refine Below.alloc ?_ (by simp) _))) FL (by omega) (by omega) (by omega) (by omega)).mono ?_
          rintro e w4 ⟨rfl, hb⟩
          have BL := Box.new hb
          have hB : Below w3.heap.size w3 w4 := Below.trans (by repeat (first | exact Below.refl _ _ | apply Below.drew | apply below_drewN | refine Below.alloc ?_ (by simp) _)) (hb.mono (by simp))
          clear hb
          clear B0l B0u B0v
          replace B0 := B0.keep hB
          replace Xb := Xb.keep hB
          replace XL := XL.keep hB
          replace hw := hw.trans (hB.mono hw.size)
          clear hB
          have B0l := B0.1
          have B0u := B0.2.1
          have B0v := B0.2.2
          have BLl := BL.1
          have BLu := BL.2.1
          have BLv := BL.2.2
          go_wp2_with fail
          refine (get_c _ _ _ _ _ _ (Xb.keep (by repeat (first | exact Below.refl _ _ | apply Below.drew | apply below_drewN | refine Below.alloc ?_ (by simp) _))) Fb).mono ?_
          rintro e w5 ⟨rfl, hb⟩
          have hB : Below w4.heap.size w4 w5 := Below.trans (by repeat (first | exact Below.refl _ _ | apply Below.drew | apply below_drewN | refine Below.alloc ?_ (by simp) _)) (hb.mono (by simp))
          clear hb
          clear B0l B0u B0v
          clear BLl BLu BLv
          replace B0 := B0.keep hB
          replace BL := BL.keep hB
          replace Xb := Xb.keep hB
          replace XL := XL.keep hB
          replace hw := hw.trans (hB.mono hw.size)
          clear hB
          have B0l := B0.1
          have B0u := B0.2.1
          have B0v := B0.2.2
          have BLl := BL.1
          have BLu := BL.2.1
          have BLv := BL.2.2
          go_wp2_with fail
          refine (get_c _ _ _ _ _ _ (XL.keep (by repeat (first | exact Below.refl _ _ | apply Below.drew | apply below_drewN | refine Below.alloc ?_ (by simp) _))) FL).mono ?_
          rintro e w6 ⟨rfl, hb⟩
          have hB : Below w5.heap.size w5 w6 := Below.trans (by repeat (first | exact Below.refl _ _ | apply Below.drew | apply below_drewN | refine Below.alloc ?_ (by simp) _)) (hb.mono (by simp))
          clear hb
          clear B0l B0u B0v
          clear BLl BLu BLv
          replace B0 := B0.keep hB
          replace BL := BL.keep hB
          replace Xb := Xb.keep hB
          replace XL := XL.keep hB
          replace hw := hw.trans (hB.mono hw.size)
          clear hB
          have B0l := B0.1
          have B0u := B0.2.1
          have B0v := B0.2.2
          have BLl := BL.1
          have BLu := BL.2.1
          have BLv := BL.2.2
          go_wp2_with fail
          refine (check_c _ _ _ _ _ (XL.keep (by repeat (first | exact Below.refl _ _ | apply Below.drew | apply below_drewN | refine Below.alloc ?_ (by simp) _)))).mono ?_
          rintro e w7 ⟨rfl, hb⟩
          have hB : Below w6.heap.size w6 w7 := Below.trans (by repeat (first | exact Below.refl _ _ | apply Below.drew | apply below_drewN | refine Below.alloc ?_ (by simp) _)) (hb.mono (by simp))
          clear hb
          clear B0l B0u B0v
          clear BLl BLu BLv
          replace B0 := B0.keep hB
          replace BL := BL.keep hB
          replace Xb := Xb.keep hB
          replace XL := XL.keep hB
          replace hw := hw.trans (hB.mono hw.size)
          clear hB
          have B0l := B0.1
          have B0u := B0.2.1
          have B0v := B0.2.2
          have BLl := BL.1
          have BLu := BL.2.1
          have BLv := BL.2.2
          go_wp2_with fail
          refine (heads_c _).mono ?_
          rintro e w8 ⟨rfl, hb⟩
          have hB : Below w7.heap.size w7 w8 := Below.trans (by repeat (first | exact Below.refl _ _ | apply Below.drew | apply below_drewN | refine Below.alloc ?_ (by simp) _)) (hb.mono (by simp))
          clear hb
          clear B0l B0u B0v
          clear BLl BLu BLv
          replace B0 := B0.keep hB
          replace BL := BL.keep hB
          replace Xb := Xb.keep hB
          replace XL := XL.keep hB
          replace hw := hw.trans (hB.mono hw.size)
          clear hB
          have B0l := B0.1
          have B0u := B0.2.1
          have B0v := B0.2.2
          have BLl := BL.1
          have BLu := BL.2.1
          have BLv := BL.2.2
          go_wp2
          go_ret
          exact ⟨rfl, hw⟩
        case neg =>
          have G1 := D1 i (by omega) (by omega)
          obtain ⟨G1, G2, G3⟩ := G1
          have i2' : decide (Nb ≤ i) = false := by simpa using i2
          clear D1 D2
          go_enter Try.func7, Try.ntmps7
          have hw : Below w.heap.size w w := Below.refl _ _
          go_wp2_with fail
          refine (small_c _ _ _ _ _).mono ?_
          rintro e w1 ⟨rfl, hb⟩
          have B0 := Box.new hb
          have hB : Below w.heap.size w w1 := Below.trans (by repeat (first | exact Below.refl _ _ | apply Below.drew | apply below_drewN | refine Below.alloc ?_ (by simp) _)) (hb.mono (by simp))
          clear hb
          replace Xb := Xb.keep hB
          replace hw := hw.trans (hB.mono hw.size)
          clear hB
          have B0l := B0.1
          have B0u := B0.2.1
          have B0v := B0.2.2
          go_wp2_with fail
          refine (check_c _ _ _ _ _ (Xb.keep (by repeat (first | exact Below.refl _ _ | apply Below.drew | apply below_drewN | refine Below.alloc ?_ (by simp) _)))).mono ?_
          rintro e w2 ⟨rfl, hb⟩
          have hB : Below w1.heap.size w1 w2 := Below.trans (by repeat (first | exact Below.refl _ _ | apply Below.drew | apply below_drewN | refine Below.alloc ?_ (by simp) _)) (hb.mono (by simp))
          clear hb
          clear B0l B0u B0v
          replace B0 := B0.keep hB
          replace Xb := Xb.keep hB
          replace hw := hw.trans (hB.mono hw.size)
          clear hB
          have B0l := B0.1
          have B0u := B0.2.1
          have B0v := B0.2.2
          go_wp2_with fail
          refine (app_c _ _ _ _ _ _ _ (Xb.keep (by repeat (first | exact Below.refl _ _ | apply Below.drew | apply below_drewN | refine Below.alloc ?_ (by simp) _))) Fb HY.out (by omega)).mono ?_
          rintro e w3 ⟨lo, lc, rfl, XL, FL, CL, hb⟩
          have hB : Below w2.heap.size w2 w3 := Below.trans (by repeat (first | exact Below.refl _ _ | apply Below.drew | apply below_drewN | refine Below.alloc ?_ (by simp) _)) (hb.mono (by simp))
          clear hb
          clear B0l B0u B0v
          replace B0 := B0.keep hB
          replace Xb := Xb.keep hB
          replace hw := hw.trans (hB.mono hw.size)
          clear hB
          have B0l := B0.1
          have B0u := B0.2.1
          have B0v := B0.2.2
          go_wp2_with fail
          refine (slice_c _ _ _ _ _ _ _ (XL.keep (by repeat (first | exact Below.refl _ _ | apply Below.drew | apply below_drewN | refine Below.alloc ?_ (by simp) _))) FL (by omega) (by omega) (by omega) (by omega)).mono ?_
          rintro e w4 ⟨rfl, hb⟩
          have BL := Box.new hb
          have hB : Below w3.heap.size w3 w4 := Below.trans (by repeat (first | exact Below.refl _ _ | apply Below.drew | apply below_drewN | refine Below.alloc ?_ (by simp) _)) (hb.mono (by simp))
          clear hb
          clear B0l B0u B0v
          replace B0 := B0.keep hB
          replace Xb := Xb.keep hB
          replace XL := XL.keep hB
          replace hw := hw.trans (hB.mono hw.size)
          clear hB
          have B0l := B0.1
          have B0u := B0.2.1
          have B0v := B0.2.2
          have BLl := BL.1
          have BLu := BL.2.1
          have BLv := BL.2.2
          go_wp2_with fail
          refine (get_c _ _ _ _ _ _ (Xb.keep (by repeat (first | exact Below.refl _ _ | apply Below.drew | apply below_drewN | refine Below.alloc ?_ (by simp) _))) Fb).mono ?_
          rintro e w5 ⟨rfl, hb⟩
          have hB : Below w4.heap.size w4 w5 := Below.trans (by repeat (first | exact Below.refl _ _ | apply Below.drew | apply below_drewN | refine Below.alloc ?_ (by simp) _)) (hb.mono (by simp))
          clear hb
          clear B0l B0u B0v
          clear BLl BLu BLv
          replace B0 := B0.keep hB
          replace BL := BL.keep hB
          replace Xb := Xb.keep hB
          replace XL := XL.keep hB
          replace hw := hw.trans (hB.mono hw.size)
          clear hB
          have B0l := B0.1
          have B0u := B0.2.1
          have B0v := B0.2.2
          have BLl := BL.1
          have BLu := BL.2.1
          have BLv := BL.2.2
          go_wp2_with fail
          refine (get_c _ _ _ _ _ _ (XL.keep (by repeat (first | exact Below.refl _ _ | apply Below.drew | apply below_drewN | refine Below.alloc ?_ (by simp) _))) FL).mono ?_
          rintro e w6 ⟨rfl, hb⟩
          have hB : Below w5.heap.size w5 w6 := Below.trans (by repeat (first | exact Below.refl _ _ | apply Below.drew | apply below_drewN | refine Below.alloc ?_ (by simp) _)) (hb.mono (by simp))
          clear hb
          clear B0l B0u B0v
          clear BLl BLu BLv
          replace B0 := B0.keep hB
          replace BL := BL.keep hB
          replace Xb := Xb.keep hB
          replace XL := XL.keep hB
          replace hw := hw.trans (hB.mono hw.size)
          clear hB
          have B0l := B0.1
          have B0u := B0.2.1
          have B0v := B0.2.2
          have BLl := BL.1
          have BLu := BL.2.1
          have BLv := BL.2.2
          go_wp2_with fail
          refine (check_c _ _ _ _ _ (XL.keep (by repeat (first | exact Below.refl _ _ | apply Below.drew | apply below_drewN | refine Below.alloc ?_ (by simp) _)))).mono ?_
          rintro e w7 ⟨rfl, hb⟩
          have hB : Below w6.heap.size w6 w7 := Below.trans (by repeat (first | exact Below.refl _ _ | apply Below.drew | apply below_drewN | refine Below.alloc ?_ (by simp) _)) (hb.mono (by simp))
          clear hb
          clear B0l B0u B0v
          clear BLl BLu BLv
          replace B0 := B0.keep hB
          replace BL := BL.keep hB
          replace Xb := Xb.keep hB
          replace XL := XL.keep hB
          replace hw := hw.trans (hB.mono hw.size)
          clear hB
          have B0l := B0.1
          have B0u := B0.2.1
          have B0v := B0.2.2
          have BLl := BL.1
          have BLu := BL.2.1
          have BLv := BL.2.2
          go_wp2_with fail
          refine (heads_c _).mono ?_
          rintro e w8 ⟨rfl, hb⟩
          have hB : Below w7.heap.size w7 w8 := Below.trans (by repeat (first | exact Below.refl _ _ | apply Below.drew | apply below_drewN | refine Below.alloc ?_ (by simp) _)) (hb.mono (by simp))
          clear hb
          clear B0l B0u B0v
          clear BLl BLu BLv
          replace B0 := B0.keep hB
          replace BL := BL.keep hB
          replace Xb := Xb.keep hB
          replace XL := XL.keep hB
          replace hw := hw.trans (hB.mono hw.size)
          clear hB
          have B0l := B0.1
          have B0u := B0.2.1
          have B0v := B0.2.2
          have BLl := BL.1
          have BLu := BL.2.1
          have BLv := BL.2.2
          go_wp2
          go_ret
          exact ⟨rfl, hw⟩

set_option maxRecDepth 100000 in
theorem lifted (os : Os) (started : os.Started) (H : Type) (enc : TypeId × Value → H) :
    ReturnsInHanded {} Try.checked os 7 .any (Rows.bitsBackSpec.pre6 enc Try.prog Try.f7 Rows.bitsBackRow.domain false) (Rows.bitsBackSpec.post enc Try.prog Try.f7 false true false false) := by
  refine returnsInHanded_of_change (C := Try.checked) own started (by kernel_rfl) Try.func7
    (ChangeSpec.witness6 (enc := enc) (C := Try.checked) false ⟨#[], #[.agg #[.int .i64 0, .slice none 0 0], .int .u64 0, .int .i64 0, .int .i64 0], []⟩ 8 (by kernel_rfl) (by kernel_rfl) (by kernel_rfl) (by kernel_rfl)) ?_
  intro W base args ds gs before hval0 hW hcnd _
  have hval : ∀ (j : Nat) t v, Try.f7.params[j]? = some t → args[j]? = some v → Value.okWide Try.prog W .any base t v := hval0
  have hW' := hW
  obtain ⟨p, q, hA0, hV, rfl, hfz, hnd⟩ := hW
  have hA : DataW.TrodAll enc Try.prog W 0 (fun _ => true) true Try.f7.params.toList args.toList ds p := hA0
  rw [Try.params7] at hA hval
  obtain ⟨v0, vs0, d0, ds0, p0, q0, hargs, rfl, rfl, h0, r0⟩ := trodAll_cons hA
  obtain ⟨v1, vs1, d1, ds1, p1, q1, rfl, rfl, rfl, h1, r1⟩ := trodAll_cons r0
  obtain ⟨v2, vs2, d2, ds2, p2, q2, rfl, rfl, rfl, h2, r2⟩ := trodAll_cons r1
  obtain ⟨v3, vs3, d3, ds3, p3, q3, rfl, rfl, rfl, h3, r3⟩ := trodAll_cons r2
  obtain ⟨rfl, rfl, rfl⟩ := trodAll_nil r3
  obtain rfl : args = #[v0, v1, v2, v3] := by cases args; simp_all
  obtain ⟨rfl, rfl⟩ := trodVars_none hV
  have k0 := h0
  have lt0 : ∀ x ∈ p0, x.block < W.heap.size := by obtain ⟨m, hm⟩ := k0; exact DataW.trod_lt m _ _ _ hm
  obtain ⟨Nb, ab, xb, cb, rfl, bb1, bb2, bb3, bb4⟩ := open_bits (hval 0 24 v0 rfl rfl) h0
  obtain ⟨x, rfl, rfl, rfl, w1⟩ := open_int Try.underlying32 (hval 1 32 v1 rfl rfl) h1
  obtain ⟨n, rfl, rfl, rfl, w2⟩ := open_int Try.underlying3 (hval 2 3 v2 rfl rfl) h2
  obtain ⟨i, rfl, rfl, rfl, w3⟩ := open_int Try.underlying3 (hval 3 3 v3 rfl rfl) h3
  clear hA0 hval0
  refine (walk W Nb ab xb cb bb1 bb2 bb3 bb4 x (u64_wf _ w1) n (i64_wf _ w2) i (i64_wf _ w3)).mono fun e W' ⟨he, bel⟩ => ?_
  subst he
  exact ⟨_, rfl, _, _, _, [], _, [], hW', trodAll_mk1 (shut_bool Try.underlying4 _), (trodAll_cons_mk (Below.trod laidOut (by kernel_rfl) (of_decide_eq_true (by kernel_rfl)) k0 bel lt0) (trodAll_cons_mk (shut_int Try.underlying32 w1) (trodAll_cons_mk (shut_int Try.underlying3 w2) (trodAll_cons_mk (shut_int Try.underlying3 w3) trodAll_mk0)))), rfl, bel.frame _, fun h => by cases h⟩

theorem over : Rows.bitsBackRow.holds Try.pinned (OpenSpec.ofChange Rows.bitsBackSpec) :=
  OpenClaim.holds_of_wide 7 Try.f7 rfl rfl rfl rfl rfl rfl rfl ⟨rfl, rfl, rfl, rfl, rfl⟩ rfl rfl rfl rfl rfl (by kernel_rfl) Try.func7 (by kernel_rfl)
    (of_decide_eq_true (by kernel_rfl)) (by unfold Func.isWrapper; first | (rw [if_pos (by decide +kernel)]; kernel_rfl) | (rw [if_neg (by decide +kernel)]; exact ⟨rfl, rfl⟩))
    (fun os started H enc _ => lifted os started H enc)

theorem proved : Rows.BitsBackSaid := over
end Go.Proofs.Ytpgbbfekjcfbpaa.bitsBack
namespace Go.Proofs.Ytpgbbfekjcfbpaa
theorem bitsBack_holds : Rows.BitsBackSaid := bitsBack.proved
#print axioms bitsBack_holds
end Go.Proofs.Ytpgbbfekjcfbpaa
