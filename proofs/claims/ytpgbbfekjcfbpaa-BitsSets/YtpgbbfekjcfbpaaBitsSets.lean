/-
  For every row of bits, right or not, and all numbers: a bit that is set is got, no other one is another, and the count goes along (P2.2, P2.3). No condition.
-/
import Derived.Test.YtpgbbfekjcfbpaaHeads
import Derived.Test.YtpgbbfekjcfbpaaOpen
import Derived.ChangeOld
namespace Go.Proofs.Ytpgbbfekjcfbpaa.bitsSets
open Go.ChangeShapes Go.WideShapes Go.ChangeAt Go.RowKit Num Bit
set_option linter.unusedVariables false

theorem set_err (N : Int) (ao : Option Addr) (xs : List Nat) (cap : Nat) (i : Int) (x : Bool) (w : World) (hx : Wd w ao xs) (hf : Fit xs) (hl : xs.length ≤ 1048576) (hE : getE N xs i ≠ 0) :
    Calls Try.prog 24 #[.agg #[.int .i64 N, .slice ao xs.length cap], .int .i64 i, .bool x] w fun e w' => ∃ bo dap, e = .returned (.tuple #[.agg #[.int .i64 N, .slice bo xs.length dap], .int .i64 (getE N xs i)]) ∧ Out w w' bo xs dap := by
  refine (set_bad N ao xs cap i x w hx hl hE).mono ?_
  rintro e w' ⟨g, rfl, hO, hb⟩
  exact ⟨some ⟨g, 0, none⟩, xs.length, rfl, hO.wd, hf, Nat.le_refl _, hb⟩

def b2n (b : Bool) : Nat := if b then 1 else 0

theorem cntB_flip (xs ys : List Nat) (k : Nat) : ∀ M, (∀ i, i < M → i ≠ k → bitAt ys i = bitAt xs i) → cntB ys M + (if k < M then b2n (bitAt xs k) else 0) = cntB xs M + (if k < M then b2n (bitAt ys k) else 0) := by
  intro M
  induction M with
  | zero => intro _; simp [cntB]
  | succ M ih =>
    intro h
    have ih := ih (fun i hi hne => h i (by omega) hne)
    simp only [cntB]
    by_cases e : M = k
    · subst e
      rw [if_neg (Nat.lt_irrefl M), if_neg (Nat.lt_irrefl M)] at ih
      rw [if_pos (Nat.lt_succ_self M), if_pos (Nat.lt_succ_self M)]
      unfold b2n
      omega
    · rw [h M (by omega) e]
      by_cases c : k < M
      · rw [if_pos c, if_pos c] at ih
        rw [if_pos (show k < M + 1 by omega), if_pos (show k < M + 1 by omega)]
        omega
      · rw [if_neg c, if_neg c] at ih
        rw [if_neg (show ¬ k < M + 1 by omega), if_neg (show ¬ k < M + 1 by omega)]
        omega

theorem sets_facts (N : Int) (xs : List Nat) (hf : Fit xs) (hk : chk N xs = true) (k : Nat) (h : (k : Int) < N) (x : Bool) :
    getE N xs k = 0 ∧ getE N (setL N xs k x) k = 0 ∧ getB N xs k = bitAt xs k ∧ getB N (setL N xs k x) k = x ∧ chk N (setL N xs k x) = true ∧
    (∀ j : Int, ¬ j = (k : Int) → getB N (setL N xs k x) j = getB N xs j ∧ getE N (setL N xs k x) j = getE N xs j) ∧
    ∃ d d' : Nat, onesI N xs N = (d : Int) ∧ onesI N (setL N xs k x) N = (d' : Int) ∧ d' + b2n (bitAt xs k) = d + b2n x := by
  obtain ⟨c0, c1, _, _⟩ := chk_out N xs hk
  have e1 : getE N xs k = 0 := by unfold getE; rw [if_neg (by simp [hk]), if_neg (by omega)]
  have e3 : setL N xs k x = rowOf N.toNat (fun j => if j = k then x else bitAt xs j) := by unfold setL; rw [if_pos e1, Int.toNat_natCast]
  have e4 : chk N (setL N xs k x) = true := by
    rw [e3]
    have h := chk_rowOf N.toNat (fun j => if j = k then x else bitAt xs j) (by omega)
    rw [show ((N.toNat : Nat) : Int) = N by omega] at h
    exact h
  have eb : ∀ j : Nat, (j : Int) < N → bitAt (setL N xs k x) j = if j = k then x else bitAt xs j := by
    intro j hj
    rw [e3, bitAt_rowOf, show decide (j < N.toNat) = true by simp; omega]; simp
  refine ⟨e1, ?_, ?_, ?_, e4, ?_, cntB xs N.toNat, cntB (setL N xs k x) N.toNat, ?_, ?_, ?_⟩
  · unfold getE; rw [if_neg (by simp [e4]), if_neg (by omega)]
  · unfold getB; rw [hk, show decide (0 ≤ (k : Int) ∧ (k : Int) < N) = true by simp; exact h]; simp
  · unfold getB; rw [e4, show decide (0 ≤ (k : Int) ∧ (k : Int) < N) = true by simp; exact h, Int.toNat_natCast, eb k h]; simp
  · intro j hj
    constructor
    · unfold getB
      rw [e4, hk]
      by_cases c : 0 ≤ j ∧ j < N
      · rw [eb j.toNat (by omega), if_neg (by omega)]
      · rw [show decide (0 ≤ j ∧ j < N) = false by simpa using c]; simp
    · unfold getE; rw [hk, e4]
  · unfold onesI; rw [hk, show min N N = N by omega]; rfl
  · unfold onesI; rw [e4, show min N N = N by omega]; rfl
  · have q := cntB_flip xs (setL N xs k x) k N.toNat (fun i hi hne => by rw [eb i (by omega), if_neg hne])
    rw [if_pos (show k < N.toNat by omega), if_pos (show k < N.toNat by omega), eb k h, if_pos rfl] at q
    exact q

set_option maxHeartbeats 40000000 in
theorem walk (w : World) (Nb : Int) (ab : Option Addr) (xb : List Nat) (cb : Nat) (hbN : -9223372036854775808 ≤ Nb ∧ Nb ≤ 9223372036854775807) (Xb : Wd w ab xb) (Fb : Fit xb) (Cb : xb.length ≤ cb) (i : Int) (hi : -9223372036854775808 ≤ i ∧ i ≤ 9223372036854775807) (x : Bool) (j : Int) (hj : -9223372036854775808 ≤ j ∧ j ≤ 9223372036854775807) :
    Calls Try.prog 8 #[.agg #[.int .i64 Nb, .slice ab xb.length cb], .int .i64 i, .bool x, .int .i64 j] w fun e w' => e = .returned (.bool true) ∧ Below w.heap.size w w' := by
  by_cases s1 : Nb ≤ 5000
  case neg =>
    have s1' : decide (Nb ≤ 5000) = false := by simpa using s1
    go_enter Try.func8, Try.ntmps8
    have hw : Below w.heap.size w w := Below.refl _ _
    go_wp2_with fail
    refine (small_c _ _ _ _ _).mono ?_
    rintro e w1 ⟨rfl, hb⟩
    have B0 := Box.new hb
    have hB : Below w.heap.size w w1 := Below.trans (by repeat (first | exact Below.refl _ _ | apply Below.drew | apply below_drewN | refine Below.alloc ?_ (by simp) _)) (hb.mono (by simp))
    clear hb
    replace Xb := Xb.keep hB
    replace hw := hw.trans (hB.mono hw.size)
    clear hB
    have B0l := B0.1
    have B0u := B0.2.1
    have B0v := B0.2.2
    go_wp2_with fail
    refine (heads_c _).mono ?_
    rintro e w2 ⟨rfl, hb⟩
    have hB : Below w1.heap.size w1 w2 := Below.trans (by repeat (first | exact Below.refl _ _ | apply Below.drew | apply below_drewN | refine Below.alloc ?_ (by simp) _)) (hb.mono (by simp))
    clear hb
    clear B0l B0u B0v
    replace B0 := B0.keep hB
    replace Xb := Xb.keep hB
    replace hw := hw.trans (hB.mono hw.size)
    clear hB
    have B0l := B0.1
    have B0u := B0.2.1
    have B0v := B0.2.2
    go_wp2
    go_ret
    exact ⟨rfl, hw⟩
  by_cases s2 : (xb.length : Int) ≤ 5000
  case neg =>
    have s2' : decide ((xb.length : Int) ≤ 5000) = false := by simpa using s2
    go_enter Try.func8, Try.ntmps8
    have hw : Below w.heap.size w w := Below.refl _ _
    go_wp2_with fail
    refine (small_c _ _ _ _ _).mono ?_
    rintro e w1 ⟨rfl, hb⟩
    have B0 := Box.new hb
    have hB : Below w.heap.size w w1 := Below.trans (by repeat (first | exact Below.refl _ _ | apply Below.drew | apply below_drewN | refine Below.alloc ?_ (by simp) _)) (hb.mono (by simp))
    clear hb
    replace Xb := Xb.keep hB
    replace hw := hw.trans (hB.mono hw.size)
    clear hB
    have B0l := B0.1
    have B0u := B0.2.1
    have B0v := B0.2.2
    go_wp2_with fail
    refine (heads_c _).mono ?_
    rintro e w2 ⟨rfl, hb⟩
    have hB : Below w1.heap.size w1 w2 := Below.trans (by repeat (first | exact Below.refl _ _ | apply Below.drew | apply below_drewN | refine Below.alloc ?_ (by simp) _)) (hb.mono (by simp))
    clear hb
    clear B0l B0u B0v
    replace B0 := B0.keep hB
    replace Xb := Xb.keep hB
    replace hw := hw.trans (hB.mono hw.size)
    clear hB
    have B0l := B0.1
    have B0u := B0.2.1
    have B0v := B0.2.2
    go_wp2
    go_ret
    exact ⟨rfl, hw⟩
  have s1' : decide (Nb ≤ 5000) = true := by simpa using s1
  have s2' : decide ((xb.length : Int) ≤ 5000) = true := by simpa using s2
  cases hk : chk Nb xb with
  | false =>
    go_enter Try.func8, Try.ntmps8
    have hw : Below w.heap.size w w := Below.refl _ _
    go_wp2_with fail
    refine (small_c _ _ _ _ _).mono ?_
    rintro e w1 ⟨rfl, hb⟩
    have B0 := Box.new hb
    have hB : Below w.heap.size w w1 := Below.trans (by repeat (first | exact Below.refl _ _ | apply Below.drew | apply below_drewN | refine Below.alloc ?_ (by simp) _)) (hb.mono (by simp))
    clear hb
    replace Xb := Xb.keep hB
    replace hw := hw.trans (hB.mono hw.size)
    clear hB
    have B0l := B0.1
    have B0u := B0.2.1
    have B0v := B0.2.2
    go_wp2_with fail
    refine (check_c _ _ _ _ _ (Xb.keep (by repeat (first | exact Below.refl _ _ | apply Below.drew | apply below_drewN | refine Below.alloc ?_ (by simp) _)))).mono ?_
    rintro e w2 ⟨rfl, hb⟩
    have hB : Below w1.heap.size w1 w2 := Below.trans (by repeat (first | exact Below.refl _ _ | apply Below.drew | apply below_drewN | refine Below.alloc ?_ (by simp) _)) (hb.mono (by simp))
    clear hb
    clear B0l B0u B0v
    replace B0 := B0.keep hB
    replace Xb := Xb.keep hB
    replace hw := hw.trans (hB.mono hw.size)
    clear hB
    have B0l := B0.1
    have B0u := B0.2.1
    have B0v := B0.2.2
    go_wp2_with fail
    refine (heads_c _).mono ?_
    rintro e w3 ⟨rfl, hb⟩
    have hB : Below w2.heap.size w2 w3 := Below.trans (by repeat (first | exact Below.refl _ _ | apply Below.drew | apply below_drewN | refine Below.alloc ?_ (by simp) _)) (hb.mono (by simp))
    clear hb
    clear B0l B0u B0v
    replace B0 := B0.keep hB
    replace Xb := Xb.keep hB
    replace hw := hw.trans (hB.mono hw.size)
    clear hB
    have B0l := B0.1
    have B0u := B0.2.1
    have B0v := B0.2.2
    go_wp2
    go_ret
    exact ⟨rfl, hw⟩
  | true =>
    obtain ⟨hc0, hc1, _, _⟩ := chk_out Nb xb hk
    by_cases hr : i < 0 ∨ Nb ≤ i
    case pos =>
      have E : getE Nb xb i = 3 := by unfold getE; rw [if_neg (by simp [hk]), if_pos hr]
      have HE : Hid (getE Nb xb i ≠ 0) := by unfold Hid; omega
      go_enter Try.func8, Try.ntmps8
      have hw : Below w.heap.size w w := Below.refl _ _
      go_wp2_with fail
      refine (small_c _ _ _ _ _).mono ?_
      rintro e w1 ⟨rfl, hb⟩
      have B0 := Box.new hb
      have hB : Below w.heap.size w w1 := Below.trans (by repeat (first | exact Below.refl _ _ | apply Below.drew | apply below_drewN | refine Below.alloc ?_ (by simp) _)) (hb.mono (by simp))
      clear hb
      replace Xb := Xb.keep hB
      replace hw := hw.trans (hB.mono hw.size)
      clear hB
      have B0l := B0.1
      have B0u := B0.2.1
      have B0v := B0.2.2
      go_wp2_with fail
      refine (check_c _ _ _ _ _ (Xb.keep (by repeat (first | exact Below.refl _ _ | apply Below.drew | apply below_drewN | refine Below.alloc ?_ (by simp) _)))).mono ?_
      rintro e w2 ⟨rfl, hb⟩
      have hB : Below w1.heap.size w1 w2 := Below.trans (by repeat (first | exact Below.refl _ _ | apply Below.drew | apply below_drewN | refine Below.alloc ?_ (by simp) _)) (hb.mono (by simp))
      clear hb
      clear B0l B0u B0v
      replace B0 := B0.keep hB
      replace Xb := Xb.keep hB
      replace hw := hw.trans (hB.mono hw.size)
      clear hB
      have B0l := B0.1
      have B0u := B0.2.1
      have B0v := B0.2.2
      go_wp2_with fail
      refine (set_err _ _ _ _ _ _ _ (Xb.keep (by repeat (first | exact Below.refl _ _ | apply Below.drew | apply below_drewN | refine Below.alloc ?_ (by simp) _))) Fb (by omega) HE.out).mono ?_
      rintro e w3 ⟨lo, lc, rfl, XL, FL, CL, hb⟩
      have hB : Below w2.heap.size w2 w3 := Below.trans (by repeat (first | exact Below.refl _ _ | apply Below.drew | apply below_drewN | refine Below.alloc ?_ (by simp) _)) (hb.mono (by simp))
      clear hb
      clear B0l B0u B0v
      replace B0 := B0.keep hB
      replace Xb := Xb.keep hB
      replace hw := hw.trans (hB.mono hw.size)
      clear hB
      have B0l := B0.1
      have B0u := B0.2.1
      have B0v := B0.2.2
      go_wp2_with fail
      refine (same_c _ _ _ _ _ _ _ _ _ (XL.keep (by repeat (first | exact Below.refl _ _ | apply Below.drew | apply below_drewN | refine Below.alloc ?_ (by simp) _))) (Xb.keep (by repeat (first | exact Below.refl _ _ | apply Below.drew | apply below_drewN | refine Below.alloc ?_ (by simp) _))) (by omega)).mono ?_
      rintro e w4 ⟨rfl, hb⟩
      have BL := Box.new hb
      have hB : Below w3.heap.size w3 w4 := Below.trans (by repeat (first | exact Below.refl _ _ | apply Below.drew | apply below_drewN | refine Below.alloc ?_ (by simp) _)) (hb.mono (by simp))
      clear hb
      clear B0l B0u B0v
      replace B0 := B0.keep hB
      replace Xb := Xb.keep hB
      replace XL := XL.keep hB
      replace hw := hw.trans (hB.mono hw.size)
      clear hB
      have B0l := B0.1
      have B0u := B0.2.1
      have B0v := B0.2.2
      have BLl := BL.1
      have BLu := BL.2.1
      have BLv := BL.2.2
      go_wp2_with fail
      refine (heads_c _).mono ?_
      rintro e w5 ⟨rfl, hb⟩
      have hB : Below w4.heap.size w4 w5 := Below.trans (by repeat (first | exact Below.refl _ _ | apply Below.drew | apply below_drewN | refine Below.alloc ?_ (by simp) _)) (hb.mono (by simp))
      clear hb
      clear B0l B0u B0v
      clear BLl BLu BLv
      replace B0 := B0.keep hB
      replace BL := BL.keep hB
      replace Xb := Xb.keep hB
      replace XL := XL.keep hB
      replace hw := hw.trans (hB.mono hw.size)
      clear hB
      have B0l := B0.1
      have B0u := B0.2.1
      have B0v := B0.2.2
      have BLl := BL.1
      have BLu := BL.2.1
      have BLv := BL.2.2
      go_wp2
      go_ret
      exact ⟨rfl, hw⟩
    case neg =>
      obtain ⟨k, rfl⟩ := Int.eq_ofNat_of_zero_le (show 0 ≤ i by omega)
      obtain ⟨E1, E2, B1, B2, C1, GO, d, d', O1, O2, hd⟩ := sets_facts Nb xb Fb hk k (by omega) x
      clear hr
      cases x with
      | true =>
        cases hb : bitAt xb k with
        | true =>
          rw [hb] at B1 hd
          have D : d' = d := by unfold b2n at hd; simp at hd; omega
          subst D
          clear hd
          by_cases ej : j = (k : Int)
          case pos =>
            subst ej
            clear GO
            go_enter Try.func8, Try.ntmps8
            have hw : Below w.heap.size w w := Below.refl _ _
            go_wp2_with fail
            refine (small_c _ _ _ _ _).mono ?_
            rintro e w1 ⟨rfl, hb⟩
            have B0 := Box.new hb
            have hB : Below w.heap.size w w1 := Below.trans (by repeat (first | exact Below.refl _ _ | apply Below.drew | apply below_drewN | refine Below.alloc ?_ (by simp) _)) (hb.mono (by simp))
            clear hb
            replace Xb := Xb.keep hB
            replace hw := hw.trans (hB.mono hw.size)
            clear hB
            have B0l := B0.1
            have B0u := B0.2.1
            have B0v := B0.2.2
            go_wp2_with fail
            refine (check_c _ _ _ _ _ (Xb.keep (by repeat (first | exact Below.refl _ _ | apply Below.drew | apply below_drewN | refine Below.alloc ?_ (by simp) _)))).mono ?_
            rintro e w2 ⟨rfl, hb⟩
            have hB : Below w1.heap.size w1 w2 := Below.trans (by repeat (first | exact Below.refl _ _ | apply Below.drew | apply below_drewN | refine Below.alloc ?_ (by simp) _)) (hb.mono (by simp))
            clear hb
            clear B0l B0u B0v
            replace B0 := B0.keep hB
            replace Xb := Xb.keep hB
            replace hw := hw.trans (hB.mono hw.size)
            clear hB
            have B0l := B0.1
            have B0u := B0.2.1
            have B0v := B0.2.2
            go_wp2_with fail
            refine (set_c _ _ _ _ _ _ _ (Xb.keep (by repeat (first | exact Below.refl _ _ | apply Below.drew | apply below_drewN | refine Below.alloc ?_ (by simp) _))) Fb (by omega)).mono ?_
            rintro e w3 ⟨lo, lc, rfl, XL, FL, CL, hb⟩
            have hB : Below w2.heap.size w2 w3 := Below.trans (by repeat (first | exact Below.refl _ _ | apply Below.drew | apply below_drewN | refine Below.alloc ?_ (by simp) _)) (hb.mono (by simp))
            clear hb
            clear B0l B0u B0v
            replace B0 := B0.keep hB
            replace Xb := Xb.keep hB
            replace hw := hw.trans (hB.mono hw.size)
            clear hB
            have B0l := B0.1
            have B0u := B0.2.1
            have B0v := B0.2.2
            go_wp2_with fail
            refine (get_c _ _ _ _ _ _ (Xb.keep (by repeat (first | exact Below.refl _ _ | apply Below.drew | apply below_drewN | refine Below.alloc ?_ (by simp) _))) Fb).mono ?_
            rintro e w4 ⟨rfl, hb⟩
            have BL := Box.new hb
            have hB : Below w3.heap.size w3 w4 := Below.trans (by repeat (first | exact Below.refl _ _ | apply Below.drew | apply below_drewN | refine Below.alloc ?_ (by simp) _)) (hb.mono (by simp))
            clear hb
            clear B0l B0u B0v
            replace B0 := B0.keep hB
            replace Xb := Xb.keep hB
            replace XL := XL.keep hB
            replace hw := hw.trans (hB.mono hw.size)
            clear hB
            have B0l := B0.1
            have B0u := B0.2.1
            have B0v := B0.2.2
            have BLl := BL.1
            have BLu := BL.2.1
            have BLv := BL.2.2
            go_wp2_with fail
            refine (get_c _ _ _ _ _ _ (XL.keep (by repeat (first | exact Below.refl _ _ | apply Below.drew | apply below_drewN | refine Below.alloc ?_ (by simp) _))) FL).mono ?_
            rintro e w5 ⟨rfl, hb⟩
            have hB : Below w4.heap.size w4 w5 := Below.trans (by repeat (first | exact Below.refl _ _ | apply Below.drew | apply below_drewN | refine Below.alloc ?_ (by simp) _)) (hb.mono (by simp))
            clear hb
            clear B0l B0u B0v
            clear BLl BLu BLv
            replace B0 := B0.keep hB
            replace BL := BL.keep hB
            replace Xb := Xb.keep hB
            replace XL := XL.keep hB
            replace hw := hw.trans (hB.mono hw.size)
            clear hB
            have B0l := B0.1
            have B0u := B0.2.1
            have B0v := B0.2.2
            have BLl := BL.1
            have BLu := BL.2.1
            have BLv := BL.2.2
            go_wp2_with fail
            refine (get_c _ _ _ _ _ _ (Xb.keep (by repeat (first | exact Below.refl _ _ | apply Below.drew | apply below_drewN | refine Below.alloc ?_ (by simp) _))) Fb).mono ?_
            rintro e w6 ⟨rfl, hb⟩
            have hB : Below w5.heap.size w5 w6 := Below.trans (by repeat (first | exact Below.refl _ _ | apply Below.drew | apply below_drewN | refine Below.alloc ?_ (by simp) _)) (hb.mono (by simp))
            clear hb
            clear B0l B0u B0v
            clear BLl BLu BLv
            replace B0 := B0.keep hB
            replace BL := BL.keep hB
            replace Xb := Xb.keep hB
            replace XL := XL.keep hB
            replace hw := hw.trans (hB.mono hw.size)
            clear hB
            have B0l := B0.1
            have B0u := B0.2.1
            have B0v := B0.2.2
            have BLl := BL.1
            have BLu := BL.2.1
            have BLv := BL.2.2
            go_wp2_with fail
            refine (get_c _ _ _ _ _ _ (XL.keep (by repeat (first | exact Below.refl _ _ | apply Below.drew | apply below_drewN | refine Below.alloc ?_ (by simp) _))) FL).mono ?_
            rintro e w7 ⟨rfl, hb⟩
            have hB : Below w6.heap.size w6 w7 := Below.trans (by repeat (first | exact Below.refl _ _ | apply Below.drew | apply below_drewN | refine Below.alloc ?_ (by simp) _)) (hb.mono (by simp))
            clear hb
            clear B0l B0u B0v
            clear BLl BLu BLv
            replace B0 := B0.keep hB
            replace BL := BL.keep hB
            replace Xb := Xb.keep hB
            replace XL := XL.keep hB
            replace hw := hw.trans (hB.mono hw.size)
            clear hB
            have B0l := B0.1
            have B0u := B0.2.1
            have B0v := B0.2.2
            have BLl := BL.1
            have BLu := BL.2.1
            have BLv := BL.2.2
            go_wp2_with fail
            go_region_held3 (fun w' => w'.cell? ⟨w.heap.size, 0, none⟩ = some (.int .i64 Nb) ∧ w'.cell? ⟨w.heap.size, 1, none⟩ = some (.slice ab xb.length cb) ∧ w'.cell? ⟨w3.heap.size, 0, none⟩ = some (.int .i64 Nb) ∧ w'.cell? ⟨w3.heap.size, 1, none⟩ = some (.slice lo (setL Nb xb k true).length lc)) (first | go_keep | (refine ⟨?_, ?_, ?_, ?_⟩ <;> assumption))
              (first | (go_at_call 13; refine (bones_c _ _ _ _ _ _ ?_ ?_ ?_).mono ?_; (first | with_reducible exact (Xb.keep (by repeat (first | exact Below.refl _ _ | apply Below.drew | apply below_drewN | refine Below.alloc ?_ (by simp) _))) | with_reducible exact (XL.keep (by repeat (first | exact Below.refl _ _ | apply Below.drew | apply below_drewN | refine Below.alloc ?_ (by simp) _)))); (first | with_reducible exact Fb | with_reducible exact FL); (first | with_reducible exact Cb | with_reducible exact CL); rintro e wz ⟨rfl, hb⟩; replace B0 := (B0.keep (by repeat (first | exact Below.refl _ _ | apply Below.drew | apply below_drewN | refine Below.alloc ?_ (by simp) _))).keep hb; replace BL := (BL.keep (by repeat (first | exact Below.refl _ _ | apply Below.drew | apply below_drewN | refine Below.alloc ?_ (by simp) _))).keep hb; replace Xb := (Xb.keep (by repeat (first | exact Below.refl _ _ | apply Below.drew | apply below_drewN | refine Below.alloc ?_ (by simp) _))).keep hb; replace XL := (XL.keep (by repeat (first | exact Below.refl _ _ | apply Below.drew | apply below_drewN | refine Below.alloc ?_ (by simp) _))).keep hb; replace hw := hw.trans (Below.trans (by repeat (first | exact Below.refl _ _ | apply Below.drew | apply below_drewN | refine Below.alloc ?_ (by simp) _)) (hb.mono hw.size)); clear hb; replace B0l := B0.1; replace B0u := B0.2.1; replace B0v := B0.2.2; replace BLl := BL.1; replace BLu := BL.2.1; replace BLv := BL.2.2))
            go_wp2_with fail
            refine (check_c _ _ _ _ _ (XL.keep (by repeat (first | exact Below.refl _ _ | apply Below.drew | apply below_drewN | refine Below.alloc ?_ (by simp) _)))).mono ?_
            rintro e w8 ⟨rfl, hb⟩
            have hB : Below wz.heap.size wz w8 := Below.trans (by repeat (first | exact Below.refl _ _ | apply Below.drew | apply below_drewN | refine Below.alloc ?_ (by simp) _)) (hb.mono (by simp))
            clear hb
            clear B0l B0u B0v
            clear BLl BLu BLv
            replace B0 := B0.keep hB
            replace BL := BL.keep hB
            replace Xb := Xb.keep hB
            replace XL := XL.keep hB
            replace hw := hw.trans (hB.mono hw.size)
            clear hB
            have B0l := B0.1
            have B0u := B0.2.1
            have B0v := B0.2.2
            have BLl := BL.1
            have BLu := BL.2.1
            have BLv := BL.2.2
            go_wp2_with fail
            refine (heads_c _).mono ?_
            rintro e w9 ⟨rfl, hb⟩
            have hB : Below w8.heap.size w8 w9 := Below.trans (by repeat (first | exact Below.refl _ _ | apply Below.drew | apply below_drewN | refine Below.alloc ?_ (by simp) _)) (hb.mono (by simp))
            clear hb
            clear B0l B0u B0v
            clear BLl BLu BLv
            replace B0 := B0.keep hB
            replace BL := BL.keep hB
            replace Xb := Xb.keep hB
            replace XL := XL.keep hB
            replace hw := hw.trans (hB.mono hw.size)
            clear hB
            have B0l := B0.1
            have B0u := B0.2.1
            have B0v := B0.2.2
            have BLl := BL.1
            have BLu := BL.2.1
            have BLv := BL.2.2
            go_wp2
            go_ret
            exact ⟨rfl, hw⟩
          case neg =>
            have ej' : (j == (k : Int)) = false := by simpa using ej
            obtain ⟨G1, G2⟩ := GO j ej
            clear GO ej
            go_enter Try.func8, Try.ntmps8
            have hw : Below w.heap.size w w := Below.refl _ _
            go_wp2_with fail
            refine (small_c _ _ _ _ _).mono ?_
            rintro e w1 ⟨rfl, hb⟩
            have B0 := Box.new hb
            have hB : Below w.heap.size w w1 := Below.trans (by repeat (first | exact Below.refl _ _ | apply Below.drew | apply below_drewN | refine Below.alloc ?_ (by simp) _)) (hb.mono (by simp))
            clear hb
            replace Xb := Xb.keep hB
            replace hw := hw.trans (hB.mono hw.size)
            clear hB
            have B0l := B0.1
            have B0u := B0.2.1
            have B0v := B0.2.2
            go_wp2_with fail
            refine (check_c _ _ _ _ _ (Xb.keep (by repeat (first | exact Below.refl _ _ | apply Below.drew | apply below_drewN | refine Below.alloc ?_ (by simp) _)))).mono ?_
            rintro e w2 ⟨rfl, hb⟩
            have hB : Below w1.heap.size w1 w2 := Below.trans (by repeat (first | exact Below.refl _ _ | apply Below.drew | apply below_drewN | refine Below.alloc ?_ (by simp) _)) (hb.mono (by simp))
            clear hb
            clear B0l B0u B0v
            replace B0 := B0.keep hB
            replace Xb := Xb.keep hB
            replace hw := hw.trans (hB.mono hw.size)
            clear hB
            have B0l := B0.1
            have B0u := B0.2.1
            have B0v := B0.2.2
            go_wp2_with fail
            refine (set_c _ _ _ _ _ _ _ (Xb.keep (by repeat (first | exact Below.refl _ _ | apply Below.drew | apply below_drewN | refine Below.alloc ?_ (by simp) _))) Fb (by omega)).mono ?_
            rintro e w3 ⟨lo, lc, rfl, XL, FL, CL, hb⟩
            have hB : Below w2.heap.size w2 w3 := Below.trans (by repeat (first | exact Below.refl _ _ | apply Below.drew | apply below_drewN | refine Below.alloc ?_ (by simp) _)) (hb.mono (by simp))
            clear hb
            clear B0l B0u B0v
            replace B0 := B0.keep hB
            replace Xb := Xb.keep hB
            replace hw := hw.trans (hB.mono hw.size)
            clear hB
            have B0l := B0.1
            have B0u := B0.2.1
            have B0v := B0.2.2
            go_wp2_with fail
            refine (get_c _ _ _ _ _ _ (Xb.keep (by repeat (first | exact Below.refl _ _ | apply Below.drew | apply below_drewN | refine Below.alloc ?_ (by simp) _))) Fb).mono ?_
            rintro e w4 ⟨rfl, hb⟩
            have BL := Box.new hb
            have hB : Below w3.heap.size w3 w4 := Below.trans (by repeat (first | exact Below.refl _ _ | apply Below.drew | apply below_drewN | refine Below.alloc ?_ (by simp) _)) (hb.mono (by simp))
            clear hb
            clear B0l B0u B0v
            replace B0 := B0.keep hB
            replace Xb := Xb.keep hB
            replace XL := XL.keep hB
            replace hw := hw.trans (hB.mono hw.size)
            clear hB
            have B0l := B0.1
            have B0u := B0.2.1
            have B0v := B0.2.2
            have BLl := BL.1
            have BLu := BL.2.1
            have BLv := BL.2.2
            go_wp2_with fail
            refine (get_c _ _ _ _ _ _ (XL.keep (by repeat (first | exact Below.refl _ _ | apply Below.drew | apply below_drewN | refine Below.alloc ?_ (by simp) _))) FL).mono ?_
            rintro e w5 ⟨rfl, hb⟩
            have hB : Below w4.heap.size w4 w5 := Below.trans (by repeat (first | exact Below.refl _ _ | apply Below.drew | apply below_drewN | refine Below.alloc ?_ (by simp) _)) (hb.mono (by simp))
            clear hb
            clear B0l B0u B0v
            clear BLl BLu BLv
            replace B0 := B0.keep hB
            replace BL := BL.keep hB
            replace Xb := Xb.keep hB
            replace XL := XL.keep hB
            replace hw := hw.trans (hB.mono hw.size)
            clear hB
            have B0l := B0.1
            have B0u := B0.2.1
            have B0v := B0.2.2
            have BLl := BL.1
            have BLu := BL.2.1
            have BLv := BL.2.2
            go_wp2_with fail
            refine (get_c _ _ _ _ _ _ (Xb.keep (by repeat (first | exact Below.refl _ _ | apply Below.drew | apply below_drewN | refine Below.alloc ?_ (by simp) _))) Fb).mono ?_
            rintro e w6 ⟨rfl, hb⟩
            have hB : Below w5.heap.size w5 w6 := Below.trans (by repeat (first | exact Below.refl _ _ | apply Below.drew | apply below_drewN | refine Below.alloc ?_ (by simp) _)) (hb.mono (by simp))
            clear hb
            clear B0l B0u B0v
            clear BLl BLu BLv
            replace B0 := B0.keep hB
            replace BL := BL.keep hB
            replace Xb := Xb.keep hB
            replace XL := XL.keep hB
            replace hw := hw.trans (hB.mono hw.size)
            clear hB
            have B0l := B0.1
            have B0u := B0.2.1
            have B0v := B0.2.2
            have BLl := BL.1
            have BLu := BL.2.1
            have BLv := BL.2.2
            go_wp2_with fail
            refine (get_c _ _ _ _ _ _ (XL.keep (by repeat (first | exact Below.refl _ _ | apply Below.drew | apply below_drewN | refine Below.alloc ?_ (by simp) _))) FL).mono ?_
            rintro e w7 ⟨rfl, hb⟩
            have hB : Below w6.heap.size w6 w7 := Below.trans (by repeat (first | exact Below.refl _ _ | apply Below.drew | apply below_drewN | refine Below.alloc ?_ (by simp) _)) (hb.mono (by simp))
            clear hb
            clear B0l B0u B0v
            clear BLl BLu BLv
            replace B0 := B0.keep hB
            replace BL := BL.keep hB
            replace Xb := Xb.keep hB
            replace XL := XL.keep hB
            replace hw := hw.trans (hB.mono hw.size)
            clear hB
            have B0l := B0.1
            have B0u := B0.2.1
            have B0v := B0.2.2
            have BLl := BL.1
            have BLu := BL.2.1
            have BLv := BL.2.2
            go_wp2_with fail
            go_region_held3 (fun w' => w'.cell? ⟨w.heap.size, 0, none⟩ = some (.int .i64 Nb) ∧ w'.cell? ⟨w.heap.size, 1, none⟩ = some (.slice ab xb.length cb) ∧ w'.cell? ⟨w3.heap.size, 0, none⟩ = some (.int .i64 Nb) ∧ w'.cell? ⟨w3.heap.size, 1, none⟩ = some (.slice lo (setL Nb xb k true).length lc)) (first | go_keep | (refine ⟨?_, ?_, ?_, ?_⟩ <;> assumption))
              (first | (go_at_call 13; refine (bones_c _ _ _ _ _ _ ?_ ?_ ?_).mono ?_; (first | with_reducible exact (Xb.keep (by repeat (first | exact Below.refl _ _ | apply Below.drew | apply below_drewN | refine Below.alloc ?_ (by simp) _))) | with_reducible exact (XL.keep (by repeat (first | exact Below.refl _ _ | apply Below.drew | apply below_drewN | refine Below.alloc ?_ (by simp) _)))); (first | with_reducible exact Fb | with_reducible exact FL); (first | with_reducible exact Cb | with_reducible exact CL); rintro e wz ⟨rfl, hb⟩; replace B0 := (B0.keep (by repeat (first | exact Below.refl _ _ | apply Below.drew | apply below_drewN | refine Below.alloc ?_ (by simp) _))).keep hb; replace BL := (BL.keep (by repeat (first | exact Below.refl _ _ | apply Below.drew | apply below_drewN | refine Below.alloc ?_ (by simp) _))).keep hb; replace Xb := (Xb.keep (by repeat (first | exact Below.refl _ _ | apply Below.drew | apply below_drewN | refine Below.alloc ?_ (by simp) _))).keep hb; replace XL := (XL.keep (by repeat (first | exact Below.refl _ _ | apply Below.drew | apply below_drewN | refine Below.alloc ?_ (by simp) _))).keep hb; replace hw := hw.trans (Below.trans (by repeat (first | exact Below.refl _ _ | apply Below.drew | apply below_drewN | refine Below.alloc ?_ (by simp) _)) (hb.mono hw.size)); clear hb; replace B0l := B0.1; replace B0u := B0.2.1; replace B0v := B0.2.2; replace BLl := BL.1; replace BLu := BL.2.1; replace BLv := BL.2.2))
            go_wp2_with fail
            refine (check_c _ _ _ _ _ (XL.keep (by repeat (first | exact Below.refl _ _ | apply Below.drew | apply below_drewN | refine Below.alloc ?_ (by simp) _)))).mono ?_
            rintro e w8 ⟨rfl, hb⟩
            have hB : Below wz.heap.size wz w8 := Below.trans (by repeat (first | exact Below.refl _ _ | apply Below.drew | apply below_drewN | refine Below.alloc ?_ (by simp) _)) (hb.mono (by simp))
            clear hb
            clear B0l B0u B0v
            clear BLl BLu BLv
            replace B0 := B0.keep hB
            replace BL := BL.keep hB
            replace Xb := Xb.keep hB
            replace XL := XL.keep hB
            replace hw := hw.trans (hB.mono hw.size)
            clear hB
            have B0l := B0.1
            have B0u := B0.2.1
            have B0v := B0.2.2
            have BLl := BL.1
            have BLu := BL.2.1
            have BLv := BL.2.2
            go_wp2_with fail
            refine (heads_c _).mono ?_
            rintro e w9 ⟨rfl, hb⟩
            have hB : Below w8.heap.size w8 w9 := Below.trans (by repeat (first | exact Below.refl _ _ | apply Below.drew | apply below_drewN | refine Below.alloc ?_ (by simp) _)) (hb.mono (by simp))
            clear hb
            clear B0l B0u B0v
            clear BLl BLu BLv
            replace B0 := B0.keep hB
            replace BL := BL.keep hB
            replace Xb := Xb.keep hB
            replace XL := XL.keep hB
            replace hw := hw.trans (hB.mono hw.size)
            clear hB
            have B0l := B0.1
            have B0u := B0.2.1
            have B0v := B0.2.2
            have BLl := BL.1
            have BLu := BL.2.1
            have BLv := BL.2.2
            go_wp2
            go_ret
            exact ⟨rfl, hw⟩
        | false =>
          rw [hb] at B1 hd
          have D : d' = d + 1 := by unfold b2n at hd; simp at hd; omega
          subst D
          clear hd
          by_cases ej : j = (k : Int)
          case pos =>
            subst ej
            clear GO
            go_enter Try.func8, Try.ntmps8
            have hw : Below w.heap.size w w := Below.refl _ _
            go_wp2_with fail
            refine (small_c _ _ _ _ _).mono ?_
            rintro e w1 ⟨rfl, hb⟩
            have B0 := Box.new hb
            have hB : Below w.heap.size w w1 := Below.trans (by repeat (first | exact Below.refl _ _ | apply Below.drew | apply below_drewN | refine Below.alloc ?_ (by simp) _)) (hb.mono (by simp))
            clear hb
            replace Xb := Xb.keep hB
            replace hw := hw.trans (hB.mono hw.size)
            clear hB
            have B0l := B0.1
            have B0u := B0.2.1
            have B0v := B0.2.2
            go_wp2_with fail
            refine (check_c _ _ _ _ _ (Xb.keep (by repeat (first | exact Below.refl _ _ | apply Below.drew | apply below_drewN | refine Below.alloc ?_ (by simp) _)))).mono ?_
            rintro e w2 ⟨rfl, hb⟩
            have hB : Below w1.heap.size w1 w2 := Below.trans (by repeat (first | exact Below.refl _ _ | apply Below.drew | apply below_drewN | refine Below.alloc ?_ (by simp) _)) (hb.mono (by simp))
            clear hb
            clear B0l B0u B0v
            replace B0 := B0.keep hB
            replace Xb := Xb.keep hB
            replace hw := hw.trans (hB.mono hw.size)
            clear hB
            have B0l := B0.1
            have B0u := B0.2.1
            have B0v := B0.2.2
            go_wp2_with fail
            refine (set_c _ _ _ _ _ _ _ (Xb.keep (by repeat (first | exact Below.refl _ _ | apply Below.drew | apply below_drewN | refine Below.alloc ?_ (by simp) _))) Fb (by omega)).mono ?_
            rintro e w3 ⟨lo, lc, rfl, XL, FL, CL, hb⟩
            have hB : Below w2.heap.size w2 w3 := Below.trans (by repeat (first | exact Below.refl _ _ | apply Below.drew | apply below_drewN | refine Below.alloc ?_ (by simp) _)) (hb.mono (by simp))
            clear hb
            clear B0l B0u B0v
            replace B0 := B0.keep hB
            replace Xb := Xb.keep hB
            replace hw := hw.trans (hB.mono hw.size)
            clear hB
            have B0l := B0.1
            have B0u := B0.2.1
            have B0v := B0.2.2
            go_wp2_with fail
            refine (get_c _ _ _ _ _ _ (Xb.keep (by repeat (first | exact Below.refl _ _ | apply Below.drew | apply below_drewN | refine Below.alloc ?_ (by simp) _))) Fb).mono ?_
            rintro e w4 ⟨rfl, hb⟩
            have BL := Box.new hb
            have hB : Below w3.heap.size w3 w4 := Below.trans (by repeat (first | exact Below.refl _ _ | apply Below.drew | apply below_drewN | refine Below.alloc ?_ (by simp) _)) (hb.mono (by simp))
            clear hb
            clear B0l B0u B0v
            replace B0 := B0.keep hB
            replace Xb := Xb.keep hB
            replace XL := XL.keep hB
            replace hw := hw.trans (hB.mono hw.size)
            clear hB
            have B0l := B0.1
            have B0u := B0.2.1
            have B0v := B0.2.2
            have BLl := BL.1
            have BLu := BL.2.1
            have BLv := BL.2.2
            go_wp2_with fail
            refine (get_c _ _ _ _ _ _ (XL.keep (by repeat (first | exact Below.refl _ _ | apply Below.drew | apply below_drewN | refine Below.alloc ?_ (by simp) _))) FL).mono ?_
            rintro e w5 ⟨rfl, hb⟩
            have hB : Below w4.heap.size w4 w5 := Below.trans (by repeat (first | exact Below.refl _ _ | apply Below.drew | apply below_drewN | refine Below.alloc ?_ (by simp) _)) (hb.mono (by simp))
            clear hb
            clear B0l B0u B0v
            clear BLl BLu BLv
            replace B0 := B0.keep hB
            replace BL := BL.keep hB
            replace Xb := Xb.keep hB
            replace XL := XL.keep hB
            replace hw := hw.trans (hB.mono hw.size)
            clear hB
            have B0l := B0.1
            have B0u := B0.2.1
            have B0v := B0.2.2
            have BLl := BL.1
            have BLu := BL.2.1
            have BLv := BL.2.2
            go_wp2_with fail
            refine (get_c _ _ _ _ _ _ (Xb.keep (by repeat (first | exact Below.refl _ _ | apply Below.drew | apply below_drewN | refine Below.alloc ?_ (by simp) _))) Fb).mono ?_
            rintro e w6 ⟨rfl, hb⟩
            have hB : Below w5.heap.size w5 w6 := Below.trans (by repeat (first | exact Below.refl _ _ | apply Below.drew | apply below_drewN | refine Below.alloc ?_ (by simp) _)) (hb.mono (by simp))
            clear hb
            clear B0l B0u B0v
            clear BLl BLu BLv
            replace B0 := B0.keep hB
            replace BL := BL.keep hB
            replace Xb := Xb.keep hB
            replace XL := XL.keep hB
            replace hw := hw.trans (hB.mono hw.size)
            clear hB
            have B0l := B0.1
            have B0u := B0.2.1
            have B0v := B0.2.2
            have BLl := BL.1
            have BLu := BL.2.1
            have BLv := BL.2.2
            go_wp2_with fail
            refine (get_c _ _ _ _ _ _ (XL.keep (by repeat (first | exact Below.refl _ _ | apply Below.drew | apply below_drewN | refine Below.alloc ?_ (by simp) _))) FL).mono ?_
            rintro e w7 ⟨rfl, hb⟩
            have hB : Below w6.heap.size w6 w7 := Below.trans (by repeat (first | exact Below.refl _ _ | apply Below.drew | apply below_drewN | refine Below.alloc ?_ (by simp) _)) (hb.mono (by simp))
            clear hb
            clear B0l B0u B0v
            clear BLl BLu BLv
            replace B0 := B0.keep hB
            replace BL := BL.keep hB
            replace Xb := Xb.keep hB
            replace XL := XL.keep hB
            replace hw := hw.trans (hB.mono hw.size)
            clear hB
            have B0l := B0.1
            have B0u := B0.2.1
            have B0v := B0.2.2
            have BLl := BL.1
            have BLu := BL.2.1
            have BLv := BL.2.2
            go_wp2_with fail
            go_region_held3 (fun w' => w'.cell? ⟨w.heap.size, 0, none⟩ = some (.int .i64 Nb) ∧ w'.cell? ⟨w.heap.size, 1, none⟩ = some (.slice ab xb.length cb) ∧ w'.cell? ⟨w3.heap.size, 0, none⟩ = some (.int .i64 Nb) ∧ w'.cell? ⟨w3.heap.size, 1, none⟩ = some (.slice lo (setL Nb xb k true).length lc)) (first | go_keep | (refine ⟨?_, ?_, ?_, ?_⟩ <;> assumption))
              (first | (go_at_call 13; refine (bones_c _ _ _ _ _ _ ?_ ?_ ?_).mono ?_; (first | with_reducible exact (Xb.keep (by repeat (first | exact Below.refl _ _ | apply Below.drew | apply below_drewN | refine Below.alloc ?_ (by simp) _))) | with_reducible exact (XL.keep (by repeat (first | exact Below.refl _ _ | apply Below.drew | apply below_drewN | refine Below.alloc ?_ (by simp) _)))); (first | with_reducible exact Fb | with_reducible exact FL); (first | with_reducible exact Cb | with_reducible exact CL); rintro e wz ⟨rfl, hb⟩; replace B0 := (B0.keep (by repeat (first | exact Below.refl _ _ | apply Below.drew | apply below_drewN | refine Below.alloc ?_ (by simp) _))).keep hb; replace BL := (BL.keep (by repeat (first | exact Below.refl _ _ | apply Below.drew | apply below_drewN | refine Below.alloc ?_ (by simp) _))).keep hb; replace Xb := (Xb.keep (by repeat (first | exact Below.refl _ _ | apply Below.drew | apply below_drewN | refine Below.alloc ?_ (by simp) _))).keep hb; replace XL := (XL.keep (by repeat (first | exact Below.refl _ _ | apply Below.drew | apply below_drewN | refine Below.alloc ?_ (by simp) _))).keep hb; replace hw := hw.trans (Below.trans (by repeat (first | exact Below.refl _ _ | apply Below.drew | apply below_drewN | refine Below.alloc ?_ (by simp) _)) (hb.mono hw.size)); clear hb; replace B0l := B0.1; replace B0u := B0.2.1; replace B0v := B0.2.2; replace BLl := BL.1; replace BLu := BL.2.1; replace BLv := BL.2.2))
            go_wp2_with fail
            refine (check_c _ _ _ _ _ (XL.keep (by repeat (first | exact Below.refl _ _ | apply Below.drew | apply below_drewN | refine Below.alloc ?_ (by simp) _)))).mono ?_
            rintro e w8 ⟨rfl, hb⟩
            have hB : Below wz.heap.size wz w8 := Below.trans (by repeat (first | exact Below.refl _ _ | apply Below.drew | apply below_drewN | refine Below.alloc ?_ (by simp) _)) (hb.mono (by simp))
            clear hb
            clear B0l B0u B0v
            clear BLl BLu BLv
            replace B0 := B0.keep hB
            replace BL := BL.keep hB
            replace Xb := Xb.keep hB
            replace XL := XL.keep hB
            replace hw := hw.trans (hB.mono hw.size)
            clear hB
            have B0l := B0.1
            have B0u := B0.2.1
            have B0v := B0.2.2
            have BLl := BL.1
            have BLu := BL.2.1
            have BLv := BL.2.2
            go_wp2_with fail
            refine (heads_c _).mono ?_
            rintro e w9 ⟨rfl, hb⟩
            have hB : Below w8.heap.size w8 w9 := Below.trans (by repeat (first | exact Below.refl _ _ | apply Below.drew | apply below_drewN | refine Below.alloc ?_ (by simp) _)) (hb.mono (by simp))
            clear hb
            clear B0l B0u B0v
            clear BLl BLu BLv
            replace B0 := B0.keep hB
            replace BL := BL.keep hB
            replace Xb := Xb.keep hB
            replace XL := XL.keep hB
            replace hw := hw.trans (hB.mono hw.size)
            clear hB
            have B0l := B0.1
            have B0u := B0.2.1
            have B0v := B0.2.2
            have BLl := BL.1
            have BLu := BL.2.1
            have BLv := BL.2.2
            go_wp2
            go_ret
            exact ⟨rfl, hw⟩
          case neg =>
            have ej' : (j == (k : Int)) = false := by simpa using ej
            obtain ⟨G1, G2⟩ := GO j ej
            clear GO ej
            go_enter Try.func8, Try.ntmps8
            have hw : Below w.heap.size w w := Below.refl _ _
            go_wp2_with fail
            refine (small_c _ _ _ _ _).mono ?_
            rintro e w1 ⟨rfl, hb⟩
            have B0 := Box.new hb
            have hB : Below w.heap.size w w1 := Below.trans (by repeat (first | exact Below.refl _ _ | apply Below.drew | apply below_drewN | refine Below.alloc ?_ (by simp) _)) (hb.mono (by simp))
            clear hb
            replace Xb := Xb.keep hB
            replace hw := hw.trans (hB.mono hw.size)
            clear hB
            have B0l := B0.1
            have B0u := B0.2.1
            have B0v := B0.2.2
            go_wp2_with fail
            refine (check_c _ _ _ _ _ (Xb.keep (by repeat (first | exact Below.refl _ _ | apply Below.drew | apply below_drewN | refine Below.alloc ?_ (by simp) _)))).mono ?_
            rintro e w2 ⟨rfl, hb⟩
            have hB : Below w1.heap.size w1 w2 := Below.trans (by repeat (first | exact Below.refl _ _ | apply Below.drew | apply below_drewN | refine Below.alloc ?_ (by simp) _)) (hb.mono (by simp))
            clear hb
            clear B0l B0u B0v
            replace B0 := B0.keep hB
            replace Xb := Xb.keep hB
            replace hw := hw.trans (hB.mono hw.size)
            clear hB
            have B0l := B0.1
            have B0u := B0.2.1
            have B0v := B0.2.2
            go_wp2_with fail
            refine (set_c _ _ _ _ _ _ _ (Xb.keep (by repeat (first | exact Below.refl _ _ | apply Below.drew | apply below_drewN | refine Below.alloc ?_ (by simp) _))) Fb (by omega)).mono ?_
            rintro e w3 ⟨lo, lc, rfl, XL, FL, CL, hb⟩
            have hB : Below w2.heap.size w2 w3 := Below.trans (by repeat (first | exact Below.refl _ _ | apply Below.drew | apply below_drewN | refine Below.alloc ?_ (by simp) _)) (hb.mono (by simp))
            clear hb
            clear B0l B0u B0v
            replace B0 := B0.keep hB
            replace Xb := Xb.keep hB
            replace hw := hw.trans (hB.mono hw.size)
            clear hB
            have B0l := B0.1
            have B0u := B0.2.1
            have B0v := B0.2.2
            go_wp2_with fail
            refine (get_c _ _ _ _ _ _ (Xb.keep (by repeat (first | exact Below.refl _ _ | apply Below.drew | apply below_drewN | refine Below.alloc ?_ (by simp) _))) Fb).mono ?_
            rintro e w4 ⟨rfl, hb⟩
            have BL := Box.new hb
            have hB : Below w3.heap.size w3 w4 := Below.trans (by repeat (first | exact Below.refl _ _ | apply Below.drew | apply below_drewN | refine Below.alloc ?_ (by simp) _)) (hb.mono (by simp))
            clear hb
            clear B0l B0u B0v
            replace B0 := B0.keep hB
            replace Xb := Xb.keep hB
            replace XL := XL.keep hB
            replace hw := hw.trans (hB.mono hw.size)
            clear hB
            have B0l := B0.1
            have B0u := B0.2.1
            have B0v := B0.2.2
            have BLl := BL.1
            have BLu := BL.2.1
            have BLv := BL.2.2
            go_wp2_with fail
            refine (get_c _ _ _ _ _ _ (XL.keep (by repeat (first | exact Below.refl _ _ | apply Below.drew | apply below_drewN | refine Below.alloc ?_ (by simp) _))) FL).mono ?_
            rintro e w5 ⟨rfl, hb⟩
            have hB : Below w4.heap.size w4 w5 := Below.trans (by repeat (first | exact Below.refl _ _ | apply Below.drew | apply below_drewN | refine Below.alloc ?_ (by simp) _)) (hb.mono (by simp))
            clear hb
            clear B0l B0u B0v
            clear BLl BLu BLv
            replace B0 := B0.keep hB
            replace BL := BL.keep hB
            replace Xb := Xb.keep hB
            replace XL := XL.keep hB
            replace hw := hw.trans (hB.mono hw.size)
            clear hB
            have B0l := B0.1
            have B0u := B0.2.1
            have B0v := B0.2.2
            have BLl := BL.1
            have BLu := BL.2.1
            have BLv := BL.2.2
            go_wp2_with fail
            refine (get_c _ _ _ _ _ _ (Xb.keep (by repeat (first | exact Below.refl _ _ | apply Below.drew | apply below_drewN | refine Below.alloc ?_ (by simp) _))) Fb).mono ?_
            rintro e w6 ⟨rfl, hb⟩
            have hB : Below w5.heap.size w5 w6 := Below.trans (by repeat (first | exact Below.refl _ _ | apply Below.drew | apply below_drewN | refine Below.alloc ?_ (by simp) _)) (hb.mono (by simp))
            clear hb
            clear B0l B0u B0v
            clear BLl BLu BLv
            replace B0 := B0.keep hB
            replace BL := BL.keep hB
            replace Xb := Xb.keep hB
            replace XL := XL.keep hB
            replace hw := hw.trans (hB.mono hw.size)
            clear hB
            have B0l := B0.1
            have B0u := B0.2.1
            have B0v := B0.2.2
            have BLl := BL.1
            have BLu := BL.2.1
            have BLv := BL.2.2
            go_wp2_with fail
            refine (get_c _ _ _ _ _ _ (XL.keep (by repeat (first | exact Below.refl _ _ | apply Below.drew | apply below_drewN | refine Below.alloc ?_ (by simp) _))) FL).mono ?_
            rintro e w7 ⟨rfl, hb⟩
            have hB : Below w6.heap.size w6 w7 := Below.trans (by repeat (first | exact Below.refl _ _ | apply Below.drew | apply below_drewN | refine Below.alloc ?_ (by simp) _)) (hb.mono (by simp))
            clear hb
            clear B0l B0u B0v
            clear BLl BLu BLv
            replace B0 := B0.keep hB
            replace BL := BL.keep hB
            replace Xb := Xb.keep hB
            replace XL := XL.keep hB
            replace hw := hw.trans (hB.mono hw.size)
            clear hB
            have B0l := B0.1
            have B0u := B0.2.1
            have B0v := B0.2.2
            have BLl := BL.1
            have BLu := BL.2.1
            have BLv := BL.2.2
            go_wp2_with fail
            go_region_held3 (fun w' => w'.cell? ⟨w.heap.size, 0, none⟩ = some (.int .i64 Nb) ∧ w'.cell? ⟨w.heap.size, 1, none⟩ = some (.slice ab xb.length cb) ∧ w'.cell? ⟨w3.heap.size, 0, none⟩ = some (.int .i64 Nb) ∧ w'.cell? ⟨w3.heap.size, 1, none⟩ = some (.slice lo (setL Nb xb k true).length lc)) (first | go_keep | (refine ⟨?_, ?_, ?_, ?_⟩ <;> assumption))
              (first | (go_at_call 13; refine (bones_c _ _ _ _ _ _ ?_ ?_ ?_).mono ?_; (first | with_reducible exact (Xb.keep (by repeat (first | exact Below.refl _ _ | apply Below.drew | apply below_drewN | refine Below.alloc ?_ (by simp) _))) | with_reducible exact (XL.keep (by repeat (first | exact Below.refl _ _ | apply Below.drew | apply below_drewN | refine Below.alloc ?_ (by simp) _)))); (first | with_reducible exact Fb | with_reducible exact FL); (first | with_reducible exact Cb | with_reducible exact CL); rintro e wz ⟨rfl, hb⟩; replace B0 := (B0.keep (by repeat (first | exact Below.refl _ _ | apply Below.drew | apply below_drewN | refine Below.alloc ?_ (by simp) _))).keep hb; replace BL := (BL.keep (by repeat (first | exact Below.refl _ _ | apply Below.drew | apply below_drewN | refine Below.alloc ?_ (by simp) _))).keep hb; replace Xb := (Xb.keep (by repeat (first | exact Below.refl _ _ | apply Below.drew | apply below_drewN | refine Below.alloc ?_ (by simp) _))).keep hb; replace XL := (XL.keep (by repeat (first | exact Below.refl _ _ | apply Below.drew | apply below_drewN | refine Below.alloc ?_ (by simp) _))).keep hb; replace hw := hw.trans (Below.trans (by repeat (first | exact Below.refl _ _ | apply Below.drew | apply below_drewN | refine Below.alloc ?_ (by simp) _)) (hb.mono hw.size)); clear hb; replace B0l := B0.1; replace B0u := B0.2.1; replace B0v := B0.2.2; replace BLl := BL.1; replace BLu := BL.2.1; replace BLv := BL.2.2))
            go_wp2_with fail
            refine (check_c _ _ _ _ _ (XL.keep (by repeat (first | exact Below.refl _ _ | apply Below.drew | apply below_drewN | refine Below.alloc ?_ (by simp) _)))).mono ?_
            rintro e w8 ⟨rfl, hb⟩
            have hB : Below wz.heap.size wz w8 := Below.trans (by repeat (first | exact Below.refl _ _ | apply Below.drew | apply below_drewN | refine Below.alloc ?_ (by simp) _)) (hb.mono (by simp))
            clear hb
            clear B0l B0u B0v
            clear BLl BLu BLv
            replace B0 := B0.keep hB
            replace BL := BL.keep hB
            replace Xb := Xb.keep hB
            replace XL := XL.keep hB
            replace hw := hw.trans (hB.mono hw.size)
            clear hB
            have B0l := B0.1
            have B0u := B0.2.1
            have B0v := B0.2.2
            have BLl := BL.1
            have BLu := BL.2.1
            have BLv := BL.2.2
            go_wp2_with fail
            refine (heads_c _).mono ?_
            rintro e w9 ⟨rfl, hb⟩
            have hB : Below w8.heap.size w8 w9 := Below.trans (by repeat (first | exact Below.refl _ _ | apply Below.drew | apply below_drewN | refine Below.alloc ?_ (by simp) _)) (hb.mono (by simp))
            clear hb
            clear B0l B0u B0v
            clear BLl BLu BLv
            replace B0 := B0.keep hB
            replace BL := BL.keep hB
            replace Xb := Xb.keep hB
            replace XL := XL.keep hB
            replace hw := hw.trans (hB.mono hw.size)
            clear hB
            have B0l := B0.1
            have B0u := B0.2.1
            have B0v := B0.2.2
            have BLl := BL.1
            have BLu := BL.2.1
            have BLv := BL.2.2
            go_wp2
            go_ret
            exact ⟨rfl, hw⟩
      | false =>
        cases hb : bitAt xb k with
        | true =>
          rw [hb] at B1 hd
          have D : d = d' + 1 := by unfold b2n at hd; simp at hd; omega
          subst D
          clear hd
          have N1 : ((d' : Int) - ((d' : Int) + 1) == 0) = false := by simp; omega
          have N2 : ((d' : Int) - ((d' : Int) + 1) == 1) = false := by simp; omega
          by_cases ej : j = (k : Int)
          case pos =>
            subst ej
            clear GO
            go_enter Try.func8, Try.ntmps8
            have hw : Below w.heap.size w w := Below.refl _ _
            go_wp2_with fail
            refine (small_c _ _ _ _ _).mono ?_
            rintro e w1 ⟨rfl, hb⟩
            have B0 := Box.new hb
            have hB : Below w.heap.size w w1 := Below.trans (by repeat (first | exact Below.refl _ _ | apply Below.drew | apply below_drewN | refine Below.alloc ?_ (by simp) _)) (hb.mono (by simp))
            clear hb
            replace Xb := Xb.keep hB
            replace hw := hw.trans (hB.mono hw.size)
            clear hB
            have B0l := B0.1
            have B0u := B0.2.1
            have B0v := B0.2.2
            go_wp2_with fail
            refine (check_c _ _ _ _ _ (Xb.keep (by repeat (first | exact Below.refl _ _ | apply Below.drew | apply below_drewN | refine Below.alloc ?_ (by simp) _)))).mono ?_
            rintro e w2 ⟨rfl, hb⟩
            have hB : Below w1.heap.size w1 w2 := Below.trans (by repeat (first | exact Below.refl _ _ | apply Below.drew | apply below_drewN | refine Below.alloc ?_ (by simp) _)) (hb.mono (by simp))
            clear hb
            clear B0l B0u B0v
            replace B0 := B0.keep hB
            replace Xb := Xb.keep hB
            replace hw := hw.trans (hB.mono hw.size)
            clear hB
            have B0l := B0.1
            have B0u := B0.2.1
            have B0v := B0.2.2
            go_wp2_with fail
            refine (set_c _ _ _ _ _ _ _ (Xb.keep (by repeat (first | exact Below.refl _ _ | apply Below.drew | apply below_drewN | refine Below.alloc ?_ (by simp) _))) Fb (by omega)).mono ?_
            rintro e w3 ⟨lo, lc, rfl, XL, FL, CL, hb⟩
            have hB : Below w2.heap.size w2 w3 := Below.trans (by repeat (first | exact Below.refl _ _ | apply Below.drew | apply below_drewN | refine Below.alloc ?_ (by simp) _)) (hb.mono (by simp))
            clear hb
            clear B0l B0u B0v
            replace B0 := B0.keep hB
            replace Xb := Xb.keep hB
            replace hw := hw.trans (hB.mono hw.size)
            clear hB
            have B0l := B0.1
            have B0u := B0.2.1
            have B0v := B0.2.2
            go_wp2_with fail
            refine (get_c _ _ _ _ _ _ (Xb.keep (by repeat (first | exact Below.refl _ _ | apply Below.drew | apply below_drewN | refine Below.alloc ?_ (by simp) _))) Fb).mono ?_
            rintro e w4 ⟨rfl, hb⟩
            have BL := Box.new hb
            have hB : Below w3.heap.size w3 w4 := Below.trans (by repeat (first | exact Below.refl _ _ | apply Below.drew | apply below_drewN | refine Below.alloc ?_ (by simp) _)) (hb.mono (by simp))
            clear hb
            clear B0l B0u B0v
            replace B0 := B0.keep hB
            replace Xb := Xb.keep hB
            replace XL := XL.keep hB
            replace hw := hw.trans (hB.mono hw.size)
            clear hB
            have B0l := B0.1
            have B0u := B0.2.1
            have B0v := B0.2.2
            have BLl := BL.1
            have BLu := BL.2.1
            have BLv := BL.2.2
            go_wp2_with fail
            refine (get_c _ _ _ _ _ _ (XL.keep (by repeat (first | exact Below.refl _ _ | apply Below.drew | apply below_drewN | refine Below.alloc ?_ (by simp) _))) FL).mono ?_
            rintro e w5 ⟨rfl, hb⟩
            have hB : Below w4.heap.size w4 w5 := Below.trans (by repeat (first | exact Below.refl _ _ | apply Below.drew | apply below_drewN | refine Below.alloc ?_ (by simp) _)) (hb.mono (by simp))
            clear hb
            clear B0l B0u B0v
            clear BLl BLu BLv
            replace B0 := B0.keep hB
            replace BL := BL.keep hB
            replace Xb := Xb.keep hB
            replace XL := XL.keep hB
            replace hw := hw.trans (hB.mono hw.size)
            clear hB
            have B0l := B0.1
            have B0u := B0.2.1
            have B0v := B0.2.2
            have BLl := BL.1
            have BLu := BL.2.1
            have BLv := BL.2.2
            go_wp2_with fail
            refine (get_c _ _ _ _ _ _ (Xb.keep (by repeat (first | exact Below.refl _ _ | apply Below.drew | apply below_drewN | refine Below.alloc ?_ (by simp) _))) Fb).mono ?_
            rintro e w6 ⟨rfl, hb⟩
            have hB : Below w5.heap.size w5 w6 := Below.trans (by repeat (first | exact Below.refl _ _ | apply Below.drew | apply below_drewN | refine Below.alloc ?_ (by simp) _)) (hb.mono (by simp))
            clear hb
            clear B0l B0u B0v
            clear BLl BLu BLv
            replace B0 := B0.keep hB
            replace BL := BL.keep hB
            replace Xb := Xb.keep hB
            replace XL := XL.keep hB
            replace hw := hw.trans (hB.mono hw.size)
            clear hB
            have B0l := B0.1
            have B0u := B0.2.1
            have B0v := B0.2.2
            have BLl := BL.1
            have BLu := BL.2.1
            have BLv := BL.2.2
            go_wp2_with fail
            refine (get_c _ _ _ _ _ _ (XL.keep (by repeat (first | exact Below.refl _ _ | apply Below.drew | apply below_drewN | refine Below.alloc ?_ (by simp) _))) FL).mono ?_
            rintro e w7 ⟨rfl, hb⟩
            have hB : Below w6.heap.size w6 w7 := Below.trans (by repeat (first | exact Below.refl _ _ | apply Below.drew | apply below_drewN | refine Below.alloc ?_ (by simp) _)) (hb.mono (by simp))
            clear hb
            clear B0l B0u B0v
            clear BLl BLu BLv
            replace B0 := B0.keep hB
            replace BL := BL.keep hB
            replace Xb := Xb.keep hB
            replace XL := XL.keep hB
            replace hw := hw.trans (hB.mono hw.size)
            clear hB
            have B0l := B0.1
            have B0u := B0.2.1
            have B0v := B0.2.2
            have BLl := BL.1
            have BLu := BL.2.1
            have BLv := BL.2.2
            go_wp2_with fail
            go_region_held3 (fun w' => w'.cell? ⟨w.heap.size, 0, none⟩ = some (.int .i64 Nb) ∧ w'.cell? ⟨w.heap.size, 1, none⟩ = some (.slice ab xb.length cb) ∧ w'.cell? ⟨w3.heap.size, 0, none⟩ = some (.int .i64 Nb) ∧ w'.cell? ⟨w3.heap.size, 1, none⟩ = some (.slice lo (setL Nb xb k false).length lc)) (first | go_keep | (refine ⟨?_, ?_, ?_, ?_⟩ <;> assumption))
              (first | (go_at_call 13; refine (bones_c _ _ _ _ _ _ ?_ ?_ ?_).mono ?_; (first | with_reducible exact (Xb.keep (by repeat (first | exact Below.refl _ _ | apply Below.drew | apply below_drewN | refine Below.alloc ?_ (by simp) _))) | with_reducible exact (XL.keep (by repeat (first | exact Below.refl _ _ | apply Below.drew | apply below_drewN | refine Below.alloc ?_ (by simp) _)))); (first | with_reducible exact Fb | with_reducible exact FL); (first | with_reducible exact Cb | with_reducible exact CL); rintro e wz ⟨rfl, hb⟩; replace B0 := (B0.keep (by repeat (first | exact Below.refl _ _ | apply Below.drew | apply below_drewN | refine Below.alloc ?_ (by simp) _))).keep hb; replace BL := (BL.keep (by repeat (first | exact Below.refl _ _ | apply Below.drew | apply below_drewN | refine Below.alloc ?_ (by simp) _))).keep hb; replace Xb := (Xb.keep (by repeat (first | exact Below.refl _ _ | apply Below.drew | apply below_drewN | refine Below.alloc ?_ (by simp) _))).keep hb; replace XL := (XL.keep (by repeat (first | exact Below.refl _ _ | apply Below.drew | apply below_drewN | refine Below.alloc ?_ (by simp) _))).keep hb; replace hw := hw.trans (Below.trans (by repeat (first | exact Below.refl _ _ | apply Below.drew | apply below_drewN | refine Below.alloc ?_ (by simp) _)) (hb.mono hw.size)); clear hb; replace B0l := B0.1; replace B0u := B0.2.1; replace B0v := B0.2.2; replace BLl := BL.1; replace BLu := BL.2.1; replace BLv := BL.2.2))
            go_wp2_with fail
            refine (check_c _ _ _ _ _ (XL.keep (by repeat (first | exact Below.refl _ _ | apply Below.drew | apply below_drewN | refine Below.alloc ?_ (by simp) _)))).mono ?_
            rintro e w8 ⟨rfl, hb⟩
            have hB : Below wz.heap.size wz w8 := Below.trans (by repeat (first | exact Below.refl _ _ | apply Below.drew | apply below_drewN | refine Below.alloc ?_ (by simp) _)) (hb.mono (by simp))
            clear hb
            clear B0l B0u B0v
            clear BLl BLu BLv
            replace B0 := B0.keep hB
            replace BL := BL.keep hB
            replace Xb := Xb.keep hB
            replace XL := XL.keep hB
            replace hw := hw.trans (hB.mono hw.size)
            clear hB
            have B0l := B0.1
            have B0u := B0.2.1
            have B0v := B0.2.2
            have BLl := BL.1
            have BLu := BL.2.1
            have BLv := BL.2.2
            go_wp2_with fail
            refine (heads_c _).mono ?_
            rintro e w9 ⟨rfl, hb⟩
            have hB : Below w8.heap.size w8 w9 := Below.trans (by repeat (first | exact Below.refl _ _ | apply Below.drew | apply below_drewN | refine Below.alloc ?_ (by simp) _)) (hb.mono (by simp))
            clear hb
            clear B0l B0u B0v
            clear BLl BLu BLv
            replace B0 := B0.keep hB
            replace BL := BL.keep hB
            replace Xb := Xb.keep hB
            replace XL := XL.keep hB
            replace hw := hw.trans (hB.mono hw.size)
            clear hB
            have B0l := B0.1
            have B0u := B0.2.1
            have B0v := B0.2.2
            have BLl := BL.1
            have BLu := BL.2.1
            have BLv := BL.2.2
            go_wp2
            go_ret
            exact ⟨rfl, hw⟩
          case neg =>
            have ej' : (j == (k : Int)) = false := by simpa using ej
            obtain ⟨G1, G2⟩ := GO j ej
            clear GO ej
            go_enter Try.func8, Try.ntmps8
            have hw : Below w.heap.size w w := Below.refl _ _
            go_wp2_with fail
            refine (small_c _ _ _ _ _).mono ?_
            rintro e w1 ⟨rfl, hb⟩
            have B0 := Box.new hb
            have hB : Below w.heap.size w w1 := Below.trans (by repeat (first | exact Below.refl _ _ | apply Below.drew | apply below_drewN | refine Below.alloc ?_ (by simp) _)) (hb.mono (by simp))
            clear hb
            replace Xb := Xb.keep hB
            replace hw := hw.trans (hB.mono hw.size)
            clear hB
            have B0l := B0.1
            have B0u := B0.2.1
            have B0v := B0.2.2
            go_wp2_with fail
            refine (check_c _ _ _ _ _ (Xb.keep (by repeat (first | exact Below.refl _ _ | apply Below.drew | apply below_drewN | refine Below.alloc ?_ (by simp) _)))).mono ?_
            rintro e w2 ⟨rfl, hb⟩
            have hB : Below w1.heap.size w1 w2 := Below.trans (by repeat (first | exact Below.refl _ _ | apply Below.drew | apply below_drewN | refine Below.alloc ?_ (by simp) _)) (hb.mono (by simp))
            clear hb
            clear B0l B0u B0v
            replace B0 := B0.keep hB
            replace Xb := Xb.keep hB
            replace hw := hw.trans (hB.mono hw.size)
            clear hB
            have B0l := B0.1
            have B0u := B0.2.1
            have B0v := B0.2.2
            go_wp2_with fail
            refine (set_c _ _ _ _ _ _ _ (Xb.keep (by repeat (first | exact Below.refl _ _ | apply Below.drew | apply below_drewN | refine Below.alloc ?_ (by simp) _))) Fb (by omega)).mono ?_
            rintro e w3 ⟨lo, lc, rfl, XL, FL, CL, hb⟩
            have hB : Below w2.heap.size w2 w3 := Below.trans (by repeat (first | exact Below.refl _ _ | apply Below.drew | apply below_drewN | refine Below.alloc ?_ (by simp) _)) (hb.mono (by simp))
            clear hb
            clear B0l B0u B0v
            replace B0 := B0.keep hB
            replace Xb := Xb.keep hB
            replace hw := hw.trans (hB.mono hw.size)
            clear hB
            have B0l := B0.1
            have B0u := B0.2.1
            have B0v := B0.2.2
            go_wp2_with fail
            refine (get_c _ _ _ _ _ _ (Xb.keep (by repeat (first | exact Below.refl _ _ | apply Below.drew | apply below_drewN | refine Below.alloc ?_ (by simp) _))) Fb).mono ?_
            rintro e w4 ⟨rfl, hb⟩
            have BL := Box.new hb
            have hB : Below w3.heap.size w3 w4 := Below.trans (by repeat (first | exact Below.refl _ _ | apply Below.drew | apply below_drewN | refine Below.alloc ?_ (by simp) _)) (hb.mono (by simp))
            clear hb
            clear B0l B0u B0v
            replace B0 := B0.keep hB
            replace Xb := Xb.keep hB
            replace XL := XL.keep hB
            replace hw := hw.trans (hB.mono hw.size)
            clear hB
            have B0l := B0.1
            have B0u := B0.2.1
            have B0v := B0.2.2
            have BLl := BL.1
            have BLu := BL.2.1
            have BLv := BL.2.2
            go_wp2_with fail
            refine (get_c _ _ _ _ _ _ (XL.keep (by repeat (first | exact Below.refl _ _ | apply Below.drew | apply below_drewN | refine Below.alloc ?_ (by simp) _))) FL).mono ?_
            rintro e w5 ⟨rfl, hb⟩
            have hB : Below w4.heap.size w4 w5 := Below.trans (by repeat (first | exact Below.refl _ _ | apply Below.drew | apply below_drewN | refine Below.alloc ?_ (by simp) _)) (hb.mono (by simp))
            clear hb
            clear B0l B0u B0v
            clear BLl BLu BLv
            replace B0 := B0.keep hB
            replace BL := BL.keep hB
            replace Xb := Xb.keep hB
            replace XL := XL.keep hB
            replace hw := hw.trans (hB.mono hw.size)
            clear hB
            have B0l := B0.1
            have B0u := B0.2.1
            have B0v := B0.2.2
            have BLl := BL.1
            have BLu := BL.2.1
            have BLv := BL.2.2
            go_wp2_with fail
            refine (get_c _ _ _ _ _ _ (Xb.keep (by repeat (first | exact Below.refl _ _ | apply Below.drew | apply below_drewN | refine Below.alloc ?_ (by simp) _))) Fb).mono ?_
            rintro e w6 ⟨rfl, hb⟩
            have hB : Below w5.heap.size w5 w6 := Below.trans (by repeat (first | exact Below.refl _ _ | apply Below.drew | apply below_drewN | refine Below.alloc ?_ (by simp) _)) (hb.mono (by simp))
            clear hb
            clear B0l B0u B0v
            clear BLl BLu BLv
            replace B0 := B0.keep hB
            replace BL := BL.keep hB
            replace Xb := Xb.keep hB
            replace XL := XL.keep hB
            replace hw := hw.trans (hB.mono hw.size)
            clear hB
            have B0l := B0.1
            have B0u := B0.2.1
            have B0v := B0.2.2
            have BLl := BL.1
            have BLu := BL.2.1
            have BLv := BL.2.2
            go_wp2_with fail
            refine (get_c _ _ _ _ _ _ (XL.keep (by repeat (first | exact Below.refl _ _ | apply Below.drew | apply below_drewN | refine Below.alloc ?_ (by simp) _))) FL).mono ?_
            rintro e w7 ⟨rfl, hb⟩
            have hB : Below w6.heap.size w6 w7 := Below.trans (by repeat (first | exact Below.refl _ _ | apply Below.drew | apply below_drewN | refine Below.alloc ?_ (by simp) _)) (hb.mono (by simp))
            clear hb
            clear B0l B0u B0v
            clear BLl BLu BLv
            replace B0 := B0.keep hB
            replace BL := BL.keep hB
            replace Xb := Xb.keep hB
            replace XL := XL.keep hB
            replace hw := hw.trans (hB.mono hw.size)
            clear hB
            have B0l := B0.1
            have B0u := B0.2.1
            have B0v := B0.2.2
            have BLl := BL.1
            have BLu := BL.2.1
            have BLv := BL.2.2
            go_wp2_with fail
            go_region_held3 (fun w' => w'.cell? ⟨w.heap.size, 0, none⟩ = some (.int .i64 Nb) ∧ w'.cell? ⟨w.heap.size, 1, none⟩ = some (.slice ab xb.length cb) ∧ w'.cell? ⟨w3.heap.size, 0, none⟩ = some (.int .i64 Nb) ∧ w'.cell? ⟨w3.heap.size, 1, none⟩ = some (.slice lo (setL Nb xb k false).length lc)) (first | go_keep | (refine ⟨?_, ?_, ?_, ?_⟩ <;> assumption))
              (first | (go_at_call 13; refine (bones_c _ _ _ _ _ _ ?_ ?_ ?_).mono ?_; (first | with_reducible exact (Xb.keep (by repeat (first | exact Below.refl _ _ | apply Below.drew | apply below_drewN | refine Below.alloc ?_ (by simp) _))) | with_reducible exact (XL.keep (by repeat (first | exact Below.refl _ _ | apply Below.drew | apply below_drewN | refine Below.alloc ?_ (by simp) _)))); (first | with_reducible exact Fb | with_reducible exact FL); (first | with_reducible exact Cb | with_reducible exact CL); rintro e wz ⟨rfl, hb⟩; replace B0 := (B0.keep (by repeat (first | exact Below.refl _ _ | apply Below.drew | apply below_drewN | refine Below.alloc ?_ (by simp) _))).keep hb; replace BL := (BL.keep (by repeat (first | exact Below.refl _ _ | apply Below.drew | apply below_drewN | refine Below.alloc ?_ (by simp) _))).keep hb; replace Xb := (Xb.keep (by repeat (first | exact Below.refl _ _ | apply Below.drew | apply below_drewN | refine Below.alloc ?_ (by simp) _))).keep hb; replace XL := (XL.keep (by repeat (first | exact Below.refl _ _ | apply Below.drew | apply below_drewN | refine Below.alloc ?_ (by simp) _))).keep hb; replace hw := hw.trans (Below.trans (by repeat (first | exact Below.refl _ _ | apply Below.drew | apply below_drewN | refine Below.alloc ?_ (by simp) _)) (hb.mono hw.size)); clear hb; replace B0l := B0.1; replace B0u := B0.2.1; replace B0v := B0.2.2; replace BLl := BL.1; replace BLu := BL.2.1; replace BLv := BL.2.2))
            go_wp2_with fail
            refine (check_c _ _ _ _ _ (XL.keep (by repeat (first | exact Below.refl _ _ | apply Below.drew | apply below_drewN | refine Below.alloc ?_ (by simp) _)))).mono ?_
            rintro e w8 ⟨rfl, hb⟩
            have hB : Below wz.heap.size wz w8 := Below.trans (by repeat (first | exact Below.refl _ _ | apply Below.drew | apply below_drewN | refine Below.alloc ?_ (by simp) _)) (hb.mono (by simp))
            clear hb
            clear B0l B0u B0v
            clear BLl BLu BLv
            replace B0 := B0.keep hB
            replace BL := BL.keep hB
            replace Xb := Xb.keep hB
            replace XL := XL.keep hB
            replace hw := hw.trans (hB.mono hw.size)
            clear hB
            have B0l := B0.1
            have B0u := B0.2.1
            have B0v := B0.2.2
            have BLl := BL.1
            have BLu := BL.2.1
            have BLv := BL.2.2
            go_wp2_with fail
            refine (heads_c _).mono ?_
            rintro e w9 ⟨rfl, hb⟩
            have hB : Below w8.heap.size w8 w9 := Below.trans (by repeat (first | exact Below.refl _ _ | apply Below.drew | apply below_drewN | refine Below.alloc ?_ (by simp) _)) (hb.mono (by simp))
            clear hb
            clear B0l B0u B0v
            clear BLl BLu BLv
            replace B0 := B0.keep hB
            replace BL := BL.keep hB
            replace Xb := Xb.keep hB
            replace XL := XL.keep hB
            replace hw := hw.trans (hB.mono hw.size)
            clear hB
            have B0l := B0.1
            have B0u := B0.2.1
            have B0v := B0.2.2
            have BLl := BL.1
            have BLu := BL.2.1
            have BLv := BL.2.2
            go_wp2
            go_ret
            exact ⟨rfl, hw⟩
        | false =>
          rw [hb] at B1 hd
          have D : d' = d := by unfold b2n at hd; simp at hd; omega
          subst D
          clear hd
          by_cases ej : j = (k : Int)
          case pos =>
            subst ej
            clear GO
            go_enter Try.func8, Try.ntmps8
            have hw : Below w.heap.size w w := Below.refl _ _
            go_wp2_with fail
            refine (small_c _ _ _ _ _).mono ?_
            rintro e w1 ⟨rfl, hb⟩
            have B0 := Box.new hb
            have hB : Below w.heap.size w w1 := Below.trans (by repeat (first | exact Below.refl _ _ | apply Below.drew | apply below_drewN | refine Below.alloc ?_ (by simp) _)) (hb.mono (by simp))
            clear hb
            replace Xb := Xb.keep hB
            replace hw := hw.trans (hB.mono hw.size)
            clear hB
            have B0l := B0.1
            have B0u := B0.2.1
            have B0v := B0.2.2
            go_wp2_with fail
            refine (check_c _ _ _ _ _ (Xb.keep (by repeat (first | exact Below.refl _ _ | apply Below.drew | apply below_drewN | refine Below.alloc ?_ (by simp) _)))).mono ?_
            rintro e w2 ⟨rfl, hb⟩
            have hB : Below w1.heap.size w1 w2 := Below.trans (by repeat (first | exact Below.refl _ _ | apply Below.drew | apply below_drewN | refine Below.alloc ?_ (by simp) _)) (hb.mono (by simp))
            clear hb
            clear B0l B0u B0v
            replace B0 := B0.keep hB
            replace Xb := Xb.keep hB
            replace hw := hw.trans (hB.mono hw.size)
            clear hB
            have B0l := B0.1
            have B0u := B0.2.1
            have B0v := B0.2.2
            go_wp2_with fail
            refine (set_c _ _ _ _ _ _ _ (Xb.keep (by repeat (first | exact Below.refl _ _ | apply Below.drew | apply below_drewN | refine Below.alloc ?_ (by simp) _))) Fb (by omega)).mono ?_
            rintro e w3 ⟨lo, lc, rfl, XL, FL, CL, hb⟩
            have hB : Below w2.heap.size w2 w3 := Below.trans (by repeat (first | exact Below.refl _ _ | apply Below.drew | apply below_drewN | refine Below.alloc ?_ (by simp) _)) (hb.mono (by simp))
            clear hb
            clear B0l B0u B0v
            replace B0 := B0.keep hB
            replace Xb := Xb.keep hB
            replace hw := hw.trans (hB.mono hw.size)
            clear hB
            have B0l := B0.1
            have B0u := B0.2.1
            have B0v := B0.2.2
            go_wp2_with fail
            refine (get_c _ _ _ _ _ _ (Xb.keep (by repeat (first | exact Below.refl _ _ | apply Below.drew | apply below_drewN | refine Below.alloc ?_ (by simp) _))) Fb).mono ?_
            rintro e w4 ⟨rfl, hb⟩
            have BL := Box.new hb
            have hB : Below w3.heap.size w3 w4 := Below.trans (by repeat (first | exact Below.refl _ _ | apply Below.drew | apply below_drewN | refine Below.alloc ?_ (by simp) _)) (hb.mono (by simp))
            clear hb
            clear B0l B0u B0v
            replace B0 := B0.keep hB
            replace Xb := Xb.keep hB
            replace XL := XL.keep hB
            replace hw := hw.trans (hB.mono hw.size)
            clear hB
            have B0l := B0.1
            have B0u := B0.2.1
            have B0v := B0.2.2
            have BLl := BL.1
            have BLu := BL.2.1
            have BLv := BL.2.2
            go_wp2_with fail
            refine (get_c _ _ _ _ _ _ (XL.keep (by repeat (first | exact Below.refl _ _ | apply Below.drew | apply below_drewN | refine Below.alloc ?_ (by simp) _))) FL).mono ?_
            rintro e w5 ⟨rfl, hb⟩
            have hB : Below w4.heap.size w4 w5 := Below.trans (by repeat (first | exact Below.refl _ _ | apply Below.drew | apply below_drewN | refine Below.alloc ?_ (by simp) _)) (hb.mono (by simp))
            clear hb
            clear B0l B0u B0v
            clear BLl BLu BLv
            replace B0 := B0.keep hB
            replace BL := BL.keep hB
            replace Xb := Xb.keep hB
            replace XL := XL.keep hB
            replace hw := hw.trans (hB.mono hw.size)
            clear hB
            have B0l := B0.1
            have B0u := B0.2.1
            have B0v := B0.2.2
            have BLl := BL.1
            have BLu := BL.2.1
            have BLv := BL.2.2
            go_wp2_with fail
            refine (get_c _ _ _ _ _ _ (Xb.keep (by repeat (first | exact Below.refl _ _ | apply Below.drew | apply below_drewN | refine Below.alloc ?_ (by simp) _))) Fb).mono ?_
            rintro e w6 ⟨rfl, hb⟩
            have hB : Below w5.heap.size w5 w6 := Below.trans (by repeat (first | exact Below.refl _ _ | apply Below.drew | apply below_drewN | refine Below.alloc ?_ (by simp) _)) (hb.mono (by simp))
            clear hb
            clear B0l B0u B0v
            clear BLl BLu BLv
            replace B0 := B0.keep hB
            replace BL := BL.keep hB
            replace Xb := Xb.keep hB
            replace XL := XL.keep hB
            replace hw := hw.trans (hB.mono hw.size)
            clear hB
            have B0l := B0.1
            have B0u := B0.2.1
            have B0v := B0.2.2
            have BLl := BL.1
            have BLu := BL.2.1
            have BLv := BL.2.2
            go_wp2_with fail
            refine (get_c _ _ _ _ _ _ (XL.keep (by repeat (first | exact Below.refl _ _ | apply Below.drew | apply below_drewN | refine Below.alloc ?_ (by simp) _))) FL).mono ?_
            rintro e w7 ⟨rfl, hb⟩
            have hB : Below w6.heap.size w6 w7 := Below.trans (by repeat (first | exact Below.refl _ _ | apply Below.drew | apply below_drewN | refine Below.alloc ?_ (by simp) _)) (hb.mono (by simp))
            clear hb
            clear B0l B0u B0v
            clear BLl BLu BLv
            replace B0 := B0.keep hB
            replace BL := BL.keep hB
            replace Xb := Xb.keep hB
            replace XL := XL.keep hB
            replace hw := hw.trans (hB.mono hw.size)
            clear hB
            have B0l := B0.1
            have B0u := B0.2.1
            have B0v := B0.2.2
            have BLl := BL.1
            have BLu := BL.2.1
            have BLv := BL.2.2
            go_wp2_with fail
            go_region_held3 (fun w' => w'.cell? ⟨w.heap.size, 0, none⟩ = some (.int .i64 Nb) ∧ w'.cell? ⟨w.heap.size, 1, none⟩ = some (.slice ab xb.length cb) ∧ w'.cell? ⟨w3.heap.size, 0, none⟩ = some (.int .i64 Nb) ∧ w'.cell? ⟨w3.heap.size, 1, none⟩ = some (.slice lo (setL Nb xb k false).length lc)) (first | go_keep | (refine ⟨?_, ?_, ?_, ?_⟩ <;> assumption))
              (first | (go_at_call 13; refine (bones_c _ _ _ _ _ _ ?_ ?_ ?_).mono ?_; (first | with_reducible exact (Xb.keep (by repeat (first | exact Below.refl _ _ | apply Below.drew | apply below_drewN | refine Below.alloc ?_ (by simp) _))) | with_reducible exact (XL.keep (by repeat (first | exact Below.refl _ _ | apply Below.drew | apply below_drewN | refine Below.alloc ?_ (by simp) _)))); (first | with_reducible exact Fb | with_reducible exact FL); (first | with_reducible exact Cb | with_reducible exact CL); rintro e wz ⟨rfl, hb⟩; replace B0 := (B0.keep (by repeat (first | exact Below.refl _ _ | apply Below.drew | apply below_drewN | refine Below.alloc ?_ (by simp) _))).keep hb; replace BL := (BL.keep (by repeat (first | exact Below.refl _ _ | apply Below.drew | apply below_drewN | refine Below.alloc ?_ (by simp) _))).keep hb; replace Xb := (Xb.keep (by repeat (first | exact Below.refl _ _ | apply Below.drew | apply below_drewN | refine Below.alloc ?_ (by simp) _))).keep hb; replace XL := (XL.keep (by repeat (first | exact Below.refl _ _ | apply Below.drew | apply below_drewN | refine Below.alloc ?_ (by simp) _))).keep hb; replace hw := hw.trans (Below.trans (by repeat (first | exact Below.refl _ _ | apply Below.drew | apply below_drewN | refine Below.alloc ?_ (by simp) _)) (hb.mono hw.size)); clear hb; replace B0l := B0.1; replace B0u := B0.2.1; replace B0v := B0.2.2; replace BLl := BL.1; replace BLu := BL.2.1; replace BLv := BL.2.2))
            go_wp2_with fail
            refine (check_c _ _ _ _ _ (XL.keep (by repeat (first | exact Below.refl _ _ | apply Below.drew | apply below_drewN | refine Below.alloc ?_ (by simp) _)))).mono ?_
            rintro e w8 ⟨rfl, hb⟩
            have hB : Below wz.heap.size wz w8 := Below.trans (by repeat (first | exact Below.refl _ _ | apply Below.drew | apply below_drewN | refine Below.alloc ?_ (by simp) _)) (hb.mono (by simp))
            clear hb
            clear B0l B0u B0v
            clear BLl BLu BLv
            replace B0 := B0.keep hB
            replace BL := BL.keep hB
            replace Xb := Xb.keep hB
            replace XL := XL.keep hB
            replace hw := hw.trans (hB.mono hw.size)
            clear hB
            have B0l := B0.1
            have B0u := B0.2.1
            have B0v := B0.2.2
            have BLl := BL.1
            have BLu := BL.2.1
            have BLv := BL.2.2
            go_wp2_with fail
            refine (heads_c _).mono ?_
            rintro e w9 ⟨rfl, hb⟩
            have hB : Below w8.heap.size w8 w9 := Below.trans (by repeat (first | exact Below.refl _ _ | apply Below.drew | apply below_drewN | refine Below.alloc ?_ (by simp) _)) (hb.mono (by simp))
            clear hb
            clear B0l B0u B0v
            clear BLl BLu BLv
            replace B0 := B0.keep hB
            replace BL := BL.keep hB
            replace Xb := Xb.keep hB
            replace XL := XL.keep hB
            replace hw := hw.trans (hB.mono hw.size)
            clear hB
            have B0l := B0.1
            have B0u := B0.2.1
            have B0v := B0.2.2
            have BLl := BL.1
            have BLu := BL.2.1
            have BLv := BL.2.2
            go_wp2
            go_ret
            exact ⟨rfl, hw⟩
          case neg =>
            have ej' : (j == (k : Int)) = false := by simpa using ej
            obtain ⟨G1, G2⟩ := GO j ej
            clear GO ej
            go_enter Try.func8, Try.ntmps8
            have hw : Below w.heap.size w w := Below.refl _ _
            go_wp2_with fail
            refine (small_c _ _ _ _ _).mono ?_
            rintro e w1 ⟨rfl, hb⟩
            have B0 := Box.new hb
            have hB : Below w.heap.size w w1 := Below.trans (by repeat (first | exact Below.refl _ _ | apply Below.drew | apply below_drewN | refine Below.alloc ?_ (by simp) _)) (hb.mono (by simp))
            clear hb
            replace Xb := Xb.keep hB
            replace hw := hw.trans (hB.mono hw.size)
            clear hB
            have B0l := B0.1
            have B0u := B0.2.1
            have B0v := B0.2.2
            go_wp2_with fail
            refine (check_c _ _ _ _ _ (Xb.keep (by repeat (first | exact Below.refl _ _ | apply Below.drew | apply below_drewN | refine Below.alloc ?_ (by simp) _)))).mono ?_
            rintro e w2 ⟨rfl, hb⟩
            have hB : Below w1.heap.size w1 w2 := Below.trans (by repeat (first | exact Below.refl _ _ | apply Below.drew | apply below_drewN | refine Below.alloc ?_ (by simp) _)) (hb.mono (by simp))
            clear hb
            clear B0l B0u B0v
            replace B0 := B0.keep hB
            replace Xb := Xb.keep hB
            replace hw := hw.trans (hB.mono hw.size)
            clear hB
            have B0l := B0.1
            have B0u := B0.2.1
            have B0v := B0.2.2
            go_wp2_with fail
            refine (set_c _ _ _ _ _ _ _ (Xb.keep (by repeat (first | exact Below.refl _ _ | apply Below.drew | apply below_drewN | refine Below.alloc ?_ (by simp) _))) Fb (by omega)).mono ?_
            rintro e w3 ⟨lo, lc, rfl, XL, FL, CL, hb⟩
            have hB : Below w2.heap.size w2 w3 := Below.trans (by repeat (first | exact Below.refl _ _ | apply Below.drew | apply below_drewN | refine Below.alloc ?_ (by simp) _)) (hb.mono (by simp))
            clear hb
            clear B0l B0u B0v
            replace B0 := B0.keep hB
            replace Xb := Xb.keep hB
            replace hw := hw.trans (hB.mono hw.size)
            clear hB
            have B0l := B0.1
            have B0u := B0.2.1
            have B0v := B0.2.2
            go_wp2_with fail
            refine (get_c _ _ _ _ _ _ (Xb.keep (by repeat (first | exact Below.refl _ _ | apply Below.drew | apply below_drewN | refine Below.alloc ?_ (by simp) _))) Fb).mono ?_
            rintro e w4 ⟨rfl, hb⟩
            have BL := Box.new hb
            have hB : Below w3.heap.size w3 w4 := Below.trans (by repeat (first | exact Below.refl _ _ | apply Below.drew | apply below_drewN | refine Below.alloc ?_ (by simp) _)) (hb.mono (by simp))
            clear hb
            clear B0l B0u B0v
            replace B0 := B0.keep hB
            replace Xb := Xb.keep hB
            replace XL := XL.keep hB
            replace hw := hw.trans (hB.mono hw.size)
            clear hB
            have B0l := B0.1
            have B0u := B0.2.1
            have B0v := B0.2.2
            have BLl := BL.1
            have BLu := BL.2.1
            have BLv := BL.2.2
            go_wp2_with fail
            refine (get_c _ _ _ _ _ _ (XL.keep (by repeat (first | exact Below.refl _ _ | apply Below.drew | apply below_drewN | refine Below.alloc ?_ (by simp) _))) FL).mono ?_
            rintro e w5 ⟨rfl, hb⟩
            have hB : Below w4.heap.size w4 w5 := Below.trans (by repeat (first | exact Below.refl _ _ | apply Below.drew | apply below_drewN | refine Below.alloc ?_ (by simp) _)) (hb.mono (by simp))
            clear hb
            clear B0l B0u B0v
            clear BLl BLu BLv
            replace B0 := B0.keep hB
            replace BL := BL.keep hB
            replace Xb := Xb.keep hB
            replace XL := XL.keep hB
            replace hw := hw.trans (hB.mono hw.size)
            clear hB
            have B0l := B0.1
            have B0u := B0.2.1
            have B0v := B0.2.2
            have BLl := BL.1
            have BLu := BL.2.1
            have BLv := BL.2.2
            go_wp2_with fail
            refine (get_c _ _ _ _ _ _ (Xb.keep (by repeat (first | exact Below.refl _ _ | apply Below.drew | apply below_drewN | refine Below.alloc ?_ (by simp) _))) Fb).mono ?_
            rintro e w6 ⟨rfl, hb⟩
            have hB : Below w5.heap.size w5 w6 := Below.trans (by repeat (first | exact Below.refl _ _ | apply Below.drew | apply below_drewN | refine Below.alloc ?_ (by simp) _)) (hb.mono (by simp))
            clear hb
            clear B0l B0u B0v
            clear BLl BLu BLv
            replace B0 := B0.keep hB
            replace BL := BL.keep hB
            replace Xb := Xb.keep hB
            replace XL := XL.keep hB
            replace hw := hw.trans (hB.mono hw.size)
            clear hB
            have B0l := B0.1
            have B0u := B0.2.1
            have B0v := B0.2.2
            have BLl := BL.1
            have BLu := BL.2.1
            have BLv := BL.2.2
            go_wp2_with fail
            refine (get_c _ _ _ _ _ _ (XL.keep (by repeat (first | exact Below.refl _ _ | apply Below.drew | apply below_drewN | refine Below.alloc ?_ (by simp) _))) FL).mono ?_
            rintro e w7 ⟨rfl, hb⟩
            have hB : Below w6.heap.size w6 w7 := Below.trans (by repeat (first | exact Below.refl _ _ | apply Below.drew | apply below_drewN | refine Below.alloc ?_ (by simp) _)) (hb.mono (by simp))
            clear hb
            clear B0l B0u B0v
            clear BLl BLu BLv
            replace B0 := B0.keep hB
            replace BL := BL.keep hB
            replace Xb := Xb.keep hB
            replace XL := XL.keep hB
            replace hw := hw.trans (hB.mono hw.size)
            clear hB
            have B0l := B0.1
            have B0u := B0.2.1
            have B0v := B0.2.2
            have BLl := BL.1
            have BLu := BL.2.1
            have BLv := BL.2.2
            go_wp2_with fail
            go_region_held3 (fun w' => w'.cell? ⟨w.heap.size, 0, none⟩ = some (.int .i64 Nb) ∧ w'.cell? ⟨w.heap.size, 1, none⟩ = some (.slice ab xb.length cb) ∧ w'.cell? ⟨w3.heap.size, 0, none⟩ = some (.int .i64 Nb) ∧ w'.cell? ⟨w3.heap.size, 1, none⟩ = some (.slice lo (setL Nb xb k false).length lc)) (first | go_keep | (refine ⟨?_, ?_, ?_, ?_⟩ <;> assumption))
              (first | (go_at_call 13; refine (bones_c _ _ _ _ _ _ ?_ ?_ ?_).mono ?_; (first | with_reducible exact (Xb.keep (by repeat (first | exact Below.refl _ _ | apply Below.drew | apply below_drewN | refine Below.alloc ?_ (by simp) _))) | with_reducible exact (XL.keep (by repeat (first | exact Below.refl _ _ | apply Below.drew | apply below_drewN | refine Below.alloc ?_ (by simp) _)))); (first | with_reducible exact Fb | with_reducible exact FL); (first | with_reducible exact Cb | with_reducible exact CL); rintro e wz ⟨rfl, hb⟩; replace B0 := (B0.keep (by repeat (first | exact Below.refl _ _ | apply Below.drew | apply below_drewN | refine Below.alloc ?_ (by simp) _))).keep hb; replace BL := (BL.keep (by repeat (first | exact Below.refl _ _ | apply Below.drew | apply below_drewN | refine Below.alloc ?_ (by simp) _))).keep hb; replace Xb := (Xb.keep (by repeat (first | exact Below.refl _ _ | apply Below.drew | apply below_drewN | refine Below.alloc ?_ (by simp) _))).keep hb; replace XL := (XL.keep (by repeat (first | exact Below.refl _ _ | apply Below.drew | apply below_drewN | refine Below.alloc ?_ (by simp) _))).keep hb; replace hw := hw.trans (Below.trans (by repeat (first | exact Below.refl _ _ | apply Below.drew | apply below_drewN | refine Below.alloc ?_ (by simp) _)) (hb.mono hw.size)); clear hb; replace B0l := B0.1; replace B0u := B0.2.1; replace B0v := B0.2.2; replace BLl := BL.1; replace BLu := BL.2.1; replace BLv := BL.2.2))
            go_wp2_with fail
            refine (check_c _ _ _ _ _ (XL.keep (by repeat (first | exact Below.refl _ _ | apply Below.drew | apply below_drewN | refine Below.alloc ?_ (by simp) _)))).mono ?_
            rintro e w8 ⟨rfl, hb⟩
            have hB : Below wz.heap.size wz w8 := Below.trans (by repeat (first | exact Below.refl _ _ | apply Below.drew | apply below_drewN | refine Below.alloc ?_ (by simp) _)) (hb.mono (by simp))
            clear hb
            clear B0l B0u B0v
            clear BLl BLu BLv
            replace B0 := B0.keep hB
            replace BL := BL.keep hB
            replace Xb := Xb.keep hB
            replace XL := XL.keep hB
            replace hw := hw.trans (hB.mono hw.size)
            clear hB
            have B0l := B0.1
            have B0u := B0.2.1
            have B0v := B0.2.2
            have BLl := BL.1
            have BLu := BL.2.1
            have BLv := BL.2.2
            go_wp2_with fail
            refine (heads_c _).mono ?_
            rintro e w9 ⟨rfl, hb⟩
            have hB : Below w8.heap.size w8 w9 := Below.trans (by repeat (first | exact Below.refl _ _ | apply Below.drew | apply below_drewN | refine Below.alloc ?_ (by simp) _)) (hb.mono (by simp))
            clear hb
            clear B0l B0u B0v
            clear BLl BLu BLv
            replace B0 := B0.keep hB
            replace BL := BL.keep hB
            replace Xb := Xb.keep hB
            replace XL := XL.keep hB
            replace hw := hw.trans (hB.mono hw.size)
            clear hB
            have B0l := B0.1
            have B0u := B0.2.1
            have B0v := B0.2.2
            have BLl := BL.1
            have BLu := BL.2.1
            have BLv := BL.2.2
            go_wp2
            go_ret
            exact ⟨rfl, hw⟩

set_option maxRecDepth 100000 in
theorem lifted (os : Os) (started : os.Started) (H : Type) (enc : TypeId × Value → H) :
    ReturnsInHanded {} Try.checked os 8 .any (Rows.bitsSetsSpec.pre6 enc Try.prog Try.f8 Rows.bitsSetsRow.domain false) (Rows.bitsSetsSpec.post enc Try.prog Try.f8 false true false false) := by
  refine returnsInHanded_of_change (C := Try.checked) own started (by kernel_rfl) Try.func8
    (ChangeSpec.witness6 (enc := enc) (C := Try.checked) false ⟨#[], #[.agg #[.int .i64 0, .slice none 0 0], .int .i64 0, .bool false, .int .i64 0], []⟩ 8 (by kernel_rfl) (by kernel_rfl) (by kernel_rfl) (by kernel_rfl)) ?_
  intro W base args ds gs before hval0 hW hcnd _
  have hval : ∀ (j : Nat) t v, Try.f8.params[j]? = some t → args[j]? = some v → Value.okWide Try.prog W .any base t v := hval0
  have hW' := hW
  obtain ⟨p, q, hA0, hV, rfl, hfz, hnd⟩ := hW
  have hA : DataW.TrodAll enc Try.prog W 0 (fun _ => true) true Try.f8.params.toList args.toList ds p := hA0
  rw [Try.params8] at hA hval
  obtain ⟨v0, vs0, d0, ds0, p0, q0, hargs, rfl, rfl, h0, r0⟩ := trodAll_cons hA
  obtain ⟨v1, vs1, d1, ds1, p1, q1, rfl, rfl, rfl, h1, r1⟩ := trodAll_cons r0
  obtain ⟨v2, vs2, d2, ds2, p2, q2, rfl, rfl, rfl, h2, r2⟩ := trodAll_cons r1
  obtain ⟨v3, vs3, d3, ds3, p3, q3, rfl, rfl, rfl, h3, r3⟩ := trodAll_cons r2
  obtain ⟨rfl, rfl, rfl⟩ := trodAll_nil r3
  obtain rfl : args = #[v0, v1, v2, v3] := by cases args; simp_all
  obtain ⟨rfl, rfl⟩ := trodVars_none hV
  have k0 := h0
  have lt0 : ∀ x ∈ p0, x.block < W.heap.size := by obtain ⟨m, hm⟩ := k0; exact DataW.trod_lt m _ _ _ hm
  obtain ⟨Nb, ab, xb, cb, rfl, bb1, bb2, bb3, bb4⟩ := open_bits (hval 0 24 v0 rfl rfl) h0
  obtain ⟨i, rfl, rfl, rfl, w1⟩ := open_int Try.underlying3 (hval 1 3 v1 rfl rfl) h1
  obtain ⟨x, rfl, rfl, rfl⟩ := open_bool Try.underlying4 (hval 2 4 v2 rfl rfl) h2
  obtain ⟨j, rfl, rfl, rfl, w3⟩ := open_int Try.underlying3 (hval 3 3 v3 rfl rfl) h3
  clear hA0 hval0
  refine (walk W Nb ab xb cb bb1 bb2 bb3 bb4 i (i64_wf _ w1) x j (i64_wf _ w3)).mono fun e W' ⟨he, bel⟩ => ?_
  subst he
  exact ⟨_, rfl, _, _, _, [], _, [], hW', trodAll_mk1 (shut_bool Try.underlying4 _), (trodAll_cons_mk (Below.trod laidOut (by kernel_rfl) (of_decide_eq_true (by kernel_rfl)) k0 bel lt0) (trodAll_cons_mk (shut_int Try.underlying3 w1) (trodAll_cons_mk (shut_bool Try.underlying4 x) (trodAll_cons_mk (shut_int Try.underlying3 w3) trodAll_mk0)))), rfl, bel.frame _, fun h => by cases h⟩

theorem over : Rows.bitsSetsRow.holds Try.pinned (OpenSpec.ofChange Rows.bitsSetsSpec) :=
  OpenClaim.holds_of_wide 8 Try.f8 rfl rfl rfl rfl rfl rfl rfl ⟨rfl, rfl, rfl, rfl, rfl⟩ rfl rfl rfl rfl rfl (by kernel_rfl) Try.func8 (by kernel_rfl)
    (of_decide_eq_true (by kernel_rfl)) (by unfold Func.isWrapper; first | (rw [if_pos (by decide +kernel)]; kernel_rfl) | (rw [if_neg (by decide +kernel)]; exact ⟨rfl, rfl⟩))
    (fun os started H enc _ => lifted os started H enc)

theorem proved : Rows.BitsSetsSaid := over
end Go.Proofs.Ytpgbbfekjcfbpaa.bitsSets
namespace Go.Proofs.Ytpgbbfekjcfbpaa
theorem bitsSets_holds : Rows.BitsSetsSaid := bitsSets.proved
#print axioms bitsSets_holds
end Go.Proofs.Ytpgbbfekjcfbpaa
