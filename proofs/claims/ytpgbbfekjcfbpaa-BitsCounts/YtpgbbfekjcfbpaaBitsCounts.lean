/-
  For every row of bits, right or not, and every number: counts of ones rise by a bit each (P2.2). No condition.
-/
import Derived.Test.YtpgbbfekjcfbpaaHeads
import Derived.Test.YtpgbbfekjcfbpaaOpen
import Derived.ChangeOld
namespace Go.Proofs.Ytpgbbfekjcfbpaa.bitsCounts
open Go.ChangeShapes Go.WideShapes Go.ChangeAt Go.RowKit Num Bit
set_option linter.unusedVariables false

theorem counts_facts (N : Int) (xs : List Nat) (hk : chk N xs = true) (k : Nat) (h : (k : Int) < N) :
    getE N xs k = 0 ∧ getB N xs k = bitAt xs k ∧ ∃ c d : Nat, onesI N xs k = (c : Int) ∧ onesI N xs ((k : Int) + 1) = ((c + if bitAt xs k then 1 else 0 : Nat) : Int) ∧ onesI N xs N = (d : Int) ∧ (c + if bitAt xs k then 1 else 0) ≤ d ∧ c ≤ k := by
  have hm1 : (min (k : Int) N).toNat = k := by omega
  have hm2 : (min ((k : Int) + 1) N).toNat = k + 1 := by omega
  have hm3 : (min N N).toNat = k + 1 + (N.toNat - (k + 1)) := by omega
  refine ⟨?_, ?_, cntB xs k, cntB xs (k + 1 + (N.toNat - (k + 1))), ?_, ?_, ?_, ?_, cntB_le xs k⟩
  · unfold getE; rw [if_neg (by simp [hk]), if_neg (by omega)]
  · unfold getB; rw [hk, show decide (0 ≤ (k : Int) ∧ (k : Int) < N) = true by simp; exact h]; simp
  · unfold onesI; rw [hk, hm1]; rfl
  · unfold onesI; rw [hk, hm2]; rfl
  · unfold onesI; rw [hk, hm3]; rfl
  · exact cntB_mono xs (k + 1) _

set_option maxHeartbeats 4000000 in
theorem walk (w : World) (Nb : Int) (ab : Option Addr) (xb : List Nat) (cb : Nat) (hbN : -9223372036854775808 ≤ Nb ∧ Nb ≤ 9223372036854775807) (Xb : Wd w ab xb) (Fb : Fit xb) (Cb : xb.length ≤ cb) (i : Int) (hi : -9223372036854775808 ≤ i ∧ i ≤ 9223372036854775807) :
    Calls Try.prog 3 #[.agg #[.int .i64 Nb, .slice ab xb.length cb], .int .i64 i] w fun e w' => e = .returned (.bool true) ∧ Below w.heap.size w w' := by
  by_cases s1 : Nb ≤ 5000
  case neg =>
    have s1' : decide (Nb ≤ 5000) = false := by simpa using s1
    go_enter Try.func3, Try.ntmps3
    have hw : Below w.heap.size w w := Below.refl _ _
    go_wp2_with fail
    refine (small_c _ _ _ _ _).mono ?_
    rintro e w1 ⟨rfl, hb⟩
    have B0 := Box.new hb
    have hB : Below w.heap.size w w1 := Below.trans (by repeat (first | exact Below.refl _ _ | apply Below.drew | apply below_drewN | refine Below.alloc ?_ (by simp) _)) (hb.mono (by simp))
    clear hb
    replace Xb := Xb.keep hB
    replace hw := hw.trans (hB.mono hw.size)
    clear hB
    have B0l := B0.1
    have B0u := B0.2.1
    have B0v := B0.2.2
    go_wp2_with fail
    refine (heads_c _).mono ?_
    rintro e w2 ⟨rfl, hb⟩
    have hB : Below w1.heap.size w1 w2 := Below.trans (by repeat (first | exact Below.refl _ _ | apply Below.drew | apply below_drewN | refine Below.alloc ?_ (by simp) _)) (hb.mono (by simp))
    clear hb
    clear B0l B0u B0v
    replace B0 := B0.keep hB
    replace Xb := Xb.keep hB
    replace hw := hw.trans (hB.mono hw.size)
    clear hB
    have B0l := B0.1
    have B0u := B0.2.1
    have B0v := B0.2.2
    go_wp2
    go_ret
    exact ⟨rfl, hw⟩
  by_cases s2 : (xb.length : Int) ≤ 5000
  case neg =>
    have s2' : decide ((xb.length : Int) ≤ 5000) = false := by simpa using s2
    go_enter Try.func3, Try.ntmps3
    have hw : Below w.heap.size w w := Below.refl _ _
    go_wp2_with fail
    refine (small_c _ _ _ _ _).mono ?_
    rintro e w1 ⟨rfl, hb⟩
    have B0 := Box.new hb
    have hB : Below w.heap.size w w1 := Below.trans (by repeat (first | exact Below.refl _ _ | apply Below.drew | apply below_drewN | refine Below.alloc ?_ (by simp) _)) (hb.mono (by simp))
    clear hb
    replace Xb := Xb.keep hB
    replace hw := hw.trans (hB.mono hw.size)
    clear hB
    have B0l := B0.1
    have B0u := B0.2.1
    have B0v := B0.2.2
    go_wp2_with fail
    refine (heads_c _).mono ?_
    rintro e w2 ⟨rfl, hb⟩
    have hB : Below w1.heap.size w1 w2 := Below.trans (by repeat (first | exact Below.refl _ _ | apply Below.drew | apply below_drewN | refine Below.alloc ?_ (by simp) _)) (hb.mono (by simp))
    clear hb
    clear B0l B0u B0v
    replace B0 := B0.keep hB
    replace Xb := Xb.keep hB
    replace hw := hw.trans (hB.mono hw.size)
    clear hB
    have B0l := B0.1
    have B0u := B0.2.1
    have B0v := B0.2.2
    go_wp2
    go_ret
    exact ⟨rfl, hw⟩
  have s1' : decide (Nb ≤ 5000) = true := by simpa using s1
  have s2' : decide ((xb.length : Int) ≤ 5000) = true := by simpa using s2
  cases hk : chk Nb xb with
  | false =>
    go_enter Try.func3, Try.ntmps3
    have hw : Below w.heap.size w w := Below.refl _ _
    go_wp2_with fail
    refine (small_c _ _ _ _ _).mono ?_
    rintro e w1 ⟨rfl, hb⟩
    have B0 := Box.new hb
    have hB : Below w.heap.size w w1 := Below.trans (by repeat (first | exact Below.refl _ _ | apply Below.drew | apply below_drewN | refine Below.alloc ?_ (by simp) _)) (hb.mono (by simp))
    clear hb
    replace Xb := Xb.keep hB
    replace hw := hw.trans (hB.mono hw.size)
    clear hB
    have B0l := B0.1
    have B0u := B0.2.1
    have B0v := B0.2.2
    go_wp2_with fail
    refine (check_c _ _ _ _ _ (Xb.keep (by repeat (first | exact Below.refl _ _ | apply Below.drew | apply below_drewN | refine Below.alloc ?_ (by simp) _)))).mono ?_
    rintro e w2 ⟨rfl, hb⟩
    have hB : Below w1.heap.size w1 w2 := Below.trans (by repeat (first | exact Below.refl _ _ | apply Below.drew | apply below_drewN | refine Below.alloc ?_ (by simp) _)) (hb.mono (by simp))
    clear hb
    clear B0l B0u B0v
    replace B0 := B0.keep hB
    replace Xb := Xb.keep hB
    replace hw := hw.trans (hB.mono hw.size)
    clear hB
    have B0l := B0.1
    have B0u := B0.2.1
    have B0v := B0.2.2
    go_wp2_with fail
    refine (heads_c _).mono ?_
    rintro e w3 ⟨rfl, hb⟩
    have hB : Below w2.heap.size w2 w3 := Below.trans (by repeat (first | exact Below.refl _ _ | apply Below.drew | apply below_drewN | refine Below.alloc ?_ (by simp) _)) (hb.mono (by simp))
    clear hb
    clear B0l B0u B0v
    replace B0 := B0.keep hB
    replace Xb := Xb.keep hB
    replace hw := hw.trans (hB.mono hw.size)
    clear hB
    have B0l := B0.1
    have B0u := B0.2.1
    have B0v := B0.2.2
    go_wp2
    go_ret
    exact ⟨rfl, hw⟩
  | true =>
    obtain ⟨hc0, hc1, _, _⟩ := chk_out Nb xb hk
    by_cases h1 : i < 0
    case pos =>
      go_enter Try.func3, Try.ntmps3
      have hw : Below w.heap.size w w := Below.refl _ _
      go_wp2_with fail
      refine (small_c _ _ _ _ _).mono ?_
      rintro e w1 ⟨rfl, hb⟩
      have B0 := Box.new hb
      have hB : Below w.heap.size w w1 := Below.trans (by repeat (first | exact Below.refl _ _ | apply Below.drew | apply below_drewN | refine Below.alloc ?_ (by simp) _)) (hb.mono (by simp))
      clear hb
      replace Xb := Xb.keep hB
      replace hw := hw.trans (hB.mono hw.size)
      clear hB
      have B0l := B0.1
      have B0u := B0.2.1
      have B0v := B0.2.2
      go_wp2_with fail
      refine (check_c _ _ _ _ _ (Xb.keep (by repeat (first | exact Below.refl _ _ | apply Below.drew | apply below_drewN | refine Below.alloc ?_ (by simp) _)))).mono ?_
      rintro e w2 ⟨rfl, hb⟩
      have hB : Below w1.heap.size w1 w2 := Below.trans (by repeat (first | exact Below.refl _ _ | apply Below.drew | apply below_drewN | refine Below.alloc ?_ (by simp) _)) (hb.mono (by simp))
      clear hb
      clear B0l B0u B0v
      replace B0 := B0.keep hB
      replace Xb := Xb.keep hB
      replace hw := hw.trans (hB.mono hw.size)
      clear hB
      have B0l := B0.1
      have B0u := B0.2.1
      have B0v := B0.2.2
      go_wp2_with fail
      refine (heads_c _).mono ?_
      rintro e w3 ⟨rfl, hb⟩
      have hB : Below w2.heap.size w2 w3 := Below.trans (by repeat (first | exact Below.refl _ _ | apply Below.drew | apply below_drewN | refine Below.alloc ?_ (by simp) _)) (hb.mono (by simp))
      clear hb
      clear B0l B0u B0v
      replace B0 := B0.keep hB
      replace Xb := Xb.keep hB
      replace hw := hw.trans (hB.mono hw.size)
      clear hB
      have B0l := B0.1
      have B0u := B0.2.1
      have B0v := B0.2.2
      go_wp2
      go_ret
      exact ⟨rfl, hw⟩
    have h1' : decide (i < 0) = false := by simpa using h1
    by_cases h2 : Nb ≤ i
    case pos =>
      go_enter Try.func3, Try.ntmps3
      have hw : Below w.heap.size w w := Below.refl _ _
      go_wp2_with fail
      refine (small_c _ _ _ _ _).mono ?_
      rintro e w1 ⟨rfl, hb⟩
      have B0 := Box.new hb
      have hB : Below w.heap.size w w1 := Below.trans (by repeat (first | exact Below.refl _ _ | apply Below.drew | apply below_drewN | refine Below.alloc ?_ (by simp) _)) (hb.mono (by simp))
      clear hb
      replace Xb := Xb.keep hB
      replace hw := hw.trans (hB.mono hw.size)
      clear hB
      have B0l := B0.1
      have B0u := B0.2.1
      have B0v := B0.2.2
      go_wp2_with fail
      refine (check_c _ _ _ _ _ (Xb.keep (by repeat (first | exact Below.refl _ _ | apply Below.drew | apply below_drewN | refine Below.alloc ?_ (by simp) _)))).mono ?_
      rintro e w2 ⟨rfl, hb⟩
      have hB : Below w1.heap.size w1 w2 := Below.trans (by repeat (first | exact Below.refl _ _ | apply Below.drew | apply below_drewN | refine Below.alloc ?_ (by simp) _)) (hb.mono (by simp))
      clear hb
      clear B0l B0u B0v
      replace B0 := B0.keep hB
      replace Xb := Xb.keep hB
      replace hw := hw.trans (hB.mono hw.size)
      clear hB
      have B0l := B0.1
      have B0u := B0.2.1
      have B0v := B0.2.2
      go_wp2_with fail
      refine (heads_c _).mono ?_
      rintro e w3 ⟨rfl, hb⟩
      have hB : Below w2.heap.size w2 w3 := Below.trans (by repeat (first | exact Below.refl _ _ | apply Below.drew | apply below_drewN | refine Below.alloc ?_ (by simp) _)) (hb.mono (by simp))
      clear hb
      clear B0l B0u B0v
      replace B0 := B0.keep hB
      replace Xb := Xb.keep hB
      replace hw := hw.trans (hB.mono hw.size)
      clear hB
      have B0l := B0.1
      have B0u := B0.2.1
      have B0v := B0.2.2
      go_wp2
      go_ret
      exact ⟨rfl, hw⟩
    obtain ⟨k, rfl⟩ := Int.eq_ofNat_of_zero_le (show 0 ≤ i by omega)
    obtain ⟨hE, hB, c, d, O1, O2, O3, hcd, hck⟩ := counts_facts Nb xb hk k (by omega)
    clear h1
    cases hb : bitAt xb k with
    | true =>
      rw [hb] at hB O2 hcd
      simp only [if_true] at O2 hcd
      go_enter Try.func3, Try.ntmps3
      have hw : Below w.heap.size w w := Below.refl _ _
      go_wp2_with fail
      refine (small_c _ _ _ _ _).mono ?_
      rintro e w1 ⟨rfl, hb⟩
      have B0 := Box.new hb
      have hB : Below w.heap.size w w1 := Below.trans (by repeat (first | exact Below.refl _ _ | apply Below.drew | apply below_drewN | refine Below.alloc ?_ (by simp) _)) (hb.mono (by simp))
      clear hb
      replace Xb := Xb.keep hB
      replace hw := hw.trans (hB.mono hw.size)
      clear hB
      have B0l := B0.1
      have B0u := B0.2.1
      have B0v := B0.2.2
      go_wp2_with fail
      refine (check_c _ _ _ _ _ (Xb.keep (by repeat (first | exact Below.refl _ _ | apply Below.drew | apply below_drewN | refine Below.alloc ?_ (by simp) _)))).mono ?_
      rintro e w2 ⟨rfl, hb⟩
      have hB : Below w1.heap.size w1 w2 := Below.trans (by repeat (first | exact Below.refl _ _ | apply Below.drew | apply below_drewN | refine Below.alloc ?_ (by simp) _)) (hb.mono (by simp))
      clear hb
      clear B0l B0u B0v
      replace B0 := B0.keep hB
      replace Xb := Xb.keep hB
      replace hw := hw.trans (hB.mono hw.size)
      clear hB
      have B0l := B0.1
      have B0u := B0.2.1
      have B0v := B0.2.2
      go_wp2_with fail
      refine (get_c _ _ _ _ _ _ (Xb.keep (by repeat (first | exact Below.refl _ _ | apply Below.drew | apply below_drewN | refine Below.alloc ?_ (by simp) _))) Fb).mono ?_
      rintro e w3 ⟨rfl, hb⟩
      have hB : Below w2.heap.size w2 w3 := Below.trans (by repeat (first | exact Below.refl _ _ | apply Below.drew | apply below_drewN | refine Below.alloc ?_ (by simp) _)) (hb.mono (by simp))
      clear hb
      clear B0l B0u B0v
      replace B0 := B0.keep hB
      replace Xb := Xb.keep hB
      replace hw := hw.trans (hB.mono hw.size)
      clear hB
      have B0l := B0.1
      have B0u := B0.2.1
      have B0v := B0.2.2
      go_wp2_with fail
      go_region_held3 (fun w' => w'.cell? ⟨w.heap.size, 0, none⟩ = some (.int .i64 Nb) ∧ w'.cell? ⟨w.heap.size, 1, none⟩ = some (.slice ab xb.length cb)) (first | go_keep | (refine ⟨?_, ?_⟩ <;> assumption))
        (first | (go_at_call 13; refine (bones_c _ _ _ _ _ _ (Xb.keep (by repeat (first | exact Below.refl _ _ | apply Below.drew | apply below_drewN | refine Below.alloc ?_ (by simp) _))) Fb Cb).mono ?_; rintro e wz ⟨rfl, hb⟩; replace B0 := (B0.keep (by repeat (first | exact Below.refl _ _ | apply Below.drew | apply below_drewN | refine Below.alloc ?_ (by simp) _))).keep hb; replace Xb := (Xb.keep (by repeat (first | exact Below.refl _ _ | apply Below.drew | apply below_drewN | refine Below.alloc ?_ (by simp) _))).keep hb; replace hw := hw.trans (Below.trans (by repeat (first | exact Below.refl _ _ | apply Below.drew | apply below_drewN | refine Below.alloc ?_ (by simp) _)) (hb.mono hw.size)); clear hb; replace B0l := B0.1; replace B0u := B0.2.1; replace B0v := B0.2.2))
      go_wp2_with fail
      refine (bones_c _ _ _ _ _ _ (Xb.keep (by repeat (first | exact Below.refl _ _ | apply Below.drew | apply below_drewN | refine Below.alloc ?_ (by simp) _))) Fb Cb).mono ?_
      rintro e w4 ⟨rfl, hb⟩
      have hB : Below wz.heap.size wz w4 := Below.trans (by repeat (first | exact Below.refl _ _ | apply Below.drew | apply below_drewN | refine Below.alloc ?_ (by simp) _)) (hb.mono (by simp))
      clear hb
      clear B0l B0u B0v
      replace B0 := B0.keep hB
      replace Xb := Xb.keep hB
      replace hw := hw.trans (hB.mono hw.size)
      clear hB
      have B0l := B0.1
      have B0u := B0.2.1
      have B0v := B0.2.2
      go_wp2_with fail
      refine (heads_c _).mono ?_
      rintro e w5 ⟨rfl, hb⟩
      have hB : Below w4.heap.size w4 w5 := Below.trans (by repeat (first | exact Below.refl _ _ | apply Below.drew | apply below_drewN | refine Below.alloc ?_ (by simp) _)) (hb.mono (by simp))
      clear hb
      clear B0l B0u B0v
      replace B0 := B0.keep hB
      replace Xb := Xb.keep hB
      replace hw := hw.trans (hB.mono hw.size)
      clear hB
      have B0l := B0.1
      have B0u := B0.2.1
      have B0v := B0.2.2
      go_wp2
      go_ret
      exact ⟨rfl, hw⟩
    | false =>
      rw [hb] at hB O2 hcd
      simp only [Bool.false_eq_true, if_false] at O2 hcd
      go_enter Try.func3, Try.ntmps3
      have hw : Below w.heap.size w w := Below.refl _ _
      go_wp2_with fail
      refine (small_c _ _ _ _ _).mono ?_
      rintro e w1 ⟨rfl, hb⟩
      have B0 := Box.new hb
      have hB : Below w.heap.size w w1 := Below.trans (by repeat (first | exact Below.refl _ _ | apply Below.drew | apply below_drewN | refine Below.alloc ?_ (by simp) _)) (hb.mono (by simp))
      clear hb
      replace Xb := Xb.keep hB
      replace hw := hw.trans (hB.mono hw.size)
      clear hB
      have B0l := B0.1
      have B0u := B0.2.1
      have B0v := B0.2.2
      go_wp2_with fail
      refine (check_c _ _ _ _ _ (Xb.keep (by repeat (first | exact Below.refl _ _ | apply Below.drew | apply below_drewN | refine Below.alloc ?_ (by simp) _)))).mono ?_
      rintro e w2 ⟨rfl, hb⟩
      have hB : Below w1.heap.size w1 w2 := Below.trans (by repeat (first | exact Below.refl _ _ | apply Below.drew | apply below_drewN | refine Below.alloc ?_ (by simp) _)) (hb.mono (by simp))
      clear hb
      clear B0l B0u B0v
      replace B0 := B0.keep hB
      replace Xb := Xb.keep hB
      replace hw := hw.trans (hB.mono hw.size)
      clear hB
      have B0l := B0.1
      have B0u := B0.2.1
      have B0v := B0.2.2
      go_wp2_with fail
      refine (get_c _ _ _ _ _ _ (Xb.keep (by repeat (first | exact Below.refl _ _ | apply Below.drew | apply below_drewN | refine Below.alloc ?_ (by simp) _))) Fb).mono ?_
      rintro e w3 ⟨rfl, hb⟩
      have hB : Below w2.heap.size w2 w3 := Below.trans (by repeat (first | exact Below.refl _ _ | apply Below.drew | apply below_drewN | refine Below.alloc ?_ (by simp) _)) (hb.mono (by simp))
      clear hb
      clear B0l B0u B0v
      replace B0 := B0.keep hB
      replace Xb := Xb.keep hB
      replace hw := hw.trans (hB.mono hw.size)
      clear hB
      have B0l := B0.1
      have B0u := B0.2.1
      have B0v := B0.2.2
      go_wp2_with fail
      go_region_held3 (fun w' => w'.cell? ⟨w.heap.size, 0, none⟩ = some (.int .i64 Nb) ∧ w'.cell? ⟨w.heap.size, 1, none⟩ = some (.slice ab xb.length cb)) (first | go_keep | (refine ⟨?_, ?_⟩ <;> assumption))
        (first | (go_at_call 13; refine (bones_c _ _ _ _ _ _ (Xb.keep (by repeat (first | exact Below.refl _ _ | apply Below.drew | apply below_drewN | refine Below.alloc ?_ (by simp) _))) Fb Cb).mono ?_; rintro e wz ⟨rfl, hb⟩; replace B0 := (B0.keep (by repeat (first | exact Below.refl _ _ | apply Below.drew | apply below_drewN | refine Below.alloc ?_ (by simp) _))).keep hb; replace Xb := (Xb.keep (by repeat (first | exact Below.refl _ _ | apply Below.drew | apply below_drewN | refine Below.alloc ?_ (by simp) _))).keep hb; replace hw := hw.trans (Below.trans (by repeat (first | exact Below.refl _ _ | apply Below.drew | apply below_drewN | refine Below.alloc ?_ (by simp) _)) (hb.mono hw.size)); clear hb; replace B0l := B0.1; replace B0u := B0.2.1; replace B0v := B0.2.2))
      go_wp2_with fail
      refine (bones_c _ _ _ _ _ _ (Xb.keep (by repeat (first | exact Below.refl _ _ | apply Below.drew | apply below_drewN | refine Below.alloc ?_ (by simp) _))) Fb Cb).mono ?_
      rintro e w4 ⟨rfl, hb⟩
      have hB : Below wz.heap.size wz w4 := Below.trans (by repeat (first | exact Below.refl _ _ | apply Below.drew | apply below_drewN | refine Below.alloc ?_ (by simp) _)) (hb.mono (by simp))
      clear hb
      clear B0l B0u B0v
      replace B0 := B0.keep hB
      replace Xb := Xb.keep hB
      replace hw := hw.trans (hB.mono hw.size)
      clear hB
      have B0l := B0.1
      have B0u := B0.2.1
      have B0v := B0.2.2
      go_wp2_with fail
      refine (heads_c _).mono ?_
      rintro e w5 ⟨rfl, hb⟩
      have hB : Below w4.heap.size w4 w5 := Below.trans (by repeat (first | exact Below.refl _ _ | apply Below.drew | apply below_drewN | refine Below.alloc ?_ (by simp) _)) (hb.mono (by simp))
      clear hb
      clear B0l B0u B0v
      replace B0 := B0.keep hB
      replace Xb := Xb.keep hB
      replace hw := hw.trans (hB.mono hw.size)
      clear hB
      have B0l := B0.1
      have B0u := B0.2.1
      have B0v := B0.2.2
      go_wp2
      go_ret
      exact ⟨rfl, hw⟩

set_option maxRecDepth 100000 in
theorem lifted (os : Os) (started : os.Started) (H : Type) (enc : TypeId × Value → H) :
    ReturnsInHanded {} Try.checked os 3 .any (Rows.bitsCountsSpec.pre6 enc Try.prog Try.f3 Rows.bitsCountsRow.domain false) (Rows.bitsCountsSpec.post enc Try.prog Try.f3 false true false false) := by
  refine returnsInHanded_of_change (C := Try.checked) own started (by kernel_rfl) Try.func3
    (ChangeSpec.witness6 (enc := enc) (C := Try.checked) false ⟨#[], #[.agg #[.int .i64 0, .slice none 0 0], .int .i64 0], []⟩ 8 (by kernel_rfl) (by kernel_rfl) (by kernel_rfl) (by kernel_rfl)) ?_
  intro W base args ds gs before hval0 hW hcnd _
  have hval : ∀ (j : Nat) t v, Try.f3.params[j]? = some t → args[j]? = some v → Value.okWide Try.prog W .any base t v := hval0
  have hW' := hW
  obtain ⟨p, q, hA0, hV, rfl, hfz, hnd⟩ := hW
  have hA : DataW.TrodAll enc Try.prog W 0 (fun _ => true) true Try.f3.params.toList args.toList ds p := hA0
  rw [Try.params3] at hA hval
  obtain ⟨v0, vs0, d0, ds0, p0, q0, hargs, rfl, rfl, h0, r0⟩ := trodAll_cons hA
  obtain ⟨v1, vs1, d1, ds1, p1, q1, rfl, rfl, rfl, h1, r1⟩ := trodAll_cons r0
  obtain ⟨rfl, rfl, rfl⟩ := trodAll_nil r1
  obtain rfl : args = #[v0, v1] := by cases args; simp_all
  obtain ⟨rfl, rfl⟩ := trodVars_none hV
  have k0 := h0
  have lt0 : ∀ x ∈ p0, x.block < W.heap.size := by obtain ⟨m, hm⟩ := k0; exact DataW.trod_lt m _ _ _ hm
  obtain ⟨Nb, ab, xb, cb, rfl, bb1, bb2, bb3, bb4⟩ := open_bits (hval 0 24 v0 rfl rfl) h0
  obtain ⟨i, rfl, rfl, rfl, w1⟩ := open_int Try.underlying3 (hval 1 3 v1 rfl rfl) h1
  clear hA0 hval0
  refine (walk W Nb ab xb cb bb1 bb2 bb3 bb4 i (i64_wf _ w1)).mono fun e W' ⟨he, bel⟩ => ?_
  subst he
  exact ⟨_, rfl, _, _, _, [], _, [], hW', trodAll_mk1 (shut_bool Try.underlying4 _), (trodAll_cons_mk (Below.trod laidOut (by kernel_rfl) (of_decide_eq_true (by kernel_rfl)) k0 bel lt0) (trodAll_cons_mk (shut_int Try.underlying3 w1) trodAll_mk0)), rfl, bel.frame _, fun h => by cases h⟩

theorem over : Rows.bitsCountsRow.holds Try.pinned (OpenSpec.ofChange Rows.bitsCountsSpec) :=
  OpenClaim.holds_of_wide 3 Try.f3 rfl rfl rfl rfl rfl rfl rfl ⟨rfl, rfl, rfl, rfl, rfl⟩ rfl rfl rfl rfl rfl (by kernel_rfl) Try.func3 (by kernel_rfl)
    (of_decide_eq_true (by kernel_rfl)) (by unfold Func.isWrapper; first | (rw [if_pos (by decide +kernel)]; kernel_rfl) | (rw [if_neg (by decide +kernel)]; exact ⟨rfl, rfl⟩))
    (fun os started H enc _ => lifted os started H enc)

theorem proved : Rows.BitsCountsSaid := over
end Go.Proofs.Ytpgbbfekjcfbpaa.bitsCounts
namespace Go.Proofs.Ytpgbbfekjcfbpaa
theorem bitsCounts_holds : Rows.BitsCountsSaid := bitsCounts.proved
#print axioms bitsCounts_holds
end Go.Proofs.Ytpgbbfekjcfbpaa
