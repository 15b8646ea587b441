/-
  For all rows of bits, right or not, and every number: joined rows are one behind the other, and counts add up (P2.2). No condition.
-/
import Derived.Test.YtpgbbfekjcfbpabHeads
import Derived.Test.YtpgbbfekjcfbpabOpen
import Derived.ChangeOld
namespace Go.Proofs.Ytpgbbfekjcfbpab.bitsJoins
open Go.ChangeShapes Go.WideShapes Go.ChangeAt Go.RowKit Num Bit
set_option linter.unusedVariables false

theorem cntB_add (xs ys : List Nat) (n : Nat) : ∀ m, (∀ i, i < m → bitAt xs (n + i) = bitAt ys i) → cntB xs (n + m) = cntB xs n + cntB ys m := by
  intro m
  induction m with
  | zero => intro _; rfl
  | succ m ih =>
    intro h
    rw [← Nat.add_assoc]
    simp only [cntB]
    rw [ih (fun i hi => h i (by omega)), h m (by omega)]
    omega

theorem joins_facts (N : Int) (xs : List Nat) (M : Int) (ys : List Nat) (hk : chk N xs = true) (hk2 : chk M ys = true) (h : N + M ≤ 1048576) :
    joinE N xs M ys = 0 ∧ joinN N xs M ys = N + M ∧
    (∀ i : Int, i < N → getB (N + M) (joinL N xs M ys) i = getB N xs i ∧ getE (N + M) (joinL N xs M ys) i = getE N xs i) ∧
    (∀ i : Int, N ≤ i → getB (N + M) (joinL N xs M ys) i = getB M ys (i - N) ∧ getE (N + M) (joinL N xs M ys) i = getE M ys (i - N)) ∧
    ∃ d1 d2 : Nat, onesI N xs N = (d1 : Int) ∧ onesI M ys M = (d2 : Int) ∧ onesI (N + M) (joinL N xs M ys) (N + M) = (d1 : Int) + (d2 : Int) ∧ d1 ≤ 1048576 ∧ d2 ≤ 1048576 := by
  obtain ⟨c0, c1, _, _⟩ := chk_out N xs hk
  obtain ⟨c2, c3, _, _⟩ := chk_out M ys hk2
  have e1 : joinE N xs M ys = 0 := by unfold joinE; rw [if_neg (by simp [hk, hk2]; omega)]
  have e2 : joinN N xs M ys = N + M := by unfold joinN; rw [e1]; rfl
  have e3 : joinL N xs M ys = rowOf (N + M).toNat (fun j => if j < N.toNat then bitAt xs j else bitAt ys (j - N.toNat)) := by unfold joinL; rw [e1]; rfl
  have e4 : chk (N + M) (joinL N xs M ys) = true := by
    rw [e3]
    have h := chk_rowOf (N + M).toNat (fun j => if j < N.toNat then bitAt xs j else bitAt ys (j - N.toNat)) (by omega)
    rw [show (((N + M).toNat : Nat) : Int) = N + M by omega] at h
    exact h
  have eb : ∀ j : Nat, (j : Int) < N + M → bitAt (joinL N xs M ys) j = if j < N.toNat then bitAt xs j else bitAt ys (j - N.toNat) := by
    intro j hj
    rw [e3, bitAt_rowOf, show decide (j < (N + M).toNat) = true by simp; omega]; simp
  refine ⟨e1, e2, ?_, ?_, cntB xs N.toNat, cntB ys M.toNat, ?_, ?_, ?_, ?_, ?_⟩
  · intro i hi
    constructor
    · unfold getB
      rw [e4, hk]
      by_cases c : 0 ≤ i
      · rw [eb i.toNat (by omega), if_pos (by omega), show decide (0 ≤ i ∧ i < N + M) = true by simp; omega, show decide (0 ≤ i ∧ i < N) = true by simp; omega]
      · rw [show decide (0 ≤ i ∧ i < N + M) = false by simp; omega, show decide (0 ≤ i ∧ i < N) = false by simp; omega]; simp
    · unfold getE; rw [e4, hk]
      by_cases c : i < 0
      · rw [if_pos (show i < 0 ∨ N + M ≤ i from .inl c), if_pos (show i < 0 ∨ N ≤ i from .inl c)]
      · rw [if_neg (show ¬ (i < 0 ∨ N + M ≤ i) by omega), if_neg (show ¬ (i < 0 ∨ N ≤ i) by omega)]
  · intro i hi
    constructor
    · unfold getB
      rw [e4, hk2]
      by_cases c : i < N + M
      · rw [eb i.toNat (by omega), if_neg (by omega), show decide (0 ≤ i ∧ i < N + M) = true by simp; omega, show decide (0 ≤ i - N ∧ i - N < M) = true by simp; omega, show i.toNat - N.toNat = (i - N).toNat by omega]
      · rw [show decide (0 ≤ i ∧ i < N + M) = false by simp; omega, show decide (0 ≤ i - N ∧ i - N < M) = false by simp; omega]; simp
    · unfold getE; rw [e4, hk2]
      by_cases c : i < N + M
      · rw [if_neg (show ¬ (i < 0 ∨ N + M ≤ i) by omega), if_neg (show ¬ (i - N < 0 ∨ M ≤ i - N) by omega)]
      · rw [if_pos (show i < 0 ∨ N + M ≤ i by omega), if_pos (show i - N < 0 ∨ M ≤ i - N by omega)]
  · unfold onesI; rw [hk, show min N N = N by omega]; rfl
  · unfold onesI; rw [hk2, show min M M = M by omega]; rfl
  · unfold onesI; rw [e4, show min (N + M) (N + M) = N + M by omega]
    have q := cntB_add (joinL N xs M ys) ys N.toNat M.toNat (fun i hi => by rw [eb (N.toNat + i) (by omega), if_neg (by omega), show N.toNat + i - N.toNat = i by omega])
    have q2 := cntB_congr (joinL N xs M ys) xs N.toNat (fun i hi => by rw [eb i (by omega), if_pos hi])
    rw [show (N + M).toNat = N.toNat + M.toNat by omega, q, q2]
    simp
  · have := cntB_le xs N.toNat; omega
  · have := cntB_le ys M.toNat; omega

set_option maxHeartbeats 40000000 in
theorem walk (w : World) (Na : Int) (aa : Option Addr) (xa : List Nat) (ca : Nat) (haN : -9223372036854775808 ≤ Na ∧ Na ≤ 9223372036854775807) (Xa : Wd w aa xa) (Fa : Fit xa) (Ca : xa.length ≤ ca) (Nb : Int) (ab : Option Addr) (xb : List Nat) (cb : Nat) (hbN : -9223372036854775808 ≤ Nb ∧ Nb ≤ 9223372036854775807) (Xb : Wd w ab xb) (Fb : Fit xb) (Cb : xb.length ≤ cb) (i : Int) (hi : -9223372036854775808 ≤ i ∧ i ≤ 9223372036854775807) :
    Calls Try.prog 3 #[.agg #[.int .i64 Na, .slice aa xa.length ca], .agg #[.int .i64 Nb, .slice ab xb.length cb], .int .i64 i] w fun e w' => e = .returned (.bool true) ∧ Below w.heap.size w w' := by
  by_cases sa1 : Na ≤ 5000
  case neg =>
    have s1' : decide (Na ≤ 5000) = false := by simpa using sa1
    go_enter Try.func3, Try.ntmps3
    have hw : Below w.heap.size w w := Below.refl _ _
    go_wp2_with fail
    refine (small_c _ _ _ _ _).mono ?_
    rintro e w1 ⟨rfl, hb⟩
    obtain ⟨B0, B1⟩ := Box.new2 hb
    have hB : Below w.heap.size w w1 := Below.trans (by repeat (first | exact Below.refl _ _ | apply Below.drew | apply below_drewN | refine Below.alloc ?_ (by simp) _)) (hb.mono (by first | (simp; done) | (simp; omega)))
    clear hb
    replace Xa := Xa.keep hB
    replace Xb := Xb.keep hB
    replace hw := hw.trans (hB.mono hw.size)
    clear hB
    have B0l := B0.1
    have B0u := B0.2.1
    have B0v := B0.2.2
    have B1l := B1.1
    have B1u := B1.2.1
    have B1v := B1.2.2
    go_wp2_with fail
    refine (heads_c _).mono ?_
    rintro e w2 ⟨rfl, hb⟩
    have hB : Below w1.heap.size w1 w2 := Below.trans (by repeat (first | exact Below.refl _ _ | apply Below.drew | apply below_drewN | refine Below.alloc ?_ (by simp) _)) (hb.mono (by first | (simp; done) | (simp; omega)))
    clear hb
    clear B0l B0u B0v
    clear B1l B1u B1v
    replace B0 := B0.keep hB
    replace B1 := B1.keep hB
    replace Xa := Xa.keep hB
    replace Xb := Xb.keep hB
    replace hw := hw.trans (hB.mono hw.size)
    clear hB
    have B0l := B0.1
    have B0u := B0.2.1
    have B0v := B0.2.2
    have B1l := B1.1
    have B1u := B1.2.1
    have B1v := B1.2.2
    go_wp2
    go_ret
    exact ⟨rfl, hw⟩
  by_cases sa2 : (xa.length : Int) ≤ 5000
  case neg =>
    have s2' : decide ((xa.length : Int) ≤ 5000) = false := by simpa using sa2
    go_enter Try.func3, Try.ntmps3
    have hw : Below w.heap.size w w := Below.refl _ _
    go_wp2_with fail
    refine (small_c _ _ _ _ _).mono ?_
    rintro e w1 ⟨rfl, hb⟩
    obtain ⟨B0, B1⟩ := Box.new2 hb
    have hB : Below w.heap.size w w1 := Below.trans (by repeat (first | exact Below.refl _ _ | apply Below.drew | apply below_drewN | refine Below.alloc ?_ (by simp) _)) (hb.mono (by first | (simp; done) | (simp; omega)))
    clear hb
    replace Xa := Xa.keep hB
    replace Xb := Xb.keep hB
    replace hw := hw.trans (hB.mono hw.size)
    clear hB
    have B0l := B0.1
    have B0u := B0.2.1
    have B0v := B0.2.2
    have B1l := B1.1
    have B1u := B1.2.1
    have B1v := B1.2.2
    go_wp2_with fail
    refine (heads_c _).mono ?_
    rintro e w2 ⟨rfl, hb⟩
    have hB : Below w1.heap.size w1 w2 := Below.trans (by repeat (first | exact Below.refl _ _ | apply Below.drew | apply below_drewN | refine Below.alloc ?_ (by simp) _)) (hb.mono (by first | (simp; done) | (simp; omega)))
    clear hb
    clear B0l B0u B0v
    clear B1l B1u B1v
    replace B0 := B0.keep hB
    replace B1 := B1.keep hB
    replace Xa := Xa.keep hB
    replace Xb := Xb.keep hB
    replace hw := hw.trans (hB.mono hw.size)
    clear hB
    have B0l := B0.1
    have B0u := B0.2.1
    have B0v := B0.2.2
    have B1l := B1.1
    have B1u := B1.2.1
    have B1v := B1.2.2
    go_wp2
    go_ret
    exact ⟨rfl, hw⟩
  have sa1' : decide (Na ≤ 5000) = true := by simpa using sa1
  have sa2' : decide ((xa.length : Int) ≤ 5000) = true := by simpa using sa2
  by_cases sb1 : Nb ≤ 5000
  case neg =>
    have s1' : decide (Nb ≤ 5000) = false := by simpa using sb1
    go_enter Try.func3, Try.ntmps3
    have hw : Below w.heap.size w w := Below.refl _ _
    go_wp2_with fail
    refine (small_c _ _ _ _ _).mono ?_
    rintro e w1 ⟨rfl, hb⟩
    obtain ⟨B0, B1⟩ := Box.new2 hb
    have hB : Below w.heap.size w w1 := Below.trans (by repeat (first | exact Below.refl _ _ | apply Below.drew | apply below_drewN | refine Below.alloc ?_ (by simp) _)) (hb.mono (by first | (simp; done) | (simp; omega)))
    clear hb
    replace Xa := Xa.keep hB
    replace Xb := Xb.keep hB
    replace hw := hw.trans (hB.mono hw.size)
    clear hB
    have B0l := B0.1
    have B0u := B0.2.1
    have B0v := B0.2.2
    have B1l := B1.1
    have B1u := B1.2.1
    have B1v := B1.2.2
    go_wp2_with fail
    refine (small_c _ _ _ _ _).mono ?_
    rintro e w2 ⟨rfl, hb⟩
    have hB : Below w1.heap.size w1 w2 := Below.trans (by repeat (first | exact Below.refl _ _ | apply Below.drew | apply below_drewN | refine Below.alloc ?_ (by simp) _)) (hb.mono (by first | (simp; done) | (simp; omega)))
    clear hb
    clear B0l B0u B0v
    clear B1l B1u B1v
    replace B0 := B0.keep hB
    replace B1 := B1.keep hB
    replace Xa := Xa.keep hB
    replace Xb := Xb.keep hB
    replace hw := hw.trans (hB.mono hw.size)
    clear hB
    have B0l := B0.1
    have B0u := B0.2.1
    have B0v := B0.2.2
    have B1l := B1.1
    have B1u := B1.2.1
    have B1v := B1.2.2
    go_wp2_with fail
    refine (heads_c _).mono ?_
    rintro e w3 ⟨rfl, hb⟩
    have hB : Below w2.heap.size w2 w3 := Below.trans (by repeat (first | exact Below.refl _ _ | apply Below.drew | apply below_drewN | refine Below.alloc ?_ (by simp) _)) (hb.mono (by first | (simp; done) | (simp; omega)))
    clear hb
    clear B0l B0u B0v
    clear B1l B1u B1v
    replace B0 := B0.keep hB
    replace B1 := B1.keep hB
    replace Xa := Xa.keep hB
    replace Xb := Xb.keep hB
    replace hw := hw.trans (hB.mono hw.size)
    clear hB
    have B0l := B0.1
    have B0u := B0.2.1
    have B0v := B0.2.2
    have B1l := B1.1
    have B1u := B1.2.1
    have B1v := B1.2.2
    go_wp2
    go_ret
    exact ⟨rfl, hw⟩
  by_cases sb2 : (xb.length : Int) ≤ 5000
  case neg =>
    have s2' : decide ((xb.length : Int) ≤ 5000) = false := by simpa using sb2
    go_enter Try.func3, Try.ntmps3
    have hw : Below w.heap.size w w := Below.refl _ _
    go_wp2_with fail
    refine (small_c _ _ _ _ _).mono ?_
    rintro e w1 ⟨rfl, hb⟩
    obtain ⟨B0, B1⟩ := Box.new2 hb
    have hB : Below w.heap.size w w1 := Below.trans (by repeat (first | exact Below.refl _ _ | apply Below.drew | apply below_drewN | refine Below.alloc ?_ (by simp) _)) (hb.mono (by first | (simp; done) | (simp; omega)))
    clear hb
    replace Xa := Xa.keep hB
    replace Xb := Xb.keep hB
    replace hw := hw.trans (hB.mono hw.size)
    clear hB
    have B0l := B0.1
    have B0u := B0.2.1
    have B0v := B0.2.2
    have B1l := B1.1
    have B1u := B1.2.1
    have B1v := B1.2.2
    go_wp2_with fail
    refine (small_c _ _ _ _ _).mono ?_
    rintro e w2 ⟨rfl, hb⟩
    have hB : Below w1.heap.size w1 w2 := Below.trans (by repeat (first | exact Below.refl _ _ | apply Below.drew | apply below_drewN | refine Below.alloc ?_ (by simp) _)) (hb.mono (by first | (simp; done) | (simp; omega)))
    clear hb
    clear B0l B0u B0v
    clear B1l B1u B1v
    replace B0 := B0.keep hB
    replace B1 := B1.keep hB
    replace Xa := Xa.keep hB
    replace Xb := Xb.keep hB
    replace hw := hw.trans (hB.mono hw.size)
    clear hB
    have B0l := B0.1
    have B0u := B0.2.1
    have B0v := B0.2.2
    have B1l := B1.1
    have B1u := B1.2.1
    have B1v := B1.2.2
    go_wp2_with fail
    refine (heads_c _).mono ?_
    rintro e w3 ⟨rfl, hb⟩
    have hB : Below w2.heap.size w2 w3 := Below.trans (by repeat (first | exact Below.refl _ _ | apply Below.drew | apply below_drewN | refine Below.alloc ?_ (by simp) _)) (hb.mono (by first | (simp; done) | (simp; omega)))
    clear hb
    clear B0l B0u B0v
    clear B1l B1u B1v
    replace B0 := B0.keep hB
    replace B1 := B1.keep hB
    replace Xa := Xa.keep hB
    replace Xb := Xb.keep hB
    replace hw := hw.trans (hB.mono hw.size)
    clear hB
    have B0l := B0.1
    have B0u := B0.2.1
    have B0v := B0.2.2
    have B1l := B1.1
    have B1u := B1.2.1
    have B1v := B1.2.2
    go_wp2
    go_ret
    exact ⟨rfl, hw⟩
  have sb1' : decide (Nb ≤ 5000) = true := by simpa using sb1
  have sb2' : decide ((xb.length : Int) ≤ 5000) = true := by simpa using sb2
  cases hka : chk Na xa with
  | false =>
    go_enter Try.func3, Try.ntmps3
    have hw : Below w.heap.size w w := Below.refl _ _
    go_wp2_with fail
    refine (small_c _ _ _ _ _).mono ?_
    rintro e w1 ⟨rfl, hb⟩
    obtain ⟨B0, B1⟩ := Box.new2 hb
    have hB : Below w.heap.size w w1 := Below.trans (by repeat (first | exact Below.refl _ _ | apply Below.drew | apply below_drewN | refine Below.alloc ?_ (by simp) _)) (hb.mono (by first | (simp; done) | (simp; omega)))
    clear hb
    replace Xa := Xa.keep hB
    replace Xb := Xb.keep hB
    replace hw := hw.trans (hB.mono hw.size)
    clear hB
    have B0l := B0.1
    have B0u := B0.2.1
    have B0v := B0.2.2
    have B1l := B1.1
    have B1u := B1.2.1
    have B1v := B1.2.2
    go_wp2_with fail
    refine (small_c _ _ _ _ _).mono ?_
    rintro e w2 ⟨rfl, hb⟩
    have hB : Below w1.heap.size w1 w2 := Below.trans (by repeat (first | exact Below.refl _ _ | apply Below.drew | apply below_drewN | refine Below.alloc ?_ (by simp) _)) (hb.mono (by first | (simp; done) | (simp; omega)))
    clear hb
    clear B0l B0u B0v
    clear B1l B1u B1v
    replace B0 := B0.keep hB
    replace B1 := B1.keep hB
    replace Xa := Xa.keep hB
    replace Xb := Xb.keep hB
    replace hw := hw.trans (hB.mono hw.size)
    clear hB
    have B0l := B0.1
    have B0u := B0.2.1
    have B0v := B0.2.2
    have B1l := B1.1
    have B1u := B1.2.1
    have B1v := B1.2.2
    go_wp2_with fail
    refine (check_c _ _ _ _ _ (Xa.keep (by repeat (first | exact Below.refl _ _ | apply Below.drew | apply below_drewN | refine Below.alloc ?_ (by simp) _)))).mono ?_
    rintro e w3 ⟨rfl, hb⟩
    have hB : Below w2.heap.size w2 w3 := Below.trans (by repeat (first | exact Below.refl _ _ | apply Below.drew | apply below_drewN | refine Below.alloc ?_ (by simp) _)) (hb.mono (by first | (simp; done) | (simp; omega)))
    clear hb
    clear B0l B0u B0v
    clear B1l B1u B1v
    replace B0 := B0.keep hB
    replace B1 := B1.keep hB
    replace Xa := Xa.keep hB
    replace Xb := Xb.keep hB
    replace hw := hw.trans (hB.mono hw.size)
    clear hB
    have B0l := B0.1
    have B0u := B0.2.1
    have B0v := B0.2.2
    have B1l := B1.1
    have B1u := B1.2.1
    have B1v := B1.2.2
    go_wp2_with fail
    refine (heads_c _).mono ?_
    rintro e w4 ⟨rfl, hb⟩
    have hB : Below w3.heap.size w3 w4 := Below.trans (by repeat (first | exact Below.refl _ _ | apply Below.drew | apply below_drewN | refine Below.alloc ?_ (by simp) _)) (hb.mono (by first | (simp; done) | (simp; omega)))
    clear hb
    clear B0l B0u B0v
    clear B1l B1u B1v
    replace B0 := B0.keep hB
    replace B1 := B1.keep hB
    replace Xa := Xa.keep hB
    replace Xb := Xb.keep hB
    replace hw := hw.trans (hB.mono hw.size)
    clear hB
    have B0l := B0.1
    have B0u := B0.2.1
    have B0v := B0.2.2
    have B1l := B1.1
    have B1u := B1.2.1
    have B1v := B1.2.2
    go_wp2
    go_ret
    exact ⟨rfl, hw⟩
  | true =>
    cases hkb : chk Nb xb with
    | false =>
      go_enter Try.func3, Try.ntmps3
      have hw : Below w.heap.size w w := Below.refl _ _
      go_wp2_with fail
      refine (small_c _ _ _ _ _).mono ?_
      rintro e w1 ⟨rfl, hb⟩
      obtain ⟨B0, B1⟩ := Box.new2 hb
      have hB : Below w.heap.size w w1 := Below.trans (by repeat (first | exact Below.refl _ _ | apply Below.drew | apply below_drewN | refine Below.alloc ?_ (by simp) _)) (hb.mono (by first | (simp; done) | (simp; omega)))
      clear hb
      replace Xa := Xa.keep hB
      replace Xb := Xb.keep hB
      replace hw := hw.trans (hB.mono hw.size)
      clear hB
      have B0l := B0.1
      have B0u := B0.2.1
      have B0v := B0.2.2
      have B1l := B1.1
      have B1u := B1.2.1
      have B1v := B1.2.2
      go_wp2_with fail
      refine (small_c _ _ _ _ _).mono ?_
      rintro e w2 ⟨rfl, hb⟩
      have hB : Below w1.heap.size w1 w2 := Below.trans (by repeat (first | exact Below.refl _ _ | apply Below.drew | apply below_drewN | refine Below.alloc ?_ (by simp) _)) (hb.mono (by first | (simp; done) | (simp; omega)))
      clear hb
      clear B0l B0u B0v
      clear B1l B1u B1v
      replace B0 := B0.keep hB
      replace B1 := B1.keep hB
      replace Xa := Xa.keep hB
      replace Xb := Xb.keep hB
      replace hw := hw.trans (hB.mono hw.size)
      clear hB
      have B0l := B0.1
      have B0u := B0.2.1
      have B0v := B0.2.2
      have B1l := B1.1
      have B1u := B1.2.1
      have B1v := B1.2.2
      go_wp2_with fail
      refine (check_c _ _ _ _ _ (Xa.keep (by repeat (first | exact Below.refl _ _ | apply Below.drew | apply below_drewN | refine Below.alloc ?_ (by simp) _)))).mono ?_
      rintro e w3 ⟨rfl, hb⟩
      have hB : Below w2.heap.size w2 w3 := Below.trans (by repeat (first | exact Below.refl _ _ | apply Below.drew | apply below_drewN | refine Below.alloc ?_ (by simp) _)) (hb.mono (by first | (simp; done) | (simp; omega)))
      clear hb
      clear B0l B0u B0v
      clear B1l B1u B1v
      replace B0 := B0.keep hB
      replace B1 := B1.keep hB
      replace Xa := Xa.keep hB
      replace Xb := Xb.keep hB
      replace hw := hw.trans (hB.mono hw.size)
      clear hB
      have B0l := B0.1
      have B0u := B0.2.1
      have B0v := B0.2.2
      have B1l := B1.1
      have B1u := B1.2.1
      have B1v := B1.2.2
      go_wp2_with fail
      refine (check_c _ _ _ _ _ (Xb.keep (by repeat (first | exact Below.refl _ _ | apply Below.drew | apply below_drewN | refine Below.alloc ?_ (by simp) _)))).mono ?_
      rintro e w4 ⟨rfl, hb⟩
      have hB : Below w3.heap.size w3 w4 := Below.trans (by repeat (first | exact Below.refl _ _ | apply Below.drew | apply below_drewN | refine Below.alloc ?_ (by simp) _)) (hb.mono (by first | (simp; done) | (simp; omega)))
      clear hb
      clear B0l B0u B0v
      clear B1l B1u B1v
      replace B0 := B0.keep hB
      replace B1 := B1.keep hB
      replace Xa := Xa.keep hB
      replace Xb := Xb.keep hB
      replace hw := hw.trans (hB.mono hw.size)
      clear hB
      have B0l := B0.1
      have B0u := B0.2.1
      have B0v := B0.2.2
      have B1l := B1.1
      have B1u := B1.2.1
      have B1v := B1.2.2
      go_wp2_with fail
      refine (heads_c _).mono ?_
      rintro e w5 ⟨rfl, hb⟩
      have hB : Below w4.heap.size w4 w5 := Below.trans (by repeat (first | exact Below.refl _ _ | apply Below.drew | apply below_drewN | refine Below.alloc ?_ (by simp) _)) (hb.mono (by first | (simp; done) | (simp; omega)))
      clear hb
      clear B0l B0u B0v
      clear B1l B1u B1v
      replace B0 := B0.keep hB
      replace B1 := B1.keep hB
      replace Xa := Xa.keep hB
      replace Xb := Xb.keep hB
      replace hw := hw.trans (hB.mono hw.size)
      clear hB
      have B0l := B0.1
      have B0u := B0.2.1
      have B0v := B0.2.2
      have B1l := B1.1
      have B1u := B1.2.1
      have B1v := B1.2.2
      go_wp2
      go_ret
      exact ⟨rfl, hw⟩
    | true =>
      obtain ⟨ha0, ha1, _, _⟩ := chk_out Na xa hka
      obtain ⟨hb0, hb1, _, _⟩ := chk_out Nb xb hkb
      obtain ⟨J1, J2, GL, GH, d1, d2, O1, O2, O3, hd1, hd2⟩ := joins_facts Na xa Nb xb hka hkb (by omega)
      obtain ⟨hi1, hi2⟩ := hi
      by_cases c : Na ≤ i
      case neg =>
        obtain ⟨G1, G2⟩ := GL i (by omega)
        clear GL GH
        go_enter Try.func3, Try.ntmps3
        have hw : Below w.heap.size w w := Below.refl _ _
        go_wp2_with fail
        refine (small_c _ _ _ _ _).mono ?_
        rintro e w1 ⟨rfl, hb⟩
        obtain ⟨B0, B1⟩ := Box.new2 hb
        have hB : Below w.heap.size w w1 := Below.trans (by repeat (first | exact Below.refl _ _ | apply Below.drew | apply below_drewN | refine Below.alloc ?_ (by simp) _)) (hb.mono (by first | (simp; done) | (simp; omega)))
        clear hb
        replace Xa := Xa.keep hB
        replace Xb := Xb.keep hB
        replace hw := hw.trans (hB.mono hw.size)
        clear hB
        have B0l := B0.1
        have B0u := B0.2.1
        have B0v := B0.2.2
        have B1l := B1.1
        have B1u := B1.2.1
        have B1v := B1.2.2
        go_wp2_with fail
        refine (small_c _ _ _ _ _).mono ?_
        rintro e w2 ⟨rfl, hb⟩
        have hB : Below w1.heap.size w1 w2 := Below.trans (by repeat (first | exact Below.refl _ _ | apply Below.drew | apply below_drewN | refine Below.alloc ?_ (by simp) _)) (hb.mono (by first | (simp; done) | (simp; omega)))
        clear hb
        clear B0l B0u B0v
        clear B1l B1u B1v
        replace B0 := B0.keep hB
        replace B1 := B1.keep hB
        replace Xa := Xa.keep hB
        replace Xb := Xb.keep hB
        replace hw := hw.trans (hB.mono hw.size)
        clear hB
        have B0l := B0.1
        have B0u := B0.2.1
        have B0v := B0.2.2
        have B1l := B1.1
        have B1u := B1.2.1
        have B1v := B1.2.2
        go_wp2_with fail
        refine (check_c _ _ _ _ _ (Xa.keep (by repeat (first | exact Below.refl _ _ | apply Below.drew | apply below_drewN | refine Below.alloc ?_ (by simp) _)))).mono ?_
        rintro e w3 ⟨rfl, hb⟩
        have hB : Below w2.heap.size w2 w3 := Below.trans (by repeat (first | exact Below.refl _ _ | apply Below.drew | apply below_drewN | refine Below.alloc ?_ (by simp) _)) (hb.mono (by first | (simp; done) | (simp; omega)))
        clear hb
        clear B0l B0u B0v
        clear B1l B1u B1v
        replace B0 := B0.keep hB
        replace B1 := B1.keep hB
        replace Xa := Xa.keep hB
        replace Xb := Xb.keep hB
        replace hw := hw.trans (hB.mono hw.size)
        clear hB
        have B0l := B0.1
        have B0u := B0.2.1
        have B0v := B0.2.2
        have B1l := B1.1
        have B1u := B1.2.1
        have B1v := B1.2.2
        go_wp2_with fail
        refine (check_c _ _ _ _ _ (Xb.keep (by repeat (first | exact Below.refl _ _ | apply Below.drew | apply below_drewN | refine Below.alloc ?_ (by simp) _)))).mono ?_
        rintro e w4 ⟨rfl, hb⟩
        have hB : Below w3.heap.size w3 w4 := Below.trans (by repeat (first | exact Below.refl _ _ | apply Below.drew | apply below_drewN | refine Below.alloc ?_ (by simp) _)) (hb.mono (by first | (simp; done) | (simp; omega)))
        clear hb
        clear B0l B0u B0v
        clear B1l B1u B1v
        replace B0 := B0.keep hB
        replace B1 := B1.keep hB
        replace Xa := Xa.keep hB
        replace Xb := Xb.keep hB
        replace hw := hw.trans (hB.mono hw.size)
        clear hB
        have B0l := B0.1
        have B0u := B0.2.1
        have B0v := B0.2.2
        have B1l := B1.1
        have B1u := B1.2.1
        have B1v := B1.2.2
        go_wp2_with fail
        refine (join_c _ _ _ _ _ _ _ _ _ (Xa.keep (by repeat (first | exact Below.refl _ _ | apply Below.drew | apply below_drewN | refine Below.alloc ?_ (by simp) _))) (Xb.keep (by repeat (first | exact Below.refl _ _ | apply Below.drew | apply below_drewN | refine Below.alloc ?_ (by simp) _))) Fa Fb (by omega)).mono ?_
        rintro e w5 ⟨lo, lc, rfl, XL, FL, CL, hb⟩
        have hB : Below w4.heap.size w4 w5 := Below.trans (by repeat (first | exact Below.refl _ _ | apply Below.drew | apply below_drewN | refine Below.alloc ?_ (by simp) _)) (hb.mono (by first | (simp; done) | (simp; omega)))
        clear hb
        clear B0l B0u B0v
        clear B1l B1u B1v
        replace B0 := B0.keep hB
        replace B1 := B1.keep hB
        replace Xa := Xa.keep hB
        replace Xb := Xb.keep hB
        replace hw := hw.trans (hB.mono hw.size)
        clear hB
        have B0l := B0.1
        have B0u := B0.2.1
        have B0v := B0.2.2
        have B1l := B1.1
        have B1u := B1.2.1
        have B1v := B1.2.2
        go_wp2_with fail
        refine (get_c _ _ _ _ _ _ (XL.keep (by repeat (first | exact Below.refl _ _ | apply Below.drew | apply below_drewN | refine Below.alloc ?_ (by simp) _))) FL).mono ?_
        rintro e w6 ⟨rfl, hb⟩
        have BL := Box.new hb
        have hB : Below w5.heap.size w5 w6 := Below.trans (by repeat (first | exact Below.refl _ _ | apply Below.drew | apply below_drewN | refine Below.alloc ?_ (by simp) _)) (hb.mono (by first | (simp; done) | (simp; omega)))
        clear hb
        clear B0l B0u B0v
        clear B1l B1u B1v
        replace B0 := B0.keep hB
        replace B1 := B1.keep hB
        replace Xa := Xa.keep hB
        replace Xb := Xb.keep hB
        replace XL := XL.keep hB
        replace hw := hw.trans (hB.mono hw.size)
        clear hB
        have B0l := B0.1
        have B0u := B0.2.1
        have B0v := B0.2.2
        have B1l := B1.1
        have B1u := B1.2.1
        have B1v := B1.2.2
        have BLl := BL.1
        have BLu := BL.2.1
        have BLv := BL.2.2
        go_wp2_with fail
        refine (get_c _ _ _ _ _ _ (Xa.keep (by repeat (first | exact Below.refl _ _ | apply Below.drew | apply below_drewN | refine Below.alloc ?_ (by simp) _))) Fa).mono ?_
        rintro e w7 ⟨rfl, hb⟩
        have hB : Below w6.heap.size w6 w7 := Below.trans (by repeat (first | exact Below.refl _ _ | apply Below.drew | apply below_drewN | refine Below.alloc ?_ (by simp) _)) (hb.mono (by first | (simp; done) | (simp; omega)))
        clear hb
        clear B0l B0u B0v
        clear B1l B1u B1v
        clear BLl BLu BLv
        replace B0 := B0.keep hB
        replace B1 := B1.keep hB
        replace BL := BL.keep hB
        replace Xa := Xa.keep hB
        replace Xb := Xb.keep hB
        replace XL := XL.keep hB
        replace hw := hw.trans (hB.mono hw.size)
        clear hB
        have B0l := B0.1
        have B0u := B0.2.1
        have B0v := B0.2.2
        have B1l := B1.1
        have B1u := B1.2.1
        have B1v := B1.2.2
        have BLl := BL.1
        have BLu := BL.2.1
        have BLv := BL.2.2
        have hadd : IntKind.i64.wrap ((d1 : Int) + (d2 : Int)) = (d1 : Int) + (d2 : Int) := wraps_i64 _ (by omega) (by omega)
        have hadd2 : IntKind.i64.wrap (Na + Nb) = Na + Nb := wraps_i64 _ (by omega) (by omega)
        go_wp2_with fail
        go_region_held3 (fun w' => w'.cell? ⟨w.heap.size, 0, none⟩ = some (.int .i64 Na) ∧ w'.cell? ⟨w.heap.size, 1, none⟩ = some (.slice aa xa.length ca) ∧ w'.cell? ⟨w.heap.size + 1, 0, none⟩ = some (.int .i64 Nb) ∧ w'.cell? ⟨w.heap.size + 1, 1, none⟩ = some (.slice ab xb.length cb) ∧ w'.cell? ⟨w5.heap.size, 0, none⟩ = some (.int .i64 (Na + Nb)) ∧ w'.cell? ⟨w5.heap.size, 1, none⟩ = some (.slice lo (joinL Na xa Nb xb).length lc)) (first | go_keep | (refine ⟨?_, ?_, ?_, ?_, ?_, ?_⟩ <;> assumption))
          (first | (go_at_call 9; refine (bones_c _ _ _ _ _ _ ?_ ?_ ?_).mono ?_; (first | with_reducible exact (XL.keep (by repeat (first | exact Below.refl _ _ | apply Below.drew | apply below_drewN | refine Below.alloc ?_ (by simp) _))) | with_reducible exact (Xa.keep (by repeat (first | exact Below.refl _ _ | apply Below.drew | apply below_drewN | refine Below.alloc ?_ (by simp) _))) | with_reducible exact (Xb.keep (by repeat (first | exact Below.refl _ _ | apply Below.drew | apply below_drewN | refine Below.alloc ?_ (by simp) _)))); (first | with_reducible exact FL | with_reducible exact Fa | with_reducible exact Fb); (first | with_reducible exact CL | with_reducible exact Ca | with_reducible exact Cb); rintro e wz ⟨rfl, hb⟩; replace B0 := (B0.keep (by repeat (first | exact Below.refl _ _ | apply Below.drew | apply below_drewN | refine Below.alloc ?_ (by simp) _))).keep hb; replace B1 := (B1.keep (by repeat (first | exact Below.refl _ _ | apply Below.drew | apply below_drewN | refine Below.alloc ?_ (by simp) _))).keep hb; replace BL := (BL.keep (by repeat (first | exact Below.refl _ _ | apply Below.drew | apply below_drewN | refine Below.alloc ?_ (by simp) _))).keep hb; replace Xa := (Xa.keep (by repeat (first | exact Below.refl _ _ | apply Below.drew | apply below_drewN | refine Below.alloc ?_ (by simp) _))).keep hb; replace Xb := (Xb.keep (by repeat (first | exact Below.refl _ _ | apply Below.drew | apply below_drewN | refine Below.alloc ?_ (by simp) _))).keep hb; replace XL := (XL.keep (by repeat (first | exact Below.refl _ _ | apply Below.drew | apply below_drewN | refine Below.alloc ?_ (by simp) _))).keep hb; replace hw := hw.trans (Below.trans (by repeat (first | exact Below.refl _ _ | apply Below.drew | apply below_drewN | refine Below.alloc ?_ (by simp) _)) (hb.mono hw.size)); clear hb; replace B0l := B0.1; replace B0u := B0.2.1; replace B0v := B0.2.2; replace B1l := B1.1; replace B1u := B1.2.1; replace B1v := B1.2.2; replace BLl := BL.1; replace BLu := BL.2.1; replace BLv := BL.2.2) | (go_at_call 6; refine (heads_c _).mono ?_; rintro e wz ⟨rfl, hb⟩; replace B0 := (B0.keep (by repeat (first | exact Below.refl _ _ | apply Below.drew | apply below_drewN | refine Below.alloc ?_ (by simp) _))).keep hb; replace B1 := (B1.keep (by repeat (first | exact Below.refl _ _ | apply Below.drew | apply below_drewN | refine Below.alloc ?_ (by simp) _))).keep hb; replace BL := (BL.keep (by repeat (first | exact Below.refl _ _ | apply Below.drew | apply below_drewN | refine Below.alloc ?_ (by simp) _))).keep hb; replace Xa := (Xa.keep (by repeat (first | exact Below.refl _ _ | apply Below.drew | apply below_drewN | refine Below.alloc ?_ (by simp) _))).keep hb; replace Xb := (Xb.keep (by repeat (first | exact Below.refl _ _ | apply Below.drew | apply below_drewN | refine Below.alloc ?_ (by simp) _))).keep hb; replace XL := (XL.keep (by repeat (first | exact Below.refl _ _ | apply Below.drew | apply below_drewN | refine Below.alloc ?_ (by simp) _))).keep hb; replace hw := hw.trans (Below.trans (by repeat (first | exact Below.refl _ _ | apply Below.drew | apply below_drewN | refine Below.alloc ?_ (by simp) _)) (hb.mono hw.size)); clear hb; replace B0l := B0.1; replace B0u := B0.2.1; replace B0v := B0.2.2; replace B1l := B1.1; replace B1u := B1.2.1; replace B1v := B1.2.2; replace BLl := BL.1; replace BLu := BL.2.1; replace BLv := BL.2.2))
        go_wp2
        go_ret
        exact ⟨rfl, hw⟩
      case pos =>
        obtain ⟨G1, G2⟩ := GH i c
        clear GL GH
        go_enter Try.func3, Try.ntmps3
        have hw : Below w.heap.size w w := Below.refl _ _
        go_wp2_with fail
        refine (small_c _ _ _ _ _).mono ?_
        rintro e w1 ⟨rfl, hb⟩
        obtain ⟨B0, B1⟩ := Box.new2 hb
        have hB : Below w.heap.size w w1 := Below.trans (by repeat (first | exact Below.refl _ _ | apply Below.drew | apply below_drewN | refine Below.alloc ?_ (by simp) _)) (hb.mono (by first | (simp; done) | (simp; omega)))
        clear hb
        replace Xa := Xa.keep hB
        replace Xb := Xb.keep hB
        replace hw := hw.trans (hB.mono hw.size)
        clear hB
        have B0l := B0.1
        have B0u := B0.2.1
        have B0v := B0.2.2
        have B1l := B1.1
        have B1u := B1.2.1
        have B1v := B1.2.2
        go_wp2_with fail
        refine (small_c _ _ _ _ _).mono ?_
        rintro e w2 ⟨rfl, hb⟩
        have hB : Below w1.heap.size w1 w2 := Below.trans (by repeat (first | exact Below.refl _ _ | apply Below.drew | apply below_drewN | refine Below.alloc ?_ (by simp) _)) (hb.mono (by first | (simp; done) | (simp; omega)))
        clear hb
        clear B0l B0u B0v
        clear B1l B1u B1v
        replace B0 := B0.keep hB
        replace B1 := B1.keep hB
        replace Xa := Xa.keep hB
        replace Xb := Xb.keep hB
        replace hw := hw.trans (hB.mono hw.size)
        clear hB
        have B0l := B0.1
        have B0u := B0.2.1
        have B0v := B0.2.2
        have B1l := B1.1
        have B1u := B1.2.1
        have B1v := B1.2.2
        go_wp2_with fail
        refine (check_c _ _ _ _ _ (Xa.keep (by repeat (first | exact Below.refl _ _ | apply Below.drew | apply below_drewN | refine Below.alloc ?_ (by simp) _)))).mono ?_
        rintro e w3 ⟨rfl, hb⟩
        have hB : Below w2.heap.size w2 w3 := Below.trans (by repeat (first | exact Below.refl _ _ | apply Below.drew | apply below_drewN | refine Below.alloc ?_ (by simp) _)) (hb.mono (by first | (simp; done) | (simp; omega)))
        clear hb
        clear B0l B0u B0v
        clear B1l B1u B1v
        replace B0 := B0.keep hB
        replace B1 := B1.keep hB
        replace Xa := Xa.keep hB
        replace Xb := Xb.keep hB
        replace hw := hw.trans (hB.mono hw.size)
        clear hB
        have B0l := B0.1
        have B0u := B0.2.1
        have B0v := B0.2.2
        have B1l := B1.1
        have B1u := B1.2.1
        have B1v := B1.2.2
        go_wp2_with fail
        refine (check_c _ _ _ _ _ (Xb.keep (by repeat (first | exact Below.refl _ _ | apply Below.drew | apply below_drewN | refine Below.alloc ?_ (by simp) _)))).mono ?_
        rintro e w4 ⟨rfl, hb⟩
        have hB : Below w3.heap.size w3 w4 := Below.trans (by repeat (first | exact Below.refl _ _ | apply Below.drew | apply below_drewN | refine Below.alloc ?_ (by simp) _)) (hb.mono (by first | (simp; done) | (simp; omega)))
        clear hb
        clear B0l B0u B0v
        clear B1l B1u B1v
        replace B0 := B0.keep hB
        replace B1 := B1.keep hB
        replace Xa := Xa.keep hB
        replace Xb := Xb.keep hB
        replace hw := hw.trans (hB.mono hw.size)
        clear hB
        have B0l := B0.1
        have B0u := B0.2.1
        have B0v := B0.2.2
        have B1l := B1.1
        have B1u := B1.2.1
        have B1v := B1.2.2
        go_wp2_with fail
        refine (join_c _ _ _ _ _ _ _ _ _ (Xa.keep (by repeat (first | exact Below.refl _ _ | apply Below.drew | apply below_drewN | refine Below.alloc ?_ (by simp) _))) (Xb.keep (by repeat (first | exact Below.refl _ _ | apply Below.drew | apply below_drewN | refine Below.alloc ?_ (by simp) _))) Fa Fb (by omega)).mono ?_
        rintro e w5 ⟨lo, lc, rfl, XL, FL, CL, hb⟩
        have hB : Below w4.heap.size w4 w5 := Below.trans (by repeat (first | exact Below.refl _ _ | apply Below.drew | apply below_drewN | refine Below.alloc ?_ (by simp) _)) (hb.mono (by first | (simp; done) | (simp; omega)))
        clear hb
        clear B0l B0u B0v
        clear B1l B1u B1v
        replace B0 := B0.keep hB
        replace B1 := B1.keep hB
        replace Xa := Xa.keep hB
        replace Xb := Xb.keep hB
        replace hw := hw.trans (hB.mono hw.size)
        clear hB
        have B0l := B0.1
        have B0u := B0.2.1
        have B0v := B0.2.2
        have B1l := B1.1
        have B1u := B1.2.1
        have B1v := B1.2.2
        go_wp2_with fail
        refine (get_c _ _ _ _ _ _ (XL.keep (by repeat (first | exact Below.refl _ _ | apply Below.drew | apply below_drewN | refine Below.alloc ?_ (by simp) _))) FL).mono ?_
        rintro e w6 ⟨rfl, hb⟩
        have BL := Box.new hb
        have hB : Below w5.heap.size w5 w6 := Below.trans (by repeat (first | exact Below.refl _ _ | apply Below.drew | apply below_drewN | refine Below.alloc ?_ (by simp) _)) (hb.mono (by first | (simp; done) | (simp; omega)))
        clear hb
        clear B0l B0u B0v
        clear B1l B1u B1v
        replace B0 := B0.keep hB
        replace B1 := B1.keep hB
        replace Xa := Xa.keep hB
        replace Xb := Xb.keep hB
        replace XL := XL.keep hB
        replace hw := hw.trans (hB.mono hw.size)
        clear hB
        have B0l := B0.1
        have B0u := B0.2.1
        have B0v := B0.2.2
        have B1l := B1.1
        have B1u := B1.2.1
        have B1v := B1.2.2
        have BLl := BL.1
        have BLu := BL.2.1
        have BLv := BL.2.2
        go_wp2_with fail
        refine (get_c _ _ _ _ _ _ (Xa.keep (by repeat (first | exact Below.refl _ _ | apply Below.drew | apply below_drewN | refine Below.alloc ?_ (by simp) _))) Fa).mono ?_
        rintro e w7 ⟨rfl, hb⟩
        have hB : Below w6.heap.size w6 w7 := Below.trans (by repeat (first | exact Below.refl _ _ | apply Below.drew | apply below_drewN | refine Below.alloc ?_ (by simp) _)) (hb.mono (by first | (simp; done) | (simp; omega)))
        clear hb
        clear B0l B0u B0v
        clear B1l B1u B1v
        clear BLl BLu BLv
        replace B0 := B0.keep hB
        replace B1 := B1.keep hB
        replace BL := BL.keep hB
        replace Xa := Xa.keep hB
        replace Xb := Xb.keep hB
        replace XL := XL.keep hB
        replace hw := hw.trans (hB.mono hw.size)
        clear hB
        have B0l := B0.1
        have B0u := B0.2.1
        have B0v := B0.2.2
        have B1l := B1.1
        have B1u := B1.2.1
        have B1v := B1.2.2
        have BLl := BL.1
        have BLu := BL.2.1
        have BLv := BL.2.2
        go_wp2_with fail
        refine (get_c _ _ _ _ _ _ (Xb.keep (by repeat (first | exact Below.refl _ _ | apply Below.drew | apply below_drewN | refine Below.alloc ?_ (by simp) _))) Fb).mono ?_
        rintro e w8 ⟨rfl, hb⟩
        have hB : Below w7.heap.size w7 w8 := Below.trans (by repeat (first | exact Below.refl _ _ | apply Below.drew | apply below_drewN | refine Below.alloc ?_ (by simp) _)) (hb.mono (by first | (simp; done) | (simp; omega)))
        clear hb
        clear B0l B0u B0v
        clear B1l B1u B1v
        clear BLl BLu BLv
        replace B0 := B0.keep hB
        replace B1 := B1.keep hB
        replace BL := BL.keep hB
        replace Xa := Xa.keep hB
        replace Xb := Xb.keep hB
        replace XL := XL.keep hB
        replace hw := hw.trans (hB.mono hw.size)
        clear hB
        have B0l := B0.1
        have B0u := B0.2.1
        have B0v := B0.2.2
        have B1l := B1.1
        have B1u := B1.2.1
        have B1v := B1.2.2
        have BLl := BL.1
        have BLu := BL.2.1
        have BLv := BL.2.2
        have hadd : IntKind.i64.wrap ((d1 : Int) + (d2 : Int)) = (d1 : Int) + (d2 : Int) := wraps_i64 _ (by omega) (by omega)
        have hadd2 : IntKind.i64.wrap (Na + Nb) = Na + Nb := wraps_i64 _ (by omega) (by omega)
        go_wp2_with fail
        go_region_held3 (fun w' => w'.cell? ⟨w.heap.size, 0, none⟩ = some (.int .i64 Na) ∧ w'.cell? ⟨w.heap.size, 1, none⟩ = some (.slice aa xa.length ca) ∧ w'.cell? ⟨w.heap.size + 1, 0, none⟩ = some (.int .i64 Nb) ∧ w'.cell? ⟨w.heap.size + 1, 1, none⟩ = some (.slice ab xb.length cb) ∧ w'.cell? ⟨w5.heap.size, 0, none⟩ = some (.int .i64 (Na + Nb)) ∧ w'.cell? ⟨w5.heap.size, 1, none⟩ = some (.slice lo (joinL Na xa Nb xb).length lc)) (first | go_keep | (refine ⟨?_, ?_, ?_, ?_, ?_, ?_⟩ <;> assumption))
          (first | (go_at_call 9; refine (bones_c _ _ _ _ _ _ ?_ ?_ ?_).mono ?_; (first | with_reducible exact (XL.keep (by repeat (first | exact Below.refl _ _ | apply Below.drew | apply below_drewN | refine Below.alloc ?_ (by simp) _))) | with_reducible exact (Xa.keep (by repeat (first | exact Below.refl _ _ | apply Below.drew | apply below_drewN | refine Below.alloc ?_ (by simp) _))) | with_reducible exact (Xb.keep (by repeat (first | exact Below.refl _ _ | apply Below.drew | apply below_drewN | refine Below.alloc ?_ (by simp) _)))); (first | with_reducible exact FL | with_reducible exact Fa | with_reducible exact Fb); (first | with_reducible exact CL | with_reducible exact Ca | with_reducible exact Cb); rintro e wz ⟨rfl, hb⟩; replace B0 := (B0.keep (by repeat (first | exact Below.refl _ _ | apply Below.drew | apply below_drewN | refine Below.alloc ?_ (by simp) _))).keep hb; replace B1 := (B1.keep (by repeat (first | exact Below.refl _ _ | apply Below.drew | apply below_drewN | refine Below.alloc ?_ (by simp) _))).keep hb; replace BL := (BL.keep (by repeat (first | exact Below.refl _ _ | apply Below.drew | apply below_drewN | refine Below.alloc ?_ (by simp) _))).keep hb; replace Xa := (Xa.keep (by repeat (first | exact Below.refl _ _ | apply Below.drew | apply below_drewN | refine Below.alloc ?_ (by simp) _))).keep hb; replace Xb := (Xb.keep (by repeat (first | exact Below.refl _ _ | apply Below.drew | apply below_drewN | refine Below.alloc ?_ (by simp) _))).keep hb; replace XL := (XL.keep (by repeat (first | exact Below.refl _ _ | apply Below.drew | apply below_drewN | refine Below.alloc ?_ (by simp) _))).keep hb; replace hw := hw.trans (Below.trans (by repeat (first | exact Below.refl _ _ | apply Below.drew | apply below_drewN | refine Below.alloc ?_ (by simp) _)) (hb.mono hw.size)); clear hb; replace B0l := B0.1; replace B0u := B0.2.1; replace B0v := B0.2.2; replace B1l := B1.1; replace B1u := B1.2.1; replace B1v := B1.2.2; replace BLl := BL.1; replace BLu := BL.2.1; replace BLv := BL.2.2) | (go_at_call 6; refine (heads_c _).mono ?_; rintro e wz ⟨rfl, hb⟩; replace B0 := (B0.keep (by repeat (first | exact Below.refl _ _ | apply Below.drew | apply below_drewN | refine Below.alloc ?_ (by simp) _))).keep hb; replace B1 := (B1.keep (by repeat (first | exact Below.refl _ _ | apply Below.drew | apply below_drewN | refine Below.alloc ?_ (by simp) _))).keep hb; replace BL := (BL.keep (by repeat (first | exact Below.refl _ _ | apply Below.drew | apply below_drewN | refine Below.alloc ?_ (by simp) _))).keep hb; replace Xa := (Xa.keep (by repeat (first | exact Below.refl _ _ | apply Below.drew | apply below_drewN | refine Below.alloc ?_ (by simp) _))).keep hb; replace Xb := (Xb.keep (by repeat (first | exact Below.refl _ _ | apply Below.drew | apply below_drewN | refine Below.alloc ?_ (by simp) _))).keep hb; replace XL := (XL.keep (by repeat (first | exact Below.refl _ _ | apply Below.drew | apply below_drewN | refine Below.alloc ?_ (by simp) _))).keep hb; replace hw := hw.trans (Below.trans (by repeat (first | exact Below.refl _ _ | apply Below.drew | apply below_drewN | refine Below.alloc ?_ (by simp) _)) (hb.mono hw.size)); clear hb; replace B0l := B0.1; replace B0u := B0.2.1; replace B0v := B0.2.2; replace B1l := B1.1; replace B1u := B1.2.1; replace B1v := B1.2.2; replace BLl := BL.1; replace BLu := BL.2.1; replace BLv := BL.2.2))
        go_wp2
        go_ret
        exact ⟨rfl, hw⟩

set_option maxRecDepth 100000 in
theorem lifted (os : Os) (started : os.Started) (H : Type) (enc : TypeId × Value → H) :
    ReturnsInHanded {} Try.checked os 3 .any (Rows.bitsJoinsSpec.pre6 enc Try.prog Try.f3 Rows.bitsJoinsRow.domain false) (Rows.bitsJoinsSpec.post enc Try.prog Try.f3 false true false false) := by
  refine returnsInHanded_of_change (C := Try.checked) own started (by kernel_rfl) Try.func3
    (ChangeSpec.witness6 (enc := enc) (C := Try.checked) false ⟨#[], #[.agg #[.int .i64 0, .slice none 0 0], .agg #[.int .i64 0, .slice none 0 0], .int .i64 0], []⟩ 8 (by kernel_rfl) (by kernel_rfl) (by kernel_rfl) (by kernel_rfl)) ?_
  intro W base args ds gs before hval0 hW hcnd _
  have hval : ∀ (j : Nat) t v, Try.f3.params[j]? = some t → args[j]? = some v → Value.okWide Try.prog W .any base t v := hval0
  have hW' := hW
  obtain ⟨p, q, hA0, hV, rfl, hfz, hnd⟩ := hW
  have hA : DataW.TrodAll enc Try.prog W 0 (fun _ => true) true Try.f3.params.toList args.toList ds p := hA0
  rw [Try.params3] at hA hval
  obtain ⟨v0, vs0, d0, ds0, p0, q0, hargs, rfl, rfl, h0, r0⟩ := trodAll_cons hA
  obtain ⟨v1, vs1, d1, ds1, p1, q1, rfl, rfl, rfl, h1, r1⟩ := trodAll_cons r0
  obtain ⟨v2, vs2, d2, ds2, p2, q2, rfl, rfl, rfl, h2, r2⟩ := trodAll_cons r1
  obtain ⟨rfl, rfl, rfl⟩ := trodAll_nil r2
  obtain rfl : args = #[v0, v1, v2] := by cases args; simp_all
  obtain ⟨rfl, rfl⟩ := trodVars_none hV
  have k0 := h0
  have lt0 : ∀ x ∈ p0, x.block < W.heap.size := by obtain ⟨m, hm⟩ := k0; exact DataW.trod_lt m _ _ _ hm
  obtain ⟨Na, aa, xa, ca, rfl, ba1, ba2, ba3, ba4⟩ := open_bits (hval 0 24 v0 rfl rfl) h0
  have k1 := h1
  have lt1 : ∀ x ∈ p1, x.block < W.heap.size := by obtain ⟨m, hm⟩ := k1; exact DataW.trod_lt m _ _ _ hm
  obtain ⟨Nb, ab, xb, cb, rfl, bb1, bb2, bb3, bb4⟩ := open_bits (hval 1 24 v1 rfl rfl) h1
  obtain ⟨i, rfl, rfl, rfl, w2⟩ := open_int Try.underlying3 (hval 2 3 v2 rfl rfl) h2
  clear hA0 hval0
  refine (walk W Na aa xa ca ba1 ba2 ba3 ba4 Nb ab xb cb bb1 bb2 bb3 bb4 i (i64_wf _ w2)).mono fun e W' ⟨he, bel⟩ => ?_
  subst he
  exact ⟨_, rfl, _, _, _, [], _, [], hW', trodAll_mk1 (shut_bool Try.underlying4 _), (trodAll_cons_mk (Below.trod laidOut (by kernel_rfl) (of_decide_eq_true (by kernel_rfl)) k0 bel lt0) (trodAll_cons_mk (Below.trod laidOut (by kernel_rfl) (of_decide_eq_true (by kernel_rfl)) k1 bel lt1) (trodAll_cons_mk (shut_int Try.underlying3 w2) trodAll_mk0))), rfl, bel.frame _, fun h => by cases h⟩

theorem over : Rows.bitsJoinsRow.holds Try.pinned (OpenSpec.ofChange Rows.bitsJoinsSpec) :=
  OpenClaim.holds_of_wide 3 Try.f3 rfl rfl rfl rfl rfl rfl rfl ⟨rfl, rfl, rfl, rfl, rfl⟩ rfl rfl rfl rfl rfl (by kernel_rfl) Try.func3 (by kernel_rfl)
    (of_decide_eq_true (by kernel_rfl)) (by unfold Func.isWrapper; first | (rw [if_pos (by decide +kernel)]; kernel_rfl) | (rw [if_neg (by decide +kernel)]; exact ⟨rfl, rfl⟩))
    (fun os started H enc _ => lifted os started H enc)

theorem proved : Rows.BitsJoinsSaid := over
end Go.Proofs.Ytpgbbfekjcfbpab.bitsJoins
namespace Go.Proofs.Ytpgbbfekjcfbpab
theorem bitsJoins_holds : Rows.BitsJoinsSaid := bitsJoins.proved
#print axioms bitsJoins_holds
end Go.Proofs.Ytpgbbfekjcfbpab
