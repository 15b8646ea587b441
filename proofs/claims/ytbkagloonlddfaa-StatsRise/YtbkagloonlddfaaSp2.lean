/-
  The contract of the program's Log.
-/
import Derived.Test.YtbkagloonlddfaaSt2
namespace Go.Proofs.Ytbkagloonlddfaa
open Go.RowKit Num
set_option linter.unusedVariables false
set_option linter.unusedSimpArgs false
set_option maxRecDepth 100000

set_option maxHeartbeats 4000000 in
theorem slog_c (x : Int) (hx : -9223372036854775808 ≤ x ∧ x ≤ 9223372036854775807) (w : World) :
    Calls Try.prog 14 #[.int .i64 x] w fun e w' => e = .returned (.int .i64 (lgI x : Nat)) ∧ Below w.heap.size w w' := by
  by_cases h1 : x < 1
  · have R : Hid (lgI x = 0) := by show _ = _; unfold lgI; rw [if_neg (by omega)]
    go_enter Try.func14, Try.ntmps14
    go_wp2
    go_ret
    rw [R.out]
    exact ⟨rfl, Below.refl _ _⟩
  by_cases h2 : 1073741824 < x
  · have R : Hid (lgI x = 0) := by show _ = _; unfold lgI; rw [if_neg (by omega)]
    go_enter Try.func14, Try.ntmps14
    go_wp2
    go_ret
    rw [R.out]
    exact ⟨rfl, Below.refl _ _⟩
  obtain ⟨x, rfl⟩ := Int.eq_ofNat_of_zero_le (show 0 ≤ x by omega)
  have R : Hid (lgI (x : Int) = (Lg.run 16 (x * 2 ^ (31 - Lg.ln x), Lg.ln x)).2) := by
    show _ = _
    unfold lgI
    rw [if_pos (by omega), Int.toNat_natCast]
    rfl
  have hs := Lg.start_in (x := x) (by omega) (by omega)
  have hln : Lg.ln x ≤ 30 := by
    have := Lg.ln_le (x := x) (y := 1073741824) (by omega) (by omega)
    have e : Lg.ln 1073741824 = 30 := by decide
    omega
  have LL : Hid (∀ w0, Calls Try.prog 25 #[.int .u64 (x : Int)] w0 fun e w' => e = .returned (.int .i64 ((Lg.ln x : Int) + 1)) ∧ w' = w0) := fun w0 => by
    have := len_c (x : Int) (by omega) (by omega) w0
    rw [len_ln (by omega)] at this
    exact this
  obtain ⟨n, hn⟩ : ∃ n, Hid (n = Lg.ln x) := ⟨_, rfl⟩
  rw [← hn.out] at R hs hln LL
  obtain ⟨P, hP⟩ : ∃ P : Nat, Hid ((2 : Nat) ^ (31 - n) = P) := ⟨_, rfl⟩
  rw [hP.out] at R hs
  have ez : (x : Int) * (P : Int) = ((x * P : Nat) : Int) := by rw [Int.natCast_mul]
  have eP : ((2 : Int) ^ (31 - n)) = (P : Int) := by rw [← hP.out, Int.natCast_pow]; rfl
  obtain ⟨hs1, hs2⟩ := hs
  obtain ⟨m0, hm0⟩ : ∃ m0, Hid (m0 = x * P) := ⟨_, rfl⟩
  rw [← hm0.out] at R hs1 hs2 ez
  obtain ⟨F, hF⟩ : ∃ F, Hid (Lg.run 16 (m0, n) = F) := ⟨_, rfl⟩
  rw [hF.out] at R
  have h2z : ¬ (1073741824 : Int) < (x : Int) := by omega
  have h1z : ¬ (x : Int) < 1 := by omega
  clear hm0 hP
  go_enter Try.func14, Try.ntmps14
  go_wp2_with fail
  refine (LL.out _).mono ?_
  rintro e w1 ⟨rfl, h1⟩
  rw [h1]
  clear h1 w1 LL
  go_wp2
  go_loopw [3, 4, 20] (fun v5 v4 v6 wr => ∃ q m o : Nat, q ≤ 16 ∧ v4 = .int .u64 m ∧ v5 = .int .i64 o ∧ v6 = .int .i64 q ∧ 2147483648 ≤ m ∧ m < 4294967296 ∧ o ≤ 2097151 ∧ Hid (o + 1 ≤ 31 * 2 ^ q) ∧ Hid (Lg.run (16 - q) (m, o) = F) ∧ wr = w) (fun _ _ v6 _ => 16 - (intOf v6).toNat)
  case atStart => exact ⟨0, m0, n, Nat.zero_le _, rfl, rfl, rfl, hs1, hs2, by omega, by show n + 1 ≤ 31 * 2 ^ 0; omega, hF, rfl⟩
  case round =>
    obtain ⟨q, m, o, hq, rfl, rfl, rfl, hm1, hm2, ho, HO, HR, rfl⟩ := hrel
    by_cases hlt : q < 16
    · have hltz : (q : Int) < 16 := by omega
      have z1 : 2147483648 * 2147483648 ≤ m * m := Nat.mul_le_mul hm1 hm1
      have z2 : m * m ≤ 4294967295 * 4294967295 := Nat.mul_le_mul (by omega) (by omega)
      have ezz : (m : Int) * (m : Int) = ((m * m : Nat) : Int) := by rw [Int.natCast_mul]
      have HO1 : Hid (2 * o + 1 + 1 ≤ 31 * 2 ^ (q + 1)) := by
        have := HO.out
        show _ ≤ _
        rw [Nat.pow_succ]
        omega
      have hb : 2 * o + 1 ≤ 2097151 := by
        have h1 := HO1.out
        have h2 : 2 ^ (q + 1) ≤ 2 ^ 16 := Nat.pow_le_pow_right (by decide) (by omega)
        have h3 : (2 : Nat) ^ 16 = 65536 := by decide
        omega
      have HS : Hid (Lg.run (16 - (q + 1)) (Lg.step (m, o)) = F) := by
        rw [← HR.out, show 16 - q = (16 - (q + 1)) + 1 by omega]
        rfl
      have ES : Lg.step (m, o) = if 4294967296 ≤ m * m / 2147483648 then (m * m / 2147483648 / 2, 2 * o + 1) else (m * m / 2147483648, 2 * o) := rfl
      rw [ES] at HS
      clear HR ES
      generalize m * m = z at *
      by_cases hge : 4294967296 ≤ z / 2147483648
      · have hgz : (4294967296 : Int) ≤ (z : Int) / 2147483648 := by omega
        rw [if_pos hge] at HS
        have y1 : 2147483648 ≤ z / 2147483648 / 2 ∧ z / 2147483648 / 2 < 4294967296 := by omega
        have HY := hide y1
        clear y1 hge
        go_wp2
        exact ⟨⟨q + 1, z / 2147483648 / 2, 2 * o + 1, by omega, by go_num, by go_num, by go_num, HY.out.1, HY.out.2, hb, HO1, HS, trivial⟩, by simp only [intOf]; omega⟩
      · have hgz : ¬ (4294967296 : Int) ≤ (z : Int) / 2147483648 := by omega
        rw [if_neg hge] at HS
        have y1 : 2147483648 ≤ z / 2147483648 ∧ z / 2147483648 < 4294967296 := by omega
        have HY := hide y1
        clear y1 hge
        go_wp2
        exact ⟨⟨q + 1, z / 2147483648, 2 * o, by omega, by go_num, by go_num, by go_num, HY.out.1, HY.out.2, by omega, by have := HO1.out; show _ ≤ _; omega, HS, trivial⟩, by simp only [intOf]; omega⟩
    · obtain rfl : q = 16 := by omega
      have RO : Hid (lgI (x : Int) = o) := by
        have h : Lg.run 0 (m, o) = F := HR.out
        rw [run_zero] at h
        exact R.out.trans (congrArg Prod.snd h.symm)
      clear HR R
      go_wp2
      go_ret
      rw [RO.out]
      exact ⟨rfl, Below.refl _ _⟩
end Go.Proofs.Ytbkagloonlddfaa
