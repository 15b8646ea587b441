/-
  StatsRise: logarithms rise, are whole of powers of two, and doubles add just one.
-/
import Derived.Test.YtbkagloonlddfaaSt5
import Derived.ChangeOld
import Derived.Deep.DeepCutAuto
namespace Go.Proofs.Ytbkagloonlddfaa.statsRise
open Go.ChangeShapes Go.WideShapes Go.ChangeAt Go.RowKit
set_option linter.unusedVariables false
set_option linter.unusedSimpArgs false
set_option maxRecDepth 100000

theorem i64_and_nat (a b : Nat) (ha : a < 9223372036854775808) (hb : b < 9223372036854775808) : bits .and .i64 (a : Int) (b : Int) = ((a &&& b : Nat) : Int) := by
  have hx : a &&& b < 2 ^ 63 := Nat.and_lt_two_pow _ (by omega)
  show IntKind.i64.wrap ((BitVec.ofInt 64 (a : Int) &&& BitVec.ofInt 64 (b : Int)).toNat : Int) = _
  rw [BitVec.toNat_and, ofInt_u64 a (by omega), ofInt_u64 b (by omega), IntKind.wrap_i64]
  omega
/-- A number that has no bit in common with the one ahead is a power of two. -/
theorem and_pow : ∀ (n x : Nat), x ≤ n → x ≠ 0 → x &&& (x - 1) = 0 → ∃ e, x = 2 ^ e
  | 0, x, h, h0, _ => absurd h (by omega)
  | n + 1, x, h, h0, ha => by
    by_cases hx : x = 1
    · exact ⟨0, hx⟩
    · by_cases ho : x % 2 = 1
      · exfalso
        have h1 : (x &&& (x - 1)) / 2 = 0 := by rw [ha]
        rw [Nat.and_div_two, show (x - 1) / 2 = x / 2 by omega, Nat.and_self] at h1
        omega
      · have h1 : (x &&& (x - 1)) / 2 = 0 := by rw [ha]
        rw [Nat.and_div_two, show (x - 1) / 2 = x / 2 - 1 by omega] at h1
        obtain ⟨e, he⟩ := and_pow n (x / 2) (by omega) (by omega) h1
        exact ⟨e + 1, by rw [Nat.pow_succ, ← he]; omega⟩
theorem lg_whole {x : Nat} (h0 : x ≠ 0) (h : x ≤ 1073741824) (ha : x &&& (x - 1) = 0) : Lg.lg x % 65536 = 0 := by
  obtain ⟨e, rfl⟩ := and_pow x x (Nat.le_refl _) h0 ha
  have he : e ≤ 30 := by
    by_cases c : e ≤ 30
    · exact c
    · have := Nat.pow_le_pow_right (n := 2) (by decide) (show 31 ≤ e by omega)
      have : (2 : Nat) ^ 31 = 2147483648 := by decide
      omega
  rw [Lg.lg_pow (by omega)]
  omega
theorem lg_30 {x : Nat} (hx : x ≠ 0) (h : x ≤ 1073741824) : Lg.lg x ≤ 1966080 := by
  have h1 := Lg.lg_le hx h
  have h2 : Lg.lg (2 ^ 30) = 65536 * 30 := Lg.lg_pow (by decide)
  have h3 : (2 : Nat) ^ 30 = 1073741824 := by decide
  rw [h3] at h2
  omega

set_option maxHeartbeats 8000000 in
theorem walk (w : World) (x : Int) (hx_ : -9223372036854775808 ≤ x ∧ x ≤ 9223372036854775807) (y : Int) (hy_ : -9223372036854775808 ≤ y ∧ y ≤ 9223372036854775807) :
    Calls Try.prog 5 #[.int .i64 x, .int .i64 y] w fun e w' => e = .returned (.bool true) ∧ Below w.heap.size w w' := by
  have HB := hide (Below.refl w.heap.size w)
  by_cases h1 : x < 1
  · go_enter Try.func5, Try.ntmps5
    go_wp2_with fail
    refine (heads19_c _).mono ?_
    rintro e w9 ⟨rfl, hb⟩
    go_wp2
    go_ret
    exact ⟨rfl, hb⟩
  by_cases h2 : y < x
  · go_enter Try.func5, Try.ntmps5
    go_wp2_with fail
    refine (heads19_c _).mono ?_
    rintro e w9 ⟨rfl, hb⟩
    go_wp2
    go_ret
    exact ⟨rfl, hb⟩
  by_cases h3 : 536870912 < y
  · go_enter Try.func5, Try.ntmps5
    go_wp2_with fail
    refine (heads19_c _).mono ?_
    rintro e w9 ⟨rfl, hb⟩
    go_wp2
    go_ret
    exact ⟨rfl, hb⟩
  obtain ⟨x, rfl⟩ := Int.eq_ofNat_of_zero_le (show 0 ≤ x by omega)
  obtain ⟨y, rfl⟩ := Int.eq_ofNat_of_zero_le (show 0 ≤ y by omega)
  have lxb := lg_30 (x := x) (by omega) (by omega)
  have lyb := lg_30 (x := y) (by omega) (by omega)
  have lle := Lg.lg_le (x := x) (y := y) (by omega) (by omega)
  have ltw := Lg.lg_two (x := x) (by omega) (by omega)
  have L1 : Hid (∀ w0, Calls Try.prog 14 #[.int .i64 (x : Int)] w0 fun e w' => e = .returned (.int .i64 (Lg.lg x : Nat)) ∧ Below w0.heap.size w0 w') := fun w0 => by
    have := slog_c (x : Int) (by omega) w0
    rw [lgI_in (by omega) (by omega)] at this
    exact this
  have L2 : Hid (∀ w0, Calls Try.prog 14 #[.int .i64 (y : Int)] w0 fun e w' => e = .returned (.int .i64 (Lg.lg y : Nat)) ∧ Below w0.heap.size w0 w') := fun w0 => by
    have := slog_c (y : Int) (by omega) w0
    rw [lgI_in (by omega) (by omega)] at this
    exact this
  have L3 : Hid (∀ w0, Calls Try.prog 14 #[.int .i64 (2 * (x : Int))] w0 fun e w' => e = .returned (.int .i64 ((Lg.lg x : Nat) + 65536 : Int)) ∧ Below w0.heap.size w0 w') := fun w0 => by
    have := slog_c ((2 * x : Nat) : Int) (by omega) w0
    rw [lgI_in (by omega) (by omega), ltw] at this
    exact this
  have AX : bits .and .i64 (x : Int) ((x : Int) - 1) = ((x &&& (x - 1) : Nat) : Int) := by
    rw [show (x : Int) - 1 = ((x - 1 : Nat) : Int) by omega]
    exact i64_and_nat x (x - 1) (by omega) (by omega)
  have WH := hide (lg_whole (x := x) (by omega) (by omega))
  have llz : (Lg.lg x : Int) ≤ (Lg.lg y : Int) := by omega
  have h1z : (1 : Int) ≤ (x : Int) := by omega
  have h2z : (x : Int) ≤ (y : Int) := by omega
  have h3z : (y : Int) ≤ 536870912 := by omega
  have xb : x ≤ 536870912 := by omega
  clear h1 h2 h3 lle ltw
  generalize Lg.lg x = a at *
  generalize Lg.lg y = b at *
  generalize x &&& (x - 1) = z at *
  go_enter Try.func5, Try.ntmps5
  go_wp2_with fail
  refine (L1.out _).mono ?_
  rintro e w1 ⟨rfl, hb⟩
  replace HB := hide (HB.out.trans (hb.mono HB.out.size))
  clear hb
  go_wp2_with fail
  refine (L2.out _).mono ?_
  rintro e w1 ⟨rfl, hb⟩
  replace HB := hide (HB.out.trans (hb.mono HB.out.size))
  clear hb
  go_wp2_with fail
  refine (L3.out _).mono ?_
  rintro e w1 ⟨rfl, hb⟩
  replace HB := hide (HB.out.trans (hb.mono HB.out.size))
  clear hb
  by_cases hz0 : z = 0
  · subst hz0
    have wz := WH.out rfl
    have wzz : (a : Int) % 65536 = 0 := by omega
    have hd : ((((0 : Nat) : Int)) != 0) = false := rfl
    clear WH wz
    go_wp2_with fail
    refine (heads19_c _).mono ?_
    rintro e w1 ⟨rfl, hb⟩
    replace HB := hide (HB.out.trans (hb.mono HB.out.size))
    clear hb
    go_wp2
    go_ret
    exact ⟨rfl, HB.out⟩

  · have hd : ((z : Int) != 0) = true := by simp; omega
    clear WH
    go_wp2_with fail
    refine (heads19_c _).mono ?_
    rintro e w1 ⟨rfl, hb⟩
    replace HB := hide (HB.out.trans (hb.mono HB.out.size))
    clear hb
    go_wp2
    go_ret
    exact ⟨rfl, HB.out⟩

theorem lifted (os : Os) (started : os.Started) (H : Type) (enc : TypeId × Value → H) :
    ReturnsInHanded {} Try.checked os 5 .any (Rows.statsRiseSpec.pre6 enc Try.prog Try.f5 Rows.statsRiseRow.domain false) (Rows.statsRiseSpec.post enc Try.prog Try.f5 false true false false) := by
  refine returnsInHanded_of_change (C := Try.checked) own started (by kernel_rfl) Try.func5
    (ChangeSpec.witness6 (enc := enc) (C := Try.checked) false ⟨#[], #[.int .i64 0, .int .i64 0], []⟩ 8 (by kernel_rfl) (by kernel_rfl) (by kernel_rfl) (by kernel_rfl)) ?_
  intro W base args ds gs before hval0 hW hcnd _
  have hval : ∀ (j : Nat) t v, Try.f5.params[j]? = some t → args[j]? = some v → Value.okWide Try.prog W .any base t v := hval0
  have hW' := hW
  obtain ⟨p, q, hA0, hV, rfl, hfz, hnd⟩ := hW
  have hA : DataW.TrodAll enc Try.prog W 0 (fun _ => true) true Try.f5.params.toList args.toList ds p := hA0
  rw [Try.params5] at hA hval
  obtain ⟨v0, vs0, d0, ds0, p0, q0, hargs, rfl, rfl, h0, r0⟩ := trodAll_cons hA
  obtain ⟨v1, vs1, d1, ds1, p1, q1, rfl, rfl, rfl, h1, r1⟩ := trodAll_cons r0
  obtain ⟨rfl, rfl, rfl⟩ := trodAll_nil r1
  obtain rfl : args = #[v0, v1] := by cases args; simp_all
  obtain ⟨rfl, rfl⟩ := trodVars_none hV
  obtain ⟨x, rfl, rfl, rfl, w0⟩ := open_int Try.underlying3 (hval 0 3 v0 rfl rfl) h0
  obtain ⟨y, rfl, rfl, rfl, w1⟩ := open_int Try.underlying3 (hval 1 3 v1 rfl rfl) h1
  clear hA0 hval0
  refine (walk W x (i64_wf _ w0) y (i64_wf _ w1)).mono fun e W' ⟨he, bel⟩ => ?_
  subst he
  exact ⟨_, rfl, _, _, _, [], _, [], hW', trodAll_mk1 (shut_bool Try.underlying4 _), (trodAll_cons_mk (shut_int Try.underlying3 w0) (trodAll_cons_mk (shut_int Try.underlying3 w1) trodAll_mk0)), rfl, bel.frame _, fun h => by cases h⟩

theorem over : Rows.statsRiseRow.holds Try.pinned (OpenSpec.ofChange Rows.statsRiseSpec) :=
  OpenClaim.holds_of_wide 5 Try.f5 rfl rfl rfl rfl rfl rfl rfl ⟨rfl, rfl, rfl, rfl, rfl⟩ rfl rfl rfl rfl rfl (by kernel_rfl) Try.func5 (by kernel_rfl)
    (of_decide_eq_true (by kernel_rfl)) (by unfold Func.isWrapper; first | (rw [if_pos (by decide +kernel)]; kernel_rfl) | (rw [if_neg (by decide +kernel)]; exact ⟨rfl, rfl⟩))
    (fun os started H enc _ => lifted os started H enc)

theorem proved : Rows.StatsRiseSaid := over
end Go.Proofs.Ytbkagloonlddfaa.statsRise
namespace Go.Proofs.Ytbkagloonlddfaa
theorem statsRise_holds : Rows.StatsRiseSaid := statsRise.proved
#print axioms statsRise_holds
end Go.Proofs.Ytbkagloonlddfaa
