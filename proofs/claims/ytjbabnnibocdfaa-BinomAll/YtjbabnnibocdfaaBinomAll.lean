/-
  BinomAll: ways of all numbers of things together are a power of two; widths are as they must.
-/
import Derived.Test.YtjbabnnibocdfaaBh
import Derived.Test.YtjbabnnibocdfaaBh
import Derived.ChangeOld
namespace Go.Proofs.Ytjbabnnibocdfaa.binomAll
open Go.ChangeShapes Go.WideShapes Go.ChangeAt Go.RowKit Num Bn Ow
set_option linter.unusedVariables false
set_option linter.unusedSimpArgs false
set_option maxRecDepth 100000


set_option maxHeartbeats 4000000 in
theorem walk (w : World) (n : Int) (hn : -9223372036854775808 ≤ n ∧ n ≤ 9223372036854775807) :
    Calls Try.prog 3 #[.int .i64 n] w fun e w' => e = .returned (.bool true) ∧ Below w.heap.size w w' := by
  by_cases q1 : n < 0
  · have G1 : Hid (∀ w0, Calls Try.prog 9 #[.int .i64 n, .int .i64 0] w0 fun e w' => e = .returned (.int .u64 0) ∧ Below w0.heap.size w0 w') := fun w0 => by
      have := choose_c n 0 hn (by decide) w0
      unfold chN at this
      rw [if_pos (by omega)] at this
      exact this
    go_enter Try.func3, Try.ntmps3
    go_wp2_with fail
    refine (G1.out _).mono ?_
    rintro e w1 ⟨rfl, hb⟩
    have hw : Below w.heap.size w w1 := hb
    clear hb
    go_wp2_with fail
    refine (heads_c _).mono ?_
    rintro e w2 ⟨rfl, hb⟩
    replace hw := hw.trans (hb.mono hw.size)
    clear hb
    go_wp2
    go_ret
    exact ⟨rfl, hw⟩
  by_cases q2 : 62 < n
  · have G1 : Hid (∀ w0, Calls Try.prog 9 #[.int .i64 n, .int .i64 0] w0 fun e w' => e = .returned (.int .u64 0) ∧ Below w0.heap.size w0 w') := fun w0 => by
      have := choose_c n 0 hn (by decide) w0
      unfold chN at this
      rw [if_pos (by omega)] at this
      exact this
    go_enter Try.func3, Try.ntmps3
    go_wp2_with fail
    refine (G1.out _).mono ?_
    rintro e w1 ⟨rfl, hb⟩
    have hw : Below w.heap.size w w1 := hb
    clear hb
    go_wp2_with fail
    refine (heads_c _).mono ?_
    rintro e w2 ⟨rfl, hb⟩
    replace hw := hw.trans (hb.mono hw.size)
    clear hb
    go_wp2
    go_ret
    exact ⟨rfl, hw⟩
  obtain ⟨m, rfl⟩ := Int.eq_ofNat_of_zero_le (show 0 ≤ n by omega)
  have hm : m ≤ 62 := by omega
  have m64 : (m : Int) < 64 := by omega
  have CH : Hid (∀ (p : Nat) w0, p ≤ m → Calls Try.prog 9 #[.int .i64 m, .int .i64 p] w0 fun e w' => e = .returned (.int .u64 (ch m p)) ∧ Below w0.heap.size w0 w') := fun p w0 hp => by
    have := choose_c m p (by omega) (by omega) w0
    rw [chN_in m p hm] at this
    exact this
  have WD : Hid (∀ (p : Nat) w0, p ≤ m → Calls Try.prog 11 #[.int .i64 m, .int .i64 p] w0 fun e w' => e = .returned (.int .i64 (Go.bitLen (ch m p - 1))) ∧ Below w0.heap.size w0 w') := fun p w0 hp => by
    have := width_c m p (by omega) (by omega) w0
    have c := ch_pos m p hp
    unfold wdN at this
    rw [chN_in m p hm, if_neg (by omega)] at this
    exact this
  obtain ⟨S, hS⟩ : ∃ S : Nat, Hid (S = 2 ^ m) := ⟨2 ^ m, (rfl : (2 ^ m : Nat) = 2 ^ m)⟩
  have SO : IntKind.u64.wrap (2 ^ m) = (S : Int) := by rw [hS.out]; exact shl_one m (by omega)
  have S62 : S ≤ 4611686018427387904 := by
    have : 2 ^ m ≤ 2 ^ 62 := Nat.pow_le_pow_right (by decide) hm
    rw [hS.out]
    omega
  go_enter Try.func3, Try.ntmps3
  go_wp2
  go_loopw [3, 4, 5, 6] (fun s k c l wr => ∃ p T : Nat, p ≤ m + 1 ∧ k = .int .i64 p ∧ s = .int .u64 T ∧ T = sumTo m p ∧ Below w.heap.size w wr) (fun _ k _ _ _ => m + 1 - (intOf k).toNat)
  case atStart => exact ⟨0, 0, by omega, rfl, rfl, rfl, Below.refl _ _⟩
  case round =>
    obtain ⟨p, T, hp, rfl, rfl, hT, hwr⟩ := hrel
    by_cases hlt : p ≤ m
    · have hlt2 : (p : Int) ≤ (m : Int) := by omega
      obtain ⟨D, hD⟩ : ∃ D, ch m p = D + 1 := ⟨ch m p - 1, by have := ch_pos m p hlt; omega⟩
      have c62 := ch62 m p hm
      have H1 : Hid (∀ w0, Calls Try.prog 9 #[.int .i64 m, .int .i64 p] w0 fun e w' => e = .returned (.int .u64 ((D : Int) + 1)) ∧ Below w0.heap.size w0 w') := fun w0 => by
        have := CH.out p w0 hlt
        rw [hD] at this
        exact this
      have H2 : Hid (∀ w0, Calls Try.prog 11 #[.int .i64 m, .int .i64 p] w0 fun e w' => e = .returned (.int .i64 (Go.bitLen D)) ∧ Below w0.heap.size w0 w') := fun w0 => by
        have := WD.out p w0 hlt
        rw [hD, Nat.add_sub_cancel] at this
        exact this
      have bD : D < 4611686018427387904 := by omega
      have L62 : Go.bitLen D ≤ 62 := len_le D 62 (by omega)
      have Z1 : (D : Int) / 2 ^ Go.bitLen D = 0 := by
        rw [shr_nat _ _ (by omega), Int.toNat_natCast, Nat.div_eq_of_lt (lt_len D (by omega))]; rfl
      have Z2 : 0 < Go.bitLen D → (D : Int) / 2 ^ (Go.bitLen D - 1) = 1 := fun h => by
        rw [shr_nat _ _ (by omega), Int.toNat_natCast, len_top D (by omega) h]; rfl
      have HT : Hid (T + (D + 1) = sumTo m (p + 1)) := by rw [sumTo, hD, ← hT]; exact rfl
      have bT : T + (D + 1) ≤ 4611686018427387904 := by
        have sl := sum_le m (p + 1) (by omega)
        have : 2 ^ m ≤ 2 ^ 62 := Nat.pow_le_pow_right (by decide) hm
        rw [sumTo, hD, ← hT] at sl
        omega
      clear hD CH WD c62 hT
      generalize Go.bitLen D = L at *
      cases L with
      | zero =>
        clear Z2
        obtain rfl : D = 0 := by
          rw [Int.pow_zero, Int.ediv_one] at Z1
          omega
        clear Z1
        go_wp2_with fail
        refine (H1.out _).mono ?_
        rintro e w1 ⟨rfl, hb1⟩
        have hw1 := hwr.trans (hb1.mono hwr.size)
        clear hb1
        go_wp2_with fail
        refine (H2.out _).mono ?_
        rintro e w2 ⟨rfl, hb2⟩
        have hw2 := hw1.trans (hb2.mono hw1.size)
        clear hb2 hwr hw1
        go_wp2
        exact ⟨⟨p + 1, T + 1, by omega, by go_num, by go_num, HT.out, hw2⟩, by simp only [intOf]; omega⟩
      | succ L =>
        have Z3 : (D : Int) / 2 ^ L = 1 := Z2 (by omega)
        have D0 : ((D : Int) + 1 == 0) = false := by simp; omega
        clear Z2
        go_wp2_with fail
        refine (H1.out _).mono ?_
        rintro e w1 ⟨rfl, hb1⟩
        have hw1 := hwr.trans (hb1.mono hwr.size)
        clear hb1
        go_wp2_with fail
        refine (H2.out _).mono ?_
        rintro e w2 ⟨rfl, hb2⟩
        have hw2 := hw1.trans (hb2.mono hw1.size)
        clear hb2 hwr hw1
        go_wp2
        exact ⟨⟨p + 1, T + (D + 1), by omega, by go_num, by go_num, HT.out, hw2⟩, by simp only [intOf]; omega⟩
    · obtain rfl : p = m + 1 := by omega
      have hTS : T = S := by rw [hT, sum_all, hS.out]
      subst hTS
      clear hT
      go_wp2_with fail
      refine (heads_c _).mono ?_
      rintro e w9 ⟨rfl, hb⟩
      have hw9 := hwr.trans (hb.mono hwr.size)
      go_wp2
      go_ret
      exact ⟨rfl, hw9⟩

theorem lifted (os : Os) (started : os.Started) (H : Type) (enc : TypeId × Value → H) :
    ReturnsInHanded {} Try.checked os 3 .any (Rows.binomAllSpec.pre6 enc Try.prog Try.f3 Rows.binomAllRow.domain false) (Rows.binomAllSpec.post enc Try.prog Try.f3 false true false false) := by
  refine returnsInHanded_of_change (C := Try.checked) own started (by kernel_rfl) Try.func3
    (ChangeSpec.witness6 (enc := enc) (C := Try.checked) false ⟨#[], #[.int .i64 0], []⟩ 8 (by kernel_rfl) (by kernel_rfl) (by kernel_rfl) (by kernel_rfl)) ?_
  intro W base args ds gs before hval0 hW hcnd _
  have hval : ∀ (j : Nat) t v, Try.f3.params[j]? = some t → args[j]? = some v → Value.okWide Try.prog W .any base t v := hval0
  have hW' := hW
  obtain ⟨p, q, hA0, hV, rfl, hfz, hnd⟩ := hW
  have hA : DataW.TrodAll enc Try.prog W 0 (fun _ => true) true Try.f3.params.toList args.toList ds p := hA0
  rw [Try.params3] at hA hval
  obtain ⟨v0, vs0, d0, ds0, p0, q0, hargs, rfl, rfl, h0, r0⟩ := trodAll_cons hA
  obtain ⟨rfl, rfl, rfl⟩ := trodAll_nil r0
  obtain rfl : args = #[v0] := by cases args; simp_all
  obtain ⟨rfl, rfl⟩ := trodVars_none hV
  obtain ⟨n, rfl, rfl, rfl, w0⟩ := open_int Try.underlying3 (hval 0 3 v0 rfl rfl) h0
  clear hA0 hval0
  refine (walk W n (i64_wf _ w0)).mono fun e W' ⟨he, bel⟩ => ?_
  subst he
  exact ⟨_, rfl, _, _, _, [], _, [], hW', trodAll_mk1 (shut_bool Try.underlying4 _), (trodAll_cons_mk (shut_int Try.underlying3 w0) trodAll_mk0), rfl, bel.frame _, fun h => by cases h⟩

theorem over : Rows.binomAllRow.holds Try.pinned (OpenSpec.ofChange Rows.binomAllSpec) :=
  OpenClaim.holds_of_wide 3 Try.f3 rfl rfl rfl rfl rfl rfl rfl ⟨rfl, rfl, rfl, rfl, rfl⟩ rfl rfl rfl rfl rfl (by kernel_rfl) Try.func3 (by kernel_rfl)
    (of_decide_eq_true (by kernel_rfl)) (by unfold Func.isWrapper; first | (rw [if_pos (by decide +kernel)]; kernel_rfl) | (rw [if_neg (by decide +kernel)]; exact ⟨rfl, rfl⟩))
    (fun os started H enc _ => lifted os started H enc)

theorem proved : Rows.BinomAllSaid := over
end Go.Proofs.Ytjbabnnibocdfaa.binomAll
namespace Go.Proofs.Ytjbabnnibocdfaa
theorem binomAll_holds : Rows.BinomAllSaid := binomAll.proved
#print axioms binomAll_holds
end Go.Proofs.Ytjbabnnibocdfaa
