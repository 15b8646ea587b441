/-
  BinomSums: ways with and without one thing, and of the others.
-/
import Derived.Test.YtjbabnnibocdfaaBh
import Derived.Test.YtjbabnnibocdfaaBh
import Derived.ChangeOld
namespace Go.Proofs.Ytjbabnnibocdfaa.binomSums
open Go.ChangeShapes Go.WideShapes Go.ChangeAt Go.RowKit Num Bn Ow
set_option linter.unusedVariables false
set_option linter.unusedSimpArgs false
set_option maxRecDepth 100000


set_option maxHeartbeats 4000000 in
theorem walk (w : World) (n : Int) (hn : -9223372036854775808 ≤ n ∧ n ≤ 9223372036854775807) (k : Int) (hk : -9223372036854775808 ≤ k ∧ k ≤ 9223372036854775807) :
    Calls Try.prog 8 #[.int .i64 n, .int .i64 k] w fun e w' => e = .returned (.bool true) ∧ Below w.heap.size w w' := by
  have G1 : Hid (∀ w0, Calls Try.prog 9 #[.int .i64 63, .int .i64 1] w0 fun e w' => e = .returned (.int .u64 0) ∧ Below w0.heap.size w0 w') := fun w0 => by
    have := choose_c 63 1 (by decide) (by decide) w0
    rw [show chN 63 1 = 0 by decide +kernel] at this
    exact this
  have G2 : Hid (∀ w0, Calls Try.prog 9 #[.int .i64 5, .int .i64 6] w0 fun e w' => e = .returned (.int .u64 0) ∧ Below w0.heap.size w0 w') := fun w0 => by
    have := choose_c 5 6 (by decide) (by decide) w0
    rw [show chN 5 6 = 0 by decide +kernel] at this
    exact this
  by_cases q1 : n < 1
  · go_enter Try.func8, Try.ntmps8
    go_wp2_with fail
    refine (G1.out _).mono ?_
    rintro e w1 ⟨rfl, hb⟩
    have hw : Below w.heap.size w w1 := hb
    clear hb
    go_wp2_with fail
    refine (G2.out _).mono ?_
    rintro e w2 ⟨rfl, hb⟩
    replace hw := hw.trans (hb.mono hw.size)
    clear hb
    go_wp2_with fail
    refine (heads_c _).mono ?_
    rintro e w3 ⟨rfl, hb⟩
    replace hw := hw.trans (hb.mono hw.size)
    clear hb
    go_wp2
    go_ret
    exact ⟨rfl, hw⟩
  by_cases q2 : 62 < n
  · go_enter Try.func8, Try.ntmps8
    go_wp2_with fail
    refine (G1.out _).mono ?_
    rintro e w1 ⟨rfl, hb⟩
    have hw : Below w.heap.size w w1 := hb
    clear hb
    go_wp2_with fail
    refine (G2.out _).mono ?_
    rintro e w2 ⟨rfl, hb⟩
    replace hw := hw.trans (hb.mono hw.size)
    clear hb
    go_wp2_with fail
    refine (heads_c _).mono ?_
    rintro e w3 ⟨rfl, hb⟩
    replace hw := hw.trans (hb.mono hw.size)
    clear hb
    go_wp2
    go_ret
    exact ⟨rfl, hw⟩
  by_cases q3 : k < 0
  · go_enter Try.func8, Try.ntmps8
    go_wp2_with fail
    refine (G1.out _).mono ?_
    rintro e w1 ⟨rfl, hb⟩
    have hw : Below w.heap.size w w1 := hb
    clear hb
    go_wp2_with fail
    refine (G2.out _).mono ?_
    rintro e w2 ⟨rfl, hb⟩
    replace hw := hw.trans (hb.mono hw.size)
    clear hb
    go_wp2_with fail
    refine (heads_c _).mono ?_
    rintro e w3 ⟨rfl, hb⟩
    replace hw := hw.trans (hb.mono hw.size)
    clear hb
    go_wp2
    go_ret
    exact ⟨rfl, hw⟩
  by_cases q4 : n < k
  · go_enter Try.func8, Try.ntmps8
    go_wp2_with fail
    refine (G1.out _).mono ?_
    rintro e w1 ⟨rfl, hb⟩
    have hw : Below w.heap.size w w1 := hb
    clear hb
    go_wp2_with fail
    refine (G2.out _).mono ?_
    rintro e w2 ⟨rfl, hb⟩
    replace hw := hw.trans (hb.mono hw.size)
    clear hb
    go_wp2_with fail
    refine (heads_c _).mono ?_
    rintro e w3 ⟨rfl, hb⟩
    replace hw := hw.trans (hb.mono hw.size)
    clear hb
    go_wp2
    go_ret
    exact ⟨rfl, hw⟩
  obtain ⟨m, rfl⟩ : ∃ m : Nat, n = (m : Int) + 1 := ⟨(n - 1).toNat, by omega⟩
  obtain ⟨j, rfl⟩ := Int.eq_ofNat_of_zero_le (show 0 ≤ k by omega)
  have hm : m ≤ 61 := by omega
  have hj : j ≤ m + 1 := by omega
  have b1 := ch62 m j (by omega)
  have b2 : chN m ((j : Int) - 1) ≤ 4611686018427387904 := chN_le _ _
  have S1 : ch (m + 1) j = ch m j + chN m ((j : Int) - 1) := by
    match j with
    | 0 => rw [ch_zero, ch_zero]; unfold chN; rw [if_pos (by omega)]
    | j + 1 => rw [show (((j + 1 : Nat) : Int) - 1) = (j : Int) by omega, chN_in m j (by omega), ch_succ]; omega
  have S2 : ch (m + 1) (m + 1 - j) = ch (m + 1) j := (ch_symm (m + 1) j hj).symm
  have H1 : Hid (∀ w0, Calls Try.prog 9 #[.int .i64 ((m : Int) + 1), .int .i64 j] w0 fun e w' => e = .returned (.int .u64 (ch (m + 1) j)) ∧ Below w0.heap.size w0 w') := fun w0 => by
    have := choose_c ((m : Int) + 1) j (by omega) (by omega) w0
    rw [show ((m : Int) + 1) = ((m + 1 : Nat) : Int) by omega, chN_in (m + 1) j (by omega)] at this
    rw [show ((m : Int) + 1) = ((m + 1 : Nat) : Int) by omega]
    exact this
  have H2 : Hid (∀ w0, Calls Try.prog 9 #[.int .i64 m, .int .i64 j] w0 fun e w' => e = .returned (.int .u64 (ch m j)) ∧ Below w0.heap.size w0 w') := fun w0 => by
    have := choose_c m j (by omega) (by omega) w0
    rw [chN_in m j (by omega)] at this
    exact this
  have H3 : Hid (∀ w0, Calls Try.prog 9 #[.int .i64 m, .int .i64 ((j : Int) - 1)] w0 fun e w' => e = .returned (.int .u64 (chN m ((j : Int) - 1))) ∧ Below w0.heap.size w0 w') := fun w0 => choose_c _ _ (by omega) (by omega) w0
  have H4 : Hid (∀ w0, Calls Try.prog 9 #[.int .i64 ((m : Int) + 1), .int .i64 ((m : Int) + 1 - j)] w0 fun e w' => e = .returned (.int .u64 (ch (m + 1) j)) ∧ Below w0.heap.size w0 w') := fun w0 => by
    have := choose_c ((m : Int) + 1) ((m : Int) + 1 - j) (by omega) (by omega) w0
    rw [show ((m : Int) + 1 - j) = ((m + 1 - j : Nat) : Int) by omega, show ((m : Int) + 1) = ((m + 1 : Nat) : Int) by omega, chN_in (m + 1) _ (by omega), S2] at this
    rw [show ((m : Int) + 1 - j) = ((m + 1 - j : Nat) : Int) by omega, show ((m : Int) + 1) = ((m + 1 : Nat) : Int) by omega]
    exact this
  clear S2
  generalize ch (m + 1) j = A at *
  generalize ch m j = B at *
  generalize chN m ((j : Int) - 1) = C at *
  go_enter Try.func8, Try.ntmps8
  go_wp2_with fail
  refine (H1.out _).mono ?_
  rintro e w1 ⟨rfl, hb⟩
  have hw : Below w.heap.size w w1 := hb
  clear hb
  go_wp2_with fail
  refine (H2.out _).mono ?_
  rintro e w2 ⟨rfl, hb⟩
  replace hw := hw.trans (hb.mono hw.size)
  clear hb
  go_wp2_with fail
  refine (H3.out _).mono ?_
  rintro e w3 ⟨rfl, hb⟩
  replace hw := hw.trans (hb.mono hw.size)
  clear hb
  subst S1
  go_wp2_with fail
  refine (H1.out _).mono ?_
  rintro e w4 ⟨rfl, hb⟩
  replace hw := hw.trans (hb.mono hw.size)
  clear hb
  go_wp2_with fail
  refine (H4.out _).mono ?_
  rintro e w5 ⟨rfl, hb⟩
  replace hw := hw.trans (hb.mono hw.size)
  clear hb
  go_wp2_with fail
  refine (heads_c _).mono ?_
  rintro e w6 ⟨rfl, hb⟩
  replace hw := hw.trans (hb.mono hw.size)
  clear hb
  go_wp2
  go_ret
  exact ⟨rfl, hw⟩

theorem lifted (os : Os) (started : os.Started) (H : Type) (enc : TypeId × Value → H) :
    ReturnsInHanded {} Try.checked os 8 .any (Rows.binomSumsSpec.pre6 enc Try.prog Try.f8 Rows.binomSumsRow.domain false) (Rows.binomSumsSpec.post enc Try.prog Try.f8 false true false false) := by
  refine returnsInHanded_of_change (C := Try.checked) own started (by kernel_rfl) Try.func8
    (ChangeSpec.witness6 (enc := enc) (C := Try.checked) false ⟨#[], #[.int .i64 0, .int .i64 0], []⟩ 8 (by kernel_rfl) (by kernel_rfl) (by kernel_rfl) (by kernel_rfl)) ?_
  intro W base args ds gs before hval0 hW hcnd _
  have hval : ∀ (j : Nat) t v, Try.f8.params[j]? = some t → args[j]? = some v → Value.okWide Try.prog W .any base t v := hval0
  have hW' := hW
  obtain ⟨p, q, hA0, hV, rfl, hfz, hnd⟩ := hW
  have hA : DataW.TrodAll enc Try.prog W 0 (fun _ => true) true Try.f8.params.toList args.toList ds p := hA0
  rw [Try.params8] at hA hval
  obtain ⟨v0, vs0, d0, ds0, p0, q0, hargs, rfl, rfl, h0, r0⟩ := trodAll_cons hA
  obtain ⟨v1, vs1, d1, ds1, p1, q1, rfl, rfl, rfl, h1, r1⟩ := trodAll_cons r0
  obtain ⟨rfl, rfl, rfl⟩ := trodAll_nil r1
  obtain rfl : args = #[v0, v1] := by cases args; simp_all
  obtain ⟨rfl, rfl⟩ := trodVars_none hV
  obtain ⟨n, rfl, rfl, rfl, w0⟩ := open_int Try.underlying3 (hval 0 3 v0 rfl rfl) h0
  obtain ⟨k, rfl, rfl, rfl, w1⟩ := open_int Try.underlying3 (hval 1 3 v1 rfl rfl) h1
  clear hA0 hval0
  refine (walk W n (i64_wf _ w0) k (i64_wf _ w1)).mono fun e W' ⟨he, bel⟩ => ?_
  subst he
  exact ⟨_, rfl, _, _, _, [], _, [], hW', trodAll_mk1 (shut_bool Try.underlying4 _), (trodAll_cons_mk (shut_int Try.underlying3 w0) (trodAll_cons_mk (shut_int Try.underlying3 w1) trodAll_mk0)), rfl, bel.frame _, fun h => by cases h⟩

theorem over : Rows.binomSumsRow.holds Try.pinned (OpenSpec.ofChange Rows.binomSumsSpec) :=
  OpenClaim.holds_of_wide 8 Try.f8 rfl rfl rfl rfl rfl rfl rfl ⟨rfl, rfl, rfl, rfl, rfl⟩ rfl rfl rfl rfl rfl (by kernel_rfl) Try.func8 (by kernel_rfl)
    (of_decide_eq_true (by kernel_rfl)) (by unfold Func.isWrapper; first | (rw [if_pos (by decide +kernel)]; kernel_rfl) | (rw [if_neg (by decide +kernel)]; exact ⟨rfl, rfl⟩))
    (fun os started H enc _ => lifted os started H enc)

theorem proved : Rows.BinomSumsSaid := over
end Go.Proofs.Ytjbabnnibocdfaa.binomSums
namespace Go.Proofs.Ytjbabnnibocdfaa
theorem binomSums_holds : Rows.BinomSumsSaid := binomSums.proved
#print axioms binomSums_holds
end Go.Proofs.Ytjbabnnibocdfaa
