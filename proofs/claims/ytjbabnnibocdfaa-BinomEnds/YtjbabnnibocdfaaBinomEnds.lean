/-
  BinomEnds: of each class the first word has all its ones below, the last one above.
-/
import Derived.Test.YtjbabnnibocdfaaBh
import Derived.Test.YtjbabnnibocdfaaBh
import Derived.ChangeOld
namespace Go.Proofs.Ytjbabnnibocdfaa.binomEnds
open Go.ChangeShapes Go.WideShapes Go.ChangeAt Go.RowKit Num Bn Ow
set_option linter.unusedVariables false
set_option linter.unusedSimpArgs false
set_option maxRecDepth 100000

theorem low_ones (j : Nat) (h : j < 64) : IntKind.u64.wrap (IntKind.u64.wrap (2 ^ j) - 1) = ((2 ^ j - 1 : Nat) : Int) := by
  have p := Nat.two_pow_pos j
  have l := two_pow_lt j h
  rw [shl_one j h, IntKind.wrap_u64]
  generalize (2 ^ j : Nat) = Z at *
  omega

set_option maxHeartbeats 4000000 in
theorem walk (w : World) (n : Int) (hn : -9223372036854775808 ≤ n ∧ n ≤ 9223372036854775807) (k : Int) (hk : -9223372036854775808 ≤ k ∧ k ≤ 9223372036854775807) :
    Calls Try.prog 4 #[.int .i64 n, .int .i64 k] w fun e w' => e = .returned (.bool true) ∧ Below w.heap.size w w' := by
  by_cases q1 : n < 0
  · go_enter Try.func4, Try.ntmps4
    go_wp2_with fail
    refine (heads_c _).mono ?_
    rintro e w9 ⟨rfl, hb⟩
    go_wp2
    go_ret
    exact ⟨rfl, hb⟩
  by_cases q2 : 62 < n
  · go_enter Try.func4, Try.ntmps4
    go_wp2_with fail
    refine (heads_c _).mono ?_
    rintro e w9 ⟨rfl, hb⟩
    go_wp2
    go_ret
    exact ⟨rfl, hb⟩
  by_cases q3 : k < 0
  · go_enter Try.func4, Try.ntmps4
    go_wp2_with fail
    refine (heads_c _).mono ?_
    rintro e w9 ⟨rfl, hb⟩
    go_wp2
    go_ret
    exact ⟨rfl, hb⟩
  by_cases q4 : n < k
  · go_enter Try.func4, Try.ntmps4
    go_wp2_with fail
    refine (heads_c _).mono ?_
    rintro e w9 ⟨rfl, hb⟩
    go_wp2
    go_ret
    exact ⟨rfl, hb⟩
  obtain ⟨m, rfl⟩ := Int.eq_ofNat_of_zero_le (show 0 ≤ n by omega)
  obtain ⟨j, rfl⟩ := Int.eq_ofNat_of_zero_le (show 0 ≤ k by omega)
  have hm : m ≤ 62 := by omega
  have hj : j ≤ m := by omega
  have cp := ch_pos m j hj
  have c62 := ch62 m j hm
  obtain ⟨C, hC⟩ : ∃ C, ch m j = C + 1 := ⟨ch m j - 1, by omega⟩
  have H1 : Hid (∀ w0, Calls Try.prog 12 #[.int .i64 m, .int .i64 j, .int .u64 0] w0 fun e w' => e = .returned (.tuple #[.int .u64 ((2 ^ j - 1 : Nat) : Int), .bool true]) ∧ Below w0.heap.size w0 w') := fun w0 => by
    have := block_c m j 0 (by omega) (by omega) (by decide) w0
    unfold bkX bkB at this
    rw [chN_in m j hm, if_neg (by omega), Int.toNat_natCast, Int.toNat_natCast, blk_first m j hj, decide_eq_true cp] at this
    exact this
  have H2 : Hid (∀ w0, Calls Try.prog 9 #[.int .i64 m, .int .i64 j] w0 fun e w' => e = .returned (.int .u64 ((C : Int) + 1)) ∧ Below w0.heap.size w0 w') := fun w0 => by
    have := choose_c m j (by omega) (by omega) w0
    rw [chN_in m j hm, hC, show (((C + 1 : Nat)) : Int) = (C : Int) + 1 by omega] at this
    exact this
  have H3 : Hid (∀ w0, Calls Try.prog 12 #[.int .i64 m, .int .i64 j, .int .u64 C] w0 fun e w' => e = .returned (.tuple #[.int .u64 (((2 ^ j - 1) * 2 ^ (m - j) : Nat) : Int), .bool true]) ∧ Below w0.heap.size w0 w') := fun w0 => by
    have := block_c m j C (by omega) (by omega) (by omega) w0
    have e := blk_last m j hj
    rw [hC, Nat.add_sub_cancel] at e
    unfold bkX bkB at this
    rw [chN_in m j hm, if_neg (by omega), Int.toNat_natCast, Int.toNat_natCast, e, decide_eq_true (by omega)] at this
    exact this
  have H4 : Hid (∀ w0, Calls Try.prog 12 #[.int .i64 m, .int .i64 j, .int .u64 ((C : Int) + 1)] w0 fun e w' => e = .returned (.tuple #[.int .u64 0, .bool false]) ∧ Below w0.heap.size w0 w') := fun w0 => by
    have := block_c m j (C + 1) (by omega) (by omega) (by omega) w0
    unfold bkX bkB at this
    rw [chN_in m j hm, if_pos (by omega), decide_eq_false (by omega)] at this
    exact this
  have LO : IntKind.u64.wrap (IntKind.u64.wrap (2 ^ j) - 1) = ((2 ^ j - 1 : Nat) : Int) := low_ones j (by omega)
  have j64 : (j : Int) < 64 := by omega
  have d64 : (m : Int) - (j : Int) < 64 := by omega
  obtain ⟨Lw, hL⟩ : ∃ Lw : Nat, Hid (Lw = 2 ^ j - 1) := ⟨2 ^ j - 1, (rfl : (2 ^ j - 1 : Nat) = 2 ^ j - 1)⟩
  obtain ⟨Y, hY⟩ : ∃ Y : Nat, Hid (Y = (2 ^ j - 1) * 2 ^ (m - j)) := ⟨(2 ^ j - 1) * 2 ^ (m - j), (rfl : ((2 ^ j - 1) * 2 ^ (m - j) : Nat) = _)⟩
  rw [← hL.out] at H1 LO
  rw [← hY.out] at H3
  have bL : Lw < 18446744073709551616 := by
    rw [hL.out]
    have := two_pow_lt j (by omega)
    generalize (2 ^ j : Nat) = Z at *
    omega
  have bY : Y < 4611686018427387904 := by
    have e := blk_last m j hj
    have l := blk_lt m j (ch m j - 1)
    have : 2 ^ m ≤ 2 ^ 62 := Nat.pow_le_pow_right (by decide) hm
    rw [e, ← hY.out] at l
    omega
  have SHL : IntKind.u64.wrap ((Lw : Int) * 2 ^ (m - j)) = (Y : Int) := by
    have e : (Lw : Int) * 2 ^ (m - j) = (Y : Int) := by
      rw [hY.out, ← hL.out, Int.natCast_mul, Int.natCast_pow]; rfl
    rw [e, IntKind.wrap_u64]
    omega
  have bC : C < 4611686018427387904 := by omega
  clear hC cp c62
  go_enter Try.func4, Try.ntmps4
  go_wp2_with fail
  refine (H1.out _).mono ?_
  rintro e w1 ⟨rfl, hb⟩
  have hw : Below w.heap.size w w1 := hb
  clear hb
  go_wp2_with fail
  refine (H2.out _).mono ?_
  rintro e w2 ⟨rfl, hb⟩
  replace hw := hw.trans (hb.mono hw.size)
  clear hb
  go_wp2_with fail
  refine (H3.out _).mono ?_
  rintro e w3 ⟨rfl, hb⟩
  replace hw := hw.trans (hb.mono hw.size)
  clear hb
  go_wp2_with fail
  refine (H2.out _).mono ?_
  rintro e w4 ⟨rfl, hb⟩
  replace hw := hw.trans (hb.mono hw.size)
  clear hb
  go_wp2_with fail
  refine (H4.out _).mono ?_
  rintro e w5 ⟨rfl, hb⟩
  replace hw := hw.trans (hb.mono hw.size)
  clear hb
  go_wp2_with fail
  refine (heads_c _).mono ?_
  rintro e w6 ⟨rfl, hb⟩
  replace hw := hw.trans (hb.mono hw.size)
  clear hb
  go_wp2
  go_ret
  exact ⟨rfl, hw⟩

theorem lifted (os : Os) (started : os.Started) (H : Type) (enc : TypeId × Value → H) :
    ReturnsInHanded {} Try.checked os 4 .any (Rows.binomEndsSpec.pre6 enc Try.prog Try.f4 Rows.binomEndsRow.domain false) (Rows.binomEndsSpec.post enc Try.prog Try.f4 false true false false) := by
  refine returnsInHanded_of_change (C := Try.checked) own started (by kernel_rfl) Try.func4
    (ChangeSpec.witness6 (enc := enc) (C := Try.checked) false ⟨#[], #[.int .i64 0, .int .i64 0], []⟩ 8 (by kernel_rfl) (by kernel_rfl) (by kernel_rfl) (by kernel_rfl)) ?_
  intro W base args ds gs before hval0 hW hcnd _
  have hval : ∀ (j : Nat) t v, Try.f4.params[j]? = some t → args[j]? = some v → Value.okWide Try.prog W .any base t v := hval0
  have hW' := hW
  obtain ⟨p, q, hA0, hV, rfl, hfz, hnd⟩ := hW
  have hA : DataW.TrodAll enc Try.prog W 0 (fun _ => true) true Try.f4.params.toList args.toList ds p := hA0
  rw [Try.params4] at hA hval
  obtain ⟨v0, vs0, d0, ds0, p0, q0, hargs, rfl, rfl, h0, r0⟩ := trodAll_cons hA
  obtain ⟨v1, vs1, d1, ds1, p1, q1, rfl, rfl, rfl, h1, r1⟩ := trodAll_cons r0
  obtain ⟨rfl, rfl, rfl⟩ := trodAll_nil r1
  obtain rfl : args = #[v0, v1] := by cases args; simp_all
  obtain ⟨rfl, rfl⟩ := trodVars_none hV
  obtain ⟨n, rfl, rfl, rfl, w0⟩ := open_int Try.underlying3 (hval 0 3 v0 rfl rfl) h0
  obtain ⟨k, rfl, rfl, rfl, w1⟩ := open_int Try.underlying3 (hval 1 3 v1 rfl rfl) h1
  clear hA0 hval0
  refine (walk W n (i64_wf _ w0) k (i64_wf _ w1)).mono fun e W' ⟨he, bel⟩ => ?_
  subst he
  exact ⟨_, rfl, _, _, _, [], _, [], hW', trodAll_mk1 (shut_bool Try.underlying4 _), (trodAll_cons_mk (shut_int Try.underlying3 w0) (trodAll_cons_mk (shut_int Try.underlying3 w1) trodAll_mk0)), rfl, bel.frame _, fun h => by cases h⟩

theorem over : Rows.binomEndsRow.holds Try.pinned (OpenSpec.ofChange Rows.binomEndsSpec) :=
  OpenClaim.holds_of_wide 4 Try.f4 rfl rfl rfl rfl rfl rfl rfl ⟨rfl, rfl, rfl, rfl, rfl⟩ rfl rfl rfl rfl rfl (by kernel_rfl) Try.func4 (by kernel_rfl)
    (of_decide_eq_true (by kernel_rfl)) (by unfold Func.isWrapper; first | (rw [if_pos (by decide +kernel)]; kernel_rfl) | (rw [if_neg (by decide +kernel)]; exact ⟨rfl, rfl⟩))
    (fun os started H enc _ => lifted os started H enc)

theorem proved : Rows.BinomEndsSaid := over
end Go.Proofs.Ytjbabnnibocdfaa.binomEnds
namespace Go.Proofs.Ytjbabnnibocdfaa
theorem binomEnds_holds : Rows.BinomEndsSaid := binomEnds.proved
#print axioms binomEnds_holds
end Go.Proofs.Ytjbabnnibocdfaa
