/-
  BinomBack: words are there and back.
-/
import Derived.Test.YtjbabnnibocdfaaBh
import Derived.Test.YtjbabnnibocdfaaBh
import Derived.ChangeOld
namespace Go.Proofs.Ytjbabnnibocdfaa.binomBack
open Go.ChangeShapes Go.WideShapes Go.ChangeAt Go.RowKit Num Bn Ow
set_option linter.unusedVariables false
set_option linter.unusedSimpArgs false
set_option maxRecDepth 100000

theorem and_low (x m : Nat) (hx : x < 18446744073709551616) (hm : m < 64) : bits .and .u64 (x : Int) (IntKind.u64.wrap (IntKind.u64.wrap (2 ^ m) - 1)) = ((x % 2 ^ m : Nat) : Int) := by
  have h := and_mask (x : Int) (m : Int) (by omega) (by omega)
  rw [Int.toNat_natCast, Int.toNat_natCast, Nat.min_eq_left (by omega)] at h
  rw [← h, ← mask_end, Int.toNat_natCast, Nat.min_eq_left (by omega)]

set_option maxHeartbeats 4000000 in
theorem walk (w : World) (x : Int) (hx : 0 ≤ x ∧ x < 18446744073709551616) (n : Int) (hn : -9223372036854775808 ≤ n ∧ n ≤ 9223372036854775807) :
    Calls Try.prog 6 #[.int .u64 x, .int .i64 n] w fun e w' => e = .returned (.bool true) ∧ Below w.heap.size w w' := by
  obtain ⟨X, rfl⟩ := Int.eq_ofNat_of_zero_le hx.1
  have hX : X < 18446744073709551616 := by omega
  by_cases q1 : n < 0
  · go_enter Try.func6, Try.ntmps6
    go_wp2_with fail
    refine (heads_c _).mono ?_
    rintro e w9 ⟨rfl, hb⟩
    go_wp2
    go_ret
    exact ⟨rfl, hb⟩
  by_cases q2 : 62 < n
  · go_enter Try.func6, Try.ntmps6
    go_wp2_with fail
    refine (heads_c _).mono ?_
    rintro e w9 ⟨rfl, hb⟩
    go_wp2
    go_ret
    exact ⟨rfl, hb⟩
  obtain ⟨m, rfl⟩ := Int.eq_ofNat_of_zero_le (show 0 ≤ n by omega)
  have hm : m ≤ 62 := by omega
  have lo := off_lt X m
  have l62 := ch62 m (cnt X m) hm
  have cl := cnt_le X m
  have bo := blk_off X m
  have lm : Go.bitLen (off X m) ≤ Go.bitLen (ch m (cnt X m) - 1) := len_mono _ _ (by omega) (by omega)
  have H1 : Hid (∀ w0, Calls Try.prog 13 #[.int .u64 X, .int .i64 m] w0 fun e w' => e = .returned (.tuple #[.int .i64 (cnt X m), .int .u64 (off X m)]) ∧ Below w0.heap.size w0 w') := fun w0 => by
    have := offset_c X m hX (by omega) w0
    unfold ofK ofO at this
    rw [if_neg (by omega), if_neg (by omega), Int.toNat_natCast] at this
    exact this
  have H2 : Hid (∀ w0, Calls Try.prog 12 #[.int .i64 m, .int .i64 (cnt X m), .int .u64 (off X m)] w0 fun e w' => e = .returned (.tuple #[.int .u64 ((X % 2 ^ m : Nat) : Int), .bool true]) ∧ Below w0.heap.size w0 w') := fun w0 => by
    have := block_c m (cnt X m) (off X m) (by omega) (by omega) (by omega) w0
    unfold bkX bkB at this
    rw [chN_in m _ hm, if_neg (by omega), Int.toNat_natCast, Int.toNat_natCast, bo, decide_eq_true lo] at this
    exact this
  have H3 : Hid (∀ w0, Calls Try.prog 9 #[.int .i64 m, .int .i64 (cnt X m)] w0 fun e w' => e = .returned (.int .u64 (ch m (cnt X m))) ∧ Below w0.heap.size w0 w') := fun w0 => by
    have := choose_c m (cnt X m) (by omega) (by omega) w0
    rw [chN_in m _ hm] at this
    exact this
  have H4 : Hid (∀ w0, Calls Try.prog 18 #[.int .u64 (off X m)] w0 fun e w' => e = .returned (.int .i64 (Go.bitLen (off X m))) ∧ w' = w0) := fun w0 => by
    have := reflen_c (off X m : Int) (by omega) (by omega) w0
    unfold lenI at this
    rw [Int.toNat_natCast] at this
    exact this
  have H5 : Hid (∀ w0, Calls Try.prog 11 #[.int .i64 m, .int .i64 (cnt X m)] w0 fun e w' => e = .returned (.int .i64 (Go.bitLen (ch m (cnt X m) - 1))) ∧ Below w0.heap.size w0 w') := fun w0 => by
    have := width_c m (cnt X m) (by omega) (by omega) w0
    unfold wdN at this
    rw [chN_in m _ hm, if_neg (by omega)] at this
    exact this
  have AM : bits .and .u64 (X : Int) (IntKind.u64.wrap (IntKind.u64.wrap (2 ^ m) - 1)) = ((X % 2 ^ m : Nat) : Int) := and_low X m hX (by omega)
  have m64 : (m : Int) < 64 := by omega
  generalize Go.bitLen (off X m) = L1 at *
  generalize Go.bitLen (ch m (cnt X m) - 1) = L2 at *
  generalize ch m (cnt X m) = C at *
  generalize off X m = O at *
  generalize cnt X m = K at *
  have lo2 : (O : Int) < (C : Int) := by omega
  have lm2 : (L1 : Int) ≤ (L2 : Int) := by omega
  clear bo
  go_enter Try.func6, Try.ntmps6
  go_wp2_with fail
  refine (H1.out _).mono ?_
  rintro e w1 ⟨rfl, hb⟩
  have hw : Below w.heap.size w w1 := hb
  clear hb
  go_wp2_with fail
  refine (H2.out _).mono ?_
  rintro e w2 ⟨rfl, hb⟩
  replace hw := hw.trans (hb.mono hw.size)
  clear hb
  go_wp2_with fail
  refine (H3.out _).mono ?_
  rintro e w3 ⟨rfl, hb⟩
  replace hw := hw.trans (hb.mono hw.size)
  clear hb
  go_wp2_with fail
  refine (H4.out _).mono ?_
  rintro e w4 ⟨rfl, hw4⟩
  rw [hw4]
  clear hw4 w4
  go_wp2_with fail
  refine (H5.out _).mono ?_
  rintro e w5 ⟨rfl, hb⟩
  replace hw := hw.trans (hb.mono hw.size)
  clear hb
  go_wp2_with fail
  refine (heads_c _).mono ?_
  rintro e w6 ⟨rfl, hb⟩
  replace hw := hw.trans (hb.mono hw.size)
  clear hb
  go_wp2
  go_ret
  exact ⟨rfl, hw⟩

theorem lifted (os : Os) (started : os.Started) (H : Type) (enc : TypeId × Value → H) :
    ReturnsInHanded {} Try.checked os 6 .any (Rows.binomBackSpec.pre6 enc Try.prog Try.f6 Rows.binomBackRow.domain false) (Rows.binomBackSpec.post enc Try.prog Try.f6 false true false false) := by
  refine returnsInHanded_of_change (C := Try.checked) own started (by kernel_rfl) Try.func6
    (ChangeSpec.witness6 (enc := enc) (C := Try.checked) false ⟨#[], #[.int .u64 0, .int .i64 0], []⟩ 8 (by kernel_rfl) (by kernel_rfl) (by kernel_rfl) (by kernel_rfl)) ?_
  intro W base args ds gs before hval0 hW hcnd _
  have hval : ∀ (j : Nat) t v, Try.f6.params[j]? = some t → args[j]? = some v → Value.okWide Try.prog W .any base t v := hval0
  have hW' := hW
  obtain ⟨p, q, hA0, hV, rfl, hfz, hnd⟩ := hW
  have hA : DataW.TrodAll enc Try.prog W 0 (fun _ => true) true Try.f6.params.toList args.toList ds p := hA0
  rw [Try.params6] at hA hval
  obtain ⟨v0, vs0, d0, ds0, p0, q0, hargs, rfl, rfl, h0, r0⟩ := trodAll_cons hA
  obtain ⟨v1, vs1, d1, ds1, p1, q1, rfl, rfl, rfl, h1, r1⟩ := trodAll_cons r0
  obtain ⟨rfl, rfl, rfl⟩ := trodAll_nil r1
  obtain rfl : args = #[v0, v1] := by cases args; simp_all
  obtain ⟨rfl, rfl⟩ := trodVars_none hV
  obtain ⟨x, rfl, rfl, rfl, w0⟩ := open_int Try.underlying22 (hval 0 22 v0 rfl rfl) h0
  obtain ⟨n, rfl, rfl, rfl, w1⟩ := open_int Try.underlying3 (hval 1 3 v1 rfl rfl) h1
  clear hA0 hval0
  refine (walk W x (u64_wf _ w0) n (i64_wf _ w1)).mono fun e W' ⟨he, bel⟩ => ?_
  subst he
  exact ⟨_, rfl, _, _, _, [], _, [], hW', trodAll_mk1 (shut_bool Try.underlying4 _), (trodAll_cons_mk (shut_int Try.underlying22 w0) (trodAll_cons_mk (shut_int Try.underlying3 w1) trodAll_mk0)), rfl, bel.frame _, fun h => by cases h⟩

theorem over : Rows.binomBackRow.holds Try.pinned (OpenSpec.ofChange Rows.binomBackSpec) :=
  OpenClaim.holds_of_wide 6 Try.f6 rfl rfl rfl rfl rfl rfl rfl ⟨rfl, rfl, rfl, rfl, rfl⟩ rfl rfl rfl rfl rfl (by kernel_rfl) Try.func6 (by kernel_rfl)
    (of_decide_eq_true (by kernel_rfl)) (by unfold Func.isWrapper; first | (rw [if_pos (by decide +kernel)]; kernel_rfl) | (rw [if_neg (by decide +kernel)]; exact ⟨rfl, rfl⟩))
    (fun os started H enc _ => lifted os started H enc)

theorem proved : Rows.BinomBackSaid := over
end Go.Proofs.Ytjbabnnibocdfaa.binomBack
namespace Go.Proofs.Ytjbabnnibocdfaa
theorem binomBack_holds : Rows.BinomBackSaid := binomBack.proved
#print axioms binomBack_holds
end Go.Proofs.Ytjbabnnibocdfaa
