/-
  BinomOrder: of two words of one class the less one has the less offset.
-/
import Derived.Test.YtjbabnnibocdfaaBh
import Derived.Test.YtjbabnnibocdfaaBh
import Derived.ChangeOld
namespace Go.Proofs.Ytjbabnnibocdfaa.binomOrder
open Go.ChangeShapes Go.WideShapes Go.ChangeAt Go.RowKit Num Bn Ow
set_option linter.unusedVariables false
set_option linter.unusedSimpArgs false
set_option maxRecDepth 100000

theorem and_low (x m : Nat) (hx : x < 18446744073709551616) (hm : m < 64) : bits .and .u64 (x : Int) (IntKind.u64.wrap (IntKind.u64.wrap (2 ^ m) - 1)) = ((x % 2 ^ m : Nat) : Int) := by
  have h := and_mask (x : Int) (m : Int) (by omega) (by omega)
  rw [Int.toNat_natCast, Int.toNat_natCast, Nat.min_eq_left (by omega)] at h
  rw [← h, ← mask_end, Int.toNat_natCast, Nat.min_eq_left (by omega)]

set_option maxHeartbeats 4000000 in
theorem walk (w : World) (x : Int) (hx : 0 ≤ x ∧ x < 18446744073709551616) (y : Int) (hy : 0 ≤ y ∧ y < 18446744073709551616) (n : Int) (hn : -9223372036854775808 ≤ n ∧ n ≤ 9223372036854775807) :
    Calls Try.prog 7 #[.int .u64 x, .int .u64 y, .int .i64 n] w fun e w' => e = .returned (.bool true) ∧ Below w.heap.size w w' := by
  obtain ⟨X, rfl⟩ := Int.eq_ofNat_of_zero_le hx.1
  obtain ⟨Y, rfl⟩ := Int.eq_ofNat_of_zero_le hy.1
  have hX : X < 18446744073709551616 := by omega
  have hY : Y < 18446744073709551616 := by omega
  by_cases q1 : n < 0
  · go_enter Try.func7, Try.ntmps7
    go_wp2_with fail
    refine (heads_c _).mono ?_
    rintro e w9 ⟨rfl, hb⟩
    go_wp2
    go_ret
    exact ⟨rfl, hb⟩
  by_cases q2 : 62 < n
  · go_enter Try.func7, Try.ntmps7
    go_wp2_with fail
    refine (heads_c _).mono ?_
    rintro e w9 ⟨rfl, hb⟩
    go_wp2
    go_ret
    exact ⟨rfl, hb⟩
  obtain ⟨m, rfl⟩ := Int.eq_ofNat_of_zero_le (show 0 ≤ n by omega)
  have hm : m ≤ 62 := by omega
  have A1 : bits .and .u64 (X : Int) (IntKind.u64.wrap (IntKind.u64.wrap (2 ^ m) - 1)) = ((X % 2 ^ m : Nat) : Int) := and_low X m hX (by omega)
  have A2 : bits .and .u64 (Y : Int) (IntKind.u64.wrap (IntKind.u64.wrap (2 ^ m) - 1)) = ((Y % 2 ^ m : Nat) : Int) := and_low Y m hY (by omega)
  have m64 : (m : Int) < 64 := by omega
  have a1 : X % 2 ^ m ≤ X := Nat.mod_le _ _
  have a2 : Y % 2 ^ m ≤ Y := Nat.mod_le _ _
  have r1 : X % 2 ^ m % 2 ^ m = X % 2 ^ m := Nat.mod_mod _ _
  have r2 : Y % 2 ^ m % 2 ^ m = Y % 2 ^ m := Nat.mod_mod _ _
  generalize X % 2 ^ m = A at *
  generalize Y % 2 ^ m = B at *
  have bA : A < 18446744073709551616 := by omega
  have bB : B < 18446744073709551616 := by omega
  have OR : cnt A m = cnt B m → ((A < B) ↔ off A m < off B m) := fun h => by
    have := off_lt_iff m A B h
    rw [r1, r2] at this
    exact this
  have OE : cnt A m = cnt B m → off A m = off B m → A = B := fun h e => by
    have := off_same m A B h e
    rw [r1, r2] at this
    exact this
  have H1 : Hid (∀ w0, Calls Try.prog 13 #[.int .u64 A, .int .i64 m] w0 fun e w' => e = .returned (.tuple #[.int .i64 (cnt A m), .int .u64 (off A m)]) ∧ Below w0.heap.size w0 w') := fun w0 => by
    have := offset_c A m (by omega) (by omega) w0
    unfold ofK ofO at this
    rw [if_neg (by omega), if_neg (by omega), Int.toNat_natCast] at this
    exact this
  have H2 : Hid (∀ w0, Calls Try.prog 13 #[.int .u64 B, .int .i64 m] w0 fun e w' => e = .returned (.tuple #[.int .i64 (cnt B m), .int .u64 (off B m)]) ∧ Below w0.heap.size w0 w') := fun w0 => by
    have := offset_c B m (by omega) (by omega) w0
    unfold ofK ofO at this
    rw [if_neg (by omega), if_neg (by omega), Int.toNat_natCast] at this
    exact this
  clear r1 r2
  have EO : A = B → off A m = off B m := fun h => by rw [h]
  have EK : A = B → cnt A m = cnt B m := fun h => by rw [h]
  generalize cnt A m = K at *
  generalize cnt B m = L at *
  generalize off A m = P at *
  generalize off B m = Q at *
  by_cases hK : K = L
  · subst hK
    have OR2 := OR rfl
    have OE2 := OE rfl
    clear OR OE EK
    rcases Nat.lt_trichotomy A B with c | c | c
    · have d1 : P < Q := OR2.1 c
      have d2 : (A : Int) < (B : Int) := by omega
      have d3 : (P : Int) < (Q : Int) := by omega
      have d4 : ((A : Int) == (B : Int)) = false := by simp; omega
      have d5 : ((P : Int) == (Q : Int)) = false := by simp; omega
      clear OR2 OE2 EO
      go_enter Try.func7, Try.ntmps7
      go_wp2_with fail
      refine (H1.out _).mono ?_
      rintro e w1 ⟨rfl, hb⟩
      have hw : Below w.heap.size w w1 := hb
      clear hb
      go_wp2_with fail
      refine (H2.out _).mono ?_
      rintro e w2 ⟨rfl, hb⟩
      replace hw := hw.trans (hb.mono hw.size)
      clear hb
      go_wp2_with fail
      refine (heads_c _).mono ?_
      rintro e w3 ⟨rfl, hb⟩
      replace hw := hw.trans (hb.mono hw.size)
      clear hb
      go_wp2
      go_ret
      exact ⟨rfl, hw⟩
    · have d1 : P = Q := EO c
      subst c
      subst d1
      clear OR2 OE2 EO
      go_enter Try.func7, Try.ntmps7
      go_wp2_with fail
      refine (H1.out _).mono ?_
      rintro e w1 ⟨rfl, hb⟩
      have hw : Below w.heap.size w w1 := hb
      clear hb
      go_wp2_with fail
      refine (H1.out _).mono ?_
      rintro e w2 ⟨rfl, hb⟩
      replace hw := hw.trans (hb.mono hw.size)
      clear hb
      go_wp2_with fail
      refine (heads_c _).mono ?_
      rintro e w3 ⟨rfl, hb⟩
      replace hw := hw.trans (hb.mono hw.size)
      clear hb
      go_wp2
      go_ret
      exact ⟨rfl, hw⟩
    · have d0 : ¬ P < Q := fun h => by have := OR2.2 h; omega
      have d1 : ¬ P = Q := fun h => by have := OE2 h; omega
      have d2 : ¬ (A : Int) < (B : Int) := by omega
      have d6 : decide (A < B) = false := by simp; omega
      have d3 : ¬ (P : Int) < (Q : Int) := by omega
      have d4 : ((A : Int) == (B : Int)) = false := by simp; omega
      have d5 : ((P : Int) == (Q : Int)) = false := by simp; omega
      clear OR2 OE2 EO
      go_enter Try.func7, Try.ntmps7
      go_wp2_with fail
      refine (H1.out _).mono ?_
      rintro e w1 ⟨rfl, hb⟩
      have hw : Below w.heap.size w w1 := hb
      clear hb
      go_wp2_with fail
      refine (H2.out _).mono ?_
      rintro e w2 ⟨rfl, hb⟩
      replace hw := hw.trans (hb.mono hw.size)
      clear hb
      go_wp2_with fail
      refine (heads_c _).mono ?_
      rintro e w3 ⟨rfl, hb⟩
      replace hw := hw.trans (hb.mono hw.size)
      clear hb
      go_wp2
      go_ret
      exact ⟨rfl, hw⟩
  · have d1 : ((K : Int) != (L : Int)) = true := by simp; omega
    clear OR OE EO EK
    go_enter Try.func7, Try.ntmps7
    go_wp2_with fail
    refine (H1.out _).mono ?_
    rintro e w1 ⟨rfl, hb⟩
    have hw : Below w.heap.size w w1 := hb
    clear hb
    go_wp2_with fail
    refine (H2.out _).mono ?_
    rintro e w2 ⟨rfl, hb⟩
    replace hw := hw.trans (hb.mono hw.size)
    clear hb
    go_wp2_with fail
    refine (heads_c _).mono ?_
    rintro e w3 ⟨rfl, hb⟩
    replace hw := hw.trans (hb.mono hw.size)
    clear hb
    go_wp2
    go_ret
    exact ⟨rfl, hw⟩

theorem lifted (os : Os) (started : os.Started) (H : Type) (enc : TypeId × Value → H) :
    ReturnsInHanded {} Try.checked os 7 .any (Rows.binomOrderSpec.pre6 enc Try.prog Try.f7 Rows.binomOrderRow.domain false) (Rows.binomOrderSpec.post enc Try.prog Try.f7 false true false false) := by
  refine returnsInHanded_of_change (C := Try.checked) own started (by kernel_rfl) Try.func7
    (ChangeSpec.witness6 (enc := enc) (C := Try.checked) false ⟨#[], #[.int .u64 0, .int .u64 0, .int .i64 0], []⟩ 8 (by kernel_rfl) (by kernel_rfl) (by kernel_rfl) (by kernel_rfl)) ?_
  intro W base args ds gs before hval0 hW hcnd _
  have hval : ∀ (j : Nat) t v, Try.f7.params[j]? = some t → args[j]? = some v → Value.okWide Try.prog W .any base t v := hval0
  have hW' := hW
  obtain ⟨p, q, hA0, hV, rfl, hfz, hnd⟩ := hW
  have hA : DataW.TrodAll enc Try.prog W 0 (fun _ => true) true Try.f7.params.toList args.toList ds p := hA0
  rw [Try.params7] at hA hval
  obtain ⟨v0, vs0, d0, ds0, p0, q0, hargs, rfl, rfl, h0, r0⟩ := trodAll_cons hA
  obtain ⟨v1, vs1, d1, ds1, p1, q1, rfl, rfl, rfl, h1, r1⟩ := trodAll_cons r0
  obtain ⟨v2, vs2, d2, ds2, p2, q2, rfl, rfl, rfl, h2, r2⟩ := trodAll_cons r1
  obtain ⟨rfl, rfl, rfl⟩ := trodAll_nil r2
  obtain rfl : args = #[v0, v1, v2] := by cases args; simp_all
  obtain ⟨rfl, rfl⟩ := trodVars_none hV
  obtain ⟨x, rfl, rfl, rfl, w0⟩ := open_int Try.underlying22 (hval 0 22 v0 rfl rfl) h0
  obtain ⟨y, rfl, rfl, rfl, w1⟩ := open_int Try.underlying22 (hval 1 22 v1 rfl rfl) h1
  obtain ⟨n, rfl, rfl, rfl, w2⟩ := open_int Try.underlying3 (hval 2 3 v2 rfl rfl) h2
  clear hA0 hval0
  refine (walk W x (u64_wf _ w0) y (u64_wf _ w1) n (i64_wf _ w2)).mono fun e W' ⟨he, bel⟩ => ?_
  subst he
  exact ⟨_, rfl, _, _, _, [], _, [], hW', trodAll_mk1 (shut_bool Try.underlying4 _), (trodAll_cons_mk (shut_int Try.underlying22 w0) (trodAll_cons_mk (shut_int Try.underlying22 w1) (trodAll_cons_mk (shut_int Try.underlying3 w2) trodAll_mk0))), rfl, bel.frame _, fun h => by cases h⟩

theorem over : Rows.binomOrderRow.holds Try.pinned (OpenSpec.ofChange Rows.binomOrderSpec) :=
  OpenClaim.holds_of_wide 7 Try.f7 rfl rfl rfl rfl rfl rfl rfl ⟨rfl, rfl, rfl, rfl, rfl⟩ rfl rfl rfl rfl rfl (by kernel_rfl) Try.func7 (by kernel_rfl)
    (of_decide_eq_true (by kernel_rfl)) (by unfold Func.isWrapper; first | (rw [if_pos (by decide +kernel)]; kernel_rfl) | (rw [if_neg (by decide +kernel)]; exact ⟨rfl, rfl⟩))
    (fun os started H enc _ => lifted os started H enc)

theorem proved : Rows.BinomOrderSaid := over
end Go.Proofs.Ytjbabnnibocdfaa.binomOrder
namespace Go.Proofs.Ytjbabnnibocdfaa
theorem binomOrder_holds : Rows.BinomOrderSaid := binomOrder.proved
#print axioms binomOrder_holds
end Go.Proofs.Ytjbabnnibocdfaa
