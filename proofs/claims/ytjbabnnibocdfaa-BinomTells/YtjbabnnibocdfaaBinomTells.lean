/-
  BinomTells: ways, places and words are what the document says.
-/
import Derived.Test.YtjbabnnibocdfaaBh
import Derived.Test.YtjbabnnibocdfaaBh
import Derived.ChangeOld
namespace Go.Proofs.Ytjbabnnibocdfaa.binomTells
open Go.ChangeShapes Go.WideShapes Go.ChangeAt Go.RowKit Num Bn Ow
set_option linter.unusedVariables false
set_option linter.unusedSimpArgs false
set_option maxRecDepth 100000


set_option maxHeartbeats 4000000 in
theorem walk (w : World) (n : Int) (hn : -9223372036854775808 ≤ n ∧ n ≤ 9223372036854775807) (k : Int) (hk : -9223372036854775808 ≤ k ∧ k ≤ 9223372036854775807) (x : Int) (hx : 0 ≤ x ∧ x < 18446744073709551616) (o : Int) (ho : 0 ≤ o ∧ o < 18446744073709551616) :
    Calls Try.prog 5 #[.int .i64 n, .int .i64 k, .int .u64 x, .int .u64 o] w fun e w' => e = .returned (.bool true) ∧ Below w.heap.size w w' := by
  obtain ⟨X, rfl⟩ := Int.eq_ofNat_of_zero_le hx.1
  obtain ⟨O, rfl⟩ := Int.eq_ofNat_of_zero_le ho.1
  have hX : X < 18446744073709551616 := by omega
  have hO : O < 18446744073709551616 := by omega
  have H1 : Hid (∀ w0, Calls Try.prog 13 #[.int .u64 X, .int .i64 n] w0 fun e w' => e = .returned (.tuple #[.int .i64 (ofK X n), .int .u64 (ofO X n)]) ∧ Below w0.heap.size w0 w') := fun w0 => offset_c X n hX hn w0
  have H2 : Hid (∀ w0, Calls Try.prog 14 #[.int .u64 X, .int .i64 n] w0 fun e w' => e = .returned (.tuple #[.int .i64 (ofK X n), .int .u64 (ofO X n)]) ∧ Below w0.heap.size w0 w') := fun w0 => roffset_c X n hX hn.1 hn.2 w0
  have H3 : Hid (∀ w0, Calls Try.prog 12 #[.int .i64 n, .int .i64 k, .int .u64 O] w0 fun e w' => e = .returned (.tuple #[.int .u64 (bkX n k O), .bool (bkB n k O)]) ∧ Below w0.heap.size w0 w') := fun w0 => block_c n k O hn hk hO w0
  have H4 : Hid (∀ w0, Calls Try.prog 15 #[.int .i64 n, .int .i64 k, .int .u64 O] w0 fun e w' => e = .returned (.tuple #[.int .u64 (bkX n k O), .bool (bkB n k O)]) ∧ Below w0.heap.size w0 w') := fun w0 => rblock_c n k O hO w0
  have H5 : Hid (∀ w0, Calls Try.prog 9 #[.int .i64 n, .int .i64 k] w0 fun e w' => e = .returned (.int .u64 (chN n k)) ∧ Below w0.heap.size w0 w') := fun w0 => choose_c n k hn hk w0
  have H6 : Hid (∀ w0, Calls Try.prog 16 #[.int .i64 n, .int .i64 k] w0 fun e w' => e = .returned (.int .u64 (chN n k)) ∧ Below w0.heap.size w0 w') := fun w0 => rchoose_c n k w0
  have H7 : Hid (∀ w0, Calls Try.prog 11 #[.int .i64 n, .int .i64 k] w0 fun e w' => e = .returned (.int .i64 (wdN n k)) ∧ Below w0.heap.size w0 w') := fun w0 => width_c n k hn hk w0
  have H8 : Hid (∀ w0, Calls Try.prog 17 #[.int .i64 n, .int .i64 k] w0 fun e w' => e = .returned (.int .i64 (wdN n k)) ∧ Below w0.heap.size w0 w') := fun w0 => rwidth_c n k w0
  generalize ofK X n = Z0 at *
  generalize ofO X n = Z1 at *
  generalize bkX n k O = Z2 at *
  generalize bkB n k O = Z3 at *
  generalize wdN n k = Z4 at *
  generalize chN n k = Z5 at *
  go_enter Try.func5, Try.ntmps5
  go_wp2_with fail
  refine (H1.out _).mono ?_
  rintro e w1 ⟨rfl, hb⟩
  have hw : Below w.heap.size w w1 := hb
  clear hb
  go_wp2_with fail
  refine (H2.out _).mono ?_
  rintro e w2 ⟨rfl, hb⟩
  replace hw := hw.trans (hb.mono hw.size)
  clear hb
  go_wp2_with fail
  refine (H3.out _).mono ?_
  rintro e w3 ⟨rfl, hb⟩
  replace hw := hw.trans (hb.mono hw.size)
  clear hb
  go_wp2_with fail
  refine (H4.out _).mono ?_
  rintro e w4 ⟨rfl, hb⟩
  replace hw := hw.trans (hb.mono hw.size)
  clear hb
  go_wp2_with fail
  refine (H5.out _).mono ?_
  rintro e w5 ⟨rfl, hb⟩
  replace hw := hw.trans (hb.mono hw.size)
  clear hb
  go_wp2_with fail
  refine (H6.out _).mono ?_
  rintro e w6 ⟨rfl, hb⟩
  replace hw := hw.trans (hb.mono hw.size)
  clear hb
  go_wp2_with fail
  refine (H7.out _).mono ?_
  rintro e w7 ⟨rfl, hb⟩
  replace hw := hw.trans (hb.mono hw.size)
  clear hb
  go_wp2_with fail
  refine (H8.out _).mono ?_
  rintro e w8 ⟨rfl, hb⟩
  replace hw := hw.trans (hb.mono hw.size)
  clear hb
  go_wp2_with fail
  refine (heads_c _).mono ?_
  rintro e w9 ⟨rfl, hb⟩
  replace hw := hw.trans (hb.mono hw.size)
  clear hb
  go_wp2
  go_ret
  exact ⟨rfl, hw⟩

theorem lifted (os : Os) (started : os.Started) (H : Type) (enc : TypeId × Value → H) :
    ReturnsInHanded {} Try.checked os 5 .any (Rows.binomTellsSpec.pre6 enc Try.prog Try.f5 Rows.binomTellsRow.domain false) (Rows.binomTellsSpec.post enc Try.prog Try.f5 false true false false) := by
  refine returnsInHanded_of_change (C := Try.checked) own started (by kernel_rfl) Try.func5
    (ChangeSpec.witness6 (enc := enc) (C := Try.checked) false ⟨#[], #[.int .i64 0, .int .i64 0, .int .u64 0, .int .u64 0], []⟩ 8 (by kernel_rfl) (by kernel_rfl) (by kernel_rfl) (by kernel_rfl)) ?_
  intro W base args ds gs before hval0 hW hcnd _
  have hval : ∀ (j : Nat) t v, Try.f5.params[j]? = some t → args[j]? = some v → Value.okWide Try.prog W .any base t v := hval0
  have hW' := hW
  obtain ⟨p, q, hA0, hV, rfl, hfz, hnd⟩ := hW
  have hA : DataW.TrodAll enc Try.prog W 0 (fun _ => true) true Try.f5.params.toList args.toList ds p := hA0
  rw [Try.params5] at hA hval
  obtain ⟨v0, vs0, d0, ds0, p0, q0, hargs, rfl, rfl, h0, r0⟩ := trodAll_cons hA
  obtain ⟨v1, vs1, d1, ds1, p1, q1, rfl, rfl, rfl, h1, r1⟩ := trodAll_cons r0
  obtain ⟨v2, vs2, d2, ds2, p2, q2, rfl, rfl, rfl, h2, r2⟩ := trodAll_cons r1
  obtain ⟨v3, vs3, d3, ds3, p3, q3, rfl, rfl, rfl, h3, r3⟩ := trodAll_cons r2
  obtain ⟨rfl, rfl, rfl⟩ := trodAll_nil r3
  obtain rfl : args = #[v0, v1, v2, v3] := by cases args; simp_all
  obtain ⟨rfl, rfl⟩ := trodVars_none hV
  obtain ⟨n, rfl, rfl, rfl, w0⟩ := open_int Try.underlying3 (hval 0 3 v0 rfl rfl) h0
  obtain ⟨k, rfl, rfl, rfl, w1⟩ := open_int Try.underlying3 (hval 1 3 v1 rfl rfl) h1
  obtain ⟨x, rfl, rfl, rfl, w2⟩ := open_int Try.underlying22 (hval 2 22 v2 rfl rfl) h2
  obtain ⟨o, rfl, rfl, rfl, w3⟩ := open_int Try.underlying22 (hval 3 22 v3 rfl rfl) h3
  clear hA0 hval0
  refine (walk W n (i64_wf _ w0) k (i64_wf _ w1) x (u64_wf _ w2) o (u64_wf _ w3)).mono fun e W' ⟨he, bel⟩ => ?_
  subst he
  exact ⟨_, rfl, _, _, _, [], _, [], hW', trodAll_mk1 (shut_bool Try.underlying4 _), (trodAll_cons_mk (shut_int Try.underlying3 w0) (trodAll_cons_mk (shut_int Try.underlying3 w1) (trodAll_cons_mk (shut_int Try.underlying22 w2) (trodAll_cons_mk (shut_int Try.underlying22 w3) trodAll_mk0)))), rfl, bel.frame _, fun h => by cases h⟩

theorem over : Rows.binomTellsRow.holds Try.pinned (OpenSpec.ofChange Rows.binomTellsSpec) :=
  OpenClaim.holds_of_wide 5 Try.f5 rfl rfl rfl rfl rfl rfl rfl ⟨rfl, rfl, rfl, rfl, rfl⟩ rfl rfl rfl rfl rfl (by kernel_rfl) Try.func5 (by kernel_rfl)
    (of_decide_eq_true (by kernel_rfl)) (by unfold Func.isWrapper; first | (rw [if_pos (by decide +kernel)]; kernel_rfl) | (rw [if_neg (by decide +kernel)]; exact ⟨rfl, rfl⟩))
    (fun os started H enc _ => lifted os started H enc)

theorem proved : Rows.BinomTellsSaid := over
end Go.Proofs.Ytjbabnnibocdfaa.binomTells
namespace Go.Proofs.Ytjbabnnibocdfaa
theorem binomTells_holds : Rows.BinomTellsSaid := binomTells.proved
#print axioms binomTells_holds
end Go.Proofs.Ytjbabnnibocdfaa
