/-
  SuffixLess: of two ends one is ahead, unless they are one.
-/
import Derived.Test.YtlconniheakalaaRq
import Derived.ChangeOld
namespace Go.Proofs.Ytlconniheakalaa.suffixLess
open Go.ChangeShapes Go.WideShapes Go.ChangeAt Go.RowKit
set_option linter.unusedVariables false
set_option linter.unusedSimpArgs false
set_option maxRecDepth 100000

theorem take10 {w : World} {ao : Option Addr} {t : List Nat} (h : Bd w ao t) (n : Nat) : Bd w ao (t.take n) := by
  by_cases c : n ≤ t.length
  · exact h.take n c
  · rw [List.take_of_length_le (by omega)]; exact h

set_option maxHeartbeats 8000000 in
theorem walk (w : World) (ot : Option Addr) (t : List Nat) (ct : Nat) (Xt : Bd w ot t) (Ft : Bytes t) (Ct : t.length ≤ ct) (i : Int) (hi_ : -9223372036854775808 ≤ i ∧ i ≤ 9223372036854775807) (j : Int) (hj_ : -9223372036854775808 ≤ j ∧ j ≤ 9223372036854775807) :
    Calls Try.prog 6 #[.slice ot t.length ct, .int .i64 i, .int .i64 j] w fun e w' => e = .returned (.bool true) ∧ Below w.heap.size w w' := by
  have HB := hide (Below.refl w.heap.size w)
  have MM : Hid (∀ w0, Below w.heap.size w w0 → Calls Try.prog 14 #[.slice ot (min (t.length : Int) 10).toNat ct, .int .i64 (-1), .int .i64 0] w0 fun e w' => e = .returned (.bool false) ∧ Below w0.heap.size w0 w') := fun w0 h => by
    have := sless_c ot (t.take 10) ct (-1) 0 w0 (take10 (Xt.keep h) 10) (Ft.take 10) (by rw [List.length_take]; omega) (by rw [List.length_take]; omega)
    rw [less_out _ _ _ (by omega), List.length_take, show min 10 t.length = (min (t.length : Int) 10).toNat by omega] at this
    exact this
  have ML : Hid (10 ≤ t.length → ∀ w0, Below w.heap.size w w0 → Calls Try.prog 14 #[.slice ot (min (t.length : Int) 10).toNat ct, .int .i64 (-1), .int .i64 0] w0 fun e w' => e = .returned (.bool false) ∧ Below w0.heap.size w0 w') := fun _ => MM.out
  have MS : Hid (t.length ≤ 10 → ∀ w0, Below w.heap.size w w0 → Calls Try.prog 14 #[.slice ot (min (t.length : Int) 10).toNat ct, .int .i64 (-1), .int .i64 0] w0 fun e w' => e = .returned (.bool false) ∧ Below w0.heap.size w0 w') := fun _ => MM.out
  clear MM
  by_cases hL : 3000 < t.length
  · clear Xt Ft
    have hL2 : (3000 : Int) < (t.length : Int) := by omega
    by_cases h10 : (t.length : Int) ≤ 10
    · omega
    · have M := hide (ML.out (by omega))
      have hct : (10 : Int) ≤ (ct : Int) := by omega
      clear MS ML
      go_enter Try.func6, Try.ntmps6
      go_wp2_with fail
      refine (M.out _ HB.out).mono ?_
      rintro e w1 ⟨rfl, hb⟩
      replace HB := hide (HB.out.trans (hb.mono HB.out.size))
      clear hb
      go_wp2_with fail
      refine (heads17_c _).mono ?_
      rintro e w2 ⟨rfl, hb⟩
      replace HB := hide (HB.out.trans (hb.mono HB.out.size))
      clear hb
      go_wp2
      go_ret
      exact ⟨rfl, HB.out⟩
  have hL2 : ¬ (3000 : Int) < (t.length : Int) := by omega
  by_cases h1 : i < 0
  · clear Xt Ft
    by_cases h10 : (t.length : Int) ≤ 10
    · have M := hide (MS.out (by omega))
      clear MS ML
      go_enter Try.func6, Try.ntmps6
      go_wp2_with fail
      refine (M.out _ HB.out).mono ?_
      rintro e w1 ⟨rfl, hb⟩
      replace HB := hide (HB.out.trans (hb.mono HB.out.size))
      clear hb
      go_wp2_with fail
      refine (heads17_c _).mono ?_
      rintro e w2 ⟨rfl, hb⟩
      replace HB := hide (HB.out.trans (hb.mono HB.out.size))
      clear hb
      go_wp2
      go_ret
      exact ⟨rfl, HB.out⟩
    · have M := hide (ML.out (by omega))
      have hct : (10 : Int) ≤ (ct : Int) := by omega
      clear MS ML
      go_enter Try.func6, Try.ntmps6
      go_wp2_with fail
      refine (M.out _ HB.out).mono ?_
      rintro e w1 ⟨rfl, hb⟩
      replace HB := hide (HB.out.trans (hb.mono HB.out.size))
      clear hb
      go_wp2_with fail
      refine (heads17_c _).mono ?_
      rintro e w2 ⟨rfl, hb⟩
      replace HB := hide (HB.out.trans (hb.mono HB.out.size))
      clear hb
      go_wp2
      go_ret
      exact ⟨rfl, HB.out⟩
  by_cases h2 : j < 0
  · clear Xt Ft
    by_cases h10 : (t.length : Int) ≤ 10
    · have M := hide (MS.out (by omega))
      clear MS ML
      go_enter Try.func6, Try.ntmps6
      go_wp2_with fail
      refine (M.out _ HB.out).mono ?_
      rintro e w1 ⟨rfl, hb⟩
      replace HB := hide (HB.out.trans (hb.mono HB.out.size))
      clear hb
      go_wp2_with fail
      refine (heads17_c _).mono ?_
      rintro e w2 ⟨rfl, hb⟩
      replace HB := hide (HB.out.trans (hb.mono HB.out.size))
      clear hb
      go_wp2
      go_ret
      exact ⟨rfl, HB.out⟩
    · have M := hide (ML.out (by omega))
      have hct : (10 : Int) ≤ (ct : Int) := by omega
      clear MS ML
      go_enter Try.func6, Try.ntmps6
      go_wp2_with fail
      refine (M.out _ HB.out).mono ?_
      rintro e w1 ⟨rfl, hb⟩
      replace HB := hide (HB.out.trans (hb.mono HB.out.size))
      clear hb
      go_wp2_with fail
      refine (heads17_c _).mono ?_
      rintro e w2 ⟨rfl, hb⟩
      replace HB := hide (HB.out.trans (hb.mono HB.out.size))
      clear hb
      go_wp2
      go_ret
      exact ⟨rfl, HB.out⟩
  by_cases h3 : (t.length : Int) < i
  · clear Xt Ft
    by_cases h10 : (t.length : Int) ≤ 10
    · have M := hide (MS.out (by omega))
      clear MS ML
      go_enter Try.func6, Try.ntmps6
      go_wp2_with fail
      refine (M.out _ HB.out).mono ?_
      rintro e w1 ⟨rfl, hb⟩
      replace HB := hide (HB.out.trans (hb.mono HB.out.size))
      clear hb
      go_wp2_with fail
      refine (heads17_c _).mono ?_
      rintro e w2 ⟨rfl, hb⟩
      replace HB := hide (HB.out.trans (hb.mono HB.out.size))
      clear hb
      go_wp2
      go_ret
      exact ⟨rfl, HB.out⟩
    · have M := hide (ML.out (by omega))
      have hct : (10 : Int) ≤ (ct : Int) := by omega
      clear MS ML
      go_enter Try.func6, Try.ntmps6
      go_wp2_with fail
      refine (M.out _ HB.out).mono ?_
      rintro e w1 ⟨rfl, hb⟩
      replace HB := hide (HB.out.trans (hb.mono HB.out.size))
      clear hb
      go_wp2_with fail
      refine (heads17_c _).mono ?_
      rintro e w2 ⟨rfl, hb⟩
      replace HB := hide (HB.out.trans (hb.mono HB.out.size))
      clear hb
      go_wp2
      go_ret
      exact ⟨rfl, HB.out⟩
  by_cases h4 : (t.length : Int) < j
  · clear Xt Ft
    by_cases h10 : (t.length : Int) ≤ 10
    · have M := hide (MS.out (by omega))
      clear MS ML
      go_enter Try.func6, Try.ntmps6
      go_wp2_with fail
      refine (M.out _ HB.out).mono ?_
      rintro e w1 ⟨rfl, hb⟩
      replace HB := hide (HB.out.trans (hb.mono HB.out.size))
      clear hb
      go_wp2_with fail
      refine (heads17_c _).mono ?_
      rintro e w2 ⟨rfl, hb⟩
      replace HB := hide (HB.out.trans (hb.mono HB.out.size))
      clear hb
      go_wp2
      go_ret
      exact ⟨rfl, HB.out⟩
    · have M := hide (ML.out (by omega))
      have hct : (10 : Int) ≤ (ct : Int) := by omega
      clear MS ML
      go_enter Try.func6, Try.ntmps6
      go_wp2_with fail
      refine (M.out _ HB.out).mono ?_
      rintro e w1 ⟨rfl, hb⟩
      replace HB := hide (HB.out.trans (hb.mono HB.out.size))
      clear hb
      go_wp2_with fail
      refine (heads17_c _).mono ?_
      rintro e w2 ⟨rfl, hb⟩
      replace HB := hide (HB.out.trans (hb.mono HB.out.size))
      clear hb
      go_wp2
      go_ret
      exact ⟨rfl, HB.out⟩
  clear ML MS
  obtain ⟨i, rfl⟩ := Int.eq_ofNat_of_zero_le (show 0 ≤ i by omega)
  obtain ⟨j, rfl⟩ := Int.eq_ofNat_of_zero_le (show 0 ≤ j by omega)
  have L1 : Hid (∀ w0, Below w.heap.size w w0 → Calls Try.prog 14 #[.slice ot t.length ct, .int .i64 i, .int .i64 j] w0 fun e w' => e = .returned (.bool (Su.ah t i j)) ∧ Below w0.heap.size w0 w') := fun w0 h => by
    have := sless_c ot t ct i j w0 (Xt.keep h) Ft Ct (by omega)
    rw [less_in t i j (by omega) (by omega)] at this
    exact this
  have L2 : Hid (∀ w0, Below w.heap.size w w0 → Calls Try.prog 14 #[.slice ot t.length ct, .int .i64 j, .int .i64 i] w0 fun e w' => e = .returned (.bool (Su.ah t j i)) ∧ Below w0.heap.size w0 w') := fun w0 h => by
    have := sless_c ot t ct j i w0 (Xt.keep h) Ft Ct (by omega)
    rw [less_in t j i (by omega) (by omega)] at this
    exact this
  have k1 : (0 : Int) ≤ (i : Int) := by omega
  have k2 : (0 : Int) ≤ (j : Int) := by omega
  clear Xt Ft
  by_cases e : i = j
  · subst e
    rw [Su.ah_irr] at L1 L2
    have hne : ((i : Int) != (i : Int)) = false := by simp
    go_enter Try.func6, Try.ntmps6
    go_wp2_with fail
    refine (L1.out _ HB.out).mono ?_
    rintro e w1 ⟨rfl, hb⟩
    replace HB := hide (HB.out.trans (hb.mono HB.out.size))
    clear hb L1
    go_wp2_with fail
    refine (L2.out _ HB.out).mono ?_
    rintro e w2 ⟨rfl, hb⟩
    replace HB := hide (HB.out.trans (hb.mono HB.out.size))
    clear hb L2
    go_wp2_with fail
    refine (heads17_c _).mono ?_
    rintro e w3 ⟨rfl, hb⟩
    replace HB := hide (HB.out.trans (hb.mono HB.out.size))
    clear hb
    go_wp2
    go_ret
    exact ⟨rfl, HB.out⟩
  · have hne : ((i : Int) != (j : Int)) = true := by simp; omega
    rcases Su.ah_tri (t := t) (i := i) (j := j) (by omega) (by omega) e with q | q
    · have q2 : Su.ah t j i = false := Su.lt_asym q
      rw [q] at L1
      rw [q2] at L2
      clear q q2 e
      go_enter Try.func6, Try.ntmps6
      go_wp2_with fail
      refine (L1.out _ HB.out).mono ?_
      rintro e w1 ⟨rfl, hb⟩
      replace HB := hide (HB.out.trans (hb.mono HB.out.size))
      clear hb L1
      go_wp2_with fail
      refine (L2.out _ HB.out).mono ?_
      rintro e w2 ⟨rfl, hb⟩
      replace HB := hide (HB.out.trans (hb.mono HB.out.size))
      clear hb L2
      go_wp2_with fail
      refine (heads17_c _).mono ?_
      rintro e w3 ⟨rfl, hb⟩
      replace HB := hide (HB.out.trans (hb.mono HB.out.size))
      clear hb
      go_wp2
      go_ret
      exact ⟨rfl, HB.out⟩
    · have q2 : Su.ah t i j = false := Su.lt_asym q
      rw [q2] at L1
      rw [q] at L2
      clear q q2 e
      go_enter Try.func6, Try.ntmps6
      go_wp2_with fail
      refine (L1.out _ HB.out).mono ?_
      rintro e w1 ⟨rfl, hb⟩
      replace HB := hide (HB.out.trans (hb.mono HB.out.size))
      clear hb L1
      go_wp2_with fail
      refine (L2.out _ HB.out).mono ?_
      rintro e w2 ⟨rfl, hb⟩
      replace HB := hide (HB.out.trans (hb.mono HB.out.size))
      clear hb L2
      go_wp2_with fail
      refine (heads17_c _).mono ?_
      rintro e w3 ⟨rfl, hb⟩
      replace HB := hide (HB.out.trans (hb.mono HB.out.size))
      clear hb
      go_wp2
      go_ret
      exact ⟨rfl, HB.out⟩


theorem lifted (os : Os) (started : os.Started) (H : Type) (enc : TypeId × Value → H) :
    ReturnsInHanded {} Try.checked os 6 .any (Rows.suffixLessSpec.pre6 enc Try.prog Try.f6 Rows.suffixLessRow.domain false) (Rows.suffixLessSpec.post enc Try.prog Try.f6 false true false false) := by
  refine returnsInHanded_of_change (C := Try.checked) own started (by kernel_rfl) Try.func6
    (ChangeSpec.witness6 (enc := enc) (C := Try.checked) false ⟨#[], #[.slice none 0 0, .int .i64 0, .int .i64 0], []⟩ 8 (by kernel_rfl) (by kernel_rfl) (by kernel_rfl) (by kernel_rfl)) ?_
  intro W base args ds gs before hval0 hW hcnd _
  have hval : ∀ (j : Nat) t v, Try.f6.params[j]? = some t → args[j]? = some v → Value.okWide Try.prog W .any base t v := hval0
  have hW' := hW
  obtain ⟨p, q, hA0, hV, rfl, hfz, hnd⟩ := hW
  have hA : DataW.TrodAll enc Try.prog W 0 (fun _ => true) true Try.f6.params.toList args.toList ds p := hA0
  rw [Try.params6] at hA hval
  obtain ⟨v0, vs0, d0, ds0, p0, q0, hargs, rfl, rfl, h0, r0⟩ := trodAll_cons hA
  obtain ⟨v1, vs1, d1, ds1, p1, q1, rfl, rfl, rfl, h1, r1⟩ := trodAll_cons r0
  obtain ⟨v2, vs2, d2, ds2, p2, q2, rfl, rfl, rfl, h2, r2⟩ := trodAll_cons r1
  obtain ⟨rfl, rfl, rfl⟩ := trodAll_nil r2
  obtain rfl : args = #[v0, v1, v2] := by cases args; simp_all
  obtain ⟨rfl, rfl⟩ := trodVars_none hV
  have k0 := h0
  have lt0 : ∀ x ∈ p0, x.block < W.heap.size := by obtain ⟨m, hm⟩ := k0; exact DataW.trod_lt m _ _ _ hm
  obtain ⟨ot, t, ct, rfl, b01, b02, b03⟩ := open_bytes (hval 0 22 v0 rfl rfl) h0
  obtain ⟨i, rfl, rfl, rfl, w1⟩ := open_int Try.underlying3 (hval 1 3 v1 rfl rfl) h1
  obtain ⟨j, rfl, rfl, rfl, w2⟩ := open_int Try.underlying3 (hval 2 3 v2 rfl rfl) h2
  clear hA0 hval0
  refine (walk W ot t ct b01 b02 b03 i (i64_wf _ w1) j (i64_wf _ w2)).mono fun e W' ⟨he, bel⟩ => ?_
  subst he
  exact ⟨_, rfl, _, _, _, [], _, [], hW', trodAll_mk1 (shut_bool Try.underlying4 _), (trodAll_cons_mk (Below.trod laidOut (by kernel_rfl) (of_decide_eq_true (by kernel_rfl)) k0 bel lt0) (trodAll_cons_mk (shut_int Try.underlying3 w1) (trodAll_cons_mk (shut_int Try.underlying3 w2) trodAll_mk0))), rfl, bel.frame _, fun h => by cases h⟩

theorem over : Rows.suffixLessRow.holds Try.pinned (OpenSpec.ofChange Rows.suffixLessSpec) :=
  OpenClaim.holds_of_wide 6 Try.f6 rfl rfl rfl rfl rfl rfl rfl ⟨rfl, rfl, rfl, rfl, rfl⟩ rfl rfl rfl rfl rfl (by kernel_rfl) Try.func6 (by kernel_rfl)
    (of_decide_eq_true (by kernel_rfl)) (by unfold Func.isWrapper; first | (rw [if_pos (by decide +kernel)]; kernel_rfl) | (rw [if_neg (by decide +kernel)]; exact ⟨rfl, rfl⟩))
    (fun os started H enc _ => lifted os started H enc)

theorem proved : Rows.SuffixLessSaid := over
end Go.Proofs.Ytlconniheakalaa.suffixLess
namespace Go.Proofs.Ytlconniheakalaa
theorem suffixLess_holds : Rows.SuffixLessSaid := suffixLess.proved
#print axioms suffixLess_holds
end Go.Proofs.Ytlconniheakalaa
