/-
  SuffixTells: what the order of ends is.
-/
import Derived.Test.YtlconniheakalaaRq
import Derived.ChangeOld
namespace Go.Proofs.Ytlconniheakalaa.suffixTells
open Go.ChangeShapes Go.WideShapes Go.ChangeAt Go.RowKit
set_option linter.unusedVariables false
set_option linter.unusedSimpArgs false
set_option maxRecDepth 100000


set_option maxHeartbeats 8000000 in
theorem walk (w : World) (ot : Option Addr) (t : List Nat) (ct : Nat) (Xt : Bd w ot t) (Ft : Bytes t) (Ct : t.length ≤ ct) (i : Int) (hi_ : -9223372036854775808 ≤ i ∧ i ≤ 9223372036854775807) (j : Int) (hj_ : -9223372036854775808 ≤ j ∧ j ≤ 9223372036854775807) (ol : Option Addr) (l : List Int) (cl : Nat) (Xl : Nd w ol l) (Fl : FitI l) (Cl : l.length ≤ cl) :
    Calls Try.prog 4 #[.slice ot t.length ct, .int .i64 i, .int .i64 j, .slice ol l.length cl] w fun e w' => e = .returned (.bool true) ∧ Below w.heap.size w w' := by
  by_cases hL : 1000 < t.length
  · have hL2 : (1000 : Int) < (t.length : Int) := by omega
    go_enter Try.func4, Try.ntmps4
    go_wp2_with fail
    refine (heads17_c _).mono ?_
    rintro e w9 ⟨rfl, hb⟩
    go_wp2
    go_ret
    exact ⟨rfl, hb⟩
  have hL2 : ¬ (1000 : Int) < (t.length : Int) := by omega
  by_cases hM : 2000 < l.length
  · have hM2 : (2000 : Int) < (l.length : Int) := by omega
    go_enter Try.func4, Try.ntmps4
    go_wp2_with fail
    refine (heads17_c _).mono ?_
    rintro e w9 ⟨rfl, hb⟩
    go_wp2
    go_ret
    exact ⟨rfl, hb⟩
  have hM2 : ¬ (2000 : Int) < (l.length : Int) := by omega
  have A1 : Hid (∀ w0, Below w.heap.size w w0 → Calls Try.prog 9 #[.slice ot t.length ct] w0 (ArrQ t w0)) := fun w0 h => sarr_c ot t ct w0 (Xt.keep h) Ft Ct
  have A2 : Hid (∀ w0, Below w.heap.size w w0 → Calls Try.prog 10 #[.slice ot t.length ct] w0 (ArrQ t w0)) := fun w0 h => rarr_a ot t ct w0 (Xt.keep h) Ft Ct
  have I1 : Hid (∀ w0, Below w.heap.size w w0 → Calls Try.prog 11 #[.slice ol l.length cl] w0 fun e w' => ∃ bo dap, e = .returned (.tuple #[.slice bo (Su.invL l).length dap, .int .i64 (Su.invE l)]) ∧ Nd w' bo (toI (Su.invL l)) ∧ (Su.invL l).length ≤ dap ∧ Below w0.heap.size w0 w') := fun w0 h => sinv_c ol l cl w0 (Xl.keep h) (by omega)
  have I2 : Hid (∀ w0, Below w.heap.size w w0 → Calls Try.prog 12 #[.slice ol l.length cl] w0 fun e w' => ∃ bo dap, e = .returned (.tuple #[.slice bo (Su.invL l).length dap, .int .i64 (Su.invE l)]) ∧ Nd w' bo (toI (Su.invL l)) ∧ (Su.invL l).length ≤ dap ∧ Below w0.heap.size w0 w') := fun w0 h => rinv_c ol l cl w0 (Xl.keep h) (by omega)
  have L1 : Hid (∀ w0, Below w.heap.size w w0 → Calls Try.prog 14 #[.slice ot t.length ct, .int .i64 i, .int .i64 j] w0 fun e w' => e = .returned (.bool (lessE t i j)) ∧ Below w0.heap.size w0 w') := fun w0 h => sless_c ot t ct i j w0 (Xt.keep h) Ft Ct (by omega)
  have L2 : Hid (∀ w0, Below w.heap.size w w0 → Calls Try.prog 15 #[.slice ot t.length ct, .int .i64 i, .int .i64 j] w0 fun e w' => e = .returned (.bool (lessE t i j)) ∧ Below w0.heap.size w0 w') := fun w0 h => rless_c ot t ct i j w0 (Xt.keep h) Ft Ct (by omega)
  have K1 : Hid (∀ w0, Below w.heap.size w w0 → Calls Try.prog 16 #[.slice ot t.length ct, .slice ol l.length cl] w0 fun e w' => e = .returned (.bool (Su.chk t l)) ∧ Below w0.heap.size w0 w') := fun w0 h => schk_c ot t ct ol l cl w0 (Xt.keep h) Ft Ct (Xl.keep h)
  have K2 : Hid (∀ w0, Below w.heap.size w w0 → Calls Try.prog 17 #[.slice ot t.length ct, .slice ol l.length cl] w0 fun e w' => e = .returned (.bool (Su.chk t l)) ∧ Below w0.heap.size w0 w') := fun w0 h => rchk_c ot t ct ol l cl w0 (Xt.keep h) Ft Ct (Xl.keep h)
  have la : (Su.arrL t).length ≤ 1048576 := by
    unfold Su.arrL
    split
    · rw [Su.length_sa]; omega
    · exact Nat.zero_le _
  have li : (Su.invL l).length ≤ 1048576 := by
    unfold Su.invL
    split
    · rw [Su.length_inv, Su.length_ns]; omega
    · exact Nat.zero_le _
  have N1 : Hid (∀ w0 ao c bo d, Nd w0 ao (toI (Su.arrL t)) → Nd w0 bo (toI (Su.arrL t)) → Calls Try.prog 13 #[.slice ao (Su.arrL t).length c, .slice bo (Su.arrL t).length d] w0 fun e w' => e = .returned (.bool true) ∧ Below w0.heap.size w0 w') := fun w0 ao c bo d h k => by
    have := rnum_c ao (toI (Su.arrL t)) c bo (toI (Su.arrL t)) d w0 h k (by rw [length_toI]; exact la)
    rw [decide_eq_true rfl, length_toI] at this
    exact this
  have N2 : Hid (∀ w0 ao c bo d, Nd w0 ao (toI (Su.invL l)) → Nd w0 bo (toI (Su.invL l)) → Calls Try.prog 13 #[.slice ao (Su.invL l).length c, .slice bo (Su.invL l).length d] w0 fun e w' => e = .returned (.bool true) ∧ Below w0.heap.size w0 w') := fun w0 ao c bo d h k => by
    have := rnum_c ao (toI (Su.invL l)) c bo (toI (Su.invL l)) d w0 h k (by rw [length_toI]; exact li)
    rw [decide_eq_true rfl, length_toI] at this
    exact this
  unfold ArrQ at A1 A2
  generalize Su.arrL t = P at *
  generalize Su.arrE t = pe at *
  generalize Su.invL l = Q at *
  generalize Su.invE l = qe at *
  generalize lessE t i j = lb at *
  generalize Su.chk t l = kb at *
  have HB := hide (Below.refl w.heap.size w)
  clear Xt Ft Xl Fl la li hL hM
  go_enter Try.func4, Try.ntmps4
  go_wp2_with fail
  refine (A1.out _ HB.out).mono ?_
  rintro e w1 ⟨p1, c1, rfl, x1, _, hb⟩
  have X1 := hide x1
  replace HB := hide (HB.out.trans (hb.mono HB.out.size))
  clear hb x1 A1
  go_wp2_with fail
  refine (A2.out _ HB.out).mono ?_
  rintro e w2 ⟨p2, c2, rfl, x2, _, hb⟩
  have X2 := hide x2
  replace X1 := hide (X1.out.keep hb)
  replace HB := hide (HB.out.trans (hb.mono HB.out.size))
  clear hb x2 A2
  go_wp2_with fail
  refine (I1.out _ HB.out).mono ?_
  rintro e w3 ⟨p3, c3, rfl, x3, _, hb⟩
  have X3 := hide x3
  replace X1 := hide (X1.out.keep hb)
  replace X2 := hide (X2.out.keep hb)
  replace HB := hide (HB.out.trans (hb.mono HB.out.size))
  clear hb x3 I1
  go_wp2_with fail
  refine (I2.out _ HB.out).mono ?_
  rintro e w4 ⟨p4, c4, rfl, x4, _, hb⟩
  have X4 := hide x4
  replace X1 := hide (X1.out.keep hb)
  replace X2 := hide (X2.out.keep hb)
  replace X3 := hide (X3.out.keep hb)
  replace HB := hide (HB.out.trans (hb.mono HB.out.size))
  clear hb x4 I2
  go_wp2_with fail
  refine (N1.out _ _ _ _ _ X1.out X2.out).mono ?_
  rintro e w5 ⟨rfl, hb⟩
  replace X3 := hide (X3.out.keep hb)
  replace X4 := hide (X4.out.keep hb)
  replace HB := hide (HB.out.trans (hb.mono HB.out.size))
  clear hb X1 X2 N1
  go_wp2_with fail
  refine (N2.out _ _ _ _ _ X3.out X4.out).mono ?_
  rintro e w6 ⟨rfl, hb⟩
  replace HB := hide (HB.out.trans (hb.mono HB.out.size))
  clear hb X3 X4 N2
  go_wp2_with fail
  refine (L1.out _ HB.out).mono ?_
  rintro e w7 ⟨rfl, hb⟩
  replace HB := hide (HB.out.trans (hb.mono HB.out.size))
  clear hb L1
  go_wp2_with fail
  refine (L2.out _ HB.out).mono ?_
  rintro e w8 ⟨rfl, hb⟩
  replace HB := hide (HB.out.trans (hb.mono HB.out.size))
  clear hb L2
  go_wp2_with fail
  refine (K1.out _ HB.out).mono ?_
  rintro e w9 ⟨rfl, hb⟩
  replace HB := hide (HB.out.trans (hb.mono HB.out.size))
  clear hb K1
  go_wp2_with fail
  refine (K2.out _ HB.out).mono ?_
  rintro e w10 ⟨rfl, hb⟩
  replace HB := hide (HB.out.trans (hb.mono HB.out.size))
  clear hb K2
  go_wp2_with fail
  refine (heads17_c _).mono ?_
  rintro e w11 ⟨rfl, hb⟩
  replace HB := hide (HB.out.trans (hb.mono HB.out.size))
  clear hb
  go_wp2
  go_ret
  exact ⟨rfl, HB.out⟩

theorem lifted (os : Os) (started : os.Started) (H : Type) (enc : TypeId × Value → H) :
    ReturnsInHanded {} Try.checked os 4 .any (Rows.suffixTellsSpec.pre6 enc Try.prog Try.f4 Rows.suffixTellsRow.domain false) (Rows.suffixTellsSpec.post enc Try.prog Try.f4 false true false false) := by
  refine returnsInHanded_of_change (C := Try.checked) own started (by kernel_rfl) Try.func4
    (ChangeSpec.witness6 (enc := enc) (C := Try.checked) false ⟨#[], #[.slice none 0 0, .int .i64 0, .int .i64 0, .slice none 0 0], []⟩ 8 (by kernel_rfl) (by kernel_rfl) (by kernel_rfl) (by kernel_rfl)) ?_
  intro W base args ds gs before hval0 hW hcnd _
  have hval : ∀ (j : Nat) t v, Try.f4.params[j]? = some t → args[j]? = some v → Value.okWide Try.prog W .any base t v := hval0
  have hW' := hW
  obtain ⟨p, q, hA0, hV, rfl, hfz, hnd⟩ := hW
  have hA : DataW.TrodAll enc Try.prog W 0 (fun _ => true) true Try.f4.params.toList args.toList ds p := hA0
  rw [Try.params4] at hA hval
  obtain ⟨v0, vs0, d0, ds0, p0, q0, hargs, rfl, rfl, h0, r0⟩ := trodAll_cons hA
  obtain ⟨v1, vs1, d1, ds1, p1, q1, rfl, rfl, rfl, h1, r1⟩ := trodAll_cons r0
  obtain ⟨v2, vs2, d2, ds2, p2, q2, rfl, rfl, rfl, h2, r2⟩ := trodAll_cons r1
  obtain ⟨v3, vs3, d3, ds3, p3, q3, rfl, rfl, rfl, h3, r3⟩ := trodAll_cons r2
  obtain ⟨rfl, rfl, rfl⟩ := trodAll_nil r3
  obtain rfl : args = #[v0, v1, v2, v3] := by cases args; simp_all
  obtain ⟨rfl, rfl⟩ := trodVars_none hV
  have k0 := h0
  have lt0 : ∀ x ∈ p0, x.block < W.heap.size := by obtain ⟨m, hm⟩ := k0; exact DataW.trod_lt m _ _ _ hm
  obtain ⟨ot, t, ct, rfl, b01, b02, b03⟩ := open_bytes (hval 0 22 v0 rfl rfl) h0
  obtain ⟨i, rfl, rfl, rfl, w1⟩ := open_int Try.underlying3 (hval 1 3 v1 rfl rfl) h1
  obtain ⟨j, rfl, rfl, rfl, w2⟩ := open_int Try.underlying3 (hval 2 3 v2 rfl rfl) h2
  have k3 := h3
  have lt3 : ∀ x ∈ p3, x.block < W.heap.size := by obtain ⟨m, hm⟩ := k3; exact DataW.trod_lt m _ _ _ hm
  obtain ⟨ol, l, cl, rfl, b31, b32, b33⟩ := open_isl (hval 3 24 v3 rfl rfl) h3
  clear hA0 hval0
  refine (walk W ot t ct b01 b02 b03 i (i64_wf _ w1) j (i64_wf _ w2) ol l cl b31 b32 b33).mono fun e W' ⟨he, bel⟩ => ?_
  subst he
  exact ⟨_, rfl, _, _, _, [], _, [], hW', trodAll_mk1 (shut_bool Try.underlying4 _), (trodAll_cons_mk (Below.trod laidOut (by kernel_rfl) (of_decide_eq_true (by kernel_rfl)) k0 bel lt0) (trodAll_cons_mk (shut_int Try.underlying3 w1) (trodAll_cons_mk (shut_int Try.underlying3 w2) (trodAll_cons_mk (Below.trod laidOut (by kernel_rfl) (of_decide_eq_true (by kernel_rfl)) k3 bel lt3) trodAll_mk0)))), rfl, bel.frame _, fun h => by cases h⟩

theorem over : Rows.suffixTellsRow.holds Try.pinned (OpenSpec.ofChange Rows.suffixTellsSpec) :=
  OpenClaim.holds_of_wide 4 Try.f4 rfl rfl rfl rfl rfl rfl rfl ⟨rfl, rfl, rfl, rfl, rfl⟩ rfl rfl rfl rfl rfl (by kernel_rfl) Try.func4 (by kernel_rfl)
    (of_decide_eq_true (by kernel_rfl)) (by unfold Func.isWrapper; first | (rw [if_pos (by decide +kernel)]; kernel_rfl) | (rw [if_neg (by decide +kernel)]; exact ⟨rfl, rfl⟩))
    (fun os started H enc _ => lifted os started H enc)

theorem proved : Rows.SuffixTellsSaid := over
end Go.Proofs.Ytlconniheakalaa.suffixTells
namespace Go.Proofs.Ytlconniheakalaa
theorem suffixTells_holds : Rows.SuffixTellsSaid := suffixTells.proved
#print axioms suffixTells_holds
end Go.Proofs.Ytlconniheakalaa
