/-
  StatsTell: what counts and logarithms are, and what texts need.
-/
import Derived.Test.YtbkagloonlddfaaSt5
import Derived.ChangeOld
import Derived.Deep.DeepCutAuto
namespace Go.Proofs.Ytbkagloonlddfaa.statsTell
open Go.ChangeShapes Go.WideShapes Go.ChangeAt Go.RowKit
set_option linter.unusedVariables false
set_option linter.unusedSimpArgs false
set_option maxRecDepth 100000


set_option maxHeartbeats 8000000 in
theorem walk (w : World) (ot : Option Addr) (t : List Nat) (ct : Nat) (Xt : Bd w ot t) (Ft : Bytes t) (Ct : t.length ≤ ct) (x : Int) (hx_ : -9223372036854775808 ≤ x ∧ x ≤ 9223372036854775807) (ol : Option Addr) (l : List Int) (cl : Nat) (Xl : Nd w ol l) (Fl : FitI l) (Cl : l.length ≤ cl) :
    Calls Try.prog 4 #[.slice ot t.length ct, .int .i64 x, .slice ol l.length cl] w fun e w' => e = .returned (.bool true) ∧ Below w.heap.size w w' := by
  by_cases hL : 2000 < t.length
  · have hL2 : (2000 : Int) < (t.length : Int) := by omega
    go_enter Try.func4, Try.ntmps4
    go_wp2_with fail
    refine (heads19_c _).mono ?_
    rintro e w9 ⟨rfl, hb⟩
    go_wp2
    go_ret
    exact ⟨rfl, hb⟩
  have hL2 : ¬ (2000 : Int) < (t.length : Int) := by omega
  by_cases hM : 1000 < l.length
  · have hM2 : (1000 : Int) < (l.length : Int) := by omega
    go_enter Try.func4, Try.ntmps4
    go_wp2_with fail
    refine (heads19_c _).mono ?_
    rintro e w9 ⟨rfl, hb⟩
    go_wp2
    go_ret
    exact ⟨rfl, hb⟩
  have hM2 : ¬ (1000 : Int) < (l.length : Int) := by omega
  have A1 : Hid (∀ w0, Below w.heap.size w w0 → Calls Try.prog 8 #[.slice ot t.length ct] w0 fun e w' => ∃ co cc, e = .returned (.slice co 256 cc) ∧ Nd w' co (toI (Lg.cts t)) ∧ 256 ≤ cc ∧ Below w0.heap.size w0 w') := fun w0 h => scts_c ot t ct w0 (Xt.keep h) Ft (by omega)
  have A2 : Hid (∀ w0, Below w.heap.size w w0 → Calls Try.prog 13 #[.slice ot t.length ct] w0 fun e w' => ∃ g, e = .returned (.slice (some ⟨g, 0, none⟩) 256 256) ∧ Nd w' (some ⟨g, 0, none⟩) (toI (Lg.cts t)) ∧ w0.heap.size ≤ g ∧ Below w0.heap.size w0 w') := fun w0 h => rcts_c ot t ct w0 (Xt.keep h) Ft (by omega)
  have N1 : Hid (∀ w0 ao c bo d, Nd w0 ao (toI (Lg.cts t)) → Nd w0 bo (toI (Lg.cts t)) → Calls Try.prog 12 #[.slice ao 256 c, .slice bo 256 d] w0 fun e w' => e = .returned (.bool true) ∧ Below w0.heap.size w0 w') := fun w0 ao c bo d h k => by
    have := rnum_c ao (toI (Lg.cts t)) c bo (toI (Lg.cts t)) d w0 h k (by rw [length_toI, show (Lg.cts t).length = 256 from Lg.length_cp _ _]; omega)
    rw [decide_eq_true rfl, length_toI, show (Lg.cts t).length = 256 from Lg.length_cp _ _] at this
    exact this
  have L1 : Hid (∀ w0, Calls Try.prog 14 #[.int .i64 x] w0 fun e w' => e = .returned (.int .i64 (lgI x : Nat)) ∧ Below w0.heap.size w0 w') := fun w0 => slog_c x hx_ w0
  have L2 : Hid (∀ w0, Calls Try.prog 15 #[.int .i64 x] w0 fun e w' => e = .returned (.int .i64 (lgI x : Nat)) ∧ Below w0.heap.size w0 w') := fun w0 => (rlog_c x hx_ w0).mono fun e w' ⟨a, b⟩ => ⟨a, by rw [b]; exact Below.refl _ _⟩
  have E1 : Hid (∀ w0, Below w.heap.size w w0 → Calls Try.prog 10 #[.slice ol l.length cl] w0 fun e w' => e = .returned (.int .i64 (Lg.enN l : Nat)) ∧ Below w0.heap.size w0 w') := fun w0 h => sent_c ol l cl w0 (Xl.keep h)
  have E2 : Hid (∀ w0, Below w.heap.size w w0 → Calls Try.prog 16 #[.slice ol l.length cl] w0 fun e w' => e = .returned (.int .i64 (Lg.enN l : Nat)) ∧ Below w0.heap.size w0 w') := fun w0 h => rent_c ol l cl w0 (Xl.keep h)
  have S1 : Hid (∀ w0, Below w.heap.size w w0 → Calls Try.prog 9 #[.slice ot t.length ct] w0 fun e w' => e = .returned (.int .i64 (Lg.scN t : Nat)) ∧ Below w0.heap.size w0 w') := fun w0 h => ssec_c ot t ct w0 (Xt.keep h) Ft
  have S2 : Hid (∀ w0, Below w.heap.size w w0 → Calls Try.prog 17 #[.slice ot t.length ct] w0 fun e w' => e = .returned (.int .i64 (Lg.scN t : Nat)) ∧ Below w0.heap.size w0 w') := fun w0 h => rsec_c ot t ct w0 (Xt.keep h) Ft
  have D1 : Hid (∀ w0, Below w.heap.size w w0 → Calls Try.prog 11 #[.slice ol l.length cl] w0 fun e w' => e = .returned (.int .i64 (Lg.dsN l : Nat)) ∧ Below w0.heap.size w0 w') := fun w0 h => sdis_c ol l cl w0 (Xl.keep h)
  have D2 : Hid (∀ w0, Below w.heap.size w w0 → Calls Try.prog 18 #[.slice ol l.length cl] w0 fun e w' => e = .returned (.int .i64 (Lg.dsN l : Nat)) ∧ Below w0.heap.size w0 w') := fun w0 h => (rdis_c ol l cl w0 (Xl.keep h)).mono fun e w' ⟨a, b⟩ => ⟨a, by rw [b]; exact Below.refl _ _⟩
  generalize toI (Lg.cts t) = CT at *
  generalize lgI x = lx at *
  generalize Lg.enN l = el at *
  generalize Lg.scN t = st at *
  generalize Lg.dsN l = dl at *
  have HB := hide (Below.refl w.heap.size w)
  clear Xt Ft Xl Fl hL hM
  go_enter Try.func4, Try.ntmps4
  go_wp2_with fail
  refine (A1.out _ HB.out).mono ?_
  rintro e w1 ⟨co, cc, rfl, hN, _, hb⟩
  have X1 := hide hN
  clear hN
  replace HB := hide (HB.out.trans (hb.mono HB.out.size))
  clear hb
  go_wp2_with fail
  refine (A2.out _ HB.out).mono ?_
  rintro e w1 ⟨g, rfl, hN, _, hb⟩
  have X2 := hide hN
  clear hN
  replace X1 := hide (X1.out.keep hb)
  replace HB := hide (HB.out.trans (hb.mono HB.out.size))
  clear hb
  go_wp2_with fail
  refine (N1.out _ _ _ _ _ X1.out X2.out).mono ?_
  rintro e w1 ⟨rfl, hb⟩
  replace HB := hide (HB.out.trans (hb.mono HB.out.size))
  clear hb
  clear X1 X2 A1 A2 N1
  go_wp2_with fail
  refine (L1.out _).mono ?_
  rintro e w1 ⟨rfl, hb⟩
  replace HB := hide (HB.out.trans (hb.mono HB.out.size))
  clear hb
  go_wp2_with fail
  refine (L2.out _).mono ?_
  rintro e w1 ⟨rfl, hb⟩
  replace HB := hide (HB.out.trans (hb.mono HB.out.size))
  clear hb
  go_wp2_with fail
  refine (E1.out _ HB.out).mono ?_
  rintro e w1 ⟨rfl, hb⟩
  replace HB := hide (HB.out.trans (hb.mono HB.out.size))
  clear hb
  go_wp2_with fail
  refine (E2.out _ HB.out).mono ?_
  rintro e w1 ⟨rfl, hb⟩
  replace HB := hide (HB.out.trans (hb.mono HB.out.size))
  clear hb
  go_wp2_with fail
  refine (S1.out _ HB.out).mono ?_
  rintro e w1 ⟨rfl, hb⟩
  replace HB := hide (HB.out.trans (hb.mono HB.out.size))
  clear hb
  go_wp2_with fail
  refine (S2.out _ HB.out).mono ?_
  rintro e w1 ⟨rfl, hb⟩
  replace HB := hide (HB.out.trans (hb.mono HB.out.size))
  clear hb
  go_wp2_with fail
  refine (D1.out _ HB.out).mono ?_
  rintro e w1 ⟨rfl, hb⟩
  replace HB := hide (HB.out.trans (hb.mono HB.out.size))
  clear hb
  go_wp2_with fail
  refine (D2.out _ HB.out).mono ?_
  rintro e w1 ⟨rfl, hb⟩
  replace HB := hide (HB.out.trans (hb.mono HB.out.size))
  clear hb
  go_wp2_with fail
  refine (heads19_c _).mono ?_
  rintro e w1 ⟨rfl, hb⟩
  replace HB := hide (HB.out.trans (hb.mono HB.out.size))
  clear hb
  go_wp2
  go_ret
  exact ⟨rfl, HB.out⟩

theorem lifted (os : Os) (started : os.Started) (H : Type) (enc : TypeId × Value → H) :
    ReturnsInHanded {} Try.checked os 4 .any (Rows.statsTellSpec.pre6 enc Try.prog Try.f4 Rows.statsTellRow.domain false) (Rows.statsTellSpec.post enc Try.prog Try.f4 false true false false) := by
  refine returnsInHanded_of_change (C := Try.checked) own started (by kernel_rfl) Try.func4
    (ChangeSpec.witness6 (enc := enc) (C := Try.checked) false ⟨#[], #[.slice none 0 0, .int .i64 0, .slice none 0 0], []⟩ 8 (by kernel_rfl) (by kernel_rfl) (by kernel_rfl) (by kernel_rfl)) ?_
  intro W base args ds gs before hval0 hW hcnd _
  have hval : ∀ (j : Nat) t v, Try.f4.params[j]? = some t → args[j]? = some v → Value.okWide Try.prog W .any base t v := hval0
  have hW' := hW
  obtain ⟨p, q, hA0, hV, rfl, hfz, hnd⟩ := hW
  have hA : DataW.TrodAll enc Try.prog W 0 (fun _ => true) true Try.f4.params.toList args.toList ds p := hA0
  rw [Try.params4] at hA hval
  obtain ⟨v0, vs0, d0, ds0, p0, q0, hargs, rfl, rfl, h0, r0⟩ := trodAll_cons hA
  obtain ⟨v1, vs1, d1, ds1, p1, q1, rfl, rfl, rfl, h1, r1⟩ := trodAll_cons r0
  obtain ⟨v2, vs2, d2, ds2, p2, q2, rfl, rfl, rfl, h2, r2⟩ := trodAll_cons r1
  obtain ⟨rfl, rfl, rfl⟩ := trodAll_nil r2
  obtain rfl : args = #[v0, v1, v2] := by cases args; simp_all
  obtain ⟨rfl, rfl⟩ := trodVars_none hV
  have k0 := h0
  have lt0 : ∀ x ∈ p0, x.block < W.heap.size := by obtain ⟨m, hm⟩ := k0; exact DataW.trod_lt m _ _ _ hm
  obtain ⟨ot, t, ct, rfl, b01, b02, b03⟩ := open_bytes (hval 0 22 v0 rfl rfl) h0
  obtain ⟨x, rfl, rfl, rfl, w1⟩ := open_int Try.underlying3 (hval 1 3 v1 rfl rfl) h1
  have k2 := h2
  have lt2 : ∀ x ∈ p2, x.block < W.heap.size := by obtain ⟨m, hm⟩ := k2; exact DataW.trod_lt m _ _ _ hm
  obtain ⟨ol, l, cl, rfl, b21, b22, b23⟩ := open_isl (hval 2 24 v2 rfl rfl) h2
  clear hA0 hval0
  refine (walk W ot t ct b01 b02 b03 x (i64_wf _ w1) ol l cl b21 b22 b23).mono fun e W' ⟨he, bel⟩ => ?_
  subst he
  exact ⟨_, rfl, _, _, _, [], _, [], hW', trodAll_mk1 (shut_bool Try.underlying4 _), (trodAll_cons_mk (Below.trod laidOut (by kernel_rfl) (of_decide_eq_true (by kernel_rfl)) k0 bel lt0) (trodAll_cons_mk (shut_int Try.underlying3 w1) (trodAll_cons_mk (Below.trod laidOut (by kernel_rfl) (of_decide_eq_true (by kernel_rfl)) k2 bel lt2) trodAll_mk0))), rfl, bel.frame _, fun h => by cases h⟩

theorem over : Rows.statsTellRow.holds Try.pinned (OpenSpec.ofChange Rows.statsTellSpec) :=
  OpenClaim.holds_of_wide 4 Try.f4 rfl rfl rfl rfl rfl rfl rfl ⟨rfl, rfl, rfl, rfl, rfl⟩ rfl rfl rfl rfl rfl (by kernel_rfl) Try.func4 (by kernel_rfl)
    (of_decide_eq_true (by kernel_rfl)) (by unfold Func.isWrapper; first | (rw [if_pos (by decide +kernel)]; kernel_rfl) | (rw [if_neg (by decide +kernel)]; exact ⟨rfl, rfl⟩))
    (fun os started H enc _ => lifted os started H enc)

theorem proved : Rows.StatsTellSaid := over
end Go.Proofs.Ytbkagloonlddfaa.statsTell
namespace Go.Proofs.Ytbkagloonlddfaa
theorem statsTell_holds : Rows.StatsTellSaid := statsTell.proved
#print axioms statsTell_holds
end Go.Proofs.Ytbkagloonlddfaa
