/-
  StatsContext: by the symbol ahead texts need no more than without, but for roundings.
-/
import Derived.Test.YtbkagloonlddfaaSt5
import Derived.Test.YtbkagloonlddfaaLk
import Derived.ChangeOld
import Derived.Deep.DeepCutAuto
namespace Go.Proofs.Ytbkagloonlddfaa.statsContext
open Go.ChangeShapes Go.WideShapes Go.ChangeAt Go.RowKit
set_option linter.unusedVariables false
set_option linter.unusedSimpArgs false
set_option maxRecDepth 100000


set_option maxHeartbeats 8000000 in
theorem walk (w : World) (ot : Option Addr) (t : List Nat) (ct : Nat) (Xt : Bd w ot t) (Ft : Bytes t) (Ct : t.length ≤ ct) :
    Calls Try.prog 3 #[.slice ot t.length ct] w fun e w' => e = .returned (.bool true) ∧ Below w.heap.size w w' := by
  by_cases hL : 2000 < t.length
  · have hL2 : (2000 : Int) < (t.length : Int) := by omega
    go_enter Try.func3, Try.ntmps3
    go_wp2_with fail
    refine (heads19_c _).mono ?_
    rintro e w9 ⟨rfl, hb⟩
    go_wp2
    go_ret
    exact ⟨rfl, hb⟩
  have hL2 : ¬ (2000 : Int) < (t.length : Int) := by omega
  have hl : t.length ≤ 2000 := by omega
  have A1 : Hid (∀ w0, Below w.heap.size w w0 → Calls Try.prog 8 #[.slice ot t.length ct] w0 fun e w' => ∃ co cc, e = .returned (.slice co 256 cc) ∧ Nd w' co (toI (Lg.cts t)) ∧ 256 ≤ cc ∧ Below w0.heap.size w0 w') := fun w0 h => scts_c ot t ct w0 (Xt.keep h) Ft (by omega)
  have S1 : Hid (∀ w0, Below w.heap.size w w0 → Calls Try.prog 9 #[.slice ot t.length ct] w0 fun e w' => e = .returned (.int .i64 (Lg.scV t 256 : Nat)) ∧ Below w0.heap.size w0 w') := fun w0 h => by
    have := ssec_c ot t ct w0 (Xt.keep h) Ft
    rw [Lg.scN_in (by omega)] at this
    exact this
  have E1 : Hid (∀ w0 co c, Nd w0 co (toI (Lg.cts t)) → Calls Try.prog 10 #[.slice co 256 c] w0 fun e w' => e = .returned (.int .i64 (Lg.eT t : Nat)) ∧ Below w0.heap.size w0 w') := fun w0 co c h => by
    have := sent_c co (toI (Lg.cts t)) c w0 h
    rw [Lg.enN_cts (by omega), length_toI, show (Lg.cts t).length = 256 from Lg.length_cp _ _] at this
    exact this
  have D1 : Hid (∀ w0 co c, Nd w0 co (toI (Lg.cts t)) → Calls Try.prog 11 #[.slice co 256 c] w0 fun e w' => e = .returned (.int .i64 (Lg.dT t 256 : Nat)) ∧ Below w0.heap.size w0 w') := fun w0 co c h => by
    have := sdis_c co (toI (Lg.cts t)) c w0 h
    rw [Lg.dsN_cts, length_toI, show (Lg.cts t).length = 256 from Lg.length_cp _ _] at this
    exact this
  have K := Lg.context Ft (show t.length ≤ 8000 by omega)
  have B1 : Lg.eT t ≤ 402653185 := by
    have := Lg.enV_le (Lg.okE_cts (t := t) (by omega))
    rw [Lg.enN_cts (by omega)] at this
    exact this
  have B2 : Lg.dT t 256 ≤ 256 := by
    have := Lg.ds_le (toI (Lg.cts t)) 256
    rw [Lg.ds_cts t 256 (Nat.le_refl _)] at this
    exact this
  generalize toI (Lg.cts t) = CT at *
  generalize Lg.scV t 256 = sc at *
  generalize Lg.eT t = et at *
  generalize Lg.dT t 256 = dt at *
  have W1 : IntKind.i64.wrap ((et : Int) + (dt : Int)) = (et : Int) + (dt : Int) := by rw [IntKind.wrap_i64]; omega
  have W2 : IntKind.i64.wrap ((et : Int) + (dt : Int) + 2) = (et : Int) + (dt : Int) + 2 := by rw [IntKind.wrap_i64]; omega
  have K1 : (sc : Int) ≤ (et : Int) + (dt : Int) + 2 := by omega
  have K2 : (0 : Int) ≤ (sc : Int) := by omega
  have HB := hide (Below.refl w.heap.size w)
  clear Xt Ft hL hl K B1 B2
  go_enter Try.func3, Try.ntmps3
  go_wp2_with fail
  refine (A1.out _ HB.out).mono ?_
  rintro e w1 ⟨co, cc, rfl, hN, _, hb⟩
  have X1 := hide hN
  clear hN
  replace HB := hide (HB.out.trans (hb.mono HB.out.size))
  clear hb
  go_wp2_with fail
  refine (S1.out _ HB.out).mono ?_
  rintro e w1 ⟨rfl, hb⟩
  replace X1 := hide (X1.out.keep hb)
  replace HB := hide (HB.out.trans (hb.mono HB.out.size))
  clear hb
  go_wp2_with fail
  refine (E1.out _ _ _ X1.out).mono ?_
  rintro e w1 ⟨rfl, hb⟩
  replace X1 := hide (X1.out.keep hb)
  replace HB := hide (HB.out.trans (hb.mono HB.out.size))
  clear hb
  go_wp2_with fail
  refine (D1.out _ _ _ X1.out).mono ?_
  rintro e w1 ⟨rfl, hb⟩
  replace X1 := hide (X1.out.keep hb)
  replace HB := hide (HB.out.trans (hb.mono HB.out.size))
  clear hb
  go_wp2_with fail
  refine (S1.out _ HB.out).mono ?_
  rintro e w1 ⟨rfl, hb⟩
  replace HB := hide (HB.out.trans (hb.mono HB.out.size))
  clear hb
  go_wp2_with fail
  refine (heads19_c _).mono ?_
  rintro e w1 ⟨rfl, hb⟩
  replace HB := hide (HB.out.trans (hb.mono HB.out.size))
  clear hb
  go_wp2
  go_ret
  exact ⟨rfl, HB.out⟩

theorem lifted (os : Os) (started : os.Started) (H : Type) (enc : TypeId × Value → H) :
    ReturnsInHanded {} Try.checked os 3 .any (Rows.statsContextSpec.pre6 enc Try.prog Try.f3 Rows.statsContextRow.domain false) (Rows.statsContextSpec.post enc Try.prog Try.f3 false true false false) := by
  refine returnsInHanded_of_change (C := Try.checked) own started (by kernel_rfl) Try.func3
    (ChangeSpec.witness6 (enc := enc) (C := Try.checked) false ⟨#[], #[.slice none 0 0], []⟩ 8 (by kernel_rfl) (by kernel_rfl) (by kernel_rfl) (by kernel_rfl)) ?_
  intro W base args ds gs before hval0 hW hcnd _
  have hval : ∀ (j : Nat) t v, Try.f3.params[j]? = some t → args[j]? = some v → Value.okWide Try.prog W .any base t v := hval0
  have hW' := hW
  obtain ⟨p, q, hA0, hV, rfl, hfz, hnd⟩ := hW
  have hA : DataW.TrodAll enc Try.prog W 0 (fun _ => true) true Try.f3.params.toList args.toList ds p := hA0
  rw [Try.params3] at hA hval
  obtain ⟨v0, vs0, d0, ds0, p0, q0, hargs, rfl, rfl, h0, r0⟩ := trodAll_cons hA
  obtain ⟨rfl, rfl, rfl⟩ := trodAll_nil r0
  obtain rfl : args = #[v0] := by cases args; simp_all
  obtain ⟨rfl, rfl⟩ := trodVars_none hV
  have k0 := h0
  have lt0 : ∀ x ∈ p0, x.block < W.heap.size := by obtain ⟨m, hm⟩ := k0; exact DataW.trod_lt m _ _ _ hm
  obtain ⟨ot, t, ct, rfl, b01, b02, b03⟩ := open_bytes (hval 0 22 v0 rfl rfl) h0
  clear hA0 hval0
  refine (walk W ot t ct b01 b02 b03).mono fun e W' ⟨he, bel⟩ => ?_
  subst he
  exact ⟨_, rfl, _, _, _, [], _, [], hW', trodAll_mk1 (shut_bool Try.underlying4 _), (trodAll_cons_mk (Below.trod laidOut (by kernel_rfl) (of_decide_eq_true (by kernel_rfl)) k0 bel lt0) trodAll_mk0), rfl, bel.frame _, fun h => by cases h⟩

theorem over : Rows.statsContextRow.holds Try.pinned (OpenSpec.ofChange Rows.statsContextSpec) :=
  OpenClaim.holds_of_wide 3 Try.f3 rfl rfl rfl rfl rfl rfl rfl ⟨rfl, rfl, rfl, rfl, rfl⟩ rfl rfl rfl rfl rfl (by kernel_rfl) Try.func3 (by kernel_rfl)
    (of_decide_eq_true (by kernel_rfl)) (by unfold Func.isWrapper; first | (rw [if_pos (by decide +kernel)]; kernel_rfl) | (rw [if_neg (by decide +kernel)]; exact ⟨rfl, rfl⟩))
    (fun os started H enc _ => lifted os started H enc)

theorem proved : Rows.StatsContextSaid := over
end Go.Proofs.Ytbkagloonlddfaa.statsContext
namespace Go.Proofs.Ytbkagloonlddfaa
theorem statsContext_holds : Rows.StatsContextSaid := statsContext.proved
#print axioms statsContext_holds
end Go.Proofs.Ytbkagloonlddfaa
