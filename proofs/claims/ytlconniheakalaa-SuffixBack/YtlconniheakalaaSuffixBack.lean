/-
  SuffixBack: an inverse's inverse is the row.
-/
import Derived.Test.YtlconniheakalaaRq
import Derived.ChangeOld
namespace Go.Proofs.Ytlconniheakalaa.suffixBack
open Go.ChangeShapes Go.WideShapes Go.ChangeAt Go.RowKit
set_option linter.unusedVariables false
set_option linter.unusedSimpArgs false
set_option maxRecDepth 100000


set_option maxHeartbeats 8000000 in
theorem walk (w : World) (ol : Option Addr) (l : List Int) (cl : Nat) (Xl : Nd w ol l) (Fl : FitI l) (Cl : l.length ≤ cl) :
    Calls Try.prog 7 #[.slice ol l.length cl] w fun e w' => e = .returned (.bool true) ∧ Below w.heap.size w w' := by
  by_cases hL : 3000 < l.length
  · have hL2 : (3000 : Int) < (l.length : Int) := by omega
    go_enter Try.func7, Try.ntmps7
    go_wp2_with fail
    refine (heads17_c _).mono ?_
    rintro e w9 ⟨rfl, hb⟩
    go_wp2
    go_ret
    exact ⟨rfl, hb⟩
  have hL2 : ¬ (3000 : Int) < (l.length : Int) := by omega
  have HB := hide (Below.refl w.heap.size w)
  have I1 := hide (sinv_c ol l cl w Xl (by omega))
  by_cases hG : Su.Gd l l.length
  · obtain ⟨e1, e2⟩ := Su.inv_yes hG
    have g2 : Su.Gd (toI (Su.inv (Su.ns l))) (toI (Su.inv (Su.ns l))).length := Su.pm_gd (fun i _ => by rw [gi_toI]; omega) (by
      have : Su.ns (toI (Su.inv (Su.ns l))) = Su.inv (Su.ns l) := ns_toI _
      rw [this]
      exact hG.pm.inv)
    obtain ⟨e3, e4⟩ := Su.inv_yes g2
    rw [ns_toI, hG.pm.back] at e4
    have tl : toI (Su.ns l) = l := toI_ns fun i hi => (hG.1 i hi).1
    have ll : (Su.inv (Su.ns l)).length = l.length := by rw [Su.length_inv, Su.length_ns]
    rw [e1, e2, ll] at I1
    have I2 : Hid (∀ w0 ao cap, Nd w0 ao (toI (Su.inv (Su.ns l))) → Calls Try.prog 11 #[.slice ao l.length cap] w0 fun e w' => ∃ bo dap, e = .returned (.tuple #[.slice bo l.length dap, .int .i64 0]) ∧ Nd w' bo l ∧ Below w0.heap.size w0 w') := fun w0 ao cap h => by
      have := sinv_c ao _ cap w0 h (by rw [length_toI, ll]; omega)
      rw [e3, e4, length_toI, ll, Su.length_ns, tl] at this
      exact this.mono fun e w' ⟨bo, dap, a, b, c, d⟩ => ⟨bo, dap, a, b, d⟩
    have N1 : Hid (∀ w0 ao c, Below w.heap.size w w0 → Nd w0 ao l → Calls Try.prog 13 #[.slice ao l.length c, .slice ol l.length cl] w0 fun e w' => e = .returned (.bool true) ∧ Below w0.heap.size w0 w') := fun w0 ao c h k => by
      have := rnum_c ao l c ol l cl w0 k (Xl.keep h) (by omega)
      rw [decide_eq_true rfl] at this
      exact this
    clear e1 e2 e3 e4 g2 tl ll Xl Fl hG
    generalize toI (Su.inv (Su.ns l)) = M at *
    go_enter Try.func7, Try.ntmps7
    go_wp2_with fail
    refine (I1.out).mono ?_
    rintro e w1 ⟨p1, c1, rfl, x1, _, hb⟩
    have X1 := hide x1
    replace HB := hide (HB.out.trans (hb.mono HB.out.size))
    clear hb x1 I1
    go_wp2_with fail
    refine (I2.out _ _ _ X1.out).mono ?_
    rintro e w2 ⟨p2, c2, rfl, x2, hb⟩
    have X2 := hide x2
    replace HB := hide (HB.out.trans (hb.mono HB.out.size))
    clear hb x2 I2 X1
    go_wp2_with fail
    refine (N1.out _ _ _ HB.out X2.out).mono ?_
    rintro e w3 ⟨rfl, hb⟩
    replace HB := hide (HB.out.trans (hb.mono HB.out.size))
    clear hb N1 X2
    go_wp2_with fail
    refine (heads17_c _).mono ?_
    rintro e w4 ⟨rfl, hb⟩
    replace HB := hide (HB.out.trans (hb.mono HB.out.size))
    clear hb
    go_wp2
    go_ret
    exact ⟨rfl, HB.out⟩
  · obtain ⟨e1, e2⟩ := Su.inv_no (Nat.le_refl _) hG
    rw [e1, e2] at I1
    clear e1 e2 Xl Fl hG
    go_enter Try.func7, Try.ntmps7
    go_wp2_with fail
    refine (I1.out).mono ?_
    rintro e w1 ⟨p1, c1, rfl, x1, _, hb⟩
    replace HB := hide (HB.out.trans (hb.mono HB.out.size))
    clear hb x1 I1
    go_wp2_with fail
    refine (heads17_c _).mono ?_
    rintro e w4 ⟨rfl, hb⟩
    replace HB := hide (HB.out.trans (hb.mono HB.out.size))
    clear hb
    go_wp2
    go_ret
    exact ⟨rfl, HB.out⟩

theorem lifted (os : Os) (started : os.Started) (H : Type) (enc : TypeId × Value → H) :
    ReturnsInHanded {} Try.checked os 7 .any (Rows.suffixBackSpec.pre6 enc Try.prog Try.f7 Rows.suffixBackRow.domain false) (Rows.suffixBackSpec.post enc Try.prog Try.f7 false true false false) := by
  refine returnsInHanded_of_change (C := Try.checked) own started (by kernel_rfl) Try.func7
    (ChangeSpec.witness6 (enc := enc) (C := Try.checked) false ⟨#[], #[.slice none 0 0], []⟩ 8 (by kernel_rfl) (by kernel_rfl) (by kernel_rfl) (by kernel_rfl)) ?_
  intro W base args ds gs before hval0 hW hcnd _
  have hval : ∀ (j : Nat) t v, Try.f7.params[j]? = some t → args[j]? = some v → Value.okWide Try.prog W .any base t v := hval0
  have hW' := hW
  obtain ⟨p, q, hA0, hV, rfl, hfz, hnd⟩ := hW
  have hA : DataW.TrodAll enc Try.prog W 0 (fun _ => true) true Try.f7.params.toList args.toList ds p := hA0
  rw [Try.params7] at hA hval
  obtain ⟨v0, vs0, d0, ds0, p0, q0, hargs, rfl, rfl, h0, r0⟩ := trodAll_cons hA
  obtain ⟨rfl, rfl, rfl⟩ := trodAll_nil r0
  obtain rfl : args = #[v0] := by cases args; simp_all
  obtain ⟨rfl, rfl⟩ := trodVars_none hV
  have k0 := h0
  have lt0 : ∀ x ∈ p0, x.block < W.heap.size := by obtain ⟨m, hm⟩ := k0; exact DataW.trod_lt m _ _ _ hm
  obtain ⟨ol, l, cl, rfl, b01, b02, b03⟩ := open_isl (hval 0 24 v0 rfl rfl) h0
  clear hA0 hval0
  refine (walk W ol l cl b01 b02 b03).mono fun e W' ⟨he, bel⟩ => ?_
  subst he
  exact ⟨_, rfl, _, _, _, [], _, [], hW', trodAll_mk1 (shut_bool Try.underlying4 _), (trodAll_cons_mk (Below.trod laidOut (by kernel_rfl) (of_decide_eq_true (by kernel_rfl)) k0 bel lt0) trodAll_mk0), rfl, bel.frame _, fun h => by cases h⟩

theorem over : Rows.suffixBackRow.holds Try.pinned (OpenSpec.ofChange Rows.suffixBackSpec) :=
  OpenClaim.holds_of_wide 7 Try.f7 rfl rfl rfl rfl rfl rfl rfl ⟨rfl, rfl, rfl, rfl, rfl⟩ rfl rfl rfl rfl rfl (by kernel_rfl) Try.func7 (by kernel_rfl)
    (of_decide_eq_true (by kernel_rfl)) (by unfold Func.isWrapper; first | (rw [if_pos (by decide +kernel)]; kernel_rfl) | (rw [if_neg (by decide +kernel)]; exact ⟨rfl, rfl⟩))
    (fun os started H enc _ => lifted os started H enc)

theorem proved : Rows.SuffixBackSaid := over
end Go.Proofs.Ytlconniheakalaa.suffixBack
namespace Go.Proofs.Ytlconniheakalaa
theorem suffixBack_holds : Rows.SuffixBackSaid := suffixBack.proved
#print axioms suffixBack_holds
end Go.Proofs.Ytlconniheakalaa
