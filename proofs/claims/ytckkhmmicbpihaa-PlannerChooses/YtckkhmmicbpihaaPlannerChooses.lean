/-
  PlannerChooses: which configuration is chosen, of every counts and weights.
-/
import Derived.Test.YtckkhmmicbpihaaM42
import Derived.ChangeOld
import Derived.Deep.DeepCutAuto
namespace Go.Proofs.Ytckkhmmicbpihaa.plannerChooses
open Go.ChangeShapes Go.WideShapes Go.ChangeAt Go.RowKit Go.ChangeMaps
set_option linter.unusedVariables false
set_option linter.unusedSimpArgs false
set_option maxRecDepth 100000


set_option maxHeartbeats 8000000 in
theorem walk (w : World) (ol : Option Addr) (l : List Int) (cl : Nat) (Xl : Nd w ol l) (Fl : FitI l) (Cl : l.length ≤ cl) (x1 x2 : Int) :
    Calls Try.prog 5 #[.slice ol l.length cl, .agg #[.int .i64 x1, .int .i64 x2]] w fun e w' => e = .returned (.bool true) ∧ Below w.heap.size w w' := by
  obtain ⟨W, hW⟩ : ∃ W, W = w.alloc (.cells #[.int .i64 x1, .int .i64 x2] 32) := ⟨_, rfl⟩
  have HB := hide (show Below w.heap.size w W by rw [hW]; exact below_alloc w _)
  have A3 := hide (show Cel W w.heap.size [.int .i64 x1, .int .i64 x2] 32 by rw [hW]; exact Cel.new w _ _)
  have HW := hide hW
  clear hW
  by_cases hL : 1000 < l.length
  · have hL2 : (1000 : Int) < (l.length : Int) := by omega
    go_enter Try.func5, Try.ntmps5
    go_wp2_with fail
    rw [← HW.out]
    refine (heads21_c _).mono ?_
    rintro e w9 ⟨rfl, hb⟩
    have HBf := hide (HB.out.trans (hb.mono HB.out.size))
    clear hb
    go_wp2
    go_ret
    exact ⟨rfl, HBf.out⟩
  have hL2 : ¬ (1000 : Int) < (l.length : Int) := by omega
  obtain ⟨z1, z2, z3, z4, z5, hz⟩ : ∃ z1 z2 z3 z4 z5, Hid (Pn.chZ l x1 x2 = (z1, z2, z3, z4, z5)) := ⟨_, _, _, _, _, rfl⟩
  have P1 : Hid (∀ w0, Below w.heap.size w w0 → Calls Try.prog 15 #[.slice ol l.length cl, .agg #[.int .i64 x1, .int .i64 x2]] w0 fun e w' => e = .returned (.tuple #[.agg #[.int .i64 z1, .int .i64 z2, .int .i64 z3, .int .i64 z4, .int .i64 z5], .int .i64 (Pn.chE l x1 x2)]) ∧ Below w0.heap.size w0 w') := fun w0 h => by
    have := pchoose_c x1 x2 ol l cl w0 (Xl.keep h) (by omega)
    rw [hz.out] at this
    exact this
  have P2 : Hid (∀ w0, Below w.heap.size w w0 → Calls Try.prog 16 #[.slice ol l.length cl, .agg #[.int .i64 x1, .int .i64 x2]] w0 fun e w' => e = .returned (.tuple #[.agg #[.int .i64 z1, .int .i64 z2, .int .i64 z3, .int .i64 z4, .int .i64 z5], .int .i64 (Pn.chE l x1 x2)]) ∧ Below w0.heap.size w0 w') := fun w0 h => by
    have := rchoose_c x1 x2 ol l cl w0 (Xl.keep h) (by omega)
    rw [hz.out] at this
    exact this
  have EQ : ∀ w, (binOp .eql 23 (.agg #[.int .i64 z1, .int .i64 z2, .int .i64 z3, .int .i64 z4, .int .i64 z5]) (.agg #[.int .i64 z1, .int .i64 z2, .int .i64 z3, .int .i64 z4, .int .i64 z5])).run Try.prog w = .ok (.bool true) w := fun w => by
    have := eq_cfg w (z1, z2, z3, z4, z5) (z1, z2, z3, z4, z5)
    rw [decide_eq_true rfl] at this
    exact this
  have GC := guard_cfg
  generalize Pn.chE l x1 x2 = ce at *
  clear Xl Fl hL hz
  have e0 := A3.out.cell 0 rfl
  have e1 := A3.out.cell 1 rfl
  go_enter Try.func5, Try.ntmps5
  go_wp2_with fail
  rw [← HW.out]
  refine (P1.out _ HB.out).mono ?_
  rintro e w1 ⟨rfl, hb⟩
  obtain ⟨V1, hV1⟩ : ∃ V, V = w1.alloc (.cells #[.int .i64 z1, .int .i64 z2, .int .i64 z3, .int .i64 z4, .int .i64 z5] 23) := ⟨_, rfl⟩
  have A5 := hide (show Cel V1 w1.heap.size [.int .i64 z1, .int .i64 z2, .int .i64 z3, .int .i64 z4, .int .i64 z5] 23 by rw [hV1]; exact Cel.new w1 _ _)
  have A3b := hide (show Cel V1 w.heap.size [.int .i64 x1, .int .i64 x2] 32 by rw [hV1]; exact (A3.out.kept hb).alloc _)
  have HB1 := hide (show Below w.heap.size w V1 by rw [hV1]; exact (HB.out.trans (hb.mono HB.out.size)).trans ((below_alloc w1 _).mono (HB.out.trans (hb.mono HB.out.size)).size))
  clear hb HB A3 e0 e1
  have e0 := A3b.out.cell 0 rfl
  have e1 := A3b.out.cell 1 rfl
  go_upto_region 4 with fail
  rw [← hV1]
  clear hV1
  generalize w1.heap.size = g5 at *
  go_wp2_with fail
  refine (P2.out _ HB1.out).mono ?_
  rintro e w2 ⟨rfl, hb⟩
  obtain ⟨V2, hV2⟩ : ∃ V, V = w2.alloc (.cells #[.int .i64 z1, .int .i64 z2, .int .i64 z3, .int .i64 z4, .int .i64 z5] 23) := ⟨_, rfl⟩
  have A7 := hide (show Cel V2 w2.heap.size [.int .i64 z1, .int .i64 z2, .int .i64 z3, .int .i64 z4, .int .i64 z5] 23 by rw [hV2]; exact Cel.new w2 _ _)
  have A5b := hide (show Cel V2 g5 [.int .i64 z1, .int .i64 z2, .int .i64 z3, .int .i64 z4, .int .i64 z5] 23 by rw [hV2]; exact (A5.out.kept hb).alloc _)
  have HB2 := hide (show Below w.heap.size w V2 by rw [hV2]; exact (HB1.out.trans (hb.mono HB1.out.size)).trans ((below_alloc w2 _).mono (HB1.out.trans (hb.mono HB1.out.size)).size))
  clear hb HB1 A5 A3b e0 e1
  have p0 := A5b.out.cell 0 rfl
  have q0 := A7.out.cell 0 rfl
  have p1 := A5b.out.cell 1 rfl
  have q1 := A7.out.cell 1 rfl
  have p2 := A5b.out.cell 2 rfl
  have q2 := A7.out.cell 2 rfl
  have p3 := A5b.out.cell 3 rfl
  have q3 := A7.out.cell 3 rfl
  have p4 := A5b.out.cell 4 rfl
  have q4 := A7.out.cell 4 rfl
  go_upto_region 5 with fail
  rw [← hV2]
  clear hV2
  generalize w2.heap.size = g7 at *
  go_wp2_with fail
  refine (heads21_c _).mono ?_
  rintro e w9 ⟨rfl, hb⟩
  have HBf := hide (HB2.out.trans (hb.mono HB2.out.size))
  clear hb p0 p1 p2 p3 p4 q0 q1 q2 q3 q4
  go_wp2
  go_ret
  exact ⟨rfl, HBf.out⟩

theorem lifted (os : Os) (started : os.Started) (H : Type) (enc : TypeId × Value → H) :
    ReturnsInHanded {} Try.checked os 5 .any (Rows.plannerChoosesSpec.pre6 enc Try.prog Try.f5 Rows.plannerChoosesRow.domain false) (Rows.plannerChoosesSpec.post enc Try.prog Try.f5 false true false false) := by
  refine returnsInHanded_of_change (C := Try.checked) own started (by kernel_rfl) Try.func5
    (ChangeSpec.witness6 (enc := enc) (C := Try.checked) false ⟨#[], #[.slice none 0 0, .agg #[.int .i64 0, .int .i64 0]], []⟩ 8 (by kernel_rfl) (by kernel_rfl) (by kernel_rfl) (by kernel_rfl)) ?_
  intro W base args ds gs before hval0 hW hcnd _
  have hval : ∀ (j : Nat) t v, Try.f5.params[j]? = some t → args[j]? = some v → Value.okWide Try.prog W .any base t v := hval0
  have hW' := hW
  obtain ⟨p, q, hA0, hV, rfl, hfz, hnd⟩ := hW
  have hA : DataW.TrodAll enc Try.prog W 0 (fun _ => true) true Try.f5.params.toList args.toList ds p := hA0
  rw [Try.params5] at hA hval
  obtain ⟨v0, vs0, d0, ds0, p0, q0, hargs, rfl, rfl, h0, r0⟩ := trodAll_cons hA
  obtain ⟨v1, vs1, d1, ds1, p1, q1, rfl, rfl, rfl, h1, r1⟩ := trodAll_cons r0
  obtain ⟨rfl, rfl, rfl⟩ := trodAll_nil r1
  obtain rfl : args = #[v0, v1] := by cases args; simp_all
  obtain ⟨rfl, rfl⟩ := trodVars_none hV
  have k0 := h0
  have lt0 : ∀ x ∈ p0, x.block < W.heap.size := by obtain ⟨m, hm⟩ := k0; exact DataW.trod_lt m _ _ _ hm
  obtain ⟨ol, l, cl, rfl, b01, b02, b03⟩ := open_isl (hval 0 24 v0 rfl rfl) h0
  have k1 := h1
  have lt1 : ∀ x ∈ p1, x.block < W.heap.size := by obtain ⟨m, hm⟩ := k1; exact DataW.trod_lt m _ _ _ hm
  obtain ⟨x1, x2, rfl⟩ := open_wts (hval 1 32 v1 rfl rfl) h1
  clear hA0 hval0
  refine (walk W ol l cl b01 b02 b03 x1 x2).mono fun e W' ⟨he, bel⟩ => ?_
  subst he
  exact ⟨_, rfl, _, _, _, [], _, [], hW', trodAll_mk1 (shut_bool Try.underlying4 _), (trodAll_cons_mk (Below.trod laidOut (by kernel_rfl) (of_decide_eq_true (by kernel_rfl)) k0 bel lt0) (trodAll_cons_mk (Below.trod laidOut (by kernel_rfl) (of_decide_eq_true (by kernel_rfl)) k1 bel lt1) trodAll_mk0)), rfl, bel.frame _, fun h => by cases h⟩

theorem over : Rows.plannerChoosesRow.holds Try.pinned (OpenSpec.ofChange Rows.plannerChoosesSpec) :=
  OpenClaim.holds_of_wide 5 Try.f5 rfl rfl rfl rfl rfl rfl rfl ⟨rfl, rfl, rfl, rfl, rfl⟩ rfl rfl rfl rfl rfl (by kernel_rfl) Try.func5 (by kernel_rfl)
    (of_decide_eq_true (by kernel_rfl)) (by unfold Func.isWrapper; first | (rw [if_pos (by decide +kernel)]; kernel_rfl) | (rw [if_neg (by decide +kernel)]; exact ⟨rfl, rfl⟩))
    (fun os started H enc _ => lifted os started H enc)

theorem proved : Rows.PlannerChoosesSaid := over
end Go.Proofs.Ytckkhmmicbpihaa.plannerChooses
namespace Go.Proofs.Ytckkhmmicbpihaa
theorem plannerChooses_holds : Rows.PlannerChoosesSaid := plannerChooses.proved
#print axioms plannerChooses_holds
end Go.Proofs.Ytckkhmmicbpihaa
