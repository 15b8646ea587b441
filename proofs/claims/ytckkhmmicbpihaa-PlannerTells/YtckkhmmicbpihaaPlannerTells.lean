/-
  PlannerTells: what rows, configurations and their answers need.
-/
import Derived.Test.YtckkhmmicbpihaaM42
import Derived.ChangeOld
import Derived.Deep.DeepCutAuto
namespace Go.Proofs.Ytckkhmmicbpihaa.plannerTells
open Go.ChangeShapes Go.WideShapes Go.ChangeAt Go.RowKit Go.ChangeMaps
set_option linter.unusedVariables false
set_option linter.unusedSimpArgs false
set_option maxRecDepth 100000


set_option maxHeartbeats 8000000 in
theorem walk (w : World) (k : Int) (hk_ : -9223372036854775808 ≤ k ∧ k ≤ 9223372036854775807) (n : Int) (hn_ : -9223372036854775808 ≤ n ∧ n ≤ 9223372036854775807) (m : Int) (hm_ : -9223372036854775808 ≤ m ∧ m ≤ 9223372036854775807) (z1 z2 z3 z4 z5 : Int) (ol : Option Addr) (l : List Int) (cl : Nat) (Xl : Nd w ol l) (Fl : FitI l) (Cl : l.length ≤ cl) :
    Calls Try.prog 4 #[.int .i64 k, .int .i64 n, .int .i64 m, .agg #[.int .i64 z1, .int .i64 z2, .int .i64 z3, .int .i64 z4, .int .i64 z5], .slice ol l.length cl] w fun e w' => e = .returned (.bool true) ∧ Below w.heap.size w w' := by
  obtain ⟨W, hW⟩ : ∃ W, W = w.alloc (.cells #[.int .i64 z1, .int .i64 z2, .int .i64 z3, .int .i64 z4, .int .i64 z5] 23) := ⟨_, rfl⟩
  have HB := hide (show Below w.heap.size w W by rw [hW]; exact below_alloc w _)
  have A3 := hide (show Cel W w.heap.size [.int .i64 z1, .int .i64 z2, .int .i64 z3, .int .i64 z4, .int .i64 z5] 23 by rw [hW]; exact Cel.new w _ _)
  have HW := hide hW
  clear hW
  by_cases hL : 1000 < l.length
  · have hL2 : (1000 : Int) < (l.length : Int) := by omega
    go_enter Try.func4, Try.ntmps4
    go_wp2_with fail
    rw [← HW.out]
    refine (heads21_c _).mono ?_
    rintro e w9 ⟨rfl, hb⟩
    have HBf := hide (HB.out.trans (hb.mono HB.out.size))
    clear hb
    go_wp2
    go_ret
    exact ⟨rfl, HBf.out⟩
  have hL2 : ¬ (1000 : Int) < (l.length : Int) := by omega
  have PR := hide fun w0 => prow_c k n m w0
  have RR := hide fun w0 => rrow_c k n m w0
  have PB : Hid (∀ w0, Below w.heap.size w w0 → Calls Try.prog 10 #[.agg #[.int .i64 z1, .int .i64 z2, .int .i64 z3, .int .i64 z4, .int .i64 z5], .slice ol l.length cl] w0 fun e w' => e = .returned (.int .i64 (Pn.bitsN (z1, z2, z3, z4, z5) l : Nat)) ∧ Below w0.heap.size w0 w') := fun w0 h => pbits_c z1 z2 z3 z4 z5 ol l cl w0 (Xl.keep h) (by omega)
  have RB : Hid (∀ w0, Below w.heap.size w w0 → Calls Try.prog 13 #[.agg #[.int .i64 z1, .int .i64 z2, .int .i64 z3, .int .i64 z4, .int .i64 z5], .slice ol l.length cl] w0 fun e w' => e = .returned (.int .i64 (Pn.bitsN (z1, z2, z3, z4, z5) l : Nat)) ∧ Below w0.heap.size w0 w') := fun w0 h => rbits_c z1 z2 z3 z4 z5 ol l cl w0 (Xl.keep h) (by omega)
  have PS : Hid (∀ w0, Below w.heap.size w w0 → Calls Try.prog 9 #[.agg #[.int .i64 z1, .int .i64 z2, .int .i64 z3, .int .i64 z4, .int .i64 z5], .slice ol l.length cl] w0 fun e w' => e = .returned (.int .i64 (Pn.stpN (z1, z2, z3, z4, z5) l : Nat)) ∧ Below w0.heap.size w0 w') := fun w0 h => psteps_c z1 z2 z3 z4 z5 ol l cl w0 (Xl.keep h) (by omega)
  have RS : Hid (∀ w0, Below w.heap.size w w0 → Calls Try.prog 14 #[.agg #[.int .i64 z1, .int .i64 z2, .int .i64 z3, .int .i64 z4, .int .i64 z5], .slice ol l.length cl] w0 fun e w' => e = .returned (.int .i64 (Pn.stpN (z1, z2, z3, z4, z5) l : Nat)) ∧ Below w0.heap.size w0 w') := fun w0 h => rsteps_c z1 z2 z3 z4 z5 ol l cl w0 (Xl.keep h) (by omega)
  generalize Pn.rowI k n m = rv at *
  generalize Pn.bitsN (z1, z2, z3, z4, z5) l = bv at *
  generalize Pn.stpN (z1, z2, z3, z4, z5) l = sv at *
  clear Xl Fl hL
  have d0 := A3.out.cell 0 rfl
  have d1 := A3.out.cell 1 rfl
  have d2 := A3.out.cell 2 rfl
  have d3 := A3.out.cell 3 rfl
  have d4 := A3.out.cell 4 rfl
  go_enter Try.func4, Try.ntmps4
  go_upto_region 3 with fail
  rw [← HW.out]
  refine region_g [] (fun w' => Cel w' w.heap.size [.int .i64 z1, .int .i64 z2, .int .i64 z3, .int .i64 z4, .int .i64 z5] 23 ∧ Below w.heap.size w w') (by kernel_rfl) ?_
  have hS : (fun w' => Cel w' w.heap.size [.int .i64 z1, .int .i64 z2, .int .i64 z3, .int .i64 z4, .int .i64 z5] 23 ∧ Below w.heap.size w w') W.drew := ⟨A3.out.drew, HB.out.drew⟩
  clear A3 HB
  generalize W.drew = V at *
  refine AnyG.take 0 (v := ?vv1) rfl (by kernel_rfl) (by kernel_rfl) (by kernel_rfl) (by kernel_rfl) (fun _ _ _ h => h) hS ?hy1 (by rfl) ?rest1
  case hy1 =>
    intro w0 h0
    go_simp
    try with_reducible rfl
  simp only [Act.put, List.getElem_toArray, List.getElem_cons_zero, List.getElem_cons_succ, List.setIfInBounds_toArray, List.set_cons_zero, List.set_cons_succ]
  refine AnyG.take 1 (v := ?vv2) rfl (by kernel_rfl) (by kernel_rfl) (by kernel_rfl) (by kernel_rfl) (fun _ _ _ h => h) hS ?hy2 (by rfl) ?rest2
  case hy2 =>
    intro w0 h0
    go_simp
    try with_reducible rfl
  simp only [Act.put, List.getElem_toArray, List.getElem_cons_zero, List.getElem_cons_succ, List.setIfInBounds_toArray, List.set_cons_zero, List.set_cons_succ]
  refine AnyG.take 2 (v := ?vv3) rfl (by kernel_rfl) (by kernel_rfl) (by kernel_rfl) (by kernel_rfl) (fun _ _ _ h => h) hS ?hy3 (by rfl) ?rest3
  case hy3 =>
    intro w0 h0
    go_simp
    try with_reducible rfl
  simp only [Act.put, List.getElem_toArray, List.getElem_cons_zero, List.getElem_cons_succ, List.setIfInBounds_toArray, List.set_cons_zero, List.set_cons_succ]
  refine AnyG.take 4 (v := ?vv4) rfl (by kernel_rfl) (by kernel_rfl) (by kernel_rfl) (by kernel_rfl) (fun _ _ _ h => h) hS ?hy4 (by rfl) ?rest4
  case hy4 =>
    intro w0 h0
    go_simp
    try with_reducible rfl
  simp only [Act.put, List.getElem_toArray, List.getElem_cons_zero, List.getElem_cons_succ, List.setIfInBounds_toArray, List.set_cons_zero, List.set_cons_succ]
  refine AnyG.take 5 (v := ?vv5) rfl (by kernel_rfl) (by kernel_rfl) (by kernel_rfl) (by kernel_rfl) (fun _ _ _ h => h) hS ?hy5 (by rfl) ?rest5
  case hy5 =>
    intro w0 h0
    go_simp
    try with_reducible rfl
  simp only [Act.put, List.getElem_toArray, List.getElem_cons_zero, List.getElem_cons_succ, List.setIfInBounds_toArray, List.set_cons_zero, List.set_cons_succ]
  refine AnyG.take 6 (v := ?vv6) rfl (by kernel_rfl) (by kernel_rfl) (by kernel_rfl) (by kernel_rfl) (fun _ _ _ h => h) hS ?hy6 (by rfl) ?rest6
  case hy6 =>
    intro w0 h0
    go_simp
    try with_reducible rfl
  simp only [Act.put, List.getElem_toArray, List.getElem_cons_zero, List.getElem_cons_succ, List.setIfInBounds_toArray, List.set_cons_zero, List.set_cons_succ]
  refine AnyG.one 3 (by kernel_rfl) rfl ?_
  intro K hK
  go_simp
  refine (PR.out _).mono ?_
  rintro e v1 ⟨rfl, hb⟩
  replace hS : (fun w' => Cel w' w.heap.size [.int .i64 z1, .int .i64 z2, .int .i64 z3, .int .i64 z4, .int .i64 z5] 23 ∧ Below w.heap.size w w') v1 := ⟨hS.1.kept hb, hS.2.trans (hb.mono hS.2.size)⟩
  clear hb
  refine hK.out _ _ (fun _ => hS) ?_
  clear hK K
  try simp only [Act.put, List.getElem_toArray, List.getElem_cons_zero, List.getElem_cons_succ, List.setIfInBounds_toArray, List.set_cons_zero, List.set_cons_succ]
  refine AnyG.one 7 (by kernel_rfl) rfl ?_
  intro K hK
  go_simp
  refine (RR.out _).mono ?_
  rintro e v2 ⟨rfl, rfl⟩
  refine hK.out _ _ (fun _ => hS) ?_
  clear hK K
  try simp only [Act.put, List.getElem_toArray, List.getElem_cons_zero, List.getElem_cons_succ, List.setIfInBounds_toArray, List.set_cons_zero, List.set_cons_succ]
  refine AnyG.take 8 (v := .bool true) rfl (by kernel_rfl) (by kernel_rfl) (by kernel_rfl) (by kernel_rfl) (fun _ _ _ h => h) hS ?hy7 (by rfl) ?rest7
  case hy7 =>
    intro w0 h0
    go_simp
    try with_reducible rfl
  simp only [Act.put, List.getElem_toArray, List.getElem_cons_zero, List.getElem_cons_succ, List.setIfInBounds_toArray, List.set_cons_zero, List.set_cons_succ]
  refine AnyG.take 9 (v := ?vv8) rfl (by kernel_rfl) (by kernel_rfl) (by kernel_rfl) (by kernel_rfl) (fun _ _ _ h => h) hS ?hy8 (by rfl) ?rest8
  case hy8 =>
    intro w0 h0
    go_simp
    try with_reducible rfl
  simp only [Act.put, List.getElem_toArray, List.getElem_cons_zero, List.getElem_cons_succ, List.setIfInBounds_toArray, List.set_cons_zero, List.set_cons_succ]
  refine AnyG.take 10 (v := ?vv9) rfl (by kernel_rfl) (by kernel_rfl) (by kernel_rfl) (by kernel_rfl) (fun _ _ _ h => h) hS ?hy9 (by rfl) ?rest9
  case hy9 =>
    intro w0 h0
    have d0 := h0.1.cell 0 rfl
    have d1 := h0.1.cell 1 rfl
    have d2 := h0.1.cell 2 rfl
    have d3 := h0.1.cell 3 rfl
    have d4 := h0.1.cell 4 rfl
    go_simp
    try with_reducible rfl
  simp only [Act.put, List.getElem_toArray, List.getElem_cons_zero, List.getElem_cons_succ, List.setIfInBounds_toArray, List.set_cons_zero, List.set_cons_succ]
  refine AnyG.take 11 (v := ?vv10) rfl (by kernel_rfl) (by kernel_rfl) (by kernel_rfl) (by kernel_rfl) (fun _ _ _ h => h) hS ?hy10 (by rfl) ?rest10
  case hy10 =>
    intro w0 h0
    go_simp
    try with_reducible rfl
  simp only [Act.put, List.getElem_toArray, List.getElem_cons_zero, List.getElem_cons_succ, List.setIfInBounds_toArray, List.set_cons_zero, List.set_cons_succ]
  refine AnyG.take 13 (v := ?vv11) rfl (by kernel_rfl) (by kernel_rfl) (by kernel_rfl) (by kernel_rfl) (fun _ _ _ h => h) hS ?hy11 (by rfl) ?rest11
  case hy11 =>
    intro w0 h0
    have d0 := h0.1.cell 0 rfl
    have d1 := h0.1.cell 1 rfl
    have d2 := h0.1.cell 2 rfl
    have d3 := h0.1.cell 3 rfl
    have d4 := h0.1.cell 4 rfl
    go_simp
    try with_reducible rfl
  simp only [Act.put, List.getElem_toArray, List.getElem_cons_zero, List.getElem_cons_succ, List.setIfInBounds_toArray, List.set_cons_zero, List.set_cons_succ]
  refine AnyG.take 14 (v := ?vv12) rfl (by kernel_rfl) (by kernel_rfl) (by kernel_rfl) (by kernel_rfl) (fun _ _ _ h => h) hS ?hy12 (by rfl) ?rest12
  case hy12 =>
    intro w0 h0
    go_simp
    try with_reducible rfl
  simp only [Act.put, List.getElem_toArray, List.getElem_cons_zero, List.getElem_cons_succ, List.setIfInBounds_toArray, List.set_cons_zero, List.set_cons_succ]
  refine AnyG.one 12 (by kernel_rfl) rfl ?_
  intro K hK
  go_simp
  refine (PB.out _ hS.2).mono ?_
  rintro e v3 ⟨rfl, hb⟩
  replace hS : (fun w' => Cel w' w.heap.size [.int .i64 z1, .int .i64 z2, .int .i64 z3, .int .i64 z4, .int .i64 z5] 23 ∧ Below w.heap.size w w') v3 := ⟨hS.1.kept hb, hS.2.trans (hb.mono hS.2.size)⟩
  clear hb
  refine hK.out _ _ (fun _ => hS) ?_
  clear hK K
  try simp only [Act.put, List.getElem_toArray, List.getElem_cons_zero, List.getElem_cons_succ, List.setIfInBounds_toArray, List.set_cons_zero, List.set_cons_succ]
  refine AnyG.one 15 (by kernel_rfl) rfl ?_
  intro K hK
  go_simp
  refine (RB.out _ hS.2).mono ?_
  rintro e v4 ⟨rfl, hb⟩
  replace hS : (fun w' => Cel w' w.heap.size [.int .i64 z1, .int .i64 z2, .int .i64 z3, .int .i64 z4, .int .i64 z5] 23 ∧ Below w.heap.size w w') v4 := ⟨hS.1.kept hb, hS.2.trans (hb.mono hS.2.size)⟩
  clear hb
  refine hK.out _ _ (fun _ => hS) ?_
  clear hK K
  try simp only [Act.put, List.getElem_toArray, List.getElem_cons_zero, List.getElem_cons_succ, List.setIfInBounds_toArray, List.set_cons_zero, List.set_cons_succ]
  refine AnyG.take 16 (v := .bool true) rfl (by kernel_rfl) (by kernel_rfl) (by kernel_rfl) (by kernel_rfl) (fun _ _ _ h => h) hS ?hy13 (by rfl) ?rest13
  case hy13 =>
    intro w0 h0
    go_simp
    try with_reducible rfl
  simp only [Act.put, List.getElem_toArray, List.getElem_cons_zero, List.getElem_cons_succ, List.setIfInBounds_toArray, List.set_cons_zero, List.set_cons_succ]
  refine AnyG.take 17 (v := ?vv14) rfl (by kernel_rfl) (by kernel_rfl) (by kernel_rfl) (by kernel_rfl) (fun _ _ _ h => h) hS ?hy14 (by rfl) ?rest14
  case hy14 =>
    intro w0 h0
    go_simp
    try with_reducible rfl
  simp only [Act.put, List.getElem_toArray, List.getElem_cons_zero, List.getElem_cons_succ, List.setIfInBounds_toArray, List.set_cons_zero, List.set_cons_succ]
  refine AnyG.take 18 (v := ?vv15) rfl (by kernel_rfl) (by kernel_rfl) (by kernel_rfl) (by kernel_rfl) (fun _ _ _ h => h) hS ?hy15 (by rfl) ?rest15
  case hy15 =>
    intro w0 h0
    go_simp
    try with_reducible rfl
  simp only [Act.put, List.getElem_toArray, List.getElem_cons_zero, List.getElem_cons_succ, List.setIfInBounds_toArray, List.set_cons_zero, List.set_cons_succ]
  refine AnyG.take 19 (v := ?vv16) rfl (by kernel_rfl) (by kernel_rfl) (by kernel_rfl) (by kernel_rfl) (fun _ _ _ h => h) hS ?hy16 (by rfl) ?rest16
  case hy16 =>
    intro w0 h0
    have d0 := h0.1.cell 0 rfl
    have d1 := h0.1.cell 1 rfl
    have d2 := h0.1.cell 2 rfl
    have d3 := h0.1.cell 3 rfl
    have d4 := h0.1.cell 4 rfl
    go_simp
    try with_reducible rfl
  simp only [Act.put, List.getElem_toArray, List.getElem_cons_zero, List.getElem_cons_succ, List.setIfInBounds_toArray, List.set_cons_zero, List.set_cons_succ]
  refine AnyG.take 20 (v := ?vv17) rfl (by kernel_rfl) (by kernel_rfl) (by kernel_rfl) (by kernel_rfl) (fun _ _ _ h => h) hS ?hy17 (by rfl) ?rest17
  case hy17 =>
    intro w0 h0
    go_simp
    try with_reducible rfl
  simp only [Act.put, List.getElem_toArray, List.getElem_cons_zero, List.getElem_cons_succ, List.setIfInBounds_toArray, List.set_cons_zero, List.set_cons_succ]
  refine AnyG.take 22 (v := ?vv18) rfl (by kernel_rfl) (by kernel_rfl) (by kernel_rfl) (by kernel_rfl) (fun _ _ _ h => h) hS ?hy18 (by rfl) ?rest18
  case hy18 =>
    intro w0 h0
    have d0 := h0.1.cell 0 rfl
    have d1 := h0.1.cell 1 rfl
    have d2 := h0.1.cell 2 rfl
    have d3 := h0.1.cell 3 rfl
    have d4 := h0.1.cell 4 rfl
    go_simp
    try with_reducible rfl
  simp only [Act.put, List.getElem_toArray, List.getElem_cons_zero, List.getElem_cons_succ, List.setIfInBounds_toArray, List.set_cons_zero, List.set_cons_succ]
  refine AnyG.take 23 (v := ?vv19) rfl (by kernel_rfl) (by kernel_rfl) (by kernel_rfl) (by kernel_rfl) (fun _ _ _ h => h) hS ?hy19 (by rfl) ?rest19
  case hy19 =>
    intro w0 h0
    go_simp
    try with_reducible rfl
  simp only [Act.put, List.getElem_toArray, List.getElem_cons_zero, List.getElem_cons_succ, List.setIfInBounds_toArray, List.set_cons_zero, List.set_cons_succ]
  refine AnyG.one 21 (by kernel_rfl) rfl ?_
  intro K hK
  go_simp
  refine (PS.out _ hS.2).mono ?_
  rintro e v5 ⟨rfl, hb⟩
  replace hS : (fun w' => Cel w' w.heap.size [.int .i64 z1, .int .i64 z2, .int .i64 z3, .int .i64 z4, .int .i64 z5] 23 ∧ Below w.heap.size w w') v5 := ⟨hS.1.kept hb, hS.2.trans (hb.mono hS.2.size)⟩
  clear hb
  refine hK.out _ _ (fun _ => hS) ?_
  clear hK K
  try simp only [Act.put, List.getElem_toArray, List.getElem_cons_zero, List.getElem_cons_succ, List.setIfInBounds_toArray, List.set_cons_zero, List.set_cons_succ]
  refine AnyG.one 24 (by kernel_rfl) rfl ?_
  intro K hK
  go_simp
  refine (RS.out _ hS.2).mono ?_
  rintro e v6 ⟨rfl, hb⟩
  replace hS : (fun w' => Cel w' w.heap.size [.int .i64 z1, .int .i64 z2, .int .i64 z3, .int .i64 z4, .int .i64 z5] 23 ∧ Below w.heap.size w w') v6 := ⟨hS.1.kept hb, hS.2.trans (hb.mono hS.2.size)⟩
  clear hb
  refine hK.out _ _ (fun _ => hS) ?_
  clear hK K
  try simp only [Act.put, List.getElem_toArray, List.getElem_cons_zero, List.getElem_cons_succ, List.setIfInBounds_toArray, List.set_cons_zero, List.set_cons_succ]
  refine AnyG.take 25 (v := .bool true) rfl (by kernel_rfl) (by kernel_rfl) (by kernel_rfl) (by kernel_rfl) (fun _ _ _ h => h) hS ?hy20 (by rfl) ?rest20
  case hy20 =>
    intro w0 h0
    go_simp
    try with_reducible rfl
  simp only [Act.put, List.getElem_toArray, List.getElem_cons_zero, List.getElem_cons_succ, List.setIfInBounds_toArray, List.set_cons_zero, List.set_cons_succ]
  refine AnyG.take 26 (v := ?vv21) rfl (by kernel_rfl) (by kernel_rfl) (by kernel_rfl) (by kernel_rfl) (fun _ _ _ h => h) hS ?hy21 (by rfl) ?rest21
  case hy21 =>
    intro w0 h0
    go_simp
    try with_reducible rfl
  simp only [Act.put, List.getElem_toArray, List.getElem_cons_zero, List.getElem_cons_succ, List.setIfInBounds_toArray, List.set_cons_zero, List.set_cons_succ]
  refine AnyG.take 27 (v := ?vv22) rfl (by kernel_rfl) (by kernel_rfl) (by kernel_rfl) (by kernel_rfl) (fun _ _ _ h => h) hS ?hy22 (by rfl) ?rest22
  case hy22 =>
    intro w0 h0
    go_simp
    try with_reducible rfl
  simp only [Act.put, List.getElem_toArray, List.getElem_cons_zero, List.getElem_cons_succ, List.setIfInBounds_toArray, List.set_cons_zero, List.set_cons_succ]
  refine AnyG.one 28 (by kernel_rfl) rfl ?_
  intro K hK
  go_simp
  refine (heads21_c _).mono ?_
  rintro e v7 ⟨rfl, hb⟩
  replace hS : (fun w' => Cel w' w.heap.size [.int .i64 z1, .int .i64 z2, .int .i64 z3, .int .i64 z4, .int .i64 z5] 23 ∧ Below w.heap.size w w') v7 := ⟨hS.1.kept hb, hS.2.trans (hb.mono hS.2.size)⟩
  clear hb
  refine hK.out _ _ (fun _ => hS) ?_
  clear hK K
  try simp only [Act.put, List.getElem_toArray, List.getElem_cons_zero, List.getElem_cons_succ, List.setIfInBounds_toArray, List.set_cons_zero, List.set_cons_succ]
  refine AnyG.take 29 (v := ?vv23) rfl (by kernel_rfl) (by kernel_rfl) (by kernel_rfl) (by kernel_rfl) (fun _ _ _ h => h) hS ?hy23 (by rfl) ?rest23
  case hy23 =>
    intro w0 h0
    go_simp
    try with_reducible rfl
  simp only [Act.put, List.getElem_toArray, List.getElem_cons_zero, List.getElem_cons_succ, List.setIfInBounds_toArray, List.set_cons_zero, List.set_cons_succ]
  refine AnyG.take 30 (v := ?vv24) rfl (by kernel_rfl) (by kernel_rfl) (by kernel_rfl) (by kernel_rfl) (fun _ _ _ h => h) hS ?hy24 (by rfl) ?rest24
  case hy24 =>
    intro w0 h0
    go_simp
    try with_reducible rfl
  simp only [Act.put, List.getElem_toArray, List.getElem_cons_zero, List.getElem_cons_succ, List.setIfInBounds_toArray, List.set_cons_zero, List.set_cons_succ]
  refine AnyG.done (by kernel_rfl) ?_ _
  have HBf := hide hS.2
  clear hS
  go_wp2
  go_ret
  exact ⟨rfl, HBf.out⟩

theorem lifted (os : Os) (started : os.Started) (H : Type) (enc : TypeId × Value → H) :
    ReturnsInHanded {} Try.checked os 4 .any (Rows.plannerTellsSpec.pre6 enc Try.prog Try.f4 Rows.plannerTellsRow.domain false) (Rows.plannerTellsSpec.post enc Try.prog Try.f4 false true false false) := by
  refine returnsInHanded_of_change (C := Try.checked) own started (by kernel_rfl) Try.func4
    (ChangeSpec.witness6 (enc := enc) (C := Try.checked) false ⟨#[], #[.int .i64 0, .int .i64 0, .int .i64 0, .agg #[.int .i64 0, .int .i64 0, .int .i64 0, .int .i64 0, .int .i64 0], .slice none 0 0], []⟩ 8 (by kernel_rfl) (by kernel_rfl) (by kernel_rfl) (by kernel_rfl)) ?_
  intro W base args ds gs before hval0 hW hcnd _
  have hval : ∀ (j : Nat) t v, Try.f4.params[j]? = some t → args[j]? = some v → Value.okWide Try.prog W .any base t v := hval0
  have hW' := hW
  obtain ⟨p, q, hA0, hV, rfl, hfz, hnd⟩ := hW
  have hA : DataW.TrodAll enc Try.prog W 0 (fun _ => true) true Try.f4.params.toList args.toList ds p := hA0
  rw [Try.params4] at hA hval
  obtain ⟨v0, vs0, d0, ds0, p0, q0, hargs, rfl, rfl, h0, r0⟩ := trodAll_cons hA
  obtain ⟨v1, vs1, d1, ds1, p1, q1, rfl, rfl, rfl, h1, r1⟩ := trodAll_cons r0
  obtain ⟨v2, vs2, d2, ds2, p2, q2, rfl, rfl, rfl, h2, r2⟩ := trodAll_cons r1
  obtain ⟨v3, vs3, d3, ds3, p3, q3, rfl, rfl, rfl, h3, r3⟩ := trodAll_cons r2
  obtain ⟨v4, vs4, d4, ds4, p4, q4, rfl, rfl, rfl, h4, r4⟩ := trodAll_cons r3
  obtain ⟨rfl, rfl, rfl⟩ := trodAll_nil r4
  obtain rfl : args = #[v0, v1, v2, v3, v4] := by cases args; simp_all
  obtain ⟨rfl, rfl⟩ := trodVars_none hV
  obtain ⟨k, rfl, rfl, rfl, w0⟩ := open_int Try.underlying3 (hval 0 3 v0 rfl rfl) h0
  obtain ⟨n, rfl, rfl, rfl, w1⟩ := open_int Try.underlying3 (hval 1 3 v1 rfl rfl) h1
  obtain ⟨m, rfl, rfl, rfl, w2⟩ := open_int Try.underlying3 (hval 2 3 v2 rfl rfl) h2
  have k3 := h3
  have lt3 : ∀ x ∈ p3, x.block < W.heap.size := by obtain ⟨m, hm⟩ := k3; exact DataW.trod_lt m _ _ _ hm
  obtain ⟨z1, z2, z3, z4, z5, rfl⟩ := open_cfg (hval 3 23 v3 rfl rfl) h3
  have k4 := h4
  have lt4 : ∀ x ∈ p4, x.block < W.heap.size := by obtain ⟨m, hm⟩ := k4; exact DataW.trod_lt m _ _ _ hm
  obtain ⟨ol, l, cl, rfl, b41, b42, b43⟩ := open_isl (hval 4 24 v4 rfl rfl) h4
  clear hA0 hval0
  refine (walk W k (i64_wf _ w0) n (i64_wf _ w1) m (i64_wf _ w2) z1 z2 z3 z4 z5 ol l cl b41 b42 b43).mono fun e W' ⟨he, bel⟩ => ?_
  subst he
  exact ⟨_, rfl, _, _, _, [], _, [], hW', trodAll_mk1 (shut_bool Try.underlying4 _), (trodAll_cons_mk (shut_int Try.underlying3 w0) (trodAll_cons_mk (shut_int Try.underlying3 w1) (trodAll_cons_mk (shut_int Try.underlying3 w2) (trodAll_cons_mk (Below.trod laidOut (by kernel_rfl) (of_decide_eq_true (by kernel_rfl)) k3 bel lt3) (trodAll_cons_mk (Below.trod laidOut (by kernel_rfl) (of_decide_eq_true (by kernel_rfl)) k4 bel lt4) trodAll_mk0))))), rfl, bel.frame _, fun h => by cases h⟩

theorem over : Rows.plannerTellsRow.holds Try.pinned (OpenSpec.ofChange Rows.plannerTellsSpec) :=
  OpenClaim.holds_of_wide 4 Try.f4 rfl rfl rfl rfl rfl rfl rfl ⟨rfl, rfl, rfl, rfl, rfl⟩ rfl rfl rfl rfl rfl (by kernel_rfl) Try.func4 (by kernel_rfl)
    (of_decide_eq_true (by kernel_rfl)) (by unfold Func.isWrapper; first | (rw [if_pos (by decide +kernel)]; kernel_rfl) | (rw [if_neg (by decide +kernel)]; exact ⟨rfl, rfl⟩))
    (fun os started H enc _ => lifted os started H enc)

theorem proved : Rows.PlannerTellsSaid := over
end Go.Proofs.Ytckkhmmicbpihaa.plannerTells
namespace Go.Proofs.Ytckkhmmicbpihaa
theorem plannerTells_holds : Rows.PlannerTellsSaid := plannerTells.proved
#print axioms plannerTells_holds
end Go.Proofs.Ytckkhmmicbpihaa
