/-
  PlannerBest: no other configuration is better than what is chosen, and that this may be.
-/
import Derived.Test.YtckkhmmicbpihaaM42
import Derived.Test.YtckkhmmicbpihaaM40
import Derived.ChangeOld
import Derived.Deep.DeepCutAuto
namespace Go.Proofs.Ytckkhmmicbpihaa.plannerBest
open Go.ChangeShapes Go.WideShapes Go.ChangeAt Go.RowKit Go.ChangeMaps
set_option linter.unusedVariables false
set_option linter.unusedSimpArgs false
set_option maxRecDepth 100000


set_option maxHeartbeats 8000000 in
theorem walk (w : World) (ol : Option Addr) (l : List Int) (cl : Nat) (Xl : Nd w ol l) (Fl : FitI l) (Cl : l.length ≤ cl) (x1 x2 : Int) (y1 y2 y3 y4 y5 : Int) :
    Calls Try.prog 6 #[.slice ol l.length cl, .agg #[.int .i64 x1, .int .i64 x2], .agg #[.int .i64 y1, .int .i64 y2, .int .i64 y3, .int .i64 y4, .int .i64 y5]] w fun e w' => e = .returned (.bool true) ∧ Below w.heap.size w w' := by
  obtain ⟨W, hW⟩ : ∃ W, W = (w.alloc (.cells #[.int .i64 x1, .int .i64 x2] 32)).alloc (.cells #[.int .i64 y1, .int .i64 y2, .int .i64 y3, .int .i64 y4, .int .i64 y5] 23) := ⟨_, rfl⟩
  have HB := hide (show Below w.heap.size w W by rw [hW]; exact (below_alloc w _).alloc (by simp) _)
  have HWt := hide (show Cel W w.heap.size [.int .i64 x1, .int .i64 x2] 32 by rw [hW]; exact (Cel.new w _ _).alloc _)
  have HY := hide (show Cel W (w.heap.size + 1) [.int .i64 y1, .int .i64 y2, .int .i64 y3, .int .i64 y4, .int .i64 y5] 23 by rw [hW]; exact Cel.new2 w _ _ _)
  have HW := hide hW
  clear hW
  have d0 := HY.out.cell 0 rfl
  have d1 := HY.out.cell 1 rfl
  have d2 := HY.out.cell 2 rfl
  have d3 := HY.out.cell 3 rfl
  have d4 := HY.out.cell 4 rfl
  have e0 := HWt.out.cell 0 rfl
  have e1 := HWt.out.cell 1 rfl
  by_cases hL : 1000 < l.length
  · have hL2 : (1000 : Int) < (l.length : Int) := by omega
    go_enter Try.func6, Try.ntmps6
    go_wp2_with fail
    rw [← HW.out]
    refine (heads21_c _).mono ?_
    rintro e w9 ⟨rfl, hb⟩
    have HBf := hide (HB.out.trans (hb.mono HB.out.size))
    clear hb d0 d1 d2 d3 d4 e0 e1
    go_wp2
    go_ret
    exact ⟨rfl, HBf.out⟩
  have hL2 : ¬ (1000 : Int) < (l.length : Int) := by omega
  have KK := hide fun w0 => rcheck_c y1 y2 y3 y4 y5 w0
  cases hY : Co.okZ (y1, y2, y3, y4, y5) with
  | false =>
    rw [hY] at KK
    clear Xl Fl
    go_enter Try.func6, Try.ntmps6
    go_wp2_with fail
    rw [← HW.out]
    refine (KK.out _).mono ?_
    rintro e w1 ⟨rfl, hb⟩
    replace HWt := hide (HWt.out.kept hb)
    replace HY := hide (HY.out.kept hb)
    replace HB := hide (HB.out.trans (hb.mono HB.out.size))
    clear hb d0 d1 d2 d3 d4 e0 e1
    go_wp2_with fail
    refine (heads21_c _).mono ?_
    rintro e w9 ⟨rfl, hb⟩
    have HBf := hide (HB.out.trans (hb.mono HB.out.size))
    clear hb
    go_wp2
    go_ret
    exact ⟨rfl, HBf.out⟩
  | true =>
    rw [hY] at KK
    cases hO : Pn.okW l x1 x2 with
    | false =>
      have PC : Hid (∀ w0, Below w.heap.size w w0 → Calls Try.prog 15 #[.slice ol l.length cl, .agg #[.int .i64 x1, .int .i64 x2]] w0 fun e w' => e = .returned (.tuple #[.agg #[.int .i64 0, .int .i64 0, .int .i64 0, .int .i64 0, .int .i64 0], .int .i64 2]) ∧ Below w0.heap.size w0 w') := fun w0 h => by
        have := pchoose_c x1 x2 ol l cl w0 (Xl.keep h) (by omega)
        rw [show Pn.chZ l x1 x2 = (0, 0, 0, 0, 0) by unfold Pn.chZ; rw [if_neg (by rw [hO]; decide)], show Pn.chE l x1 x2 = 2 by unfold Pn.chE; rw [if_neg (by rw [hO]; decide)]] at this
        exact this
      clear Xl Fl hO hY
      go_enter Try.func6, Try.ntmps6
      go_wp2_with fail
      rw [← HW.out]
      refine (KK.out _).mono ?_
      rintro e w1 ⟨rfl, hb⟩
      replace HWt := hide (HWt.out.kept hb)
      replace HY := hide (HY.out.kept hb)
      replace HB := hide (HB.out.trans (hb.mono HB.out.size))
      clear hb d0 d1 d2 d3 d4 e0 e1
      have e0 := HWt.out.cell 0 rfl
      have e1 := HWt.out.cell 1 rfl
      go_wp2_with fail
      refine (PC.out _ HB.out).mono ?_
      rintro e w2 ⟨rfl, hb⟩
      obtain ⟨V2, hV2⟩ : ∃ V, V = w2.alloc (.cells #[.int .i64 0, .int .i64 0, .int .i64 0, .int .i64 0, .int .i64 0] 23) := ⟨_, rfl⟩
      have HZ := hide (show Cel V2 w2.heap.size [.int .i64 0, .int .i64 0, .int .i64 0, .int .i64 0, .int .i64 0] 23 by rw [hV2]; exact Cel.new w2 _ _)
      replace HWt := hide (show Cel V2 w.heap.size [.int .i64 x1, .int .i64 x2] 32 by rw [hV2]; exact (HWt.out.kept hb).alloc _)
      replace HY := hide (show Cel V2 (w.heap.size + 1) [.int .i64 y1, .int .i64 y2, .int .i64 y3, .int .i64 y4, .int .i64 y5] 23 by rw [hV2]; exact (HY.out.kept hb).alloc _)
      replace HB := hide (show Below w.heap.size w V2 by rw [hV2]; exact (HB.out.trans (hb.mono HB.out.size)).trans ((below_alloc w2 _).mono (HB.out.trans (hb.mono HB.out.size)).size))
      clear hb e0 e1
      go_upto_region 4 with fail
      rw [← hV2]
      clear hV2
      generalize w2.heap.size = g7 at *
      have d0 := HZ.out.cell 0 rfl
      have d1 := HZ.out.cell 1 rfl
      have d2 := HZ.out.cell 2 rfl
      have d3 := HZ.out.cell 3 rfl
      have d4 := HZ.out.cell 4 rfl
      go_wp2_with fail
      refine (heads21_c _).mono ?_
      rintro e w9 ⟨rfl, hb⟩
      have HBf := hide (HB.out.trans (hb.mono HB.out.size))
      clear hb d0 d1 d2 d3 d4
      go_wp2
      go_ret
      exact ⟨rfl, HBf.out⟩
    | true =>
      have hO2 := hO
      unfold Pn.okW at hO2
      simp only [Bool.and_eq_true, decide_eq_true_eq] at hO2
      obtain ⟨hT, u1, u2, u3, u4⟩ := hO2
      obtain ⟨wb, rfl⟩ := Int.eq_ofNat_of_zero_le u1
      obtain ⟨ws, rfl⟩ := Int.eq_ofNat_of_zero_le u3
      have hwb : wb ≤ 65536 := by omega
      have hws : ws ≤ 65536 := by omega
      obtain ⟨⟨z1, z2, z3, z4, z5⟩, hz⟩ : ∃ z, z = Pn.chZ l (wb : Int) (ws : Int) := ⟨_, rfl⟩
      have hch : (z1, z2, z3, z4, z5) = Co.az.getD (Pn.am (Pn.wgq l wb ws) 378) (0, 0, 0, 0, 0) := by
        rw [hz]
        unfold Pn.chZ
        rw [if_pos hO, Int.toNat_natCast, Int.toNat_natCast]
      have ham := Pn.am_lt (Pn.wgq l wb ws) (q := 378) (by decide)
      have hZ : Co.okZ (z1, z2, z3, z4, z5) = true := by rw [hch]; exact Pn.okZ_az ham
      have hle : Pn.wgt l wb ws (z1, z2, z3, z4, z5) ≤ Pn.wgt l wb ws (y1, y2, y3, y4, y5) := by
        obtain ⟨j, hj, ej⟩ := List.getElem_of_mem (Co.okZ_mem hY)
        rw [Co.az_len] at hj
        have := Pn.am_le (Pn.wgq l wb ws) hj
        unfold Pn.wgq at this
        rw [hch]
        rw [show Co.az.getD j (0, 0, 0, 0, 0) = (y1, y2, y3, y4, y5) by rw [List.getD_eq_getElem?_getD, List.getElem?_eq_getElem (by rw [Co.az_len]; exact hj), ej]; rfl] at this
        exact this
      have PC : Hid (∀ w0, Below w.heap.size w w0 → Calls Try.prog 15 #[.slice ol l.length cl, .agg #[.int .i64 (wb : Int), .int .i64 (ws : Int)]] w0 fun e w' => e = .returned (.tuple #[.agg #[.int .i64 z1, .int .i64 z2, .int .i64 z3, .int .i64 z4, .int .i64 z5], .int .i64 0]) ∧ Below w0.heap.size w0 w') := fun w0 h => by
        have := pchoose_c wb ws ol l cl w0 (Xl.keep h) (by omega)
        rw [← hz, show Pn.chE l wb ws = 0 by unfold Pn.chE; rw [if_pos hO]] at this
        exact this
      have KZ : Hid (∀ w0, Calls Try.prog 7 #[.agg #[.int .i64 z1, .int .i64 z2, .int .i64 z3, .int .i64 z4, .int .i64 z5]] w0 fun e w' => e = .returned (.bool true) ∧ Below w0.heap.size w0 w') := fun w0 => by
        have := rcheck_c z1 z2 z3 z4 z5 w0
        rw [hZ] at this
        exact this
      have Bz : Hid (∀ w0, Below w.heap.size w w0 → Calls Try.prog 10 #[.agg #[.int .i64 z1, .int .i64 z2, .int .i64 z3, .int .i64 z4, .int .i64 z5], .slice ol l.length cl] w0 fun e w' => e = .returned (.int .i64 (Pn.bitsN (z1, z2, z3, z4, z5) l : Nat)) ∧ Below w0.heap.size w0 w') := fun w0 h => pbits_c z1 z2 z3 z4 z5 ol l cl w0 (Xl.keep h) (by omega)
      have Sz : Hid (∀ w0, Below w.heap.size w w0 → Calls Try.prog 9 #[.agg #[.int .i64 z1, .int .i64 z2, .int .i64 z3, .int .i64 z4, .int .i64 z5], .slice ol l.length cl] w0 fun e w' => e = .returned (.int .i64 (Pn.stpN (z1, z2, z3, z4, z5) l : Nat)) ∧ Below w0.heap.size w0 w') := fun w0 h => psteps_c z1 z2 z3 z4 z5 ol l cl w0 (Xl.keep h) (by omega)
      have lbz := Pn.bitsN_le hT (z1, z2, z3, z4, z5)
      have lsz := Pn.stpN_le hT (z1, z2, z3, z4, z5)
      have By : Hid (∀ w0, Below w.heap.size w w0 → Calls Try.prog 10 #[.agg #[.int .i64 y1, .int .i64 y2, .int .i64 y3, .int .i64 y4, .int .i64 y5], .slice ol l.length cl] w0 fun e w' => e = .returned (.int .i64 (Pn.bitsN (y1, y2, y3, y4, y5) l : Nat)) ∧ Below w0.heap.size w0 w') := fun w0 h => pbits_c y1 y2 y3 y4 y5 ol l cl w0 (Xl.keep h) (by omega)
      have Sy : Hid (∀ w0, Below w.heap.size w w0 → Calls Try.prog 9 #[.agg #[.int .i64 y1, .int .i64 y2, .int .i64 y3, .int .i64 y4, .int .i64 y5], .slice ol l.length cl] w0 fun e w' => e = .returned (.int .i64 (Pn.stpN (y1, y2, y3, y4, y5) l : Nat)) ∧ Below w0.heap.size w0 w') := fun w0 h => psteps_c y1 y2 y3 y4 y5 ol l cl w0 (Xl.keep h) (by omega)
      have lby := Pn.bitsN_le hT (y1, y2, y3, y4, y5)
      have lsy := Pn.stpN_le hT (y1, y2, y3, y4, y5)
      unfold Pn.wgt at hle
      clear hz hch ham hZ hY hO hT hL Xl Fl u1 u2 u3 u4
      generalize Pn.bitsN (z1, z2, z3, z4, z5) l = bbz at *
      generalize Pn.stpN (z1, z2, z3, z4, z5) l = sz at *
      have p1z := Nat.mul_le_mul lbz hwb
      have p2z := Nat.mul_le_mul lsz hws
      have emz : (bbz : Int) * (wb : Int) = ((bbz * wb : Nat) : Int) := by rw [Int.natCast_mul]
      have enz : (sz : Int) * (ws : Int) = ((sz * ws : Nat) : Int) := by rw [Int.natCast_mul]
      generalize bbz * wb = mz at *
      generalize sz * ws = nz at *
      obtain ⟨tz, htz⟩ : ∃ t, t = mz + nz := ⟨_, rfl⟩
      generalize Pn.bitsN (y1, y2, y3, y4, y5) l = bby at *
      generalize Pn.stpN (y1, y2, y3, y4, y5) l = sy at *
      have p1y := Nat.mul_le_mul lby hwb
      have p2y := Nat.mul_le_mul lsy hws
      have emy : (bby : Int) * (wb : Int) = ((bby * wb : Nat) : Int) := by rw [Int.natCast_mul]
      have eny : (sy : Int) * (ws : Int) = ((sy * ws : Nat) : Int) := by rw [Int.natCast_mul]
      generalize bby * wb = my at *
      generalize sy * ws = ny at *
      obtain ⟨ty, hty⟩ : ∃ t, t = my + ny := ⟨_, rfl⟩
      have hlez : (tz : Int) ≤ (ty : Int) := by omega
      have hlem : (mz : Int) + (nz : Int) ≤ (my : Int) + (ny : Int) := by omega
      clear hle
      go_enter Try.func6, Try.ntmps6
      go_wp2_with fail
      rw [← HW.out]
      refine (KK.out _).mono ?_
      rintro e w1 ⟨rfl, hb⟩
      replace HWt := hide (HWt.out.kept hb)
      replace HY := hide (HY.out.kept hb)
      replace HB := hide (HB.out.trans (hb.mono HB.out.size))
      clear hb d0 d1 d2 d3 d4 e0 e1
      have e0 := HWt.out.cell 0 rfl
      have e1 := HWt.out.cell 1 rfl
      go_wp2_with fail
      refine (PC.out _ HB.out).mono ?_
      rintro e w2 ⟨rfl, hb⟩
      obtain ⟨V2, hV2⟩ : ∃ V, V = w2.alloc (.cells #[.int .i64 z1, .int .i64 z2, .int .i64 z3, .int .i64 z4, .int .i64 z5] 23) := ⟨_, rfl⟩
      have HZ := hide (show Cel V2 w2.heap.size [.int .i64 z1, .int .i64 z2, .int .i64 z3, .int .i64 z4, .int .i64 z5] 23 by rw [hV2]; exact Cel.new w2 _ _)
      replace HWt := hide (show Cel V2 w.heap.size [.int .i64 (wb : Int), .int .i64 (ws : Int)] 32 by rw [hV2]; exact (HWt.out.kept hb).alloc _)
      replace HY := hide (show Cel V2 (w.heap.size + 1) [.int .i64 y1, .int .i64 y2, .int .i64 y3, .int .i64 y4, .int .i64 y5] 23 by rw [hV2]; exact (HY.out.kept hb).alloc _)
      replace HB := hide (show Below w.heap.size w V2 by rw [hV2]; exact (HB.out.trans (hb.mono HB.out.size)).trans ((below_alloc w2 _).mono (HB.out.trans (hb.mono HB.out.size)).size))
      clear hb e0 e1
      go_upto_region 4 with fail
      rw [← hV2]
      clear hV2
      generalize w2.heap.size = g7 at *
      have d0 := HZ.out.cell 0 rfl
      have d1 := HZ.out.cell 1 rfl
      have d2 := HZ.out.cell 2 rfl
      have d3 := HZ.out.cell 3 rfl
      have d4 := HZ.out.cell 4 rfl
      go_upto_region 6 with fail
      clear d0 d1 d2 d3 d4
      refine region_g [] (fun w' => Cel w' w.heap.size [.int .i64 (wb : Int), .int .i64 (ws : Int)] 32 ∧ Cel w' (w.heap.size + 1) [.int .i64 y1, .int .i64 y2, .int .i64 y3, .int .i64 y4, .int .i64 y5] 23 ∧ Cel w' g7 [.int .i64 z1, .int .i64 z2, .int .i64 z3, .int .i64 z4, .int .i64 z5] 23 ∧ Below w.heap.size w w') (by kernel_rfl) ?_
      have hS : (fun w' => Cel w' w.heap.size [.int .i64 (wb : Int), .int .i64 (ws : Int)] 32 ∧ Cel w' (w.heap.size + 1) [.int .i64 y1, .int .i64 y2, .int .i64 y3, .int .i64 y4, .int .i64 y5] 23 ∧ Cel w' g7 [.int .i64 z1, .int .i64 z2, .int .i64 z3, .int .i64 z4, .int .i64 z5] 23 ∧ Below w.heap.size w w') V2.drew := ⟨HWt.out.drew, HY.out.drew, HZ.out.drew, HB.out.drew⟩
      clear HWt HY HZ HB
      generalize V2.drew = V0 at *
      refine AnyG.take 0 (v := ?vv1) rfl (by kernel_rfl) (by kernel_rfl) (by kernel_rfl) (by kernel_rfl) (fun _ _ _ h => h) hS ?hy1 (by rfl) ?rest1
      case hy1 =>
        intro w0 h0
        have d0 := h0.2.2.1.cell 0 rfl
        have d1 := h0.2.2.1.cell 1 rfl
        have d2 := h0.2.2.1.cell 2 rfl
        have d3 := h0.2.2.1.cell 3 rfl
        have d4 := h0.2.2.1.cell 4 rfl
        go_simp
        try with_reducible rfl
      simp only [Act.put, List.getElem_toArray, List.getElem_cons_zero, List.getElem_cons_succ, List.setIfInBounds_toArray, List.set_cons_zero, List.set_cons_succ]
      refine AnyG.take 1 (v := ?vv2) rfl (by kernel_rfl) (by kernel_rfl) (by kernel_rfl) (by kernel_rfl) (fun _ _ _ h => h) hS ?hy2 (by rfl) ?rest2
      case hy2 =>
        intro w0 h0
        go_simp
        try with_reducible rfl
      simp only [Act.put, List.getElem_toArray, List.getElem_cons_zero, List.getElem_cons_succ, List.setIfInBounds_toArray, List.set_cons_zero, List.set_cons_succ]
      refine AnyG.take 3 (v := ?vv3) rfl (by kernel_rfl) (by kernel_rfl) (by kernel_rfl) (by kernel_rfl) (fun _ _ _ h => h) hS ?hy3 (by rfl) ?rest3
      case hy3 =>
        intro w0 h0
        go_simp
        try with_reducible rfl
      simp only [Act.put, List.getElem_toArray, List.getElem_cons_zero, List.getElem_cons_succ, List.setIfInBounds_toArray, List.set_cons_zero, List.set_cons_succ]
      refine AnyG.take 4 (v := ?vv4) rfl (by kernel_rfl) (by kernel_rfl) (by kernel_rfl) (by kernel_rfl) (fun _ _ _ h => h) hS ?hy4 (by rfl) ?rest4
      case hy4 =>
        intro w0 h0
        have e0 := h0.1.cell 0 rfl
        have e1 := h0.1.cell 1 rfl
        go_simp
        try with_reducible rfl
      simp only [Act.put, List.getElem_toArray, List.getElem_cons_zero, List.getElem_cons_succ, List.setIfInBounds_toArray, List.set_cons_zero, List.set_cons_succ]
      refine AnyG.take 6 (v := ?vv5) rfl (by kernel_rfl) (by kernel_rfl) (by kernel_rfl) (by kernel_rfl) (fun _ _ _ h => h) hS ?hy5 (by rfl) ?rest5
      case hy5 =>
        intro w0 h0
        have d0 := h0.2.2.1.cell 0 rfl
        have d1 := h0.2.2.1.cell 1 rfl
        have d2 := h0.2.2.1.cell 2 rfl
        have d3 := h0.2.2.1.cell 3 rfl
        have d4 := h0.2.2.1.cell 4 rfl
        go_simp
        try with_reducible rfl
      simp only [Act.put, List.getElem_toArray, List.getElem_cons_zero, List.getElem_cons_succ, List.setIfInBounds_toArray, List.set_cons_zero, List.set_cons_succ]
      refine AnyG.take 7 (v := ?vv6) rfl (by kernel_rfl) (by kernel_rfl) (by kernel_rfl) (by kernel_rfl) (fun _ _ _ h => h) hS ?hy6 (by rfl) ?rest6
      case hy6 =>
        intro w0 h0
        go_simp
        try with_reducible rfl
      simp only [Act.put, List.getElem_toArray, List.getElem_cons_zero, List.getElem_cons_succ, List.setIfInBounds_toArray, List.set_cons_zero, List.set_cons_succ]
      refine AnyG.take 9 (v := ?vv7) rfl (by kernel_rfl) (by kernel_rfl) (by kernel_rfl) (by kernel_rfl) (fun _ _ _ h => h) hS ?hy7 (by rfl) ?rest7
      case hy7 =>
        intro w0 h0
        go_simp
        try with_reducible rfl
      simp only [Act.put, List.getElem_toArray, List.getElem_cons_zero, List.getElem_cons_succ, List.setIfInBounds_toArray, List.set_cons_zero, List.set_cons_succ]
      refine AnyG.take 10 (v := ?vv8) rfl (by kernel_rfl) (by kernel_rfl) (by kernel_rfl) (by kernel_rfl) (fun _ _ _ h => h) hS ?hy8 (by rfl) ?rest8
      case hy8 =>
        intro w0 h0
        have e0 := h0.1.cell 0 rfl
        have e1 := h0.1.cell 1 rfl
        go_simp
        try with_reducible rfl
      simp only [Act.put, List.getElem_toArray, List.getElem_cons_zero, List.getElem_cons_succ, List.setIfInBounds_toArray, List.set_cons_zero, List.set_cons_succ]
      refine AnyG.one 2 (by kernel_rfl) rfl ?_
      intro K hK
      go_simp
      refine (Bz.out _ hS.2.2.2).mono ?_
      rintro e v1 ⟨rfl, hb⟩
      replace hS : (fun w' => Cel w' w.heap.size [.int .i64 (wb : Int), .int .i64 (ws : Int)] 32 ∧ Cel w' (w.heap.size + 1) [.int .i64 y1, .int .i64 y2, .int .i64 y3, .int .i64 y4, .int .i64 y5] 23 ∧ Cel w' g7 [.int .i64 z1, .int .i64 z2, .int .i64 z3, .int .i64 z4, .int .i64 z5] 23 ∧ Below w.heap.size w w') v1 := ⟨hS.1.kept hb, hS.2.1.kept hb, hS.2.2.1.kept hb, hS.2.2.2.trans (hb.mono hS.2.2.2.size)⟩
      clear hb
      refine hK.out _ _ (fun _ => hS) ?_
      clear hK K
      try simp only [Act.put, List.getElem_toArray, List.getElem_cons_zero, List.getElem_cons_succ, List.setIfInBounds_toArray, List.set_cons_zero, List.set_cons_succ]
      refine AnyG.take 5 (v := .int .i64 (mz : Int)) rfl (by kernel_rfl) (by kernel_rfl) (by kernel_rfl) (by kernel_rfl) (fun _ _ _ h => h) hS ?hy9 (by rfl) ?rest9
      case hy9 =>
        intro w0 h0
        have wr : IntKind.i64.wrap ((bbz : Int) * (wb : Int)) = (mz : Int) := by rw [emz, IntKind.wrap_i64]; omega
        go_simp
        try with_reducible rfl
        try (rw [IntKind.wrap_i64]; omega)
      simp only [Act.put, List.getElem_toArray, List.getElem_cons_zero, List.getElem_cons_succ, List.setIfInBounds_toArray, List.set_cons_zero, List.set_cons_succ]
      refine AnyG.one 8 (by kernel_rfl) rfl ?_
      intro K hK
      go_simp
      refine (Sz.out _ hS.2.2.2).mono ?_
      rintro e v2 ⟨rfl, hb⟩
      replace hS : (fun w' => Cel w' w.heap.size [.int .i64 (wb : Int), .int .i64 (ws : Int)] 32 ∧ Cel w' (w.heap.size + 1) [.int .i64 y1, .int .i64 y2, .int .i64 y3, .int .i64 y4, .int .i64 y5] 23 ∧ Cel w' g7 [.int .i64 z1, .int .i64 z2, .int .i64 z3, .int .i64 z4, .int .i64 z5] 23 ∧ Below w.heap.size w w') v2 := ⟨hS.1.kept hb, hS.2.1.kept hb, hS.2.2.1.kept hb, hS.2.2.2.trans (hb.mono hS.2.2.2.size)⟩
      clear hb
      refine hK.out _ _ (fun _ => hS) ?_
      clear hK K
      try simp only [Act.put, List.getElem_toArray, List.getElem_cons_zero, List.getElem_cons_succ, List.setIfInBounds_toArray, List.set_cons_zero, List.set_cons_succ]
      refine AnyG.take 11 (v := .int .i64 (nz : Int)) rfl (by kernel_rfl) (by kernel_rfl) (by kernel_rfl) (by kernel_rfl) (fun _ _ _ h => h) hS ?hy10 (by rfl) ?rest10
      case hy10 =>
        intro w0 h0
        have wr : IntKind.i64.wrap ((sz : Int) * (ws : Int)) = (nz : Int) := by rw [enz, IntKind.wrap_i64]; omega
        go_simp
        try with_reducible rfl
        try (rw [IntKind.wrap_i64]; omega)
      simp only [Act.put, List.getElem_toArray, List.getElem_cons_zero, List.getElem_cons_succ, List.setIfInBounds_toArray, List.set_cons_zero, List.set_cons_succ]
      refine AnyG.take 12 (v := .int .i64 (tz : Int)) rfl (by kernel_rfl) (by kernel_rfl) (by kernel_rfl) (by kernel_rfl) (fun _ _ _ h => h) hS ?hy11 (by rfl) ?rest11
      case hy11 =>
        intro w0 h0
        have wr : IntKind.i64.wrap ((mz : Int) + (nz : Int)) = (tz : Int) := by rw [IntKind.wrap_i64]; omega
        go_simp
        try with_reducible rfl
        try (rw [IntKind.wrap_i64]; omega)
      simp only [Act.put, List.getElem_toArray, List.getElem_cons_zero, List.getElem_cons_succ, List.setIfInBounds_toArray, List.set_cons_zero, List.set_cons_succ]
      refine AnyG.take 13 (v := ?vv12) rfl (by kernel_rfl) (by kernel_rfl) (by kernel_rfl) (by kernel_rfl) (fun _ _ _ h => h) hS ?hy12 (by rfl) ?rest12
      case hy12 =>
        intro w0 h0
        go_simp
        try with_reducible rfl
      simp only [Act.put, List.getElem_toArray, List.getElem_cons_zero, List.getElem_cons_succ, List.setIfInBounds_toArray, List.set_cons_zero, List.set_cons_succ]
      refine AnyG.done (by kernel_rfl) ?_ _
      have HWt := hide hS.1
      have HY := hide hS.2.1
      have HZ := hide hS.2.2.1
      have HB := hide hS.2.2.2
      clear hS
      have HQ := hide htz
      clear htz
      go_upto_region 7 with fail
      generalize hv2 : v2 = V5 at *
      clear hv2
      refine region_g [] (fun w' => Cel w' w.heap.size [.int .i64 (wb : Int), .int .i64 (ws : Int)] 32 ∧ Cel w' (w.heap.size + 1) [.int .i64 y1, .int .i64 y2, .int .i64 y3, .int .i64 y4, .int .i64 y5] 23 ∧ Cel w' g7 [.int .i64 z1, .int .i64 z2, .int .i64 z3, .int .i64 z4, .int .i64 z5] 23 ∧ Below w.heap.size w w') (by kernel_rfl) ?_
      have hS : (fun w' => Cel w' w.heap.size [.int .i64 (wb : Int), .int .i64 (ws : Int)] 32 ∧ Cel w' (w.heap.size + 1) [.int .i64 y1, .int .i64 y2, .int .i64 y3, .int .i64 y4, .int .i64 y5] 23 ∧ Cel w' g7 [.int .i64 z1, .int .i64 z2, .int .i64 z3, .int .i64 z4, .int .i64 z5] 23 ∧ Below w.heap.size w w') V5.drew := ⟨HWt.out.drew, HY.out.drew, HZ.out.drew, HB.out.drew⟩
      clear HWt HY HZ HB
      generalize V5.drew = V0 at *
      refine AnyG.take 0 (v := ?vv41) rfl (by kernel_rfl) (by kernel_rfl) (by kernel_rfl) (by kernel_rfl) (fun _ _ _ h => h) hS ?hy41 (by rfl) ?rest41
      case hy41 =>
        intro w0 h0
        have d0 := h0.2.1.cell 0 rfl
        have d1 := h0.2.1.cell 1 rfl
        have d2 := h0.2.1.cell 2 rfl
        have d3 := h0.2.1.cell 3 rfl
        have d4 := h0.2.1.cell 4 rfl
        go_simp
        try with_reducible rfl
      simp only [Act.put, List.getElem_toArray, List.getElem_cons_zero, List.getElem_cons_succ, List.setIfInBounds_toArray, List.set_cons_zero, List.set_cons_succ]
      refine AnyG.take 1 (v := ?vv42) rfl (by kernel_rfl) (by kernel_rfl) (by kernel_rfl) (by kernel_rfl) (fun _ _ _ h => h) hS ?hy42 (by rfl) ?rest42
      case hy42 =>
        intro w0 h0
        go_simp
        try with_reducible rfl
      simp only [Act.put, List.getElem_toArray, List.getElem_cons_zero, List.getElem_cons_succ, List.setIfInBounds_toArray, List.set_cons_zero, List.set_cons_succ]
      refine AnyG.take 3 (v := ?vv43) rfl (by kernel_rfl) (by kernel_rfl) (by kernel_rfl) (by kernel_rfl) (fun _ _ _ h => h) hS ?hy43 (by rfl) ?rest43
      case hy43 =>
        intro w0 h0
        go_simp
        try with_reducible rfl
      simp only [Act.put, List.getElem_toArray, List.getElem_cons_zero, List.getElem_cons_succ, List.setIfInBounds_toArray, List.set_cons_zero, List.set_cons_succ]
      refine AnyG.take 4 (v := ?vv44) rfl (by kernel_rfl) (by kernel_rfl) (by kernel_rfl) (by kernel_rfl) (fun _ _ _ h => h) hS ?hy44 (by rfl) ?rest44
      case hy44 =>
        intro w0 h0
        have e0 := h0.1.cell 0 rfl
        have e1 := h0.1.cell 1 rfl
        go_simp
        try with_reducible rfl
      simp only [Act.put, List.getElem_toArray, List.getElem_cons_zero, List.getElem_cons_succ, List.setIfInBounds_toArray, List.set_cons_zero, List.set_cons_succ]
      refine AnyG.take 6 (v := ?vv45) rfl (by kernel_rfl) (by kernel_rfl) (by kernel_rfl) (by kernel_rfl) (fun _ _ _ h => h) hS ?hy45 (by rfl) ?rest45
      case hy45 =>
        intro w0 h0
        have d0 := h0.2.1.cell 0 rfl
        have d1 := h0.2.1.cell 1 rfl
        have d2 := h0.2.1.cell 2 rfl
        have d3 := h0.2.1.cell 3 rfl
        have d4 := h0.2.1.cell 4 rfl
        go_simp
        try with_reducible rfl
      simp only [Act.put, List.getElem_toArray, List.getElem_cons_zero, List.getElem_cons_succ, List.setIfInBounds_toArray, List.set_cons_zero, List.set_cons_succ]
      refine AnyG.take 7 (v := ?vv46) rfl (by kernel_rfl) (by kernel_rfl) (by kernel_rfl) (by kernel_rfl) (fun _ _ _ h => h) hS ?hy46 (by rfl) ?rest46
      case hy46 =>
        intro w0 h0
        go_simp
        try with_reducible rfl
      simp only [Act.put, List.getElem_toArray, List.getElem_cons_zero, List.getElem_cons_succ, List.setIfInBounds_toArray, List.set_cons_zero, List.set_cons_succ]
      refine AnyG.take 9 (v := ?vv47) rfl (by kernel_rfl) (by kernel_rfl) (by kernel_rfl) (by kernel_rfl) (fun _ _ _ h => h) hS ?hy47 (by rfl) ?rest47
      case hy47 =>
        intro w0 h0
        go_simp
        try with_reducible rfl
      simp only [Act.put, List.getElem_toArray, List.getElem_cons_zero, List.getElem_cons_succ, List.setIfInBounds_toArray, List.set_cons_zero, List.set_cons_succ]
      refine AnyG.take 10 (v := ?vv48) rfl (by kernel_rfl) (by kernel_rfl) (by kernel_rfl) (by kernel_rfl) (fun _ _ _ h => h) hS ?hy48 (by rfl) ?rest48
      case hy48 =>
        intro w0 h0
        have e0 := h0.1.cell 0 rfl
        have e1 := h0.1.cell 1 rfl
        go_simp
        try with_reducible rfl
      simp only [Act.put, List.getElem_toArray, List.getElem_cons_zero, List.getElem_cons_succ, List.setIfInBounds_toArray, List.set_cons_zero, List.set_cons_succ]
      refine AnyG.one 2 (by kernel_rfl) rfl ?_
      intro K hK
      go_simp
      refine (By.out _ hS.2.2.2).mono ?_
      rintro e v1 ⟨rfl, hb⟩
      replace hS : (fun w' => Cel w' w.heap.size [.int .i64 (wb : Int), .int .i64 (ws : Int)] 32 ∧ Cel w' (w.heap.size + 1) [.int .i64 y1, .int .i64 y2, .int .i64 y3, .int .i64 y4, .int .i64 y5] 23 ∧ Cel w' g7 [.int .i64 z1, .int .i64 z2, .int .i64 z3, .int .i64 z4, .int .i64 z5] 23 ∧ Below w.heap.size w w') v1 := ⟨hS.1.kept hb, hS.2.1.kept hb, hS.2.2.1.kept hb, hS.2.2.2.trans (hb.mono hS.2.2.2.size)⟩
      clear hb
      refine hK.out _ _ (fun _ => hS) ?_
      clear hK K
      try simp only [Act.put, List.getElem_toArray, List.getElem_cons_zero, List.getElem_cons_succ, List.setIfInBounds_toArray, List.set_cons_zero, List.set_cons_succ]
      refine AnyG.take 5 (v := .int .i64 (my : Int)) rfl (by kernel_rfl) (by kernel_rfl) (by kernel_rfl) (by kernel_rfl) (fun _ _ _ h => h) hS ?hy49 (by rfl) ?rest49
      case hy49 =>
        intro w0 h0
        have wr : IntKind.i64.wrap ((bby : Int) * (wb : Int)) = (my : Int) := by rw [emy, IntKind.wrap_i64]; omega
        go_simp
        try with_reducible rfl
        try (rw [IntKind.wrap_i64]; omega)
      simp only [Act.put, List.getElem_toArray, List.getElem_cons_zero, List.getElem_cons_succ, List.setIfInBounds_toArray, List.set_cons_zero, List.set_cons_succ]
      refine AnyG.one 8 (by kernel_rfl) rfl ?_
      intro K hK
      go_simp
      refine (Sy.out _ hS.2.2.2).mono ?_
      rintro e v2 ⟨rfl, hb⟩
      replace hS : (fun w' => Cel w' w.heap.size [.int .i64 (wb : Int), .int .i64 (ws : Int)] 32 ∧ Cel w' (w.heap.size + 1) [.int .i64 y1, .int .i64 y2, .int .i64 y3, .int .i64 y4, .int .i64 y5] 23 ∧ Cel w' g7 [.int .i64 z1, .int .i64 z2, .int .i64 z3, .int .i64 z4, .int .i64 z5] 23 ∧ Below w.heap.size w w') v2 := ⟨hS.1.kept hb, hS.2.1.kept hb, hS.2.2.1.kept hb, hS.2.2.2.trans (hb.mono hS.2.2.2.size)⟩
      clear hb
      refine hK.out _ _ (fun _ => hS) ?_
      clear hK K
      try simp only [Act.put, List.getElem_toArray, List.getElem_cons_zero, List.getElem_cons_succ, List.setIfInBounds_toArray, List.set_cons_zero, List.set_cons_succ]
      refine AnyG.take 11 (v := .int .i64 (ny : Int)) rfl (by kernel_rfl) (by kernel_rfl) (by kernel_rfl) (by kernel_rfl) (fun _ _ _ h => h) hS ?hy50 (by rfl) ?rest50
      case hy50 =>
        intro w0 h0
        have wr : IntKind.i64.wrap ((sy : Int) * (ws : Int)) = (ny : Int) := by rw [eny, IntKind.wrap_i64]; omega
        go_simp
        try with_reducible rfl
        try (rw [IntKind.wrap_i64]; omega)
      simp only [Act.put, List.getElem_toArray, List.getElem_cons_zero, List.getElem_cons_succ, List.setIfInBounds_toArray, List.set_cons_zero, List.set_cons_succ]
      refine AnyG.take 12 (v := .int .i64 (ty : Int)) rfl (by kernel_rfl) (by kernel_rfl) (by kernel_rfl) (by kernel_rfl) (fun _ _ _ h => h) hS ?hy51 (by rfl) ?rest51
      case hy51 =>
        intro w0 h0
        have wr : IntKind.i64.wrap ((my : Int) + (ny : Int)) = (ty : Int) := by rw [IntKind.wrap_i64]; omega
        go_simp
        try with_reducible rfl
        try (rw [IntKind.wrap_i64]; omega)
      simp only [Act.put, List.getElem_toArray, List.getElem_cons_zero, List.getElem_cons_succ, List.setIfInBounds_toArray, List.set_cons_zero, List.set_cons_succ]
      refine AnyG.take 13 (v := ?vv52) rfl (by kernel_rfl) (by kernel_rfl) (by kernel_rfl) (by kernel_rfl) (fun _ _ _ h => h) hS ?hy52 (by rfl) ?rest52
      case hy52 =>
        intro w0 h0
        go_simp
        try with_reducible rfl
      simp only [Act.put, List.getElem_toArray, List.getElem_cons_zero, List.getElem_cons_succ, List.setIfInBounds_toArray, List.set_cons_zero, List.set_cons_succ]
      refine AnyG.done (by kernel_rfl) ?_ _
      have HWt := hide hS.1
      have HY := hide hS.2.1
      have HZ := hide hS.2.2.1
      have HB := hide hS.2.2.2
      clear hS
      clear hty
      have d0 := HZ.out.cell 0 rfl
      have d1 := HZ.out.cell 1 rfl
      have d2 := HZ.out.cell 2 rfl
      have d3 := HZ.out.cell 3 rfl
      have d4 := HZ.out.cell 4 rfl
      go_wp2_with fail
      refine (KZ.out _).mono ?_
      rintro e w7 ⟨rfl, hb⟩
      replace HB := hide (HB.out.trans (hb.mono HB.out.size))
      clear hb d0 d1 d2 d3 d4
      go_wp2_with fail
      refine (heads21_c _).mono ?_
      rintro e w9 ⟨rfl, hb⟩
      have HBf := hide (HB.out.trans (hb.mono HB.out.size))
      clear hb
      go_wp2
      go_ret
      exact ⟨rfl, HBf.out⟩

theorem lifted (os : Os) (started : os.Started) (H : Type) (enc : TypeId × Value → H) :
    ReturnsInHanded {} Try.checked os 6 .any (Rows.plannerBestSpec.pre6 enc Try.prog Try.f6 Rows.plannerBestRow.domain false) (Rows.plannerBestSpec.post enc Try.prog Try.f6 false true false false) := by
  refine returnsInHanded_of_change (C := Try.checked) own started (by kernel_rfl) Try.func6
    (ChangeSpec.witness6 (enc := enc) (C := Try.checked) false ⟨#[], #[.slice none 0 0, .agg #[.int .i64 0, .int .i64 0], .agg #[.int .i64 0, .int .i64 0, .int .i64 0, .int .i64 0, .int .i64 0]], []⟩ 8 (by kernel_rfl) (by kernel_rfl) (by kernel_rfl) (by kernel_rfl)) ?_
  intro W base args ds gs before hval0 hW hcnd _
  have hval : ∀ (j : Nat) t v, Try.f6.params[j]? = some t → args[j]? = some v → Value.okWide Try.prog W .any base t v := hval0
  have hW' := hW
  obtain ⟨p, q, hA0, hV, rfl, hfz, hnd⟩ := hW
  have hA : DataW.TrodAll enc Try.prog W 0 (fun _ => true) true Try.f6.params.toList args.toList ds p := hA0
  rw [Try.params6] at hA hval
  obtain ⟨v0, vs0, d0, ds0, p0, q0, hargs, rfl, rfl, h0, r0⟩ := trodAll_cons hA
  obtain ⟨v1, vs1, d1, ds1, p1, q1, rfl, rfl, rfl, h1, r1⟩ := trodAll_cons r0
  obtain ⟨v2, vs2, d2, ds2, p2, q2, rfl, rfl, rfl, h2, r2⟩ := trodAll_cons r1
  obtain ⟨rfl, rfl, rfl⟩ := trodAll_nil r2
  obtain rfl : args = #[v0, v1, v2] := by cases args; simp_all
  obtain ⟨rfl, rfl⟩ := trodVars_none hV
  have k0 := h0
  have lt0 : ∀ x ∈ p0, x.block < W.heap.size := by obtain ⟨m, hm⟩ := k0; exact DataW.trod_lt m _ _ _ hm
  obtain ⟨ol, l, cl, rfl, b01, b02, b03⟩ := open_isl (hval 0 24 v0 rfl rfl) h0
  have k1 := h1
  have lt1 : ∀ x ∈ p1, x.block < W.heap.size := by obtain ⟨m, hm⟩ := k1; exact DataW.trod_lt m _ _ _ hm
  obtain ⟨x1, x2, rfl⟩ := open_wts (hval 1 32 v1 rfl rfl) h1
  have k2 := h2
  have lt2 : ∀ x ∈ p2, x.block < W.heap.size := by obtain ⟨m, hm⟩ := k2; exact DataW.trod_lt m _ _ _ hm
  obtain ⟨y1, y2, y3, y4, y5, rfl⟩ := open_cfg (hval 2 23 v2 rfl rfl) h2
  clear hA0 hval0
  refine (walk W ol l cl b01 b02 b03 x1 x2 y1 y2 y3 y4 y5).mono fun e W' ⟨he, bel⟩ => ?_
  subst he
  exact ⟨_, rfl, _, _, _, [], _, [], hW', trodAll_mk1 (shut_bool Try.underlying4 _), (trodAll_cons_mk (Below.trod laidOut (by kernel_rfl) (of_decide_eq_true (by kernel_rfl)) k0 bel lt0) (trodAll_cons_mk (Below.trod laidOut (by kernel_rfl) (of_decide_eq_true (by kernel_rfl)) k1 bel lt1) (trodAll_cons_mk (Below.trod laidOut (by kernel_rfl) (of_decide_eq_true (by kernel_rfl)) k2 bel lt2) trodAll_mk0))), rfl, bel.frame _, fun h => by cases h⟩

theorem over : Rows.plannerBestRow.holds Try.pinned (OpenSpec.ofChange Rows.plannerBestSpec) :=
  OpenClaim.holds_of_wide 6 Try.f6 rfl rfl rfl rfl rfl rfl rfl ⟨rfl, rfl, rfl, rfl, rfl⟩ rfl rfl rfl rfl rfl (by kernel_rfl) Try.func6 (by kernel_rfl)
    (of_decide_eq_true (by kernel_rfl)) (by unfold Func.isWrapper; first | (rw [if_pos (by decide +kernel)]; kernel_rfl) | (rw [if_neg (by decide +kernel)]; exact ⟨rfl, rfl⟩))
    (fun os started H enc _ => lifted os started H enc)

theorem proved : Rows.PlannerBestSaid := over
end Go.Proofs.Ytckkhmmicbpihaa.plannerBest
namespace Go.Proofs.Ytckkhmmicbpihaa
theorem plannerBest_holds : Rows.PlannerBestSaid := plannerBest.proved
#print axioms plannerBest_holds
end Go.Proofs.Ytckkhmmicbpihaa
