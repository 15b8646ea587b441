/-
  PlannerSteps: answers cost as many times more as samples are farther apart.
-/
import Derived.Test.YtckkhmmicbpihaaM42
import Derived.ChangeOld
import Derived.Deep.DeepCutAuto
namespace Go.Proofs.Ytckkhmmicbpihaa.plannerSteps
open Go.ChangeShapes Go.WideShapes Go.ChangeAt Go.RowKit Go.ChangeMaps
set_option linter.unusedVariables false
set_option linter.unusedSimpArgs false
set_option maxRecDepth 100000

theorem twice {s i g k : Int} {M : Nat} (h : Co.okZ (s, i, g, k, (M : Int)) = true) (h32 : M ≤ 32) : Co.okZ (s, i, g, k, 2 * (M : Int)) = true := by
  unfold Co.okZ at h ⊢
  simp only [Bool.and_eq_true] at h ⊢
  obtain ⟨h1, h2, h3, h4, h5, h6⟩ := h
  refine ⟨h1, h2, h3, h4, ?_, h6⟩
  obtain ⟨a, ha, e⟩ := Pn.inZ_has h5
  unfold Co.inZ
  refine decide_eq_true ?_
  unfold toI
  refine List.mem_map.2 ⟨2 * a, ?_, ?_⟩
  · unfold Co.sam at ha ⊢
    simp at ha ⊢
    have e' : (M : Int) = (a : Int) := e
    omega
  · have e' : (M : Int) = (a : Int) := e
    show ((2 * a : Nat) : Int) = 2 * (M : Int)
    omega
theorem sides {l : List Int} {s i g k : Int} {M : Nat} (h : Co.okZ (s, i, g, k, (M : Int)) = true) (h32 : M ≤ 32) :
    Pn.stpN (s, i, g, k, 2 * (M : Int)) l = 2 * Pn.stpN (s, i, g, k, (M : Int)) l ∧ (0 < Pn.stpN (s, i, g, k, (M : Int)) l ∧ 0 < Pn.bitsN (s, i, g, k, (M : Int)) l ∧ 0 < Pn.bitsN (s, i, g, k, 2 * (M : Int)) l ∨ Pn.stpN (s, i, g, k, (M : Int)) l = 0 ∧ Pn.bitsN (s, i, g, k, (M : Int)) l = 0 ∧ Pn.bitsN (s, i, g, k, 2 * (M : Int)) l = 0) := by
  have h2 := twice h h32
  cases hT : Pn.okT l with
  | true =>
    refine ⟨?_, .inl ⟨?_, ?_, ?_⟩⟩
    · rw [Pn.stpN_in hT h, Pn.stpN_in hT h2]
      show _ * _ * (2 * (M : Int)).toNat = 2 * (_ * _ * (M : Int).toNat)
      rw [Int.toNat_natCast, show (2 * (M : Int)).toNat = 2 * M by omega, Nat.mul_left_comm]
    · have a1 := Pn.stpN_pos hT h
      have a2 := Pn.shS_pos s i l (Hv.tot (cntOf l) 256)
      exact Nat.lt_of_lt_of_le a2 a1
    · unfold Pn.bitsN
      rw [if_pos (by rw [hT, h]; rfl)]
      unfold Pn.btN
      omega
    · unfold Pn.bitsN
      rw [if_pos (by rw [hT, h2]; rfl)]
      unfold Pn.btN
      omega
  | false =>
    have e1 : ∀ z, Pn.stpN z l = 0 := fun z => by unfold Pn.stpN; rw [hT]; rfl
    have e2 : ∀ z, Pn.bitsN z l = 0 := fun z => by unfold Pn.bitsN; rw [hT]; rfl
    rw [e1, e1, e2, e2]
    exact ⟨rfl, .inr ⟨rfl, rfl, rfl⟩⟩

set_option maxHeartbeats 8000000 in
theorem walk (w : World) (z1 z2 z3 z4 z5 : Int) (ol : Option Addr) (l : List Int) (cl : Nat) (Xl : Nd w ol l) (Fl : FitI l) (Cl : l.length ≤ cl) :
    Calls Try.prog 3 #[.agg #[.int .i64 z1, .int .i64 z2, .int .i64 z3, .int .i64 z4, .int .i64 z5], .slice ol l.length cl] w fun e w' => e = .returned (.bool true) ∧ Below w.heap.size w w' := by
  obtain ⟨W, hW⟩ : ∃ W, W = w.alloc (.cells #[.int .i64 z1, .int .i64 z2, .int .i64 z3, .int .i64 z4, .int .i64 z5] 23) := ⟨_, rfl⟩
  have HB := hide (show Below w.heap.size w W by rw [hW]; exact below_alloc w _)
  have A3 := hide (show Cel W w.heap.size [.int .i64 z1, .int .i64 z2, .int .i64 z3, .int .i64 z4, .int .i64 z5] 23 by rw [hW]; exact Cel.new w _ _)
  have HW := hide hW
  clear hW
  have d0 := A3.out.cell 0 rfl
  have d1 := A3.out.cell 1 rfl
  have d2 := A3.out.cell 2 rfl
  have d3 := A3.out.cell 3 rfl
  have d4 := A3.out.cell 4 rfl
  by_cases hL : 1000 < l.length
  · have hL2 : (1000 : Int) < (l.length : Int) := by omega
    have HBx := HB
    go_enter Try.func3, Try.ntmps3
    go_wp2_with fail
    rw [← HW.out]
    refine (heads21_c _).mono ?_
    rintro e w9 ⟨rfl, hb⟩
    have HBf := hide (HBx.out.trans (hb.mono HBx.out.size))
    clear hb
    go_wp2
    go_ret
    exact ⟨rfl, HBf.out⟩
  have hL2 : ¬ (1000 : Int) < (l.length : Int) := by omega
  have KK := hide fun w0 => rcheck_c z1 z2 z3 z4 z5 w0
  cases hZ : Co.okZ (z1, z2, z3, z4, z5) with
  | false =>
    rw [hZ] at KK
    clear Xl Fl
    go_enter Try.func3, Try.ntmps3
    go_wp2_with fail
    rw [← HW.out]
    refine (KK.out _).mono ?_
    rintro e w1 ⟨rfl, hb⟩
    have HBx := hide (HB.out.trans (hb.mono HB.out.size))
    clear hb d0 d1 d2 d3 d4
    go_wp2_with fail
    refine (heads21_c _).mono ?_
    rintro e w9 ⟨rfl, hb⟩
    have HBf := hide (HBx.out.trans (hb.mono HBx.out.size))
    clear hb
    go_wp2
    go_ret
    exact ⟨rfl, HBf.out⟩
  | true =>
    rw [hZ] at KK
    by_cases h32 : (32 : Int) < z5
    · clear Xl Fl
      go_enter Try.func3, Try.ntmps3
      go_wp2_with fail
      rw [← HW.out]
      refine (KK.out _).mono ?_
      rintro e w1 ⟨rfl, hb⟩
      have HBx := hide (HB.out.trans (hb.mono HB.out.size))
      have A1 := hide (A3.out.kept hb)
      clear hb d0 d1 d2 d3 d4
      have d0 := A1.out.cell 0 rfl
      have d1 := A1.out.cell 1 rfl
      have d2 := A1.out.cell 2 rfl
      have d3 := A1.out.cell 3 rfl
      have d4 := A1.out.cell 4 rfl
      go_wp2_with fail
      refine (heads21_c _).mono ?_
      rintro e w9 ⟨rfl, hb⟩
      have HBf := hide (HBx.out.trans (hb.mono HBx.out.size))
      clear hb d0 d1 d2 d3 d4
      go_wp2
      go_ret
      exact ⟨rfl, HBf.out⟩
    · obtain ⟨M, rfl, m1, m2⟩ := (Pn.CfI.of hZ).m1
      have M32 : M ≤ 32 := by omega
      obtain ⟨sd1, sd2⟩ := sides (l := l) hZ M32
      have b64 : Pn.stpN (z1, z2, z3, z4, (M : Int)) l ≤ 83886336 := by
        cases hT : Pn.okT l with
        | true => exact Pn.stpN_le hT _
        | false => unfold Pn.stpN; rw [hT]; exact Nat.zero_le _
      have P1 : Hid (∀ w0, Below w.heap.size w w0 → Calls Try.prog 9 #[.agg #[.int .i64 z1, .int .i64 z2, .int .i64 z3, .int .i64 z4, .int .i64 (M : Int)], .slice ol l.length cl] w0 fun e w' => e = .returned (.int .i64 (Pn.stpN (z1, z2, z3, z4, (M : Int)) l : Nat)) ∧ Below w0.heap.size w0 w') := fun w0 h => psteps_c z1 z2 z3 z4 M ol l cl w0 (Xl.keep h) (by omega)
      have P2 : Hid (∀ w0, Below w.heap.size w w0 → Calls Try.prog 9 #[.agg #[.int .i64 z1, .int .i64 z2, .int .i64 z3, .int .i64 z4, .int .i64 (2 * (M : Int))], .slice ol l.length cl] w0 fun e w' => e = .returned (.int .i64 (Pn.stpN (z1, z2, z3, z4, 2 * (M : Int)) l : Nat)) ∧ Below w0.heap.size w0 w') := fun w0 h => psteps_c z1 z2 z3 z4 (2 * M) ol l cl w0 (Xl.keep h) (by omega)
      have Q1 : Hid (∀ w0, Below w.heap.size w w0 → Calls Try.prog 10 #[.agg #[.int .i64 z1, .int .i64 z2, .int .i64 z3, .int .i64 z4, .int .i64 (M : Int)], .slice ol l.length cl] w0 fun e w' => e = .returned (.int .i64 (Pn.bitsN (z1, z2, z3, z4, (M : Int)) l : Nat)) ∧ Below w0.heap.size w0 w') := fun w0 h => pbits_c z1 z2 z3 z4 M ol l cl w0 (Xl.keep h) (by omega)
      have Q2 : Hid (∀ w0, Below w.heap.size w w0 → Calls Try.prog 10 #[.agg #[.int .i64 z1, .int .i64 z2, .int .i64 z3, .int .i64 z4, .int .i64 (2 * (M : Int))], .slice ol l.length cl] w0 fun e w' => e = .returned (.int .i64 (Pn.bitsN (z1, z2, z3, z4, 2 * (M : Int)) l : Nat)) ∧ Below w0.heap.size w0 w') := fun w0 h => pbits_c z1 z2 z3 z4 (2 * M) ol l cl w0 (Xl.keep h) (by omega)
      rw [sd1] at P2
      generalize Pn.stpN (z1, z2, z3, z4, (M : Int)) l = a at *
      generalize Pn.bitsN (z1, z2, z3, z4, (M : Int)) l = b1 at *
      generalize Pn.bitsN (z1, z2, z3, z4, 2 * (M : Int)) l = b2 at *
      clear sd1 hZ Xl Fl hL
      rcases sd2 with ⟨s1, s2, s3⟩ | ⟨s1, s2, s3⟩
      · have s1z : (0 : Int) < (a : Int) := by omega
        have s2z : (0 : Int) < (b1 : Int) := by omega
        have s3z : (0 : Int) < (b2 : Int) := by omega
        have a2z : ((2 * a : Nat) : Int) = 2 * (a : Int) := by omega
        rw [a2z] at P2
        go_enter Try.func3, Try.ntmps3
        go_wp2_with fail
        rw [← HW.out]
        refine (KK.out _).mono ?_
        rintro e w1 ⟨rfl, hb⟩
        have A1 := hide (A3.out.kept hb)
        have HB1 := hide (HB.out.trans (hb.mono HB.out.size))
        clear hb A3 HB d0 d1 d2 d3 d4
        have d0 := A1.out.cell 0 rfl
        have d1 := A1.out.cell 1 rfl
        have d2 := A1.out.cell 2 rfl
        have d3 := A1.out.cell 3 rfl
        have d4 := A1.out.cell 4 rfl
        go_upto_region 4 with fail
        obtain ⟨V1, hV1⟩ : ∃ V, V = w1.alloc (.cells #[.int .i64 z1, .int .i64 z2, .int .i64 z3, .int .i64 z4, .int .i64 (M : Int)] 23) := ⟨_, rfl⟩
        have A5a := hide (show Cel V1 w1.heap.size [.int .i64 z1, .int .i64 z2, .int .i64 z3, .int .i64 z4, .int .i64 (M : Int)] 23 by rw [hV1]; exact Cel.new w1 _ _)
        have A2a := hide (show Cel V1 w.heap.size [.int .i64 z1, .int .i64 z2, .int .i64 z3, .int .i64 z4, .int .i64 (M : Int)] 23 by rw [hV1]; exact A1.out.alloc _)
        have HB1a := hide (show Below w.heap.size w V1 by rw [hV1]; exact HB1.out.trans ((below_alloc w1 _).mono HB1.out.size))
        have hg5 : w.heap.size < w1.heap.size := A1.out.lt
        rw [← hV1]
        clear hV1 A1 HB1 d0 d1 d2 d3 d4
        generalize w1.heap.size = g5 at *
        have d4 := A2a.out.cell 4 rfl
        have y4 := A5a.out.cell 4 rfl
        have fz := A5a.out.frozen 4
        have hl5 := A5a.out.lt
        obtain ⟨V, hV⟩ : ∃ V, V = V1.setCell ⟨g5, 4, none⟩ (.int .i64 (2 * (M : Int))) := ⟨_, rfl⟩
        have A5 := hide (show Cel V g5 [.int .i64 z1, .int .i64 z2, .int .i64 z3, .int .i64 z4, .int .i64 (2 * (M : Int))] 23 by rw [hV]; exact A5a.out.set 4 _)
        have A2 := hide (show Cel V w.heap.size [.int .i64 z1, .int .i64 z2, .int .i64 z3, .int .i64 z4, .int .i64 (M : Int)] 23 by rw [hV]; exact A2a.out.other (a := ⟨g5, 4, none⟩) (by show w.heap.size ≠ g5; omega) _)
        have HB2 := hide (show Below w.heap.size w V by rw [hV]; exact HB1a.out.setCell (p := ⟨g5, 4, none⟩) (by show w.heap.size ≤ g5; omega) _)
        clear A5a A2a HB1a
        go_upto_region 5 with fail
        rw [← hV]
        clear hV d4 y4 fz hl5
        refine region_g [] (fun w' => Cel w' w.heap.size [.int .i64 z1, .int .i64 z2, .int .i64 z3, .int .i64 z4, .int .i64 (M : Int)] 23 ∧ Cel w' g5 [.int .i64 z1, .int .i64 z2, .int .i64 z3, .int .i64 z4, .int .i64 (2 * (M : Int))] 23 ∧ Below w.heap.size w w') (by kernel_rfl) ?_
        have hS : (fun w' => Cel w' w.heap.size [.int .i64 z1, .int .i64 z2, .int .i64 z3, .int .i64 z4, .int .i64 (M : Int)] 23 ∧ Cel w' g5 [.int .i64 z1, .int .i64 z2, .int .i64 z3, .int .i64 z4, .int .i64 (2 * (M : Int))] 23 ∧ Below w.heap.size w w') V.drew := ⟨A2.out.drew, A5.out.drew, HB2.out.drew⟩
        clear A2 A5 HB2
        generalize V.drew = V0 at *
        refine AnyG.take 0 (v := ?vv1) rfl (by kernel_rfl) (by kernel_rfl) (by kernel_rfl) (by kernel_rfl) (fun _ _ _ h => h) hS ?hy1 (by rfl) ?rest1
        case hy1 =>
          intro w0 h0
          have d0 := h0.1.cell 0 rfl
          have d1 := h0.1.cell 1 rfl
          have d2 := h0.1.cell 2 rfl
          have d3 := h0.1.cell 3 rfl
          have d4 := h0.1.cell 4 rfl
          go_simp
          try with_reducible rfl
        simp only [Act.put, List.getElem_toArray, List.getElem_cons_zero, List.getElem_cons_succ, List.setIfInBounds_toArray, List.set_cons_zero, List.set_cons_succ]
        refine AnyG.take 1 (v := ?vv2) rfl (by kernel_rfl) (by kernel_rfl) (by kernel_rfl) (by kernel_rfl) (fun _ _ _ h => h) hS ?hy2 (by rfl) ?rest2
        case hy2 =>
          intro w0 h0
          go_simp
          try with_reducible rfl
        simp only [Act.put, List.getElem_toArray, List.getElem_cons_zero, List.getElem_cons_succ, List.setIfInBounds_toArray, List.set_cons_zero, List.set_cons_succ]
        refine AnyG.take 3 (v := ?vv3) rfl (by kernel_rfl) (by kernel_rfl) (by kernel_rfl) (by kernel_rfl) (fun _ _ _ h => h) hS ?hy3 (by rfl) ?rest3
        case hy3 =>
          intro w0 h0
          have d0 := h0.2.1.cell 0 rfl
          have d1 := h0.2.1.cell 1 rfl
          have d2 := h0.2.1.cell 2 rfl
          have d3 := h0.2.1.cell 3 rfl
          have d4 := h0.2.1.cell 4 rfl
          go_simp
          try with_reducible rfl
        simp only [Act.put, List.getElem_toArray, List.getElem_cons_zero, List.getElem_cons_succ, List.setIfInBounds_toArray, List.set_cons_zero, List.set_cons_succ]
        refine AnyG.take 4 (v := ?vv4) rfl (by kernel_rfl) (by kernel_rfl) (by kernel_rfl) (by kernel_rfl) (fun _ _ _ h => h) hS ?hy4 (by rfl) ?rest4
        case hy4 =>
          intro w0 h0
          go_simp
          try with_reducible rfl
        simp only [Act.put, List.getElem_toArray, List.getElem_cons_zero, List.getElem_cons_succ, List.setIfInBounds_toArray, List.set_cons_zero, List.set_cons_succ]
        refine AnyG.one 2 (by kernel_rfl) rfl ?_
        intro K hK
        go_simp
        refine (P1.out _ hS.2.2).mono ?_
        rintro e v1 ⟨rfl, hb⟩
        replace hS : (fun w' => Cel w' w.heap.size [.int .i64 z1, .int .i64 z2, .int .i64 z3, .int .i64 z4, .int .i64 (M : Int)] 23 ∧ Cel w' g5 [.int .i64 z1, .int .i64 z2, .int .i64 z3, .int .i64 z4, .int .i64 (2 * (M : Int))] 23 ∧ Below w.heap.size w w') v1 := ⟨hS.1.kept hb, hS.2.1.kept hb, hS.2.2.trans (hb.mono hS.2.2.size)⟩
        clear hb
        refine hK.out _ _ (fun _ => hS) ?_
        clear hK K
        try simp only [Act.put, List.getElem_toArray, List.getElem_cons_zero, List.getElem_cons_succ, List.setIfInBounds_toArray, List.set_cons_zero, List.set_cons_succ]
        refine AnyG.one 5 (by kernel_rfl) rfl ?_
        intro K hK
        go_simp
        refine (P2.out _ hS.2.2).mono ?_
        rintro e v2 ⟨rfl, hb⟩
        replace hS : (fun w' => Cel w' w.heap.size [.int .i64 z1, .int .i64 z2, .int .i64 z3, .int .i64 z4, .int .i64 (M : Int)] 23 ∧ Cel w' g5 [.int .i64 z1, .int .i64 z2, .int .i64 z3, .int .i64 z4, .int .i64 (2 * (M : Int))] 23 ∧ Below w.heap.size w w') v2 := ⟨hS.1.kept hb, hS.2.1.kept hb, hS.2.2.trans (hb.mono hS.2.2.size)⟩
        clear hb
        refine hK.out _ _ (fun _ => hS) ?_
        clear hK K
        try simp only [Act.put, List.getElem_toArray, List.getElem_cons_zero, List.getElem_cons_succ, List.setIfInBounds_toArray, List.set_cons_zero, List.set_cons_succ]
        refine AnyG.take 6 (v := ?vv5) rfl (by kernel_rfl) (by kernel_rfl) (by kernel_rfl) (by kernel_rfl) (fun _ _ _ h => h) hS ?hy5 (by rfl) ?rest5
        case hy5 =>
          intro w0 h0
          go_simp
          try with_reducible rfl
        simp only [Act.put, List.getElem_toArray, List.getElem_cons_zero, List.getElem_cons_succ, List.setIfInBounds_toArray, List.set_cons_zero, List.set_cons_succ]
        refine AnyG.take 7 (v := ?vv6) rfl (by kernel_rfl) (by kernel_rfl) (by kernel_rfl) (by kernel_rfl) (fun _ _ _ h => h) hS ?hy6 (by rfl) ?rest6
        case hy6 =>
          intro w0 h0
          go_simp
          try with_reducible rfl
        simp only [Act.put, List.getElem_toArray, List.getElem_cons_zero, List.getElem_cons_succ, List.setIfInBounds_toArray, List.set_cons_zero, List.set_cons_succ]
        refine AnyG.done (by kernel_rfl) ?_ _
        have A2 := hide hS.1
        have A5 := hide hS.2.1
        have HB2 := hide hS.2.2
        clear hS
        have d0 := A2.out.cell 0 rfl
        have f0 := A5.out.cell 0 rfl
        have d1 := A2.out.cell 1 rfl
        have f1 := A5.out.cell 1 rfl
        have d2 := A2.out.cell 2 rfl
        have f2 := A5.out.cell 2 rfl
        have d3 := A2.out.cell 3 rfl
        have f3 := A5.out.cell 3 rfl
        have d4 := A2.out.cell 4 rfl
        have f4 := A5.out.cell 4 rfl
        go_wp2_with fail
        refine (Q1.out _ HB2.out).mono ?_
        rintro e w9 ⟨rfl, hb⟩
        replace A2 := hide (A2.out.kept hb)
        replace A5 := hide (A5.out.kept hb)
        replace HB2 := hide (HB2.out.trans (hb.mono HB2.out.size))
        clear hb d0 d1 d2 d3 d4 f0 f1 f2 f3 f4
        have d0 := A2.out.cell 0 rfl
        have f0 := A5.out.cell 0 rfl
        have d1 := A2.out.cell 1 rfl
        have f1 := A5.out.cell 1 rfl
        have d2 := A2.out.cell 2 rfl
        have f2 := A5.out.cell 2 rfl
        have d3 := A2.out.cell 3 rfl
        have f3 := A5.out.cell 3 rfl
        have d4 := A2.out.cell 4 rfl
        have f4 := A5.out.cell 4 rfl
        go_wp2_with fail
        refine (Q2.out _ HB2.out).mono ?_
        rintro e w9 ⟨rfl, hb⟩
        replace A2 := hide (A2.out.kept hb)
        replace A5 := hide (A5.out.kept hb)
        replace HB2 := hide (HB2.out.trans (hb.mono HB2.out.size))
        clear hb d0 d1 d2 d3 d4 f0 f1 f2 f3 f4
        have d0 := A2.out.cell 0 rfl
        have f0 := A5.out.cell 0 rfl
        have d1 := A2.out.cell 1 rfl
        have f1 := A5.out.cell 1 rfl
        have d2 := A2.out.cell 2 rfl
        have f2 := A5.out.cell 2 rfl
        have d3 := A2.out.cell 3 rfl
        have f3 := A5.out.cell 3 rfl
        have d4 := A2.out.cell 4 rfl
        have f4 := A5.out.cell 4 rfl
        go_wp2_with fail
        refine (heads21_c _).mono ?_
        rintro e w9 ⟨rfl, hb⟩
        have HBf := hide (HB2.out.trans (hb.mono HB2.out.size))
        clear hb d0 d1 d2 d3 d4 f0 f1 f2 f3 f4
        go_wp2
        go_ret
        exact ⟨rfl, HBf.out⟩
      · subst s1 s2 s3
        go_enter Try.func3, Try.ntmps3
        go_wp2_with fail
        rw [← HW.out]
        refine (KK.out _).mono ?_
        rintro e w1 ⟨rfl, hb⟩
        have A1 := hide (A3.out.kept hb)
        have HB1 := hide (HB.out.trans (hb.mono HB.out.size))
        clear hb A3 HB d0 d1 d2 d3 d4
        have d0 := A1.out.cell 0 rfl
        have d1 := A1.out.cell 1 rfl
        have d2 := A1.out.cell 2 rfl
        have d3 := A1.out.cell 3 rfl
        have d4 := A1.out.cell 4 rfl
        go_upto_region 4 with fail
        obtain ⟨V1, hV1⟩ : ∃ V, V = w1.alloc (.cells #[.int .i64 z1, .int .i64 z2, .int .i64 z3, .int .i64 z4, .int .i64 (M : Int)] 23) := ⟨_, rfl⟩
        have A5a := hide (show Cel V1 w1.heap.size [.int .i64 z1, .int .i64 z2, .int .i64 z3, .int .i64 z4, .int .i64 (M : Int)] 23 by rw [hV1]; exact Cel.new w1 _ _)
        have A2a := hide (show Cel V1 w.heap.size [.int .i64 z1, .int .i64 z2, .int .i64 z3, .int .i64 z4, .int .i64 (M : Int)] 23 by rw [hV1]; exact A1.out.alloc _)
        have HB1a := hide (show Below w.heap.size w V1 by rw [hV1]; exact HB1.out.trans ((below_alloc w1 _).mono HB1.out.size))
        have hg5 : w.heap.size < w1.heap.size := A1.out.lt
        rw [← hV1]
        clear hV1 A1 HB1 d0 d1 d2 d3 d4
        generalize w1.heap.size = g5 at *
        have d4 := A2a.out.cell 4 rfl
        have y4 := A5a.out.cell 4 rfl
        have fz := A5a.out.frozen 4
        have hl5 := A5a.out.lt
        obtain ⟨V, hV⟩ : ∃ V, V = V1.setCell ⟨g5, 4, none⟩ (.int .i64 (2 * (M : Int))) := ⟨_, rfl⟩
        have A5 := hide (show Cel V g5 [.int .i64 z1, .int .i64 z2, .int .i64 z3, .int .i64 z4, .int .i64 (2 * (M : Int))] 23 by rw [hV]; exact A5a.out.set 4 _)
        have A2 := hide (show Cel V w.heap.size [.int .i64 z1, .int .i64 z2, .int .i64 z3, .int .i64 z4, .int .i64 (M : Int)] 23 by rw [hV]; exact A2a.out.other (a := ⟨g5, 4, none⟩) (by show w.heap.size ≠ g5; omega) _)
        have HB2 := hide (show Below w.heap.size w V by rw [hV]; exact HB1a.out.setCell (p := ⟨g5, 4, none⟩) (by show w.heap.size ≤ g5; omega) _)
        clear A5a A2a HB1a
        go_upto_region 5 with fail
        rw [← hV]
        clear hV d4 y4 fz hl5
        refine region_g [] (fun w' => Cel w' w.heap.size [.int .i64 z1, .int .i64 z2, .int .i64 z3, .int .i64 z4, .int .i64 (M : Int)] 23 ∧ Cel w' g5 [.int .i64 z1, .int .i64 z2, .int .i64 z3, .int .i64 z4, .int .i64 (2 * (M : Int))] 23 ∧ Below w.heap.size w w') (by kernel_rfl) ?_
        have hS : (fun w' => Cel w' w.heap.size [.int .i64 z1, .int .i64 z2, .int .i64 z3, .int .i64 z4, .int .i64 (M : Int)] 23 ∧ Cel w' g5 [.int .i64 z1, .int .i64 z2, .int .i64 z3, .int .i64 z4, .int .i64 (2 * (M : Int))] 23 ∧ Below w.heap.size w w') V.drew := ⟨A2.out.drew, A5.out.drew, HB2.out.drew⟩
        clear A2 A5 HB2
        generalize V.drew = V0 at *
        refine AnyG.take 0 (v := ?vv41) rfl (by kernel_rfl) (by kernel_rfl) (by kernel_rfl) (by kernel_rfl) (fun _ _ _ h => h) hS ?hy41 (by rfl) ?rest41
        case hy41 =>
          intro w0 h0
          have d0 := h0.1.cell 0 rfl
          have d1 := h0.1.cell 1 rfl
          have d2 := h0.1.cell 2 rfl
          have d3 := h0.1.cell 3 rfl
          have d4 := h0.1.cell 4 rfl
          go_simp
          try with_reducible rfl
        simp only [Act.put, List.getElem_toArray, List.getElem_cons_zero, List.getElem_cons_succ, List.setIfInBounds_toArray, List.set_cons_zero, List.set_cons_succ]
        refine AnyG.take 1 (v := ?vv42) rfl (by kernel_rfl) (by kernel_rfl) (by kernel_rfl) (by kernel_rfl) (fun _ _ _ h => h) hS ?hy42 (by rfl) ?rest42
        case hy42 =>
          intro w0 h0
          go_simp
          try with_reducible rfl
        simp only [Act.put, List.getElem_toArray, List.getElem_cons_zero, List.getElem_cons_succ, List.setIfInBounds_toArray, List.set_cons_zero, List.set_cons_succ]
        refine AnyG.take 3 (v := ?vv43) rfl (by kernel_rfl) (by kernel_rfl) (by kernel_rfl) (by kernel_rfl) (fun _ _ _ h => h) hS ?hy43 (by rfl) ?rest43
        case hy43 =>
          intro w0 h0
          have d0 := h0.2.1.cell 0 rfl
          have d1 := h0.2.1.cell 1 rfl
          have d2 := h0.2.1.cell 2 rfl
          have d3 := h0.2.1.cell 3 rfl
          have d4 := h0.2.1.cell 4 rfl
          go_simp
          try with_reducible rfl
        simp only [Act.put, List.getElem_toArray, List.getElem_cons_zero, List.getElem_cons_succ, List.setIfInBounds_toArray, List.set_cons_zero, List.set_cons_succ]
        refine AnyG.take 4 (v := ?vv44) rfl (by kernel_rfl) (by kernel_rfl) (by kernel_rfl) (by kernel_rfl) (fun _ _ _ h => h) hS ?hy44 (by rfl) ?rest44
        case hy44 =>
          intro w0 h0
          go_simp
          try with_reducible rfl
        simp only [Act.put, List.getElem_toArray, List.getElem_cons_zero, List.getElem_cons_succ, List.setIfInBounds_toArray, List.set_cons_zero, List.set_cons_succ]
        refine AnyG.one 2 (by kernel_rfl) rfl ?_
        intro K hK
        go_simp
        refine (P1.out _ hS.2.2).mono ?_
        rintro e v1 ⟨rfl, hb⟩
        replace hS : (fun w' => Cel w' w.heap.size [.int .i64 z1, .int .i64 z2, .int .i64 z3, .int .i64 z4, .int .i64 (M : Int)] 23 ∧ Cel w' g5 [.int .i64 z1, .int .i64 z2, .int .i64 z3, .int .i64 z4, .int .i64 (2 * (M : Int))] 23 ∧ Below w.heap.size w w') v1 := ⟨hS.1.kept hb, hS.2.1.kept hb, hS.2.2.trans (hb.mono hS.2.2.size)⟩
        clear hb
        refine hK.out _ _ (fun _ => hS) ?_
        clear hK K
        try simp only [Act.put, List.getElem_toArray, List.getElem_cons_zero, List.getElem_cons_succ, List.setIfInBounds_toArray, List.set_cons_zero, List.set_cons_succ]
        refine AnyG.one 5 (by kernel_rfl) rfl ?_
        intro K hK
        go_simp
        refine (P2.out _ hS.2.2).mono ?_
        rintro e v2 ⟨rfl, hb⟩
        replace hS : (fun w' => Cel w' w.heap.size [.int .i64 z1, .int .i64 z2, .int .i64 z3, .int .i64 z4, .int .i64 (M : Int)] 23 ∧ Cel w' g5 [.int .i64 z1, .int .i64 z2, .int .i64 z3, .int .i64 z4, .int .i64 (2 * (M : Int))] 23 ∧ Below w.heap.size w w') v2 := ⟨hS.1.kept hb, hS.2.1.kept hb, hS.2.2.trans (hb.mono hS.2.2.size)⟩
        clear hb
        refine hK.out _ _ (fun _ => hS) ?_
        clear hK K
        try simp only [Act.put, List.getElem_toArray, List.getElem_cons_zero, List.getElem_cons_succ, List.setIfInBounds_toArray, List.set_cons_zero, List.set_cons_succ]
        refine AnyG.take 6 (v := ?vv45) rfl (by kernel_rfl) (by kernel_rfl) (by kernel_rfl) (by kernel_rfl) (fun _ _ _ h => h) hS ?hy45 (by rfl) ?rest45
        case hy45 =>
          intro w0 h0
          go_simp
          try with_reducible rfl
        simp only [Act.put, List.getElem_toArray, List.getElem_cons_zero, List.getElem_cons_succ, List.setIfInBounds_toArray, List.set_cons_zero, List.set_cons_succ]
        refine AnyG.take 7 (v := ?vv46) rfl (by kernel_rfl) (by kernel_rfl) (by kernel_rfl) (by kernel_rfl) (fun _ _ _ h => h) hS ?hy46 (by rfl) ?rest46
        case hy46 =>
          intro w0 h0
          go_simp
          try with_reducible rfl
        simp only [Act.put, List.getElem_toArray, List.getElem_cons_zero, List.getElem_cons_succ, List.setIfInBounds_toArray, List.set_cons_zero, List.set_cons_succ]
        refine AnyG.done (by kernel_rfl) ?_ _
        have A2 := hide hS.1
        have A5 := hide hS.2.1
        have HB2 := hide hS.2.2
        clear hS
        have d0 := A2.out.cell 0 rfl
        have f0 := A5.out.cell 0 rfl
        have d1 := A2.out.cell 1 rfl
        have f1 := A5.out.cell 1 rfl
        have d2 := A2.out.cell 2 rfl
        have f2 := A5.out.cell 2 rfl
        have d3 := A2.out.cell 3 rfl
        have f3 := A5.out.cell 3 rfl
        have d4 := A2.out.cell 4 rfl
        have f4 := A5.out.cell 4 rfl
        go_wp2_with fail
        refine (Q1.out _ HB2.out).mono ?_
        rintro e w9 ⟨rfl, hb⟩
        replace A2 := hide (A2.out.kept hb)
        replace A5 := hide (A5.out.kept hb)
        replace HB2 := hide (HB2.out.trans (hb.mono HB2.out.size))
        clear hb d0 d1 d2 d3 d4 f0 f1 f2 f3 f4
        have d0 := A2.out.cell 0 rfl
        have f0 := A5.out.cell 0 rfl
        have d1 := A2.out.cell 1 rfl
        have f1 := A5.out.cell 1 rfl
        have d2 := A2.out.cell 2 rfl
        have f2 := A5.out.cell 2 rfl
        have d3 := A2.out.cell 3 rfl
        have f3 := A5.out.cell 3 rfl
        have d4 := A2.out.cell 4 rfl
        have f4 := A5.out.cell 4 rfl
        go_wp2_with fail
        refine (Q2.out _ HB2.out).mono ?_
        rintro e w9 ⟨rfl, hb⟩
        replace A2 := hide (A2.out.kept hb)
        replace A5 := hide (A5.out.kept hb)
        replace HB2 := hide (HB2.out.trans (hb.mono HB2.out.size))
        clear hb d0 d1 d2 d3 d4 f0 f1 f2 f3 f4
        have d0 := A2.out.cell 0 rfl
        have f0 := A5.out.cell 0 rfl
        have d1 := A2.out.cell 1 rfl
        have f1 := A5.out.cell 1 rfl
        have d2 := A2.out.cell 2 rfl
        have f2 := A5.out.cell 2 rfl
        have d3 := A2.out.cell 3 rfl
        have f3 := A5.out.cell 3 rfl
        have d4 := A2.out.cell 4 rfl
        have f4 := A5.out.cell 4 rfl
        go_wp2_with fail
        refine (heads21_c _).mono ?_
        rintro e w9 ⟨rfl, hb⟩
        have HBf := hide (HB2.out.trans (hb.mono HB2.out.size))
        clear hb d0 d1 d2 d3 d4 f0 f1 f2 f3 f4
        go_wp2
        go_ret
        exact ⟨rfl, HBf.out⟩

theorem lifted (os : Os) (started : os.Started) (H : Type) (enc : TypeId × Value → H) :
    ReturnsInHanded {} Try.checked os 3 .any (Rows.plannerStepsSpec.pre6 enc Try.prog Try.f3 Rows.plannerStepsRow.domain false) (Rows.plannerStepsSpec.post enc Try.prog Try.f3 false true false false) := by
  refine returnsInHanded_of_change (C := Try.checked) own started (by kernel_rfl) Try.func3
    (ChangeSpec.witness6 (enc := enc) (C := Try.checked) false ⟨#[], #[.agg #[.int .i64 0, .int .i64 0, .int .i64 0, .int .i64 0, .int .i64 0], .slice none 0 0], []⟩ 8 (by kernel_rfl) (by kernel_rfl) (by kernel_rfl) (by kernel_rfl)) ?_
  intro W base args ds gs before hval0 hW hcnd _
  have hval : ∀ (j : Nat) t v, Try.f3.params[j]? = some t → args[j]? = some v → Value.okWide Try.prog W .any base t v := hval0
  have hW' := hW
  obtain ⟨p, q, hA0, hV, rfl, hfz, hnd⟩ := hW
  have hA : DataW.TrodAll enc Try.prog W 0 (fun _ => true) true Try.f3.params.toList args.toList ds p := hA0
  rw [Try.params3] at hA hval
  obtain ⟨v0, vs0, d0, ds0, p0, q0, hargs, rfl, rfl, h0, r0⟩ := trodAll_cons hA
  obtain ⟨v1, vs1, d1, ds1, p1, q1, rfl, rfl, rfl, h1, r1⟩ := trodAll_cons r0
  obtain ⟨rfl, rfl, rfl⟩ := trodAll_nil r1
  obtain rfl : args = #[v0, v1] := by cases args; simp_all
  obtain ⟨rfl, rfl⟩ := trodVars_none hV
  have k0 := h0
  have lt0 : ∀ x ∈ p0, x.block < W.heap.size := by obtain ⟨m, hm⟩ := k0; exact DataW.trod_lt m _ _ _ hm
  obtain ⟨z1, z2, z3, z4, z5, rfl⟩ := open_cfg (hval 0 23 v0 rfl rfl) h0
  have k1 := h1
  have lt1 : ∀ x ∈ p1, x.block < W.heap.size := by obtain ⟨m, hm⟩ := k1; exact DataW.trod_lt m _ _ _ hm
  obtain ⟨ol, l, cl, rfl, b11, b12, b13⟩ := open_isl (hval 1 24 v1 rfl rfl) h1
  clear hA0 hval0
  refine (walk W z1 z2 z3 z4 z5 ol l cl b11 b12 b13).mono fun e W' ⟨he, bel⟩ => ?_
  subst he
  exact ⟨_, rfl, _, _, _, [], _, [], hW', trodAll_mk1 (shut_bool Try.underlying4 _), (trodAll_cons_mk (Below.trod laidOut (by kernel_rfl) (of_decide_eq_true (by kernel_rfl)) k0 bel lt0) (trodAll_cons_mk (Below.trod laidOut (by kernel_rfl) (of_decide_eq_true (by kernel_rfl)) k1 bel lt1) trodAll_mk0)), rfl, bel.frame _, fun h => by cases h⟩

theorem over : Rows.plannerStepsRow.holds Try.pinned (OpenSpec.ofChange Rows.plannerStepsSpec) :=
  OpenClaim.holds_of_wide 3 Try.f3 rfl rfl rfl rfl rfl rfl rfl ⟨rfl, rfl, rfl, rfl, rfl⟩ rfl rfl rfl rfl rfl (by kernel_rfl) Try.func3 (by kernel_rfl)
    (of_decide_eq_true (by kernel_rfl)) (by unfold Func.isWrapper; first | (rw [if_pos (by decide +kernel)]; kernel_rfl) | (rw [if_neg (by decide +kernel)]; exact ⟨rfl, rfl⟩))
    (fun os started H enc _ => lifted os started H enc)

theorem proved : Rows.PlannerStepsSaid := over
end Go.Proofs.Ytckkhmmicbpihaa.plannerSteps
namespace Go.Proofs.Ytckkhmmicbpihaa
theorem plannerSteps_holds : Rows.PlannerStepsSaid := plannerSteps.proved
#print axioms plannerSteps_holds
end Go.Proofs.Ytckkhmmicbpihaa
