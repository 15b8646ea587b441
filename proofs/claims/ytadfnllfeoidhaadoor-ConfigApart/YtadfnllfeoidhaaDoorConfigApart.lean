/-
  ConfigApart: two configurations have one name just if they are one, and numbers go by shape, inner shape, length, kind, sample.
-/
import Derived.Test.YtadfnllfeoidhaaDoorCm
import Derived.Test.YtadfnllfeoidhaaDoorCards
import Derived.Test.YtadfnllfeoidhaaDoorTie
import Derived.ChangeOld
import Derived.LaidMore
import Derived.SevenTiedAt
import Derived.Deep.DeepCutAuto
namespace Go.Proofs.YtadfnllfeoidhaaDoor.configApart
open Go.ChangeShapes Go.WideShapes Go.ChangeAt Go.RowKit Go.ChangeMaps
set_option linter.unusedVariables false
set_option linter.unusedSimpArgs false
set_option maxRecDepth 100000


set_option maxHeartbeats 8000000 in
theorem walk (w : World) (z1 z2 z3 z4 z5 : Int) (y1 y2 y3 y4 y5 : Int) :
    Calls Tryd.prog 3 #[.agg #[.int .i64 z1, .int .i64 z2, .int .i64 z3, .int .i64 z4, .int .i64 z5], .agg #[.int .i64 y1, .int .i64 y2, .int .i64 y3, .int .i64 y4, .int .i64 y5]] w fun e w' => e = .returned (.bool true) ∧ Below w.heap.size w w' := by
  have HH := hide heads20_c
  have GC := guard_cfg
  obtain ⟨W, hW⟩ : ∃ W, W = (w.alloc (.cells #[.int .i64 z1, .int .i64 z2, .int .i64 z3, .int .i64 z4, .int .i64 z5] 23)).alloc (.cells #[.int .i64 y1, .int .i64 y2, .int .i64 y3, .int .i64 y4, .int .i64 y5] 23) := ⟨_, rfl⟩
  have B0 : Hid (Below w.heap.size w W) := by rw [hW]; exact (below_alloc w _).alloc (by simp) _
  have A0 : Hid (Cel W w.heap.size [.int .i64 z1, .int .i64 z2, .int .i64 z3, .int .i64 z4, .int .i64 z5] 23) := by rw [hW]; exact (Cel.new w _ _).alloc _
  have D0 : Hid (Cel W (w.heap.size + 1) [.int .i64 y1, .int .i64 y2, .int .i64 y3, .int .i64 y4, .int .i64 y5] 23) := by rw [hW]; exact Cel.new2 w _ _ _
  have HW := hide hW
  clear hW
  obtain ⟨gc, hgc⟩ : ∃ gc, Hid (gc = w.heap.size) := ⟨_, rfl⟩
  obtain ⟨gd, hgd⟩ : ∃ gd, Hid (gd = w.heap.size + 1) := ⟨_, rfl⟩
  rw [← hgc.out] at A0
  rw [← hgd.out] at D0
  have q0 := A0.out.cell 0 rfl
  have q1 := A0.out.cell 1 rfl
  have q2 := A0.out.cell 2 rfl
  have q3 := A0.out.cell 3 rfl
  have q4 := A0.out.cell 4 rfl
  have r0 := D0.out.cell 0 rfl
  have r1 := D0.out.cell 1 rfl
  have r2 := D0.out.cell 2 rfl
  have r3 := D0.out.cell 3 rfl
  have r4 := D0.out.cell 4 rfl
  have KC := hide (fun w0 => kcheck_c z1 z2 z3 z4 z5 w0)
  have KD := hide (fun w0 => kcheck_c y1 y2 y3 y4 y5 w0)
  cases hc : Co.okZ (z1, z2, z3, z4, z5) with
  | false =>
    rw [hc] at KC
    go_enter Tryd.func3, Tryd.ntmps3
    go_wp2_with fail
    rw [← HW.out, ← hgd.out, ← hgc.out]
    refine (KC.out _).mono ?_
    rintro e w1 ⟨rfl, hb⟩
    have B1 := hide (B0.out.trans (hb.mono B0.out.size))
    clear hb
    go_wp2_with fail
    refine (HH.out _).mono ?_
    rintro e w2 ⟨rfl, hb⟩
    have B2 := hide (B1.out.trans (hb.mono B1.out.size))
    clear hb
    go_wp2
    go_ret
    exact ⟨rfl, B2.out⟩
  | true =>
    rw [hc] at KC
    cases hd : Co.okZ (y1, y2, y3, y4, y5) with
    | false =>
      rw [hd] at KD
      go_enter Tryd.func3, Tryd.ntmps3
      go_wp2_with fail
      rw [← HW.out, ← hgd.out, ← hgc.out]
      refine (KC.out _).mono ?_
      rintro e w1 ⟨rfl, hb⟩
      have D1 := hide (D0.out.kept hb)
      have B1 := hide (B0.out.trans (hb.mono B0.out.size))
      clear hb r0 r1 r2 r3 r4
      have r0 := D1.out.cell 0 rfl
      have r1 := D1.out.cell 1 rfl
      have r2 := D1.out.cell 2 rfl
      have r3 := D1.out.cell 3 rfl
      have r4 := D1.out.cell 4 rfl
      go_wp2_with fail
      refine (KD.out _).mono ?_
      rintro e w2 ⟨rfl, hb⟩
      have B2 := hide (B1.out.trans (hb.mono B1.out.size))
      clear hb
      go_wp2_with fail
      refine (HH.out _).mono ?_
      rintro e w3 ⟨rfl, hb⟩
      have B3 := hide (B2.out.trans (hb.mono B2.out.size))
      clear hb
      go_wp2
      go_ret
      exact ⟨rfl, B3.out⟩
    | true =>
      rw [hd] at KD
      have ec := Co.okZ_nn hc
      have ed := Co.okZ_nn hd
      have oc : Co.ok (Co.nat (z1, z2, z3, z4, z5)) = true := by rw [← Co.okZ_nat, ec]; exact hc
      have od : Co.ok (Co.nat (y1, y2, y3, y4, y5)) = true := by rw [← Co.okZ_nat, ed]; exact hd
      have mc := Co.mem_all oc
      have md := Co.mem_all od
      obtain ⟨ic, hic⟩ := List.getElem?_of_mem mc
      obtain ⟨id, hid⟩ := List.getElem?_of_mem md
      have bc := Co.ok_bounds oc
      have bd := Co.ok_bounds od
      have nc := Co.numI_at hic
      have nd := Co.numI_at hid
      rw [ec] at nc
      rw [ed] at nd
      have hz : 0 ≤ z1 ∧ 0 ≤ z2 ∧ 0 ≤ z3 ∧ 0 ≤ z4 ∧ 0 ≤ z5 := by
        unfold Co.toZ Co.nat at ec
        simp only [Prod.mk.injEq] at ec
        omega
      have hy : 0 ≤ y1 ∧ 0 ≤ y2 ∧ 0 ≤ y3 ∧ 0 ≤ y4 ∧ 0 ≤ y5 := by
        unfold Co.toZ Co.nat at ed
        simp only [Prod.mk.injEq] at ed
        omega
      have HK : Hid ((ic < id ↔ 9984 * z1 + 2496 * z2 + 192 * z3 + 64 * z4 + z5 < 9984 * y1 + 2496 * y2 + 192 * y3 + 64 * y4 + y5) ∧ z2 ≤ 3 ∧ z3 ≤ 12 ∧ 1 ≤ z4 ∧ z4 ≤ 3 ∧ 1 ≤ z5 ∧ z5 ≤ 64 ∧ y2 ≤ 3 ∧ y3 ≤ 12 ∧ 1 ≤ y4 ∧ y4 ≤ 3 ∧ 1 ≤ y5 ∧ y5 ≤ 64 ∧ 0 ≤ z2 ∧ 0 ≤ z3 ∧ 0 ≤ y2 ∧ 0 ≤ y3) := by
        have h1 := (Co.key_at hic hid).1
        unfold Co.key Co.nat at h1
        unfold Co.nat at bc bd
        simp only at h1 bc bd
        refine ⟨?_, ?_⟩
        · rw [h1]
          omega
        · omega
      obtain ⟨BE, HBE⟩ : ∃ BE, Hid (decide ((z1, z2, z3, z4, z5) = (y1, y2, y3, y4, y5)) = BE) := ⟨_, rfl⟩
      have EQ : ∀ w, (binOp .eql 23 (.agg #[.int .i64 z1, .int .i64 z2, .int .i64 z3, .int .i64 z4, .int .i64 z5]) (.agg #[.int .i64 y1, .int .i64 y2, .int .i64 y3, .int .i64 y4, .int .i64 y5])).run Tryd.prog w = .ok (.bool BE) w := fun w => by
        have := eq_cfg w (z1, z2, z3, z4, z5) (y1, y2, y3, y4, y5)
        rw [HBE.out] at this
        exact this
      obtain ⟨sc, hsc⟩ : ∃ sc, Hid (Co.str (Co.nm (Co.nat (z1, z2, z3, z4, z5))) = sc) := ⟨_, rfl⟩
      obtain ⟨sd, hsd⟩ : ∃ sd, Hid (Co.str (Co.nm (Co.nat (y1, y2, y3, y4, y5))) = sd) := ⟨_, rfl⟩
      have ES : (sc.toList == sd.toList) = BE := by
        rw [← hsc.out, ← hsd.out, Co.str_eq mc md, ← HBE.out]
        refine decide_eq_decide.2 ⟨fun h => ?_, fun h => by rw [h]⟩
        rw [← ec, ← ed, h]
      have NC : Hid (∀ w0, Calls Tryd.prog 10 #[.agg #[.int .i64 z1, .int .i64 z2, .int .i64 z3, .int .i64 z4, .int .i64 z5]] w0 fun e w' => e = .returned (.string sc) ∧ Below w0.heap.size w0 w') := fun w0 => by
        have := kname_c z1 z2 z3 z4 z5 w0
        unfold Co.nmZ at this
        rw [hc] at this
        simp only [cond_true, hsc.out] at this
        exact this
      have ND : Hid (∀ w0, Calls Tryd.prog 10 #[.agg #[.int .i64 y1, .int .i64 y2, .int .i64 y3, .int .i64 y4, .int .i64 y5]] w0 fun e w' => e = .returned (.string sd) ∧ Below w0.heap.size w0 w') := fun w0 => by
        have := kname_c y1 y2 y3 y4 y5 w0
        unfold Co.nmZ at this
        rw [hd] at this
        simp only [cond_true, hsd.out] at this
        exact this
      have UC : Hid (∀ w0, Calls Tryd.prog 9 #[.agg #[.int .i64 z1, .int .i64 z2, .int .i64 z3, .int .i64 z4, .int .i64 z5]] w0 fun e w' => e = .returned (.tuple #[.int .i64 (ic : Nat), .bool true]) ∧ Below w0.heap.size w0 w') := fun w0 => by
        have := knumber_c z1 z2 z3 z4 z5 w0
        rw [nc, decide_eq_true (Co.mem_az.2 hc)] at this
        exact this
      have UD : Hid (∀ w0, Calls Tryd.prog 9 #[.agg #[.int .i64 y1, .int .i64 y2, .int .i64 y3, .int .i64 y4, .int .i64 y5]] w0 fun e w' => e = .returned (.tuple #[.int .i64 (id : Nat), .bool true]) ∧ Below w0.heap.size w0 w') := fun w0 => by
        have := knumber_c y1 y2 y3 y4 y5 w0
        rw [nd, decide_eq_true (Co.mem_az.2 hd)] at this
        exact this
      obtain ⟨LL, HLL⟩ : ∃ LL, Hid (LL = decide (ic < id)) := ⟨_, rfl⟩
      have hll : decide (ic < id) = LL := HLL.out.symm
      clear hc hd ec ed oc od mc md hic hid bc bd nc nd hz hy
      go_enter Tryd.func3, Tryd.ntmps3
      go_wp2_with fail
      rw [← HW.out, ← hgd.out, ← hgc.out]
      refine (KC.out _).mono ?_
      rintro e w1 ⟨rfl, hb⟩
      have A1 := hide (A0.out.kept hb)
      have D1 := hide (D0.out.kept hb)
      have B1 := hide (B0.out.trans (hb.mono B0.out.size))
      clear hb r0 r1 r2 r3 r4 q0 q1 q2 q3 q4 A0 D0 B0
      have r0 := D1.out.cell 0 rfl
      have r1 := D1.out.cell 1 rfl
      have r2 := D1.out.cell 2 rfl
      have r3 := D1.out.cell 3 rfl
      have r4 := D1.out.cell 4 rfl
      go_wp2_with fail
      refine (KD.out _).mono ?_
      rintro e w2 ⟨rfl, hb⟩
      have A2 := hide (A1.out.kept hb)
      have D2 := hide (D1.out.kept hb)
      have B2 := hide (B1.out.trans (hb.mono B1.out.size))
      clear hb r0 r1 r2 r3 r4 A1 D1 B1
      have q0 := A2.out.cell 0 rfl
      have q1 := A2.out.cell 1 rfl
      have q2 := A2.out.cell 2 rfl
      have q3 := A2.out.cell 3 rfl
      have q4 := A2.out.cell 4 rfl
      go_wp2_with fail
      refine (UC.out _).mono ?_
      rintro e w3 ⟨rfl, hb⟩
      have A3 := hide (A2.out.kept hb)
      have D3 := hide (D2.out.kept hb)
      have B3 := hide (B2.out.trans (hb.mono B2.out.size))
      clear hb q0 q1 q2 q3 q4 A2 D2 B2
      have r0 := D3.out.cell 0 rfl
      have r1 := D3.out.cell 1 rfl
      have r2 := D3.out.cell 2 rfl
      have r3 := D3.out.cell 3 rfl
      have r4 := D3.out.cell 4 rfl
      go_wp2_with fail
      refine (UD.out _).mono ?_
      rintro e w4 ⟨rfl, hb⟩
      have A4 := hide (A3.out.kept hb)
      have D4 := hide (D3.out.kept hb)
      have B4 := hide (B3.out.trans (hb.mono B3.out.size))
      clear hb r0 r1 r2 r3 r4 A3 D3 B3 KC KD UC UD
      have q0 := A4.out.cell 0 rfl
      have q1 := A4.out.cell 1 rfl
      have q2 := A4.out.cell 2 rfl
      have q3 := A4.out.cell 3 rfl
      have q4 := A4.out.cell 4 rfl
      have r0 := D4.out.cell 0 rfl
      have r1 := D4.out.cell 1 rfl
      have r2 := D4.out.cell 2 rfl
      have r3 := D4.out.cell 3 rfl
      have r4 := D4.out.cell 4 rfl
      by_cases h1 : z1 = y1
      · have n1 : (z1 != y1) = false := by simp [h1]
        have E1 := hide h1
        by_cases h2 : z2 = y2
        · have n2 : (z2 != y2) = false := by simp [h2]
          have E2 := hide h2
          by_cases h3 : z3 = y3
          · have n3 : (z3 != y3) = false := by simp [h3]
            have E3 := hide h3
            by_cases h4 : z4 = y4
            · have n4 : (z4 != y4) = false := by simp [h4]
              have E4 := hide h4
              have hl : decide (z5 < y5) = LL := by
                have e1 := E1.out
                have e2 := E2.out
                have e3 := E3.out
                have e4 := E4.out
                rw [HLL.out]
                exact decide_eq_decide.2 (by have := HK.out; omega)
              clear h1
              clear h2
              clear h3
              clear h4
              clear HK
              go_wp2
              refine region_g [] (fun w' => Cel w' gc [.int .i64 z1, .int .i64 z2, .int .i64 z3, .int .i64 z4, .int .i64 z5] 23 ∧ Cel w' gd [.int .i64 y1, .int .i64 y2, .int .i64 y3, .int .i64 y4, .int .i64 y5] 23 ∧ Below w.heap.size w w') (by kernel_rfl) ?_
              have hS : (fun w' => Cel w' gc [.int .i64 z1, .int .i64 z2, .int .i64 z3, .int .i64 z4, .int .i64 z5] 23 ∧ Cel w' gd [.int .i64 y1, .int .i64 y2, .int .i64 y3, .int .i64 y4, .int .i64 y5] 23 ∧ Below w.heap.size w w') w4.drew := ⟨A4.out.drew, D4.out.drew, B4.out.drew⟩
              generalize w4.drew = V at *
              refine AnyG.take 0 (v := ?vv1) rfl (by kernel_rfl) (by kernel_rfl) (by kernel_rfl) (by kernel_rfl) (fun _ _ _ h => h) hS ?hy1 (by rfl) ?rest1
              case hy1 =>
                intro w0 h0
                have c0 := h0.1.cell 0 rfl
                have c1 := h0.1.cell 1 rfl
                have c2 := h0.1.cell 2 rfl
                have c3 := h0.1.cell 3 rfl
                have c4 := h0.1.cell 4 rfl
                go_simp
                try with_reducible rfl
              simp only [Act.put, List.getElem_toArray, List.getElem_cons_zero, List.getElem_cons_succ, List.setIfInBounds_toArray, List.set_cons_zero, List.set_cons_succ]
              refine AnyG.take 2 (v := ?vv2) rfl (by kernel_rfl) (by kernel_rfl) (by kernel_rfl) (by kernel_rfl) (fun _ _ _ h => h) hS ?hy2 (by rfl) ?rest2
              case hy2 =>
                intro w0 h0
                have d0 := h0.2.1.cell 0 rfl
                have d1 := h0.2.1.cell 1 rfl
                have d2 := h0.2.1.cell 2 rfl
                have d3 := h0.2.1.cell 3 rfl
                have d4 := h0.2.1.cell 4 rfl
                go_simp
                try with_reducible rfl
              simp only [Act.put, List.getElem_toArray, List.getElem_cons_zero, List.getElem_cons_succ, List.setIfInBounds_toArray, List.set_cons_zero, List.set_cons_succ]
              refine AnyG.take 5 (v := ?vv3) rfl (by kernel_rfl) (by kernel_rfl) (by kernel_rfl) (by kernel_rfl) (fun _ _ _ h => h) hS ?hy3 (by rfl) ?rest3
              case hy3 =>
                intro w0 h0
                have c0 := h0.1.cell 0 rfl
                have c1 := h0.1.cell 1 rfl
                have c2 := h0.1.cell 2 rfl
                have c3 := h0.1.cell 3 rfl
                have c4 := h0.1.cell 4 rfl
                go_simp
                try with_reducible rfl
              simp only [Act.put, List.getElem_toArray, List.getElem_cons_zero, List.getElem_cons_succ, List.setIfInBounds_toArray, List.set_cons_zero, List.set_cons_succ]
              refine AnyG.take 6 (v := ?vv4) rfl (by kernel_rfl) (by kernel_rfl) (by kernel_rfl) (by kernel_rfl) (fun _ _ _ h => h) hS ?hy4 (by rfl) ?rest4
              case hy4 =>
                intro w0 h0
                have d0 := h0.2.1.cell 0 rfl
                have d1 := h0.2.1.cell 1 rfl
                have d2 := h0.2.1.cell 2 rfl
                have d3 := h0.2.1.cell 3 rfl
                have d4 := h0.2.1.cell 4 rfl
                go_simp
                try with_reducible rfl
              simp only [Act.put, List.getElem_toArray, List.getElem_cons_zero, List.getElem_cons_succ, List.setIfInBounds_toArray, List.set_cons_zero, List.set_cons_succ]
              refine AnyG.take 7 (v := ?vv5) rfl (by kernel_rfl) (by kernel_rfl) (by kernel_rfl) (by kernel_rfl) (fun _ _ _ h => h) hS ?hy5 (by rfl) ?rest5
              case hy5 =>
                intro w0 h0
                go_simp
                try with_reducible rfl
              simp only [Act.put, List.getElem_toArray, List.getElem_cons_zero, List.getElem_cons_succ, List.setIfInBounds_toArray, List.set_cons_zero, List.set_cons_succ]
              refine AnyG.one 1 (by kernel_rfl) rfl ?_
              intro K hK
              go_simp
              refine (NC.out _).mono ?_
              rintro e w5 ⟨rfl, hb⟩
              have hS1 : (fun w' => Cel w' gc [.int .i64 z1, .int .i64 z2, .int .i64 z3, .int .i64 z4, .int .i64 z5] 23 ∧ Cel w' gd [.int .i64 y1, .int .i64 y2, .int .i64 y3, .int .i64 y4, .int .i64 y5] 23 ∧ Below w.heap.size w w') w5 := ⟨hS.1.kept hb, hS.2.1.kept hb, hS.2.2.trans (hb.mono hS.2.2.size)⟩
              clear hb hS
              refine hK.out _ _ (fun _ => hS1) ?_
              clear hK K
              try simp only [Act.put, List.getElem_toArray, List.getElem_cons_zero, List.getElem_cons_succ, List.setIfInBounds_toArray, List.set_cons_zero, List.set_cons_succ]
              refine AnyG.one 3 (by kernel_rfl) rfl ?_
              intro K hK
              go_simp
              refine (ND.out _).mono ?_
              rintro e w6 ⟨rfl, hb⟩
              have hS2 : (fun w' => Cel w' gc [.int .i64 z1, .int .i64 z2, .int .i64 z3, .int .i64 z4, .int .i64 z5] 23 ∧ Cel w' gd [.int .i64 y1, .int .i64 y2, .int .i64 y3, .int .i64 y4, .int .i64 y5] 23 ∧ Below w.heap.size w w') w6 := ⟨hS1.1.kept hb, hS1.2.1.kept hb, hS1.2.2.trans (hb.mono hS1.2.2.size)⟩
              clear hb hS1
              refine hK.out _ _ (fun _ => hS2) ?_
              clear hK K
              try simp only [Act.put, List.getElem_toArray, List.getElem_cons_zero, List.getElem_cons_succ, List.setIfInBounds_toArray, List.set_cons_zero, List.set_cons_succ]
              refine AnyG.take 4 (v := ?vv6) rfl (by kernel_rfl) (by kernel_rfl) (by kernel_rfl) (by kernel_rfl) (fun _ _ _ h => h) hS2 ?hy6 (by rfl) ?rest6
              case hy6 =>
                intro w0 h0
                go_simp
                try with_reducible rfl
              simp only [Act.put, List.getElem_toArray, List.getElem_cons_zero, List.getElem_cons_succ, List.setIfInBounds_toArray, List.set_cons_zero, List.set_cons_succ]
              refine AnyG.take 8 (v := ?vv7) rfl (by kernel_rfl) (by kernel_rfl) (by kernel_rfl) (by kernel_rfl) (fun _ _ _ h => h) hS2 ?hy7 (by rfl) ?rest7
              case hy7 =>
                intro w0 h0
                go_simp
                try with_reducible rfl
              simp only [Act.put, List.getElem_toArray, List.getElem_cons_zero, List.getElem_cons_succ, List.setIfInBounds_toArray, List.set_cons_zero, List.set_cons_succ]
              refine AnyG.take 9 (v := ?vv8) rfl (by kernel_rfl) (by kernel_rfl) (by kernel_rfl) (by kernel_rfl) (fun _ _ _ h => h) hS2 ?hy8 (by rfl) ?rest8
              case hy8 =>
                intro w0 h0
                go_simp
                try with_reducible rfl
              simp only [Act.put, List.getElem_toArray, List.getElem_cons_zero, List.getElem_cons_succ, List.setIfInBounds_toArray, List.set_cons_zero, List.set_cons_succ]
              refine AnyG.take 10 (v := ?vv9) rfl (by kernel_rfl) (by kernel_rfl) (by kernel_rfl) (by kernel_rfl) (fun _ _ _ h => h) hS2 ?hy9 (by rfl) ?rest9
              case hy9 =>
                intro w0 h0
                go_simp
                try with_reducible rfl
              simp only [Act.put, List.getElem_toArray, List.getElem_cons_zero, List.getElem_cons_succ, List.setIfInBounds_toArray, List.set_cons_zero, List.set_cons_succ]
              refine AnyG.take 11 (v := ?vv10) rfl (by kernel_rfl) (by kernel_rfl) (by kernel_rfl) (by kernel_rfl) (fun _ _ _ h => h) hS2 ?hy10 (by rfl) ?rest10
              case hy10 =>
                intro w0 h0
                go_simp
                try with_reducible rfl
              simp only [Act.put, List.getElem_toArray, List.getElem_cons_zero, List.getElem_cons_succ, List.setIfInBounds_toArray, List.set_cons_zero, List.set_cons_succ]
              refine AnyG.take 12 (v := ?vv11) rfl (by kernel_rfl) (by kernel_rfl) (by kernel_rfl) (by kernel_rfl) (fun _ _ _ h => h) hS2 ?hy11 (by rfl) ?rest11
              case hy11 =>
                intro w0 h0
                go_simp
                try with_reducible rfl
              simp only [Act.put, List.getElem_toArray, List.getElem_cons_zero, List.getElem_cons_succ, List.setIfInBounds_toArray, List.set_cons_zero, List.set_cons_succ]
              refine AnyG.take 13 (v := ?vv12) rfl (by kernel_rfl) (by kernel_rfl) (by kernel_rfl) (by kernel_rfl) (fun _ _ _ h => h) hS2 ?hy12 (by rfl) ?rest12
              case hy12 =>
                intro w0 h0
                go_simp
                try with_reducible rfl
              simp only [Act.put, List.getElem_toArray, List.getElem_cons_zero, List.getElem_cons_succ, List.setIfInBounds_toArray, List.set_cons_zero, List.set_cons_succ]
              refine AnyG.take 14 (v := ?vv13) rfl (by kernel_rfl) (by kernel_rfl) (by kernel_rfl) (by kernel_rfl) (fun _ _ _ h => h) hS2 ?hy13 (by rfl) ?rest13
              case hy13 =>
                intro w0 h0
                go_simp
                try with_reducible rfl
              simp only [Act.put, List.getElem_toArray, List.getElem_cons_zero, List.getElem_cons_succ, List.setIfInBounds_toArray, List.set_cons_zero, List.set_cons_succ]
              refine AnyG.take 15 (v := ?vv14) rfl (by kernel_rfl) (by kernel_rfl) (by kernel_rfl) (by kernel_rfl) (fun _ _ _ h => h) hS2 ?hy14 (by rfl) ?rest14
              case hy14 =>
                intro w0 h0
                go_simp
                try with_reducible rfl
              simp only [Act.put, List.getElem_toArray, List.getElem_cons_zero, List.getElem_cons_succ, List.setIfInBounds_toArray, List.set_cons_zero, List.set_cons_succ]
              refine AnyG.take 16 (v := ?vv15) rfl (by kernel_rfl) (by kernel_rfl) (by kernel_rfl) (by kernel_rfl) (fun _ _ _ h => h) hS2 ?hy15 (by rfl) ?rest15
              case hy15 =>
                intro w0 h0
                go_simp
                try with_reducible rfl
              simp only [Act.put, List.getElem_toArray, List.getElem_cons_zero, List.getElem_cons_succ, List.setIfInBounds_toArray, List.set_cons_zero, List.set_cons_succ]
              refine AnyG.one 17 (by kernel_rfl) rfl ?_
              intro K hK
              go_simp
              refine (HH.out _).mono ?_
              rintro e w7 ⟨rfl, hb⟩
              have hS3 : (fun w' => Cel w' gc [.int .i64 z1, .int .i64 z2, .int .i64 z3, .int .i64 z4, .int .i64 z5] 23 ∧ Cel w' gd [.int .i64 y1, .int .i64 y2, .int .i64 y3, .int .i64 y4, .int .i64 y5] 23 ∧ Below w.heap.size w w') w7 := ⟨hS2.1.kept hb, hS2.2.1.kept hb, hS2.2.2.trans (hb.mono hS2.2.2.size)⟩
              clear hb hS2
              refine hK.out _ _ (fun _ => hS3) ?_
              clear hK K
              try simp only [Act.put, List.getElem_toArray, List.getElem_cons_zero, List.getElem_cons_succ, List.setIfInBounds_toArray, List.set_cons_zero, List.set_cons_succ]
              refine AnyG.take 18 (v := ?vv16) rfl (by kernel_rfl) (by kernel_rfl) (by kernel_rfl) (by kernel_rfl) (fun _ _ _ h => h) hS3 ?hy16 (by rfl) ?rest16
              case hy16 =>
                intro w0 h0
                go_simp
                try with_reducible rfl
              simp only [Act.put, List.getElem_toArray, List.getElem_cons_zero, List.getElem_cons_succ, List.setIfInBounds_toArray, List.set_cons_zero, List.set_cons_succ]
              refine AnyG.take 19 (v := ?vv17) rfl (by kernel_rfl) (by kernel_rfl) (by kernel_rfl) (by kernel_rfl) (fun _ _ _ h => h) hS3 ?hy17 (by rfl) ?rest17
              case hy17 =>
                intro w0 h0
                go_simp
                try with_reducible rfl
              simp only [Act.put, List.getElem_toArray, List.getElem_cons_zero, List.getElem_cons_succ, List.setIfInBounds_toArray, List.set_cons_zero, List.set_cons_succ]
              refine AnyG.done (by kernel_rfl) ?_ _
              go_wp2
              go_ret
              exact ⟨rfl, hS3.2.2⟩
            · have n4 : (z4 != y4) = true := by simp [h4]
              have hl : decide (z4 < y4) = LL := by
                have e1 := E1.out
                have e2 := E2.out
                have e3 := E3.out
                rw [HLL.out]
                exact decide_eq_decide.2 (by have := HK.out; omega)
              clear h1
              clear h2
              clear h3
              clear h4
              clear HK
              go_wp2
              refine region_g [] (fun w' => Cel w' gc [.int .i64 z1, .int .i64 z2, .int .i64 z3, .int .i64 z4, .int .i64 z5] 23 ∧ Cel w' gd [.int .i64 y1, .int .i64 y2, .int .i64 y3, .int .i64 y4, .int .i64 y5] 23 ∧ Below w.heap.size w w') (by kernel_rfl) ?_
              have hS : (fun w' => Cel w' gc [.int .i64 z1, .int .i64 z2, .int .i64 z3, .int .i64 z4, .int .i64 z5] 23 ∧ Cel w' gd [.int .i64 y1, .int .i64 y2, .int .i64 y3, .int .i64 y4, .int .i64 y5] 23 ∧ Below w.heap.size w w') w4.drew := ⟨A4.out.drew, D4.out.drew, B4.out.drew⟩
              generalize w4.drew = V at *
              refine AnyG.take 0 (v := ?vv18) rfl (by kernel_rfl) (by kernel_rfl) (by kernel_rfl) (by kernel_rfl) (fun _ _ _ h => h) hS ?hy18 (by rfl) ?rest18
              case hy18 =>
                intro w0 h0
                have c0 := h0.1.cell 0 rfl
                have c1 := h0.1.cell 1 rfl
                have c2 := h0.1.cell 2 rfl
                have c3 := h0.1.cell 3 rfl
                have c4 := h0.1.cell 4 rfl
                go_simp
                try with_reducible rfl
              simp only [Act.put, List.getElem_toArray, List.getElem_cons_zero, List.getElem_cons_succ, List.setIfInBounds_toArray, List.set_cons_zero, List.set_cons_succ]
              refine AnyG.take 2 (v := ?vv19) rfl (by kernel_rfl) (by kernel_rfl) (by kernel_rfl) (by kernel_rfl) (fun _ _ _ h => h) hS ?hy19 (by rfl) ?rest19
              case hy19 =>
                intro w0 h0
                have d0 := h0.2.1.cell 0 rfl
                have d1 := h0.2.1.cell 1 rfl
                have d2 := h0.2.1.cell 2 rfl
                have d3 := h0.2.1.cell 3 rfl
                have d4 := h0.2.1.cell 4 rfl
                go_simp
                try with_reducible rfl
              simp only [Act.put, List.getElem_toArray, List.getElem_cons_zero, List.getElem_cons_succ, List.setIfInBounds_toArray, List.set_cons_zero, List.set_cons_succ]
              refine AnyG.take 5 (v := ?vv20) rfl (by kernel_rfl) (by kernel_rfl) (by kernel_rfl) (by kernel_rfl) (fun _ _ _ h => h) hS ?hy20 (by rfl) ?rest20
              case hy20 =>
                intro w0 h0
                have c0 := h0.1.cell 0 rfl
                have c1 := h0.1.cell 1 rfl
                have c2 := h0.1.cell 2 rfl
                have c3 := h0.1.cell 3 rfl
                have c4 := h0.1.cell 4 rfl
                go_simp
                try with_reducible rfl
              simp only [Act.put, List.getElem_toArray, List.getElem_cons_zero, List.getElem_cons_succ, List.setIfInBounds_toArray, List.set_cons_zero, List.set_cons_succ]
              refine AnyG.take 6 (v := ?vv21) rfl (by kernel_rfl) (by kernel_rfl) (by kernel_rfl) (by kernel_rfl) (fun _ _ _ h => h) hS ?hy21 (by rfl) ?rest21
              case hy21 =>
                intro w0 h0
                have d0 := h0.2.1.cell 0 rfl
                have d1 := h0.2.1.cell 1 rfl
                have d2 := h0.2.1.cell 2 rfl
                have d3 := h0.2.1.cell 3 rfl
                have d4 := h0.2.1.cell 4 rfl
                go_simp
                try with_reducible rfl
              simp only [Act.put, List.getElem_toArray, List.getElem_cons_zero, List.getElem_cons_succ, List.setIfInBounds_toArray, List.set_cons_zero, List.set_cons_succ]
              refine AnyG.take 7 (v := ?vv22) rfl (by kernel_rfl) (by kernel_rfl) (by kernel_rfl) (by kernel_rfl) (fun _ _ _ h => h) hS ?hy22 (by rfl) ?rest22
              case hy22 =>
                intro w0 h0
                go_simp
                try with_reducible rfl
              simp only [Act.put, List.getElem_toArray, List.getElem_cons_zero, List.getElem_cons_succ, List.setIfInBounds_toArray, List.set_cons_zero, List.set_cons_succ]
              refine AnyG.one 1 (by kernel_rfl) rfl ?_
              intro K hK
              go_simp
              refine (NC.out _).mono ?_
              rintro e w5 ⟨rfl, hb⟩
              have hS1 : (fun w' => Cel w' gc [.int .i64 z1, .int .i64 z2, .int .i64 z3, .int .i64 z4, .int .i64 z5] 23 ∧ Cel w' gd [.int .i64 y1, .int .i64 y2, .int .i64 y3, .int .i64 y4, .int .i64 y5] 23 ∧ Below w.heap.size w w') w5 := ⟨hS.1.kept hb, hS.2.1.kept hb, hS.2.2.trans (hb.mono hS.2.2.size)⟩
              clear hb hS
              refine hK.out _ _ (fun _ => hS1) ?_
              clear hK K
              try simp only [Act.put, List.getElem_toArray, List.getElem_cons_zero, List.getElem_cons_succ, List.setIfInBounds_toArray, List.set_cons_zero, List.set_cons_succ]
              refine AnyG.one 3 (by kernel_rfl) rfl ?_
              intro K hK
              go_simp
              refine (ND.out _).mono ?_
              rintro e w6 ⟨rfl, hb⟩
              have hS2 : (fun w' => Cel w' gc [.int .i64 z1, .int .i64 z2, .int .i64 z3, .int .i64 z4, .int .i64 z5] 23 ∧ Cel w' gd [.int .i64 y1, .int .i64 y2, .int .i64 y3, .int .i64 y4, .int .i64 y5] 23 ∧ Below w.heap.size w w') w6 := ⟨hS1.1.kept hb, hS1.2.1.kept hb, hS1.2.2.trans (hb.mono hS1.2.2.size)⟩
              clear hb hS1
              refine hK.out _ _ (fun _ => hS2) ?_
              clear hK K
              try simp only [Act.put, List.getElem_toArray, List.getElem_cons_zero, List.getElem_cons_succ, List.setIfInBounds_toArray, List.set_cons_zero, List.set_cons_succ]
              refine AnyG.take 4 (v := ?vv23) rfl (by kernel_rfl) (by kernel_rfl) (by kernel_rfl) (by kernel_rfl) (fun _ _ _ h => h) hS2 ?hy23 (by rfl) ?rest23
              case hy23 =>
                intro w0 h0
                go_simp
                try with_reducible rfl
              simp only [Act.put, List.getElem_toArray, List.getElem_cons_zero, List.getElem_cons_succ, List.setIfInBounds_toArray, List.set_cons_zero, List.set_cons_succ]
              refine AnyG.take 8 (v := ?vv24) rfl (by kernel_rfl) (by kernel_rfl) (by kernel_rfl) (by kernel_rfl) (fun _ _ _ h => h) hS2 ?hy24 (by rfl) ?rest24
              case hy24 =>
                intro w0 h0
                go_simp
                try with_reducible rfl
              simp only [Act.put, List.getElem_toArray, List.getElem_cons_zero, List.getElem_cons_succ, List.setIfInBounds_toArray, List.set_cons_zero, List.set_cons_succ]
              refine AnyG.take 9 (v := ?vv25) rfl (by kernel_rfl) (by kernel_rfl) (by kernel_rfl) (by kernel_rfl) (fun _ _ _ h => h) hS2 ?hy25 (by rfl) ?rest25
              case hy25 =>
                intro w0 h0
                go_simp
                try with_reducible rfl
              simp only [Act.put, List.getElem_toArray, List.getElem_cons_zero, List.getElem_cons_succ, List.setIfInBounds_toArray, List.set_cons_zero, List.set_cons_succ]
              refine AnyG.take 10 (v := ?vv26) rfl (by kernel_rfl) (by kernel_rfl) (by kernel_rfl) (by kernel_rfl) (fun _ _ _ h => h) hS2 ?hy26 (by rfl) ?rest26
              case hy26 =>
                intro w0 h0
                go_simp
                try with_reducible rfl
              simp only [Act.put, List.getElem_toArray, List.getElem_cons_zero, List.getElem_cons_succ, List.setIfInBounds_toArray, List.set_cons_zero, List.set_cons_succ]
              refine AnyG.take 11 (v := ?vv27) rfl (by kernel_rfl) (by kernel_rfl) (by kernel_rfl) (by kernel_rfl) (fun _ _ _ h => h) hS2 ?hy27 (by rfl) ?rest27
              case hy27 =>
                intro w0 h0
                go_simp
                try with_reducible rfl
              simp only [Act.put, List.getElem_toArray, List.getElem_cons_zero, List.getElem_cons_succ, List.setIfInBounds_toArray, List.set_cons_zero, List.set_cons_succ]
              refine AnyG.take 12 (v := ?vv28) rfl (by kernel_rfl) (by kernel_rfl) (by kernel_rfl) (by kernel_rfl) (fun _ _ _ h => h) hS2 ?hy28 (by rfl) ?rest28
              case hy28 =>
                intro w0 h0
                go_simp
                try with_reducible rfl
              simp only [Act.put, List.getElem_toArray, List.getElem_cons_zero, List.getElem_cons_succ, List.setIfInBounds_toArray, List.set_cons_zero, List.set_cons_succ]
              refine AnyG.take 13 (v := ?vv29) rfl (by kernel_rfl) (by kernel_rfl) (by kernel_rfl) (by kernel_rfl) (fun _ _ _ h => h) hS2 ?hy29 (by rfl) ?rest29
              case hy29 =>
                intro w0 h0
                go_simp
                try with_reducible rfl
              simp only [Act.put, List.getElem_toArray, List.getElem_cons_zero, List.getElem_cons_succ, List.setIfInBounds_toArray, List.set_cons_zero, List.set_cons_succ]
              refine AnyG.take 14 (v := ?vv30) rfl (by kernel_rfl) (by kernel_rfl) (by kernel_rfl) (by kernel_rfl) (fun _ _ _ h => h) hS2 ?hy30 (by rfl) ?rest30
              case hy30 =>
                intro w0 h0
                go_simp
                try with_reducible rfl
              simp only [Act.put, List.getElem_toArray, List.getElem_cons_zero, List.getElem_cons_succ, List.setIfInBounds_toArray, List.set_cons_zero, List.set_cons_succ]
              refine AnyG.take 15 (v := ?vv31) rfl (by kernel_rfl) (by kernel_rfl) (by kernel_rfl) (by kernel_rfl) (fun _ _ _ h => h) hS2 ?hy31 (by rfl) ?rest31
              case hy31 =>
                intro w0 h0
                go_simp
                try with_reducible rfl
              simp only [Act.put, List.getElem_toArray, List.getElem_cons_zero, List.getElem_cons_succ, List.setIfInBounds_toArray, List.set_cons_zero, List.set_cons_succ]
              refine AnyG.take 16 (v := ?vv32) rfl (by kernel_rfl) (by kernel_rfl) (by kernel_rfl) (by kernel_rfl) (fun _ _ _ h => h) hS2 ?hy32 (by rfl) ?rest32
              case hy32 =>
                intro w0 h0
                go_simp
                try with_reducible rfl
              simp only [Act.put, List.getElem_toArray, List.getElem_cons_zero, List.getElem_cons_succ, List.setIfInBounds_toArray, List.set_cons_zero, List.set_cons_succ]
              refine AnyG.one 17 (by kernel_rfl) rfl ?_
              intro K hK
              go_simp
              refine (HH.out _).mono ?_
              rintro e w7 ⟨rfl, hb⟩
              have hS3 : (fun w' => Cel w' gc [.int .i64 z1, .int .i64 z2, .int .i64 z3, .int .i64 z4, .int .i64 z5] 23 ∧ Cel w' gd [.int .i64 y1, .int .i64 y2, .int .i64 y3, .int .i64 y4, .int .i64 y5] 23 ∧ Below w.heap.size w w') w7 := ⟨hS2.1.kept hb, hS2.2.1.kept hb, hS2.2.2.trans (hb.mono hS2.2.2.size)⟩
              clear hb hS2
              refine hK.out _ _ (fun _ => hS3) ?_
              clear hK K
              try simp only [Act.put, List.getElem_toArray, List.getElem_cons_zero, List.getElem_cons_succ, List.setIfInBounds_toArray, List.set_cons_zero, List.set_cons_succ]
              refine AnyG.take 18 (v := ?vv33) rfl (by kernel_rfl) (by kernel_rfl) (by kernel_rfl) (by kernel_rfl) (fun _ _ _ h => h) hS3 ?hy33 (by rfl) ?rest33
              case hy33 =>
                intro w0 h0
                go_simp
                try with_reducible rfl
              simp only [Act.put, List.getElem_toArray, List.getElem_cons_zero, List.getElem_cons_succ, List.setIfInBounds_toArray, List.set_cons_zero, List.set_cons_succ]
              refine AnyG.take 19 (v := ?vv34) rfl (by kernel_rfl) (by kernel_rfl) (by kernel_rfl) (by kernel_rfl) (fun _ _ _ h => h) hS3 ?hy34 (by rfl) ?rest34
              case hy34 =>
                intro w0 h0
                go_simp
                try with_reducible rfl
              simp only [Act.put, List.getElem_toArray, List.getElem_cons_zero, List.getElem_cons_succ, List.setIfInBounds_toArray, List.set_cons_zero, List.set_cons_succ]
              refine AnyG.done (by kernel_rfl) ?_ _
              go_wp2
              go_ret
              exact ⟨rfl, hS3.2.2⟩
          · have n3 : (z3 != y3) = true := by simp [h3]
            have hl : decide (z3 < y3) = LL := by
              have e1 := E1.out
              have e2 := E2.out
              rw [HLL.out]
              exact decide_eq_decide.2 (by have := HK.out; omega)
            clear h1
            clear h2
            clear h3
            clear HK
            go_wp2
            refine region_g [] (fun w' => Cel w' gc [.int .i64 z1, .int .i64 z2, .int .i64 z3, .int .i64 z4, .int .i64 z5] 23 ∧ Cel w' gd [.int .i64 y1, .int .i64 y2, .int .i64 y3, .int .i64 y4, .int .i64 y5] 23 ∧ Below w.heap.size w w') (by kernel_rfl) ?_
            have hS : (fun w' => Cel w' gc [.int .i64 z1, .int .i64 z2, .int .i64 z3, .int .i64 z4, .int .i64 z5] 23 ∧ Cel w' gd [.int .i64 y1, .int .i64 y2, .int .i64 y3, .int .i64 y4, .int .i64 y5] 23 ∧ Below w.heap.size w w') w4.drew := ⟨A4.out.drew, D4.out.drew, B4.out.drew⟩
            generalize w4.drew = V at *
            refine AnyG.take 0 (v := ?vv35) rfl (by kernel_rfl) (by kernel_rfl) (by kernel_rfl) (by kernel_rfl) (fun _ _ _ h => h) hS ?hy35 (by rfl) ?rest35
            case hy35 =>
              intro w0 h0
              have c0 := h0.1.cell 0 rfl
              have c1 := h0.1.cell 1 rfl
              have c2 := h0.1.cell 2 rfl
              have c3 := h0.1.cell 3 rfl
              have c4 := h0.1.cell 4 rfl
              go_simp
              try with_reducible rfl
            simp only [Act.put, List.getElem_toArray, List.getElem_cons_zero, List.getElem_cons_succ, List.setIfInBounds_toArray, List.set_cons_zero, List.set_cons_succ]
            refine AnyG.take 2 (v := ?vv36) rfl (by kernel_rfl) (by kernel_rfl) (by kernel_rfl) (by kernel_rfl) (fun _ _ _ h => h) hS ?hy36 (by rfl) ?rest36
            case hy36 =>
              intro w0 h0
              have d0 := h0.2.1.cell 0 rfl
              have d1 := h0.2.1.cell 1 rfl
              have d2 := h0.2.1.cell 2 rfl
              have d3 := h0.2.1.cell 3 rfl
              have d4 := h0.2.1.cell 4 rfl
              go_simp
              try with_reducible rfl
            simp only [Act.put, List.getElem_toArray, List.getElem_cons_zero, List.getElem_cons_succ, List.setIfInBounds_toArray, List.set_cons_zero, List.set_cons_succ]
            refine AnyG.take 5 (v := ?vv37) rfl (by kernel_rfl) (by kernel_rfl) (by kernel_rfl) (by kernel_rfl) (fun _ _ _ h => h) hS ?hy37 (by rfl) ?rest37
            case hy37 =>
              intro w0 h0
              have c0 := h0.1.cell 0 rfl
              have c1 := h0.1.cell 1 rfl
              have c2 := h0.1.cell 2 rfl
              have c3 := h0.1.cell 3 rfl
              have c4 := h0.1.cell 4 rfl
              go_simp
              try with_reducible rfl
            simp only [Act.put, List.getElem_toArray, List.getElem_cons_zero, List.getElem_cons_succ, List.setIfInBounds_toArray, List.set_cons_zero, List.set_cons_succ]
            refine AnyG.take 6 (v := ?vv38) rfl (by kernel_rfl) (by kernel_rfl) (by kernel_rfl) (by kernel_rfl) (fun _ _ _ h => h) hS ?hy38 (by rfl) ?rest38
            case hy38 =>
              intro w0 h0
              have d0 := h0.2.1.cell 0 rfl
              have d1 := h0.2.1.cell 1 rfl
              have d2 := h0.2.1.cell 2 rfl
              have d3 := h0.2.1.cell 3 rfl
              have d4 := h0.2.1.cell 4 rfl
              go_simp
              try with_reducible rfl
            simp only [Act.put, List.getElem_toArray, List.getElem_cons_zero, List.getElem_cons_succ, List.setIfInBounds_toArray, List.set_cons_zero, List.set_cons_succ]
            refine AnyG.take 7 (v := ?vv39) rfl (by kernel_rfl) (by kernel_rfl) (by kernel_rfl) (by kernel_rfl) (fun _ _ _ h => h) hS ?hy39 (by rfl) ?rest39
            case hy39 =>
              intro w0 h0
              go_simp
              try with_reducible rfl
            simp only [Act.put, List.getElem_toArray, List.getElem_cons_zero, List.getElem_cons_succ, List.setIfInBounds_toArray, List.set_cons_zero, List.set_cons_succ]
            refine AnyG.one 1 (by kernel_rfl) rfl ?_
            intro K hK
            go_simp
            refine (NC.out _).mono ?_
            rintro e w5 ⟨rfl, hb⟩
            have hS1 : (fun w' => Cel w' gc [.int .i64 z1, .int .i64 z2, .int .i64 z3, .int .i64 z4, .int .i64 z5] 23 ∧ Cel w' gd [.int .i64 y1, .int .i64 y2, .int .i64 y3, .int .i64 y4, .int .i64 y5] 23 ∧ Below w.heap.size w w') w5 := ⟨hS.1.kept hb, hS.2.1.kept hb, hS.2.2.trans (hb.mono hS.2.2.size)⟩
            clear hb hS
            refine hK.out _ _ (fun _ => hS1) ?_
            clear hK K
            try simp only [Act.put, List.getElem_toArray, List.getElem_cons_zero, List.getElem_cons_succ, List.setIfInBounds_toArray, List.set_cons_zero, List.set_cons_succ]
            refine AnyG.one 3 (by kernel_rfl) rfl ?_
            intro K hK
            go_simp
            refine (ND.out _).mono ?_
            rintro e w6 ⟨rfl, hb⟩
            have hS2 : (fun w' => Cel w' gc [.int .i64 z1, .int .i64 z2, .int .i64 z3, .int .i64 z4, .int .i64 z5] 23 ∧ Cel w' gd [.int .i64 y1, .int .i64 y2, .int .i64 y3, .int .i64 y4, .int .i64 y5] 23 ∧ Below w.heap.size w w') w6 := ⟨hS1.1.kept hb, hS1.2.1.kept hb, hS1.2.2.trans (hb.mono hS1.2.2.size)⟩
            clear hb hS1
            refine hK.out _ _ (fun _ => hS2) ?_
            clear hK K
            try simp only [Act.put, List.getElem_toArray, List.getElem_cons_zero, List.getElem_cons_succ, List.setIfInBounds_toArray, List.set_cons_zero, List.set_cons_succ]
            refine AnyG.take 4 (v := ?vv40) rfl (by kernel_rfl) (by kernel_rfl) (by kernel_rfl) (by kernel_rfl) (fun _ _ _ h => h) hS2 ?hy40 (by rfl) ?rest40
            case hy40 =>
              intro w0 h0
              go_simp
              try with_reducible rfl
            simp only [Act.put, List.getElem_toArray, List.getElem_cons_zero, List.getElem_cons_succ, List.setIfInBounds_toArray, List.set_cons_zero, List.set_cons_succ]
            refine AnyG.take 8 (v := ?vv41) rfl (by kernel_rfl) (by kernel_rfl) (by kernel_rfl) (by kernel_rfl) (fun _ _ _ h => h) hS2 ?hy41 (by rfl) ?rest41
            case hy41 =>
              intro w0 h0
              go_simp
              try with_reducible rfl
            simp only [Act.put, List.getElem_toArray, List.getElem_cons_zero, List.getElem_cons_succ, List.setIfInBounds_toArray, List.set_cons_zero, List.set_cons_succ]
            refine AnyG.take 9 (v := ?vv42) rfl (by kernel_rfl) (by kernel_rfl) (by kernel_rfl) (by kernel_rfl) (fun _ _ _ h => h) hS2 ?hy42 (by rfl) ?rest42
            case hy42 =>
              intro w0 h0
              go_simp
              try with_reducible rfl
            simp only [Act.put, List.getElem_toArray, List.getElem_cons_zero, List.getElem_cons_succ, List.setIfInBounds_toArray, List.set_cons_zero, List.set_cons_succ]
            refine AnyG.take 10 (v := ?vv43) rfl (by kernel_rfl) (by kernel_rfl) (by kernel_rfl) (by kernel_rfl) (fun _ _ _ h => h) hS2 ?hy43 (by rfl) ?rest43
            case hy43 =>
              intro w0 h0
              go_simp
              try with_reducible rfl
            simp only [Act.put, List.getElem_toArray, List.getElem_cons_zero, List.getElem_cons_succ, List.setIfInBounds_toArray, List.set_cons_zero, List.set_cons_succ]
            refine AnyG.take 11 (v := ?vv44) rfl (by kernel_rfl) (by kernel_rfl) (by kernel_rfl) (by kernel_rfl) (fun _ _ _ h => h) hS2 ?hy44 (by rfl) ?rest44
            case hy44 =>
              intro w0 h0
              go_simp
              try with_reducible rfl
            simp only [Act.put, List.getElem_toArray, List.getElem_cons_zero, List.getElem_cons_succ, List.setIfInBounds_toArray, List.set_cons_zero, List.set_cons_succ]
            refine AnyG.take 12 (v := ?vv45) rfl (by kernel_rfl) (by kernel_rfl) (by kernel_rfl) (by kernel_rfl) (fun _ _ _ h => h) hS2 ?hy45 (by rfl) ?rest45
            case hy45 =>
              intro w0 h0
              go_simp
              try with_reducible rfl
            simp only [Act.put, List.getElem_toArray, List.getElem_cons_zero, List.getElem_cons_succ, List.setIfInBounds_toArray, List.set_cons_zero, List.set_cons_succ]
            refine AnyG.take 13 (v := ?vv46) rfl (by kernel_rfl) (by kernel_rfl) (by kernel_rfl) (by kernel_rfl) (fun _ _ _ h => h) hS2 ?hy46 (by rfl) ?rest46
            case hy46 =>
              intro w0 h0
              go_simp
              try with_reducible rfl
            simp only [Act.put, List.getElem_toArray, List.getElem_cons_zero, List.getElem_cons_succ, List.setIfInBounds_toArray, List.set_cons_zero, List.set_cons_succ]
            refine AnyG.take 14 (v := ?vv47) rfl (by kernel_rfl) (by kernel_rfl) (by kernel_rfl) (by kernel_rfl) (fun _ _ _ h => h) hS2 ?hy47 (by rfl) ?rest47
            case hy47 =>
              intro w0 h0
              go_simp
              try with_reducible rfl
            simp only [Act.put, List.getElem_toArray, List.getElem_cons_zero, List.getElem_cons_succ, List.setIfInBounds_toArray, List.set_cons_zero, List.set_cons_succ]
            refine AnyG.take 15 (v := ?vv48) rfl (by kernel_rfl) (by kernel_rfl) (by kernel_rfl) (by kernel_rfl) (fun _ _ _ h => h) hS2 ?hy48 (by rfl) ?rest48
            case hy48 =>
              intro w0 h0
              go_simp
              try with_reducible rfl
            simp only [Act.put, List.getElem_toArray, List.getElem_cons_zero, List.getElem_cons_succ, List.setIfInBounds_toArray, List.set_cons_zero, List.set_cons_succ]
            refine AnyG.take 16 (v := ?vv49) rfl (by kernel_rfl) (by kernel_rfl) (by kernel_rfl) (by kernel_rfl) (fun _ _ _ h => h) hS2 ?hy49 (by rfl) ?rest49
            case hy49 =>
              intro w0 h0
              go_simp
              try with_reducible rfl
            simp only [Act.put, List.getElem_toArray, List.getElem_cons_zero, List.getElem_cons_succ, List.setIfInBounds_toArray, List.set_cons_zero, List.set_cons_succ]
            refine AnyG.one 17 (by kernel_rfl) rfl ?_
            intro K hK
            go_simp
            refine (HH.out _).mono ?_
            rintro e w7 ⟨rfl, hb⟩
            have hS3 : (fun w' => Cel w' gc [.int .i64 z1, .int .i64 z2, .int .i64 z3, .int .i64 z4, .int .i64 z5] 23 ∧ Cel w' gd [.int .i64 y1, .int .i64 y2, .int .i64 y3, .int .i64 y4, .int .i64 y5] 23 ∧ Below w.heap.size w w') w7 := ⟨hS2.1.kept hb, hS2.2.1.kept hb, hS2.2.2.trans (hb.mono hS2.2.2.size)⟩
            clear hb hS2
            refine hK.out _ _ (fun _ => hS3) ?_
            clear hK K
            try simp only [Act.put, List.getElem_toArray, List.getElem_cons_zero, List.getElem_cons_succ, List.setIfInBounds_toArray, List.set_cons_zero, List.set_cons_succ]
            refine AnyG.take 18 (v := ?vv50) rfl (by kernel_rfl) (by kernel_rfl) (by kernel_rfl) (by kernel_rfl) (fun _ _ _ h => h) hS3 ?hy50 (by rfl) ?rest50
            case hy50 =>
              intro w0 h0
              go_simp
              try with_reducible rfl
            simp only [Act.put, List.getElem_toArray, List.getElem_cons_zero, List.getElem_cons_succ, List.setIfInBounds_toArray, List.set_cons_zero, List.set_cons_succ]
            refine AnyG.take 19 (v := ?vv51) rfl (by kernel_rfl) (by kernel_rfl) (by kernel_rfl) (by kernel_rfl) (fun _ _ _ h => h) hS3 ?hy51 (by rfl) ?rest51
            case hy51 =>
              intro w0 h0
              go_simp
              try with_reducible rfl
            simp only [Act.put, List.getElem_toArray, List.getElem_cons_zero, List.getElem_cons_succ, List.setIfInBounds_toArray, List.set_cons_zero, List.set_cons_succ]
            refine AnyG.done (by kernel_rfl) ?_ _
            go_wp2
            go_ret
            exact ⟨rfl, hS3.2.2⟩
        · have n2 : (z2 != y2) = true := by simp [h2]
          have hl : decide (z2 < y2) = LL := by
            have e1 := E1.out
            rw [HLL.out]
            exact decide_eq_decide.2 (by have := HK.out; omega)
          clear h1
          clear h2
          clear HK
          go_wp2
          refine region_g [] (fun w' => Cel w' gc [.int .i64 z1, .int .i64 z2, .int .i64 z3, .int .i64 z4, .int .i64 z5] 23 ∧ Cel w' gd [.int .i64 y1, .int .i64 y2, .int .i64 y3, .int .i64 y4, .int .i64 y5] 23 ∧ Below w.heap.size w w') (by kernel_rfl) ?_
          have hS : (fun w' => Cel w' gc [.int .i64 z1, .int .i64 z2, .int .i64 z3, .int .i64 z4, .int .i64 z5] 23 ∧ Cel w' gd [.int .i64 y1, .int .i64 y2, .int .i64 y3, .int .i64 y4, .int .i64 y5] 23 ∧ Below w.heap.size w w') w4.drew := ⟨A4.out.drew, D4.out.drew, B4.out.drew⟩
          generalize w4.drew = V at *
          refine AnyG.take 0 (v := ?vv52) rfl (by kernel_rfl) (by kernel_rfl) (by kernel_rfl) (by kernel_rfl) (fun _ _ _ h => h) hS ?hy52 (by rfl) ?rest52
          case hy52 =>
            intro w0 h0
            have c0 := h0.1.cell 0 rfl
            have c1 := h0.1.cell 1 rfl
            have c2 := h0.1.cell 2 rfl
            have c3 := h0.1.cell 3 rfl
            have c4 := h0.1.cell 4 rfl
            go_simp
            try with_reducible rfl
          simp only [Act.put, List.getElem_toArray, List.getElem_cons_zero, List.getElem_cons_succ, List.setIfInBounds_toArray, List.set_cons_zero, List.set_cons_succ]
          refine AnyG.take 2 (v := ?vv53) rfl (by kernel_rfl) (by kernel_rfl) (by kernel_rfl) (by kernel_rfl) (fun _ _ _ h => h) hS ?hy53 (by rfl) ?rest53
          case hy53 =>
            intro w0 h0
            have d0 := h0.2.1.cell 0 rfl
            have d1 := h0.2.1.cell 1 rfl
            have d2 := h0.2.1.cell 2 rfl
            have d3 := h0.2.1.cell 3 rfl
            have d4 := h0.2.1.cell 4 rfl
            go_simp
            try with_reducible rfl
          simp only [Act.put, List.getElem_toArray, List.getElem_cons_zero, List.getElem_cons_succ, List.setIfInBounds_toArray, List.set_cons_zero, List.set_cons_succ]
          refine AnyG.take 5 (v := ?vv54) rfl (by kernel_rfl) (by kernel_rfl) (by kernel_rfl) (by kernel_rfl) (fun _ _ _ h => h) hS ?hy54 (by rfl) ?rest54
          case hy54 =>
            intro w0 h0
            have c0 := h0.1.cell 0 rfl
            have c1 := h0.1.cell 1 rfl
            have c2 := h0.1.cell 2 rfl
            have c3 := h0.1.cell 3 rfl
            have c4 := h0.1.cell 4 rfl
            go_simp
            try with_reducible rfl
          simp only [Act.put, List.getElem_toArray, List.getElem_cons_zero, List.getElem_cons_succ, List.setIfInBounds_toArray, List.set_cons_zero, List.set_cons_succ]
          refine AnyG.take 6 (v := ?vv55) rfl (by kernel_rfl) (by kernel_rfl) (by kernel_rfl) (by kernel_rfl) (fun _ _ _ h => h) hS ?hy55 (by rfl) ?rest55
          case hy55 =>
            intro w0 h0
            have d0 := h0.2.1.cell 0 rfl
            have d1 := h0.2.1.cell 1 rfl
            have d2 := h0.2.1.cell 2 rfl
            have d3 := h0.2.1.cell 3 rfl
            have d4 := h0.2.1.cell 4 rfl
            go_simp
            try with_reducible rfl
          simp only [Act.put, List.getElem_toArray, List.getElem_cons_zero, List.getElem_cons_succ, List.setIfInBounds_toArray, List.set_cons_zero, List.set_cons_succ]
          refine AnyG.take 7 (v := ?vv56) rfl (by kernel_rfl) (by kernel_rfl) (by kernel_rfl) (by kernel_rfl) (fun _ _ _ h => h) hS ?hy56 (by rfl) ?rest56
          case hy56 =>
            intro w0 h0
            go_simp
            try with_reducible rfl
          simp only [Act.put, List.getElem_toArray, List.getElem_cons_zero, List.getElem_cons_succ, List.setIfInBounds_toArray, List.set_cons_zero, List.set_cons_succ]
          refine AnyG.one 1 (by kernel_rfl) rfl ?_
          intro K hK
          go_simp
          refine (NC.out _).mono ?_
          rintro e w5 ⟨rfl, hb⟩
          have hS1 : (fun w' => Cel w' gc [.int .i64 z1, .int .i64 z2, .int .i64 z3, .int .i64 z4, .int .i64 z5] 23 ∧ Cel w' gd [.int .i64 y1, .int .i64 y2, .int .i64 y3, .int .i64 y4, .int .i64 y5] 23 ∧ Below w.heap.size w w') w5 := ⟨hS.1.kept hb, hS.2.1.kept hb, hS.2.2.trans (hb.mono hS.2.2.size)⟩
          clear hb hS
          refine hK.out _ _ (fun _ => hS1) ?_
          clear hK K
          try simp only [Act.put, List.getElem_toArray, List.getElem_cons_zero, List.getElem_cons_succ, List.setIfInBounds_toArray, List.set_cons_zero, List.set_cons_succ]
          refine AnyG.one 3 (by kernel_rfl) rfl ?_
          intro K hK
          go_simp
          refine (ND.out _).mono ?_
          rintro e w6 ⟨rfl, hb⟩
          have hS2 : (fun w' => Cel w' gc [.int .i64 z1, .int .i64 z2, .int .i64 z3, .int .i64 z4, .int .i64 z5] 23 ∧ Cel w' gd [.int .i64 y1, .int .i64 y2, .int .i64 y3, .int .i64 y4, .int .i64 y5] 23 ∧ Below w.heap.size w w') w6 := ⟨hS1.1.kept hb, hS1.2.1.kept hb, hS1.2.2.trans (hb.mono hS1.2.2.size)⟩
          clear hb hS1
          refine hK.out _ _ (fun _ => hS2) ?_
          clear hK K
          try simp only [Act.put, List.getElem_toArray, List.getElem_cons_zero, List.getElem_cons_succ, List.setIfInBounds_toArray, List.set_cons_zero, List.set_cons_succ]
          refine AnyG.take 4 (v := ?vv57) rfl (by kernel_rfl) (by kernel_rfl) (by kernel_rfl) (by kernel_rfl) (fun _ _ _ h => h) hS2 ?hy57 (by rfl) ?rest57
          case hy57 =>
            intro w0 h0
            go_simp
            try with_reducible rfl
          simp only [Act.put, List.getElem_toArray, List.getElem_cons_zero, List.getElem_cons_succ, List.setIfInBounds_toArray, List.set_cons_zero, List.set_cons_succ]
          refine AnyG.take 8 (v := ?vv58) rfl (by kernel_rfl) (by kernel_rfl) (by kernel_rfl) (by kernel_rfl) (fun _ _ _ h => h) hS2 ?hy58 (by rfl) ?rest58
          case hy58 =>
            intro w0 h0
            go_simp
            try with_reducible rfl
          simp only [Act.put, List.getElem_toArray, List.getElem_cons_zero, List.getElem_cons_succ, List.setIfInBounds_toArray, List.set_cons_zero, List.set_cons_succ]
          refine AnyG.take 9 (v := ?vv59) rfl (by kernel_rfl) (by kernel_rfl) (by kernel_rfl) (by kernel_rfl) (fun _ _ _ h => h) hS2 ?hy59 (by rfl) ?rest59
          case hy59 =>
            intro w0 h0
            go_simp
            try with_reducible rfl
          simp only [Act.put, List.getElem_toArray, List.getElem_cons_zero, List.getElem_cons_succ, List.setIfInBounds_toArray, List.set_cons_zero, List.set_cons_succ]
          refine AnyG.take 10 (v := ?vv60) rfl (by kernel_rfl) (by kernel_rfl) (by kernel_rfl) (by kernel_rfl) (fun _ _ _ h => h) hS2 ?hy60 (by rfl) ?rest60
          case hy60 =>
            intro w0 h0
            go_simp
            try with_reducible rfl
          simp only [Act.put, List.getElem_toArray, List.getElem_cons_zero, List.getElem_cons_succ, List.setIfInBounds_toArray, List.set_cons_zero, List.set_cons_succ]
          refine AnyG.take 11 (v := ?vv61) rfl (by kernel_rfl) (by kernel_rfl) (by kernel_rfl) (by kernel_rfl) (fun _ _ _ h => h) hS2 ?hy61 (by rfl) ?rest61
          case hy61 =>
            intro w0 h0
            go_simp
            try with_reducible rfl
          simp only [Act.put, List.getElem_toArray, List.getElem_cons_zero, List.getElem_cons_succ, List.setIfInBounds_toArray, List.set_cons_zero, List.set_cons_succ]
          refine AnyG.take 12 (v := ?vv62) rfl (by kernel_rfl) (by kernel_rfl) (by kernel_rfl) (by kernel_rfl) (fun _ _ _ h => h) hS2 ?hy62 (by rfl) ?rest62
          case hy62 =>
            intro w0 h0
            go_simp
            try with_reducible rfl
          simp only [Act.put, List.getElem_toArray, List.getElem_cons_zero, List.getElem_cons_succ, List.setIfInBounds_toArray, List.set_cons_zero, List.set_cons_succ]
          refine AnyG.take 13 (v := ?vv63) rfl (by kernel_rfl) (by kernel_rfl) (by kernel_rfl) (by kernel_rfl) (fun _ _ _ h => h) hS2 ?hy63 (by rfl) ?rest63
          case hy63 =>
            intro w0 h0
            go_simp
            try with_reducible rfl
          simp only [Act.put, List.getElem_toArray, List.getElem_cons_zero, List.getElem_cons_succ, List.setIfInBounds_toArray, List.set_cons_zero, List.set_cons_succ]
          refine AnyG.take 14 (v := ?vv64) rfl (by kernel_rfl) (by kernel_rfl) (by kernel_rfl) (by kernel_rfl) (fun _ _ _ h => h) hS2 ?hy64 (by rfl) ?rest64
          case hy64 =>
            intro w0 h0
            go_simp
            try with_reducible rfl
          simp only [Act.put, List.getElem_toArray, List.getElem_cons_zero, List.getElem_cons_succ, List.setIfInBounds_toArray, List.set_cons_zero, List.set_cons_succ]
          refine AnyG.take 15 (v := ?vv65) rfl (by kernel_rfl) (by kernel_rfl) (by kernel_rfl) (by kernel_rfl) (fun _ _ _ h => h) hS2 ?hy65 (by rfl) ?rest65
          case hy65 =>
            intro w0 h0
            go_simp
            try with_reducible rfl
          simp only [Act.put, List.getElem_toArray, List.getElem_cons_zero, List.getElem_cons_succ, List.setIfInBounds_toArray, List.set_cons_zero, List.set_cons_succ]
          refine AnyG.take 16 (v := ?vv66) rfl (by kernel_rfl) (by kernel_rfl) (by kernel_rfl) (by kernel_rfl) (fun _ _ _ h => h) hS2 ?hy66 (by rfl) ?rest66
          case hy66 =>
            intro w0 h0
            go_simp
            try with_reducible rfl
          simp only [Act.put, List.getElem_toArray, List.getElem_cons_zero, List.getElem_cons_succ, List.setIfInBounds_toArray, List.set_cons_zero, List.set_cons_succ]
          refine AnyG.one 17 (by kernel_rfl) rfl ?_
          intro K hK
          go_simp
          refine (HH.out _).mono ?_
          rintro e w7 ⟨rfl, hb⟩
          have hS3 : (fun w' => Cel w' gc [.int .i64 z1, .int .i64 z2, .int .i64 z3, .int .i64 z4, .int .i64 z5] 23 ∧ Cel w' gd [.int .i64 y1, .int .i64 y2, .int .i64 y3, .int .i64 y4, .int .i64 y5] 23 ∧ Below w.heap.size w w') w7 := ⟨hS2.1.kept hb, hS2.2.1.kept hb, hS2.2.2.trans (hb.mono hS2.2.2.size)⟩
          clear hb hS2
          refine hK.out _ _ (fun _ => hS3) ?_
          clear hK K
          try simp only [Act.put, List.getElem_toArray, List.getElem_cons_zero, List.getElem_cons_succ, List.setIfInBounds_toArray, List.set_cons_zero, List.set_cons_succ]
          refine AnyG.take 18 (v := ?vv67) rfl (by kernel_rfl) (by kernel_rfl) (by kernel_rfl) (by kernel_rfl) (fun _ _ _ h => h) hS3 ?hy67 (by rfl) ?rest67
          case hy67 =>
            intro w0 h0
            go_simp
            try with_reducible rfl
          simp only [Act.put, List.getElem_toArray, List.getElem_cons_zero, List.getElem_cons_succ, List.setIfInBounds_toArray, List.set_cons_zero, List.set_cons_succ]
          refine AnyG.take 19 (v := ?vv68) rfl (by kernel_rfl) (by kernel_rfl) (by kernel_rfl) (by kernel_rfl) (fun _ _ _ h => h) hS3 ?hy68 (by rfl) ?rest68
          case hy68 =>
            intro w0 h0
            go_simp
            try with_reducible rfl
          simp only [Act.put, List.getElem_toArray, List.getElem_cons_zero, List.getElem_cons_succ, List.setIfInBounds_toArray, List.set_cons_zero, List.set_cons_succ]
          refine AnyG.done (by kernel_rfl) ?_ _
          go_wp2
          go_ret
          exact ⟨rfl, hS3.2.2⟩
      · have n1 : (z1 != y1) = true := by simp [h1]
        have hl : decide (z1 < y1) = LL := by
          rw [HLL.out]
          exact decide_eq_decide.2 (by have := HK.out; omega)
        clear h1
        clear HK
        go_wp2
        refine region_g [] (fun w' => Cel w' gc [.int .i64 z1, .int .i64 z2, .int .i64 z3, .int .i64 z4, .int .i64 z5] 23 ∧ Cel w' gd [.int .i64 y1, .int .i64 y2, .int .i64 y3, .int .i64 y4, .int .i64 y5] 23 ∧ Below w.heap.size w w') (by kernel_rfl) ?_
        have hS : (fun w' => Cel w' gc [.int .i64 z1, .int .i64 z2, .int .i64 z3, .int .i64 z4, .int .i64 z5] 23 ∧ Cel w' gd [.int .i64 y1, .int .i64 y2, .int .i64 y3, .int .i64 y4, .int .i64 y5] 23 ∧ Below w.heap.size w w') w4.drew := ⟨A4.out.drew, D4.out.drew, B4.out.drew⟩
        generalize w4.drew = V at *
        refine AnyG.take 0 (v := ?vv69) rfl (by kernel_rfl) (by kernel_rfl) (by kernel_rfl) (by kernel_rfl) (fun _ _ _ h => h) hS ?hy69 (by rfl) ?rest69
        case hy69 =>
          intro w0 h0
          have c0 := h0.1.cell 0 rfl
          have c1 := h0.1.cell 1 rfl
          have c2 := h0.1.cell 2 rfl
          have c3 := h0.1.cell 3 rfl
          have c4 := h0.1.cell 4 rfl
          go_simp
          try with_reducible rfl
        simp only [Act.put, List.getElem_toArray, List.getElem_cons_zero, List.getElem_cons_succ, List.setIfInBounds_toArray, List.set_cons_zero, List.set_cons_succ]
        refine AnyG.take 2 (v := ?vv70) rfl (by kernel_rfl) (by kernel_rfl) (by kernel_rfl) (by kernel_rfl) (fun _ _ _ h => h) hS ?hy70 (by rfl) ?rest70
        case hy70 =>
          intro w0 h0
          have d0 := h0.2.1.cell 0 rfl
          have d1 := h0.2.1.cell 1 rfl
          have d2 := h0.2.1.cell 2 rfl
          have d3 := h0.2.1.cell 3 rfl
          have d4 := h0.2.1.cell 4 rfl
          go_simp
          try with_reducible rfl
        simp only [Act.put, List.getElem_toArray, List.getElem_cons_zero, List.getElem_cons_succ, List.setIfInBounds_toArray, List.set_cons_zero, List.set_cons_succ]
        refine AnyG.take 5 (v := ?vv71) rfl (by kernel_rfl) (by kernel_rfl) (by kernel_rfl) (by kernel_rfl) (fun _ _ _ h => h) hS ?hy71 (by rfl) ?rest71
        case hy71 =>
          intro w0 h0
          have c0 := h0.1.cell 0 rfl
          have c1 := h0.1.cell 1 rfl
          have c2 := h0.1.cell 2 rfl
          have c3 := h0.1.cell 3 rfl
          have c4 := h0.1.cell 4 rfl
          go_simp
          try with_reducible rfl
        simp only [Act.put, List.getElem_toArray, List.getElem_cons_zero, List.getElem_cons_succ, List.setIfInBounds_toArray, List.set_cons_zero, List.set_cons_succ]
        refine AnyG.take 6 (v := ?vv72) rfl (by kernel_rfl) (by kernel_rfl) (by kernel_rfl) (by kernel_rfl) (fun _ _ _ h => h) hS ?hy72 (by rfl) ?rest72
        case hy72 =>
          intro w0 h0
          have d0 := h0.2.1.cell 0 rfl
          have d1 := h0.2.1.cell 1 rfl
          have d2 := h0.2.1.cell 2 rfl
          have d3 := h0.2.1.cell 3 rfl
          have d4 := h0.2.1.cell 4 rfl
          go_simp
          try with_reducible rfl
        simp only [Act.put, List.getElem_toArray, List.getElem_cons_zero, List.getElem_cons_succ, List.setIfInBounds_toArray, List.set_cons_zero, List.set_cons_succ]
        refine AnyG.take 7 (v := ?vv73) rfl (by kernel_rfl) (by kernel_rfl) (by kernel_rfl) (by kernel_rfl) (fun _ _ _ h => h) hS ?hy73 (by rfl) ?rest73
        case hy73 =>
          intro w0 h0
          go_simp
          try with_reducible rfl
        simp only [Act.put, List.getElem_toArray, List.getElem_cons_zero, List.getElem_cons_succ, List.setIfInBounds_toArray, List.set_cons_zero, List.set_cons_succ]
        refine AnyG.one 1 (by kernel_rfl) rfl ?_
        intro K hK
        go_simp
        refine (NC.out _).mono ?_
        rintro e w5 ⟨rfl, hb⟩
        have hS1 : (fun w' => Cel w' gc [.int .i64 z1, .int .i64 z2, .int .i64 z3, .int .i64 z4, .int .i64 z5] 23 ∧ Cel w' gd [.int .i64 y1, .int .i64 y2, .int .i64 y3, .int .i64 y4, .int .i64 y5] 23 ∧ Below w.heap.size w w') w5 := ⟨hS.1.kept hb, hS.2.1.kept hb, hS.2.2.trans (hb.mono hS.2.2.size)⟩
        clear hb hS
        refine hK.out _ _ (fun _ => hS1) ?_
        clear hK K
        try simp only [Act.put, List.getElem_toArray, List.getElem_cons_zero, List.getElem_cons_succ, List.setIfInBounds_toArray, List.set_cons_zero, List.set_cons_succ]
        refine AnyG.one 3 (by kernel_rfl) rfl ?_
        intro K hK
        go_simp
        refine (ND.out _).mono ?_
        rintro e w6 ⟨rfl, hb⟩
        have hS2 : (fun w' => Cel w' gc [.int .i64 z1, .int .i64 z2, .int .i64 z3, .int .i64 z4, .int .i64 z5] 23 ∧ Cel w' gd [.int .i64 y1, .int .i64 y2, .int .i64 y3, .int .i64 y4, .int .i64 y5] 23 ∧ Below w.heap.size w w') w6 := ⟨hS1.1.kept hb, hS1.2.1.kept hb, hS1.2.2.trans (hb.mono hS1.2.2.size)⟩
        clear hb hS1
        refine hK.out _ _ (fun _ => hS2) ?_
        clear hK K
        try simp only [Act.put, List.getElem_toArray, List.getElem_cons_zero, List.getElem_cons_succ, List.setIfInBounds_toArray, List.set_cons_zero, List.set_cons_succ]
        refine AnyG.take 4 (v := ?vv74) rfl (by kernel_rfl) (by kernel_rfl) (by kernel_rfl) (by kernel_rfl) (fun _ _ _ h => h) hS2 ?hy74 (by rfl) ?rest74
        case hy74 =>
          intro w0 h0
          go_simp
          try with_reducible rfl
        simp only [Act.put, List.getElem_toArray, List.getElem_cons_zero, List.getElem_cons_succ, List.setIfInBounds_toArray, List.set_cons_zero, List.set_cons_succ]
        refine AnyG.take 8 (v := ?vv75) rfl (by kernel_rfl) (by kernel_rfl) (by kernel_rfl) (by kernel_rfl) (fun _ _ _ h => h) hS2 ?hy75 (by rfl) ?rest75
        case hy75 =>
          intro w0 h0
          go_simp
          try with_reducible rfl
        simp only [Act.put, List.getElem_toArray, List.getElem_cons_zero, List.getElem_cons_succ, List.setIfInBounds_toArray, List.set_cons_zero, List.set_cons_succ]
        refine AnyG.take 9 (v := ?vv76) rfl (by kernel_rfl) (by kernel_rfl) (by kernel_rfl) (by kernel_rfl) (fun _ _ _ h => h) hS2 ?hy76 (by rfl) ?rest76
        case hy76 =>
          intro w0 h0
          go_simp
          try with_reducible rfl
        simp only [Act.put, List.getElem_toArray, List.getElem_cons_zero, List.getElem_cons_succ, List.setIfInBounds_toArray, List.set_cons_zero, List.set_cons_succ]
        refine AnyG.take 10 (v := ?vv77) rfl (by kernel_rfl) (by kernel_rfl) (by kernel_rfl) (by kernel_rfl) (fun _ _ _ h => h) hS2 ?hy77 (by rfl) ?rest77
        case hy77 =>
          intro w0 h0
          go_simp
          try with_reducible rfl
        simp only [Act.put, List.getElem_toArray, List.getElem_cons_zero, List.getElem_cons_succ, List.setIfInBounds_toArray, List.set_cons_zero, List.set_cons_succ]
        refine AnyG.take 11 (v := ?vv78) rfl (by kernel_rfl) (by kernel_rfl) (by kernel_rfl) (by kernel_rfl) (fun _ _ _ h => h) hS2 ?hy78 (by rfl) ?rest78
        case hy78 =>
          intro w0 h0
          go_simp
          try with_reducible rfl
        simp only [Act.put, List.getElem_toArray, List.getElem_cons_zero, List.getElem_cons_succ, List.setIfInBounds_toArray, List.set_cons_zero, List.set_cons_succ]
        refine AnyG.take 12 (v := ?vv79) rfl (by kernel_rfl) (by kernel_rfl) (by kernel_rfl) (by kernel_rfl) (fun _ _ _ h => h) hS2 ?hy79 (by rfl) ?rest79
        case hy79 =>
          intro w0 h0
          go_simp
          try with_reducible rfl
        simp only [Act.put, List.getElem_toArray, List.getElem_cons_zero, List.getElem_cons_succ, List.setIfInBounds_toArray, List.set_cons_zero, List.set_cons_succ]
        refine AnyG.take 13 (v := ?vv80) rfl (by kernel_rfl) (by kernel_rfl) (by kernel_rfl) (by kernel_rfl) (fun _ _ _ h => h) hS2 ?hy80 (by rfl) ?rest80
        case hy80 =>
          intro w0 h0
          go_simp
          try with_reducible rfl
        simp only [Act.put, List.getElem_toArray, List.getElem_cons_zero, List.getElem_cons_succ, List.setIfInBounds_toArray, List.set_cons_zero, List.set_cons_succ]
        refine AnyG.take 14 (v := ?vv81) rfl (by kernel_rfl) (by kernel_rfl) (by kernel_rfl) (by kernel_rfl) (fun _ _ _ h => h) hS2 ?hy81 (by rfl) ?rest81
        case hy81 =>
          intro w0 h0
          go_simp
          try with_reducible rfl
        simp only [Act.put, List.getElem_toArray, List.getElem_cons_zero, List.getElem_cons_succ, List.setIfInBounds_toArray, List.set_cons_zero, List.set_cons_succ]
        refine AnyG.take 15 (v := ?vv82) rfl (by kernel_rfl) (by kernel_rfl) (by kernel_rfl) (by kernel_rfl) (fun _ _ _ h => h) hS2 ?hy82 (by rfl) ?rest82
        case hy82 =>
          intro w0 h0
          go_simp
          try with_reducible rfl
        simp only [Act.put, List.getElem_toArray, List.getElem_cons_zero, List.getElem_cons_succ, List.setIfInBounds_toArray, List.set_cons_zero, List.set_cons_succ]
        refine AnyG.take 16 (v := ?vv83) rfl (by kernel_rfl) (by kernel_rfl) (by kernel_rfl) (by kernel_rfl) (fun _ _ _ h => h) hS2 ?hy83 (by rfl) ?rest83
        case hy83 =>
          intro w0 h0
          go_simp
          try with_reducible rfl
        simp only [Act.put, List.getElem_toArray, List.getElem_cons_zero, List.getElem_cons_succ, List.setIfInBounds_toArray, List.set_cons_zero, List.set_cons_succ]
        refine AnyG.one 17 (by kernel_rfl) rfl ?_
        intro K hK
        go_simp
        refine (HH.out _).mono ?_
        rintro e w7 ⟨rfl, hb⟩
        have hS3 : (fun w' => Cel w' gc [.int .i64 z1, .int .i64 z2, .int .i64 z3, .int .i64 z4, .int .i64 z5] 23 ∧ Cel w' gd [.int .i64 y1, .int .i64 y2, .int .i64 y3, .int .i64 y4, .int .i64 y5] 23 ∧ Below w.heap.size w w') w7 := ⟨hS2.1.kept hb, hS2.2.1.kept hb, hS2.2.2.trans (hb.mono hS2.2.2.size)⟩
        clear hb hS2
        refine hK.out _ _ (fun _ => hS3) ?_
        clear hK K
        try simp only [Act.put, List.getElem_toArray, List.getElem_cons_zero, List.getElem_cons_succ, List.setIfInBounds_toArray, List.set_cons_zero, List.set_cons_succ]
        refine AnyG.take 18 (v := ?vv84) rfl (by kernel_rfl) (by kernel_rfl) (by kernel_rfl) (by kernel_rfl) (fun _ _ _ h => h) hS3 ?hy84 (by rfl) ?rest84
        case hy84 =>
          intro w0 h0
          go_simp
          try with_reducible rfl
        simp only [Act.put, List.getElem_toArray, List.getElem_cons_zero, List.getElem_cons_succ, List.setIfInBounds_toArray, List.set_cons_zero, List.set_cons_succ]
        refine AnyG.take 19 (v := ?vv85) rfl (by kernel_rfl) (by kernel_rfl) (by kernel_rfl) (by kernel_rfl) (fun _ _ _ h => h) hS3 ?hy85 (by rfl) ?rest85
        case hy85 =>
          intro w0 h0
          go_simp
          try with_reducible rfl
        simp only [Act.put, List.getElem_toArray, List.getElem_cons_zero, List.getElem_cons_succ, List.setIfInBounds_toArray, List.set_cons_zero, List.set_cons_succ]
        refine AnyG.done (by kernel_rfl) ?_ _
        go_wp2
        go_ret
        exact ⟨rfl, hS3.2.2⟩

theorem door_met (os : Os) (args : Array Value) : laidMetH Tryd.prog [("math/bits.deBruijn32tab", Rows.laid_math_bits_deBruijn32tab), ("math/bits.deBruijn64tab", Rows.laid_math_bits_deBruijn64tab), ("internal/strconv.uint64pow10", Rows.laid_internal_strconv_uint64pow10)] ((World.doorLaid Tryd.prog 400 os).forCall (fun _ _ => 0) ⟨#[], args, []⟩).memory :=
  laidMetH_of_parts3 (fuel := 8) (laidMet_of_run' 8 (by kernel_rfl) (by kernel_rfl)) (by kernel_rfl) (by kernel_rfl)

theorem lifted (os : Os) (started : os.Started) (H : Type) (enc : TypeId × Value → H) :
    ReturnsInHanded {} Tryd.checked os 3 .any (fun w args => (Rows.configApartSpec.pre enc Tryd.prog Tryd.f3 [] false w args ∧ laidMetH Tryd.prog [("math/bits.deBruijn32tab", Rows.laid_math_bits_deBruijn32tab), ("math/bits.deBruijn64tab", Rows.laid_math_bits_deBruijn64tab), ("internal/strconv.uint64pow10", Rows.laid_internal_strconv_uint64pow10)] w) ∧ sizedMet enc Tryd.prog Tryd.f3 (OpenSpec.ofChange Rows.configApartSpec) false w args)
      (Rows.configApartSpec.post enc Tryd.prog Tryd.f3 false true false false) := by
  refine returnsInHanded_of_change_and (C := Tryd.checked) (X := fun w _ => laidMetH Tryd.prog [("math/bits.deBruijn32tab", Rows.laid_math_bits_deBruijn32tab), ("math/bits.deBruijn64tab", Rows.laid_math_bits_deBruijn64tab), ("internal/strconv.uint64pow10", Rows.laid_internal_strconv_uint64pow10)] w) (fun _ _ _ hh h => h.of_heap hh) own started (by kernel_rfl) Tryd.func3
    (ChangeSpec.witness_shaped (enc := enc) (C := Tryd.checked) (os := os) (X := fun w _ => laidMetH Tryd.prog [("math/bits.deBruijn32tab", Rows.laid_math_bits_deBruijn32tab), ("math/bits.deBruijn64tab", Rows.laid_math_bits_deBruijn64tab), ("internal/strconv.uint64pow10", Rows.laid_internal_strconv_uint64pow10)] w) false (World.doorLaid Tryd.prog 400 os) #[.agg #[.int .i64 0, .int .i64 0, .int .i64 0, .int .i64 0, .int .i64 0], .agg #[.int .i64 0, .int .i64 0, .int .i64 0, .int .i64 0, .int .i64 0]] 8 rfl (World.shaped_of_RefB (by kernel_rfl) (by kernel_rfl)) (by kernel_rfl) (by kernel_rfl) (by kernel_rfl) (door_met os _)) ?_
  intro W base args ds gs before hval0 hW _ _ hL _
  have hval : ∀ (j : Nat) t v, Tryd.f3.params[j]? = some t → args[j]? = some v → Value.okWide Tryd.prog W .any base t v := hval0
  have hW' := hW
  obtain ⟨p, q, hA0, hV, rfl, hfz, hnd⟩ := hW
  have hA : DataW.TrodAll enc Tryd.prog W 0 (fun _ => true) true Tryd.f3.params.toList args.toList ds p := hA0
  rw [Tryd.params3] at hA hval
  obtain ⟨v0, vs0, d0, ds0, p0, q0, hargs, rfl, rfl, h0, r0⟩ := trodAll_cons hA
  obtain ⟨v1, vs1, d1, ds1, p1, q1, rfl, rfl, rfl, h1, r1⟩ := trodAll_cons r0
  obtain ⟨rfl, rfl, rfl⟩ := trodAll_nil r1
  obtain rfl : args = #[v0, v1] := by cases args; simp_all
  obtain ⟨rfl, rfl⟩ := trodVars_none hV
  have k0 := h0
  have lt0 : ∀ x ∈ p0, x.block < W.heap.size := by obtain ⟨m, hm⟩ := k0; exact DataW.trod_lt m _ _ _ hm
  obtain ⟨z1, z2, z3, z4, z5, rfl⟩ := open_cfg (hval 0 23 v0 rfl rfl) h0
  have k1 := h1
  have lt1 : ∀ x ∈ p1, x.block < W.heap.size := by obtain ⟨m, hm⟩ := k1; exact DataW.trod_lt m _ _ _ hm
  obtain ⟨y1, y2, y3, y4, y5, rfl⟩ := open_cfg (hval 1 23 v1 rfl rfl) h1
  clear hA0 hval0
  refine (walk W z1 z2 z3 z4 z5 y1 y2 y3 y4 y5).mono fun e W' ⟨he, bel⟩ => ?_
  subst he
  exact ⟨_, rfl, _, _, _, [], _, [], hW', trodAll_mk1 (shut_bool Tryd.underlying4 _), (trodAll_cons_mk (Below.trod laidOut (by kernel_rfl) (of_decide_eq_true (by kernel_rfl)) k0 bel lt0) (trodAll_cons_mk (Below.trod laidOut (by kernel_rfl) (of_decide_eq_true (by kernel_rfl)) k1 bel lt1) trodAll_mk0)), rfl, bel.frame _, fun h => by cases h⟩

theorem over : Rows.configApartRow.holds Tryd.pinned (OpenSpec.ofChange Rows.configApartSpec) :=
  OpenClaim.holds_of_wide 3 Tryd.f3 rfl rfl rfl rfl rfl rfl rfl ⟨rfl, rfl, rfl, rfl, rfl⟩ rfl rfl rfl rfl rfl (by kernel_rfl) Tryd.func3 (by kernel_rfl)
    (of_decide_eq_true (by kernel_rfl)) (by unfold Func.isWrapper; first | (rw [if_pos (by decide +kernel)]; kernel_rfl) | (rw [if_neg (by decide +kernel)]; exact ⟨rfl, rfl⟩))
    (fun os started H enc _ => lifted os started H enc)

theorem proved : Rows.ConfigApartCardSaid :=
  Claim7.holds_tied_plain_at .later [] [.data, .data, .data] true (true, "1593746b2f8074c2f823bae7dda62f5e0b82fecdbe1678f3b126733c587ff417") false
    over (fun _ h => by cases h) (by kernel_rfl) (fun _ h => by cases h) configApart_row_tie rfl ⟨rfl, rfl⟩ (by kernel_rfl) rfl
    (fun f fn hf hfn => by
      obtain rfl : f = 3 := Option.some.inj ((show Tryd.prog.funcNamed "haystack/haystacklaw20.ConfigApart" = some 3 by kernel_rfl).symm.trans hf) |>.symm
      obtain rfl : fn = Tryd.f3 := (Option.some.inj (Tryd.func3.symm.trans hfn)).symm
      exact ⟨by kernel_rfl, fun j t ht => by
        rw [Tryd.params3] at ht
        have hm : t ∈ [23, 23] := by simpa using Array.mem_of_getElem? ht
        have hall : ([23, 23].all fun u => !Tryd.prog.wantsStandIn u) = true := by kernel_rfl
        exact (show Tryd.prog.wantsStandIn t = false by simpa using List.all_eq_true.1 hall t hm)⟩)
    (by kernel_rfl)
end Go.Proofs.YtadfnllfeoidhaaDoor.configApart
namespace Go.Proofs.YtadfnllfeoidhaaDoor
theorem configApart_holds : Rows.ConfigApartCardSaid := configApart.proved
#print axioms configApart_holds
end Go.Proofs.YtadfnllfeoidhaaDoor
