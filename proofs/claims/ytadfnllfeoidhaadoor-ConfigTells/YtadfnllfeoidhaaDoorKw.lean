/-
  The contracts of slices.Index and of the program's Number.
-/
import Derived.Test.YtadfnllfeoidhaaDoorKp
import Derived.Test.YtadfnllfeoidhaaDoorKv
import Derived.Test.YtadfnllfeoidhaaDoorCj
namespace Go.Proofs.YtadfnllfeoidhaaDoor
open Go.RowKit
set_option linter.unusedVariables false
set_option linter.unusedSimpArgs false
set_option maxRecDepth 100000

namespace Co
def ixI (z : Zf) : Int := if z ∈ az then (az.idxOf z : Nat) else -1
end Co
set_option maxHeartbeats 4000000 in
theorem kindex_c (g cap : Nat) (z1 z2 z3 z4 z5 : Int) (w : World) (hA : AL w g) :
    Calls Tryd.prog 20 #[.slice (some ⟨g, 0, none⟩) 378 cap, .agg #[.int .i64 z1, .int .i64 z2, .int .i64 z3, .int .i64 z4, .int .i64 z5]] w fun e w' => e = .returned (.int .i64 (Co.ixI (z1, z2, z3, z4, z5))) ∧ Below w.heap.size w w' := by
  obtain ⟨W, hW⟩ : ∃ W, W = w.alloc (.cells #[.int .i64 z1, .int .i64 z2, .int .i64 z3, .int .i64 z4, .int .i64 z5] 23) := ⟨_, rfl⟩
  have HB0 : Hid (Below w.heap.size w W) := by rw [hW]; exact below_alloc w _
  have HC : Hid (Cel W w.heap.size [.int .i64 z1, .int .i64 z2, .int .i64 z3, .int .i64 z4, .int .i64 z5] 23) := by rw [hW]; exact Cel.new w _ _
  have HA := hide (hA.keep HB0.out)
  have HW := hide hW
  clear hW hA
  obtain ⟨gb, hgb⟩ : ∃ gb, Hid (gb = w.heap.size) := ⟨_, rfl⟩
  rw [← hgb.out] at HC
  have GC := guard_cfg
  go_enter Tryd.func20, Tryd.ntmps20
  go_wp2
  rw [← HW.out, ← hgb.out]
  go_loopw [8] (fun vi wr => ∃ i : Nat, i ≤ 378 ∧ vi = .int .i64 (i : Nat) ∧ Hid (∀ j, j < i → Co.az[j]? ≠ some (z1, z2, z3, z4, z5)) ∧ Hid (Below W.heap.size W wr)) (fun vi _ => 378 - (intOf vi).toNat)
  case atStart => exact ⟨0, by omega, rfl, fun j h => absurd h (Nat.not_lt_zero _), Below.refl _ _⟩
  case round =>
    obtain ⟨i, hi, rfl, HN, HB⟩ := hrel
    have HBB := hide (HB0.out.trans (HB.out.mono HB0.out.size))
    by_cases hlt : i < 378
    · have hltz : (i : Int) < 378 := by omega
      obtain ⟨x1, x2, x3, x4, x5, hz, e1, e2, e3, e4, e5⟩ := (HA.out.keep HB.out).at i hlt
      have HC2 := HC.out.kept HB.out
      have q0 := HC2.cell 0 rfl
      have q1 := HC2.cell 1 rfl
      have q2 := HC2.cell 2 rfl
      have q3 := HC2.cell 3 rfl
      have q4 := HC2.cell 4 rfl
      have HZ := hide hz
      clear hz HC2
      by_cases he : (z1, z2, z3, z4, z5) = (x1, x2, x3, x4, x5)
      · have EQ : ∀ w, (binOp .eql 23 (.agg #[.int .i64 z1, .int .i64 z2, .int .i64 z3, .int .i64 z4, .int .i64 z5]) (.agg #[.int .i64 x1, .int .i64 x2, .int .i64 x3, .int .i64 x4, .int .i64 x5])).run Tryd.prog w = .ok (.bool true) w := fun w => by
          have := eq_cfg w (z1, z2, z3, z4, z5) (x1, x2, x3, x4, x5)
          rw [decide_eq_true he] at this
          exact this
        have hm : (z1, z2, z3, z4, z5) ∈ Co.az := by rw [he]; exact List.mem_of_getElem? HZ.out
        have R1 : Hid (Co.ixI (z1, z2, z3, z4, z5) = (i : Nat)) := by
          show Co.ixI _ = _
          unfold Co.ixI
          rw [if_pos hm]
          exact congrArg (fun k : Nat => (k : Int)) (Co.first_ix HN.out (by rw [he]; exact HZ.out))
        clear he hm
        go_wp2
        go_quiet (fail)
        go_wp2
        go_ret
        rw [R1.out]
        exact ⟨rfl, below_drewN HBB.out _⟩
      · have EQ : ∀ w, (binOp .eql 23 (.agg #[.int .i64 z1, .int .i64 z2, .int .i64 z3, .int .i64 z4, .int .i64 z5]) (.agg #[.int .i64 x1, .int .i64 x2, .int .i64 x3, .int .i64 x4, .int .i64 x5])).run Tryd.prog w = .ok (.bool false) w := fun w => by
          have := eq_cfg w (z1, z2, z3, z4, z5) (x1, x2, x3, x4, x5)
          rw [decide_eq_false he] at this
          exact this
        have HN2 : Hid (∀ j, j < i + 1 → Co.az[j]? ≠ some (z1, z2, z3, z4, z5)) := fun j hj => by
          by_cases c : j = i
          · subst c
            rw [HZ.out]
            intro q
            injection q with q
            exact he q.symm
          · exact HN.out j (by omega)
        clear he
        go_wp2
        go_quiet (fail)
        go_wp2
        exact ⟨⟨i + 1, by omega, by go_num, HN2, below_drewN HB.out _⟩, by simp only [intOf]; omega⟩
    · have hge : (378 : Int) ≤ (i : Int) := by omega
      have hm : (z1, z2, z3, z4, z5) ∉ Co.az := fun h => by
        obtain ⟨j, hj⟩ := List.getElem?_of_mem h
        have hl := (List.getElem?_eq_some_iff.1 hj).1
        rw [Co.az_len] at hl
        exact HN.out j (by omega) hj
      have R1 : Hid (Co.ixI (z1, z2, z3, z4, z5) = -1) := by
        show Co.ixI _ = _
        unfold Co.ixI
        rw [if_neg hm]
      clear hm
      go_wp2
      go_ret
      rw [R1.out]
      exact ⟨rfl, HBB.out⟩
set_option maxHeartbeats 4000000 in
theorem knumber_c (z1 z2 z3 z4 z5 : Int) (w : World) :
    Calls Tryd.prog 9 #[.agg #[.int .i64 z1, .int .i64 z2, .int .i64 z3, .int .i64 z4, .int .i64 z5]] w fun e w' => e = .returned (.tuple #[.int .i64 (Co.numI (z1, z2, z3, z4, z5) : Nat), .bool (decide ((z1, z2, z3, z4, z5) ∈ Co.az))]) ∧ Below w.heap.size w w' := by
  have KC := hide (fun w0 => kcheck_c z1 z2 z3 z4 z5 w0)
  have KA := hide kall_c
  obtain ⟨W, hW⟩ : ∃ W, W = w.alloc (.cells #[.int .i64 z1, .int .i64 z2, .int .i64 z3, .int .i64 z4, .int .i64 z5] 23) := ⟨_, rfl⟩
  have HB0 : Hid (Below w.heap.size w W) := by rw [hW]; exact below_alloc w _
  have HC : Hid (Cel W w.heap.size [.int .i64 z1, .int .i64 z2, .int .i64 z3, .int .i64 z4, .int .i64 z5] 23) := by rw [hW]; exact Cel.new w _ _
  have HW := hide hW
  clear hW
  obtain ⟨gb, hgb⟩ : ∃ gb, Hid (gb = w.heap.size) := ⟨_, rfl⟩
  rw [← hgb.out] at HC
  have c0 := HC.out.cell 0 rfl
  have c1 := HC.out.cell 1 rfl
  have c2 := HC.out.cell 2 rfl
  have c3 := HC.out.cell 3 rfl
  have c4 := HC.out.cell 4 rfl
  cases h : Co.okZ (z1, z2, z3, z4, z5) with
  | true =>
    rw [h] at KC
    have hm := Co.mem_az.2 h
    have R1 : Hid ((Co.ixI (z1, z2, z3, z4, z5) : Int) = (Co.numI (z1, z2, z3, z4, z5) : Nat)) := by
      show Co.ixI _ = _
      unfold Co.ixI Co.numI
      rw [if_pos hm, if_pos hm]
    have R2 := hide (decide_eq_true hm)
    clear hm h
    go_enter Tryd.func9, Tryd.ntmps9
    go_wp2_with fail
    rw [← HW.out, ← hgb.out]
    refine (KC.out _).mono ?_
    rintro e w1 ⟨rfl, hb⟩
    have HC1 := hide (HC.out.kept hb)
    have HB1 := hide (HB0.out.trans (hb.mono HB0.out.size))
    clear hb c0 c1 c2 c3 c4 HC HB0
    go_wp2
    refine region_g [] (fun w' => Cel w' gb [.int .i64 z1, .int .i64 z2, .int .i64 z3, .int .i64 z4, .int .i64 z5] 23 ∧ Below w.heap.size w w') (by kernel_rfl) ?_
    have hS : (fun w' => Cel w' gb [.int .i64 z1, .int .i64 z2, .int .i64 z3, .int .i64 z4, .int .i64 z5] 23 ∧ Below w.heap.size w w') w1.drew := ⟨HC1.out.drew, HB1.out.drew⟩
    generalize w1.drew = V at *
    refine AnyG.take 1 (v := ?vv1) rfl (by kernel_rfl) (by kernel_rfl) (by kernel_rfl) (by kernel_rfl) (fun _ _ _ h => h) hS ?hy1 (by rfl) ?rest1
    case hy1 =>
      intro w0 h0
      have c0 := h0.1.cell 0 rfl
      have c1 := h0.1.cell 1 rfl
      have c2 := h0.1.cell 2 rfl
      have c3 := h0.1.cell 3 rfl
      have c4 := h0.1.cell 4 rfl
      go_simp
      try with_reducible rfl
    simp only [Act.put, List.getElem_toArray, List.getElem_cons_zero, List.getElem_cons_succ, List.setIfInBounds_toArray, List.set_cons_zero, List.set_cons_succ]
    refine AnyG.one 0 (by kernel_rfl) rfl ?_
    intro K hK
    go_simp
    refine (KA.out _).mono ?_
    rintro e w2 ⟨g, cap, rfl, hA, hcap, hg, hb⟩
    have hS2 : (fun w' => Cel w' gb [.int .i64 z1, .int .i64 z2, .int .i64 z3, .int .i64 z4, .int .i64 z5] 23 ∧ Below w.heap.size w w') w2 := ⟨hS.1.kept hb, hS.2.trans (hb.mono hS.2.size)⟩
    have KI := hide (kindex_c g cap z1 z2 z3 z4 z5 w2 hA)
    clear hb hS hA hg hcap
    refine hK.out _ _ (fun _ => hS2) ?_
    clear hK K
    try simp only [Act.put, List.getElem_toArray, List.getElem_cons_zero, List.getElem_cons_succ, List.setIfInBounds_toArray, List.set_cons_zero, List.set_cons_succ]
    refine AnyG.one 2 (by kernel_rfl) rfl ?_
    intro K hK
    go_simp
    refine (KI.out).mono ?_
    rintro e w3 ⟨rfl, hb⟩
    have hS3 : (fun w' => Cel w' gb [.int .i64 z1, .int .i64 z2, .int .i64 z3, .int .i64 z4, .int .i64 z5] 23 ∧ Below w.heap.size w w') w3 := ⟨hS2.1.kept hb, hS2.2.trans (hb.mono hS2.2.size)⟩
    clear hb hS2 KI
    refine hK.out _ _ (fun _ => hS3) ?_
    clear hK K
    try simp only [Act.put, List.getElem_toArray, List.getElem_cons_zero, List.getElem_cons_succ, List.setIfInBounds_toArray, List.set_cons_zero, List.set_cons_succ]
    refine AnyG.take 3 (v := ?vv2) rfl (by kernel_rfl) (by kernel_rfl) (by kernel_rfl) (by kernel_rfl) (fun _ _ _ h => h) hS3 ?hy2 (by rfl) ?rest2
    case hy2 =>
      intro w0 h0
      go_simp
      try with_reducible rfl
    simp only [Act.put, List.getElem_toArray, List.getElem_cons_zero, List.getElem_cons_succ, List.setIfInBounds_toArray, List.set_cons_zero, List.set_cons_succ]
    refine AnyG.take 4 (v := ?vv3) rfl (by kernel_rfl) (by kernel_rfl) (by kernel_rfl) (by kernel_rfl) (fun _ _ _ h => h) hS3 ?hy3 (by rfl) ?rest3
    case hy3 =>
      intro w0 h0
      go_simp
      try with_reducible rfl
    simp only [Act.put, List.getElem_toArray, List.getElem_cons_zero, List.getElem_cons_succ, List.setIfInBounds_toArray, List.set_cons_zero, List.set_cons_succ]
    refine AnyG.done (by kernel_rfl) ?_ _
    go_wp2
    go_ret2
    rw [R1.out, R2.out]
    exact ⟨rfl, hS3.2⟩
  | false =>
    rw [h] at KC
    have hm : (z1, z2, z3, z4, z5) ∉ Co.az := fun q => by rw [Co.mem_az.1 q] at h; cases h
    have R1 : Hid (Co.numI (z1, z2, z3, z4, z5) = 0) := by
      show Co.numI _ = _
      unfold Co.numI
      rw [if_neg hm]
    have R2 := hide (decide_eq_false hm)
    clear hm h
    go_enter Tryd.func9, Tryd.ntmps9
    go_wp2_with fail
    rw [← HW.out, ← hgb.out]
    refine (KC.out _).mono ?_
    rintro e w1 ⟨rfl, hb⟩
    have HB1 := hide (HB0.out.trans (hb.mono HB0.out.size))
    clear hb c0 c1 c2 c3 c4 HC HB0
    go_wp2
    go_ret2
    rw [R1.out, R2.out]
    exact ⟨rfl, HB1.out⟩
end Go.Proofs.YtadfnllfeoidhaaDoor
