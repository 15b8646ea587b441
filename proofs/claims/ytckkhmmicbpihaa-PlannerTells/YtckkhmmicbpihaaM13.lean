/-
  The contract of the document's Check.
-/
import Derived.Test.YtckkhmmicbpihaaM12
namespace Go.Proofs.Ytckkhmmicbpihaa
open Go.RowKit
set_option linter.unusedVariables false
set_option linter.unusedSimpArgs false
set_option maxRecDepth 100000

set_option maxHeartbeats 4000000 in
theorem rcheck_c (s i l k m : Int) (w : World) :
    Calls Try.prog 7 #[.agg #[.int .i64 s, .int .i64 i, .int .i64 l, .int .i64 k, .int .i64 m]] w fun e w' => e = .returned (.bool (Co.okZ (s, i, l, k, m))) ∧ Below w.heap.size w w' := by
  have RS := hide rsam_c
  have RL := hide rlog_c
  have RI : Hid (∀ (w0 : World) g, Nd w0 (some ⟨g, 0, none⟩) (toI Co.sam) → Calls Try.prog 17 #[.slice (some ⟨g, 0, none⟩) 7 7, .int .i64 m] w0 fun e w' => e = .returned (.bool (Co.inZ Co.sam m)) ∧ Below w0.heap.size w0 w') := fun w0 g h => rin_c _ _ 7 m w0 h (by decide)
  have RJ : Hid (∀ (w0 : World) g, Nd w0 (some ⟨g, 0, none⟩) (toI Co.lgs) → Calls Try.prog 17 #[.slice (some ⟨g, 0, none⟩) 5 5, .int .i64 l] w0 fun e w' => e = .returned (.bool (Co.inZ Co.lgs l)) ∧ Below w0.heap.size w0 w') := fun w0 g h => rin_c _ _ 5 l w0 h (by decide)
  obtain ⟨W, hW⟩ : ∃ W, W = w.alloc (.cells #[.int .i64 s, .int .i64 i, .int .i64 l, .int .i64 k, .int .i64 m] 23) := ⟨_, rfl⟩
  have HB0 : Hid (Below w.heap.size w W) := by rw [hW]; exact below_alloc w _
  have HC : Hid (Cel W w.heap.size [.int .i64 s, .int .i64 i, .int .i64 l, .int .i64 k, .int .i64 m] 23) := by rw [hW]; exact Cel.new w _ _
  have HW := hide hW
  clear hW
  obtain ⟨gb, hgb⟩ : ∃ gb, Hid (gb = w.heap.size) := ⟨_, rfl⟩
  rw [← hgb.out] at HC
  have c0 := HC.out.cell 0 rfl
  have c1 := HC.out.cell 1 rfl
  have c2 := HC.out.cell 2 rfl
  have c3 := HC.out.cell 3 rfl
  have c4 := HC.out.cell 4 rfl
  by_cases h1 : s < 1
  · clear RS RL RI RJ
    have R : Hid (Co.okZ (s, i, l, k, m) = false) := by
      show Co.okZ (s, i, l, k, m) = false
      unfold Co.okZ
      simp only []
      rw [decide_eq_false (show ¬ 1 ≤ s by omega)]
      simp
    go_enter Try.func7, Try.ntmps7
    go_wp2
    rw [← HW.out, ← hgb.out]
    go_quiet (fail)
    go_wp2
    go_ret
    rw [R.out]
    exact ⟨rfl, below_drewN HB0.out _⟩
  by_cases h2 : 4 < s
  · clear RS RL RI RJ
    have R : Hid (Co.okZ (s, i, l, k, m) = false) := by
      show Co.okZ (s, i, l, k, m) = false
      unfold Co.okZ
      simp only []
      rw [decide_eq_false (show ¬ s ≤ 4 by omega)]
      simp
    go_enter Try.func7, Try.ntmps7
    go_wp2
    rw [← HW.out, ← hgb.out]
    go_quiet (fail)
    go_wp2
    go_ret
    rw [R.out]
    exact ⟨rfl, below_drewN HB0.out _⟩
  by_cases h3 : k < 1
  · clear RS RL RI RJ
    have R : Hid (Co.okZ (s, i, l, k, m) = false) := by
      show Co.okZ (s, i, l, k, m) = false
      unfold Co.okZ
      simp only []
      rw [decide_eq_false (show ¬ 1 ≤ k by omega)]
      simp
    go_enter Try.func7, Try.ntmps7
    go_wp2
    rw [← HW.out, ← hgb.out]
    go_quiet (fail)
    go_wp2
    go_ret
    rw [R.out]
    exact ⟨rfl, below_drewN HB0.out _⟩
  by_cases h4 : 3 < k
  · clear RS RL RI RJ
    have R : Hid (Co.okZ (s, i, l, k, m) = false) := by
      show Co.okZ (s, i, l, k, m) = false
      unfold Co.okZ
      simp only []
      rw [decide_eq_false (show ¬ k ≤ 3 by omega)]
      simp
    go_enter Try.func7, Try.ntmps7
    go_wp2
    rw [← HW.out, ← hgb.out]
    go_quiet (fail)
    go_wp2
    go_ret
    rw [R.out]
    exact ⟨rfl, below_drewN HB0.out _⟩
  have R0 : Hid (Co.okZ (s, i, l, k, m) = (Co.inZ Co.sam m && bif decide (s = 4) then decide (1 ≤ i) && (decide (i ≤ 3) && Co.inZ Co.lgs l) else decide (i = 0) && decide (l = 0))) := by
    show Co.okZ (s, i, l, k, m) = _
    unfold Co.okZ
    simp only []
    rw [decide_eq_true (show 1 ≤ s by omega), decide_eq_true (show s ≤ 4 by omega), decide_eq_true (show 1 ≤ k by omega), decide_eq_true (show k ≤ 3 by omega)]
    simp
  clear c0 c1 c2 c3 c4
  have d1 : decide (s < 1) = false := decide_eq_false h1
  have d2 : decide (4 < s) = false := decide_eq_false h2
  have d3 : decide (k < 1) = false := decide_eq_false h3
  have d4 : decide (3 < k) = false := decide_eq_false h4
  cases hIn : Co.inZ Co.sam m with
  | false =>
    have R : Hid (Co.okZ (s, i, l, k, m) = false) := by rw [R0.out, hIn]; exact (rfl : false = false)
    rw [hIn] at RI
    clear R0 RL RJ
    go_enter Try.func7, Try.ntmps7
    go_wp2
    rw [← HW.out, ← hgb.out]
    refine region_g [] (fun w' => Cel w' gb [.int .i64 s, .int .i64 i, .int .i64 l, .int .i64 k, .int .i64 m] 23 ∧ Below w.heap.size w w') (by kernel_rfl) ?_
    have hS : (fun w' => Cel w' gb [.int .i64 s, .int .i64 i, .int .i64 l, .int .i64 k, .int .i64 m] 23 ∧ Below w.heap.size w w') W.drew := ⟨HC.out.drew, HB0.out.drew⟩
    refine AnyG.take 0 (v := ?vv1) rfl (by kernel_rfl) (by kernel_rfl) (by kernel_rfl) (by kernel_rfl) (fun _ _ _ h => h) hS ?hy1 (by rfl) ?rest1
    case hy1 =>
      intro w0 h0
      go_simp
      try with_reducible rfl
    simp only [Act.put, List.getElem_toArray, List.getElem_cons_zero, List.getElem_cons_succ, List.setIfInBounds_toArray, List.set_cons_zero, List.set_cons_succ]
    refine AnyG.take 1 (v := ?vv2) rfl (by kernel_rfl) (by kernel_rfl) (by kernel_rfl) (by kernel_rfl) (fun _ _ _ h => h) hS ?hy2 (by rfl) ?rest2
    case hy2 =>
      intro w0 h0
      have c0 := h0.1.cell 0 rfl
      go_simp
      try with_reducible rfl
    simp only [Act.put, List.getElem_toArray, List.getElem_cons_zero, List.getElem_cons_succ, List.setIfInBounds_toArray, List.set_cons_zero, List.set_cons_succ]
    refine AnyG.take 2 (v := ?vv3) rfl (by kernel_rfl) (by kernel_rfl) (by kernel_rfl) (by kernel_rfl) (fun _ _ _ h => h) hS ?hy3 (by rfl) ?rest3
    case hy3 =>
      intro w0 h0
      go_simp
      try with_reducible rfl
    simp only [Act.put, List.getElem_toArray, List.getElem_cons_zero, List.getElem_cons_succ, List.setIfInBounds_toArray, List.set_cons_zero, List.set_cons_succ]
    refine AnyG.take 3 (v := ?vv4) rfl (by kernel_rfl) (by kernel_rfl) (by kernel_rfl) (by kernel_rfl) (fun _ _ _ h => h) hS ?hy4 (by rfl) ?rest4
    case hy4 =>
      intro w0 h0
      go_simp
      try with_reducible rfl
    simp only [Act.put, List.getElem_toArray, List.getElem_cons_zero, List.getElem_cons_succ, List.setIfInBounds_toArray, List.set_cons_zero, List.set_cons_succ]
    refine AnyG.take 4 (v := ?vv5) rfl (by kernel_rfl) (by kernel_rfl) (by kernel_rfl) (by kernel_rfl) (fun _ _ _ h => h) hS ?hy5 (by rfl) ?rest5
    case hy5 =>
      intro w0 h0
      go_simp
      try with_reducible rfl
    simp only [Act.put, List.getElem_toArray, List.getElem_cons_zero, List.getElem_cons_succ, List.setIfInBounds_toArray, List.set_cons_zero, List.set_cons_succ]
    refine AnyG.take 5 (v := ?vv6) rfl (by kernel_rfl) (by kernel_rfl) (by kernel_rfl) (by kernel_rfl) (fun _ _ _ h => h) hS ?hy6 (by rfl) ?rest6
    case hy6 =>
      intro w0 h0
      have c0 := h0.1.cell 0 rfl
      go_simp
      try with_reducible rfl
    simp only [Act.put, List.getElem_toArray, List.getElem_cons_zero, List.getElem_cons_succ, List.setIfInBounds_toArray, List.set_cons_zero, List.set_cons_succ]
    refine AnyG.take 6 (v := ?vv7) rfl (by kernel_rfl) (by kernel_rfl) (by kernel_rfl) (by kernel_rfl) (fun _ _ _ h => h) hS ?hy7 (by rfl) ?rest7
    case hy7 =>
      intro w0 h0
      go_simp
      try with_reducible rfl
    simp only [Act.put, List.getElem_toArray, List.getElem_cons_zero, List.getElem_cons_succ, List.setIfInBounds_toArray, List.set_cons_zero, List.set_cons_succ]
    refine AnyG.take 7 (v := ?vv8) rfl (by kernel_rfl) (by kernel_rfl) (by kernel_rfl) (by kernel_rfl) (fun _ _ _ h => h) hS ?hy8 (by rfl) ?rest8
    case hy8 =>
      intro w0 h0
      go_simp
      try with_reducible rfl
    simp only [Act.put, List.getElem_toArray, List.getElem_cons_zero, List.getElem_cons_succ, List.setIfInBounds_toArray, List.set_cons_zero, List.set_cons_succ]
    refine AnyG.take 8 (v := ?vv9) rfl (by kernel_rfl) (by kernel_rfl) (by kernel_rfl) (by kernel_rfl) (fun _ _ _ h => h) hS ?hy9 (by rfl) ?rest9
    case hy9 =>
      intro w0 h0
      go_simp
      try with_reducible rfl
    simp only [Act.put, List.getElem_toArray, List.getElem_cons_zero, List.getElem_cons_succ, List.setIfInBounds_toArray, List.set_cons_zero, List.set_cons_succ]
    refine AnyG.take 9 (v := ?vv10) rfl (by kernel_rfl) (by kernel_rfl) (by kernel_rfl) (by kernel_rfl) (fun _ _ _ h => h) hS ?hy10 (by rfl) ?rest10
    case hy10 =>
      intro w0 h0
      go_simp
      try with_reducible rfl
    simp only [Act.put, List.getElem_toArray, List.getElem_cons_zero, List.getElem_cons_succ, List.setIfInBounds_toArray, List.set_cons_zero, List.set_cons_succ]
    refine AnyG.take 10 (v := ?vv11) rfl (by kernel_rfl) (by kernel_rfl) (by kernel_rfl) (by kernel_rfl) (fun _ _ _ h => h) hS ?hy11 (by rfl) ?rest11
    case hy11 =>
      intro w0 h0
      have c0 := h0.1.cell 3 rfl
      go_simp
      try with_reducible rfl
    simp only [Act.put, List.getElem_toArray, List.getElem_cons_zero, List.getElem_cons_succ, List.setIfInBounds_toArray, List.set_cons_zero, List.set_cons_succ]
    refine AnyG.take 11 (v := ?vv12) rfl (by kernel_rfl) (by kernel_rfl) (by kernel_rfl) (by kernel_rfl) (fun _ _ _ h => h) hS ?hy12 (by rfl) ?rest12
    case hy12 =>
      intro w0 h0
      go_simp
      try with_reducible rfl
    simp only [Act.put, List.getElem_toArray, List.getElem_cons_zero, List.getElem_cons_succ, List.setIfInBounds_toArray, List.set_cons_zero, List.set_cons_succ]
    refine AnyG.take 12 (v := ?vv13) rfl (by kernel_rfl) (by kernel_rfl) (by kernel_rfl) (by kernel_rfl) (fun _ _ _ h => h) hS ?hy13 (by rfl) ?rest13
    case hy13 =>
      intro w0 h0
      go_simp
      try with_reducible rfl
    simp only [Act.put, List.getElem_toArray, List.getElem_cons_zero, List.getElem_cons_succ, List.setIfInBounds_toArray, List.set_cons_zero, List.set_cons_succ]
    refine AnyG.take 13 (v := ?vv14) rfl (by kernel_rfl) (by kernel_rfl) (by kernel_rfl) (by kernel_rfl) (fun _ _ _ h => h) hS ?hy14 (by rfl) ?rest14
    case hy14 =>
      intro w0 h0
      go_simp
      try with_reducible rfl
    simp only [Act.put, List.getElem_toArray, List.getElem_cons_zero, List.getElem_cons_succ, List.setIfInBounds_toArray, List.set_cons_zero, List.set_cons_succ]
    refine AnyG.take 14 (v := ?vv15) rfl (by kernel_rfl) (by kernel_rfl) (by kernel_rfl) (by kernel_rfl) (fun _ _ _ h => h) hS ?hy15 (by rfl) ?rest15
    case hy15 =>
      intro w0 h0
      go_simp
      try with_reducible rfl
    simp only [Act.put, List.getElem_toArray, List.getElem_cons_zero, List.getElem_cons_succ, List.setIfInBounds_toArray, List.set_cons_zero, List.set_cons_succ]
    refine AnyG.take 15 (v := ?vv16) rfl (by kernel_rfl) (by kernel_rfl) (by kernel_rfl) (by kernel_rfl) (fun _ _ _ h => h) hS ?hy16 (by rfl) ?rest16
    case hy16 =>
      intro w0 h0
      have c0 := h0.1.cell 3 rfl
      go_simp
      try with_reducible rfl
    simp only [Act.put, List.getElem_toArray, List.getElem_cons_zero, List.getElem_cons_succ, List.setIfInBounds_toArray, List.set_cons_zero, List.set_cons_succ]
    refine AnyG.take 16 (v := ?vv17) rfl (by kernel_rfl) (by kernel_rfl) (by kernel_rfl) (by kernel_rfl) (fun _ _ _ h => h) hS ?hy17 (by rfl) ?rest17
    case hy17 =>
      intro w0 h0
      go_simp
      try with_reducible rfl
    simp only [Act.put, List.getElem_toArray, List.getElem_cons_zero, List.getElem_cons_succ, List.setIfInBounds_toArray, List.set_cons_zero, List.set_cons_succ]
    refine AnyG.take 17 (v := ?vv18) rfl (by kernel_rfl) (by kernel_rfl) (by kernel_rfl) (by kernel_rfl) (fun _ _ _ h => h) hS ?hy18 (by rfl) ?rest18
    case hy18 =>
      intro w0 h0
      go_simp
      try with_reducible rfl
    simp only [Act.put, List.getElem_toArray, List.getElem_cons_zero, List.getElem_cons_succ, List.setIfInBounds_toArray, List.set_cons_zero, List.set_cons_succ]
    refine AnyG.take 18 (v := ?vv19) rfl (by kernel_rfl) (by kernel_rfl) (by kernel_rfl) (by kernel_rfl) (fun _ _ _ h => h) hS ?hy19 (by rfl) ?rest19
    case hy19 =>
      intro w0 h0
      go_simp
      try with_reducible rfl
    simp only [Act.put, List.getElem_toArray, List.getElem_cons_zero, List.getElem_cons_succ, List.setIfInBounds_toArray, List.set_cons_zero, List.set_cons_succ]
    refine AnyG.take 20 (v := ?vv20) rfl (by kernel_rfl) (by kernel_rfl) (by kernel_rfl) (by kernel_rfl) (fun _ _ _ h => h) hS ?hy20 (by rfl) ?rest20
    case hy20 =>
      intro w0 h0
      go_simp
      try with_reducible rfl
    simp only [Act.put, List.getElem_toArray, List.getElem_cons_zero, List.getElem_cons_succ, List.setIfInBounds_toArray, List.set_cons_zero, List.set_cons_succ]
    refine AnyG.take 21 (v := ?vv21) rfl (by kernel_rfl) (by kernel_rfl) (by kernel_rfl) (by kernel_rfl) (fun _ _ _ h => h) hS ?hy21 (by rfl) ?rest21
    case hy21 =>
      intro w0 h0
      have c0 := h0.1.cell 4 rfl
      go_simp
      try with_reducible rfl
    simp only [Act.put, List.getElem_toArray, List.getElem_cons_zero, List.getElem_cons_succ, List.setIfInBounds_toArray, List.set_cons_zero, List.set_cons_succ]
    refine AnyG.one 19 (by kernel_rfl) rfl ?_
    intro K hK
    go_simp
    refine (RS.out _).mono ?_
    rintro e w1 ⟨g, rfl, hN, hB⟩
    have hS1 : (fun w' => Cel w' gb [.int .i64 s, .int .i64 i, .int .i64 l, .int .i64 k, .int .i64 m] 23 ∧ Below w.heap.size w w') _ := ⟨hS.1.kept hB, hS.2.trans (hB.mono hS.2.size)⟩
    have CI := hide (RI.out _ _ hN)
    clear hB hN hS
    refine hK.out _ _ (fun _ => hS1) ?_
    clear hK K
    try simp only [Act.put, List.getElem_toArray, List.getElem_cons_zero, List.getElem_cons_succ, List.setIfInBounds_toArray, List.set_cons_zero, List.set_cons_succ]
    refine AnyG.one 22 (by kernel_rfl) rfl ?_
    intro K hK
    go_simp
    refine (CI.out).mono ?_
    rintro e w2 ⟨rfl, hB⟩
    have hS2 : (fun w' => Cel w' gb [.int .i64 s, .int .i64 i, .int .i64 l, .int .i64 k, .int .i64 m] 23 ∧ Below w.heap.size w w') _ := ⟨hS1.1.kept hB, hS1.2.trans (hB.mono hS1.2.size)⟩
    clear hB hS1 CI
    refine hK.out _ _ (fun _ => hS2) ?_
    clear hK K
    try simp only [Act.put, List.getElem_toArray, List.getElem_cons_zero, List.getElem_cons_succ, List.setIfInBounds_toArray, List.set_cons_zero, List.set_cons_succ]
    refine AnyG.take 23 (v := ?vv22) rfl (by kernel_rfl) (by kernel_rfl) (by kernel_rfl) (by kernel_rfl) (fun _ _ _ h => h) hS2 ?hy22 (by rfl) ?rest22
    case hy22 =>
      intro w0 h0
      have q := hIn
      go_simp
      try with_reducible rfl
    simp only [Act.put, List.getElem_toArray, List.getElem_cons_zero, List.getElem_cons_succ, List.setIfInBounds_toArray, List.set_cons_zero, List.set_cons_succ]
    refine AnyG.take 24 (v := ?vv23) rfl (by kernel_rfl) (by kernel_rfl) (by kernel_rfl) (by kernel_rfl) (fun _ _ _ h => h) hS2 ?hy23 (by rfl) ?rest23
    case hy23 =>
      intro w0 h0
      have q := hIn
      go_simp
      try with_reducible rfl
    simp only [Act.put, List.getElem_toArray, List.getElem_cons_zero, List.getElem_cons_succ, List.setIfInBounds_toArray, List.set_cons_zero, List.set_cons_succ]
    refine AnyG.done (by kernel_rfl) ?_ _
    go_wp2
    go_ret
    rw [R.out]
    exact ⟨rfl, hS2.2⟩
  | true =>
    rw [hIn] at R0 RI
    by_cases h5 : s = 4
    · subst h5
      have R1 : Hid (Co.okZ (4, i, l, k, m) = (decide (1 ≤ i) && (decide (i ≤ 3) && Co.inZ Co.lgs l))) := R0.out.trans (by rw [decide_eq_true (rfl : (4 : Int) = 4)]; rfl)
      clear R0
      go_enter Try.func7, Try.ntmps7
      go_wp2
      rw [← HW.out, ← hgb.out]
      refine region_g [] (fun w' => Cel w' gb [.int .i64 (4 : Int), .int .i64 i, .int .i64 l, .int .i64 k, .int .i64 m] 23 ∧ Below w.heap.size w w') (by kernel_rfl) ?_
      have hS : (fun w' => Cel w' gb [.int .i64 (4 : Int), .int .i64 i, .int .i64 l, .int .i64 k, .int .i64 m] 23 ∧ Below w.heap.size w w') W.drew := ⟨HC.out.drew, HB0.out.drew⟩
      refine AnyG.take 0 (v := ?vv24) rfl (by kernel_rfl) (by kernel_rfl) (by kernel_rfl) (by kernel_rfl) (fun _ _ _ h => h) hS ?hy24 (by rfl) ?rest24
      case hy24 =>
        intro w0 h0
        go_simp
        try with_reducible rfl
      simp only [Act.put, List.getElem_toArray, List.getElem_cons_zero, List.getElem_cons_succ, List.setIfInBounds_toArray, List.set_cons_zero, List.set_cons_succ]
      refine AnyG.take 1 (v := ?vv25) rfl (by kernel_rfl) (by kernel_rfl) (by kernel_rfl) (by kernel_rfl) (fun _ _ _ h => h) hS ?hy25 (by rfl) ?rest25
      case hy25 =>
        intro w0 h0
        have c0 := h0.1.cell 0 rfl
        go_simp
        try with_reducible rfl
      simp only [Act.put, List.getElem_toArray, List.getElem_cons_zero, List.getElem_cons_succ, List.setIfInBounds_toArray, List.set_cons_zero, List.set_cons_succ]
      refine AnyG.take 2 (v := ?vv26) rfl (by kernel_rfl) (by kernel_rfl) (by kernel_rfl) (by kernel_rfl) (fun _ _ _ h => h) hS ?hy26 (by rfl) ?rest26
      case hy26 =>
        intro w0 h0
        go_simp
        try with_reducible rfl
      simp only [Act.put, List.getElem_toArray, List.getElem_cons_zero, List.getElem_cons_succ, List.setIfInBounds_toArray, List.set_cons_zero, List.set_cons_succ]
      refine AnyG.take 3 (v := ?vv27) rfl (by kernel_rfl) (by kernel_rfl) (by kernel_rfl) (by kernel_rfl) (fun _ _ _ h => h) hS ?hy27 (by rfl) ?rest27
      case hy27 =>
        intro w0 h0
        go_simp
        try with_reducible rfl
      simp only [Act.put, List.getElem_toArray, List.getElem_cons_zero, List.getElem_cons_succ, List.setIfInBounds_toArray, List.set_cons_zero, List.set_cons_succ]
      refine AnyG.take 4 (v := ?vv28) rfl (by kernel_rfl) (by kernel_rfl) (by kernel_rfl) (by kernel_rfl) (fun _ _ _ h => h) hS ?hy28 (by rfl) ?rest28
      case hy28 =>
        intro w0 h0
        go_simp
        try with_reducible rfl
      simp only [Act.put, List.getElem_toArray, List.getElem_cons_zero, List.getElem_cons_succ, List.setIfInBounds_toArray, List.set_cons_zero, List.set_cons_succ]
      refine AnyG.take 5 (v := ?vv29) rfl (by kernel_rfl) (by kernel_rfl) (by kernel_rfl) (by kernel_rfl) (fun _ _ _ h => h) hS ?hy29 (by rfl) ?rest29
      case hy29 =>
        intro w0 h0
        have c0 := h0.1.cell 0 rfl
        go_simp
        try with_reducible rfl
      simp only [Act.put, List.getElem_toArray, List.getElem_cons_zero, List.getElem_cons_succ, List.setIfInBounds_toArray, List.set_cons_zero, List.set_cons_succ]
      refine AnyG.take 6 (v := ?vv30) rfl (by kernel_rfl) (by kernel_rfl) (by kernel_rfl) (by kernel_rfl) (fun _ _ _ h => h) hS ?hy30 (by rfl) ?rest30
      case hy30 =>
        intro w0 h0
        go_simp
        try with_reducible rfl
      simp only [Act.put, List.getElem_toArray, List.getElem_cons_zero, List.getElem_cons_succ, List.setIfInBounds_toArray, List.set_cons_zero, List.set_cons_succ]
      refine AnyG.take 7 (v := ?vv31) rfl (by kernel_rfl) (by kernel_rfl) (by kernel_rfl) (by kernel_rfl) (fun _ _ _ h => h) hS ?hy31 (by rfl) ?rest31
      case hy31 =>
        intro w0 h0
        go_simp
        try with_reducible rfl
      simp only [Act.put, List.getElem_toArray, List.getElem_cons_zero, List.getElem_cons_succ, List.setIfInBounds_toArray, List.set_cons_zero, List.set_cons_succ]
      refine AnyG.take 8 (v := ?vv32) rfl (by kernel_rfl) (by kernel_rfl) (by kernel_rfl) (by kernel_rfl) (fun _ _ _ h => h) hS ?hy32 (by rfl) ?rest32
      case hy32 =>
        intro w0 h0
        go_simp
        try with_reducible rfl
      simp only [Act.put, List.getElem_toArray, List.getElem_cons_zero, List.getElem_cons_succ, List.setIfInBounds_toArray, List.set_cons_zero, List.set_cons_succ]
      refine AnyG.take 9 (v := ?vv33) rfl (by kernel_rfl) (by kernel_rfl) (by kernel_rfl) (by kernel_rfl) (fun _ _ _ h => h) hS ?hy33 (by rfl) ?rest33
      case hy33 =>
        intro w0 h0
        go_simp
        try with_reducible rfl
      simp only [Act.put, List.getElem_toArray, List.getElem_cons_zero, List.getElem_cons_succ, List.setIfInBounds_toArray, List.set_cons_zero, List.set_cons_succ]
      refine AnyG.take 10 (v := ?vv34) rfl (by kernel_rfl) (by kernel_rfl) (by kernel_rfl) (by kernel_rfl) (fun _ _ _ h => h) hS ?hy34 (by rfl) ?rest34
      case hy34 =>
        intro w0 h0
        have c0 := h0.1.cell 3 rfl
        go_simp
        try with_reducible rfl
      simp only [Act.put, List.getElem_toArray, List.getElem_cons_zero, List.getElem_cons_succ, List.setIfInBounds_toArray, List.set_cons_zero, List.set_cons_succ]
      refine AnyG.take 11 (v := ?vv35) rfl (by kernel_rfl) (by kernel_rfl) (by kernel_rfl) (by kernel_rfl) (fun _ _ _ h => h) hS ?hy35 (by rfl) ?rest35
      case hy35 =>
        intro w0 h0
        go_simp
        try with_reducible rfl
      simp only [Act.put, List.getElem_toArray, List.getElem_cons_zero, List.getElem_cons_succ, List.setIfInBounds_toArray, List.set_cons_zero, List.set_cons_succ]
      refine AnyG.take 12 (v := ?vv36) rfl (by kernel_rfl) (by kernel_rfl) (by kernel_rfl) (by kernel_rfl) (fun _ _ _ h => h) hS ?hy36 (by rfl) ?rest36
      case hy36 =>
        intro w0 h0
        go_simp
        try with_reducible rfl
      simp only [Act.put, List.getElem_toArray, List.getElem_cons_zero, List.getElem_cons_succ, List.setIfInBounds_toArray, List.set_cons_zero, List.set_cons_succ]
      refine AnyG.take 13 (v := ?vv37) rfl (by kernel_rfl) (by kernel_rfl) (by kernel_rfl) (by kernel_rfl) (fun _ _ _ h => h) hS ?hy37 (by rfl) ?rest37
      case hy37 =>
        intro w0 h0
        go_simp
        try with_reducible rfl
      simp only [Act.put, List.getElem_toArray, List.getElem_cons_zero, List.getElem_cons_succ, List.setIfInBounds_toArray, List.set_cons_zero, List.set_cons_succ]
      refine AnyG.take 14 (v := ?vv38) rfl (by kernel_rfl) (by kernel_rfl) (by kernel_rfl) (by kernel_rfl) (fun _ _ _ h => h) hS ?hy38 (by rfl) ?rest38
      case hy38 =>
        intro w0 h0
        go_simp
        try with_reducible rfl
      simp only [Act.put, List.getElem_toArray, List.getElem_cons_zero, List.getElem_cons_succ, List.setIfInBounds_toArray, List.set_cons_zero, List.set_cons_succ]
      refine AnyG.take 15 (v := ?vv39) rfl (by kernel_rfl) (by kernel_rfl) (by kernel_rfl) (by kernel_rfl) (fun _ _ _ h => h) hS ?hy39 (by rfl) ?rest39
      case hy39 =>
        intro w0 h0
        have c0 := h0.1.cell 3 rfl
        go_simp
        try with_reducible rfl
      simp only [Act.put, List.getElem_toArray, List.getElem_cons_zero, List.getElem_cons_succ, List.setIfInBounds_toArray, List.set_cons_zero, List.set_cons_succ]
      refine AnyG.take 16 (v := ?vv40) rfl (by kernel_rfl) (by kernel_rfl) (by kernel_rfl) (by kernel_rfl) (fun _ _ _ h => h) hS ?hy40 (by rfl) ?rest40
      case hy40 =>
        intro w0 h0
        go_simp
        try with_reducible rfl
      simp only [Act.put, List.getElem_toArray, List.getElem_cons_zero, List.getElem_cons_succ, List.setIfInBounds_toArray, List.set_cons_zero, List.set_cons_succ]
      refine AnyG.take 17 (v := ?vv41) rfl (by kernel_rfl) (by kernel_rfl) (by kernel_rfl) (by kernel_rfl) (fun _ _ _ h => h) hS ?hy41 (by rfl) ?rest41
      case hy41 =>
        intro w0 h0
        go_simp
        try with_reducible rfl
      simp only [Act.put, List.getElem_toArray, List.getElem_cons_zero, List.getElem_cons_succ, List.setIfInBounds_toArray, List.set_cons_zero, List.set_cons_succ]
      refine AnyG.take 18 (v := ?vv42) rfl (by kernel_rfl) (by kernel_rfl) (by kernel_rfl) (by kernel_rfl) (fun _ _ _ h => h) hS ?hy42 (by rfl) ?rest42
      case hy42 =>
        intro w0 h0
        go_simp
        try with_reducible rfl
      simp only [Act.put, List.getElem_toArray, List.getElem_cons_zero, List.getElem_cons_succ, List.setIfInBounds_toArray, List.set_cons_zero, List.set_cons_succ]
      refine AnyG.take 20 (v := ?vv43) rfl (by kernel_rfl) (by kernel_rfl) (by kernel_rfl) (by kernel_rfl) (fun _ _ _ h => h) hS ?hy43 (by rfl) ?rest43
      case hy43 =>
        intro w0 h0
        go_simp
        try with_reducible rfl
      simp only [Act.put, List.getElem_toArray, List.getElem_cons_zero, List.getElem_cons_succ, List.setIfInBounds_toArray, List.set_cons_zero, List.set_cons_succ]
      refine AnyG.take 21 (v := ?vv44) rfl (by kernel_rfl) (by kernel_rfl) (by kernel_rfl) (by kernel_rfl) (fun _ _ _ h => h) hS ?hy44 (by rfl) ?rest44
      case hy44 =>
        intro w0 h0
        have c0 := h0.1.cell 4 rfl
        go_simp
        try with_reducible rfl
      simp only [Act.put, List.getElem_toArray, List.getElem_cons_zero, List.getElem_cons_succ, List.setIfInBounds_toArray, List.set_cons_zero, List.set_cons_succ]
      refine AnyG.one 19 (by kernel_rfl) rfl ?_
      intro K hK
      go_simp
      refine (RS.out _).mono ?_
      rintro e w1 ⟨g, rfl, hN, hB⟩
      have hS1 : (fun w' => Cel w' gb [.int .i64 (4 : Int), .int .i64 i, .int .i64 l, .int .i64 k, .int .i64 m] 23 ∧ Below w.heap.size w w') _ := ⟨hS.1.kept hB, hS.2.trans (hB.mono hS.2.size)⟩
      have CI := hide (RI.out _ _ hN)
      clear hB hN hS
      refine hK.out _ _ (fun _ => hS1) ?_
      clear hK K
      try simp only [Act.put, List.getElem_toArray, List.getElem_cons_zero, List.getElem_cons_succ, List.setIfInBounds_toArray, List.set_cons_zero, List.set_cons_succ]
      refine AnyG.one 22 (by kernel_rfl) rfl ?_
      intro K hK
      go_simp
      refine (CI.out).mono ?_
      rintro e w2 ⟨rfl, hB⟩
      have hS2 : (fun w' => Cel w' gb [.int .i64 (4 : Int), .int .i64 i, .int .i64 l, .int .i64 k, .int .i64 m] 23 ∧ Below w.heap.size w w') _ := ⟨hS1.1.kept hB, hS1.2.trans (hB.mono hS1.2.size)⟩
      clear hB hS1 CI
      refine hK.out _ _ (fun _ => hS2) ?_
      clear hK K
      try simp only [Act.put, List.getElem_toArray, List.getElem_cons_zero, List.getElem_cons_succ, List.setIfInBounds_toArray, List.set_cons_zero, List.set_cons_succ]
      refine AnyG.take 23 (v := ?vv45) rfl (by kernel_rfl) (by kernel_rfl) (by kernel_rfl) (by kernel_rfl) (fun _ _ _ h => h) hS2 ?hy45 (by rfl) ?rest45
      case hy45 =>
        intro w0 h0
        have q := hIn
        go_simp
        try with_reducible rfl
      simp only [Act.put, List.getElem_toArray, List.getElem_cons_zero, List.getElem_cons_succ, List.setIfInBounds_toArray, List.set_cons_zero, List.set_cons_succ]
      refine AnyG.take 24 (v := ?vv46) rfl (by kernel_rfl) (by kernel_rfl) (by kernel_rfl) (by kernel_rfl) (fun _ _ _ h => h) hS2 ?hy46 (by rfl) ?rest46
      case hy46 =>
        intro w0 h0
        have q := hIn
        go_simp
        try with_reducible rfl
      simp only [Act.put, List.getElem_toArray, List.getElem_cons_zero, List.getElem_cons_succ, List.setIfInBounds_toArray, List.set_cons_zero, List.set_cons_succ]
      refine AnyG.done (by kernel_rfl) ?_ _
      have c0 := hS2.1.cell 0 rfl
      have c1 := hS2.1.cell 1 rfl
      have c2 := hS2.1.cell 2 rfl
      by_cases h6 : i < 1
      · have R : Hid (Co.okZ (4, i, l, k, m) = false) := R1.out.trans (by rw [decide_eq_false (show ¬ 1 ≤ i by omega)]; rfl)
        have d5 : decide (1 ≤ i) = false := decide_eq_false (by omega)
        go_wp2
        go_quiet (fail)
        go_wp2
        go_ret
        rw [R.out]
        exact ⟨rfl, below_drewN hS2.2 _⟩
      by_cases h7 : 3 < i
      · have R : Hid (Co.okZ (4, i, l, k, m) = false) := R1.out.trans (by rw [decide_eq_false (show ¬ i ≤ 3 by omega)]; simp)
        have d5 : decide (1 ≤ i) = true := decide_eq_true (by omega)
        have d6 : decide (i ≤ 3) = false := decide_eq_false (by omega)
        go_wp2
        go_quiet (fail)
        go_wp2
        go_ret
        rw [R.out]
        exact ⟨rfl, below_drewN hS2.2 _⟩
      have R : Hid (Co.okZ (4, i, l, k, m) = Co.inZ Co.lgs l) := R1.out.trans (by rw [decide_eq_true (show 1 ≤ i by omega), decide_eq_true (show i ≤ 3 by omega)]; simp)
      obtain ⟨bb, hbb⟩ : ∃ bb, Hid (Co.inZ Co.lgs l = bb) := ⟨_, rfl⟩
      rw [hbb.out] at RJ R
      clear R1
      have d5 : decide (1 ≤ i) = true := decide_eq_true (by omega)
      have d6 : decide (i ≤ 3) = true := decide_eq_true (by omega)
      go_wp2
      refine region_g [] (fun w' => Cel w' gb [.int .i64 (4 : Int), .int .i64 i, .int .i64 l, .int .i64 k, .int .i64 m] 23 ∧ Below w.heap.size w w') (by kernel_rfl) ?_
      have hS : (fun w' => Cel w' gb [.int .i64 (4 : Int), .int .i64 i, .int .i64 l, .int .i64 k, .int .i64 m] 23 ∧ Below w.heap.size w w') w2.drew := ⟨hS2.1.drew, hS2.2.drew⟩
      refine AnyG.take 0 (v := ?vv47) rfl (by kernel_rfl) (by kernel_rfl) (by kernel_rfl) (by kernel_rfl) (fun _ _ _ h => h) hS ?hy47 (by rfl) ?rest47
      case hy47 =>
        intro w0 h0
        go_simp
        try with_reducible rfl
      simp only [Act.put, List.getElem_toArray, List.getElem_cons_zero, List.getElem_cons_succ, List.setIfInBounds_toArray, List.set_cons_zero, List.set_cons_succ]
      refine AnyG.take 1 (v := ?vv48) rfl (by kernel_rfl) (by kernel_rfl) (by kernel_rfl) (by kernel_rfl) (fun _ _ _ h => h) hS ?hy48 (by rfl) ?rest48
      case hy48 =>
        intro w0 h0
        have c0 := h0.1.cell 1 rfl
        go_simp
        try with_reducible rfl
      simp only [Act.put, List.getElem_toArray, List.getElem_cons_zero, List.getElem_cons_succ, List.setIfInBounds_toArray, List.set_cons_zero, List.set_cons_succ]
      refine AnyG.take 2 (v := ?vv49) rfl (by kernel_rfl) (by kernel_rfl) (by kernel_rfl) (by kernel_rfl) (fun _ _ _ h => h) hS ?hy49 (by rfl) ?rest49
      case hy49 =>
        intro w0 h0
        go_simp
        try with_reducible rfl
      simp only [Act.put, List.getElem_toArray, List.getElem_cons_zero, List.getElem_cons_succ, List.setIfInBounds_toArray, List.set_cons_zero, List.set_cons_succ]
      refine AnyG.take 3 (v := ?vv50) rfl (by kernel_rfl) (by kernel_rfl) (by kernel_rfl) (by kernel_rfl) (fun _ _ _ h => h) hS ?hy50 (by rfl) ?rest50
      case hy50 =>
        intro w0 h0
        go_simp
        try with_reducible rfl
      simp only [Act.put, List.getElem_toArray, List.getElem_cons_zero, List.getElem_cons_succ, List.setIfInBounds_toArray, List.set_cons_zero, List.set_cons_succ]
      refine AnyG.take 4 (v := ?vv51) rfl (by kernel_rfl) (by kernel_rfl) (by kernel_rfl) (by kernel_rfl) (fun _ _ _ h => h) hS ?hy51 (by rfl) ?rest51
      case hy51 =>
        intro w0 h0
        go_simp
        try with_reducible rfl
      simp only [Act.put, List.getElem_toArray, List.getElem_cons_zero, List.getElem_cons_succ, List.setIfInBounds_toArray, List.set_cons_zero, List.set_cons_succ]
      refine AnyG.take 5 (v := ?vv52) rfl (by kernel_rfl) (by kernel_rfl) (by kernel_rfl) (by kernel_rfl) (fun _ _ _ h => h) hS ?hy52 (by rfl) ?rest52
      case hy52 =>
        intro w0 h0
        have c0 := h0.1.cell 1 rfl
        go_simp
        try with_reducible rfl
      simp only [Act.put, List.getElem_toArray, List.getElem_cons_zero, List.getElem_cons_succ, List.setIfInBounds_toArray, List.set_cons_zero, List.set_cons_succ]
      refine AnyG.take 6 (v := ?vv53) rfl (by kernel_rfl) (by kernel_rfl) (by kernel_rfl) (by kernel_rfl) (fun _ _ _ h => h) hS ?hy53 (by rfl) ?rest53
      case hy53 =>
        intro w0 h0
        go_simp
        try with_reducible rfl
      simp only [Act.put, List.getElem_toArray, List.getElem_cons_zero, List.getElem_cons_succ, List.setIfInBounds_toArray, List.set_cons_zero, List.set_cons_succ]
      refine AnyG.take 7 (v := ?vv54) rfl (by kernel_rfl) (by kernel_rfl) (by kernel_rfl) (by kernel_rfl) (fun _ _ _ h => h) hS ?hy54 (by rfl) ?rest54
      case hy54 =>
        intro w0 h0
        go_simp
        try with_reducible rfl
      simp only [Act.put, List.getElem_toArray, List.getElem_cons_zero, List.getElem_cons_succ, List.setIfInBounds_toArray, List.set_cons_zero, List.set_cons_succ]
      refine AnyG.take 8 (v := ?vv55) rfl (by kernel_rfl) (by kernel_rfl) (by kernel_rfl) (by kernel_rfl) (fun _ _ _ h => h) hS ?hy55 (by rfl) ?rest55
      case hy55 =>
        intro w0 h0
        go_simp
        try with_reducible rfl
      simp only [Act.put, List.getElem_toArray, List.getElem_cons_zero, List.getElem_cons_succ, List.setIfInBounds_toArray, List.set_cons_zero, List.set_cons_succ]
      refine AnyG.take 10 (v := ?vv56) rfl (by kernel_rfl) (by kernel_rfl) (by kernel_rfl) (by kernel_rfl) (fun _ _ _ h => h) hS ?hy56 (by rfl) ?rest56
      case hy56 =>
        intro w0 h0
        go_simp
        try with_reducible rfl
      simp only [Act.put, List.getElem_toArray, List.getElem_cons_zero, List.getElem_cons_succ, List.setIfInBounds_toArray, List.set_cons_zero, List.set_cons_succ]
      refine AnyG.take 11 (v := ?vv57) rfl (by kernel_rfl) (by kernel_rfl) (by kernel_rfl) (by kernel_rfl) (fun _ _ _ h => h) hS ?hy57 (by rfl) ?rest57
      case hy57 =>
        intro w0 h0
        have c0 := h0.1.cell 2 rfl
        go_simp
        try with_reducible rfl
      simp only [Act.put, List.getElem_toArray, List.getElem_cons_zero, List.getElem_cons_succ, List.setIfInBounds_toArray, List.set_cons_zero, List.set_cons_succ]
      refine AnyG.one 9 (by kernel_rfl) rfl ?_
      intro K hK
      go_simp
      refine (RL.out _).mono ?_
      rintro e w3 ⟨g2, rfl, hN, hB⟩
      have hS3 : (fun w' => Cel w' gb [.int .i64 (4 : Int), .int .i64 i, .int .i64 l, .int .i64 k, .int .i64 m] 23 ∧ Below w.heap.size w w') _ := ⟨hS.1.kept hB, hS.2.trans (hB.mono hS.2.size)⟩
      have CI := hide (RJ.out _ _ hN)
      clear hB hN hS
      refine hK.out _ _ (fun _ => hS3) ?_
      clear hK K
      try simp only [Act.put, List.getElem_toArray, List.getElem_cons_zero, List.getElem_cons_succ, List.setIfInBounds_toArray, List.set_cons_zero, List.set_cons_succ]
      refine AnyG.one 12 (by kernel_rfl) rfl ?_
      intro K hK
      go_simp
      refine (CI.out).mono ?_
      rintro e w4 ⟨rfl, hB⟩
      have hS4 : (fun w' => Cel w' gb [.int .i64 (4 : Int), .int .i64 i, .int .i64 l, .int .i64 k, .int .i64 m] 23 ∧ Below w.heap.size w w') _ := ⟨hS3.1.kept hB, hS3.2.trans (hB.mono hS3.2.size)⟩
      clear hB hS3 CI
      refine hK.out _ _ (fun _ => hS4) ?_
      clear hK K
      try simp only [Act.put, List.getElem_toArray, List.getElem_cons_zero, List.getElem_cons_succ, List.setIfInBounds_toArray, List.set_cons_zero, List.set_cons_succ]
      refine AnyG.take 13 (v := ?vv58) rfl (by kernel_rfl) (by kernel_rfl) (by kernel_rfl) (by kernel_rfl) (fun _ _ _ h => h) hS4 ?hy58 (by rfl) ?rest58
      case hy58 =>
        intro w0 h0
        go_simp
        try with_reducible rfl
      simp only [Act.put, List.getElem_toArray, List.getElem_cons_zero, List.getElem_cons_succ, List.setIfInBounds_toArray, List.set_cons_zero, List.set_cons_succ]
      refine AnyG.take 14 (v := ?vv59) rfl (by kernel_rfl) (by kernel_rfl) (by kernel_rfl) (by kernel_rfl) (fun _ _ _ h => h) hS4 ?hy59 (by rfl) ?rest59
      case hy59 =>
        intro w0 h0
        go_simp
        try with_reducible rfl
      simp only [Act.put, List.getElem_toArray, List.getElem_cons_zero, List.getElem_cons_succ, List.setIfInBounds_toArray, List.set_cons_zero, List.set_cons_succ]
      refine AnyG.done (by kernel_rfl) ?_ _
      go_wp2
      go_ret
      rw [R.out]
      exact ⟨rfl, hS4.2⟩
    · have R1 : Hid (Co.okZ (s, i, l, k, m) = (decide (i = 0) && decide (l = 0))) := R0.out.trans (by rw [decide_eq_false h5]; rfl)
      have h5' : (s == 4) = false := by simp [h5]
      clear R0
      go_enter Try.func7, Try.ntmps7
      go_wp2
      rw [← HW.out, ← hgb.out]
      refine region_g [] (fun w' => Cel w' gb [.int .i64 s, .int .i64 i, .int .i64 l, .int .i64 k, .int .i64 m] 23 ∧ Below w.heap.size w w') (by kernel_rfl) ?_
      have hS : (fun w' => Cel w' gb [.int .i64 s, .int .i64 i, .int .i64 l, .int .i64 k, .int .i64 m] 23 ∧ Below w.heap.size w w') W.drew := ⟨HC.out.drew, HB0.out.drew⟩
      refine AnyG.take 0 (v := ?vv60) rfl (by kernel_rfl) (by kernel_rfl) (by kernel_rfl) (by kernel_rfl) (fun _ _ _ h => h) hS ?hy60 (by rfl) ?rest60
      case hy60 =>
        intro w0 h0
        go_simp
        try with_reducible rfl
      simp only [Act.put, List.getElem_toArray, List.getElem_cons_zero, List.getElem_cons_succ, List.setIfInBounds_toArray, List.set_cons_zero, List.set_cons_succ]
      refine AnyG.take 1 (v := ?vv61) rfl (by kernel_rfl) (by kernel_rfl) (by kernel_rfl) (by kernel_rfl) (fun _ _ _ h => h) hS ?hy61 (by rfl) ?rest61
      case hy61 =>
        intro w0 h0
        have c0 := h0.1.cell 0 rfl
        go_simp
        try with_reducible rfl
      simp only [Act.put, List.getElem_toArray, List.getElem_cons_zero, List.getElem_cons_succ, List.setIfInBounds_toArray, List.set_cons_zero, List.set_cons_succ]
      refine AnyG.take 2 (v := ?vv62) rfl (by kernel_rfl) (by kernel_rfl) (by kernel_rfl) (by kernel_rfl) (fun _ _ _ h => h) hS ?hy62 (by rfl) ?rest62
      case hy62 =>
        intro w0 h0
        go_simp
        try with_reducible rfl
      simp only [Act.put, List.getElem_toArray, List.getElem_cons_zero, List.getElem_cons_succ, List.setIfInBounds_toArray, List.set_cons_zero, List.set_cons_succ]
      refine AnyG.take 3 (v := ?vv63) rfl (by kernel_rfl) (by kernel_rfl) (by kernel_rfl) (by kernel_rfl) (fun _ _ _ h => h) hS ?hy63 (by rfl) ?rest63
      case hy63 =>
        intro w0 h0
        go_simp
        try with_reducible rfl
      simp only [Act.put, List.getElem_toArray, List.getElem_cons_zero, List.getElem_cons_succ, List.setIfInBounds_toArray, List.set_cons_zero, List.set_cons_succ]
      refine AnyG.take 4 (v := ?vv64) rfl (by kernel_rfl) (by kernel_rfl) (by kernel_rfl) (by kernel_rfl) (fun _ _ _ h => h) hS ?hy64 (by rfl) ?rest64
      case hy64 =>
        intro w0 h0
        go_simp
        try with_reducible rfl
      simp only [Act.put, List.getElem_toArray, List.getElem_cons_zero, List.getElem_cons_succ, List.setIfInBounds_toArray, List.set_cons_zero, List.set_cons_succ]
      refine AnyG.take 5 (v := ?vv65) rfl (by kernel_rfl) (by kernel_rfl) (by kernel_rfl) (by kernel_rfl) (fun _ _ _ h => h) hS ?hy65 (by rfl) ?rest65
      case hy65 =>
        intro w0 h0
        have c0 := h0.1.cell 0 rfl
        go_simp
        try with_reducible rfl
      simp only [Act.put, List.getElem_toArray, List.getElem_cons_zero, List.getElem_cons_succ, List.setIfInBounds_toArray, List.set_cons_zero, List.set_cons_succ]
      refine AnyG.take 6 (v := ?vv66) rfl (by kernel_rfl) (by kernel_rfl) (by kernel_rfl) (by kernel_rfl) (fun _ _ _ h => h) hS ?hy66 (by rfl) ?rest66
      case hy66 =>
        intro w0 h0
        go_simp
        try with_reducible rfl
      simp only [Act.put, List.getElem_toArray, List.getElem_cons_zero, List.getElem_cons_succ, List.setIfInBounds_toArray, List.set_cons_zero, List.set_cons_succ]
      refine AnyG.take 7 (v := ?vv67) rfl (by kernel_rfl) (by kernel_rfl) (by kernel_rfl) (by kernel_rfl) (fun _ _ _ h => h) hS ?hy67 (by rfl) ?rest67
      case hy67 =>
        intro w0 h0
        go_simp
        try with_reducible rfl
      simp only [Act.put, List.getElem_toArray, List.getElem_cons_zero, List.getElem_cons_succ, List.setIfInBounds_toArray, List.set_cons_zero, List.set_cons_succ]
      refine AnyG.take 8 (v := ?vv68) rfl (by kernel_rfl) (by kernel_rfl) (by kernel_rfl) (by kernel_rfl) (fun _ _ _ h => h) hS ?hy68 (by rfl) ?rest68
      case hy68 =>
        intro w0 h0
        go_simp
        try with_reducible rfl
      simp only [Act.put, List.getElem_toArray, List.getElem_cons_zero, List.getElem_cons_succ, List.setIfInBounds_toArray, List.set_cons_zero, List.set_cons_succ]
      refine AnyG.take 9 (v := ?vv69) rfl (by kernel_rfl) (by kernel_rfl) (by kernel_rfl) (by kernel_rfl) (fun _ _ _ h => h) hS ?hy69 (by rfl) ?rest69
      case hy69 =>
        intro w0 h0
        go_simp
        try with_reducible rfl
      simp only [Act.put, List.getElem_toArray, List.getElem_cons_zero, List.getElem_cons_succ, List.setIfInBounds_toArray, List.set_cons_zero, List.set_cons_succ]
      refine AnyG.take 10 (v := ?vv70) rfl (by kernel_rfl) (by kernel_rfl) (by kernel_rfl) (by kernel_rfl) (fun _ _ _ h => h) hS ?hy70 (by rfl) ?rest70
      case hy70 =>
        intro w0 h0
        have c0 := h0.1.cell 3 rfl
        go_simp
        try with_reducible rfl
      simp only [Act.put, List.getElem_toArray, List.getElem_cons_zero, List.getElem_cons_succ, List.setIfInBounds_toArray, List.set_cons_zero, List.set_cons_succ]
      refine AnyG.take 11 (v := ?vv71) rfl (by kernel_rfl) (by kernel_rfl) (by kernel_rfl) (by kernel_rfl) (fun _ _ _ h => h) hS ?hy71 (by rfl) ?rest71
      case hy71 =>
        intro w0 h0
        go_simp
        try with_reducible rfl
      simp only [Act.put, List.getElem_toArray, List.getElem_cons_zero, List.getElem_cons_succ, List.setIfInBounds_toArray, List.set_cons_zero, List.set_cons_succ]
      refine AnyG.take 12 (v := ?vv72) rfl (by kernel_rfl) (by kernel_rfl) (by kernel_rfl) (by kernel_rfl) (fun _ _ _ h => h) hS ?hy72 (by rfl) ?rest72
      case hy72 =>
        intro w0 h0
        go_simp
        try with_reducible rfl
      simp only [Act.put, List.getElem_toArray, List.getElem_cons_zero, List.getElem_cons_succ, List.setIfInBounds_toArray, List.set_cons_zero, List.set_cons_succ]
      refine AnyG.take 13 (v := ?vv73) rfl (by kernel_rfl) (by kernel_rfl) (by kernel_rfl) (by kernel_rfl) (fun _ _ _ h => h) hS ?hy73 (by rfl) ?rest73
      case hy73 =>
        intro w0 h0
        go_simp
        try with_reducible rfl
      simp only [Act.put, List.getElem_toArray, List.getElem_cons_zero, List.getElem_cons_succ, List.setIfInBounds_toArray, List.set_cons_zero, List.set_cons_succ]
      refine AnyG.take 14 (v := ?vv74) rfl (by kernel_rfl) (by kernel_rfl) (by kernel_rfl) (by kernel_rfl) (fun _ _ _ h => h) hS ?hy74 (by rfl) ?rest74
      case hy74 =>
        intro w0 h0
        go_simp
        try with_reducible rfl
      simp only [Act.put, List.getElem_toArray, List.getElem_cons_zero, List.getElem_cons_succ, List.setIfInBounds_toArray, List.set_cons_zero, List.set_cons_succ]
      refine AnyG.take 15 (v := ?vv75) rfl (by kernel_rfl) (by kernel_rfl) (by kernel_rfl) (by kernel_rfl) (fun _ _ _ h => h) hS ?hy75 (by rfl) ?rest75
      case hy75 =>
        intro w0 h0
        have c0 := h0.1.cell 3 rfl
        go_simp
        try with_reducible rfl
      simp only [Act.put, List.getElem_toArray, List.getElem_cons_zero, List.getElem_cons_succ, List.setIfInBounds_toArray, List.set_cons_zero, List.set_cons_succ]
      refine AnyG.take 16 (v := ?vv76) rfl (by kernel_rfl) (by kernel_rfl) (by kernel_rfl) (by kernel_rfl) (fun _ _ _ h => h) hS ?hy76 (by rfl) ?rest76
      case hy76 =>
        intro w0 h0
        go_simp
        try with_reducible rfl
      simp only [Act.put, List.getElem_toArray, List.getElem_cons_zero, List.getElem_cons_succ, List.setIfInBounds_toArray, List.set_cons_zero, List.set_cons_succ]
      refine AnyG.take 17 (v := ?vv77) rfl (by kernel_rfl) (by kernel_rfl) (by kernel_rfl) (by kernel_rfl) (fun _ _ _ h => h) hS ?hy77 (by rfl) ?rest77
      case hy77 =>
        intro w0 h0
        go_simp
        try with_reducible rfl
      simp only [Act.put, List.getElem_toArray, List.getElem_cons_zero, List.getElem_cons_succ, List.setIfInBounds_toArray, List.set_cons_zero, List.set_cons_succ]
      refine AnyG.take 18 (v := ?vv78) rfl (by kernel_rfl) (by kernel_rfl) (by kernel_rfl) (by kernel_rfl) (fun _ _ _ h => h) hS ?hy78 (by rfl) ?rest78
      case hy78 =>
        intro w0 h0
        go_simp
        try with_reducible rfl
      simp only [Act.put, List.getElem_toArray, List.getElem_cons_zero, List.getElem_cons_succ, List.setIfInBounds_toArray, List.set_cons_zero, List.set_cons_succ]
      refine AnyG.take 20 (v := ?vv79) rfl (by kernel_rfl) (by kernel_rfl) (by kernel_rfl) (by kernel_rfl) (fun _ _ _ h => h) hS ?hy79 (by rfl) ?rest79
      case hy79 =>
        intro w0 h0
        go_simp
        try with_reducible rfl
      simp only [Act.put, List.getElem_toArray, List.getElem_cons_zero, List.getElem_cons_succ, List.setIfInBounds_toArray, List.set_cons_zero, List.set_cons_succ]
      refine AnyG.take 21 (v := ?vv80) rfl (by kernel_rfl) (by kernel_rfl) (by kernel_rfl) (by kernel_rfl) (fun _ _ _ h => h) hS ?hy80 (by rfl) ?rest80
      case hy80 =>
        intro w0 h0
        have c0 := h0.1.cell 4 rfl
        go_simp
        try with_reducible rfl
      simp only [Act.put, List.getElem_toArray, List.getElem_cons_zero, List.getElem_cons_succ, List.setIfInBounds_toArray, List.set_cons_zero, List.set_cons_succ]
      refine AnyG.one 19 (by kernel_rfl) rfl ?_
      intro K hK
      go_simp
      refine (RS.out _).mono ?_
      rintro e w1 ⟨g, rfl, hN, hB⟩
      have hS1 : (fun w' => Cel w' gb [.int .i64 s, .int .i64 i, .int .i64 l, .int .i64 k, .int .i64 m] 23 ∧ Below w.heap.size w w') _ := ⟨hS.1.kept hB, hS.2.trans (hB.mono hS.2.size)⟩
      have CI := hide (RI.out _ _ hN)
      clear hB hN hS
      refine hK.out _ _ (fun _ => hS1) ?_
      clear hK K
      try simp only [Act.put, List.getElem_toArray, List.getElem_cons_zero, List.getElem_cons_succ, List.setIfInBounds_toArray, List.set_cons_zero, List.set_cons_succ]
      refine AnyG.one 22 (by kernel_rfl) rfl ?_
      intro K hK
      go_simp
      refine (CI.out).mono ?_
      rintro e w2 ⟨rfl, hB⟩
      have hS2 : (fun w' => Cel w' gb [.int .i64 s, .int .i64 i, .int .i64 l, .int .i64 k, .int .i64 m] 23 ∧ Below w.heap.size w w') _ := ⟨hS1.1.kept hB, hS1.2.trans (hB.mono hS1.2.size)⟩
      clear hB hS1 CI
      refine hK.out _ _ (fun _ => hS2) ?_
      clear hK K
      try simp only [Act.put, List.getElem_toArray, List.getElem_cons_zero, List.getElem_cons_succ, List.setIfInBounds_toArray, List.set_cons_zero, List.set_cons_succ]
      refine AnyG.take 23 (v := ?vv81) rfl (by kernel_rfl) (by kernel_rfl) (by kernel_rfl) (by kernel_rfl) (fun _ _ _ h => h) hS2 ?hy81 (by rfl) ?rest81
      case hy81 =>
        intro w0 h0
        have q := hIn
        go_simp
        try with_reducible rfl
      simp only [Act.put, List.getElem_toArray, List.getElem_cons_zero, List.getElem_cons_succ, List.setIfInBounds_toArray, List.set_cons_zero, List.set_cons_succ]
      refine AnyG.take 24 (v := ?vv82) rfl (by kernel_rfl) (by kernel_rfl) (by kernel_rfl) (by kernel_rfl) (fun _ _ _ h => h) hS2 ?hy82 (by rfl) ?rest82
      case hy82 =>
        intro w0 h0
        have q := hIn
        go_simp
        try with_reducible rfl
      simp only [Act.put, List.getElem_toArray, List.getElem_cons_zero, List.getElem_cons_succ, List.setIfInBounds_toArray, List.set_cons_zero, List.set_cons_succ]
      refine AnyG.done (by kernel_rfl) ?_ _
      have c0 := hS2.1.cell 0 rfl
      have c1 := hS2.1.cell 1 rfl
      have c2 := hS2.1.cell 2 rfl
      by_cases h6 : i = 0
      · have R : Hid (Co.okZ (s, i, l, k, m) = (l == 0)) := R1.out.trans (by rw [decide_eq_true h6]; rfl)
        have h6' : (i == 0) = true := by simp [h6]
        clear h6
        go_wp2
        go_ret
        exact ⟨ret_bool R.out.symm, hS2.2⟩
      · have R : Hid (Co.okZ (s, i, l, k, m) = false) := R1.out.trans (by rw [decide_eq_false h6]; rfl)
        have h6' : (i == 0) = false := by simp [h6]
        go_wp2
        go_ret
        rw [R.out]
        exact ⟨rfl, hS2.2⟩
end Go.Proofs.Ytckkhmmicbpihaa
