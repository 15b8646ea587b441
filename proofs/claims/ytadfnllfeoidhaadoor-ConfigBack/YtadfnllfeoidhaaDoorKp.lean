/-
  The contracts of the program's small functions of package config, and Check.
-/
import Derived.Test.YtadfnllfeoidhaaDoorCb
namespace Go.Proofs.YtadfnllfeoidhaaDoor
open Go.RowKit
set_option linter.unusedVariables false
set_option linter.unusedSimpArgs false
set_option maxRecDepth 100000

namespace Co
def inr (n : Int) : Bool := decide (1 ≤ n) && decide (n < 4)
end Co
theorem kinner_c (n : Int) (w : World) : Calls Tryd.prog 33 #[.int .i64 n] w fun e w' => e = .returned (.bool (Co.inr n)) ∧ w' = w := by
  by_cases h1 : 1 ≤ n
  · by_cases h2 : n < 4
    · go_enter Tryd.func33, Tryd.ntmps33
      go_wp2
      go_ret
      exact ⟨ret_bool (by unfold Co.inr; rw [decide_eq_true h1, decide_eq_true h2]; rfl), rfl⟩
    · go_enter Tryd.func33, Tryd.ntmps33
      go_wp2
      go_ret
      exact ⟨ret_bool (by unfold Co.inr; rw [decide_eq_true h1, decide_eq_false (show ¬ n < 4 by omega)]; rfl), rfl⟩
  · go_enter Tryd.func33, Tryd.ntmps33
    go_wp2
    go_ret
    exact ⟨ret_bool (by unfold Co.inr; rw [decide_eq_false (show ¬ 1 ≤ n by omega)]; rfl), rfl⟩
theorem mem_lgs (n : Int) : n ∈ toI Co.lgs ↔ n = 4 ∨ n = 6 ∨ n = 8 ∨ n = 10 ∨ n = 12 := by simp [toI, Co.lgs]
theorem mem_sam (n : Int) : n ∈ toI Co.sam ↔ n = 1 ∨ n = 2 ∨ n = 4 ∨ n = 8 ∨ n = 16 ∨ n = 32 ∨ n = 64 := by simp [toI, Co.sam]
theorem lgs_out (n : Int) (h : n < 4 ∨ 12 < n) : false = Co.inZ Co.lgs n := by
  unfold Co.inZ
  exact (decide_eq_false (by rw [mem_lgs]; omega)).symm
theorem sam_out (n : Int) (h : n < 1 ∨ 64 < n) : false = Co.inZ Co.sam n := by
  unfold Co.inZ
  exact (decide_eq_false (by rw [mem_sam]; omega)).symm
theorem lgs_in (n : Int) (h : 4 ≤ n) (h2 : n ≤ 12) : ((n - 4) % 2 == 0) = Co.inZ Co.lgs n := by
  unfold Co.inZ
  rw [Bool.eq_iff_iff, decide_eq_true_iff, mem_lgs, beq_iff_eq]
  omega
theorem sam_all : ((List.range 65).all fun k : Nat => k == 0 || ((bits BinOp.and IntKind.i64 (k : Int) ((k : Int) - 1) == 0) == Co.inZ Co.sam (k : Int))) = true := by decide +kernel
theorem sam_in (n : Int) (h : 1 ≤ n) (h2 : n ≤ 64) : (bits BinOp.and IntKind.i64 n (n - 1) == 0) = Co.inZ Co.sam n := by
  have := List.all_eq_true.1 sam_all n.toNat (List.mem_range.2 (by omega))
  rw [Int.toNat_of_nonneg (by omega), Bool.or_eq_true, beq_iff_eq, beq_iff_eq] at this
  rcases this with q | q
  · omega
  · exact q
theorem klog_c (n : Int) (w : World) : Calls Tryd.prog 34 #[.int .i64 n] w fun e w' => e = .returned (.bool (Co.inZ Co.lgs n)) ∧ w' = w := by
  by_cases h1 : 4 ≤ n
  · by_cases h2 : n ≤ 12
    · go_enter Tryd.func34, Tryd.ntmps34
      go_wp2
      go_ret
      exact ⟨ret_bool (lgs_in n h1 h2), rfl⟩
    · go_enter Tryd.func34, Tryd.ntmps34
      go_wp2
      go_ret
      exact ⟨ret_bool (lgs_out n (by omega)), rfl⟩
  · go_enter Tryd.func34, Tryd.ntmps34
    go_wp2
    go_ret
    exact ⟨ret_bool (lgs_out n (by omega)), rfl⟩
theorem ksam_c (n : Int) (w : World) : Calls Tryd.prog 19 #[.int .i64 n] w fun e w' => e = .returned (.bool (Co.inZ Co.sam n)) ∧ w' = w := by
  by_cases h1 : 1 ≤ n
  · by_cases h2 : n ≤ 64
    · go_enter Tryd.func19, Tryd.ntmps19
      go_wp2
      go_ret
      exact ⟨ret_bool (sam_in n h1 h2), rfl⟩
    · go_enter Tryd.func19, Tryd.ntmps19
      go_wp2
      go_ret
      exact ⟨ret_bool (sam_out n (by omega)), rfl⟩
  · go_enter Tryd.func19, Tryd.ntmps19
    go_wp2
    go_ret
    exact ⟨ret_bool (sam_out n (by omega)), rfl⟩
namespace Co
/-- What hasShape asks. -/
def hsZ (s i l : Int) : Bool := bif decide (s = 4) then inr i && inZ lgs l else inr s && (decide (i = 0) && decide (l = 0))
theorem okZ_hs (s i l k m : Int) : okZ (s, i, l, k, m) = (hsZ s i l && (decide (1 ≤ k) && (decide (k ≤ 3) && inZ sam m))) := by
  unfold okZ hsZ inr
  simp only []
  by_cases h : s = 4
  · subst h
    cases inZ sam m <;> cases inZ lgs l <;> by_cases h1 : (1 : Int) ≤ i <;> by_cases h2 : i ≤ 3 <;> by_cases h3 : (1 : Int) ≤ k <;> by_cases h4 : k ≤ 3 <;> simp [h1, h2, h3, h4] <;> omega
  · cases inZ sam m <;> by_cases h1 : (1 : Int) ≤ s <;> by_cases h2 : s ≤ 4 <;> by_cases h3 : (1 : Int) ≤ k <;> by_cases h4 : k ≤ 3 <;> by_cases h5 : i = 0 <;> by_cases h6 : l = 0 <;> simp [h, h1, h2, h3, h4, h5, h6] <;> omega
end Co
set_option maxHeartbeats 2000000 in
theorem kshape_c (s i l k m : Int) (w : World) :
    Calls Tryd.prog 18 #[.agg #[.int .i64 s, .int .i64 i, .int .i64 l, .int .i64 k, .int .i64 m]] w fun e w' => e = .returned (.bool (Co.hsZ s i l)) ∧ Below w.heap.size w w' := by
  have KI := hide kinner_c
  have KL := hide klog_c
  obtain ⟨W, hW⟩ : ∃ W, W = w.alloc (.cells #[.int .i64 s, .int .i64 i, .int .i64 l, .int .i64 k, .int .i64 m] 23) := ⟨_, rfl⟩
  have HB0 : Hid (Below w.heap.size w W) := by rw [hW]; exact below_alloc w _
  have HC : Hid (Cel W w.heap.size [.int .i64 s, .int .i64 i, .int .i64 l, .int .i64 k, .int .i64 m] 23) := by rw [hW]; exact Cel.new w _ _
  have HW := hide hW
  clear hW
  obtain ⟨gb, hgb⟩ : ∃ gb, Hid (gb = w.heap.size) := ⟨_, rfl⟩
  rw [← hgb.out] at HC
  have c0 := HC.out.cell 0 rfl
  have c1 := HC.out.cell 1 rfl
  have c2 := HC.out.cell 2 rfl
  by_cases h4 : s = 4
  · have R : Hid (Co.hsZ s i l = (Co.inr i && Co.inZ Co.lgs l)) := by show Co.hsZ s i l = _; unfold Co.hsZ; rw [decide_eq_true h4]; rfl
    have h4' : (s == 4) = true := by simp [h4]
    clear h4
    go_enter Tryd.func18, Tryd.ntmps18
    go_wp2_with fail
    rw [← HW.out, ← hgb.out]
    refine (KI.out i _).mono ?_
    rintro e w1 ⟨rfl, rfl⟩
    generalize Co.inr i = bi at *
    cases bi with
    | false =>
      go_wp2
      go_ret
      exact ⟨ret_bool R.out.symm, HB0.out⟩
    | true =>
      go_wp2_with fail
      refine (KL.out l _).mono ?_
      rintro e w1 ⟨rfl, rfl⟩
      go_wp2
      go_ret
      exact ⟨ret_bool R.out.symm, HB0.out⟩
  · have R : Hid (Co.hsZ s i l = (Co.inr s && (decide (i = 0) && decide (l = 0)))) := by show Co.hsZ s i l = _; unfold Co.hsZ; rw [decide_eq_false h4]; rfl
    have h4' : (s == 4) = false := by simp [h4]
    clear h4
    go_enter Tryd.func18, Tryd.ntmps18
    go_wp2_with fail
    rw [← HW.out, ← hgb.out]
    refine (KI.out s _).mono ?_
    rintro e w1 ⟨rfl, rfl⟩
    generalize Co.inr s = bi at *
    cases bi with
    | false =>
      go_wp2
      go_ret
      exact ⟨ret_bool R.out.symm, HB0.out⟩
    | true =>
      by_cases hi : i = 0
      · have hi' : (i == 0) = true := by simp [hi]
        rw [decide_eq_true hi] at R
        clear hi
        go_wp2
        go_ret
        exact ⟨ret_bool R.out.symm, HB0.out⟩
      · have hi' : (i == 0) = false := by simp [hi]
        rw [decide_eq_false hi] at R
        clear hi
        go_wp2
        go_ret
        exact ⟨ret_bool R.out.symm, HB0.out⟩
set_option maxHeartbeats 2000000 in
theorem kcheck_c (z1 z2 z3 z4 z5 : Int) (w : World) :
    Calls Tryd.prog 7 #[.agg #[.int .i64 z1, .int .i64 z2, .int .i64 z3, .int .i64 z4, .int .i64 z5]] w fun e w' => e = .returned (.bool (Co.okZ (z1, z2, z3, z4, z5))) ∧ Below w.heap.size w w' := by
  have KS := hide (fun w0 => kshape_c z1 z2 z3 z4 z5 w0)
  have KM := hide (fun w0 => ksam_c z5 w0)
  have R := hide (Co.okZ_hs z1 z2 z3 z4 z5)
  obtain ⟨W, hW⟩ : ∃ W, W = w.alloc (.cells #[.int .i64 z1, .int .i64 z2, .int .i64 z3, .int .i64 z4, .int .i64 z5] 23) := ⟨_, rfl⟩
  have HB0 : Hid (Below w.heap.size w W) := by rw [hW]; exact below_alloc w _
  have HC : Hid (Cel W w.heap.size [.int .i64 z1, .int .i64 z2, .int .i64 z3, .int .i64 z4, .int .i64 z5] 23) := by rw [hW]; exact Cel.new w _ _
  have HW := hide hW
  clear hW
  obtain ⟨gb, hgb⟩ : ∃ gb, Hid (gb = w.heap.size) := ⟨_, rfl⟩
  rw [← hgb.out] at HC
  have c0 := HC.out.cell 0 rfl
  have c1 := HC.out.cell 1 rfl
  have c2 := HC.out.cell 2 rfl
  have c3 := HC.out.cell 3 rfl
  have c4 := HC.out.cell 4 rfl
  go_enter Tryd.func7, Tryd.ntmps7
  go_wp2_with fail
  rw [← HW.out, ← hgb.out]
  refine (KS.out _).mono ?_
  rintro e w1 ⟨rfl, hb⟩
  have HB1 := hide (HB0.out.trans (hb.mono HB0.out.size))
  have HC1 := hide (HC.out.kept hb)
  clear hb c0 c1 c2 c3 c4 HC HB0 KS
  have c3 := HC1.out.cell 3 rfl
  have c4 := HC1.out.cell 4 rfl
  generalize Co.hsZ z1 z2 z3 = bs at *
  cases bs with
  | false =>
    go_wp2
    go_ret
    exact ⟨ret_bool R.out.symm, HB1.out⟩
  | true =>
    by_cases h1 : 1 ≤ z4
    · rw [decide_eq_true h1] at R
      by_cases h3 : z4 ≤ 3
      · rw [decide_eq_true h3] at R
        go_wp2_with fail
        refine (KM.out _).mono ?_
        rintro e w2 ⟨rfl, rfl⟩
        go_wp2
        go_ret
        exact ⟨ret_bool R.out.symm, HB1.out⟩
      · rw [decide_eq_false h3] at R
        go_wp2
        go_ret
        exact ⟨ret_bool R.out.symm, HB1.out⟩
    · rw [decide_eq_false h1] at R
      go_wp2
      go_ret
      exact ⟨ret_bool R.out.symm, HB1.out⟩
end Go.Proofs.YtadfnllfeoidhaaDoor
