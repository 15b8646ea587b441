/-
  The contracts of heads and small.
-/
import Derived.Test.YtcgnphffjfffgaaPq
namespace Go.Proofs.Ytcgnphffjfffgaa
open Go.RowKit Num Bit
set_option linter.unusedVariables false
set_option linter.unusedSimpArgs false
set_option maxRecDepth 100000

theorem small_p (N : Int) (ao : Option Addr) (n cap : Nat) (so : Option Addr) (m sc : Nat) (tO : Option Addr) (k tc : Nat) (w : World) :
    Calls Try.prog 16 #[.agg #[.int .i64 N, .slice ao n cap, .slice so m sc, .slice tO k tc]] w fun e w' => e = .returned (.bool (decide (N ≤ 3000) && (decide ((n : Int) ≤ 3000) && (decide ((m : Int) ≤ 3000) && decide ((k : Int) ≤ 3000))))) ∧ Below w.heap.size w w' := by
  by_cases h1 : N ≤ 3000
  · by_cases h2 : (n : Int) ≤ 3000
    · by_cases h3 : (m : Int) ≤ 3000
      · rw [decide_eq_true h1, decide_eq_true h2, decide_eq_true h3]
        go_enter Try.func16, Try.ntmps16
        go_wp2
        go_ret
        exact ⟨rfl, below_alloc _ _⟩
      · rw [decide_eq_true h1, decide_eq_true h2, decide_eq_false h3]
        have d3 : decide ((m : Int) ≤ 3000) = false := decide_eq_false h3
        go_enter Try.func16, Try.ntmps16
        go_wp2
        go_ret
        exact ⟨rfl, below_alloc _ _⟩
    · rw [decide_eq_true h1, decide_eq_false h2]
      have d2 : decide ((n : Int) ≤ 3000) = false := decide_eq_false h2
      go_enter Try.func16, Try.ntmps16
      go_wp2
      go_ret
      exact ⟨rfl, below_alloc _ _⟩
  · rw [decide_eq_false h1]
    have d1 : decide (N ≤ 3000) = false := decide_eq_false h1
    go_enter Try.func16, Try.ntmps16
    go_wp2
    go_ret
    exact ⟨rfl, below_alloc _ _⟩

theorem fit22 : Fit [22] := by
  intro i
  cases i with
  | zero => decide
  | succ i => unfold gt; simp

theorem wd22 (w : World) : Wd (w.alloc (.cells #[.int .u64 22] 52)) (some ⟨w.heap.size, 0, none⟩) [22] := by
  intro _
  refine ⟨w.heap.size, 0, rfl, by simp, fun i hi => ?_⟩
  have hi : i < 1 := hi
  obtain rfl : i = 0 := by omega
  simp [gt]
theorem built5 : pbN 5 [22] = 5 ∧ pbX 5 [22] = [22] ∧ pbS 5 [22] = [0] ∧ pbT 5 [22] = [0] ∧ pbE 5 [22] = 0 := by decide +kernel
theorem built1 : pbN 1 [] = 0 ∧ pbX 1 [] = [] ∧ pbS 1 [] = [] ∧ pbT 1 [] = [] ∧ pbE 1 [] = 2 := by decide +kernel
theorem told5 : pchk 5 [22] [0] [0] = true ∧ paB 5 [22] [0] [0] 4 = true ∧ paE 5 [22] [0] [0] 4 = 0 ∧ prN 5 [22] [0] [0] true 4 = 2 ∧ prE 5 [22] [0] [0] 4 = 0 ∧ psX 5 [22] [0] [0] true 2 = 4 ∧ psE 5 [22] [0] [0] true 2 = 0 ∧ psX 5 [22] [0] [0] false 1 = 3 ∧ psE 5 [22] [0] [0] false 1 = 0 ∧ psX 5 [22] [0] [0] true 3 = 0 ∧ psE 5 [22] [0] [0] true 3 = 3 ∧ pzN 5 [22] [0] [0] = 53 ∧ piN 5 [22] [0] [0] = 5 ∧ piX 5 [22] [0] [0] = [22] := by decide +kernel

set_option maxHeartbeats 8000000 in
theorem heads_c (w : World) : Calls Try.prog 8 #[] w fun e w' => e = .returned (.bool true) ∧ Below w.heap.size w w' := by
  obtain ⟨W, hW⟩ : ∃ W, W = w.alloc (.cells #[.int .u64 22] 52) := ⟨_, rfl⟩
  have bW : Below w.heap.size w W := by rw [hW]; exact below_alloc w _
  have hx : Wd W (some ⟨w.heap.size, 0, none⟩) [22] := by
    rw [hW]
    exact wd22 w
  have H1 : Hid (∀ w0, w0 = W → Calls Try.prog 9 #[.agg #[.int .i64 5, .slice (some ⟨w.heap.size, 0, none⟩) 1 1]] w0 fun e w' => ∃ bo bc so sc tO tc, e = .returned (.tuple #[.agg #[.int .i64 5, .slice bo 1 bc, .slice so 1 sc, .slice tO 1 tc], .int .i64 0]) ∧ PlIn w' 5 bo [22] bc so [0] sc tO [0] tc ∧ Below w0.heap.size w0 w') := fun w0 h => by
    subst h
    have := build_p 5 (some ⟨w.heap.size, 0, none⟩) [22] 1 w0 (by decide) hx fit22 (by decide) (by decide)
    refine this.mono ?_
    rintro e w' ⟨bo, bc, so, sc, tO, tc, rfl, ho, hb⟩
    have hp := ho.plin 5 [22] (by decide) fit22 (by decide)
    rw [built5.1, built5.2.1, built5.2.2.1, built5.2.2.2.1] at hp
    rw [built5.1, built5.2.1, built5.2.2.1, built5.2.2.2.1, built5.2.2.2.2]
    exact ⟨bo, bc, so, sc, tO, tc, rfl, hp, hb⟩
  have H7 : Hid (∀ w0 : World, Calls Try.prog 9 #[.agg #[.int .i64 1, .slice none 0 0]] w0 fun e w' => ∃ bo bc so sc tO tc, e = .returned (.tuple #[.agg #[.int .i64 0, .slice bo 0 bc, .slice so 0 sc, .slice tO 0 tc], .int .i64 2]) ∧ Below w0.heap.size w0 w') := fun w0 => by
    have := build_p 1 none [] 0 w0 (by decide) (wd0' _ _) (fun i => by unfold gt; simp) (by decide) (by decide)
    refine this.mono ?_
    rintro e w' ⟨bo, bc, so, sc, tO, tc, rfl, ho, hb⟩
    rw [built1.1, built1.2.1, built1.2.2.1, built1.2.2.2.1, built1.2.2.2.2]
    exact ⟨bo, bc, so, sc, tO, tc, rfl, hb⟩
  go_enter Try.func8, Try.ntmps8
  go_wp2_with fail
  rw [← hW]
  refine (H1.out _ rfl).mono ?_
  rintro e w1 ⟨bo, bc, so, sc, tO, tc, rfl, hP0, hb⟩
  have hw1 := bW.trans (hb.mono bW.size)
  have bV := below_alloc w1 (.cells #[.int .i64 5, .slice bo 1 bc, .slice so 1 sc, .slice tO 1 tc] 29)
  have hP := hP0.keep bV
  have hB := Cel.new w1 [.int .i64 5, .slice bo 1 bc, .slice so 1 sc, .slice tO 1 tc] 29
  have hw := hw1.trans (bV.mono hw1.size)
  clear H1 hx bW hW W hb hP0 bV hw1
  have H2 : Hid (∀ w0, PlIn w0 5 bo [22] bc so [0] sc tO [0] tc → Calls Try.prog 11 #[.agg #[.int .i64 5, .slice bo 1 bc, .slice so 1 sc, .slice tO 1 tc], .int .i64 4] w0 fun e w' => e = .returned (.tuple #[.bool true, .int .i64 0]) ∧ Below w0.heap.size w0 w') := fun w0 h => by
    have := access_p 5 bo [22] bc so [0] sc tO [0] tc 4 w0 h (by decide)
    rw [told5.2.1, told5.2.2.1] at this
    exact this
  have H3 : Hid (∀ w0, PlIn w0 5 bo [22] bc so [0] sc tO [0] tc → Calls Try.prog 10 #[.agg #[.int .i64 5, .slice bo 1 bc, .slice so 1 sc, .slice tO 1 tc], .bool true, .int .i64 4] w0 fun e w' => e = .returned (.tuple #[.int .i64 2, .int .i64 0]) ∧ Below w0.heap.size w0 w') := fun w0 h => by
    have := rank_p 5 bo [22] bc so [0] sc tO [0] tc true 4 w0 h (by decide)
    rw [told5.2.2.2.1, told5.2.2.2.2.1] at this
    exact this
  have H4 : Hid (∀ w0, PlIn w0 5 bo [22] bc so [0] sc tO [0] tc → Calls Try.prog 19 #[.agg #[.int .i64 5, .slice bo 1 bc, .slice so 1 sc, .slice tO 1 tc], .bool true, .int .i64 2] w0 fun e w' => e = .returned (.tuple #[.int .i64 4, .int .i64 0]) ∧ Below w0.heap.size w0 w') := fun w0 h => by
    have := select_p 5 bo [22] bc so [0] sc tO [0] tc true 2 w0 h (by decide)
    rw [told5.2.2.2.2.2.1, told5.2.2.2.2.2.2.1] at this
    exact this
  have H5 : Hid (∀ w0, PlIn w0 5 bo [22] bc so [0] sc tO [0] tc → Calls Try.prog 19 #[.agg #[.int .i64 5, .slice bo 1 bc, .slice so 1 sc, .slice tO 1 tc], .bool false, .int .i64 1] w0 fun e w' => e = .returned (.tuple #[.int .i64 3, .int .i64 0]) ∧ Below w0.heap.size w0 w') := fun w0 h => by
    have := select_p 5 bo [22] bc so [0] sc tO [0] tc false 1 w0 h (by decide)
    rw [told5.2.2.2.2.2.2.2.1, told5.2.2.2.2.2.2.2.2.1] at this
    exact this
  have H6 : Hid (∀ w0, PlIn w0 5 bo [22] bc so [0] sc tO [0] tc → Calls Try.prog 19 #[.agg #[.int .i64 5, .slice bo 1 bc, .slice so 1 sc, .slice tO 1 tc], .bool true, .int .i64 3] w0 fun e w' => e = .returned (.tuple #[.int .i64 0, .int .i64 3]) ∧ Below w0.heap.size w0 w') := fun w0 h => by
    have := select_p 5 bo [22] bc so [0] sc tO [0] tc true 3 w0 h (by decide)
    rw [told5.2.2.2.2.2.2.2.2.2.1, told5.2.2.2.2.2.2.2.2.2.2.1] at this
    exact this
  have H8 : Hid (∀ w0, PlIn w0 5 bo [22] bc so [0] sc tO [0] tc → Calls Try.prog 21 #[.agg #[.int .i64 5, .slice bo 1 bc, .slice so 1 sc, .slice tO 1 tc]] w0 fun e w' => e = .returned (.bool true) ∧ Below w0.heap.size w0 w') := fun w0 h => by
    have := check_p 5 bo [22] bc so [0] sc tO [0] tc w0 h
    rw [told5.1] at this
    exact this
  have H9 : Hid (∀ w0, PlIn w0 5 bo [22] bc so [0] sc tO [0] tc → Calls Try.prog 14 #[.agg #[.int .i64 5, .slice bo 1 bc, .slice so 1 sc, .slice tO 1 tc]] w0 fun e w' => e = .returned (.int .i64 53) ∧ Below w0.heap.size w0 w') := fun w0 h => by
    have := size_p 5 bo [22] bc so [0] sc tO [0] tc w0 h
    rw [told5.2.2.2.2.2.2.2.2.2.2.2.1] at this
    exact this
  have c0 := hB.cell 0 rfl
  have c1 := hB.cell 1 rfl
  have c2 := hB.cell 2 rfl
  have c3 := hB.cell 3 rfl
  go_wp2_with fail
  refine (H2.out _ hP).mono ?_
  rintro e w2 ⟨rfl, hb⟩
  replace hP := hP.keep hb
  replace hB := hB.kept hb
  replace hw := hw.trans (hb.mono hw.size)
  clear hb c0 c1 c2 c3
  have c0 := hB.cell 0 rfl
  have c1 := hB.cell 1 rfl
  have c2 := hB.cell 2 rfl
  have c3 := hB.cell 3 rfl
  go_wp2_with fail
  refine (H3.out _ hP).mono ?_
  rintro e w3 ⟨rfl, hb⟩
  replace hP := hP.keep hb
  replace hB := hB.kept hb
  replace hw := hw.trans (hb.mono hw.size)
  clear hb c0 c1 c2 c3
  have c0 := hB.cell 0 rfl
  have c1 := hB.cell 1 rfl
  have c2 := hB.cell 2 rfl
  have c3 := hB.cell 3 rfl
  go_wp2_with fail
  refine (H4.out _ hP).mono ?_
  rintro e w4 ⟨rfl, hb⟩
  replace hP := hP.keep hb
  replace hB := hB.kept hb
  replace hw := hw.trans (hb.mono hw.size)
  clear hb c0 c1 c2 c3
  have c0 := hB.cell 0 rfl
  have c1 := hB.cell 1 rfl
  have c2 := hB.cell 2 rfl
  have c3 := hB.cell 3 rfl
  go_wp2_with fail
  refine (H5.out _ hP).mono ?_
  rintro e w5 ⟨rfl, hb⟩
  replace hP := hP.keep hb
  replace hB := hB.kept hb
  replace hw := hw.trans (hb.mono hw.size)
  clear hb c0 c1 c2 c3
  have c0 := hB.cell 0 rfl
  have c1 := hB.cell 1 rfl
  have c2 := hB.cell 2 rfl
  have c3 := hB.cell 3 rfl
  go_wp2_with fail
  refine (H6.out _ hP).mono ?_
  rintro e w6 ⟨rfl, hb⟩
  replace hP := hP.keep hb
  replace hB := hB.kept hb
  replace hw := hw.trans (hb.mono hw.size)
  clear hb c0 c1 c2 c3
  have c0 := hB.cell 0 rfl
  have c1 := hB.cell 1 rfl
  have c2 := hB.cell 2 rfl
  have c3 := hB.cell 3 rfl
  go_wp2_with fail
  refine (H7.out _).mono ?_
  rintro e w7 ⟨po, pc, qo, qc, ro, rc, rfl, hb⟩
  replace hb := hb.alloc hb.size (.cells #[.int .i64 0, .slice po 0 pc, .slice qo 0 qc, .slice ro 0 rc] 29)
  replace hP := hP.keep hb
  replace hB := hB.kept hb
  replace hw := hw.trans (hb.mono hw.size)
  clear hb c0 c1 c2 c3 H7
  have c0 := hB.cell 0 rfl
  have c1 := hB.cell 1 rfl
  have c2 := hB.cell 2 rfl
  have c3 := hB.cell 3 rfl
  go_wp2_with fail
  refine (H8.out _ hP).mono ?_
  rintro e w8 ⟨rfl, hb⟩
  replace hP := hP.keep hb
  replace hB := hB.kept hb
  replace hw := hw.trans (hb.mono hw.size)
  clear hb c0 c1 c2 c3
  have c0 := hB.cell 0 rfl
  have c1 := hB.cell 1 rfl
  have c2 := hB.cell 2 rfl
  have c3 := hB.cell 3 rfl
  go_wp2_with fail
  refine (H9.out _ hP).mono ?_
  rintro e w9 ⟨rfl, hb⟩
  replace hP := hP.keep hb
  replace hB := hB.kept hb
  replace hw := hw.trans (hb.mono hw.size)
  clear hb c0 c1 c2 c3
  have c0 := hB.cell 0 rfl
  have c1 := hB.cell 1 rfl
  have c2 := hB.cell 2 rfl
  have c3 := hB.cell 3 rfl
  go_wp2_with fail
  have BT := bits_p 5 bo [22] bc so [0] sc tO [0] tc _ hP
  rw [told5.2.2.2.2.2.2.2.2.2.2.2.2.1, told5.2.2.2.2.2.2.2.2.2.2.2.2.2] at BT
  refine BT.mono ?_
  rintro e w10 ⟨ro2, rc2, rfl, hx2, hc2, hb⟩
  replace hw := hw.trans (hb.mono hw.size)
  clear hb BT
  have bZ := below_alloc w10 (.cells #[.int .u64 22] 52)
  have S1 : Hid (∀ w0, w0 = w10.alloc (.cells #[.int .u64 22] 52) → Calls Try.prog 23 #[.agg #[.int .i64 5, .slice ro2 1 rc2], .agg #[.int .i64 5, .slice (some ⟨w10.heap.size, 0, none⟩) 1 1]] w0 fun e w' => e = .returned (.bool true) ∧ Below w0.heap.size w0 w') := fun w0 h => by
    subst h
    have := same_c 5 ro2 [22] rc2 5 (some ⟨w10.heap.size, 0, none⟩) [22] 1 _ (hx2.keep bZ) (wd22 w10) (by decide)
    rw [show (decide ((5 : Int) = 5) && decide (([22] : List Nat) = [22])) = true by decide] at this
    exact this
  go_wp2_with fail
  refine (S1.out _ rfl).mono ?_
  rintro e w11 ⟨rfl, hb⟩
  replace hw := (hw.trans (bZ.mono hw.size)).trans (hb.mono (Nat.le_trans hw.size bZ.size))
  go_wp2
  go_ret
  exact ⟨rfl, hw⟩
end Go.Proofs.Ytcgnphffjfffgaa
