/-
  The contracts of the document's firsts, Same and step.
-/
import Derived.Test.YtojjinjgmijgcaaBw1
namespace Go.Proofs.Ytojjinjgmijgcaa
open Go.RowKit
set_option linter.unusedVariables false
set_option linter.unusedSimpArgs false
set_option maxRecDepth 100000

namespace Su
def Fp (t : List Nat) (c v : Nat) : List Nat := (List.range 257).map fun j => if j < c then first t j else if j = c then v else 0
theorem length_Fp (t : List Nat) (c v : Nat) : (Fp t c v).length = 257 := by simp [Fp]
theorem gt_Fp (t : List Nat) (c v j : Nat) (h : j < 257) : gt (Fp t c v) j = if j < c then first t j else if j = c then v else 0 := gt_map _ _ _ h
theorem fp_at (t : List Nat) (c v : Nat) (h : c < 257) : gt (Fp t c v) c = v := by
  rw [gt_Fp _ _ _ _ h, if_neg (by omega), if_pos rfl]
theorem fp_set (t : List Nat) (c v u : Nat) (h : c < 257) : (Fp t c v).set c u = Fp t c u := by
  refine list_ext (by simp [length_Fp]) fun i hi => ?_
  rw [List.length_set, length_Fp] at hi
  rw [gt_set _ _ _ _ (by rw [length_Fp]; exact h), gt_Fp _ _ _ _ hi, gt_Fp _ _ _ _ hi]
  by_cases e : c = i
  · subst e
    rw [if_pos rfl, if_neg (by omega), if_pos rfl]
  · rw [if_neg e, if_neg (show ¬ i = c by omega), if_neg (show ¬ i = c by omega)]
theorem fp_next (t : List Nat) (c : Nat) : Fp t c (first t c) = Fp t (c + 1) 0 := by
  refine list_ext (by rw [length_Fp, length_Fp]) fun i hi => ?_
  rw [length_Fp] at hi
  rw [gt_Fp _ _ _ _ hi, gt_Fp _ _ _ _ hi]
  by_cases h : i < c
  · rw [if_pos h, if_pos (by omega)]
  · rw [if_neg h]
    by_cases e : i = c
    · rw [if_pos e, if_pos (by omega), e]
    · rw [if_neg e, if_neg (by omega)]
      split <;> rfl
theorem fp_zero (t : List Nat) : Fp t 0 0 = List.replicate 257 0 := by
  refine list_ext (by rw [length_Fp, List.length_replicate]) fun i hi => ?_
  rw [length_Fp] at hi
  rw [gt_Fp _ _ _ _ hi, if_neg (by omega)]
  unfold gt
  rw [List.getD_eq_getElem?_getD, List.getElem?_replicate, if_pos hi]
  split <;> rfl
theorem fp_all (t : List Nat) : Fp t 257 0 = fs t := by
  refine list_ext (by rw [length_Fp, length_fs]) fun i hi => ?_
  rw [length_Fp] at hi
  rw [gt_Fp _ _ _ _ hi, if_pos hi, gt_fs _ _ hi]
end Su
set_option maxHeartbeats 4000000 in
theorem rbsame_c (ao : Option Addr) (l : List Nat) (ac : Nat) (r : Int) (bo : Option Addr) (c : List Int) (bc : Nat) (co : Option Addr) (m : List Nat) (cc : Nat) (s : Int) (d_o : Option Addr) (d : List Int) (dc : Nat) (w : World) (h1 : Bd w ao l) (h2 : Nd w bo c) (h3 : Bd w co m) (h4 : Nd w d_o d) (b1 : Bytes l) (b3 : Bytes m) (hc : c.length ≤ 1048576) :
    Calls Try.prog 12 #[.agg #[.slice ao l.length ac, .int .i64 r, .slice bo c.length bc], .agg #[.slice co m.length cc, .int .i64 s, .slice d_o d.length dc]] w fun e w' => e = .returned (.bool (decide (l = m) && (decide (r = s) && decide (c = d)))) ∧ Below w.heap.size w w' := by
  obtain ⟨W, hW⟩ : ∃ W, W = (w.alloc (.cells #[.slice ao l.length ac, .int .i64 r, .slice bo c.length bc] 25)).alloc (.cells #[.slice co m.length cc, .int .i64 s, .slice d_o d.length dc] 25) := ⟨_, rfl⟩
  have bW : Below w.heap.size w W := by rw [hW]; exact (below_alloc w _).alloc (by simp) _
  have B1 : Cel W w.heap.size [.slice ao l.length ac, .int .i64 r, .slice bo c.length bc] 25 := by rw [hW]; exact (Cel.new w _ _).alloc _
  have B2 : Cel W (w.heap.size + 1) [.slice co m.length cc, .int .i64 s, .slice d_o d.length dc] 25 := by rw [hW]; exact Cel.new2 w _ _ _
  have K1 := conv ac (h1.keep bW)
  have K2 := conv cc (h3.keep bW)
  have ES := eq_str l m b1 b3
  have C3 : Hid (∀ w0, w0 = W → Calls Try.prog 20 #[.slice bo c.length bc, .slice d_o d.length dc] w0 fun e w' => e = .returned (.bool (decide (c = d))) ∧ Below w0.heap.size w0 w') := fun w0 h => by subst h; exact rnum_c bo c bc d_o d dc w0 (h2.keep bW) (h4.keep bW) hc
  have c0 := B1.cell 0 rfl
  have d0 := B2.cell 0 rfl
  have c1 := B1.cell 1 rfl
  have d1 := B2.cell 1 rfl
  have c2 := B1.cell 2 rfl
  have d2 := B2.cell 2 rfl
  have ER : (r == s) = decide (r = s) := rfl
  generalize decide (c = d) = b3 at *
  generalize decide (l = m) = b1 at *
  generalize decide (r = s) = b2 at *
  generalize strOfNums (nums l) = S1 at *
  generalize strOfNums (nums m) = S2 at *
  rw [hW] at K1 K2 c0 d0 c1 d1 c2 d2
  go_enter Try.func12, Try.ntmps12
  cases b1 with
  | false =>
    go_wp2
    go_ret
    exact ⟨rfl, by rw [← hW]; exact bW⟩
  | true =>
    cases b2 with
    | false =>
      go_wp2
      go_ret
      exact ⟨rfl, by rw [← hW]; exact bW⟩
    | true =>
      go_wp2_with fail
      rw [← hW]
      refine (C3.out _ rfl).mono ?_
      rintro e w3 ⟨rfl, hb3⟩
      go_wp2
      go_ret
      exact ⟨by cases b3 <;> rfl, bW.trans (hb3.mono bW.size)⟩
end Go.Proofs.Ytojjinjgmijgcaa
