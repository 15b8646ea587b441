/-
  The contract of heads.
-/
import Derived.Test.YtjbabnnibocdfaaBq
import Derived.ProofKit
import Derived.OpenShut
import Derived.Lib.SmallJoins
namespace Go.Proofs.Ytjbabnnibocdfaa
open Go.ChangeShapes Go.WideShapes Go.ChangeAt Go.RowKit Go.Joins Num Bn Ow
set_option linter.unusedVariables false
set_option linter.unusedSimpArgs false
set_option maxRecDepth 100000

theorem own : ownKnob Try.prog.godebug = none := by kernel_rfl
theorem laidOut : laidOutB Try.prog = true := by kernel_rfl

/-- Row n of the triangle, made of the row before. -/
def nextRow : List Nat → List Nat
  | a :: b :: l => (a + b) :: nextRow (b :: l)
  | _ => [1]
def triRow : Nat → List Nat
  | 0 => [1]
  | n + 1 => 1 :: nextRow (triRow n)
theorem next_row (f : Nat → Nat) : ∀ m s, (∀ t, s + m < t → f t = 0) → f (s + m) = 1 → nextRow ((List.range' s (m + 1)).map f) = (List.range' s (m + 1)).map (fun t => f t + f (t + 1)) := by
  intro m
  induction m with
  | zero => intro s h0 h1; simp only [Nat.zero_add, List.range'_one, List.map_cons, List.map_nil, nextRow, Nat.add_zero] at h1 ⊢; rw [h1, h0 (s + 1) (by omega)]
  | succ m ih =>
    intro s h0 h1
    have e := ih (s + 1) (fun t ht => h0 t (by omega)) (by rw [show s + 1 + m = s + (m + 1) by omega]; exact h1)
    rw [List.range'_succ, List.map_cons, List.map_cons]
    rw [List.range'_succ, List.map_cons] at e ⊢
    rw [nextRow, e]
theorem tri_row : ∀ n, triRow n = (List.range' 0 (n + 1)).map (ch n) := by
  intro n
  induction n with
  | zero => rfl
  | succ n ih =>
    rw [triRow, ih, next_row (ch n) n 0 (fun t ht => ch_out n t (by omega)) (by rw [Nat.zero_add]; exact ch_self n)]
    rw [show List.range' 0 (n + 1 + 1) = 0 :: List.range' 1 (n + 1) from rfl, List.map_cons, ch_zero]
    congr 1
    rw [show List.range' 1 (n + 1) = (List.range' 0 (n + 1)).map (1 + ·) from (List.map_add_range' (a := 1) 0 (n + 1) 1).symm, List.map_map]
    refine List.map_congr_left fun t _ => ?_
    simp only [Function.comp]
    rw [show 1 + t = t + 1 by omega]
    exact (ch_succ n t).symm
theorem ch_tri (n k v : Nat) (h : (triRow n)[k]? = some v) : ch n k = v := by
  rw [tri_row, List.getElem?_map] at h
  have hk : k < n + 1 := by
    rcases Nat.lt_or_ge k (n + 1) with c | c
    · exact c
    · rw [List.getElem?_eq_none (by simp; omega)] at h; simp at h
  rw [List.getElem?_range' hk] at h
  simp only [Nat.zero_add, Nat.one_mul, Option.map_some, Option.some.injEq] at h
  exact h
theorem big : ch 62 31 = 465428353255261088 := ch_tri 62 31 _ (by decide +kernel)

set_option maxHeartbeats 4000000 in
theorem heads_c (w : World) : Calls Try.prog 10 #[] w fun e w' => e = .returned (.bool true) ∧ Below w.heap.size w w' := by
  have H1 : Hid (∀ w0, Calls Try.prog 13 #[.int .u64 6, .int .i64 3] w0 fun e w' => e = .returned (.tuple #[.int .i64 2, .int .u64 2]) ∧ Below w0.heap.size w0 w') := fun w0 => by
    have := offset_c 6 3 (by decide) (by decide) w0
    rw [show ofK 6 3 = 2 by decide +kernel, show ofO 6 3 = 2 by decide +kernel] at this
    exact this
  have H2 : Hid (∀ w0, Calls Try.prog 12 #[.int .i64 3, .int .i64 2, .int .u64 2] w0 fun e w' => e = .returned (.tuple #[.int .u64 6, .bool true]) ∧ Below w0.heap.size w0 w') := fun w0 => by
    have := block_c 3 2 2 (by decide) (by decide) (by decide) w0
    rw [show bkX 3 2 2 = 6 by decide +kernel, show bkB 3 2 2 = true by decide +kernel] at this
    exact this
  have H3 : Hid (∀ w0, Calls Try.prog 12 #[.int .i64 3, .int .i64 2, .int .u64 3] w0 fun e w' => e = .returned (.tuple #[.int .u64 0, .bool false]) ∧ Below w0.heap.size w0 w') := fun w0 => by
    have := block_c 3 2 3 (by decide) (by decide) (by decide) w0
    rw [show bkX 3 2 3 = 0 by decide +kernel, show bkB 3 2 3 = false by decide +kernel] at this
    exact this
  have H4 : Hid (∀ w0, Calls Try.prog 9 #[.int .i64 5, .int .i64 2] w0 fun e w' => e = .returned (.int .u64 10) ∧ Below w0.heap.size w0 w') := fun w0 => by
    have := choose_c 5 2 (by decide) (by decide) w0
    rw [show chN 5 2 = 10 by decide +kernel] at this
    exact this
  have H5 : Hid (∀ w0, Calls Try.prog 9 #[.int .i64 62, .int .i64 31] w0 fun e w' => e = .returned (.int .u64 465428353255261088) ∧ Below w0.heap.size w0 w') := fun w0 => by
    have := choose_c 62 31 (by decide) (by decide) w0
    rw [show chN 62 31 = 465428353255261088 from (chN_in 62 31 (by decide)).trans big] at this
    exact this
  have H6 : Hid (∀ w0, Calls Try.prog 11 #[.int .i64 5, .int .i64 2] w0 fun e w' => e = .returned (.int .i64 4) ∧ Below w0.heap.size w0 w') := fun w0 => by
    have := width_c 5 2 (by decide) (by decide) w0
    rw [show wdN 5 2 = 4 by decide +kernel] at this
    exact this
  go_enter Try.func10, Try.ntmps10
  go_wp2_with fail
  refine (H1.out _).mono ?_
  rintro e w1 ⟨rfl, hb⟩
  have hw : Below w.heap.size w w1 := hb
  clear hb
  go_wp2_with fail
  refine (H2.out _).mono ?_
  rintro e w2 ⟨rfl, hb⟩
  replace hw := hw.trans (hb.mono hw.size)
  clear hb
  go_wp2_with fail
  refine (H3.out _).mono ?_
  rintro e w3 ⟨rfl, hb⟩
  replace hw := hw.trans (hb.mono hw.size)
  clear hb
  go_wp2_with fail
  refine (H4.out _).mono ?_
  rintro e w4 ⟨rfl, hb⟩
  replace hw := hw.trans (hb.mono hw.size)
  clear hb
  go_wp2_with fail
  refine (H5.out _).mono ?_
  rintro e w5 ⟨rfl, hb⟩
  replace hw := hw.trans (hb.mono hw.size)
  clear hb
  go_wp2_with fail
  refine (H6.out _).mono ?_
  rintro e w6 ⟨rfl, hb⟩
  replace hw := hw.trans (hb.mono hw.size)
  clear hb
  go_wp2
  go_ret
  exact ⟨rfl, hw⟩
end Go.Proofs.Ytjbabnnibocdfaa
