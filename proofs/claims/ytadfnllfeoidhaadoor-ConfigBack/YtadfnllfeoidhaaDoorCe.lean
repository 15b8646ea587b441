/-
  All, as a row; the contract of the document's Number.
-/
import Derived.Test.YtadfnllfeoidhaaDoorCd
import Derived.Laws.StructEq
import Derived.Deep.QuietTactic
import Derived.BigQuiet
namespace Go.Proofs.YtadfnllfeoidhaaDoor
open Go.RowKit
set_option linter.unusedVariables false
set_option linter.unusedSimpArgs false
set_option maxRecDepth 100000

namespace Co
theorem enc_get : ∀ (l : List Cf) (i : Nat) (c : Cf), l[i]? = some c → ∀ j u, (cv (toZ c))[j]? = some u → (enc l)[i * 5 + j]? = some u
  | d :: l, 0, c, h, j, u, hu => by
    simp only [List.getElem?_cons_zero, Option.some.injEq] at h
    subst h
    show (cv (toZ d) ++ enc l)[0 * 5 + j]? = _
    have hj := (List.getElem?_eq_some_iff.1 hu).1
    rw [Nat.zero_mul, Nat.zero_add, List.getElem?_append_left hj]
    exact hu
  | d :: l, i + 1, c, h, j, u, hu => by
    have := enc_get l i c (by simpa using h) j u hu
    show (cv (toZ d) ++ enc l)[(i + 1) * 5 + j]? = _
    rw [List.getElem?_append_right (by show 5 ≤ _; omega), show (i + 1) * 5 + j - (cv (toZ d)).length = i * 5 + j by show (i + 1) * 5 + j - 5 = _; omega]
    exact this
/-- All, as numbers. -/
def az : List Zf := all.map toZ
theorem az_len : az.length = 378 := by unfold az; rw [List.length_map, all_len]
def numI (z : Zf) : Nat := if z ∈ az then az.idxOf z else 0
theorem first_ix {z : Zf} : ∀ {l : List Zf} {k : Nat}, (∀ j, j < k → l[j]? ≠ some z) → l[k]? = some z → l.idxOf z = k
  | [], k, _, h => by simp at h
  | a :: l, 0, _, h => by
    simp only [List.getElem?_cons_zero, Option.some.injEq] at h
    subst h
    simp
  | a :: l, k + 1, h1, h2 => by
    have h0 := h1 0 (by omega)
    simp only [List.getElem?_cons_zero, ne_eq, Option.some.injEq] at h0
    rw [List.idxOf_cons, show (a == z) = false by simpa using h0]
    show l.idxOf z + 1 = k + 1
    rw [first_ix (l := l) (k := k) (fun j hj => by have := h1 (j + 1) (by omega); simpa using this) (by simpa using h2)]
end Co
/-- All stand in block g. -/
def AL (w : World) (g : Nat) : Prop := g < w.heap.size ∧ ∀ i c, Co.all[i]? = some c → ∀ j u, (Co.cv (Co.toZ c))[j]? = some u → w.cell? ⟨g, i * 5 + j, none⟩ = some u
theorem AL.keep {w w' : World} {g : Nat} (h : AL w g) (hb : Below w.heap.size w w') : AL w' g := ⟨Nat.lt_of_lt_of_le h.1 hb.size, fun i c hc j u hu => (hb.cell (p := ⟨g, i * 5 + j, none⟩) h.1).trans (h.2 i c hc j u hu)⟩
/-- What an All answers. -/
def AllQ (w : World) (e : Ending) (w' : World) : Prop := ∃ g cap, e = .returned (.slice (some ⟨g, 0, none⟩) 378 cap) ∧ AL w' g ∧ 378 ≤ cap ∧ w.heap.size ≤ g ∧ Below w.heap.size w w'
theorem rall_a (w : World) : Calls Tryd.prog 17 #[] w (AllQ w) := by
  refine (rall_c w).mono ?_
  rintro e w' ⟨v, rfl, hO, hB⟩
  rw [Co.fr_all, Co.all_len] at hO
  obtain ⟨h1, ⟨_, h⟩ | ⟨g, cap, cur, rfl, e2, hh, r⟩⟩ := id hO
  · exact absurd h (by decide)
  · exact ⟨g, cap, rfl, ⟨(Ag.owns_cells hO).1, fun i c hc j u hu => (Ag.owns_cells hO).2 _ _ (Co.enc_get _ i c hc j u hu)⟩, r.1, e2, hB⟩
theorem eq_cfg (w : World) (a b : Co.Zf) : (binOp .eql 23 (.agg (Co.cv a).toArray) (.agg (Co.cv b).toArray)).run Tryd.prog w = .ok (.bool (decide (a = b))) w := by
  obtain ⟨a1, a2, a3, a4, a5⟩ := a
  obtain ⟨b1, b2, b3, b4, b5⟩ := b
  have e3 := fun d a b => run_equalIn_int (P := Tryd.prog) w d 3 .i64 .i64 a b Tryd.underlying3
  rw [run_eql_struct, run_equalIn_agg w 9999 _ _ _ (by kernel_rfl) (by kernel_rfl)]
  simp only [Program.fieldsOf, Tryd.underlying23, Co.cv]
  have e4 : ∀ a b, (Op.equalIn 9999 3 (.int .i64 a) (.int .i64 b)).run Tryd.prog w = .ok (a == b) w := fun a b => e3 9998 a b
  cases h1 : (a1 == b1) <;> cases h2 : (a2 == b2) <;> cases h3 : (a3 == b3) <;> cases h4 : (a4 == b4) <;> cases h5 : (a5 == b5) <;> simp [Op.eqFields, part, Tryd.isAgg3, e4, h1, h2, h3, h4, h5] <;> simp_all
theorem guard_cfg : Tryd.prog.eqGuardType Tryd.prog.depth 23 = false := by kernel_rfl
/-- One of all, cell by cell. -/
theorem AL.at {w : World} {g : Nat} (h : AL w g) (i : Nat) (hi : i < 378) : ∃ x1 x2 x3 x4 x5 : Int, Co.az[i]? = some (x1, x2, x3, x4, x5) ∧ w.cell? ⟨g, i * 5, none⟩ = some (.int .i64 x1) ∧ w.cell? ⟨g, i * 5 + 1, none⟩ = some (.int .i64 x2) ∧ w.cell? ⟨g, i * 5 + 2, none⟩ = some (.int .i64 x3) ∧ w.cell? ⟨g, i * 5 + 3, none⟩ = some (.int .i64 x4) ∧ w.cell? ⟨g, i * 5 + 4, none⟩ = some (.int .i64 x5) := by
  obtain ⟨c, hc⟩ : ∃ c, Co.all[i]? = some c := ⟨_, List.getElem?_eq_getElem (by rw [Co.all_len]; exact hi)⟩
  have hz : Co.az[i]? = some (Co.toZ c) := by unfold Co.az; rw [List.getElem?_map, hc]; rfl
  exact ⟨_, _, _, _, _, hz, h.2 i c hc 0 _ rfl, h.2 i c hc 1 _ rfl, h.2 i c hc 2 _ rfl, h.2 i c hc 3 _ rfl, h.2 i c hc 4 _ rfl⟩
set_option maxHeartbeats 4000000 in
theorem rnumb_c (z1 z2 z3 z4 z5 : Int) (w : World) :
    Calls Tryd.prog 11 #[.agg #[.int .i64 z1, .int .i64 z2, .int .i64 z3, .int .i64 z4, .int .i64 z5]] w fun e w' => e = .returned (.tuple #[.int .i64 (Co.numI (z1, z2, z3, z4, z5) : Nat), .bool (decide ((z1, z2, z3, z4, z5) ∈ Co.az))]) ∧ Below w.heap.size w w' := by
  have RA := hide rall_a
  obtain ⟨W, hW⟩ : ∃ W, W = w.alloc (.cells #[.int .i64 z1, .int .i64 z2, .int .i64 z3, .int .i64 z4, .int .i64 z5] 23) := ⟨_, rfl⟩
  have HB0 : Hid (Below w.heap.size w W) := by rw [hW]; exact below_alloc w _
  have HC : Hid (Cel W w.heap.size [.int .i64 z1, .int .i64 z2, .int .i64 z3, .int .i64 z4, .int .i64 z5] 23) := by rw [hW]; exact Cel.new w _ _
  have HW := hide hW
  clear hW
  obtain ⟨gb, hgb⟩ : ∃ gb, Hid (gb = w.heap.size) := ⟨_, rfl⟩
  rw [← hgb.out] at HC
  go_enter Tryd.func11, Tryd.ntmps11
  go_wp2_with fail
  rw [← HW.out, ← hgb.out]
  refine (RA.out _).mono ?_
  rintro e w1 ⟨g, cap, rfl, hA, hcap, hg, hB⟩
  have HA := hide hA
  have HB1 := hide (HB0.out.trans (hB.mono HB0.out.size))
  have HC1 := hide (HC.out.kept hB)
  have GC := guard_cfg
  clear hA hB hg RA HC HB0
  go_wp2
  go_loopw [5] (fun vi wr => ∃ i : Nat, i ≤ 378 ∧ vi = .int .i64 (i : Nat) ∧ Hid (∀ j, j < i → Co.az[j]? ≠ some (z1, z2, z3, z4, z5)) ∧ Hid (Below w1.heap.size w1 wr)) (fun vi _ => 378 - (intOf vi).toNat)
  case atStart => exact ⟨0, by omega, rfl, fun j h => absurd h (Nat.not_lt_zero _), Below.refl _ _⟩
  case round =>
    obtain ⟨i, hi, rfl, HN, HB⟩ := hrel
    have HBB := hide (HB1.out.trans (HB.out.mono HB1.out.size))
    by_cases hlt : i < 378
    · have hltz : (i : Int) < 378 := by omega
      obtain ⟨x1, x2, x3, x4, x5, hz, e1, e2, e3, e4, e5⟩ := (HA.out.keep HB.out).at i hlt
      have HC2 := HC1.out.kept HB.out
      have q0 := HC2.cell 0 rfl
      have q1 := HC2.cell 1 rfl
      have q2 := HC2.cell 2 rfl
      have q3 := HC2.cell 3 rfl
      have q4 := HC2.cell 4 rfl
      have HZ := hide hz
      clear hz HC2
      by_cases he : (x1, x2, x3, x4, x5) = (z1, z2, z3, z4, z5)
      · have EQ : ∀ w, (binOp .eql 23 (.agg #[.int .i64 x1, .int .i64 x2, .int .i64 x3, .int .i64 x4, .int .i64 x5]) (.agg #[.int .i64 z1, .int .i64 z2, .int .i64 z3, .int .i64 z4, .int .i64 z5])).run Tryd.prog w = .ok (.bool true) w := fun w => by
          have := eq_cfg w (x1, x2, x3, x4, x5) (z1, z2, z3, z4, z5)
          rw [decide_eq_true he] at this
          exact this
        have hm : (z1, z2, z3, z4, z5) ∈ Co.az := by rw [← he]; exact List.mem_of_getElem? HZ.out
        have R1 : Hid (Co.numI (z1, z2, z3, z4, z5) = i) := by
          show Co.numI _ = i
          unfold Co.numI
          rw [if_pos hm]
          exact Co.first_ix HN.out (by rw [← he]; exact HZ.out)
        have R2 := hide (decide_eq_true hm)
        clear he hm
        go_wp2
        go_quiet (fail)
        go_wp2
        go_ret2
        rw [R1.out, R2.out]
        exact ⟨rfl, below_drewN HBB.out _⟩
      · have EQ : ∀ w, (binOp .eql 23 (.agg #[.int .i64 x1, .int .i64 x2, .int .i64 x3, .int .i64 x4, .int .i64 x5]) (.agg #[.int .i64 z1, .int .i64 z2, .int .i64 z3, .int .i64 z4, .int .i64 z5])).run Tryd.prog w = .ok (.bool false) w := fun w => by
          have := eq_cfg w (x1, x2, x3, x4, x5) (z1, z2, z3, z4, z5)
          rw [decide_eq_false he] at this
          exact this
        have HN2 : Hid (∀ j, j < i + 1 → Co.az[j]? ≠ some (z1, z2, z3, z4, z5)) := fun j hj => by
          by_cases c : j = i
          · subst c
            rw [HZ.out]
            intro q
            injection q with q
            exact he q
          · exact HN.out j (by omega)
        clear he
        go_wp2
        go_quiet (fail)
        go_wp2
        exact ⟨⟨i + 1, by omega, by go_num, HN2, below_drewN HB.out _⟩, by simp only [intOf]; omega⟩
    · have hge : (378 : Int) ≤ (i : Int) := by omega
      have hm : (z1, z2, z3, z4, z5) ∉ Co.az := fun h => by
        obtain ⟨j, hj⟩ := List.getElem?_of_mem h
        have hl := (List.getElem?_eq_some_iff.1 hj).1
        rw [Co.az_len] at hl
        exact HN.out j (by omega) hj
      have R1 : Hid (Co.numI (z1, z2, z3, z4, z5) = 0) := by
        show Co.numI _ = 0
        unfold Co.numI
        rw [if_neg hm]
      have R2 := hide (decide_eq_false hm)
      clear hm
      go_wp2
      go_ret2
      rw [R1.out, R2.out]
      exact ⟨rfl, HBB.out⟩
end Go.Proofs.YtadfnllfeoidhaaDoor
