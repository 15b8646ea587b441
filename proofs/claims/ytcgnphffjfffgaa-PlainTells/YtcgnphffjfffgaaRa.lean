/-
  The contracts of the document's Numbers and Same.
-/
import Derived.Test.YtcgnphffjfffgaaPm
import Derived.Test.YtcgnphffjfffgaaSame
import Derived.Test.YtcgnphffjfffgaaRefSlice
import Derived.Test.YtcgnphffjfffgaaMb
namespace Go.Proofs.Ytcgnphffjfffgaa
open Go.RowKit Num Bit
set_option linter.unusedVariables false
set_option linter.unusedSimpArgs false
set_option maxRecDepth 100000

set_option maxHeartbeats 2000000 in
theorem rnum_c (ao : Option Addr) (l : List Int) (cap : Nat) (bo : Option Addr) (m : List Int) (dap : Nat) (w : World) (hx : Nd w ao l) (hy : Nd w bo m) (hl : l.length ≤ 1048576) :
    Calls Try.prog 36 #[.slice ao l.length cap, .slice bo m.length dap] w fun e w' => e = .returned (.bool (decide (l = m))) ∧ Below w.heap.size w w' := by
  by_cases h2 : l.length = m.length
  · have h2' : ((l.length : Int) != (m.length : Int)) = false := by simp [h2]
    have H2 : Hid (l.length = m.length) := h2
    have h3 : l.length ≤ m.length := by omega
    clear h2
    go_enter Try.func36, Try.ntmps36
    go_wp2
    go_loopw [5] (fun i wr => ∃ k : Nat, k ≤ l.length ∧ i = .int .i64 k ∧ Hid (∀ j, j < k → gi l j = gi m j) ∧ Below w.heap.size w wr) (fun i _ => l.length - (intOf i).toNat)
    case atStart => exact ⟨0, by omega, rfl, fun j hj => absurd hj (by omega), Below.refl _ _⟩
    case round =>
      obtain ⟨k, hk, rfl, H, hw⟩ := hrel
      by_cases hlt : k < l.length
      · obtain ⟨b, off, rfl, hb, hc⟩ := hx (by omega)
        obtain ⟨d, off2, rfl, hd, hc2⟩ := hy (by omega)
        have e1 := (hw.cell (p := ⟨b, off + k, none⟩) hb).trans (hc k hlt)
        have e2 := (hw.cell (p := ⟨d, off2 + k, none⟩) hd).trans (hc2 k (by omega))
        have hlt2 : k < m.length := by omega
        have hlt3 : (k : Int) < (l.length : Int) := by omega
        have hlt4 : (k : Int) < (m.length : Int) := by omega
        clear hc hc2
        by_cases hv : gi l k = gi m k
        · have hne : (gi l k != gi m k) = false := by simp [hv]
          go_wp2
          go_quiet (fail)
          go_wp2
          refine ⟨⟨k + 1, by omega, by go_num, ?_, below_drewN hw _⟩, by simp only [intOf]; omega⟩
          intro j hj
          by_cases e : j = k
          · subst e; exact hv
          · exact H.out j (by omega)
        · have hne : (gi l k != gi m k) = true := by simp [hv]
          have R : Hid (decide (l = m) = false) := by
            show decide (l = m) = false
            simp only [decide_eq_false_iff_not]
            intro e; subst e; exact hv rfl
          go_wp2
          go_quiet (fail)
          go_wp2
          go_ret
          rw [R.out]
          exact ⟨rfl, below_drewN hw _⟩
      · have R : Hid (decide (l = m) = true) := by
          show decide (l = m) = true
          simp only [decide_eq_true_eq]
          exact gi_ext H2.out (fun i hi => H.out i (by omega))
        go_wp2
        go_ret
        rw [R.out]
        exact ⟨rfl, hw⟩
  · have h2' : ((l.length : Int) != (m.length : Int)) = true := by simp; omega
    have R : Hid (decide (l = m) = false) := by
      show decide (l = m) = false
      simp only [decide_eq_false_iff_not]
      intro e; subst e; exact h2 rfl
    go_enter Try.func36, Try.ntmps36
    go_wp2
    go_ret
    rw [R.out]
    exact ⟨rfl, Below.refl _ _⟩

set_option maxHeartbeats 4000000 in
theorem rsame_c (N : Int) (ao : Option Addr) (xs : List Nat) (cap : Nat) (so : Option Addr) (su : List Int) (sc : Nat) (tO : Option Addr) (sb : List Int) (tc : Nat) (M : Int) (bo : Option Addr) (ys : List Nat) (dap : Nat) (po : Option Addr) (pu : List Int) (pc : Nat) (qo : Option Addr) (qb : List Int) (qc : Nat) (w : World)
    (hx : Wd w ao xs) (hy : Wd w bo ys) (hl : xs.length ≤ 1048576) (s1 : Nd w so su) (s2 : Nd w po pu) (sl : su.length ≤ 1048576) (t1 : Nd w tO sb) (t2 : Nd w qo qb) (tl : sb.length ≤ 1048576) :
    Calls Try.prog 13 #[.agg #[.int .i64 N, .slice ao xs.length cap, .slice so su.length sc, .slice tO sb.length tc], .agg #[.int .i64 M, .slice bo ys.length dap, .slice po pu.length pc, .slice qo qb.length qc]] w fun e w' => e = .returned (.bool ((decide (N = M) && decide (xs = ys)) && (decide (su = pu) && decide (sb = qb)))) ∧ Below w.heap.size w w' := by
  obtain ⟨W, hW⟩ : ∃ W, W = (w.alloc (.cells #[.int .i64 N, .slice ao xs.length cap, .slice so su.length sc, .slice tO sb.length tc] 29)).alloc (.cells #[.int .i64 M, .slice bo ys.length dap, .slice po pu.length pc, .slice qo qb.length qc] 29) := ⟨_, rfl⟩
  have bW : Below w.heap.size w W := by rw [hW]; exact (below_alloc w _).alloc (by simp) _
  have B1 : Cel W w.heap.size [.int .i64 N, .slice ao xs.length cap, .slice so su.length sc, .slice tO sb.length tc] 29 := by rw [hW]; exact (Cel.new w _ _).alloc _
  have B2 : Cel W (w.heap.size + 1) [.int .i64 M, .slice bo ys.length dap, .slice po pu.length pc, .slice qo qb.length qc] 29 := by rw [hW]; exact Cel.new2 w _ _ _
  have C1 : Hid (∀ w0, w0 = W → Calls Try.prog 23 #[.agg #[.int .i64 N, .slice ao xs.length cap], .agg #[.int .i64 M, .slice bo ys.length dap]] w0 fun e w' => e = .returned (.bool (decide (N = M) && decide (xs = ys))) ∧ Below w0.heap.size w0 w') := fun w0 h => by subst h; exact same_c N ao xs cap M bo ys dap w0 (hx.keep bW) (hy.keep bW) hl
  have C2 : Hid (∀ w0, Below w.heap.size w w0 → Calls Try.prog 36 #[.slice so su.length sc, .slice po pu.length pc] w0 fun e w' => e = .returned (.bool (decide (su = pu))) ∧ Below w0.heap.size w0 w') := fun w0 h => rnum_c so su sc po pu pc w0 (s1.keep h) (s2.keep h) sl
  have C3 : Hid (∀ w0, Below w.heap.size w w0 → Calls Try.prog 36 #[.slice tO sb.length tc, .slice qo qb.length qc] w0 fun e w' => e = .returned (.bool (decide (sb = qb))) ∧ Below w0.heap.size w0 w') := fun w0 h => rnum_c tO sb tc qo qb qc w0 (t1.keep h) (t2.keep h) tl
  generalize (decide (N = M) && decide (xs = ys)) = b1 at *
  generalize decide (su = pu) = b2 at *
  generalize decide (sb = qb) = b3 at *
  go_enter Try.func13, Try.ntmps13
  go_wp2_with fail
  rw [← hW]
  refine (C1.out _ rfl).mono ?_
  rintro e w1 ⟨rfl, hb⟩
  have b1w := bW.trans (hb.mono bW.size)
  have c0 := (B1.kept hb).cell 0 rfl
  have d0 := (B2.kept hb).cell 0 rfl
  have c1 := (B1.kept hb).cell 1 rfl
  have d1 := (B2.kept hb).cell 1 rfl
  have c2 := (B1.kept hb).cell 2 rfl
  have d2 := (B2.kept hb).cell 2 rfl
  have c3 := (B1.kept hb).cell 3 rfl
  have d3 := (B2.kept hb).cell 3 rfl
  cases b1 with
  | false =>
    go_wp2
    go_ret
    exact ⟨rfl, b1w⟩
  | true =>
    go_wp2_with fail
    refine (C2.out _ b1w).mono ?_
    rintro e w2 ⟨rfl, hb2⟩
    have b2w := b1w.trans (hb2.mono b1w.size)
    have c0' := ((B1.kept hb).kept hb2).cell 0 rfl
    have d0' := ((B2.kept hb).kept hb2).cell 0 rfl
    have c1' := ((B1.kept hb).kept hb2).cell 1 rfl
    have d1' := ((B2.kept hb).kept hb2).cell 1 rfl
    have c2' := ((B1.kept hb).kept hb2).cell 2 rfl
    have d2' := ((B2.kept hb).kept hb2).cell 2 rfl
    have c3' := ((B1.kept hb).kept hb2).cell 3 rfl
    have d3' := ((B2.kept hb).kept hb2).cell 3 rfl
    cases b2 with
    | false =>
      go_wp2
      go_ret
      exact ⟨rfl, b2w⟩
    | true =>
      go_wp2_with fail
      refine (C3.out _ b2w).mono ?_
      rintro e w3 ⟨rfl, hb3⟩
      have b3w := b2w.trans (hb3.mono b2w.size)
      go_wp2
      go_ret
      exact ⟨by cases b3 <;> rfl, b3w⟩
end Go.Proofs.Ytcgnphffjfffgaa
