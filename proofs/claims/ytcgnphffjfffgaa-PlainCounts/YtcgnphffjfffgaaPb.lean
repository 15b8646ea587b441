/-
  The contracts of the program's groups and wordsOf.
-/
import Derived.Test.YtcgnphffjfffgaaRd7
import Derived.Test.YtcgnphffjfffgaaPv
namespace Go.Proofs.Ytcgnphffjfffgaa
open Go.RowKit Num Bit
set_option linter.unusedVariables false
set_option linter.unusedSimpArgs false
set_option maxRecDepth 100000

theorem groups_c (m : Nat) (hm : m ≤ 1048576) (ao : Option Addr) (n cap : Nat) (w : World) :
    Calls Try.prog 30 #[.agg #[.int .i64 m, .slice ao n cap]] w fun e w' => e = .returned (.int .i64 ((m / 512 + 1 : Nat) : Int)) ∧ Below w.heap.size w w' := by
  go_enter Try.func30, Try.ntmps30
  go_wp2
  go_ret
  exact ⟨ret_int (by omega), below_alloc w _⟩

theorem ret_slice {a : Option Addr} {n k c : Nat} (h : n = k) : Ending.returned (.slice a n c) = .returned (.slice a k c) := by rw [h]
theorem wd_grp {w w' : World} {b off : Nat} {xs : List Nat} (hb : b < w.heap.size) (hcc : ∀ i, i < xs.length → w.cell? ⟨b, off + i, none⟩ = some (.int .u64 (gt xs i))) (hw : Below w.heap.size w w') (g : Nat) : Wd w' (some ⟨b, off + 8 * g, none⟩) (grp xs g) := by
  intro h0
  refine ⟨b, off + 8 * g, rfl, Nat.lt_of_lt_of_le hb hw.size, fun i hi => ?_⟩
  rw [length_grp] at hi
  rw [gt_grp xs g i (by omega), hw.cell (p := ⟨b, off + 8 * g + i, none⟩) hb, Nat.add_assoc]
  exact hcc _ (by omega)
theorem wd_nil (w : World) (bo : Option Addr) {xs : List Nat} (h : xs.length = 0) : Wd w bo xs := fun h0 => absurd h0 (by omega)

/-- The words of a group are answered. -/
def WOut (xs : List Nat) (g : Nat) (w : World) (e : Ending) (w' : World) : Prop := ∃ bo bc, e = .returned (.slice bo (grp xs g).length bc) ∧ Wd w' bo (grp xs g) ∧ Below w.heap.size w w'
theorem wout0 {xs : List Nat} {g n : Nat} {w w' : World} {e : Ending} {bo : Option Addr} {k bc : Nat} (hn : Hid (n = xs.length)) (hw : Below w.heap.size w w') (he : e = .returned (.slice bo k bc)) (h8 : n ≤ 8 * g) (hk : k = 0) : WOut xs g w e w' := by
  have h0 : (grp xs g).length = 0 := by rw [length_grp]; have := hn.out; omega
  subst he hk
  exact ⟨bo, bc, ret_slice h0.symm, wd_nil _ _ h0, hw⟩
theorem wout1 {xs : List Nat} {g n : Nat} {w w' : World} {e : Ending} {b off : Nat} {k bc : Nat} (hn : Hid (n = xs.length)) (hx : Hid (Wd w (some ⟨b, off, none⟩) xs)) (hw : Below w.heap.size w w') (o2 : Nat) (he : e = .returned (.slice (some ⟨b, o2, none⟩) k bc)) (h8 : 8 * g < n) (ho : o2 = off + 8 * g) (hk : k = min (8 * g + 8) n - 8 * g) : WOut xs g w e w' := by
  have h0 : (grp xs g).length = k := by rw [length_grp]; have := hn.out; omega
  obtain ⟨b', off', e2, hb, hcc⟩ := hx.out (by have := hn.out; omega)
  simp only [Option.some.injEq, Addr.mk.injEq] at e2
  obtain ⟨rfl, rfl, _⟩ := e2
  subst he ho
  exact ⟨_, bc, ret_slice h0.symm, wd_grp hb hcc hw g, hw⟩

set_option maxHeartbeats 2000000 in
theorem wordsOf_o (m : Nat) (hm : m ≤ 1048576) (ao : Option Addr) (xs : List Nat) (cap n g : Nat) (HN : Hid (n = xs.length)) (l1 : 8 * g ≤ n) (l2 : n ≤ 16384) (hcap : n ≤ cap) (w : World) (HX : Hid (Wd w ao xs)) :
    Calls Try.prog 31 #[.agg #[.int .i64 m, .slice ao n cap], .int .i64 g] w (WOut xs g w) := by
  by_cases h8 : n = 8 * g
  · have d1 : (n : Int) < ((g : Int) + 1) * 8 := by omega
    cases ao with
    | none =>
      go_enter Try.func31, Try.ntmps31
      go_wp2
      all_goals go_ret
      all_goals exact wout0 HN (below_alloc w _) rfl (by omega) (by omega)
    | some a =>
      go_enter Try.func31, Try.ntmps31
      go_wp2
      all_goals go_ret
      all_goals exact wout0 HN (below_alloc w _) rfl (by omega) (by omega)
  · obtain ⟨b, off, rfl, hb, hcc⟩ := HX.out (by have := HN.out; omega)
    clear hcc hb
    have h8' : 8 * g < n := by omega
    have h9 : 8 * g < cap := by omega
    by_cases h10 : n < 8 * g + 8
    · have d1 : (n : Int) < ((g : Int) + 1) * 8 := by omega
      go_enter Try.func31, Try.ntmps31
      go_wp2
      all_goals go_ret
      all_goals exact wout1 HN HX (below_alloc w _) _ rfl (by omega) (by omega) (by omega)
    · have d1 : ¬ (n : Int) < ((g : Int) + 1) * 8 := by omega
      have d2 : ((g : Int) + 1) * 8 ≤ (n : Int) := by omega
      go_enter Try.func31, Try.ntmps31
      go_wp2
      all_goals go_ret
      all_goals exact wout1 HN HX (below_alloc w _) _ rfl (by omega) (by omega) (by omega)
theorem wordsOf_c (m : Nat) (hm : m ≤ 1048576) (ao : Option Addr) (xs : List Nat) (cap : Nat) (hl : xs.length = (m + 63) / 64) (hcap : xs.length ≤ cap) (g : Nat) (hg : g ≤ m / 512) (w : World) (hx : Wd w ao xs) :
    Calls Try.prog 31 #[.agg #[.int .i64 m, .slice ao xs.length cap], .int .i64 g] w fun e w' => ∃ bo bc, e = .returned (.slice bo (grp xs g).length bc) ∧ Wd w' bo (grp xs g) ∧ Below w.heap.size w w' :=
  wordsOf_o m hm ao xs cap xs.length g rfl (by omega) (by omega) hcap w hx
end Go.Proofs.Ytcgnphffjfffgaa
