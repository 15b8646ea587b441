/-
  The contracts of the program's copied, count and sought.
-/
import Derived.Test.YtcgnphffjfffgaaPc
import Derived.Test.YtcgnphffjfffgaaPa2
import Derived.Test.YtcgnphffjfffgaaPa3
import Derived.Test.YtcgnphffjfffgaaPi
namespace Go.Proofs.Ytcgnphffjfffgaa
open Go.RowKit Num Bit
set_option linter.unusedVariables false
set_option linter.unusedSimpArgs false
set_option maxRecDepth 100000

/-- A row in words of its own. -/
def COut (N : Int) (xs : List Nat) (w : World) (e : Ending) (w' : World) : Prop := ∃ bo bc, e = .returned (.agg #[.int .i64 N, .slice bo xs.length bc]) ∧ Wd w' bo xs ∧ xs.length ≤ bc ∧ Below w.heap.size w w'

set_option maxHeartbeats 2000000 in
theorem pcopied_c (N : Int) (ao : Option Addr) (xs : List Nat) (cap : Nat) (w : World) (hx : Wd w ao xs) (hl : xs.length ≤ 1048576) :
    Calls Try.prog 29 #[.agg #[.int .i64 N, .slice ao xs.length cap]] w (COut N xs w) := by
  go_enter Try.func29, Try.ntmps29
  go_wp2
  obtain ⟨W, hW⟩ : ∃ W, W = (w.alloc (.cells #[.int .i64 N, .slice ao xs.length cap] 24)).alloc (.cells #[.int .i64 0, .slice none 0 0] 24) := ⟨_, rfl⟩
  have bW : Below w.heap.size w W := by rw [hW]; exact (below_alloc w _).alloc (by simp) _
  have B1 : Cel W w.heap.size [.int .i64 N, .slice ao xs.length cap] 24 := by rw [hW]; exact (Cel.new w _ _).alloc _
  have B2 : Cel W (w.heap.size + 1) [.int .i64 0, .slice none 0 0] 24 := by rw [hW]; exact Cel.new2 w _ _ _
  rw [← hW]
  clear hW
  refine region_g [6] (fun w' => Cel w' w.heap.size [.int .i64 N, .slice ao xs.length cap] 24 ∧ Cel w' (w.heap.size + 1) [.int .i64 0, .slice none 0 0] 24) (by kernel_rfl) ?_
  have hS : Cel W.drew w.heap.size [.int .i64 N, .slice ao xs.length cap] 24 ∧ Cel W.drew (w.heap.size + 1) [.int .i64 0, .slice none 0 0] 24 := ⟨B1, B2⟩
  have bW2 : Below w.heap.size w W.drew := bW.drew
  generalize W.drew = V at *
  clear B1 B2 bW
  refine AnyG.take 0 (v := ?vv1) rfl (by kernel_rfl) (by kernel_rfl) (by kernel_rfl) (by kernel_rfl) (fun _ _ _ h => h) hS ?hy1 (by rfl) ?rest1
  case hy1 =>
    intro w0 h0
    go_simp
    try with_reducible rfl
  simp only [Act.put, List.setIfInBounds_toArray, List.set_cons_zero, List.set_cons_succ]
  refine AnyG.take 1 (v := ?vv2) rfl (by kernel_rfl) (by kernel_rfl) (by kernel_rfl) (by kernel_rfl) (fun _ _ _ h => h) hS ?hy2 (by rfl) ?rest2
  case hy2 =>
    intro w0 h0
    have c0 := h0.1.cell 0 rfl
    go_simp
    try with_reducible rfl
  simp only [Act.put, List.setIfInBounds_toArray, List.set_cons_zero, List.set_cons_succ]
  refine AnyG.take 2 (v := ?vv3) rfl (by kernel_rfl) (by kernel_rfl) (by kernel_rfl) (by kernel_rfl) (fun _ _ _ h => h) hS ?hy3 (by rfl) ?rest3
  case hy3 =>
    intro w0 h0
    go_simp
    try with_reducible rfl
  simp only [Act.put, List.setIfInBounds_toArray, List.set_cons_zero, List.set_cons_succ]
  refine AnyG.take 3 (v := ?vv4) rfl (by kernel_rfl) (by kernel_rfl) (by kernel_rfl) (by kernel_rfl) (fun _ _ _ h => h) hS ?hy4 (by rfl) ?rest4
  case hy4 =>
    intro w0 h0
    have c1 := h0.1.cell 1 rfl
    go_simp
    try with_reducible rfl
  simp only [Act.put, List.setIfInBounds_toArray, List.set_cons_zero, List.set_cons_succ]
  refine AnyG.one 4 (by kernel_rfl) rfl ?_
  intro K hK
  go_simp
  refine (clone_c _ _ _ _ (hx.keep bW2) hl).mono ?_
  rintro e w2 ⟨bo, bc, rfl, hO, hle, hb⟩
  have hS2 := And.intro (hS.1.kept hb) (hS.2.kept hb)
  have bw2 := bW2.trans (hb.mono bW2.size)
  refine hK.out _ _ (fun _ => hS2) ?_
  clear hK K
  try simp only [Act.put, List.setIfInBounds_toArray, List.set_cons_zero, List.set_cons_succ]
  refine AnyG.take 5 (v := ?vv5) rfl (by kernel_rfl) (by kernel_rfl) (by kernel_rfl) (by kernel_rfl) (fun _ _ _ h => h) hS2 ?hy5 (by rfl) ?rest5
  case hy5 =>
    intro w0 h0
    go_simp
    try with_reducible rfl
  simp only [Act.put, List.setIfInBounds_toArray, List.set_cons_zero, List.set_cons_succ]
  refine AnyG.one 6 (by kernel_rfl) rfl ?_
  intro K hK
  have x0 := hS2.2.cell 0 rfl
  have x1 := hS2.2.cell 1 rfl
  have f0 := hS2.2.frozen 0
  have f1 := hS2.2.frozen 1
  go_simp
  refine hK.out _ _ (fun h => absurd (by decide) h) ?_
  clear hK K
  try simp only [Act.put, List.setIfInBounds_toArray, List.set_cons_zero, List.set_cons_succ]
  refine AnyG.done (by kernel_rfl) ?_ _
  have hC := (hS2.2.set 0 (.int .i64 N)).set 1 (.slice bo xs.length bc)
  have oW : Only (w.heap.size + 1) w2 ((w2.setCell ⟨w.heap.size + 1, 0, none⟩ (.int .i64 N)).setCell ⟨w.heap.size + 1, 1, none⟩ (.slice bo xs.length bc)) := ((Only.refl _ _).set 0 _).set 1 _
  have hW2 := oW.wd hO (hO.apart hS2.2 (by intro v hv n; simp at hv; rcases hv with rfl | rfl <;> simp))
  have HF : Hid (Wd ((w2.setCell ⟨w.heap.size + 1, 0, none⟩ (.int .i64 N)).setCell ⟨w.heap.size + 1, 1, none⟩ (.slice bo xs.length bc)) bo xs ∧ xs.length ≤ bc ∧ Below w.heap.size w ((w2.setCell ⟨w.heap.size + 1, 0, none⟩ (.int .i64 N)).setCell ⟨w.heap.size + 1, 1, none⟩ (.slice bo xs.length bc))) := ⟨hW2, hle, bw2.trans (oW.below (Nat.le_succ _))⟩
  have k0 := hC.cell 0 rfl
  have k1 := hC.cell 1 rfl
  clear hW2 oW hC hO hle bw2 hS2 hS hb bW2 x0 x1 f0 f1
  go_wp2
  exact bodyPost_ret (v := .agg #[.int .i64 N, .slice bo xs.length bc]) (by simp [results, Try.results29, go_sem, k0, k1]) rfl ⟨bo, bc, rfl, HF.out⟩
end Go.Proofs.Ytcgnphffjfffgaa
