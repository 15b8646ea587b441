/-
  The contracts of the landed sampleBits and bits.
-/
import Derived.Test.YtckkhmmicbpihaaM34
namespace Go.Proofs.Ytckkhmmicbpihaa
open Go.RowKit Num Hp
set_option linter.unusedVariables false
set_option linter.unusedSimpArgs false
set_option maxRecDepth 100000

namespace Pn
def smp (k : Int) (n M : Nat) : Nat := row k (n + 1) (n / M + 1) + (n / M + 1) * bl (n / M) + (n / M + 1) * bl n
theorem smp_le (k : Int) {n M : Nat} (hn : n ≤ 8192) : smp k n M ≤ 1000000 := by
  have h2 : n / M ≤ n := Nat.div_le_self _ _
  have h3 := row_le k (n := n + 1) (m := n / M + 1) (by omega) (by omega)
  have h4 := Nat.mul_le_mul (show n / M + 1 ≤ 8193 by omega) (bl_le (x := n / M) (by omega))
  have h5 := Nat.mul_le_mul (show n / M + 1 ≤ 8193 by omega) (bl_le (x := n) (by omega))
  unfold smp
  omega
theorem btN_smp (s i g k : Int) (l : List Int) (n M : Nat) : btN s i g k l n M = txt s i g k l + 8256 + smp k n M := by unfold btN smp; omega
end Pn
set_option maxHeartbeats 4000000 in
theorem psample_c (s i g k : Int) (M n gl : Nat) (an : Option Addr) (mn cn D : Nat) (w : World) (m1 : 1 ≤ M) (m2 : M ≤ 64) (hn : n ≤ 8192) :
    Calls Try.prog 49 #[.agg #[.int .i64 (n : Nat), .slice (some ⟨gl, 0, none⟩) 8 8, .slice an mn cn, .int .i64 (D : Nat)], .agg #[.int .i64 s, .int .i64 i, .int .i64 g, .int .i64 k, .int .i64 (M : Nat)]] w fun e w' => e = .returned (.int .i64 (Pn.smp k n M : Nat)) ∧ Below w.heap.size w w' := by
  obtain ⟨W, hW⟩ : ∃ W, W = (w.alloc (.cells #[.int .i64 (n : Nat), .slice (some ⟨gl, 0, none⟩) 8 8, .slice an mn cn, .int .i64 (D : Nat)] 44)).alloc (.cells #[.int .i64 s, .int .i64 i, .int .i64 g, .int .i64 k, .int .i64 (M : Nat)] 23) := ⟨_, rfl⟩
  have A1 := hide (show Cel W w.heap.size [.int .i64 (n : Nat), .slice (some ⟨gl, 0, none⟩) 8 8, .slice an mn cn, .int .i64 (D : Nat)] 44 by rw [hW]; exact (Cel.new w _ _).alloc _)
  have A2 := hide (show Cel W (w.heap.size + 1) [.int .i64 s, .int .i64 i, .int .i64 g, .int .i64 k, .int .i64 (M : Nat)] 23 by rw [hW]; exact Cel.new2 w _ _ _)
  have HbW := hide (show Below w.heap.size w W by rw [hW]; exact (below_alloc w _).alloc (by simp) _)
  have a0 := A1.out.cell 0 rfl
  have a4 := A2.out.cell 4 rfl
  obtain ⟨q, hq⟩ : ∃ q, Hid (q = n / M) := ⟨_, rfl⟩
  have hqn : q ≤ n := by rw [hq.out]; exact Nat.div_le_self _ _
  have eq : wrap64 ((n : Int) / (M : Int)) = (q : Int) := wq n M q hq.out (by omega)
  have eM : ((M : Int) == 0) = false := by simp; omega
  have C2 : Hid (∀ w0, Calls Try.prog 11 #[.int .i64 k, .int .i64 ((n : Int) + 1), .int .i64 ((q : Int) + 1)] w0 fun e w' => e = .returned (.int .i64 (Pn.row k (n + 1) (q + 1) : Nat)) ∧ w' = w0) := fun w0 => by
    have := prow0_c k (n + 1 : Nat) (q + 1 : Nat) w0
    rw [rowI_in (by omega) (by omega)] at this
    exact this
  have rl := Pn.row_le k (n := n + 1) (m := q + 1) (by omega) (by omega)
  have C3 := hide fun w0 => pwidth_c q (by omega) w0
  have C4 := hide fun w0 => pwidth_c n hn w0
  have b1 := Pn.bl_le (x := q) (by omega)
  have b2 := Pn.bl_le (x := n) (by omega)
  have p1 := Nat.mul_le_mul (show q + 1 ≤ 8193 by omega) b1
  have p2 := Nat.mul_le_mul (show q + 1 ≤ 8193 by omega) b2
  have E : Hid (Pn.smp k n M = Pn.row k (n + 1) (q + 1) + (q + 1) * Pn.bl q + (q + 1) * Pn.bl n) := by
    show _ = _
    rw [hq.out]
    rfl
  rw [E.out]
  generalize Pn.row k (n + 1) (q + 1) = rr at *
  generalize Pn.bl q = M1 at *
  generalize Pn.bl n = M2 at *
  have e1 : Hid (((q : Int) + 1) * (M1 : Int) = (((q + 1) * M1 : Nat) : Int)) := by show _ = _; rw [Int.natCast_mul]; rfl
  have e2 : Hid (((q : Int) + 1) * (M2 : Int) = (((q + 1) * M2 : Nat) : Int)) := by show _ = _; rw [Int.natCast_mul]; rfl
  generalize (q + 1) * M1 = P1 at *
  generalize (q + 1) * M2 = P2 at *
  clear hq E
  go_enter Try.func49, Try.ntmps49
  go_wp2_with fail
  rw [← hW]
  clear hW
  go_wp2
  refine region_g [] (fun w' => Cel w' w.heap.size [.int .i64 (n : Nat), .slice (some ⟨gl, 0, none⟩) 8 8, .slice an mn cn, .int .i64 (D : Nat)] 44 ∧ Cel w' (w.heap.size + 1) [.int .i64 s, .int .i64 i, .int .i64 g, .int .i64 k, .int .i64 (M : Nat)] 23 ∧ Below w.heap.size w w') (by kernel_rfl) ?_
  have hS : (fun w' => Cel w' w.heap.size [.int .i64 (n : Nat), .slice (some ⟨gl, 0, none⟩) 8 8, .slice an mn cn, .int .i64 (D : Nat)] 44 ∧ Cel w' (w.heap.size + 1) [.int .i64 s, .int .i64 i, .int .i64 g, .int .i64 k, .int .i64 (M : Nat)] 23 ∧ Below w.heap.size w w') W.drew := ⟨A1.out.drew, A2.out.drew, HbW.out.drew⟩
  clear A1 A2 HbW a0 a4
  generalize W.drew = V at *
  refine AnyG.take 0 (v := ?vv1) rfl (by kernel_rfl) (by kernel_rfl) (by kernel_rfl) (by kernel_rfl) (fun _ _ _ h => h) hS ?hy1 (by rfl) ?rest1
  case hy1 =>
    intro w0 h0
    go_simp
    try with_reducible rfl
  simp only [Act.put, List.getElem_toArray, List.getElem_cons_zero, List.getElem_cons_succ, List.setIfInBounds_toArray, List.set_cons_zero, List.set_cons_succ]
  refine AnyG.take 1 (v := ?vv2) rfl (by kernel_rfl) (by kernel_rfl) (by kernel_rfl) (by kernel_rfl) (fun _ _ _ h => h) hS ?hy2 (by rfl) ?rest2
  case hy2 =>
    intro w0 h0
    have e0 := h0.2.1.cell 0 rfl
    have e1 := h0.2.1.cell 1 rfl
    have e2 := h0.2.1.cell 2 rfl
    have e3 := h0.2.1.cell 3 rfl
    have e4 := h0.2.1.cell 4 rfl
    go_simp
    try with_reducible rfl
  simp only [Act.put, List.getElem_toArray, List.getElem_cons_zero, List.getElem_cons_succ, List.setIfInBounds_toArray, List.set_cons_zero, List.set_cons_succ]
  refine AnyG.take 2 (v := ?vv3) rfl (by kernel_rfl) (by kernel_rfl) (by kernel_rfl) (by kernel_rfl) (fun _ _ _ h => h) hS ?hy3 (by rfl) ?rest3
  case hy3 =>
    intro w0 h0
    go_simp
    try with_reducible rfl
  simp only [Act.put, List.getElem_toArray, List.getElem_cons_zero, List.getElem_cons_succ, List.setIfInBounds_toArray, List.set_cons_zero, List.set_cons_succ]
  refine AnyG.take 3 (v := ?vv4) rfl (by kernel_rfl) (by kernel_rfl) (by kernel_rfl) (by kernel_rfl) (fun _ _ _ h => h) hS ?hy4 (by rfl) ?rest4
  case hy4 =>
    intro w0 h0
    have d0 := h0.1.cell 0 rfl
    have d1 := h0.1.cell 1 rfl
    have d2 := h0.1.cell 2 rfl
    have d3 := h0.1.cell 3 rfl
    go_simp
    try with_reducible rfl
  simp only [Act.put, List.getElem_toArray, List.getElem_cons_zero, List.getElem_cons_succ, List.setIfInBounds_toArray, List.set_cons_zero, List.set_cons_succ]
  refine AnyG.take 4 (v := .int .i64 ((n : Int) + 1)) rfl (by kernel_rfl) (by kernel_rfl) (by kernel_rfl) (by kernel_rfl) (fun _ _ _ h => h) hS ?hy5 (by rfl) ?rest5
  case hy5 =>
    intro w0 h0
    have wr : IntKind.i64.wrap ((n : Int) + 1) = (n : Int) + 1 := by rw [IntKind.wrap_i64]; omega
    go_simp
    try with_reducible rfl
    try (rw [IntKind.wrap_i64]; omega)
  simp only [Act.put, List.getElem_toArray, List.getElem_cons_zero, List.getElem_cons_succ, List.setIfInBounds_toArray, List.set_cons_zero, List.set_cons_succ]
  refine AnyG.take 5 (v := ?vv6) rfl (by kernel_rfl) (by kernel_rfl) (by kernel_rfl) (by kernel_rfl) (fun _ _ _ h => h) hS ?hy6 (by rfl) ?rest6
  case hy6 =>
    intro w0 h0
    go_simp
    try with_reducible rfl
  simp only [Act.put, List.getElem_toArray, List.getElem_cons_zero, List.getElem_cons_succ, List.setIfInBounds_toArray, List.set_cons_zero, List.set_cons_succ]
  refine AnyG.take 7 (v := ?vv7) rfl (by kernel_rfl) (by kernel_rfl) (by kernel_rfl) (by kernel_rfl) (fun _ _ _ h => h) hS ?hy7 (by rfl) ?rest7
  case hy7 =>
    intro w0 h0
    go_simp
    try with_reducible rfl
  simp only [Act.put, List.getElem_toArray, List.getElem_cons_zero, List.getElem_cons_succ, List.setIfInBounds_toArray, List.set_cons_zero, List.set_cons_succ]
  refine AnyG.take 8 (v := ?vv8) rfl (by kernel_rfl) (by kernel_rfl) (by kernel_rfl) (by kernel_rfl) (fun _ _ _ h => h) hS ?hy8 (by rfl) ?rest8
  case hy8 =>
    intro w0 h0
    go_simp
    try with_reducible rfl
  simp only [Act.put, List.getElem_toArray, List.getElem_cons_zero, List.getElem_cons_succ, List.setIfInBounds_toArray, List.set_cons_zero, List.set_cons_succ]
  refine AnyG.take 9 (v := .int .i64 (q : Int)) rfl (by kernel_rfl) (by kernel_rfl) (by kernel_rfl) (by kernel_rfl) (fun _ _ _ h => h) hS ?hy9 (by rfl) ?rest9
  case hy9 =>
    intro w0 h0
    have wr : IntKind.i64.wrap ((q : Int) + 1 - 1) = (q : Int) := by rw [IntKind.wrap_i64]; omega
    go_simp
    try with_reducible rfl
    try (rw [IntKind.wrap_i64]; omega)
  simp only [Act.put, List.getElem_toArray, List.getElem_cons_zero, List.getElem_cons_succ, List.setIfInBounds_toArray, List.set_cons_zero, List.set_cons_succ]
  refine AnyG.take 13 (v := ?vv10) rfl (by kernel_rfl) (by kernel_rfl) (by kernel_rfl) (by kernel_rfl) (fun _ _ _ h => h) hS ?hy10 (by rfl) ?rest10
  case hy10 =>
    intro w0 h0
    go_simp
    try with_reducible rfl
  simp only [Act.put, List.getElem_toArray, List.getElem_cons_zero, List.getElem_cons_succ, List.setIfInBounds_toArray, List.set_cons_zero, List.set_cons_succ]
  refine AnyG.take 14 (v := ?vv11) rfl (by kernel_rfl) (by kernel_rfl) (by kernel_rfl) (by kernel_rfl) (fun _ _ _ h => h) hS ?hy11 (by rfl) ?rest11
  case hy11 =>
    intro w0 h0
    go_simp
    try with_reducible rfl
  simp only [Act.put, List.getElem_toArray, List.getElem_cons_zero, List.getElem_cons_succ, List.setIfInBounds_toArray, List.set_cons_zero, List.set_cons_succ]
  refine AnyG.take 15 (v := ?vv12) rfl (by kernel_rfl) (by kernel_rfl) (by kernel_rfl) (by kernel_rfl) (fun _ _ _ h => h) hS ?hy12 (by rfl) ?rest12
  case hy12 =>
    intro w0 h0
    have d0 := h0.1.cell 0 rfl
    have d1 := h0.1.cell 1 rfl
    have d2 := h0.1.cell 2 rfl
    have d3 := h0.1.cell 3 rfl
    go_simp
    try with_reducible rfl
  simp only [Act.put, List.getElem_toArray, List.getElem_cons_zero, List.getElem_cons_succ, List.setIfInBounds_toArray, List.set_cons_zero, List.set_cons_succ]
  refine AnyG.one 6 (by kernel_rfl) rfl ?_
  intro K hK
  go_simp
  refine (C2.out _).mono ?_
  rintro _ v2 ⟨rfl, rfl⟩
  refine hK.out _ _ (fun _ => hS) ?_
  clear hK K
  try simp only [Act.put, List.getElem_toArray, List.getElem_cons_zero, List.getElem_cons_succ, List.setIfInBounds_toArray, List.set_cons_zero, List.set_cons_succ]
  refine AnyG.one 10 (by kernel_rfl) rfl ?_
  intro K hK
  go_simp
  refine (C3.out _).mono ?_
  rintro _ v3 ⟨rfl, rfl⟩
  refine hK.out _ _ (fun _ => hS) ?_
  clear hK K
  try simp only [Act.put, List.getElem_toArray, List.getElem_cons_zero, List.getElem_cons_succ, List.setIfInBounds_toArray, List.set_cons_zero, List.set_cons_succ]
  refine AnyG.take 11 (v := .int .i64 (P1 : Int)) rfl (by kernel_rfl) (by kernel_rfl) (by kernel_rfl) (by kernel_rfl) (fun _ _ _ h => h) hS ?hy13 (by rfl) ?rest13
  case hy13 =>
    intro w0 h0
    have wr : IntKind.i64.wrap (((q : Int) + 1) * (M1 : Int)) = (P1 : Int) := by rw [e1.out, IntKind.wrap_i64]; omega
    go_simp
    try with_reducible rfl
    try (rw [IntKind.wrap_i64]; omega)
  simp only [Act.put, List.getElem_toArray, List.getElem_cons_zero, List.getElem_cons_succ, List.setIfInBounds_toArray, List.set_cons_zero, List.set_cons_succ]
  refine AnyG.take 12 (v := .int .i64 ((rr : Int) + (P1 : Int))) rfl (by kernel_rfl) (by kernel_rfl) (by kernel_rfl) (by kernel_rfl) (fun _ _ _ h => h) hS ?hy14 (by rfl) ?rest14
  case hy14 =>
    intro w0 h0
    have wr : IntKind.i64.wrap ((rr : Int) + (P1 : Int)) = (rr : Int) + (P1 : Int) := by rw [IntKind.wrap_i64]; omega
    go_simp
    try with_reducible rfl
    try (rw [IntKind.wrap_i64]; omega)
  simp only [Act.put, List.getElem_toArray, List.getElem_cons_zero, List.getElem_cons_succ, List.setIfInBounds_toArray, List.set_cons_zero, List.set_cons_succ]
  refine AnyG.one 16 (by kernel_rfl) rfl ?_
  intro K hK
  go_simp
  refine (C4.out _).mono ?_
  rintro _ v4 ⟨rfl, rfl⟩
  refine hK.out _ _ (fun _ => hS) ?_
  clear hK K
  try simp only [Act.put, List.getElem_toArray, List.getElem_cons_zero, List.getElem_cons_succ, List.setIfInBounds_toArray, List.set_cons_zero, List.set_cons_succ]
  refine AnyG.take 17 (v := .int .i64 (P2 : Int)) rfl (by kernel_rfl) (by kernel_rfl) (by kernel_rfl) (by kernel_rfl) (fun _ _ _ h => h) hS ?hy15 (by rfl) ?rest15
  case hy15 =>
    intro w0 h0
    have wr : IntKind.i64.wrap (((q : Int) + 1) * (M2 : Int)) = (P2 : Int) := by rw [e2.out, IntKind.wrap_i64]; omega
    go_simp
    try with_reducible rfl
    try (rw [IntKind.wrap_i64]; omega)
  simp only [Act.put, List.getElem_toArray, List.getElem_cons_zero, List.getElem_cons_succ, List.setIfInBounds_toArray, List.set_cons_zero, List.set_cons_succ]
  refine AnyG.take 18 (v := .int .i64 ((rr : Int) + (P1 : Int) + (P2 : Int))) rfl (by kernel_rfl) (by kernel_rfl) (by kernel_rfl) (by kernel_rfl) (fun _ _ _ h => h) hS ?hy16 (by rfl) ?rest16
  case hy16 =>
    intro w0 h0
    have wr : IntKind.i64.wrap ((rr : Int) + (P1 : Int) + (P2 : Int)) = (rr : Int) + (P1 : Int) + (P2 : Int) := by rw [IntKind.wrap_i64]; omega
    go_simp
    try with_reducible rfl
    try (rw [IntKind.wrap_i64]; omega)
  simp only [Act.put, List.getElem_toArray, List.getElem_cons_zero, List.getElem_cons_succ, List.setIfInBounds_toArray, List.set_cons_zero, List.set_cons_succ]
  refine AnyG.take 19 (v := ?vv17) rfl (by kernel_rfl) (by kernel_rfl) (by kernel_rfl) (by kernel_rfl) (fun _ _ _ h => h) hS ?hy17 (by rfl) ?rest17
  case hy17 =>
    intro w0 h0
    go_simp
    try with_reducible rfl
  simp only [Act.put, List.getElem_toArray, List.getElem_cons_zero, List.getElem_cons_succ, List.setIfInBounds_toArray, List.set_cons_zero, List.set_cons_succ]
  refine AnyG.done (by kernel_rfl) ?_ _
  have HB := hide hS.2.2
  clear hS
  go_wp2
  go_ret
  exact ⟨by go_num, HB.out⟩
set_option maxHeartbeats 4000000 in
theorem pbitsT_c (s i g k : Int) (M : Nat) (hc : Pn.CfI s i g k (M : Nat)) (l : List Int) (hT : Pn.okT l = true) (n gl : Nat) (hn : Hid (n = Hv.tot (cntOf l) 256)) (an : Option Addr) (mn cn D : Nat) (w : World) (m1 : 1 ≤ M) (m2 : M ≤ 64) (hx : Pn.TX w l gl an mn cn) :
    Calls Try.prog 23 #[.agg #[.int .i64 (n : Nat), .slice (some ⟨gl, 0, none⟩) 8 8, .slice an mn cn, .int .i64 (D : Nat)], .agg #[.int .i64 s, .int .i64 i, .int .i64 g, .int .i64 k, .int .i64 (M : Nat)]] w fun e w' => e = .returned (.int .i64 (Pn.btN s i g k l n M : Nat)) ∧ Below w.heap.size w w' := by
  obtain ⟨hw, ht⟩ := Pn.okT_parts hT
  obtain ⟨W, hW⟩ : ∃ W, W = (w.alloc (.cells #[.int .i64 (n : Nat), .slice (some ⟨gl, 0, none⟩) 8 8, .slice an mn cn, .int .i64 (D : Nat)] 44)).alloc (.cells #[.int .i64 s, .int .i64 i, .int .i64 g, .int .i64 k, .int .i64 (M : Nat)] 23) := ⟨_, rfl⟩
  have A1 := hide (show Cel W w.heap.size [.int .i64 (n : Nat), .slice (some ⟨gl, 0, none⟩) 8 8, .slice an mn cn, .int .i64 (D : Nat)] 44 by rw [hW]; exact (Cel.new w _ _).alloc _)
  have A2 := hide (show Cel W (w.heap.size + 1) [.int .i64 s, .int .i64 i, .int .i64 g, .int .i64 k, .int .i64 (M : Nat)] 23 by rw [hW]; exact Cel.new2 w _ _ _)
  have HbW := hide (show Below w.heap.size w W by rw [hW]; exact (below_alloc w _).alloc (by simp) _)
  have C1 : Hid (∀ w0, Below w.heap.size w w0 → Calls Try.prog 48 #[.agg #[.int .i64 (n : Nat), .slice (some ⟨gl, 0, none⟩) 8 8, .slice an mn cn, .int .i64 (D : Nat)], .agg #[.int .i64 s, .int .i64 i, .int .i64 g, .int .i64 k, .int .i64 (M : Nat)]] w0 fun e w' => e = .returned (.int .i64 (Pn.txt s i g k l : Nat)) ∧ Below w0.heap.size w0 w') := fun w0 h => pshapeB_c s i g k M hc l hT n gl hn an mn cn D w0 (hx.keep h)
  have tl := Pn.txt_le hc ht
  rw [← hn.out] at ht
  have C2 := hide fun w0 => psample_c s i g k M n gl an mn cn D w0 m1 m2 ht
  have sl := Pn.smp_le k (M := M) ht
  have E := hide (Pn.btN_smp s i g k l n M)
  generalize Pn.btN s i g k l n M = res at *
  generalize Pn.txt s i g k l = tx at *
  generalize Pn.smp k n M = sb at *
  clear hx hw hc hT hn
  go_enter Try.func23, Try.ntmps23
  go_wp2_with fail
  rw [← hW]
  clear hW
  refine region_g [] (fun w' => Cel w' w.heap.size [.int .i64 (n : Nat), .slice (some ⟨gl, 0, none⟩) 8 8, .slice an mn cn, .int .i64 (D : Nat)] 44 ∧ Cel w' (w.heap.size + 1) [.int .i64 s, .int .i64 i, .int .i64 g, .int .i64 k, .int .i64 (M : Nat)] 23 ∧ Below w.heap.size w w') (by kernel_rfl) ?_
  have hS : (fun w' => Cel w' w.heap.size [.int .i64 (n : Nat), .slice (some ⟨gl, 0, none⟩) 8 8, .slice an mn cn, .int .i64 (D : Nat)] 44 ∧ Cel w' (w.heap.size + 1) [.int .i64 s, .int .i64 i, .int .i64 g, .int .i64 k, .int .i64 (M : Nat)] 23 ∧ Below w.heap.size w w') W.drew := ⟨A1.out.drew, A2.out.drew, HbW.out.drew⟩
  clear A1 A2 HbW
  generalize W.drew = V at *
  refine AnyG.take 0 (v := ?vv101) rfl (by kernel_rfl) (by kernel_rfl) (by kernel_rfl) (by kernel_rfl) (fun _ _ _ h => h) hS ?hy101 (by rfl) ?rest101
  case hy101 =>
    intro w0 h0
    have d0 := h0.1.cell 0 rfl
    have d1 := h0.1.cell 1 rfl
    have d2 := h0.1.cell 2 rfl
    have d3 := h0.1.cell 3 rfl
    go_simp
    try with_reducible rfl
  simp only [Act.put, List.getElem_toArray, List.getElem_cons_zero, List.getElem_cons_succ, List.setIfInBounds_toArray, List.set_cons_zero, List.set_cons_succ]
  refine AnyG.take 1 (v := ?vv102) rfl (by kernel_rfl) (by kernel_rfl) (by kernel_rfl) (by kernel_rfl) (fun _ _ _ h => h) hS ?hy102 (by rfl) ?rest102
  case hy102 =>
    intro w0 h0
    have e0 := h0.2.1.cell 0 rfl
    have e1 := h0.2.1.cell 1 rfl
    have e2 := h0.2.1.cell 2 rfl
    have e3 := h0.2.1.cell 3 rfl
    have e4 := h0.2.1.cell 4 rfl
    go_simp
    try with_reducible rfl
  simp only [Act.put, List.getElem_toArray, List.getElem_cons_zero, List.getElem_cons_succ, List.setIfInBounds_toArray, List.set_cons_zero, List.set_cons_succ]
  refine AnyG.take 4 (v := ?vv103) rfl (by kernel_rfl) (by kernel_rfl) (by kernel_rfl) (by kernel_rfl) (fun _ _ _ h => h) hS ?hy103 (by rfl) ?rest103
  case hy103 =>
    intro w0 h0
    have d0 := h0.1.cell 0 rfl
    have d1 := h0.1.cell 1 rfl
    have d2 := h0.1.cell 2 rfl
    have d3 := h0.1.cell 3 rfl
    go_simp
    try with_reducible rfl
  simp only [Act.put, List.getElem_toArray, List.getElem_cons_zero, List.getElem_cons_succ, List.setIfInBounds_toArray, List.set_cons_zero, List.set_cons_succ]
  refine AnyG.take 5 (v := ?vv104) rfl (by kernel_rfl) (by kernel_rfl) (by kernel_rfl) (by kernel_rfl) (fun _ _ _ h => h) hS ?hy104 (by rfl) ?rest104
  case hy104 =>
    intro w0 h0
    have e0 := h0.2.1.cell 0 rfl
    have e1 := h0.2.1.cell 1 rfl
    have e2 := h0.2.1.cell 2 rfl
    have e3 := h0.2.1.cell 3 rfl
    have e4 := h0.2.1.cell 4 rfl
    go_simp
    try with_reducible rfl
  simp only [Act.put, List.getElem_toArray, List.getElem_cons_zero, List.getElem_cons_succ, List.setIfInBounds_toArray, List.set_cons_zero, List.set_cons_succ]
  refine AnyG.one 2 (by kernel_rfl) rfl ?_
  intro K hK
  go_simp
  refine (C1.out _ hS.2.2).mono ?_
  rintro _ v1 ⟨rfl, hb⟩
  have hS1 : (fun w' => Cel w' w.heap.size [.int .i64 (n : Nat), .slice (some ⟨gl, 0, none⟩) 8 8, .slice an mn cn, .int .i64 (D : Nat)] 44 ∧ Cel w' (w.heap.size + 1) [.int .i64 s, .int .i64 i, .int .i64 g, .int .i64 k, .int .i64 (M : Nat)] 23 ∧ Below w.heap.size w w') v1 := ⟨hS.1.kept hb, hS.2.1.kept hb, hS.2.2.trans (hb.mono hS.2.2.size)⟩
  clear hb hS
  refine hK.out _ _ (fun _ => hS1) ?_
  clear hK K
  try simp only [Act.put, List.getElem_toArray, List.getElem_cons_zero, List.getElem_cons_succ, List.setIfInBounds_toArray, List.set_cons_zero, List.set_cons_succ]
  refine AnyG.take 3 (v := .int .i64 ((tx : Int) + 8256)) rfl (by kernel_rfl) (by kernel_rfl) (by kernel_rfl) (by kernel_rfl) (fun _ _ _ h => h) hS1 ?hy105 (by rfl) ?rest105
  case hy105 =>
    intro w0 h0
    have wr : IntKind.i64.wrap ((tx : Int) + 8256) = (tx : Int) + 8256 := by rw [IntKind.wrap_i64]; omega
    go_simp
    try with_reducible rfl
    try (rw [IntKind.wrap_i64]; omega)
  simp only [Act.put, List.getElem_toArray, List.getElem_cons_zero, List.getElem_cons_succ, List.setIfInBounds_toArray, List.set_cons_zero, List.set_cons_succ]
  refine AnyG.one 6 (by kernel_rfl) rfl ?_
  intro K hK
  go_simp
  refine (C2.out _).mono ?_
  rintro _ v2 ⟨rfl, hb⟩
  have hS2 : (fun w' => Cel w' w.heap.size [.int .i64 (n : Nat), .slice (some ⟨gl, 0, none⟩) 8 8, .slice an mn cn, .int .i64 (D : Nat)] 44 ∧ Cel w' (w.heap.size + 1) [.int .i64 s, .int .i64 i, .int .i64 g, .int .i64 k, .int .i64 (M : Nat)] 23 ∧ Below w.heap.size w w') v2 := ⟨hS1.1.kept hb, hS1.2.1.kept hb, hS1.2.2.trans (hb.mono hS1.2.2.size)⟩
  clear hb hS1
  refine hK.out _ _ (fun _ => hS2) ?_
  clear hK K
  try simp only [Act.put, List.getElem_toArray, List.getElem_cons_zero, List.getElem_cons_succ, List.setIfInBounds_toArray, List.set_cons_zero, List.set_cons_succ]
  refine AnyG.take 7 (v := .int .i64 ((tx : Int) + 8256 + (sb : Int))) rfl (by kernel_rfl) (by kernel_rfl) (by kernel_rfl) (by kernel_rfl) (fun _ _ _ h => h) hS2 ?hy106 (by rfl) ?rest106
  case hy106 =>
    intro w0 h0
    have wr : IntKind.i64.wrap ((tx : Int) + 8256 + (sb : Int)) = (tx : Int) + 8256 + (sb : Int) := by rw [IntKind.wrap_i64]; omega
    go_simp
    try with_reducible rfl
    try (rw [IntKind.wrap_i64]; omega)
  simp only [Act.put, List.getElem_toArray, List.getElem_cons_zero, List.getElem_cons_succ, List.setIfInBounds_toArray, List.set_cons_zero, List.set_cons_succ]
  refine AnyG.take 8 (v := ?vv107) rfl (by kernel_rfl) (by kernel_rfl) (by kernel_rfl) (by kernel_rfl) (fun _ _ _ h => h) hS2 ?hy107 (by rfl) ?rest107
  case hy107 =>
    intro w0 h0
    go_simp
    try with_reducible rfl
  simp only [Act.put, List.getElem_toArray, List.getElem_cons_zero, List.getElem_cons_succ, List.setIfInBounds_toArray, List.set_cons_zero, List.set_cons_succ]
  refine AnyG.done (by kernel_rfl) ?_ _
  have HB := hide hS2.2.2
  clear hS2
  go_wp2
  go_ret
  rw [E.out]
  exact ⟨by go_num, HB.out⟩
end Go.Proofs.Ytckkhmmicbpihaa
