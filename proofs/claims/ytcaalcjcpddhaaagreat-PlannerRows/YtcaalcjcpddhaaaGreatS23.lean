/-
  The contracts of the landed sampleBits and bits. The contracts of the landed shapeSteps and steps.
-/
import Derived.Test.YtcaalcjcpddhaaaGreatS22
set_option linter.unusedVariables false
set_option linter.unusedSimpArgs false
set_option maxRecDepth 100000
namespace Go.Proofs.YtcaalcjcpddhaaaGreat.Zz
open Go.RowKit Num Hp
namespace Pn
def smp (k : Int) (n M : Nat) : Nat := row k (n + 1) (n / M + 1) + (n / M + 1) * bl (n / M) + (n / M + 1) * bl n
theorem smp_le (k : Int) {n M : Nat} (hn : n ≤ 8192) : smp k n M ≤ 1000000 := by
 have h2 : n / M ≤ n := Nat.div_le_self _ _
 have h3 := row_le k (n := n + 1) (m := n / M + 1) (by omega) (by omega)
 have h4 := Nat.mul_le_mul (show n / M + 1 ≤ 8193 by omega) (bl_le (x := n / M) (by omega))
 have h5 := Nat.mul_le_mul (show n / M + 1 ≤ 8193 by omega) (bl_le (x := n) (by omega))
 unfold smp
 omega
theorem btN_smp (s i g k : Int) (l : List Int) (n M : Nat) : btN s i g k l n M = txt s i g k l + 8256 + smp k n M := by unfold btN smp; omega
end Pn
set_option maxHeartbeats 4000000 in
theorem psample_c (s i g k : Int) (M n gl : Nat) (an : Option Addr) (mn cn D : Nat) (w : World) (m1 : 1 ≤ M) (m2 : M ≤ 64) (hn : n ≤ 8192) :
  Calls Tryz.prog 58 #[.agg #[.int .i64 (n : Nat), .slice (some ⟨gl, 0, none⟩) 8 8, .slice an mn cn, .int .i64 (D : Nat)], .agg #[.int .i64 s, .int .i64 i, .int .i64 g, .int .i64 k, .int .i64 (M : Nat)]] w fun e w' => e = .returned (.int .i64 (Pn.smp k n M : Nat)) ∧ Below w.heap.size w w' := by
 obtain ⟨W, hW⟩ : ∃ W, W = (w.alloc (.cells #[.int .i64 (n : Nat), .slice (some ⟨gl, 0, none⟩) 8 8, .slice an mn cn, .int .i64 (D : Nat)] 66)).alloc (.cells #[.int .i64 s, .int .i64 i, .int .i64 g, .int .i64 k, .int .i64 (M : Nat)] 44) := ⟨_, rfl⟩
 have A1 := hide (show Cel W w.heap.size [.int .i64 (n : Nat), .slice (some ⟨gl, 0, none⟩) 8 8, .slice an mn cn, .int .i64 (D : Nat)] 66 by rw [hW]; exact (Cel.new w _ _).alloc _)
 have A2 := hide (show Cel W (w.heap.size + 1) [.int .i64 s, .int .i64 i, .int .i64 g, .int .i64 k, .int .i64 (M : Nat)] 44 by rw [hW]; exact Cel.new2 w _ _ _)
 have HbW := hide (show Below w.heap.size w W by rw [hW]; exact (below_alloc w _).alloc (by simp) _)
 have a0 := A1.out.cell 0 rfl
 have a4 := A2.out.cell 4 rfl
 obtain ⟨q, hq⟩ : ∃ q, Hid (q = n / M) := ⟨_, rfl⟩
 have hqn : q ≤ n := by rw [hq.out]; exact Nat.div_le_self _ _
 have eq : wrap64 ((n : Int) / (M : Int)) = (q : Int) := wq n M q hq.out (by omega)
 have eM : ((M : Int) == 0) = false := by simp; omega
 have C2 : Hid (∀ w0, Calls Tryz.prog 7 #[.int .i64 k, .int .i64 ((n : Int) + 1), .int .i64 ((q : Int) + 1)] w0 fun e w' => e = .returned (.int .i64 (Pn.row k (n + 1) (q + 1) : Nat)) ∧ w' = w0) := fun w0 => by
  have := prow0_c k (n + 1 : Nat) (q + 1 : Nat) w0
  rw [rowI_in (by omega) (by omega)] at this
  exact this
 have rl := Pn.row_le k (n := n + 1) (m := q + 1) (by omega) (by omega)
 have C3 := hide fun w0 => pwidth_c q (by omega) w0
 have C4 := hide fun w0 => pwidth_c n hn w0
 have b1 := Pn.bl_le (x := q) (by omega)
 have b2 := Pn.bl_le (x := n) (by omega)
 have p1 := Nat.mul_le_mul (show q + 1 ≤ 8193 by omega) b1
 have p2 := Nat.mul_le_mul (show q + 1 ≤ 8193 by omega) b2
 have E : Hid (Pn.smp k n M = Pn.row k (n + 1) (q + 1) + (q + 1) * Pn.bl q + (q + 1) * Pn.bl n) := by
  show _ = _
  rw [hq.out]
  rfl
 rw [E.out]
 generalize Pn.row k (n + 1) (q + 1) = rr at *
 generalize Pn.bl q = M1 at *
 generalize Pn.bl n = M2 at *
 have e1 : Hid (((q : Int) + 1) * (M1 : Int) = (((q + 1) * M1 : Nat) : Int)) := by show _ = _; rw [Int.natCast_mul]; rfl
 have e2 : Hid (((q : Int) + 1) * (M2 : Int) = (((q + 1) * M2 : Nat) : Int)) := by show _ = _; rw [Int.natCast_mul]; rfl
 generalize (q + 1) * M1 = P1 at *
 generalize (q + 1) * M2 = P2 at *
 clear hq E
 go_enter Tryz.func58, Tryz.ntmps58
 go_wp2_with fail
 rw [← hW]
 clear hW
 go_wp2
 refine region_g [] (fun w' => Cel w' w.heap.size [.int .i64 (n : Nat), .slice (some ⟨gl, 0, none⟩) 8 8, .slice an mn cn, .int .i64 (D : Nat)] 66 ∧ Cel w' (w.heap.size + 1) [.int .i64 s, .int .i64 i, .int .i64 g, .int .i64 k, .int .i64 (M : Nat)] 44 ∧ Below w.heap.size w w') (by kernel_rfl) ?_
 have hS : (fun w' => Cel w' w.heap.size [.int .i64 (n : Nat), .slice (some ⟨gl, 0, none⟩) 8 8, .slice an mn cn, .int .i64 (D : Nat)] 66 ∧ Cel w' (w.heap.size + 1) [.int .i64 s, .int .i64 i, .int .i64 g, .int .i64 k, .int .i64 (M : Nat)] 44 ∧ Below w.heap.size w w') W.drew := ⟨A1.out.drew, A2.out.drew, HbW.out.drew⟩
 clear A1 A2 HbW a0 a4
 generalize W.drew = V at *
 refine AnyG.take 0 (v := ?vv1) rfl (by kernel_rfl) (by kernel_rfl) (by kernel_rfl) (by kernel_rfl) (fun _ _ _ h => h) hS ?hy1 (by rfl) ?rest1
 case hy1 =>
  intro w0 h0
  go_simp
  try with_reducible rfl
 simp only [Act.put, yq0, yq1, yq2, yq3, yq4, yq5]
 refine AnyG.take 1 (v := ?vv2) rfl (by kernel_rfl) (by kernel_rfl) (by kernel_rfl) (by kernel_rfl) (fun _ _ _ h => h) hS ?hy2 (by rfl) ?rest2
 case hy2 =>
  intro w0 h0
  have e0 := h0.2.1.cell 0 rfl
  have e1 := h0.2.1.cell 1 rfl
  have e2 := h0.2.1.cell 2 rfl
  have e3 := h0.2.1.cell 3 rfl
  have e4 := h0.2.1.cell 4 rfl
  go_simp
  try with_reducible rfl
 simp only [Act.put, yq0, yq1, yq2, yq3, yq4, yq5]
 refine AnyG.take 2 (v := ?vv3) rfl (by kernel_rfl) (by kernel_rfl) (by kernel_rfl) (by kernel_rfl) (fun _ _ _ h => h) hS ?hy3 (by rfl) ?rest3
 case hy3 =>
  intro w0 h0
  go_simp
  try with_reducible rfl
 simp only [Act.put, yq0, yq1, yq2, yq3, yq4, yq5]
 refine AnyG.take 3 (v := ?vv4) rfl (by kernel_rfl) (by kernel_rfl) (by kernel_rfl) (by kernel_rfl) (fun _ _ _ h => h) hS ?hy4 (by rfl) ?rest4
 case hy4 =>
  intro w0 h0
  have d0 := h0.1.cell 0 rfl
  have d1 := h0.1.cell 1 rfl
  have d2 := h0.1.cell 2 rfl
  have d3 := h0.1.cell 3 rfl
  go_simp
  try with_reducible rfl
 simp only [Act.put, yq0, yq1, yq2, yq3, yq4, yq5]
 refine AnyG.take 4 (v := .int .i64 ((n : Int) + 1)) rfl (by kernel_rfl) (by kernel_rfl) (by kernel_rfl) (by kernel_rfl) (fun _ _ _ h => h) hS ?hy5 (by rfl) ?rest5
 case hy5 =>
  intro w0 h0
  have wr : IntKind.i64.wrap ((n : Int) + 1) = (n : Int) + 1 := by rw [IntKind.wrap_i64]; omega
  go_simp
  try with_reducible rfl
  try (rw [IntKind.wrap_i64]; omega)
 simp only [Act.put, yq0, yq1, yq2, yq3, yq4, yq5]
 refine AnyG.take 5 (v := ?vv6) rfl (by kernel_rfl) (by kernel_rfl) (by kernel_rfl) (by kernel_rfl) (fun _ _ _ h => h) hS ?hy6 (by rfl) ?rest6
 case hy6 =>
  intro w0 h0
  go_simp
  try with_reducible rfl
 simp only [Act.put, yq0, yq1, yq2, yq3, yq4, yq5]
 refine AnyG.take 7 (v := ?vv7) rfl (by kernel_rfl) (by kernel_rfl) (by kernel_rfl) (by kernel_rfl) (fun _ _ _ h => h) hS ?hy7 (by rfl) ?rest7
 case hy7 =>
  intro w0 h0
  go_simp
  try with_reducible rfl
 simp only [Act.put, yq0, yq1, yq2, yq3, yq4, yq5]
 refine AnyG.take 8 (v := ?vv8) rfl (by kernel_rfl) (by kernel_rfl) (by kernel_rfl) (by kernel_rfl) (fun _ _ _ h => h) hS ?hy8 (by rfl) ?rest8
 case hy8 =>
  intro w0 h0
  go_simp
  try with_reducible rfl
 simp only [Act.put, yq0, yq1, yq2, yq3, yq4, yq5]
 refine AnyG.take 9 (v := .int .i64 (q : Int)) rfl (by kernel_rfl) (by kernel_rfl) (by kernel_rfl) (by kernel_rfl) (fun _ _ _ h => h) hS ?hy9 (by rfl) ?rest9
 case hy9 =>
  intro w0 h0
  have wr : IntKind.i64.wrap ((q : Int) + 1 - 1) = (q : Int) := by rw [IntKind.wrap_i64]; omega
  go_simp
  try with_reducible rfl
  try (rw [IntKind.wrap_i64]; omega)
 simp only [Act.put, yq0, yq1, yq2, yq3, yq4, yq5]
 refine AnyG.take 13 (v := ?vv10) rfl (by kernel_rfl) (by kernel_rfl) (by kernel_rfl) (by kernel_rfl) (fun _ _ _ h => h) hS ?hy10 (by rfl) ?rest10
 case hy10 =>
  intro w0 h0
  go_simp
  try with_reducible rfl
 simp only [Act.put, yq0, yq1, yq2, yq3, yq4, yq5]
 refine AnyG.take 14 (v := ?vv11) rfl (by kernel_rfl) (by kernel_rfl) (by kernel_rfl) (by kernel_rfl) (fun _ _ _ h => h) hS ?hy11 (by rfl) ?rest11
 case hy11 =>
  intro w0 h0
  go_simp
  try with_reducible rfl
 simp only [Act.put, yq0, yq1, yq2, yq3, yq4, yq5]
 refine AnyG.take 15 (v := ?vv12) rfl (by kernel_rfl) (by kernel_rfl) (by kernel_rfl) (by kernel_rfl) (fun _ _ _ h => h) hS ?hy12 (by rfl) ?rest12
 case hy12 =>
  intro w0 h0
  have d0 := h0.1.cell 0 rfl
  have d1 := h0.1.cell 1 rfl
  have d2 := h0.1.cell 2 rfl
  have d3 := h0.1.cell 3 rfl
  go_simp
  try with_reducible rfl
 simp only [Act.put, yq0, yq1, yq2, yq3, yq4, yq5]
 refine AnyG.one 6 (by kernel_rfl) rfl ?_
 intro K hK
 go_simp
 refine (C2.out _).mono ?_
 rintro _ v2 ⟨rfl, rfl⟩
 refine hK.out _ _ (fun _ => hS) ?_
 clear hK K
 try simp only [Act.put, yq0, yq1, yq2, yq3, yq4, yq5]
 refine AnyG.one 10 (by kernel_rfl) rfl ?_
 intro K hK
 go_simp
 refine (C3.out _).mono ?_
 rintro _ v3 ⟨rfl, rfl⟩
 refine hK.out _ _ (fun _ => hS) ?_
 clear hK K
 try simp only [Act.put, yq0, yq1, yq2, yq3, yq4, yq5]
 refine AnyG.take 11 (v := .int .i64 (P1 : Int)) rfl (by kernel_rfl) (by kernel_rfl) (by kernel_rfl) (by kernel_rfl) (fun _ _ _ h => h) hS ?hy13 (by rfl) ?rest13
 case hy13 =>
  intro w0 h0
  have wr : IntKind.i64.wrap (((q : Int) + 1) * (M1 : Int)) = (P1 : Int) := by rw [e1.out, IntKind.wrap_i64]; omega
  go_simp
  try with_reducible rfl
  try (rw [IntKind.wrap_i64]; omega)
 simp only [Act.put, yq0, yq1, yq2, yq3, yq4, yq5]
 refine AnyG.take 12 (v := .int .i64 ((rr : Int) + (P1 : Int))) rfl (by kernel_rfl) (by kernel_rfl) (by kernel_rfl) (by kernel_rfl) (fun _ _ _ h => h) hS ?hy14 (by rfl) ?rest14
 case hy14 =>
  intro w0 h0
  have wr : IntKind.i64.wrap ((rr : Int) + (P1 : Int)) = (rr : Int) + (P1 : Int) := by rw [IntKind.wrap_i64]; omega
  go_simp
  try with_reducible rfl
  try (rw [IntKind.wrap_i64]; omega)
 simp only [Act.put, yq0, yq1, yq2, yq3, yq4, yq5]
 refine AnyG.one 16 (by kernel_rfl) rfl ?_
 intro K hK
 go_simp
 refine (C4.out _).mono ?_
 rintro _ v4 ⟨rfl, rfl⟩
 refine hK.out _ _ (fun _ => hS) ?_
 clear hK K
 try simp only [Act.put, yq0, yq1, yq2, yq3, yq4, yq5]
 refine AnyG.take 17 (v := .int .i64 (P2 : Int)) rfl (by kernel_rfl) (by kernel_rfl) (by kernel_rfl) (by kernel_rfl) (fun _ _ _ h => h) hS ?hy15 (by rfl) ?rest15
 case hy15 =>
  intro w0 h0
  have wr : IntKind.i64.wrap (((q : Int) + 1) * (M2 : Int)) = (P2 : Int) := by rw [e2.out, IntKind.wrap_i64]; omega
  go_simp
  try with_reducible rfl
  try (rw [IntKind.wrap_i64]; omega)
 simp only [Act.put, yq0, yq1, yq2, yq3, yq4, yq5]
 refine AnyG.take 18 (v := .int .i64 ((rr : Int) + (P1 : Int) + (P2 : Int))) rfl (by kernel_rfl) (by kernel_rfl) (by kernel_rfl) (by kernel_rfl) (fun _ _ _ h => h) hS ?hy16 (by rfl) ?rest16
 case hy16 =>
  intro w0 h0
  have wr : IntKind.i64.wrap ((rr : Int) + (P1 : Int) + (P2 : Int)) = (rr : Int) + (P1 : Int) + (P2 : Int) := by rw [IntKind.wrap_i64]; omega
  go_simp
  try with_reducible rfl
  try (rw [IntKind.wrap_i64]; omega)
 simp only [Act.put, yq0, yq1, yq2, yq3, yq4, yq5]
 refine AnyG.take 19 (v := ?vv17) rfl (by kernel_rfl) (by kernel_rfl) (by kernel_rfl) (by kernel_rfl) (fun _ _ _ h => h) hS ?hy17 (by rfl) ?rest17
 case hy17 =>
  intro w0 h0
  go_simp
  try with_reducible rfl
 simp only [Act.put, yq0, yq1, yq2, yq3, yq4, yq5]
 refine AnyG.done (by kernel_rfl) ?_ _
 have HB := hide hS.2.2
 clear hS
 go_wp2
 go_ret
 exact ⟨by go_num, HB.out⟩
set_option maxHeartbeats 4000000 in
theorem pbitsT_c (s i g k : Int) (M : Nat) (hc : Pn.CfI s i g k (M : Nat)) (l : List Int) (hT : Pn.okT l = true) (n gl : Nat) (hn : Hid (n = Hv.tot (cntOf l) 256)) (an : Option Addr) (mn cn D : Nat) (w : World) (m1 : 1 ≤ M) (m2 : M ≤ 64) (hx : Pn.TX w l gl an mn cn) :
  Calls Tryz.prog 30 #[.agg #[.int .i64 (n : Nat), .slice (some ⟨gl, 0, none⟩) 8 8, .slice an mn cn, .int .i64 (D : Nat)], .agg #[.int .i64 s, .int .i64 i, .int .i64 g, .int .i64 k, .int .i64 (M : Nat)]] w fun e w' => e = .returned (.int .i64 (Pn.btN s i g k l n M : Nat)) ∧ Below w.heap.size w w' := by
 obtain ⟨hw, ht⟩ := Pn.okT_parts hT
 obtain ⟨W, hW⟩ : ∃ W, W = (w.alloc (.cells #[.int .i64 (n : Nat), .slice (some ⟨gl, 0, none⟩) 8 8, .slice an mn cn, .int .i64 (D : Nat)] 66)).alloc (.cells #[.int .i64 s, .int .i64 i, .int .i64 g, .int .i64 k, .int .i64 (M : Nat)] 44) := ⟨_, rfl⟩
 have A1 := hide (show Cel W w.heap.size [.int .i64 (n : Nat), .slice (some ⟨gl, 0, none⟩) 8 8, .slice an mn cn, .int .i64 (D : Nat)] 66 by rw [hW]; exact (Cel.new w _ _).alloc _)
 have A2 := hide (show Cel W (w.heap.size + 1) [.int .i64 s, .int .i64 i, .int .i64 g, .int .i64 k, .int .i64 (M : Nat)] 44 by rw [hW]; exact Cel.new2 w _ _ _)
 have HbW := hide (show Below w.heap.size w W by rw [hW]; exact (below_alloc w _).alloc (by simp) _)
 have C1 : Hid (∀ w0, Below w.heap.size w w0 → Calls Tryz.prog 57 #[.agg #[.int .i64 (n : Nat), .slice (some ⟨gl, 0, none⟩) 8 8, .slice an mn cn, .int .i64 (D : Nat)], .agg #[.int .i64 s, .int .i64 i, .int .i64 g, .int .i64 k, .int .i64 (M : Nat)]] w0 fun e w' => e = .returned (.int .i64 (Pn.txt s i g k l : Nat)) ∧ Below w0.heap.size w0 w') := fun w0 h => pshapeB_c s i g k M hc l hT n gl hn an mn cn D w0 (hx.keep h)
 have tl := Pn.txt_le hc ht
 rw [← hn.out] at ht
 have C2 := hide fun w0 => psample_c s i g k M n gl an mn cn D w0 m1 m2 ht
 have sl := Pn.smp_le k (M := M) ht
 have E := hide (Pn.btN_smp s i g k l n M)
 generalize Pn.btN s i g k l n M = res at *
 generalize Pn.txt s i g k l = tx at *
 generalize Pn.smp k n M = sb at *
 clear hx hw hc hT hn
 go_enter Tryz.func30, Tryz.ntmps30
 go_wp2_with fail
 rw [← hW]
 clear hW
 refine region_g [] (fun w' => Cel w' w.heap.size [.int .i64 (n : Nat), .slice (some ⟨gl, 0, none⟩) 8 8, .slice an mn cn, .int .i64 (D : Nat)] 66 ∧ Cel w' (w.heap.size + 1) [.int .i64 s, .int .i64 i, .int .i64 g, .int .i64 k, .int .i64 (M : Nat)] 44 ∧ Below w.heap.size w w') (by kernel_rfl) ?_
 have hS : (fun w' => Cel w' w.heap.size [.int .i64 (n : Nat), .slice (some ⟨gl, 0, none⟩) 8 8, .slice an mn cn, .int .i64 (D : Nat)] 66 ∧ Cel w' (w.heap.size + 1) [.int .i64 s, .int .i64 i, .int .i64 g, .int .i64 k, .int .i64 (M : Nat)] 44 ∧ Below w.heap.size w w') W.drew := ⟨A1.out.drew, A2.out.drew, HbW.out.drew⟩
 clear A1 A2 HbW
 generalize W.drew = V at *
 refine AnyG.take 0 (v := ?vv101) rfl (by kernel_rfl) (by kernel_rfl) (by kernel_rfl) (by kernel_rfl) (fun _ _ _ h => h) hS ?hy101 (by rfl) ?rest101
 case hy101 =>
  intro w0 h0
  have d0 := h0.1.cell 0 rfl
  have d1 := h0.1.cell 1 rfl
  have d2 := h0.1.cell 2 rfl
  have d3 := h0.1.cell 3 rfl
  go_simp
  try with_reducible rfl
 simp only [Act.put, yq0, yq1, yq2, yq3, yq4, yq5]
 refine AnyG.take 1 (v := ?vv102) rfl (by kernel_rfl) (by kernel_rfl) (by kernel_rfl) (by kernel_rfl) (fun _ _ _ h => h) hS ?hy102 (by rfl) ?rest102
 case hy102 =>
  intro w0 h0
  have e0 := h0.2.1.cell 0 rfl
  have e1 := h0.2.1.cell 1 rfl
  have e2 := h0.2.1.cell 2 rfl
  have e3 := h0.2.1.cell 3 rfl
  have e4 := h0.2.1.cell 4 rfl
  go_simp
  try with_reducible rfl
 simp only [Act.put, yq0, yq1, yq2, yq3, yq4, yq5]
 refine AnyG.take 4 (v := ?vv103) rfl (by kernel_rfl) (by kernel_rfl) (by kernel_rfl) (by kernel_rfl) (fun _ _ _ h => h) hS ?hy103 (by rfl) ?rest103
 case hy103 =>
  intro w0 h0
  have d0 := h0.1.cell 0 rfl
  have d1 := h0.1.cell 1 rfl
  have d2 := h0.1.cell 2 rfl
  have d3 := h0.1.cell 3 rfl
  go_simp
  try with_reducible rfl
 simp only [Act.put, yq0, yq1, yq2, yq3, yq4, yq5]
 refine AnyG.take 5 (v := ?vv104) rfl (by kernel_rfl) (by kernel_rfl) (by kernel_rfl) (by kernel_rfl) (fun _ _ _ h => h) hS ?hy104 (by rfl) ?rest104
 case hy104 =>
  intro w0 h0
  have e0 := h0.2.1.cell 0 rfl
  have e1 := h0.2.1.cell 1 rfl
  have e2 := h0.2.1.cell 2 rfl
  have e3 := h0.2.1.cell 3 rfl
  have e4 := h0.2.1.cell 4 rfl
  go_simp
  try with_reducible rfl
 simp only [Act.put, yq0, yq1, yq2, yq3, yq4, yq5]
 refine AnyG.one 2 (by kernel_rfl) rfl ?_
 intro K hK
 go_simp
 refine (C1.out _ hS.2.2).mono ?_
 rintro _ v1 ⟨rfl, hb⟩
 have hS1 : (fun w' => Cel w' w.heap.size [.int .i64 (n : Nat), .slice (some ⟨gl, 0, none⟩) 8 8, .slice an mn cn, .int .i64 (D : Nat)] 66 ∧ Cel w' (w.heap.size + 1) [.int .i64 s, .int .i64 i, .int .i64 g, .int .i64 k, .int .i64 (M : Nat)] 44 ∧ Below w.heap.size w w') v1 := ⟨hS.1.kept hb, hS.2.1.kept hb, hS.2.2.trans (hb.mono hS.2.2.size)⟩
 clear hb hS
 refine hK.out _ _ (fun _ => hS1) ?_
 clear hK K
 try simp only [Act.put, yq0, yq1, yq2, yq3, yq4, yq5]
 refine AnyG.take 3 (v := .int .i64 ((tx : Int) + 8256)) rfl (by kernel_rfl) (by kernel_rfl) (by kernel_rfl) (by kernel_rfl) (fun _ _ _ h => h) hS1 ?hy105 (by rfl) ?rest105
 case hy105 =>
  intro w0 h0
  have wr : IntKind.i64.wrap ((tx : Int) + 8256) = (tx : Int) + 8256 := by rw [IntKind.wrap_i64]; omega
  go_simp
  try with_reducible rfl
  try (rw [IntKind.wrap_i64]; omega)
 simp only [Act.put, yq0, yq1, yq2, yq3, yq4, yq5]
 refine AnyG.one 6 (by kernel_rfl) rfl ?_
 intro K hK
 go_simp
 refine (C2.out _).mono ?_
 rintro _ v2 ⟨rfl, hb⟩
 have hS2 : (fun w' => Cel w' w.heap.size [.int .i64 (n : Nat), .slice (some ⟨gl, 0, none⟩) 8 8, .slice an mn cn, .int .i64 (D : Nat)] 66 ∧ Cel w' (w.heap.size + 1) [.int .i64 s, .int .i64 i, .int .i64 g, .int .i64 k, .int .i64 (M : Nat)] 44 ∧ Below w.heap.size w w') v2 := ⟨hS1.1.kept hb, hS1.2.1.kept hb, hS1.2.2.trans (hb.mono hS1.2.2.size)⟩
 clear hb hS1
 refine hK.out _ _ (fun _ => hS2) ?_
 clear hK K
 try simp only [Act.put, yq0, yq1, yq2, yq3, yq4, yq5]
 refine AnyG.take 7 (v := .int .i64 ((tx : Int) + 8256 + (sb : Int))) rfl (by kernel_rfl) (by kernel_rfl) (by kernel_rfl) (by kernel_rfl) (fun _ _ _ h => h) hS2 ?hy106 (by rfl) ?rest106
 case hy106 =>
  intro w0 h0
  have wr : IntKind.i64.wrap ((tx : Int) + 8256 + (sb : Int)) = (tx : Int) + 8256 + (sb : Int) := by rw [IntKind.wrap_i64]; omega
  go_simp
  try with_reducible rfl
  try (rw [IntKind.wrap_i64]; omega)
 simp only [Act.put, yq0, yq1, yq2, yq3, yq4, yq5]
 refine AnyG.take 8 (v := ?vv107) rfl (by kernel_rfl) (by kernel_rfl) (by kernel_rfl) (by kernel_rfl) (fun _ _ _ h => h) hS2 ?hy107 (by rfl) ?rest107
 case hy107 =>
  intro w0 h0
  go_simp
  try with_reducible rfl
 simp only [Act.put, yq0, yq1, yq2, yq3, yq4, yq5]
 refine AnyG.done (by kernel_rfl) ?_ _
 have HB := hide hS2.2.2
 clear hS2
 go_wp2
 go_ret
 rw [E.out]
 exact ⟨by go_num, HB.out⟩
end Go.Proofs.YtcaalcjcpddhaaaGreat.Zz
namespace Go.Proofs.YtcaalcjcpddhaaaGreat.Zz
open Go.RowKit Num Hp
namespace Pn
def ss (x : Int) (D : Nat) : Nat := if x = 2 then D else 8
theorem shS_ss (s i : Int) (l : List Int) (n D : Nat) (h : D = shp 2 l n) : shS s i l n = if s = 4 then 1 + ss i D else ss s D := by
 have e : ∀ x, shp x l n = ss x D := fun x => by
  unfold ss
  by_cases c : x = 2
  ·subst c; rw [if_pos rfl, h]
  ·rw [if_neg c]; unfold shp; rw [if_neg c]
 unfold shS
 rw [e, e]
theorem ss_le {x : Int} {D : Nat} (h : D ≤ 327680) : ss x D ≤ 327680 := by unfold ss; split <;> omega
end Pn
theorem pss_c (x : Int) (n gl : Nat) (an : Option Addr) (mn cn D : Nat) (w : World) :
  Calls Tryz.prog 59 #[.agg #[.int .i64 (n : Nat), .slice (some ⟨gl, 0, none⟩) 8 8, .slice an mn cn, .int .i64 (D : Nat)], .int .i64 x] w fun e w' => e = .returned (.int .i64 (Pn.ss x D : Nat)) ∧ Below w.heap.size w w' := by
 have HB := hide fun o => below_alloc w o
 by_cases h : x = 2
 ·subst h
  have e : Hid (Pn.ss 2 D = D) := by show _ = _; unfold Pn.ss; rw [if_pos rfl]
  rw [e.out]
  go_enter Tryz.func59, Tryz.ntmps59
  go_wp2
  go_ret
  exact ⟨rfl, HB.out _⟩
 ·have e : Hid (Pn.ss x D = 8) := by show _ = _; unfold Pn.ss; rw [if_neg h]
  have hz : (x == 2) = false := by simp; omega
  rw [e.out]
  go_enter Tryz.func59, Tryz.ntmps59
  go_wp2
  go_ret
  exact ⟨rfl, HB.out _⟩
set_option maxHeartbeats 4000000 in
theorem pstepsT_c (s i g k : Int) (M n gl : Nat) (an : Option Addr) (mn cn D : Nat) (w : World) (k1 : 1 ≤ k) (k3 : k ≤ 3) (m2 : M ≤ 64) (hD : D ≤ 327680) :
  Calls Tryz.prog 31 #[.agg #[.int .i64 (n : Nat), .slice (some ⟨gl, 0, none⟩) 8 8, .slice an mn cn, .int .i64 (D : Nat)], .agg #[.int .i64 s, .int .i64 i, .int .i64 g, .int .i64 k, .int .i64 (M : Nat)]] w fun e w' => e = .returned (.int .i64 ((if s = 4 then 1 + Pn.ss i D else Pn.ss s D) * Pn.fac k * M : Nat)) ∧ Below w.heap.size w w' := by
 obtain ⟨W, hW⟩ : ∃ W, W = (w.alloc (.cells #[.int .i64 (n : Nat), .slice (some ⟨gl, 0, none⟩) 8 8, .slice an mn cn, .int .i64 (D : Nat)] 66)).alloc (.cells #[.int .i64 s, .int .i64 i, .int .i64 g, .int .i64 k, .int .i64 (M : Nat)] 44) := ⟨_, rfl⟩
 have A1 := hide (show Cel W w.heap.size [.int .i64 (n : Nat), .slice (some ⟨gl, 0, none⟩) 8 8, .slice an mn cn, .int .i64 (D : Nat)] 66 by rw [hW]; exact (Cel.new w _ _).alloc _)
 have A2 := hide (show Cel W (w.heap.size + 1) [.int .i64 s, .int .i64 i, .int .i64 g, .int .i64 k, .int .i64 (M : Nat)] 44 by rw [hW]; exact Cel.new2 w _ _ _)
 have HbW := hide (show Below w.heap.size w W by rw [hW]; exact (below_alloc w _).alloc (by simp) _)
 have d0 := A1.out.cell 0 rfl
 have d1 := A1.out.cell 1 rfl
 have d2 := A1.out.cell 2 rfl
 have d3 := A1.out.cell 3 rfl
 have e0 := A2.out.cell 0 rfl
 have e1 := A2.out.cell 1 rfl
 have e3 := A2.out.cell 3 rfl
 have e4 := A2.out.cell 4 rfl
 have SS := hide fun x w0 => pss_c x n gl an mn cn D w0
 have KC : Hid (∀ w0, Calls Tryz.prog 60 #[.int .i64 k] w0 fun e w' => e = .returned (.int .i64 (Pn.fac k : Nat)) ∧ w' = w0) := fun w0 => pkind_c k k1 k3 w0
 have fl := Pn.fac_le k
 have sl := hide fun x => Pn.ss_le (x := x) hD
 obtain ⟨y, hy⟩ : ∃ y, Hid (y = if s = 4 then 1 + Pn.ss i D else Pn.ss s D) := ⟨_, rfl⟩
 have yl : y ≤ 327681 := by
  have h1 := sl.out i
  have h2 := sl.out s
  rw [hy.out]
  split <;> omega
 obtain ⟨f, hf⟩ : ∃ f, Hid (f = Pn.fac k) := ⟨_, rfl⟩
 rw [← hf.out] at KC fl
 have q1 := Nat.mul_le_mul yl fl
 obtain ⟨p, hp⟩ : ∃ p, Hid (p = y * f) := ⟨_, rfl⟩
 have lp : p ≤ 1310724 := by rw [hp.out]; exact q1
 have ep : Hid ((y : Int) * (f : Int) = (p : Int)) := by show _ = _; rw [hp.out, Int.natCast_mul]
 have q2 := Nat.mul_le_mul lp m2
 obtain ⟨P, hP⟩ : ∃ P, Hid (P = p * M) := ⟨_, rfl⟩
 have lP : P ≤ 83886336 := by rw [hP.out]; exact q2
 have eP : Hid ((p : Int) * (M : Int) = (P : Int)) := by show _ = _; rw [hP.out, Int.natCast_mul]
 have HE : Hid ((if s = 4 then 1 + Pn.ss i D else Pn.ss s D) * Pn.fac k * M = P) := by show _ = _; rw [← hy.out, ← hf.out, ← hp.out, ← hP.out]
 rw [HE.out]
 clear q1 q2 hP hp hf HE
 by_cases h4 : s = 4
 ·subst h4
  rw [if_pos rfl] at hy
  have sl1 := sl.out i
  have SI := hide fun w0 => SS.out i w0
  generalize Pn.ss i D = y0 at *
  have hyc : (1 : Int) + (y0 : Int) = (y : Int) := by rw [hy.out]; omega
  clear hy sl
  go_enter Tryz.func31, Tryz.ntmps31
  go_wp2_with fail
  rw [← hW]
  go_wp2_with fail
  refine (SS.out 4 _).mono ?_
  rintro _ v1 ⟨rfl, hb⟩
  have HB := hide (HbW.out.trans (hb.mono HbW.out.size))
  have HT := hide (A1.out.kept hb)
  have HC := hide (A2.out.kept hb)
  clear hb hW A1 A2 HbW d0 d1 d2 d3 e0 e1 e3 e4
  have d0 := HT.out.cell 0 rfl
  have d1 := HT.out.cell 1 rfl
  have d2 := HT.out.cell 2 rfl
  have d3 := HT.out.cell 3 rfl
  have e0 := HC.out.cell 0 rfl
  have e1 := HC.out.cell 1 rfl
  have e3 := HC.out.cell 3 rfl
  have e4 := HC.out.cell 4 rfl
  go_wp2_with fail
  refine (SI.out _).mono ?_
  rintro _ v2 ⟨rfl, hb⟩
  replace HB := hide (HB.out.trans (hb.mono HB.out.size))
  replace HC := hide (HC.out.kept hb)
  clear hb HT d0 d1 d2 d3 e0 e1 e3 e4
  have e3 := HC.out.cell 3 rfl
  have e4 := HC.out.cell 4 rfl
  go_wp2
  refine region_g [] (fun w' => Cel w' (w.heap.size + 1) [.int .i64 4, .int .i64 i, .int .i64 g, .int .i64 k, .int .i64 (M : Nat)] 44 ∧ Below w.heap.size w w') (by kernel_rfl) ?_
  have hS : (fun w' => Cel w' (w.heap.size + 1) [.int .i64 4, .int .i64 i, .int .i64 g, .int .i64 k, .int .i64 (M : Nat)] 44 ∧ Below w.heap.size w w') v2.drew := ⟨HC.out.drew, HB.out.drew⟩
  clear HC HB
  generalize v2.drew = V at *
  refine AnyG.take 0 (v := ?vv1) rfl (by kernel_rfl) (by kernel_rfl) (by kernel_rfl) (by kernel_rfl) (fun _ _ _ h => h) hS ?hy1 (by rfl) ?rest1
  case hy1 =>
   intro w0 h0
   go_simp
   try with_reducible rfl
  simp only [Act.put, yq0, yq1, yq2, yq3, yq4, yq5]
  refine AnyG.take 1 (v := ?vv2) rfl (by kernel_rfl) (by kernel_rfl) (by kernel_rfl) (by kernel_rfl) (fun _ _ _ h => h) hS ?hy2 (by rfl) ?rest2
  case hy2 =>
   intro w0 h0
   go_simp
   try with_reducible rfl
  simp only [Act.put, yq0, yq1, yq2, yq3, yq4, yq5]
  refine AnyG.take 2 (v := ?vv3) rfl (by kernel_rfl) (by kernel_rfl) (by kernel_rfl) (by kernel_rfl) (fun _ _ _ h => h) hS ?hy3 (by rfl) ?rest3
  case hy3 =>
   intro w0 h0
   have e3 := h0.1.cell 3 rfl
   have e4 := h0.1.cell 4 rfl
   go_simp
   try with_reducible rfl
  simp only [Act.put, yq0, yq1, yq2, yq3, yq4, yq5]
  refine AnyG.take 5 (v := ?vv4) rfl (by kernel_rfl) (by kernel_rfl) (by kernel_rfl) (by kernel_rfl) (fun _ _ _ h => h) hS ?hy4 (by rfl) ?rest4
  case hy4 =>
   intro w0 h0
   go_simp
   try with_reducible rfl
  simp only [Act.put, yq0, yq1, yq2, yq3, yq4, yq5]
  refine AnyG.take 6 (v := ?vv5) rfl (by kernel_rfl) (by kernel_rfl) (by kernel_rfl) (by kernel_rfl) (fun _ _ _ h => h) hS ?hy5 (by rfl) ?rest5
  case hy5 =>
   intro w0 h0
   have e3 := h0.1.cell 3 rfl
   have e4 := h0.1.cell 4 rfl
   go_simp
   try with_reducible rfl
  simp only [Act.put, yq0, yq1, yq2, yq3, yq4, yq5]
  refine AnyG.one 3 (by kernel_rfl) rfl ?_
  intro K hK
  go_simp
  refine (KC.out _).mono ?_
  rintro _ v1 ⟨rfl, rfl⟩
  refine hK.out _ _ (fun _ => hS) ?_
  clear hK K
  try simp only [Act.put, yq0, yq1, yq2, yq3, yq4, yq5]
  refine AnyG.take 4 (v := .int .i64 (p : Int)) rfl (by kernel_rfl) (by kernel_rfl) (by kernel_rfl) (by kernel_rfl) (fun _ _ _ h => h) hS ?hy6 (by rfl) ?rest6
  case hy6 =>
   intro w0 h0
   have wr : IntKind.i64.wrap ((y : Int) * (f : Int)) = (p : Int) := by rw [ep.out, IntKind.wrap_i64]; omega
   go_simp
   try with_reducible rfl
   try (rw [IntKind.wrap_i64]; omega)
  simp only [Act.put, yq0, yq1, yq2, yq3, yq4, yq5]
  refine AnyG.take 7 (v := .int .i64 (P : Int)) rfl (by kernel_rfl) (by kernel_rfl) (by kernel_rfl) (by kernel_rfl) (fun _ _ _ h => h) hS ?hy7 (by rfl) ?rest7
  case hy7 =>
   intro w0 h0
   have wr : IntKind.i64.wrap ((p : Int) * (M : Int)) = (P : Int) := by rw [eP.out, IntKind.wrap_i64]; omega
   go_simp
   try with_reducible rfl
   try (rw [IntKind.wrap_i64]; omega)
  simp only [Act.put, yq0, yq1, yq2, yq3, yq4, yq5]
  refine AnyG.take 8 (v := ?vv8) rfl (by kernel_rfl) (by kernel_rfl) (by kernel_rfl) (by kernel_rfl) (fun _ _ _ h => h) hS ?hy8 (by rfl) ?rest8
  case hy8 =>
   intro w0 h0
   go_simp
   try with_reducible rfl
  simp only [Act.put, yq0, yq1, yq2, yq3, yq4, yq5]
  refine AnyG.done (by kernel_rfl) ?_ _
  have HBF := hide hS.2
  clear hS
  go_wp2
  go_ret
  exact ⟨rfl, HBF.out⟩
 ·have h4z : (s == 4) = false := by simp; omega
  rw [if_neg h4] at hy
  have SY : Hid (∀ w0, Calls Tryz.prog 59 #[.agg #[.int .i64 (n : Nat), .slice (some ⟨gl, 0, none⟩) 8 8, .slice an mn cn, .int .i64 (D : Nat)], .int .i64 s] w0 fun e w' => e = .returned (.int .i64 (y : Nat)) ∧ Below w0.heap.size w0 w') := fun w0 => by
   rw [hy.out]
   exact SS.out s w0
  clear hy sl
  go_enter Tryz.func31, Tryz.ntmps31
  go_wp2_with fail
  rw [← hW]
  go_wp2_with fail
  refine (SY.out _).mono ?_
  rintro _ v1 ⟨rfl, hb⟩
  have HB := hide (HbW.out.trans (hb.mono HbW.out.size))
  have HT := hide (A1.out.kept hb)
  have HC := hide (A2.out.kept hb)
  clear hb hW A1 A2 HbW d0 d1 d2 d3 e0 e1 e3 e4
  have d0 := HT.out.cell 0 rfl
  have d1 := HT.out.cell 1 rfl
  have d2 := HT.out.cell 2 rfl
  have d3 := HT.out.cell 3 rfl
  have e0 := HC.out.cell 0 rfl
  have e1 := HC.out.cell 1 rfl
  have e3 := HC.out.cell 3 rfl
  have e4 := HC.out.cell 4 rfl
  go_wp2
  refine region_g [] (fun w' => Cel w' (w.heap.size + 1) [.int .i64 s, .int .i64 i, .int .i64 g, .int .i64 k, .int .i64 (M : Nat)] 44 ∧ Below w.heap.size w w') (by kernel_rfl) ?_
  have hS : (fun w' => Cel w' (w.heap.size + 1) [.int .i64 s, .int .i64 i, .int .i64 g, .int .i64 k, .int .i64 (M : Nat)] 44 ∧ Below w.heap.size w w') v1.drew := ⟨HC.out.drew, HB.out.drew⟩
  clear HC HB
  generalize v1.drew = V at *
  refine AnyG.take 0 (v := ?vv101) rfl (by kernel_rfl) (by kernel_rfl) (by kernel_rfl) (by kernel_rfl) (fun _ _ _ h => h) hS ?hy101 (by rfl) ?rest101
  case hy101 =>
   intro w0 h0
   go_simp
   try with_reducible rfl
  simp only [Act.put, yq0, yq1, yq2, yq3, yq4, yq5]
  refine AnyG.take 1 (v := ?vv102) rfl (by kernel_rfl) (by kernel_rfl) (by kernel_rfl) (by kernel_rfl) (fun _ _ _ h => h) hS ?hy102 (by rfl) ?rest102
  case hy102 =>
   intro w0 h0
   go_simp
   try with_reducible rfl
  simp only [Act.put, yq0, yq1, yq2, yq3, yq4, yq5]
  refine AnyG.take 2 (v := ?vv103) rfl (by kernel_rfl) (by kernel_rfl) (by kernel_rfl) (by kernel_rfl) (fun _ _ _ h => h) hS ?hy103 (by rfl) ?rest103
  case hy103 =>
   intro w0 h0
   have e3 := h0.1.cell 3 rfl
   have e4 := h0.1.cell 4 rfl
   go_simp
   try with_reducible rfl
  simp only [Act.put, yq0, yq1, yq2, yq3, yq4, yq5]
  refine AnyG.take 5 (v := ?vv104) rfl (by kernel_rfl) (by kernel_rfl) (by kernel_rfl) (by kernel_rfl) (fun _ _ _ h => h) hS ?hy104 (by rfl) ?rest104
  case hy104 =>
   intro w0 h0
   go_simp
   try with_reducible rfl
  simp only [Act.put, yq0, yq1, yq2, yq3, yq4, yq5]
  refine AnyG.take 6 (v := ?vv105) rfl (by kernel_rfl) (by kernel_rfl) (by kernel_rfl) (by kernel_rfl) (fun _ _ _ h => h) hS ?hy105 (by rfl) ?rest105
  case hy105 =>
   intro w0 h0
   have e3 := h0.1.cell 3 rfl
   have e4 := h0.1.cell 4 rfl
   go_simp
   try with_reducible rfl
  simp only [Act.put, yq0, yq1, yq2, yq3, yq4, yq5]
  refine AnyG.one 3 (by kernel_rfl) rfl ?_
  intro K hK
  go_simp
  refine (KC.out _).mono ?_
  rintro _ v1 ⟨rfl, rfl⟩
  refine hK.out _ _ (fun _ => hS) ?_
  clear hK K
  try simp only [Act.put, yq0, yq1, yq2, yq3, yq4, yq5]
  refine AnyG.take 4 (v := .int .i64 (p : Int)) rfl (by kernel_rfl) (by kernel_rfl) (by kernel_rfl) (by kernel_rfl) (fun _ _ _ h => h) hS ?hy106 (by rfl) ?rest106
  case hy106 =>
   intro w0 h0
   have wr : IntKind.i64.wrap ((y : Int) * (f : Int)) = (p : Int) := by rw [ep.out, IntKind.wrap_i64]; omega
   go_simp
   try with_reducible rfl
   try (rw [IntKind.wrap_i64]; omega)
  simp only [Act.put, yq0, yq1, yq2, yq3, yq4, yq5]
  refine AnyG.take 7 (v := .int .i64 (P : Int)) rfl (by kernel_rfl) (by kernel_rfl) (by kernel_rfl) (by kernel_rfl) (fun _ _ _ h => h) hS ?hy107 (by rfl) ?rest107
  case hy107 =>
   intro w0 h0
   have wr : IntKind.i64.wrap ((p : Int) * (M : Int)) = (P : Int) := by rw [eP.out, IntKind.wrap_i64]; omega
   go_simp
   try with_reducible rfl
   try (rw [IntKind.wrap_i64]; omega)
  simp only [Act.put, yq0, yq1, yq2, yq3, yq4, yq5]
  refine AnyG.take 8 (v := ?vv108) rfl (by kernel_rfl) (by kernel_rfl) (by kernel_rfl) (by kernel_rfl) (fun _ _ _ h => h) hS ?hy108 (by rfl) ?rest108
  case hy108 =>
   intro w0 h0
   go_simp
   try with_reducible rfl
  simp only [Act.put, yq0, yq1, yq2, yq3, yq4, yq5]
  refine AnyG.done (by kernel_rfl) ?_ _
  have HBF := hide hS.2
  clear hS
  go_wp2
  go_ret
  exact ⟨rfl, HBF.out⟩
end Go.Proofs.YtcaalcjcpddhaaaGreat.Zz
