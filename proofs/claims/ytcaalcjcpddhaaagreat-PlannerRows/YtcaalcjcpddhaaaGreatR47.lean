/-
  The contracts of the landed shapeSteps and steps. The contracts of the program's small functions of package config, and Check. The contracts of the landed Bits and Steps.
-/
import Derived.Test.YtcaalcjcpddhaaaGreatR46
import Derived.Test.YtcaalcjcpddhaaaGreatR30
namespace Go.Proofs.YtcaalcjcpddhaaaGreat.Zz
open Go.RowKit Num Hp
set_option linter.unusedVariables false
set_option linter.unusedSimpArgs false
set_option maxRecDepth 100000

namespace Pn
def ss (x : Int) (D : Nat) : Nat := if x = 2 then D else 8
theorem shS_ss (s i : Int) (l : List Int) (n D : Nat) (h : D = shp 2 l n) : shS s i l n = if s = 4 then 1 + ss i D else ss s D := by
 have e : ∀ x, shp x l n = ss x D := fun x => by
  unfold ss
  by_cases c : x = 2
  ·subst c; rw [if_pos rfl, h]
  ·rw [if_neg c]; unfold shp; rw [if_neg c]
 unfold shS
 rw [e, e]
theorem ss_le {x : Int} {D : Nat} (h : D ≤ 327680) : ss x D ≤ 327680 := by unfold ss; split <;> omega
end Pn
theorem pss_c (x : Int) (n gl : Nat) (an : Option Addr) (mn cn D : Nat) (w : World) :
  Calls Tryz.prog 59 #[.agg #[.int .i64 (n : Nat), .slice (some ⟨gl, 0, none⟩) 8 8, .slice an mn cn, .int .i64 (D : Nat)], .int .i64 x] w fun e w' => e = .returned (.int .i64 (Pn.ss x D : Nat)) ∧ Below w.heap.size w w' := by
 have HB := hide fun o => below_alloc w o
 by_cases h : x = 2
 ·subst h
  have e : Hid (Pn.ss 2 D = D) := by show _ = _; unfold Pn.ss; rw [if_pos rfl]
  rw [e.out]
  go_enter Tryz.func59, Tryz.ntmps59
  go_wp2
  go_ret
  exact ⟨rfl, HB.out _⟩
 ·have e : Hid (Pn.ss x D = 8) := by show _ = _; unfold Pn.ss; rw [if_neg h]
  have hz : (x == 2) = false := by simp; omega
  rw [e.out]
  go_enter Tryz.func59, Tryz.ntmps59
  go_wp2
  go_ret
  exact ⟨rfl, HB.out _⟩
set_option maxHeartbeats 4000000 in
theorem pstepsT_c (s i g k : Int) (M n gl : Nat) (an : Option Addr) (mn cn D : Nat) (w : World) (k1 : 1 ≤ k) (k3 : k ≤ 3) (m2 : M ≤ 64) (hD : D ≤ 327680) :
  Calls Tryz.prog 31 #[.agg #[.int .i64 (n : Nat), .slice (some ⟨gl, 0, none⟩) 8 8, .slice an mn cn, .int .i64 (D : Nat)], .agg #[.int .i64 s, .int .i64 i, .int .i64 g, .int .i64 k, .int .i64 (M : Nat)]] w fun e w' => e = .returned (.int .i64 ((if s = 4 then 1 + Pn.ss i D else Pn.ss s D) * Pn.fac k * M : Nat)) ∧ Below w.heap.size w w' := by
 obtain ⟨W, hW⟩ : ∃ W, W = (w.alloc (.cells #[.int .i64 (n : Nat), .slice (some ⟨gl, 0, none⟩) 8 8, .slice an mn cn, .int .i64 (D : Nat)] 66)).alloc (.cells #[.int .i64 s, .int .i64 i, .int .i64 g, .int .i64 k, .int .i64 (M : Nat)] 44) := ⟨_, rfl⟩
 have A1 := hide (show Cel W w.heap.size [.int .i64 (n : Nat), .slice (some ⟨gl, 0, none⟩) 8 8, .slice an mn cn, .int .i64 (D : Nat)] 66 by rw [hW]; exact (Cel.new w _ _).alloc _)
 have A2 := hide (show Cel W (w.heap.size + 1) [.int .i64 s, .int .i64 i, .int .i64 g, .int .i64 k, .int .i64 (M : Nat)] 44 by rw [hW]; exact Cel.new2 w _ _ _)
 have HbW := hide (show Below w.heap.size w W by rw [hW]; exact (below_alloc w _).alloc (by simp) _)
 have d0 := A1.out.cell 0 rfl
 have d1 := A1.out.cell 1 rfl
 have d2 := A1.out.cell 2 rfl
 have d3 := A1.out.cell 3 rfl
 have e0 := A2.out.cell 0 rfl
 have e1 := A2.out.cell 1 rfl
 have e3 := A2.out.cell 3 rfl
 have e4 := A2.out.cell 4 rfl
 have SS := hide fun x w0 => pss_c x n gl an mn cn D w0
 have KC : Hid (∀ w0, Calls Tryz.prog 60 #[.int .i64 k] w0 fun e w' => e = .returned (.int .i64 (Pn.fac k : Nat)) ∧ w' = w0) := fun w0 => pkind_c k k1 k3 w0
 have fl := Pn.fac_le k
 have sl := hide fun x => Pn.ss_le (x := x) hD
 obtain ⟨y, hy⟩ : ∃ y, Hid (y = if s = 4 then 1 + Pn.ss i D else Pn.ss s D) := ⟨_, rfl⟩
 have yl : y ≤ 327681 := by
  have h1 := sl.out i
  have h2 := sl.out s
  rw [hy.out]
  split <;> omega
 obtain ⟨f, hf⟩ : ∃ f, Hid (f = Pn.fac k) := ⟨_, rfl⟩
 rw [← hf.out] at KC fl
 have q1 := Nat.mul_le_mul yl fl
 obtain ⟨p, hp⟩ : ∃ p, Hid (p = y * f) := ⟨_, rfl⟩
 have lp : p ≤ 1310724 := by rw [hp.out]; exact q1
 have ep : Hid ((y : Int) * (f : Int) = (p : Int)) := by show _ = _; rw [hp.out, Int.natCast_mul]
 have q2 := Nat.mul_le_mul lp m2
 obtain ⟨P, hP⟩ : ∃ P, Hid (P = p * M) := ⟨_, rfl⟩
 have lP : P ≤ 83886336 := by rw [hP.out]; exact q2
 have eP : Hid ((p : Int) * (M : Int) = (P : Int)) := by show _ = _; rw [hP.out, Int.natCast_mul]
 have HE : Hid ((if s = 4 then 1 + Pn.ss i D else Pn.ss s D) * Pn.fac k * M = P) := by show _ = _; rw [← hy.out, ← hf.out, ← hp.out, ← hP.out]
 rw [HE.out]
 clear q1 q2 hP hp hf HE
 by_cases h4 : s = 4
 ·subst h4
  rw [if_pos rfl] at hy
  have sl1 := sl.out i
  have SI := hide fun w0 => SS.out i w0
  generalize Pn.ss i D = y0 at *
  have hyc : (1 : Int) + (y0 : Int) = (y : Int) := by rw [hy.out]; omega
  clear hy sl
  go_enter Tryz.func31, Tryz.ntmps31
  go_wp2_with fail
  rw [← hW]
  go_wp2_with fail
  refine (SS.out 4 _).mono ?_
  rintro _ v1 ⟨rfl, hb⟩
  have HB := hide (HbW.out.trans (hb.mono HbW.out.size))
  have HT := hide (A1.out.kept hb)
  have HC := hide (A2.out.kept hb)
  clear hb hW A1 A2 HbW d0 d1 d2 d3 e0 e1 e3 e4
  have d0 := HT.out.cell 0 rfl
  have d1 := HT.out.cell 1 rfl
  have d2 := HT.out.cell 2 rfl
  have d3 := HT.out.cell 3 rfl
  have e0 := HC.out.cell 0 rfl
  have e1 := HC.out.cell 1 rfl
  have e3 := HC.out.cell 3 rfl
  have e4 := HC.out.cell 4 rfl
  go_wp2_with fail
  refine (SI.out _).mono ?_
  rintro _ v2 ⟨rfl, hb⟩
  replace HB := hide (HB.out.trans (hb.mono HB.out.size))
  replace HC := hide (HC.out.kept hb)
  clear hb HT d0 d1 d2 d3 e0 e1 e3 e4
  have e3 := HC.out.cell 3 rfl
  have e4 := HC.out.cell 4 rfl
  go_wp2
  refine region_g [] (fun w' => Cel w' (w.heap.size + 1) [.int .i64 4, .int .i64 i, .int .i64 g, .int .i64 k, .int .i64 (M : Nat)] 44 ∧ Below w.heap.size w w') (by kernel_rfl) ?_
  have hS : (fun w' => Cel w' (w.heap.size + 1) [.int .i64 4, .int .i64 i, .int .i64 g, .int .i64 k, .int .i64 (M : Nat)] 44 ∧ Below w.heap.size w w') v2.drew := ⟨HC.out.drew, HB.out.drew⟩
  clear HC HB
  generalize v2.drew = V at *
  refine AnyG.take 0 (v := ?vv1) rfl (by kernel_rfl) (by kernel_rfl) (by kernel_rfl) (by kernel_rfl) (fun _ _ _ h => h) hS ?hy1 (by rfl) ?rest1
  case hy1 =>
   intro w0 h0
   go_simp
   try with_reducible rfl
  simp only [Act.put, yq0, yq1, yq2, yq3, yq4, yq5]
  refine AnyG.take 1 (v := ?vv2) rfl (by kernel_rfl) (by kernel_rfl) (by kernel_rfl) (by kernel_rfl) (fun _ _ _ h => h) hS ?hy2 (by rfl) ?rest2
  case hy2 =>
   intro w0 h0
   go_simp
   try with_reducible rfl
  simp only [Act.put, yq0, yq1, yq2, yq3, yq4, yq5]
  refine AnyG.take 2 (v := ?vv3) rfl (by kernel_rfl) (by kernel_rfl) (by kernel_rfl) (by kernel_rfl) (fun _ _ _ h => h) hS ?hy3 (by rfl) ?rest3
  case hy3 =>
   intro w0 h0
   have e3 := h0.1.cell 3 rfl
   have e4 := h0.1.cell 4 rfl
   go_simp
   try with_reducible rfl
  simp only [Act.put, yq0, yq1, yq2, yq3, yq4, yq5]
  refine AnyG.take 5 (v := ?vv4) rfl (by kernel_rfl) (by kernel_rfl) (by kernel_rfl) (by kernel_rfl) (fun _ _ _ h => h) hS ?hy4 (by rfl) ?rest4
  case hy4 =>
   intro w0 h0
   go_simp
   try with_reducible rfl
  simp only [Act.put, yq0, yq1, yq2, yq3, yq4, yq5]
  refine AnyG.take 6 (v := ?vv5) rfl (by kernel_rfl) (by kernel_rfl) (by kernel_rfl) (by kernel_rfl) (fun _ _ _ h => h) hS ?hy5 (by rfl) ?rest5
  case hy5 =>
   intro w0 h0
   have e3 := h0.1.cell 3 rfl
   have e4 := h0.1.cell 4 rfl
   go_simp
   try with_reducible rfl
  simp only [Act.put, yq0, yq1, yq2, yq3, yq4, yq5]
  refine AnyG.one 3 (by kernel_rfl) rfl ?_
  intro K hK
  go_simp
  refine (KC.out _).mono ?_
  rintro _ v1 ⟨rfl, rfl⟩
  refine hK.out _ _ (fun _ => hS) ?_
  clear hK K
  try simp only [Act.put, yq0, yq1, yq2, yq3, yq4, yq5]
  refine AnyG.take 4 (v := .int .i64 (p : Int)) rfl (by kernel_rfl) (by kernel_rfl) (by kernel_rfl) (by kernel_rfl) (fun _ _ _ h => h) hS ?hy6 (by rfl) ?rest6
  case hy6 =>
   intro w0 h0
   have wr : IntKind.i64.wrap ((y : Int) * (f : Int)) = (p : Int) := by rw [ep.out, IntKind.wrap_i64]; omega
   go_simp
   try with_reducible rfl
   try (rw [IntKind.wrap_i64]; omega)
  simp only [Act.put, yq0, yq1, yq2, yq3, yq4, yq5]
  refine AnyG.take 7 (v := .int .i64 (P : Int)) rfl (by kernel_rfl) (by kernel_rfl) (by kernel_rfl) (by kernel_rfl) (fun _ _ _ h => h) hS ?hy7 (by rfl) ?rest7
  case hy7 =>
   intro w0 h0
   have wr : IntKind.i64.wrap ((p : Int) * (M : Int)) = (P : Int) := by rw [eP.out, IntKind.wrap_i64]; omega
   go_simp
   try with_reducible rfl
   try (rw [IntKind.wrap_i64]; omega)
  simp only [Act.put, yq0, yq1, yq2, yq3, yq4, yq5]
  refine AnyG.take 8 (v := ?vv8) rfl (by kernel_rfl) (by kernel_rfl) (by kernel_rfl) (by kernel_rfl) (fun _ _ _ h => h) hS ?hy8 (by rfl) ?rest8
  case hy8 =>
   intro w0 h0
   go_simp
   try with_reducible rfl
  simp only [Act.put, yq0, yq1, yq2, yq3, yq4, yq5]
  refine AnyG.done (by kernel_rfl) ?_ _
  have HBF := hide hS.2
  clear hS
  go_wp2
  go_ret
  exact ⟨rfl, HBF.out⟩
 ·have h4z : (s == 4) = false := by simp; omega
  rw [if_neg h4] at hy
  have SY : Hid (∀ w0, Calls Tryz.prog 59 #[.agg #[.int .i64 (n : Nat), .slice (some ⟨gl, 0, none⟩) 8 8, .slice an mn cn, .int .i64 (D : Nat)], .int .i64 s] w0 fun e w' => e = .returned (.int .i64 (y : Nat)) ∧ Below w0.heap.size w0 w') := fun w0 => by
   rw [hy.out]
   exact SS.out s w0
  clear hy sl
  go_enter Tryz.func31, Tryz.ntmps31
  go_wp2_with fail
  rw [← hW]
  go_wp2_with fail
  refine (SY.out _).mono ?_
  rintro _ v1 ⟨rfl, hb⟩
  have HB := hide (HbW.out.trans (hb.mono HbW.out.size))
  have HT := hide (A1.out.kept hb)
  have HC := hide (A2.out.kept hb)
  clear hb hW A1 A2 HbW d0 d1 d2 d3 e0 e1 e3 e4
  have d0 := HT.out.cell 0 rfl
  have d1 := HT.out.cell 1 rfl
  have d2 := HT.out.cell 2 rfl
  have d3 := HT.out.cell 3 rfl
  have e0 := HC.out.cell 0 rfl
  have e1 := HC.out.cell 1 rfl
  have e3 := HC.out.cell 3 rfl
  have e4 := HC.out.cell 4 rfl
  go_wp2
  refine region_g [] (fun w' => Cel w' (w.heap.size + 1) [.int .i64 s, .int .i64 i, .int .i64 g, .int .i64 k, .int .i64 (M : Nat)] 44 ∧ Below w.heap.size w w') (by kernel_rfl) ?_
  have hS : (fun w' => Cel w' (w.heap.size + 1) [.int .i64 s, .int .i64 i, .int .i64 g, .int .i64 k, .int .i64 (M : Nat)] 44 ∧ Below w.heap.size w w') v1.drew := ⟨HC.out.drew, HB.out.drew⟩
  clear HC HB
  generalize v1.drew = V at *
  refine AnyG.take 0 (v := ?vv101) rfl (by kernel_rfl) (by kernel_rfl) (by kernel_rfl) (by kernel_rfl) (fun _ _ _ h => h) hS ?hy101 (by rfl) ?rest101
  case hy101 =>
   intro w0 h0
   go_simp
   try with_reducible rfl
  simp only [Act.put, yq0, yq1, yq2, yq3, yq4, yq5]
  refine AnyG.take 1 (v := ?vv102) rfl (by kernel_rfl) (by kernel_rfl) (by kernel_rfl) (by kernel_rfl) (fun _ _ _ h => h) hS ?hy102 (by rfl) ?rest102
  case hy102 =>
   intro w0 h0
   go_simp
   try with_reducible rfl
  simp only [Act.put, yq0, yq1, yq2, yq3, yq4, yq5]
  refine AnyG.take 2 (v := ?vv103) rfl (by kernel_rfl) (by kernel_rfl) (by kernel_rfl) (by kernel_rfl) (fun _ _ _ h => h) hS ?hy103 (by rfl) ?rest103
  case hy103 =>
   intro w0 h0
   have e3 := h0.1.cell 3 rfl
   have e4 := h0.1.cell 4 rfl
   go_simp
   try with_reducible rfl
  simp only [Act.put, yq0, yq1, yq2, yq3, yq4, yq5]
  refine AnyG.take 5 (v := ?vv104) rfl (by kernel_rfl) (by kernel_rfl) (by kernel_rfl) (by kernel_rfl) (fun _ _ _ h => h) hS ?hy104 (by rfl) ?rest104
  case hy104 =>
   intro w0 h0
   go_simp
   try with_reducible rfl
  simp only [Act.put, yq0, yq1, yq2, yq3, yq4, yq5]
  refine AnyG.take 6 (v := ?vv105) rfl (by kernel_rfl) (by kernel_rfl) (by kernel_rfl) (by kernel_rfl) (fun _ _ _ h => h) hS ?hy105 (by rfl) ?rest105
  case hy105 =>
   intro w0 h0
   have e3 := h0.1.cell 3 rfl
   have e4 := h0.1.cell 4 rfl
   go_simp
   try with_reducible rfl
  simp only [Act.put, yq0, yq1, yq2, yq3, yq4, yq5]
  refine AnyG.one 3 (by kernel_rfl) rfl ?_
  intro K hK
  go_simp
  refine (KC.out _).mono ?_
  rintro _ v1 ⟨rfl, rfl⟩
  refine hK.out _ _ (fun _ => hS) ?_
  clear hK K
  try simp only [Act.put, yq0, yq1, yq2, yq3, yq4, yq5]
  refine AnyG.take 4 (v := .int .i64 (p : Int)) rfl (by kernel_rfl) (by kernel_rfl) (by kernel_rfl) (by kernel_rfl) (fun _ _ _ h => h) hS ?hy106 (by rfl) ?rest106
  case hy106 =>
   intro w0 h0
   have wr : IntKind.i64.wrap ((y : Int) * (f : Int)) = (p : Int) := by rw [ep.out, IntKind.wrap_i64]; omega
   go_simp
   try with_reducible rfl
   try (rw [IntKind.wrap_i64]; omega)
  simp only [Act.put, yq0, yq1, yq2, yq3, yq4, yq5]
  refine AnyG.take 7 (v := .int .i64 (P : Int)) rfl (by kernel_rfl) (by kernel_rfl) (by kernel_rfl) (by kernel_rfl) (fun _ _ _ h => h) hS ?hy107 (by rfl) ?rest107
  case hy107 =>
   intro w0 h0
   have wr : IntKind.i64.wrap ((p : Int) * (M : Int)) = (P : Int) := by rw [eP.out, IntKind.wrap_i64]; omega
   go_simp
   try with_reducible rfl
   try (rw [IntKind.wrap_i64]; omega)
  simp only [Act.put, yq0, yq1, yq2, yq3, yq4, yq5]
  refine AnyG.take 8 (v := ?vv108) rfl (by kernel_rfl) (by kernel_rfl) (by kernel_rfl) (by kernel_rfl) (fun _ _ _ h => h) hS ?hy108 (by rfl) ?rest108
  case hy108 =>
   intro w0 h0
   go_simp
   try with_reducible rfl
  simp only [Act.put, yq0, yq1, yq2, yq3, yq4, yq5]
  refine AnyG.done (by kernel_rfl) ?_ _
  have HBF := hide hS.2
  clear hS
  go_wp2
  go_ret
  exact ⟨rfl, HBF.out⟩
end Go.Proofs.YtcaalcjcpddhaaaGreat.Zz

namespace Go.Proofs.YtcaalcjcpddhaaaGreat.Zz
open Go.RowKit
set_option linter.unusedVariables false
set_option linter.unusedSimpArgs false
set_option maxRecDepth 100000

namespace Co
def inr (n : Int) : Bool := decide (1 ≤ n) && decide (n < 4)
end Co
theorem kinner_c (n : Int) (w : World) : Calls Tryz.prog 82 #[.int .i64 n] w fun e w' => e = .returned (.bool (Co.inr n)) ∧ w' = w := by
 by_cases h1 : 1 ≤ n
 ·by_cases h2 : n < 4
  ·go_enter Tryz.func82, Tryz.ntmps82
   go_wp2
   go_ret
   exact ⟨ret_bool (by unfold Co.inr; rw [decide_eq_true h1, decide_eq_true h2]; rfl), rfl⟩
  ·go_enter Tryz.func82, Tryz.ntmps82
   go_wp2
   go_ret
   exact ⟨ret_bool (by unfold Co.inr; rw [decide_eq_true h1, decide_eq_false (show ¬ n < 4 by omega)]; rfl), rfl⟩
 ·go_enter Tryz.func82, Tryz.ntmps82
  go_wp2
  go_ret
  exact ⟨ret_bool (by unfold Co.inr; rw [decide_eq_false (show ¬ 1 ≤ n by omega)]; rfl), rfl⟩
theorem mem_lgs (n : Int) : n ∈ toI Co.lgs ↔ n = 4 ∨ n = 6 ∨ n = 8 ∨ n = 10 ∨ n = 12 := by simp [toI, Co.lgs]
theorem mem_sam (n : Int) : n ∈ toI Co.sam ↔ n = 1 ∨ n = 2 ∨ n = 4 ∨ n = 8 ∨ n = 16 ∨ n = 32 ∨ n = 64 := by simp [toI, Co.sam]
theorem lgs_out (n : Int) (h : n < 4 ∨ 12 < n) : false = Co.inZ Co.lgs n := by
 unfold Co.inZ
 exact (decide_eq_false (by rw [mem_lgs]; omega)).symm
theorem sam_out (n : Int) (h : n < 1 ∨ 64 < n) : false = Co.inZ Co.sam n := by
 unfold Co.inZ
 exact (decide_eq_false (by rw [mem_sam]; omega)).symm
theorem lgs_in (n : Int) (h : 4 ≤ n) (h2 : n ≤ 12) : ((n - 4) % 2 == 0) = Co.inZ Co.lgs n := by
 unfold Co.inZ
 rw [Bool.eq_iff_iff, decide_eq_true_iff, mem_lgs, beq_iff_eq]
 omega
theorem sam_all : ((List.range 65).all fun k : Nat => k == 0 || ((bits BinOp.and IntKind.i64 (k : Int) ((k : Int) - 1) == 0) == Co.inZ Co.sam (k : Int))) = true := by decide +kernel
theorem sam_in (n : Int) (h : 1 ≤ n) (h2 : n ≤ 64) : (bits BinOp.and IntKind.i64 n (n - 1) == 0) = Co.inZ Co.sam n := by
 have := List.all_eq_true.1 sam_all n.toNat (List.mem_range.2 (by omega))
 rw [Int.toNat_of_nonneg (by omega), Bool.or_eq_true, beq_iff_eq, beq_iff_eq] at this
 rcases this with q | q
 ·omega
 ·exact q
theorem klog_c (n : Int) (w : World) : Calls Tryz.prog 83 #[.int .i64 n] w fun e w' => e = .returned (.bool (Co.inZ Co.lgs n)) ∧ w' = w := by
 by_cases h1 : 4 ≤ n
 ·by_cases h2 : n ≤ 12
  ·go_enter Tryz.func83, Tryz.ntmps83
   go_wp2
   go_ret
   exact ⟨ret_bool (lgs_in n h1 h2), rfl⟩
  ·go_enter Tryz.func83, Tryz.ntmps83
   go_wp2
   go_ret
   exact ⟨ret_bool (lgs_out n (by omega)), rfl⟩
 ·go_enter Tryz.func83, Tryz.ntmps83
  go_wp2
  go_ret
  exact ⟨ret_bool (lgs_out n (by omega)), rfl⟩
theorem ksam_c (n : Int) (w : World) : Calls Tryz.prog 56 #[.int .i64 n] w fun e w' => e = .returned (.bool (Co.inZ Co.sam n)) ∧ w' = w := by
 by_cases h1 : 1 ≤ n
 ·by_cases h2 : n ≤ 64
  ·go_enter Tryz.func56, Tryz.ntmps56
   go_wp2
   go_ret
   exact ⟨ret_bool (sam_in n h1 h2), rfl⟩
  ·go_enter Tryz.func56, Tryz.ntmps56
   go_wp2
   go_ret
   exact ⟨ret_bool (sam_out n (by omega)), rfl⟩
 ·go_enter Tryz.func56, Tryz.ntmps56
  go_wp2
  go_ret
  exact ⟨ret_bool (sam_out n (by omega)), rfl⟩
namespace Co
def hsZ (s i l : Int) : Bool := bif decide (s = 4) then inr i && inZ lgs l else inr s && (decide (i = 0) && decide (l = 0))
theorem okZ_hs (s i l k m : Int) : okZ (s, i, l, k, m) = (hsZ s i l && (decide (1 ≤ k) && (decide (k ≤ 3) && inZ sam m))) := by
 unfold okZ hsZ inr
 simp only []
 by_cases h : s = 4
 ·subst h
  cases inZ sam m <;> cases inZ lgs l <;> by_cases h1 : (1 : Int) ≤ i <;> by_cases h2 : i ≤ 3 <;> by_cases h3 : (1 : Int) ≤ k <;> by_cases h4 : k ≤ 3 <;> simp [h1, h2, h3, h4] <;> omega
 ·cases inZ sam m <;> by_cases h1 : (1 : Int) ≤ s <;> by_cases h2 : s ≤ 4 <;> by_cases h3 : (1 : Int) ≤ k <;> by_cases h4 : k ≤ 3 <;> by_cases h5 : i = 0 <;> by_cases h6 : l = 0 <;> simp [h, h1, h2, h3, h4, h5, h6] <;> omega
end Co
set_option maxHeartbeats 2000000 in
theorem kshape_c (s i l k m : Int) (w : World) :
  Calls Tryz.prog 55 #[.agg #[.int .i64 s, .int .i64 i, .int .i64 l, .int .i64 k, .int .i64 m]] w fun e w' => e = .returned (.bool (Co.hsZ s i l)) ∧ Below w.heap.size w w' := by
 have KI := hide kinner_c
 have KL := hide klog_c
 obtain ⟨W, hW⟩ : ∃ W, W = w.alloc (.cells #[.int .i64 s, .int .i64 i, .int .i64 l, .int .i64 k, .int .i64 m] 44) := ⟨_, rfl⟩
 have HB0 : Hid (Below w.heap.size w W) := by rw [hW]; exact below_alloc w _
 have HC : Hid (Cel W w.heap.size [.int .i64 s, .int .i64 i, .int .i64 l, .int .i64 k, .int .i64 m] 44) := by rw [hW]; exact Cel.new w _ _
 have HW := hide hW
 clear hW
 obtain ⟨gb, hgb⟩ : ∃ gb, Hid (gb = w.heap.size) := ⟨_, rfl⟩
 rw [← hgb.out] at HC
 have c0 := HC.out.cell 0 rfl
 have c1 := HC.out.cell 1 rfl
 have c2 := HC.out.cell 2 rfl
 by_cases h4 : s = 4
 ·have R : Hid (Co.hsZ s i l = (Co.inr i && Co.inZ Co.lgs l)) := by show Co.hsZ s i l = _; unfold Co.hsZ; rw [decide_eq_true h4]; rfl
  have h4' : (s == 4) = true := by simp [h4]
  clear h4
  go_enter Tryz.func55, Tryz.ntmps55
  go_wp2_with fail
  rw [← HW.out, ← hgb.out]
  refine (KI.out i _).mono ?_
  rintro e w1 ⟨rfl, rfl⟩
  generalize Co.inr i = bi at *
  cases bi with
  | false =>
   go_wp2
   go_ret
   exact ⟨ret_bool R.out.symm, HB0.out⟩
  | true =>
   go_wp2_with fail
   refine (KL.out l _).mono ?_
   rintro e w1 ⟨rfl, rfl⟩
   go_wp2
   go_ret
   exact ⟨ret_bool R.out.symm, HB0.out⟩
 ·have R : Hid (Co.hsZ s i l = (Co.inr s && (decide (i = 0) && decide (l = 0)))) := by show Co.hsZ s i l = _; unfold Co.hsZ; rw [decide_eq_false h4]; rfl
  have h4' : (s == 4) = false := by simp [h4]
  clear h4
  go_enter Tryz.func55, Tryz.ntmps55
  go_wp2_with fail
  rw [← HW.out, ← hgb.out]
  refine (KI.out s _).mono ?_
  rintro e w1 ⟨rfl, rfl⟩
  generalize Co.inr s = bi at *
  cases bi with
  | false =>
   go_wp2
   go_ret
   exact ⟨ret_bool R.out.symm, HB0.out⟩
  | true =>
   by_cases hi : i = 0
   ·have hi' : (i == 0) = true := by simp [hi]
    rw [decide_eq_true hi] at R
    clear hi
    go_wp2
    go_ret
    exact ⟨ret_bool R.out.symm, HB0.out⟩
   ·have hi' : (i == 0) = false := by simp [hi]
    rw [decide_eq_false hi] at R
    clear hi
    go_wp2
    go_ret
    exact ⟨ret_bool R.out.symm, HB0.out⟩
set_option maxHeartbeats 2000000 in
theorem kcheck_c (z1 z2 z3 z4 z5 : Int) (w : World) :
  Calls Tryz.prog 29 #[.agg #[.int .i64 z1, .int .i64 z2, .int .i64 z3, .int .i64 z4, .int .i64 z5]] w fun e w' => e = .returned (.bool (Co.okZ (z1, z2, z3, z4, z5))) ∧ Below w.heap.size w w' := by
 have KS := hide (fun w0 => kshape_c z1 z2 z3 z4 z5 w0)
 have KM := hide (fun w0 => ksam_c z5 w0)
 have R := hide (Co.okZ_hs z1 z2 z3 z4 z5)
 obtain ⟨W, hW⟩ : ∃ W, W = w.alloc (.cells #[.int .i64 z1, .int .i64 z2, .int .i64 z3, .int .i64 z4, .int .i64 z5] 44) := ⟨_, rfl⟩
 have HB0 : Hid (Below w.heap.size w W) := by rw [hW]; exact below_alloc w _
 have HC : Hid (Cel W w.heap.size [.int .i64 z1, .int .i64 z2, .int .i64 z3, .int .i64 z4, .int .i64 z5] 44) := by rw [hW]; exact Cel.new w _ _
 have HW := hide hW
 clear hW
 obtain ⟨gb, hgb⟩ : ∃ gb, Hid (gb = w.heap.size) := ⟨_, rfl⟩
 rw [← hgb.out] at HC
 have c0 := HC.out.cell 0 rfl
 have c1 := HC.out.cell 1 rfl
 have c2 := HC.out.cell 2 rfl
 have c3 := HC.out.cell 3 rfl
 have c4 := HC.out.cell 4 rfl
 go_enter Tryz.func29, Tryz.ntmps29
 go_wp2_with fail
 rw [← HW.out, ← hgb.out]
 refine (KS.out _).mono ?_
 rintro e w1 ⟨rfl, hb⟩
 have HB1 := hide (HB0.out.trans (hb.mono HB0.out.size))
 have HC1 := hide (HC.out.kept hb)
 clear hb c0 c1 c2 c3 c4 HC HB0 KS
 have c3 := HC1.out.cell 3 rfl
 have c4 := HC1.out.cell 4 rfl
 generalize Co.hsZ z1 z2 z3 = bs at *
 cases bs with
 | false =>
  go_wp2
  go_ret
  exact ⟨ret_bool R.out.symm, HB1.out⟩
 | true =>
  by_cases h1 : 1 ≤ z4
  ·rw [decide_eq_true h1] at R
   by_cases h3 : z4 ≤ 3
   ·rw [decide_eq_true h3] at R
    go_wp2_with fail
    refine (KM.out _).mono ?_
    rintro e w2 ⟨rfl, rfl⟩
    go_wp2
    go_ret
    exact ⟨ret_bool R.out.symm, HB1.out⟩
   ·rw [decide_eq_false h3] at R
    go_wp2
    go_ret
    exact ⟨ret_bool R.out.symm, HB1.out⟩
  ·rw [decide_eq_false h1] at R
   go_wp2
   go_ret
   exact ⟨ret_bool R.out.symm, HB1.out⟩
end Go.Proofs.YtcaalcjcpddhaaaGreat.Zz

namespace Go.Proofs.YtcaalcjcpddhaaaGreat.Zz
open Go.RowKit Num Hp
set_option linter.unusedVariables false
set_option linter.unusedSimpArgs false
set_option maxRecDepth 100000

set_option maxHeartbeats 4000000 in
theorem pbits_c (s i g k m : Int) (ao : Option Addr) (l : List Int) (cap : Nat) (w : World) (hx : Nd w ao l) (hl : l.length ≤ 1048576) :
  Calls Tryz.prog 10 #[.agg #[.int .i64 s, .int .i64 i, .int .i64 g, .int .i64 k, .int .i64 m], .slice ao l.length cap] w fun e w' => e = .returned (.int .i64 (Pn.bitsN (s, i, g, k, m) l : Nat)) ∧ Below w.heap.size w w' := by
 obtain ⟨W, hW⟩ : ∃ W, W = w.alloc (.cells #[.int .i64 s, .int .i64 i, .int .i64 g, .int .i64 k, .int .i64 m] 44) := ⟨_, rfl⟩
 have HbW := hide (show Below w.heap.size w W by rw [hW]; exact below_alloc w _)
 have HC := hide (show Cel W w.heap.size [.int .i64 s, .int .i64 i, .int .i64 g, .int .i64 k, .int .i64 m] 44 by rw [hW]; exact Cel.new w _ _)
 have K1 := hide fun w0 => kcheck_c s i g k m w0
 cases hT : Pn.okT l with
 | false =>
  have E : Hid (Pn.bitsN (s, i, g, k, m) l = 0) := by show _ = _; unfold Pn.bitsN; rw [hT, Bool.false_and, if_neg (by decide)]
  have T1 : Hid (∀ w0, Below w.heap.size w w0 → Calls Tryz.prog 23 #[.slice ao l.length cap] w0 fun e w' => e = .returned (.tuple #[.agg #[.int .i64 0, .slice none 0 0, .slice none 0 0, .int .i64 0], .bool false]) ∧ Below w0.heap.size w0 w') := fun w0 h => ptext_bad ao l cap w0 (hx.keep h) hl hT
  rw [E.out]
  clear hT hx hl HC K1 E
  go_enter Tryz.func10, Tryz.ntmps10
  go_wp2_with fail
  rw [← hW]
  refine (T1.out _ HbW.out).mono ?_
  rintro _ w1 ⟨rfl, hb⟩
  have HB := hide ((HbW.out.trans (hb.mono HbW.out.size)).trans ((below_alloc w1 (.cells #[.int .i64 0, .slice none 0 0, .slice none 0 0, .int .i64 0] 66)).mono (HbW.out.trans (hb.mono HbW.out.size)).size))
  clear hW hb
  go_wp2
  go_ret
  exact ⟨rfl, HB.out⟩
 | true =>
  obtain ⟨hw, ht⟩ := Pn.okT_parts hT
  have T1 : Hid (∀ w0, Below w.heap.size w w0 → Calls Tryz.prog 23 #[.slice ao l.length cap] w0 fun e w' => ∃ gl an mn cn, e = .returned (.tuple #[.agg #[.int .i64 (Hv.tot (cntOf l) 256 : Nat), .slice (some ⟨gl, 0, none⟩) 8 8, .slice an mn cn, .int .i64 (Pn.dpt l : Nat)], .bool true]) ∧ Pn.TX w' l gl an mn cn ∧ Below w0.heap.size w0 w') := fun w0 h => ptext_c ao l cap w0 (hx.keep h) hl hT
  have dl : Pn.dpt l ≤ 327680 := Pn.shp_le 2 hw ht
  have HD : Hid (Pn.dpt l = Pn.shp 2 l (Hv.tot (cntOf l) 256)) := rfl
  obtain ⟨n, hn⟩ : ∃ n, Hid (n = Hv.tot (cntOf l) 256) := ⟨_, rfl⟩
  rw [← hn.out] at T1 HD ht
  generalize Pn.dpt l = D at *
  cases hZ : Co.okZ (s, i, g, k, m) with
  | false =>
   have E : Hid (Pn.bitsN (s, i, g, k, m) l = 0) := by show _ = _; unfold Pn.bitsN; rw [hZ, Bool.and_false, if_neg (by decide)]
   rw [hZ] at K1
   rw [E.out]
   clear hT hx hl hZ hw E HD
   go_enter Tryz.func10, Tryz.ntmps10
   go_wp2_with fail
   rw [← hW]
   refine (T1.out _ HbW.out).mono ?_
   rintro _ w1 ⟨gl, an, mn, cn, rfl, _, hb⟩
   have HB := hide ((HbW.out.trans (hb.mono HbW.out.size)).trans ((below_alloc w1 (.cells #[.int .i64 (n : Int), .slice (some ⟨gl, 0, none⟩) 8 8, .slice an mn cn, .int .i64 (D : Int)] 66)).mono (HbW.out.trans (hb.mono HbW.out.size)).size))
   have HC2 := hide ((HC.out.kept hb).alloc (.cells #[.int .i64 (n : Int), .slice (some ⟨gl, 0, none⟩) 8 8, .slice an mn cn, .int .i64 (D : Int)] 66))
   clear hW hb HC
   have d0 := HC2.out.cell 0 rfl
   have d1 := HC2.out.cell 1 rfl
   have d2 := HC2.out.cell 2 rfl
   have d3 := HC2.out.cell 3 rfl
   have d4 := HC2.out.cell 4 rfl
   go_wp2_with fail
   refine (K1.out _).mono ?_
   rintro _ w2 ⟨rfl, hb2⟩
   have HB2 := hide (HB.out.trans (hb2.mono HB.out.size))
   clear hb2 d0 d1 d2 d3 d4 HC2
   go_wp2
   go_ret
   exact ⟨rfl, HB2.out⟩
  | true =>
   have hc := Pn.CfI.of hZ
   obtain ⟨M, rfl, m1, m2⟩ := hc.m1
   have E : Hid (Pn.bitsN (s, i, g, k, (M : Int)) l = Pn.btN s i g k l n M) := by
    show _ = _
    unfold Pn.bitsN
    rw [hT, hZ, if_pos (by decide), Int.toNat_natCast, ← hn.out]
   rw [hZ] at K1
   have C1 : Hid (∀ gl an mn cn w0, Pn.TX w0 l gl an mn cn → Calls Tryz.prog 30 #[.agg #[.int .i64 (n : Nat), .slice (some ⟨gl, 0, none⟩) 8 8, .slice an mn cn, .int .i64 (D : Nat)], .agg #[.int .i64 s, .int .i64 i, .int .i64 g, .int .i64 k, .int .i64 (M : Nat)]] w0 fun e w' => e = .returned (.int .i64 (Pn.btN s i g k l n M : Nat)) ∧ Below w0.heap.size w0 w') := fun gl an mn cn w0 h => pbitsT_c s i g k M hc l hT n gl hn an mn cn D w0 m1 m2 h
   rw [E.out]
   generalize Pn.btN s i g k l n M = y at *
   clear hT hx hl hZ hw E HD hc hn
   go_enter Tryz.func10, Tryz.ntmps10
   go_wp2_with fail
   rw [← hW]
   refine (T1.out _ HbW.out).mono ?_
   rintro _ w1 ⟨gl, an, mn, cn, rfl, htx, hb⟩
   have HB := hide ((HbW.out.trans (hb.mono HbW.out.size)).trans ((below_alloc w1 (.cells #[.int .i64 (n : Int), .slice (some ⟨gl, 0, none⟩) 8 8, .slice an mn cn, .int .i64 (D : Int)] 66)).mono (HbW.out.trans (hb.mono HbW.out.size)).size))
   have HC2 := hide ((HC.out.kept hb).alloc (.cells #[.int .i64 (n : Int), .slice (some ⟨gl, 0, none⟩) 8 8, .slice an mn cn, .int .i64 (D : Int)] 66))
   have HTX := hide (htx.keep (below_alloc w1 (.cells #[.int .i64 (n : Int), .slice (some ⟨gl, 0, none⟩) 8 8, .slice an mn cn, .int .i64 (D : Int)] 66)))
   have HT2 := hide (Cel.new w1 [.int .i64 (n : Int), .slice (some ⟨gl, 0, none⟩) 8 8, .slice an mn cn, .int .i64 (D : Int)] 66)
   clear hW hb HC htx
   have d0 := HC2.out.cell 0 rfl
   have d1 := HC2.out.cell 1 rfl
   have d2 := HC2.out.cell 2 rfl
   have d3 := HC2.out.cell 3 rfl
   have d4 := HC2.out.cell 4 rfl
   go_wp2_with fail
   refine (K1.out _).mono ?_
   rintro _ w2 ⟨rfl, hb2⟩
   have HB2 := hide (HB.out.trans (hb2.mono HB.out.size))
   have HC3 := hide (HC2.out.kept hb2)
   have HT3 := hide (HT2.out.kept hb2)
   have HX3 := hide (HTX.out.keep hb2)
   clear hb2 d0 d1 d2 d3 d4 HC2 HT2 HTX HB
   have d0 := HC3.out.cell 0 rfl
   have d1 := HC3.out.cell 1 rfl
   have d2 := HC3.out.cell 2 rfl
   have d3 := HC3.out.cell 3 rfl
   have d4 := HC3.out.cell 4 rfl
   have t0 := HT3.out.cell 0 rfl
   have t1 := HT3.out.cell 1 rfl
   have t2 := HT3.out.cell 2 rfl
   have t3 := HT3.out.cell 3 rfl
   go_wp2_with fail
   refine (C1.out gl an mn cn _ HX3.out).mono ?_
   rintro _ w3 ⟨rfl, hb3⟩
   have HB3 := hide (HB2.out.trans (hb3.mono HB2.out.size))
   clear hb3 d0 d1 d2 d3 d4 t0 t1 t2 t3
   go_wp2
   go_ret
   exact ⟨rfl, HB3.out⟩
set_option maxHeartbeats 4000000 in
theorem psteps_c (s i g k m : Int) (ao : Option Addr) (l : List Int) (cap : Nat) (w : World) (hx : Nd w ao l) (hl : l.length ≤ 1048576) :
  Calls Tryz.prog 11 #[.agg #[.int .i64 s, .int .i64 i, .int .i64 g, .int .i64 k, .int .i64 m], .slice ao l.length cap] w fun e w' => e = .returned (.int .i64 (Pn.stpN (s, i, g, k, m) l : Nat)) ∧ Below w.heap.size w w' := by
 obtain ⟨W, hW⟩ : ∃ W, W = w.alloc (.cells #[.int .i64 s, .int .i64 i, .int .i64 g, .int .i64 k, .int .i64 m] 44) := ⟨_, rfl⟩
 have HbW := hide (show Below w.heap.size w W by rw [hW]; exact below_alloc w _)
 have HC := hide (show Cel W w.heap.size [.int .i64 s, .int .i64 i, .int .i64 g, .int .i64 k, .int .i64 m] 44 by rw [hW]; exact Cel.new w _ _)
 have K1 := hide fun w0 => kcheck_c s i g k m w0
 cases hT : Pn.okT l with
 | false =>
  have E : Hid (Pn.stpN (s, i, g, k, m) l = 0) := by show _ = _; unfold Pn.stpN; rw [hT, Bool.false_and, if_neg (by decide)]
  have T1 : Hid (∀ w0, Below w.heap.size w w0 → Calls Tryz.prog 23 #[.slice ao l.length cap] w0 fun e w' => e = .returned (.tuple #[.agg #[.int .i64 0, .slice none 0 0, .slice none 0 0, .int .i64 0], .bool false]) ∧ Below w0.heap.size w0 w') := fun w0 h => ptext_bad ao l cap w0 (hx.keep h) hl hT
  rw [E.out]
  clear hT hx hl HC K1 E
  go_enter Tryz.func11, Tryz.ntmps11
  go_wp2_with fail
  rw [← hW]
  refine (T1.out _ HbW.out).mono ?_
  rintro _ w1 ⟨rfl, hb⟩
  have HB := hide ((HbW.out.trans (hb.mono HbW.out.size)).trans ((below_alloc w1 (.cells #[.int .i64 0, .slice none 0 0, .slice none 0 0, .int .i64 0] 66)).mono (HbW.out.trans (hb.mono HbW.out.size)).size))
  clear hW hb
  go_wp2
  go_ret
  exact ⟨rfl, HB.out⟩
 | true =>
  obtain ⟨hw, ht⟩ := Pn.okT_parts hT
  have T1 : Hid (∀ w0, Below w.heap.size w w0 → Calls Tryz.prog 23 #[.slice ao l.length cap] w0 fun e w' => ∃ gl an mn cn, e = .returned (.tuple #[.agg #[.int .i64 (Hv.tot (cntOf l) 256 : Nat), .slice (some ⟨gl, 0, none⟩) 8 8, .slice an mn cn, .int .i64 (Pn.dpt l : Nat)], .bool true]) ∧ Pn.TX w' l gl an mn cn ∧ Below w0.heap.size w0 w') := fun w0 h => ptext_c ao l cap w0 (hx.keep h) hl hT
  have dl : Pn.dpt l ≤ 327680 := Pn.shp_le 2 hw ht
  have HD : Hid (Pn.dpt l = Pn.shp 2 l (Hv.tot (cntOf l) 256)) := rfl
  obtain ⟨n, hn⟩ : ∃ n, Hid (n = Hv.tot (cntOf l) 256) := ⟨_, rfl⟩
  rw [← hn.out] at T1 HD ht
  generalize Pn.dpt l = D at *
  cases hZ : Co.okZ (s, i, g, k, m) with
  | false =>
   have E : Hid (Pn.stpN (s, i, g, k, m) l = 0) := by show _ = _; unfold Pn.stpN; rw [hZ, Bool.and_false, if_neg (by decide)]
   rw [hZ] at K1
   rw [E.out]
   clear hT hx hl hZ hw E HD
   go_enter Tryz.func11, Tryz.ntmps11
   go_wp2_with fail
   rw [← hW]
   refine (T1.out _ HbW.out).mono ?_
   rintro _ w1 ⟨gl, an, mn, cn, rfl, _, hb⟩
   have HB := hide ((HbW.out.trans (hb.mono HbW.out.size)).trans ((below_alloc w1 (.cells #[.int .i64 (n : Int), .slice (some ⟨gl, 0, none⟩) 8 8, .slice an mn cn, .int .i64 (D : Int)] 66)).mono (HbW.out.trans (hb.mono HbW.out.size)).size))
   have HC2 := hide ((HC.out.kept hb).alloc (.cells #[.int .i64 (n : Int), .slice (some ⟨gl, 0, none⟩) 8 8, .slice an mn cn, .int .i64 (D : Int)] 66))
   clear hW hb HC
   have d0 := HC2.out.cell 0 rfl
   have d1 := HC2.out.cell 1 rfl
   have d2 := HC2.out.cell 2 rfl
   have d3 := HC2.out.cell 3 rfl
   have d4 := HC2.out.cell 4 rfl
   go_wp2_with fail
   refine (K1.out _).mono ?_
   rintro _ w2 ⟨rfl, hb2⟩
   have HB2 := hide (HB.out.trans (hb2.mono HB.out.size))
   clear hb2 d0 d1 d2 d3 d4 HC2
   go_wp2
   go_ret
   exact ⟨rfl, HB2.out⟩
  | true =>
   have hc := Pn.CfI.of hZ
   obtain ⟨M, rfl, m1, m2⟩ := hc.m1
   have E : Hid (Pn.stpN (s, i, g, k, (M : Int)) l = (if s = 4 then 1 + Pn.ss i D else Pn.ss s D) * Pn.fac k * M) := by
    show _ = _
    unfold Pn.stpN
    rw [hT, hZ, if_pos (by decide), Int.toNat_natCast, ← hn.out]
    rw [Pn.shS_ss s i l n D HD.out]
   rw [hZ] at K1
   have C1 : Hid (∀ gl an mn cn w0, Pn.TX w0 l gl an mn cn → Calls Tryz.prog 31 #[.agg #[.int .i64 (n : Nat), .slice (some ⟨gl, 0, none⟩) 8 8, .slice an mn cn, .int .i64 (D : Nat)], .agg #[.int .i64 s, .int .i64 i, .int .i64 g, .int .i64 k, .int .i64 (M : Nat)]] w0 fun e w' => e = .returned (.int .i64 ((if s = 4 then 1 + Pn.ss i D else Pn.ss s D) * Pn.fac k * M : Nat)) ∧ Below w0.heap.size w0 w') := fun gl an mn cn w0 h => pstepsT_c s i g k M n gl an mn cn D w0 hc.k1 hc.k3 m2 dl
   rw [E.out]
   generalize (if s = 4 then 1 + Pn.ss i D else Pn.ss s D) * Pn.fac k * M = y at *
   clear hT hx hl hZ hw E HD hc hn
   go_enter Tryz.func11, Tryz.ntmps11
   go_wp2_with fail
   rw [← hW]
   refine (T1.out _ HbW.out).mono ?_
   rintro _ w1 ⟨gl, an, mn, cn, rfl, htx, hb⟩
   have HB := hide ((HbW.out.trans (hb.mono HbW.out.size)).trans ((below_alloc w1 (.cells #[.int .i64 (n : Int), .slice (some ⟨gl, 0, none⟩) 8 8, .slice an mn cn, .int .i64 (D : Int)] 66)).mono (HbW.out.trans (hb.mono HbW.out.size)).size))
   have HC2 := hide ((HC.out.kept hb).alloc (.cells #[.int .i64 (n : Int), .slice (some ⟨gl, 0, none⟩) 8 8, .slice an mn cn, .int .i64 (D : Int)] 66))
   have HTX := hide (htx.keep (below_alloc w1 (.cells #[.int .i64 (n : Int), .slice (some ⟨gl, 0, none⟩) 8 8, .slice an mn cn, .int .i64 (D : Int)] 66)))
   have HT2 := hide (Cel.new w1 [.int .i64 (n : Int), .slice (some ⟨gl, 0, none⟩) 8 8, .slice an mn cn, .int .i64 (D : Int)] 66)
   clear hW hb HC htx
   have d0 := HC2.out.cell 0 rfl
   have d1 := HC2.out.cell 1 rfl
   have d2 := HC2.out.cell 2 rfl
   have d3 := HC2.out.cell 3 rfl
   have d4 := HC2.out.cell 4 rfl
   go_wp2_with fail
   refine (K1.out _).mono ?_
   rintro _ w2 ⟨rfl, hb2⟩
   have HB2 := hide (HB.out.trans (hb2.mono HB.out.size))
   have HC3 := hide (HC2.out.kept hb2)
   have HT3 := hide (HT2.out.kept hb2)
   have HX3 := hide (HTX.out.keep hb2)
   clear hb2 d0 d1 d2 d3 d4 HC2 HT2 HTX HB
   have d0 := HC3.out.cell 0 rfl
   have d1 := HC3.out.cell 1 rfl
   have d2 := HC3.out.cell 2 rfl
   have d3 := HC3.out.cell 3 rfl
   have d4 := HC3.out.cell 4 rfl
   have t0 := HT3.out.cell 0 rfl
   have t1 := HT3.out.cell 1 rfl
   have t2 := HT3.out.cell 2 rfl
   have t3 := HT3.out.cell 3 rfl
   go_wp2_with fail
   refine (C1.out gl an mn cn _ HX3.out).mono ?_
   rintro _ w3 ⟨rfl, hb3⟩
   have HB3 := hide (HB2.out.trans (hb3.mono HB2.out.size))
   clear hb3 d0 d1 d2 d3 d4 t0 t1 t2 t3
   go_wp2
   go_ret
   exact ⟨rfl, HB3.out⟩
end Go.Proofs.YtcaalcjcpddhaaaGreat.Zz
