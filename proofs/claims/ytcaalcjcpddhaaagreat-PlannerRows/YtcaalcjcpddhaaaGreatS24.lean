/-
  The contracts of the program's small functions of package config, and Check. The contracts of the landed Bits and Steps. The landed slices.Values of offers, and what an offer costs. The contract of the document's Choose.
-/
import Derived.Test.YtcaalcjcpddhaaaGreatS23
set_option linter.unusedVariables false
set_option linter.unusedSimpArgs false
set_option maxRecDepth 100000
namespace Go.Proofs.YtcaalcjcpddhaaaGreat.Zz
open Go.RowKit
namespace Co
def inr (n : Int) : Bool := decide (1 ≤ n) && decide (n < 4)
end Co
theorem kinner_c (n : Int) (w : World) : Calls Tryz.prog 82 #[.int .i64 n] w fun e w' => e = .returned (.bool (Co.inr n)) ∧ w' = w := by
 by_cases h1 : 1 ≤ n
 ·by_cases h2 : n < 4
  ·go_enter Tryz.func82, Tryz.ntmps82
   go_wp2
   go_ret
   exact ⟨ret_bool (by unfold Co.inr; rw [decide_eq_true h1, decide_eq_true h2]; rfl), rfl⟩
  ·go_enter Tryz.func82, Tryz.ntmps82
   go_wp2
   go_ret
   exact ⟨ret_bool (by unfold Co.inr; rw [decide_eq_true h1, decide_eq_false (show ¬ n < 4 by omega)]; rfl), rfl⟩
 ·go_enter Tryz.func82, Tryz.ntmps82
  go_wp2
  go_ret
  exact ⟨ret_bool (by unfold Co.inr; rw [decide_eq_false (show ¬ 1 ≤ n by omega)]; rfl), rfl⟩
theorem mem_lgs (n : Int) : n ∈ toI Co.lgs ↔ n = 4 ∨ n = 6 ∨ n = 8 ∨ n = 10 ∨ n = 12 := by simp [toI, Co.lgs]
theorem mem_sam (n : Int) : n ∈ toI Co.sam ↔ n = 1 ∨ n = 2 ∨ n = 4 ∨ n = 8 ∨ n = 16 ∨ n = 32 ∨ n = 64 := by simp [toI, Co.sam]
theorem lgs_out (n : Int) (h : n < 4 ∨ 12 < n) : false = Co.inZ Co.lgs n := by
 unfold Co.inZ
 exact (decide_eq_false (by rw [mem_lgs]; omega)).symm
theorem sam_out (n : Int) (h : n < 1 ∨ 64 < n) : false = Co.inZ Co.sam n := by
 unfold Co.inZ
 exact (decide_eq_false (by rw [mem_sam]; omega)).symm
theorem lgs_in (n : Int) (h : 4 ≤ n) (h2 : n ≤ 12) : ((n - 4) % 2 == 0) = Co.inZ Co.lgs n := by
 unfold Co.inZ
 rw [Bool.eq_iff_iff, decide_eq_true_iff, mem_lgs, beq_iff_eq]
 omega
theorem sam_all : ((List.range 65).all fun k : Nat => k == 0 || ((bits BinOp.and IntKind.i64 (k : Int) ((k : Int) - 1) == 0) == Co.inZ Co.sam (k : Int))) = true := by decide +kernel
theorem sam_in (n : Int) (h : 1 ≤ n) (h2 : n ≤ 64) : (bits BinOp.and IntKind.i64 n (n - 1) == 0) = Co.inZ Co.sam n := by
 have := List.all_eq_true.1 sam_all n.toNat (List.mem_range.2 (by omega))
 rw [Int.toNat_of_nonneg (by omega), Bool.or_eq_true, beq_iff_eq, beq_iff_eq] at this
 rcases this with q | q
 ·omega
 ·exact q
theorem klog_c (n : Int) (w : World) : Calls Tryz.prog 83 #[.int .i64 n] w fun e w' => e = .returned (.bool (Co.inZ Co.lgs n)) ∧ w' = w := by
 by_cases h1 : 4 ≤ n
 ·by_cases h2 : n ≤ 12
  ·go_enter Tryz.func83, Tryz.ntmps83
   go_wp2
   go_ret
   exact ⟨ret_bool (lgs_in n h1 h2), rfl⟩
  ·go_enter Tryz.func83, Tryz.ntmps83
   go_wp2
   go_ret
   exact ⟨ret_bool (lgs_out n (by omega)), rfl⟩
 ·go_enter Tryz.func83, Tryz.ntmps83
  go_wp2
  go_ret
  exact ⟨ret_bool (lgs_out n (by omega)), rfl⟩
theorem ksam_c (n : Int) (w : World) : Calls Tryz.prog 56 #[.int .i64 n] w fun e w' => e = .returned (.bool (Co.inZ Co.sam n)) ∧ w' = w := by
 by_cases h1 : 1 ≤ n
 ·by_cases h2 : n ≤ 64
  ·go_enter Tryz.func56, Tryz.ntmps56
   go_wp2
   go_ret
   exact ⟨ret_bool (sam_in n h1 h2), rfl⟩
  ·go_enter Tryz.func56, Tryz.ntmps56
   go_wp2
   go_ret
   exact ⟨ret_bool (sam_out n (by omega)), rfl⟩
 ·go_enter Tryz.func56, Tryz.ntmps56
  go_wp2
  go_ret
  exact ⟨ret_bool (sam_out n (by omega)), rfl⟩
namespace Co
def hsZ (s i l : Int) : Bool := bif decide (s = 4) then inr i && inZ lgs l else inr s && (decide (i = 0) && decide (l = 0))
theorem okZ_hs (s i l k m : Int) : okZ (s, i, l, k, m) = (hsZ s i l && (decide (1 ≤ k) && (decide (k ≤ 3) && inZ sam m))) := by
 unfold okZ hsZ inr
 simp only []
 by_cases h : s = 4
 ·subst h
  cases inZ sam m <;> cases inZ lgs l <;> by_cases h1 : (1 : Int) ≤ i <;> by_cases h2 : i ≤ 3 <;> by_cases h3 : (1 : Int) ≤ k <;> by_cases h4 : k ≤ 3 <;> simp [h1, h2, h3, h4] <;> omega
 ·cases inZ sam m <;> by_cases h1 : (1 : Int) ≤ s <;> by_cases h2 : s ≤ 4 <;> by_cases h3 : (1 : Int) ≤ k <;> by_cases h4 : k ≤ 3 <;> by_cases h5 : i = 0 <;> by_cases h6 : l = 0 <;> simp [h, h1, h2, h3, h4, h5, h6] <;> omega
end Co
set_option maxHeartbeats 2000000 in
theorem kshape_c (s i l k m : Int) (w : World) :
  Calls Tryz.prog 55 #[.agg #[.int .i64 s, .int .i64 i, .int .i64 l, .int .i64 k, .int .i64 m]] w fun e w' => e = .returned (.bool (Co.hsZ s i l)) ∧ Below w.heap.size w w' := by
 have KI := hide kinner_c
 have KL := hide klog_c
 obtain ⟨W, hW⟩ : ∃ W, W = w.alloc (.cells #[.int .i64 s, .int .i64 i, .int .i64 l, .int .i64 k, .int .i64 m] 44) := ⟨_, rfl⟩
 have HB0 : Hid (Below w.heap.size w W) := by rw [hW]; exact below_alloc w _
 have HC : Hid (Cel W w.heap.size [.int .i64 s, .int .i64 i, .int .i64 l, .int .i64 k, .int .i64 m] 44) := by rw [hW]; exact Cel.new w _ _
 have HW := hide hW
 clear hW
 obtain ⟨gb, hgb⟩ : ∃ gb, Hid (gb = w.heap.size) := ⟨_, rfl⟩
 rw [← hgb.out] at HC
 have c0 := HC.out.cell 0 rfl
 have c1 := HC.out.cell 1 rfl
 have c2 := HC.out.cell 2 rfl
 by_cases h4 : s = 4
 ·have R : Hid (Co.hsZ s i l = (Co.inr i && Co.inZ Co.lgs l)) := by show Co.hsZ s i l = _; unfold Co.hsZ; rw [decide_eq_true h4]; rfl
  have h4' : (s == 4) = true := by simp [h4]
  clear h4
  go_enter Tryz.func55, Tryz.ntmps55
  go_wp2_with fail
  rw [← HW.out, ← hgb.out]
  refine (KI.out i _).mono ?_
  rintro e w1 ⟨rfl, rfl⟩
  generalize Co.inr i = bi at *
  cases bi with
  | false =>
   go_wp2
   go_ret
   exact ⟨ret_bool R.out.symm, HB0.out⟩
  | true =>
   go_wp2_with fail
   refine (KL.out l _).mono ?_
   rintro e w1 ⟨rfl, rfl⟩
   go_wp2
   go_ret
   exact ⟨ret_bool R.out.symm, HB0.out⟩
 ·have R : Hid (Co.hsZ s i l = (Co.inr s && (decide (i = 0) && decide (l = 0)))) := by show Co.hsZ s i l = _; unfold Co.hsZ; rw [decide_eq_false h4]; rfl
  have h4' : (s == 4) = false := by simp [h4]
  clear h4
  go_enter Tryz.func55, Tryz.ntmps55
  go_wp2_with fail
  rw [← HW.out, ← hgb.out]
  refine (KI.out s _).mono ?_
  rintro e w1 ⟨rfl, rfl⟩
  generalize Co.inr s = bi at *
  cases bi with
  | false =>
   go_wp2
   go_ret
   exact ⟨ret_bool R.out.symm, HB0.out⟩
  | true =>
   by_cases hi : i = 0
   ·have hi' : (i == 0) = true := by simp [hi]
    rw [decide_eq_true hi] at R
    clear hi
    go_wp2
    go_ret
    exact ⟨ret_bool R.out.symm, HB0.out⟩
   ·have hi' : (i == 0) = false := by simp [hi]
    rw [decide_eq_false hi] at R
    clear hi
    go_wp2
    go_ret
    exact ⟨ret_bool R.out.symm, HB0.out⟩
set_option maxHeartbeats 2000000 in
theorem kcheck_c (z1 z2 z3 z4 z5 : Int) (w : World) :
  Calls Tryz.prog 29 #[.agg #[.int .i64 z1, .int .i64 z2, .int .i64 z3, .int .i64 z4, .int .i64 z5]] w fun e w' => e = .returned (.bool (Co.okZ (z1, z2, z3, z4, z5))) ∧ Below w.heap.size w w' := by
 have KS := hide (fun w0 => kshape_c z1 z2 z3 z4 z5 w0)
 have KM := hide (fun w0 => ksam_c z5 w0)
 have R := hide (Co.okZ_hs z1 z2 z3 z4 z5)
 obtain ⟨W, hW⟩ : ∃ W, W = w.alloc (.cells #[.int .i64 z1, .int .i64 z2, .int .i64 z3, .int .i64 z4, .int .i64 z5] 44) := ⟨_, rfl⟩
 have HB0 : Hid (Below w.heap.size w W) := by rw [hW]; exact below_alloc w _
 have HC : Hid (Cel W w.heap.size [.int .i64 z1, .int .i64 z2, .int .i64 z3, .int .i64 z4, .int .i64 z5] 44) := by rw [hW]; exact Cel.new w _ _
 have HW := hide hW
 clear hW
 obtain ⟨gb, hgb⟩ : ∃ gb, Hid (gb = w.heap.size) := ⟨_, rfl⟩
 rw [← hgb.out] at HC
 have c0 := HC.out.cell 0 rfl
 have c1 := HC.out.cell 1 rfl
 have c2 := HC.out.cell 2 rfl
 have c3 := HC.out.cell 3 rfl
 have c4 := HC.out.cell 4 rfl
 go_enter Tryz.func29, Tryz.ntmps29
 go_wp2_with fail
 rw [← HW.out, ← hgb.out]
 refine (KS.out _).mono ?_
 rintro e w1 ⟨rfl, hb⟩
 have HB1 := hide (HB0.out.trans (hb.mono HB0.out.size))
 have HC1 := hide (HC.out.kept hb)
 clear hb c0 c1 c2 c3 c4 HC HB0 KS
 have c3 := HC1.out.cell 3 rfl
 have c4 := HC1.out.cell 4 rfl
 generalize Co.hsZ z1 z2 z3 = bs at *
 cases bs with
 | false =>
  go_wp2
  go_ret
  exact ⟨ret_bool R.out.symm, HB1.out⟩
 | true =>
  by_cases h1 : 1 ≤ z4
  ·rw [decide_eq_true h1] at R
   by_cases h3 : z4 ≤ 3
   ·rw [decide_eq_true h3] at R
    go_wp2_with fail
    refine (KM.out _).mono ?_
    rintro e w2 ⟨rfl, rfl⟩
    go_wp2
    go_ret
    exact ⟨ret_bool R.out.symm, HB1.out⟩
   ·rw [decide_eq_false h3] at R
    go_wp2
    go_ret
    exact ⟨ret_bool R.out.symm, HB1.out⟩
  ·rw [decide_eq_false h1] at R
   go_wp2
   go_ret
   exact ⟨ret_bool R.out.symm, HB1.out⟩
end Go.Proofs.YtcaalcjcpddhaaaGreat.Zz
namespace Go.Proofs.YtcaalcjcpddhaaaGreat.Zz
open Go.RowKit Num Hp
set_option maxHeartbeats 4000000 in
theorem pbits_c (s i g k m : Int) (ao : Option Addr) (l : List Int) (cap : Nat) (w : World) (hx : Nd w ao l) (hl : l.length ≤ 1048576) :
  Calls Tryz.prog 10 #[.agg #[.int .i64 s, .int .i64 i, .int .i64 g, .int .i64 k, .int .i64 m], .slice ao l.length cap] w fun e w' => e = .returned (.int .i64 (Pn.bitsN (s, i, g, k, m) l : Nat)) ∧ Below w.heap.size w w' := by
 obtain ⟨W, hW⟩ : ∃ W, W = w.alloc (.cells #[.int .i64 s, .int .i64 i, .int .i64 g, .int .i64 k, .int .i64 m] 44) := ⟨_, rfl⟩
 have HbW := hide (show Below w.heap.size w W by rw [hW]; exact below_alloc w _)
 have HC := hide (show Cel W w.heap.size [.int .i64 s, .int .i64 i, .int .i64 g, .int .i64 k, .int .i64 m] 44 by rw [hW]; exact Cel.new w _ _)
 have K1 := hide fun w0 => kcheck_c s i g k m w0
 cases hT : Pn.okT l with
 | false =>
  have E : Hid (Pn.bitsN (s, i, g, k, m) l = 0) := by show _ = _; unfold Pn.bitsN; rw [hT, Bool.false_and, if_neg (by decide)]
  have T1 : Hid (∀ w0, Below w.heap.size w w0 → Calls Tryz.prog 23 #[.slice ao l.length cap] w0 fun e w' => e = .returned (.tuple #[.agg #[.int .i64 0, .slice none 0 0, .slice none 0 0, .int .i64 0], .bool false]) ∧ Below w0.heap.size w0 w') := fun w0 h => ptext_bad ao l cap w0 (hx.keep h) hl hT
  rw [E.out]
  clear hT hx hl HC K1 E
  go_enter Tryz.func10, Tryz.ntmps10
  go_wp2_with fail
  rw [← hW]
  refine (T1.out _ HbW.out).mono ?_
  rintro _ w1 ⟨rfl, hb⟩
  have HB := hide ((HbW.out.trans (hb.mono HbW.out.size)).trans ((below_alloc w1 (.cells #[.int .i64 0, .slice none 0 0, .slice none 0 0, .int .i64 0] 66)).mono (HbW.out.trans (hb.mono HbW.out.size)).size))
  clear hW hb
  go_wp2
  go_ret
  exact ⟨rfl, HB.out⟩
 | true =>
  obtain ⟨hw, ht⟩ := Pn.okT_parts hT
  have T1 : Hid (∀ w0, Below w.heap.size w w0 → Calls Tryz.prog 23 #[.slice ao l.length cap] w0 fun e w' => ∃ gl an mn cn, e = .returned (.tuple #[.agg #[.int .i64 (Hv.tot (cntOf l) 256 : Nat), .slice (some ⟨gl, 0, none⟩) 8 8, .slice an mn cn, .int .i64 (Pn.dpt l : Nat)], .bool true]) ∧ Pn.TX w' l gl an mn cn ∧ Below w0.heap.size w0 w') := fun w0 h => ptext_c ao l cap w0 (hx.keep h) hl hT
  have dl : Pn.dpt l ≤ 327680 := Pn.shp_le 2 hw ht
  have HD : Hid (Pn.dpt l = Pn.shp 2 l (Hv.tot (cntOf l) 256)) := rfl
  obtain ⟨n, hn⟩ : ∃ n, Hid (n = Hv.tot (cntOf l) 256) := ⟨_, rfl⟩
  rw [← hn.out] at T1 HD ht
  generalize Pn.dpt l = D at *
  cases hZ : Co.okZ (s, i, g, k, m) with
  | false =>
   have E : Hid (Pn.bitsN (s, i, g, k, m) l = 0) := by show _ = _; unfold Pn.bitsN; rw [hZ, Bool.and_false, if_neg (by decide)]
   rw [hZ] at K1
   rw [E.out]
   clear hT hx hl hZ hw E HD
   go_enter Tryz.func10, Tryz.ntmps10
   go_wp2_with fail
   rw [← hW]
   refine (T1.out _ HbW.out).mono ?_
   rintro _ w1 ⟨gl, an, mn, cn, rfl, _, hb⟩
   have HB := hide ((HbW.out.trans (hb.mono HbW.out.size)).trans ((below_alloc w1 (.cells #[.int .i64 (n : Int), .slice (some ⟨gl, 0, none⟩) 8 8, .slice an mn cn, .int .i64 (D : Int)] 66)).mono (HbW.out.trans (hb.mono HbW.out.size)).size))
   have HC2 := hide ((HC.out.kept hb).alloc (.cells #[.int .i64 (n : Int), .slice (some ⟨gl, 0, none⟩) 8 8, .slice an mn cn, .int .i64 (D : Int)] 66))
   clear hW hb HC
   have d0 := HC2.out.cell 0 rfl
   have d1 := HC2.out.cell 1 rfl
   have d2 := HC2.out.cell 2 rfl
   have d3 := HC2.out.cell 3 rfl
   have d4 := HC2.out.cell 4 rfl
   go_wp2_with fail
   refine (K1.out _).mono ?_
   rintro _ w2 ⟨rfl, hb2⟩
   have HB2 := hide (HB.out.trans (hb2.mono HB.out.size))
   clear hb2 d0 d1 d2 d3 d4 HC2
   go_wp2
   go_ret
   exact ⟨rfl, HB2.out⟩
  | true =>
   have hc := Pn.CfI.of hZ
   obtain ⟨M, rfl, m1, m2⟩ := hc.m1
   have E : Hid (Pn.bitsN (s, i, g, k, (M : Int)) l = Pn.btN s i g k l n M) := by
    show _ = _
    unfold Pn.bitsN
    rw [hT, hZ, if_pos (by decide), Int.toNat_natCast, ← hn.out]
   rw [hZ] at K1
   have C1 : Hid (∀ gl an mn cn w0, Pn.TX w0 l gl an mn cn → Calls Tryz.prog 30 #[.agg #[.int .i64 (n : Nat), .slice (some ⟨gl, 0, none⟩) 8 8, .slice an mn cn, .int .i64 (D : Nat)], .agg #[.int .i64 s, .int .i64 i, .int .i64 g, .int .i64 k, .int .i64 (M : Nat)]] w0 fun e w' => e = .returned (.int .i64 (Pn.btN s i g k l n M : Nat)) ∧ Below w0.heap.size w0 w') := fun gl an mn cn w0 h => pbitsT_c s i g k M hc l hT n gl hn an mn cn D w0 m1 m2 h
   rw [E.out]
   generalize Pn.btN s i g k l n M = y at *
   clear hT hx hl hZ hw E HD hc hn
   go_enter Tryz.func10, Tryz.ntmps10
   go_wp2_with fail
   rw [← hW]
   refine (T1.out _ HbW.out).mono ?_
   rintro _ w1 ⟨gl, an, mn, cn, rfl, htx, hb⟩
   have HB := hide ((HbW.out.trans (hb.mono HbW.out.size)).trans ((below_alloc w1 (.cells #[.int .i64 (n : Int), .slice (some ⟨gl, 0, none⟩) 8 8, .slice an mn cn, .int .i64 (D : Int)] 66)).mono (HbW.out.trans (hb.mono HbW.out.size)).size))
   have HC2 := hide ((HC.out.kept hb).alloc (.cells #[.int .i64 (n : Int), .slice (some ⟨gl, 0, none⟩) 8 8, .slice an mn cn, .int .i64 (D : Int)] 66))
   have HTX := hide (htx.keep (below_alloc w1 (.cells #[.int .i64 (n : Int), .slice (some ⟨gl, 0, none⟩) 8 8, .slice an mn cn, .int .i64 (D : Int)] 66)))
   have HT2 := hide (Cel.new w1 [.int .i64 (n : Int), .slice (some ⟨gl, 0, none⟩) 8 8, .slice an mn cn, .int .i64 (D : Int)] 66)
   clear hW hb HC htx
   have d0 := HC2.out.cell 0 rfl
   have d1 := HC2.out.cell 1 rfl
   have d2 := HC2.out.cell 2 rfl
   have d3 := HC2.out.cell 3 rfl
   have d4 := HC2.out.cell 4 rfl
   go_wp2_with fail
   refine (K1.out _).mono ?_
   rintro _ w2 ⟨rfl, hb2⟩
   have HB2 := hide (HB.out.trans (hb2.mono HB.out.size))
   have HC3 := hide (HC2.out.kept hb2)
   have HT3 := hide (HT2.out.kept hb2)
   have HX3 := hide (HTX.out.keep hb2)
   clear hb2 d0 d1 d2 d3 d4 HC2 HT2 HTX HB
   have d0 := HC3.out.cell 0 rfl
   have d1 := HC3.out.cell 1 rfl
   have d2 := HC3.out.cell 2 rfl
   have d3 := HC3.out.cell 3 rfl
   have d4 := HC3.out.cell 4 rfl
   have t0 := HT3.out.cell 0 rfl
   have t1 := HT3.out.cell 1 rfl
   have t2 := HT3.out.cell 2 rfl
   have t3 := HT3.out.cell 3 rfl
   go_wp2_with fail
   refine (C1.out gl an mn cn _ HX3.out).mono ?_
   rintro _ w3 ⟨rfl, hb3⟩
   have HB3 := hide (HB2.out.trans (hb3.mono HB2.out.size))
   clear hb3 d0 d1 d2 d3 d4 t0 t1 t2 t3
   go_wp2
   go_ret
   exact ⟨rfl, HB3.out⟩
set_option maxHeartbeats 4000000 in
theorem psteps_c (s i g k m : Int) (ao : Option Addr) (l : List Int) (cap : Nat) (w : World) (hx : Nd w ao l) (hl : l.length ≤ 1048576) :
  Calls Tryz.prog 11 #[.agg #[.int .i64 s, .int .i64 i, .int .i64 g, .int .i64 k, .int .i64 m], .slice ao l.length cap] w fun e w' => e = .returned (.int .i64 (Pn.stpN (s, i, g, k, m) l : Nat)) ∧ Below w.heap.size w w' := by
 obtain ⟨W, hW⟩ : ∃ W, W = w.alloc (.cells #[.int .i64 s, .int .i64 i, .int .i64 g, .int .i64 k, .int .i64 m] 44) := ⟨_, rfl⟩
 have HbW := hide (show Below w.heap.size w W by rw [hW]; exact below_alloc w _)
 have HC := hide (show Cel W w.heap.size [.int .i64 s, .int .i64 i, .int .i64 g, .int .i64 k, .int .i64 m] 44 by rw [hW]; exact Cel.new w _ _)
 have K1 := hide fun w0 => kcheck_c s i g k m w0
 cases hT : Pn.okT l with
 | false =>
  have E : Hid (Pn.stpN (s, i, g, k, m) l = 0) := by show _ = _; unfold Pn.stpN; rw [hT, Bool.false_and, if_neg (by decide)]
  have T1 : Hid (∀ w0, Below w.heap.size w w0 → Calls Tryz.prog 23 #[.slice ao l.length cap] w0 fun e w' => e = .returned (.tuple #[.agg #[.int .i64 0, .slice none 0 0, .slice none 0 0, .int .i64 0], .bool false]) ∧ Below w0.heap.size w0 w') := fun w0 h => ptext_bad ao l cap w0 (hx.keep h) hl hT
  rw [E.out]
  clear hT hx hl HC K1 E
  go_enter Tryz.func11, Tryz.ntmps11
  go_wp2_with fail
  rw [← hW]
  refine (T1.out _ HbW.out).mono ?_
  rintro _ w1 ⟨rfl, hb⟩
  have HB := hide ((HbW.out.trans (hb.mono HbW.out.size)).trans ((below_alloc w1 (.cells #[.int .i64 0, .slice none 0 0, .slice none 0 0, .int .i64 0] 66)).mono (HbW.out.trans (hb.mono HbW.out.size)).size))
  clear hW hb
  go_wp2
  go_ret
  exact ⟨rfl, HB.out⟩
 | true =>
  obtain ⟨hw, ht⟩ := Pn.okT_parts hT
  have T1 : Hid (∀ w0, Below w.heap.size w w0 → Calls Tryz.prog 23 #[.slice ao l.length cap] w0 fun e w' => ∃ gl an mn cn, e = .returned (.tuple #[.agg #[.int .i64 (Hv.tot (cntOf l) 256 : Nat), .slice (some ⟨gl, 0, none⟩) 8 8, .slice an mn cn, .int .i64 (Pn.dpt l : Nat)], .bool true]) ∧ Pn.TX w' l gl an mn cn ∧ Below w0.heap.size w0 w') := fun w0 h => ptext_c ao l cap w0 (hx.keep h) hl hT
  have dl : Pn.dpt l ≤ 327680 := Pn.shp_le 2 hw ht
  have HD : Hid (Pn.dpt l = Pn.shp 2 l (Hv.tot (cntOf l) 256)) := rfl
  obtain ⟨n, hn⟩ : ∃ n, Hid (n = Hv.tot (cntOf l) 256) := ⟨_, rfl⟩
  rw [← hn.out] at T1 HD ht
  generalize Pn.dpt l = D at *
  cases hZ : Co.okZ (s, i, g, k, m) with
  | false =>
   have E : Hid (Pn.stpN (s, i, g, k, m) l = 0) := by show _ = _; unfold Pn.stpN; rw [hZ, Bool.and_false, if_neg (by decide)]
   rw [hZ] at K1
   rw [E.out]
   clear hT hx hl hZ hw E HD
   go_enter Tryz.func11, Tryz.ntmps11
   go_wp2_with fail
   rw [← hW]
   refine (T1.out _ HbW.out).mono ?_
   rintro _ w1 ⟨gl, an, mn, cn, rfl, _, hb⟩
   have HB := hide ((HbW.out.trans (hb.mono HbW.out.size)).trans ((below_alloc w1 (.cells #[.int .i64 (n : Int), .slice (some ⟨gl, 0, none⟩) 8 8, .slice an mn cn, .int .i64 (D : Int)] 66)).mono (HbW.out.trans (hb.mono HbW.out.size)).size))
   have HC2 := hide ((HC.out.kept hb).alloc (.cells #[.int .i64 (n : Int), .slice (some ⟨gl, 0, none⟩) 8 8, .slice an mn cn, .int .i64 (D : Int)] 66))
   clear hW hb HC
   have d0 := HC2.out.cell 0 rfl
   have d1 := HC2.out.cell 1 rfl
   have d2 := HC2.out.cell 2 rfl
   have d3 := HC2.out.cell 3 rfl
   have d4 := HC2.out.cell 4 rfl
   go_wp2_with fail
   refine (K1.out _).mono ?_
   rintro _ w2 ⟨rfl, hb2⟩
   have HB2 := hide (HB.out.trans (hb2.mono HB.out.size))
   clear hb2 d0 d1 d2 d3 d4 HC2
   go_wp2
   go_ret
   exact ⟨rfl, HB2.out⟩
  | true =>
   have hc := Pn.CfI.of hZ
   obtain ⟨M, rfl, m1, m2⟩ := hc.m1
   have E : Hid (Pn.stpN (s, i, g, k, (M : Int)) l = (if s = 4 then 1 + Pn.ss i D else Pn.ss s D) * Pn.fac k * M) := by
    show _ = _
    unfold Pn.stpN
    rw [hT, hZ, if_pos (by decide), Int.toNat_natCast, ← hn.out]
    rw [Pn.shS_ss s i l n D HD.out]
   rw [hZ] at K1
   have C1 : Hid (∀ gl an mn cn w0, Pn.TX w0 l gl an mn cn → Calls Tryz.prog 31 #[.agg #[.int .i64 (n : Nat), .slice (some ⟨gl, 0, none⟩) 8 8, .slice an mn cn, .int .i64 (D : Nat)], .agg #[.int .i64 s, .int .i64 i, .int .i64 g, .int .i64 k, .int .i64 (M : Nat)]] w0 fun e w' => e = .returned (.int .i64 ((if s = 4 then 1 + Pn.ss i D else Pn.ss s D) * Pn.fac k * M : Nat)) ∧ Below w0.heap.size w0 w') := fun gl an mn cn w0 h => pstepsT_c s i g k M n gl an mn cn D w0 hc.k1 hc.k3 m2 dl
   rw [E.out]
   generalize (if s = 4 then 1 + Pn.ss i D else Pn.ss s D) * Pn.fac k * M = y at *
   clear hT hx hl hZ hw E HD hc hn
   go_enter Tryz.func11, Tryz.ntmps11
   go_wp2_with fail
   rw [← hW]
   refine (T1.out _ HbW.out).mono ?_
   rintro _ w1 ⟨gl, an, mn, cn, rfl, htx, hb⟩
   have HB := hide ((HbW.out.trans (hb.mono HbW.out.size)).trans ((below_alloc w1 (.cells #[.int .i64 (n : Int), .slice (some ⟨gl, 0, none⟩) 8 8, .slice an mn cn, .int .i64 (D : Int)] 66)).mono (HbW.out.trans (hb.mono HbW.out.size)).size))
   have HC2 := hide ((HC.out.kept hb).alloc (.cells #[.int .i64 (n : Int), .slice (some ⟨gl, 0, none⟩) 8 8, .slice an mn cn, .int .i64 (D : Int)] 66))
   have HTX := hide (htx.keep (below_alloc w1 (.cells #[.int .i64 (n : Int), .slice (some ⟨gl, 0, none⟩) 8 8, .slice an mn cn, .int .i64 (D : Int)] 66)))
   have HT2 := hide (Cel.new w1 [.int .i64 (n : Int), .slice (some ⟨gl, 0, none⟩) 8 8, .slice an mn cn, .int .i64 (D : Int)] 66)
   clear hW hb HC htx
   have d0 := HC2.out.cell 0 rfl
   have d1 := HC2.out.cell 1 rfl
   have d2 := HC2.out.cell 2 rfl
   have d3 := HC2.out.cell 3 rfl
   have d4 := HC2.out.cell 4 rfl
   go_wp2_with fail
   refine (K1.out _).mono ?_
   rintro _ w2 ⟨rfl, hb2⟩
   have HB2 := hide (HB.out.trans (hb2.mono HB.out.size))
   have HC3 := hide (HC2.out.kept hb2)
   have HT3 := hide (HT2.out.kept hb2)
   have HX3 := hide (HTX.out.keep hb2)
   clear hb2 d0 d1 d2 d3 d4 HC2 HT2 HTX HB
   have d0 := HC3.out.cell 0 rfl
   have d1 := HC3.out.cell 1 rfl
   have d2 := HC3.out.cell 2 rfl
   have d3 := HC3.out.cell 3 rfl
   have d4 := HC3.out.cell 4 rfl
   have t0 := HT3.out.cell 0 rfl
   have t1 := HT3.out.cell 1 rfl
   have t2 := HT3.out.cell 2 rfl
   have t3 := HT3.out.cell 3 rfl
   go_wp2_with fail
   refine (C1.out gl an mn cn _ HX3.out).mono ?_
   rintro _ w3 ⟨rfl, hb3⟩
   have HB3 := hide (HB2.out.trans (hb3.mono HB2.out.size))
   clear hb3 d0 d1 d2 d3 d4 t0 t1 t2 t3
   go_wp2
   go_ret
   exact ⟨rfl, HB3.out⟩
end Go.Proofs.YtcaalcjcpddhaaaGreat.Zz
namespace Go.Proofs.YtcaalcjcpddhaaaGreat.Zz
open Go.RowKit Go.Shelf Num
attribute [local go_sem] Oper.semAt_some
def OFs (w : World) (g m : Nat) (f : Nat → List Value) : Prop := g < w.heap.size ∧ ∀ q, q < m → ∀ u x, (f q)[u]? = some x → w.cell? ⟨g, q * 9 + u, none⟩ = some x
theorem Kept.ofs {K : Nat → Prop} {W W' : World} {g m : Nat} {f : Nat → List Value} (h : Kept K W W') (ho : OFs W g m f) (hK : K g) : OFs W' g m f :=
 ⟨Nat.lt_of_lt_of_le ho.1 h.size, fun q hq u x hx => (World.cell?_of_block (w := W) (h.same g hK ho.1)).trans (ho.2 q hq u x hx)⟩
theorem OFs.kept {w w' : World} {g m : Nat} {f : Nat → List Value} (ho : OFs w g m f) (h : Below w.heap.size w w') : OFs w' g m f := (Kept.of (K := fun _ => True) h).ofs ho trivial
def ofc (Z : Nat → Co.Zf) (b st : Nat → Nat) (wb ws q : Nat) : List Value := [.int .i64 (Z q).1, .int .i64 (Z q).2.1, .int .i64 (Z q).2.2.1, .int .i64 (Z q).2.2.2.1, .int .i64 (Z q).2.2.2.2, .int .i64 (b q : Nat), .int .i64 (st q : Nat), .int .i64 (wb : Nat), .int .i64 (ws : Nat)]
set_option maxHeartbeats 4000000 in
theorem vals1_goes (gB g m cap : Nat) (Z : Nat → Co.Zf) (b st : Nat → Nat) (wb ws : Nat) (hm : m ≤ 378) (K : Nat → Prop) (w : World) (hc : Cel w gB [.slice (some ⟨g, 0, none⟩) m cap] 76) (ho : OFs w g m (ofc Z b st wb ws)) (hK : K gB) (hKg : K g) :
  Goes Tryz.prog 53 #[.pointer (some ⟨gB, 0, none⟩)] m (fun q => #[.agg #[.int .i64 (Z q).1, .int .i64 (Z q).2.1, .int .i64 (Z q).2.2.1, .int .i64 (Z q).2.2.2.1, .int .i64 (Z q).2.2.2.2, .int .i64 (b q : Nat), .int .i64 (st q : Nat), .int .i64 (wb : Nat), .int .i64 (ws : Nat)]]) K w := by
 intro l J Jx W hW hKW hJ hJx hY h0
 refine (callsIn_wide (n := 0)).1 (callsIn_of_wp Tryz.func53 rfl trivial ?_)
 simp only [Tryz.ntmps53, List.size_toArray, List.length_cons, List.length_nil, Nat.reduceAdd, Nat.reduceSub, Array.replicate_succ, Array.replicate_zero, List.push_toArray, List.append_toArray, List.nil_append, List.cons_append]
 replace hc := hc.kept hW
 have HO := hide (ho.kept hW)
 have c0 := hc.cell 0 rfl
 clear hc ho
 gi_wp2
 clear c0
 gi_loopw [7] (fun iv wr => ∃ q : Nat, q ≤ m ∧ iv = .int .i64 (q : Nat) ∧ Hid (J q wr) ∧ Hid (OFs wr g m (ofc Z b st wb ws)) ∧ W.heap.size ≤ wr.heap.size) (fun k _ => m - (intOf k).toNat)
 case atStart => exact ⟨0, Nat.zero_le _, rfl, h0, HO, Nat.le_refl _⟩
 case round =>
  clear HO
  obtain ⟨q, hq, rfl, HJ, HO, hz⟩ := hrel
  by_cases hlt : q < m
  ·have hltz : (q : Int) < (m : Int) := by omega
   obtain ⟨WA, hWA⟩ : ∃ WA, Hid (WA = wr.alloc (.cells #[.int .i64 (Z q).1, .int .i64 (Z q).2.1, .int .i64 (Z q).2.2.1, .int .i64 (Z q).2.2.2.1, .int .i64 (Z q).2.2.2.2, .int .i64 (b q : Nat), .int .i64 (st q : Nat), .int .i64 (wb : Nat), .int .i64 (ws : Nat)] 71)) := ⟨_, rfl⟩
   have HAB : Hid (Below wr.heap.size wr WA) := by show Below _ _ _; rw [hWA.out]; exact below_alloc wr _
   have HOA := hide (HO.out.kept HAB.out)
   have hzA : W.heap.size ≤ WA.heap.size := Nat.le_trans hz HAB.out.size
   have Y := hY q WA hlt (hJ q wr WA HJ.out (HAB.out.mono hz)) hzA
   have e0 : wr.cell? ⟨g, q * 9, none⟩ = some _ := HO.out.2 q hlt 0 _ rfl
   have e1 : wr.cell? ⟨g, q * 9 + 1, none⟩ = some _ := HO.out.2 q hlt 1 _ rfl
   have e2 : wr.cell? ⟨g, q * 9 + 2, none⟩ = some _ := HO.out.2 q hlt 2 _ rfl
   have e3 : wr.cell? ⟨g, q * 9 + 3, none⟩ = some _ := HO.out.2 q hlt 3 _ rfl
   have e4 : wr.cell? ⟨g, q * 9 + 4, none⟩ = some _ := HO.out.2 q hlt 4 _ rfl
   have e5 : wr.cell? ⟨g, q * 9 + 5, none⟩ = some _ := HO.out.2 q hlt 5 _ rfl
   have e6 : wr.cell? ⟨g, q * 9 + 6, none⟩ = some _ := HO.out.2 q hlt 6 _ rfl
   have e7 : wr.cell? ⟨g, q * 9 + 7, none⟩ = some _ := HO.out.2 q hlt 7 _ rfl
   have e8 : wr.cell? ⟨g, q * 9 + 8, none⟩ = some _ := HO.out.2 q hlt 8 _ rfl
   obtain ⟨fn, tmps, assign, body, hy, hR⟩ := Y
   have HLT := hide hlt
   rw [hWA.out] at hy
   gi_wp2_with fail
   rw [← hWA.out] at hy ⊢
   refine ⟨rfl, hR.mono ?_⟩
   rintro e W3 ⟨hkp, ⟨rfl, hJ3⟩ | ⟨rfl, hJx3⟩⟩
   ·have HJ3 : Hid (J (q + 1) W3) := hJ3
    have HO3 := hide (hkp.ofs HOA.out hKg)
    have hz3 := Nat.le_trans hzA hkp.size
    clear hJ3 hkp HJ HO HOA HAB hWA hY hJ hJx e0 e1 e2 e3 e4 e5 e6 e7 e8
    gi_wp2
    exact ⟨⟨q + 1, by omega, by go_num, HJ3, HO3, hz3⟩, by simp only [intOf]; omega⟩
   ·have HF : Hid (∃ q, q < m ∧ Jx q W3) := ⟨q, HLT.out, hJx3⟩
    clear hJx3 hkp HJ HO HOA HAB hWA hY hJ hJx e0 e1 e2 e3 e4 e5 e6 e7 e8
    gi_wp2
    refine bodyPost_ret (results_none rfl _ _ _) rfl ?_
    exact ⟨⟨_, rfl⟩, .inr HF.out⟩
  ·obtain rfl : q = m := by omega
   have HJ3 := hide HJ.out
   clear HJ HO hY hJ hJx
   gi_wp2
   refine bodyPost_end (results_none rfl _ _ _) rfl ?_
   exact ⟨⟨_, rfl⟩, .inl HJ3.out⟩
theorem pvals_c (a : Option Addr) (m cap : Nat) (w : World) :
  Calls Tryz.prog 26 #[.slice a m cap] w fun e w' => e = .returned (.func (.func 53) #[] #[.pointer (some ⟨w.heap.size, 0, none⟩)]) ∧ Cel w' w.heap.size [.slice a m cap] 76 ∧ Below w.heap.size w w' := by
 have C := hide (Cel.new w [.slice a m cap] 76)
 have B := hide (below_alloc w (.cells #[.slice a m cap] 76))
 go_enter Tryz.func26, Tryz.ntmps26
 go_wp2
 go_ret
 exact ⟨rfl, C.out, B.out⟩
set_option maxHeartbeats 2000000 in
theorem pcost_c (z1 z2 z3 z4 z5 : Int) (b st wb ws : Nat) (hb : b ≤ 1700001000000) (hs : st ≤ 83886336) (hwb : wb ≤ 65536) (hws : ws ≤ 65536) (w : World) :
  Calls Tryz.prog 28 #[.agg #[.int .i64 z1, .int .i64 z2, .int .i64 z3, .int .i64 z4, .int .i64 z5, .int .i64 (b : Nat), .int .i64 (st : Nat), .int .i64 (wb : Nat), .int .i64 (ws : Nat)]] w fun e w' => e = .returned (.int .i64 (b * wb + st * ws : Nat)) ∧ Below w.heap.size w w' := by
 have B := hide (below_alloc w (.cells #[.int .i64 z1, .int .i64 z2, .int .i64 z3, .int .i64 z4, .int .i64 z5, .int .i64 (b : Nat), .int .i64 (st : Nat), .int .i64 (wb : Nat), .int .i64 (ws : Nat)] 71))
 have p1 := Nat.mul_le_mul hb hwb
 have p2 := Nat.mul_le_mul hs hws
 have e1 : (b : Int) * (wb : Int) = ((b * wb : Nat) : Int) := by rw [Int.natCast_mul]
 have e2 : (st : Int) * (ws : Int) = ((st * ws : Nat) : Int) := by rw [Int.natCast_mul]
 generalize b * wb = P1 at *
 generalize st * ws = P2 at *
 go_enter Tryz.func28, Tryz.ntmps28
 go_wp2
 go_ret
 exact ⟨by go_num, B.out⟩
end Go.Proofs.YtcaalcjcpddhaaaGreat.Zz
namespace Go.Proofs.YtcaalcjcpddhaaaGreat.Zz
open Go.RowKit Num Hp
namespace Pn
def am (f : Nat → Nat) : Nat → Nat
 | 0 => 0
 | q + 1 => if q = 0 then 0 else if f q < f (am f q) then q else am f q
theorem am_lt (f : Nat → Nat) : ∀ {q : Nat}, 0 < q → am f q < q
 | q + 1, _ => by
  rw [am]
  split
  ·omega
  ·split
   ·omega
   ·have := am_lt f (q := q) (by omega)
    omega
theorem am_le (f : Nat → Nat) : ∀ {q j : Nat}, j < q → f (am f q) ≤ f j
 | q + 1, j, h => by
  rw [am]
  split
  ·rw [show j = 0 by omega]; exact Nat.le_refl _
  ·by_cases e : j = q
   ·subst e; split <;> omega
   ·have := am_le f (q := q) (j := j) (by omega)
    split <;> omega
theorem am_first (f : Nat → Nat) : ∀ {q j : Nat}, 0 < q → j < am f q → f (am f q) < f j
 | q + 1, j, _, h => by
  rw [am] at h ⊢
  split
  ·rw [if_pos (by assumption)] at h; omega
  ·rename_i h0
   rw [if_neg h0] at h
   split
   ·rename_i h1
    rw [if_pos h1] at h
    have := am_le f (q := q) (j := j) h
    omega
   ·rename_i h1
    rw [if_neg h1] at h
    exact am_first f (by omega) h
theorem bitsN_le {l : List Int} (h : okT l = true) (z : Co.Zf) : bitsN z l ≤ 1700001000000 := by
 unfold bitsN
 split
 ·rename_i h2
  rw [Bool.and_eq_true] at h2
  exact btN_le (CfI.of h2.2) (okT_parts h).2 (okT_parts h).2
 ·omega
theorem stpN_le {l : List Int} (h : okT l = true) (z : Co.Zf) : stpN z l ≤ 83886336 := by
 unfold stpN
 split
 ·rename_i h2
  rw [Bool.and_eq_true] at h2
  obtain ⟨M, e, m1, m2⟩ := (CfI.of h2.2).m1
  rw [e, Int.toNat_natCast]
  have h3 := shS_le z.1 z.2.1 (n := Hv.tot (cntOf l) 256) (okT_parts h).1 (okT_parts h).2
  have h4 := Nat.mul_le_mul h3 (fac_le z.2.2.2.1)
  exact Nat.le_trans (Nat.mul_le_mul h4 m2) (by decide)
 ·omega
def wgt (l : List Int) (wb ws : Nat) (z : Co.Zf) : Nat := bitsN z l * wb + stpN z l * ws
def wgq (l : List Int) (wb ws q : Nat) : Nat := wgt l wb ws (Co.az.getD q (0, 0, 0, 0, 0))
def okW (l : List Int) (wb ws : Int) : Bool := okT l && (decide (0 ≤ wb) && (decide (wb ≤ 65536) && (decide (0 ≤ ws) && decide (ws ≤ 65536))))
def chZ (l : List Int) (wb ws : Int) : Co.Zf := if okW l wb ws = true then Co.az.getD (am (wgq l wb.toNat ws.toNat) 378) (0, 0, 0, 0, 0) else (0, 0, 0, 0, 0)
def chE (l : List Int) (wb ws : Int) : Int := if okW l wb ws = true then 0 else 2
theorem az_get (q : Nat) (h : q < 378) : ∃ c, Co.all[q]? = some c ∧ Co.az.getD q (0, 0, 0, 0, 0) = Co.toZ c := by
 have hl : q < Co.all.length := by rw [Co.all_len]; exact h
 refine ⟨Co.all[q], List.getElem?_eq_getElem hl, ?_⟩
 unfold Co.az
 rw [List.getD_eq_getElem?_getD, List.getElem?_map, List.getElem?_eq_getElem hl]
 rfl
end Pn
theorem al_five {w : World} {g q : Nat} {c : Co.Cf} (h : AL w g) (hc : Co.all[q]? = some c) : w.cell? ⟨g, q * 5, none⟩ = some (.int .i64 (c.1 : Int)) ∧ w.cell? ⟨g, q * 5 + 1, none⟩ = some (.int .i64 (c.2.1 : Int)) ∧ w.cell? ⟨g, q * 5 + 2, none⟩ = some (.int .i64 (c.2.2.1 : Int)) ∧ w.cell? ⟨g, q * 5 + 3, none⟩ = some (.int .i64 (c.2.2.2.1 : Int)) ∧ w.cell? ⟨g, q * 5 + 4, none⟩ = some (.int .i64 (c.2.2.2.2 : Int)) :=
 ⟨h.2 q c hc 0 _ rfl, h.2 q c hc 1 _ rfl, h.2 q c hc 2 _ rfl, h.2 q c hc 3 _ rfl, h.2 q c hc 4 _ rfl⟩
end Go.Proofs.YtcaalcjcpddhaaaGreat.Zz
