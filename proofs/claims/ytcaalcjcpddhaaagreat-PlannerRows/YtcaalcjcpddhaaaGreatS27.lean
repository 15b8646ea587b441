/-
  What layer 21's heads is told by. The contract of layer 21's heads.
-/
import Derived.Test.YtcaalcjcpddhaaaGreatS26
set_option linter.unusedVariables false
set_option linter.unusedSimpArgs false
set_option maxRecDepth 100000
namespace Go.Proofs.YtcaalcjcpddhaaaGreat.Zz
open Go.RowKit Num Hp
namespace Pn
theorem am_is {f : Nat → Nat} {q i : Nat} (hi : i < q) (h1 : ∀ j, j < i → f i < f j) (h2 : ∀ j, j < q → f i ≤ f j) : am f q = i := by
 have a1 := am_lt f (q := q) (by omega)
 have a2 := am_le f hi
 by_cases c1 : am f q < i
 ·have := h1 _ c1; omega
 ·by_cases c2 : i < am f q
  ·have := am_first f (q := q) (j := i) (by omega) c2
   have := h2 _ a1
   omega
  ·omega
def hN : List Nat := ((List.replicate 256 0).set 97 5).set 98 3
def hI : List Int := hN.map fun n : Nat => (n : Int)
theorem hI_len : hI.length = 256 := by decide +kernel
theorem hI_ok : okT hI = true := by decide +kernel
theorem hI_cst : cst hI = 8 := by decide +kernel
theorem hI_tot : Hv.tot (cntOf hI) 256 = 8 := by decide +kernel
theorem hI_bits : bitsN (1, 0, 0, 1, 4) hI = 8779 := by decide +kernel
theorem az_ok : (Co.az.all Co.okZ) = true := by decide +kernel
theorem az_one : ((List.range 21).all fun j => decide ((Co.az.getD j (0, 0, 0, 0, 0)).1 = 1)) = true := by decide +kernel
theorem okZ_az {j : Nat} (h : j < 378) : Co.okZ (Co.az.getD j (0, 0, 0, 0, 0)) = true := by
 have hl : j < Co.az.length := by rw [Co.az_len]; exact h
 have := List.all_eq_true.1 az_ok _ (List.getElem_mem hl)
 rw [List.getD_eq_getElem?_getD, List.getElem?_eq_getElem hl]
 exact this
theorem fac_pos (k : Int) : 1 ≤ fac k := by
 unfold fac
 split
 ·omega
 ·split <;> omega
theorem shS_pos (s i : Int) (l : List Int) (n : Nat) : 1 ≤ shS s i l n := by
 have := shp_pos s l n
 unfold shS
 split <;> omega
theorem stpN_in {l : List Int} {z : Co.Zf} (h : okT l = true) (hz : Co.okZ z = true) : stpN z l = shS z.1 z.2.1 l (Hv.tot (cntOf l) 256) * fac z.2.2.2.1 * z.2.2.2.2.toNat := by
 unfold stpN
 rw [if_pos (by rw [h, hz]; rfl)]
theorem stpN_pos {l : List Int} {z : Co.Zf} (h : okT l = true) (hz : Co.okZ z = true) : shS z.1 z.2.1 l (Hv.tot (cntOf l) 256) ≤ stpN z l := by
 rw [stpN_in h hz]
 obtain ⟨M, e, m1, m2⟩ := (CfI.of hz).m1
 have e' : z.2.2.2.2 = (M : Int) := e
 rw [e', Int.toNat_natCast]
 have h1 := Nat.mul_le_mul_left (shS z.1 z.2.1 l (Hv.tot (cntOf l) 256)) (fac_pos z.2.2.2.1)
 have h2 := Nat.mul_le_mul_left (shS z.1 z.2.1 l (Hv.tot (cntOf l) 256) * fac z.2.2.2.1) m1
 omega
theorem az_21 : Co.az.getD 21 (0, 0, 0, 0, 0) = (2, 0, 0, 1, 1) := by decide +kernel
theorem wgq_h (q : Nat) : wgq hI 0 1 q = stpN (Co.az.getD q (0, 0, 0, 0, 0)) hI := by unfold wgq wgt; omega
theorem hI_21 : wgq hI 0 1 21 = 1 := by
 rw [wgq_h, az_21, stpN_in hI_ok (by decide +kernel), hI_tot]
 have : shS 2 0 hI 8 = 1 := by
  unfold shS shp
  rw [if_neg (by decide), if_pos rfl, if_neg (by decide), hI_cst]
  decide
 show shS 2 0 hI 8 * fac 1 * (1 : Int).toNat = 1
 rw [this]
 decide
theorem hI_am : am (wgq hI 0 1) 378 = 21 := by
 refine am_is (by decide) (fun j hj => ?_) (fun j hj => ?_)
 ·rw [hI_21, wgq_h]
  have h1 := stpN_pos hI_ok (okZ_az (j := j) (by omega))
  have h2 := of_decide_eq_true (List.all_eq_true.1 az_one j (List.mem_range.2 hj))
  rw [h2] at h1
  have h3 : shS 1 (Co.az.getD j (0, 0, 0, 0, 0)).2.1 hI (Hv.tot (cntOf hI) 256) = 8 := by
   unfold shS shp
   rw [if_neg (by decide), if_neg (by decide)]
  omega
 ·rw [hI_21, wgq_h]
  have h1 := stpN_pos hI_ok (okZ_az hj)
  have h2 := shS_pos (Co.az.getD j (0, 0, 0, 0, 0)).1 (Co.az.getD j (0, 0, 0, 0, 0)).2.1 hI (Hv.tot (cntOf hI) 256)
  omega
theorem hI_okW : okW hI 0 1 = true := by
 unfold okW
 rw [hI_ok]
 rfl
theorem hI_ch : chZ hI 0 1 = (2, 0, 0, 1, 1) ∧ chE hI 0 1 = 0 := by
 constructor
 ·unfold chZ
  rw [if_pos hI_okW]
  show Co.az.getD (am (wgq hI 0 1) 378) _ = _
  rw [hI_am, az_21]
 ·unfold chE
  rw [if_pos hI_okW]
theorem hI_steps : stpN (1, 0, 0, 1, 4) hI = 32 := by
 rw [stpN_in hI_ok (by decide +kernel)]
 decide +kernel
theorem h_none : okT [] = false := by decide
theorem h_row : rowI 1 600 5 = 824 ∧ rowI 9 5 5 = 0 := by decide +kernel
end Pn
end Go.Proofs.YtcaalcjcpddhaaaGreat.Zz
namespace Go.Proofs.YtcaalcjcpddhaaaGreat.Zz
open Go.RowKit Num Hp
theorem nd_ivh {w : World} {g : Nat} {l : List Nat} {T : TypeId} (h : Cel w g (ivh l) T) : Nd w (some ⟨g, 0, none⟩) (l.map fun n : Nat => (n : Int)) := by
 intro h0
 rw [List.length_map] at h0
 refine ⟨g, 0, rfl, h.lt, fun i hi => ?_⟩
 rw [List.length_map] at hi
 rw [Nat.zero_add, h.cell i (ivh_get l i hi)]
 unfold gi
 rw [List.getD_eq_getElem?_getD, List.getD_eq_getElem?_getD, List.getElem?_map, List.getElem?_eq_getElem hi]
 rfl
set_option maxHeartbeats 8000000 in
theorem heads21_c (w : World) : Calls Tryz.prog 4 #[] w fun e w' => e = .returned (.bool true) ∧ Below w.heap.size w w' := by
 obtain ⟨i0, hi, hz0, hz1, hz2⟩ := info_parts info_i64
 have R1 : Hid (∀ w0, Calls Tryz.prog 7 #[.int .i64 1, .int .i64 600, .int .i64 5] w0 fun e w' => e = .returned (.int .i64 824) ∧ Below w0.heap.size w0 w') := fun w0 => by
  have := prow_c 1 600 5 w0
  rw [Pn.h_row.1] at this
  exact this
 have R2 : Hid (∀ w0, Calls Tryz.prog 7 #[.int .i64 9, .int .i64 5, .int .i64 5] w0 fun e w' => e = .returned (.int .i64 0) ∧ Below w0.heap.size w0 w') := fun w0 => by
  have := prow_c 9 5 5 w0
  rw [Pn.h_row.2] at this
  exact this
 have CH1 : Hid (∀ w0 g, Nd w0 (some ⟨g, 0, none⟩) Pn.hI → Calls Tryz.prog 9 #[.slice (some ⟨g, 0, none⟩) 256 256, .agg #[.int .i64 0, .int .i64 1]] w0 fun e w' => e = .returned (.tuple #[.agg #[.int .i64 2, .int .i64 0, .int .i64 0, .int .i64 1, .int .i64 1], .int .i64 0]) ∧ Below w0.heap.size w0 w') := fun w0 g h => by
  have := pchoose_c 0 1 (some ⟨g, 0, none⟩) Pn.hI 256 w0 h (by rw [Pn.hI_len]; omega)
  rw [Pn.hI_ch.1, Pn.hI_ch.2, Pn.hI_len] at this
  exact this
 have CH2 : Hid (∀ w0, Calls Tryz.prog 9 #[.slice none 0 0, .agg #[.int .i64 0, .int .i64 0]] w0 fun e w' => e = .returned (.tuple #[.agg #[.int .i64 0, .int .i64 0, .int .i64 0, .int .i64 0, .int .i64 0], .int .i64 2]) ∧ Below w0.heap.size w0 w') := fun w0 => by
  have := pchoose_c 0 0 none [] 0 w0 (nd0 _ _) (by decide)
  have hno : Pn.okW [] 0 0 = false := by unfold Pn.okW; rw [Pn.h_none]; rfl
  rw [show Pn.chZ [] 0 0 = (0, 0, 0, 0, 0) by unfold Pn.chZ; rw [hno]; rfl, show Pn.chE [] 0 0 = 2 by unfold Pn.chE; rw [hno]; rfl] at this
  exact this
 have BT : Hid (∀ w0 g, Nd w0 (some ⟨g, 0, none⟩) Pn.hI → Calls Tryz.prog 10 #[.agg #[.int .i64 1, .int .i64 0, .int .i64 0, .int .i64 1, .int .i64 4], .slice (some ⟨g, 0, none⟩) 256 256] w0 fun e w' => e = .returned (.int .i64 8779) ∧ Below w0.heap.size w0 w') := fun w0 g h => by
  have := pbits_c 1 0 0 1 4 (some ⟨g, 0, none⟩) Pn.hI 256 w0 h (by rw [Pn.hI_len]; omega)
  rw [Pn.hI_bits, Pn.hI_len] at this
  exact this
 have ST : Hid (∀ w0 g, Nd w0 (some ⟨g, 0, none⟩) Pn.hI → Calls Tryz.prog 11 #[.agg #[.int .i64 1, .int .i64 0, .int .i64 0, .int .i64 1, .int .i64 4], .slice (some ⟨g, 0, none⟩) 256 256] w0 fun e w' => e = .returned (.int .i64 32) ∧ Below w0.heap.size w0 w') := fun w0 g h => by
  have := psteps_c 1 0 0 1 4 (some ⟨g, 0, none⟩) Pn.hI 256 w0 h (by rw [Pn.hI_len]; omega)
  rw [Pn.hI_steps, Pn.hI_len] at this
  exact this
 have BN : Hid (∀ w0, Calls Tryz.prog 10 #[.agg #[.int .i64 1, .int .i64 0, .int .i64 0, .int .i64 1, .int .i64 4], .slice none 0 0] w0 fun e w' => e = .returned (.int .i64 0) ∧ Below w0.heap.size w0 w') := fun w0 => by
  have := pbits_c 1 0 0 1 4 none [] 0 w0 (nd0 _ _) (by decide)
  rw [show Pn.bitsN (1, 0, 0, 1, 4) [] = 0 by unfold Pn.bitsN; rw [Pn.h_none]; rfl] at this
  exact this
 go_enter Tryz.func4, Tryz.ntmps4
 go_wp2_with (at_make; refine wpList_make_full _ rfl _ _ 26 rfl w.heap.size 3 i0 (.int .i64 0) 1 Tryz.underlying26 hi hz0 hz1 .i64 .i64 _ _ 256 rfl rfl rfl rfl ?b2 ?b3 ?b4 ?_)
 case b2 => rw [hz2]; omega
 case b3 => unfold maxLen; omega
 case b4 => simp
 intro w1 hown hgr
 have T1 := cel_made1 hown
 have HB1 := hide (show Below w.heap.size w w1 from (Below.refl _ _).grown hgr (Nat.le_refl _) (fun k h => by cases h))
 have y0 := T1.cell 97 (ivh_get _ 97 (by rw [List.length_replicate]; omega))
 have y1 := T1.cell 98 (ivh_get _ 98 (by rw [List.length_replicate]; omega))
 have f0 := T1.frozen 97
 have f1 := T1.frozen 98
 have hlt := T1.lt
 have K := (T1.set 97 (.int .i64 ((5 : Nat) : Int))).set 98 (.int .i64 ((3 : Nat) : Int))
 rw [ivh_set, ivh_set] at K
 obtain ⟨W, hW⟩ : ∃ W, W = (w1.setCell ⟨w.heap.size, 97, none⟩ (.int .i64 5)).setCell ⟨w.heap.size, 98, none⟩ (.int .i64 3) := ⟨_, rfl⟩
 have HN : Hid (Nd W (some ⟨w.heap.size, 0, none⟩) Pn.hI) := by rw [hW]; exact nd_ivh K
 have HB : Hid (Below w.heap.size w W) := by rw [hW]; exact (HB1.out.setCell (p := ⟨w.heap.size, 97, none⟩) (Nat.le_refl _) _).setCell (p := ⟨w.heap.size, 98, none⟩) (Nat.le_refl _) _
 clear K T1 HB1 hown hgr hi hz0 hz1 hz2
 go_wp2_with fail
 rw [← hW]
 clear hW y0 y1 f0 f1 hlt
 refine (CH1.out _ w.heap.size HN.out).mono ?_
 rintro e w2 ⟨rfl, hb⟩
 replace HN := hide (HN.out.keep hb)
 replace HB := hide (HB.out.trans (hb.mono HB.out.size))
 obtain ⟨V2, hV2⟩ : ∃ V, V = w2.alloc (.cells #[.int .i64 2, .int .i64 0, .int .i64 0, .int .i64 1, .int .i64 1] 44) := ⟨_, rfl⟩
 have A2 := hide (show Cel V2 w2.heap.size [.int .i64 2, .int .i64 0, .int .i64 0, .int .i64 1, .int .i64 1] 44 by rw [hV2]; exact Cel.new w2 _ _)
 replace HN := hide (show Nd V2 (some ⟨w.heap.size, 0, none⟩) Pn.hI by rw [hV2]; exact HN.out.keep (below_alloc w2 _))
 replace HB := hide (show Below w.heap.size w V2 by rw [hV2]; exact HB.out.trans ((below_alloc w2 _).mono HB.out.size))
 clear hb
 go_wp2_with fail
 rw [← hV2]
 clear hV2
 generalize w2.heap.size = g2 at *
 refine (CH2.out _).mono ?_
 rintro e w3 ⟨rfl, hb⟩
 replace A2 := hide (A2.out.kept hb)
 replace HN := hide (HN.out.keep hb)
 replace HB := hide (HB.out.trans (hb.mono HB.out.size))
 obtain ⟨V3, hV3⟩ : ∃ V, V = (w3.alloc (.cells #[.int .i64 0, .int .i64 0, .int .i64 0, .int .i64 0, .int .i64 0] 44)).alloc (.cells #[.int .i64 1, .int .i64 0, .int .i64 0, .int .i64 1, .int .i64 4] 44) := ⟨_, rfl⟩
 have bV : Below w3.heap.size w3 V3 := by rw [hV3]; exact (below_alloc w3 _).alloc (by simp) _
 replace A2 := hide (A2.out.kept bV)
 have A6 := hide (show Cel V3 (w3.heap.size + 1) [.int .i64 1, .int .i64 0, .int .i64 0, .int .i64 1, .int .i64 4] 44 by rw [hV3]; exact Cel.new2 w3 _ _ _)
 replace HN := hide (HN.out.keep bV)
 replace HB := hide (HB.out.trans (bV.mono HB.out.size))
 clear hb bV
 go_wp2_with fail
 rw [← hV3]
 clear hV3
 generalize w3.heap.size + 1 = g6 at *
 go_wp2_with fail
 refine (R1.out _).mono ?_
 rintro e w9 ⟨rfl, hb⟩
 replace A2 := hide (A2.out.kept hb)
 replace A6 := hide (A6.out.kept hb)
 replace HN := hide (HN.out.keep hb)
 replace HB := hide (HB.out.trans (hb.mono HB.out.size))
 clear hb
 have p0 := A2.out.cell 0 rfl
 have p1 := A2.out.cell 1 rfl
 have p2 := A2.out.cell 2 rfl
 have p3 := A2.out.cell 3 rfl
 have p4 := A2.out.cell 4 rfl
 have q0 := A6.out.cell 0 rfl
 have q1 := A6.out.cell 1 rfl
 have q2 := A6.out.cell 2 rfl
 have q3 := A6.out.cell 3 rfl
 have q4 := A6.out.cell 4 rfl
 go_wp2_with fail
 refine (R2.out _).mono ?_
 rintro e w9 ⟨rfl, hb⟩
 replace A2 := hide (A2.out.kept hb)
 replace A6 := hide (A6.out.kept hb)
 replace HN := hide (HN.out.keep hb)
 replace HB := hide (HB.out.trans (hb.mono HB.out.size))
 clear hb p0 p1 p2 p3 p4 q0 q1 q2 q3 q4
 have p0 := A2.out.cell 0 rfl
 have p1 := A2.out.cell 1 rfl
 have p2 := A2.out.cell 2 rfl
 have p3 := A2.out.cell 3 rfl
 have p4 := A2.out.cell 4 rfl
 have q0 := A6.out.cell 0 rfl
 have q1 := A6.out.cell 1 rfl
 have q2 := A6.out.cell 2 rfl
 have q3 := A6.out.cell 3 rfl
 have q4 := A6.out.cell 4 rfl
 go_wp2_with fail
 refine (BT.out _ w.heap.size HN.out).mono ?_
 rintro e w9 ⟨rfl, hb⟩
 replace A2 := hide (A2.out.kept hb)
 replace A6 := hide (A6.out.kept hb)
 replace HN := hide (HN.out.keep hb)
 replace HB := hide (HB.out.trans (hb.mono HB.out.size))
 clear hb p0 p1 p2 p3 p4 q0 q1 q2 q3 q4
 have p0 := A2.out.cell 0 rfl
 have p1 := A2.out.cell 1 rfl
 have p2 := A2.out.cell 2 rfl
 have p3 := A2.out.cell 3 rfl
 have p4 := A2.out.cell 4 rfl
 have q0 := A6.out.cell 0 rfl
 have q1 := A6.out.cell 1 rfl
 have q2 := A6.out.cell 2 rfl
 have q3 := A6.out.cell 3 rfl
 have q4 := A6.out.cell 4 rfl
 go_wp2_with fail
 refine (ST.out _ w.heap.size HN.out).mono ?_
 rintro e w9 ⟨rfl, hb⟩
 replace A2 := hide (A2.out.kept hb)
 replace A6 := hide (A6.out.kept hb)
 replace HN := hide (HN.out.keep hb)
 replace HB := hide (HB.out.trans (hb.mono HB.out.size))
 clear hb p0 p1 p2 p3 p4 q0 q1 q2 q3 q4
 have p0 := A2.out.cell 0 rfl
 have p1 := A2.out.cell 1 rfl
 have p2 := A2.out.cell 2 rfl
 have p3 := A2.out.cell 3 rfl
 have p4 := A2.out.cell 4 rfl
 have q0 := A6.out.cell 0 rfl
 have q1 := A6.out.cell 1 rfl
 have q2 := A6.out.cell 2 rfl
 have q3 := A6.out.cell 3 rfl
 have q4 := A6.out.cell 4 rfl
 go_wp2_with fail
 refine (BN.out _).mono ?_
 rintro e w9 ⟨rfl, hb⟩
 replace A2 := hide (A2.out.kept hb)
 replace A6 := hide (A6.out.kept hb)
 replace HN := hide (HN.out.keep hb)
 replace HB := hide (HB.out.trans (hb.mono HB.out.size))
 clear hb p0 p1 p2 p3 p4 q0 q1 q2 q3 q4
 have p0 := A2.out.cell 0 rfl
 have p1 := A2.out.cell 1 rfl
 have p2 := A2.out.cell 2 rfl
 have p3 := A2.out.cell 3 rfl
 have p4 := A2.out.cell 4 rfl
 have q0 := A6.out.cell 0 rfl
 have q1 := A6.out.cell 1 rfl
 have q2 := A6.out.cell 2 rfl
 have q3 := A6.out.cell 3 rfl
 have q4 := A6.out.cell 4 rfl
 go_wp2
 go_ret
 exact ⟨rfl, HB.out⟩
end Go.Proofs.YtcaalcjcpddhaaaGreat.Zz
