/-
  The contract of the landed Choose. The landed package planner: Row (Pzb), Bits and Steps (Pzm), Choose (Pzr). What layer 21's heads is told by. The contract of layer 21's heads.
-/
import Derived.Test.YtcaalcjcpddhaaaGreatR49
import Derived.Test.YtcaalcjcpddhaaaGreatR48
import Derived.Deep.Cut
import Derived.Deep.DeepCutAuto
namespace Go.Proofs.YtcaalcjcpddhaaaGreat.Zz
open Go.RowKit Num Hp
set_option linter.unusedVariables false
set_option linter.unusedSimpArgs false
set_option maxRecDepth 100000

theorem okW_eq (l : List Int) (wb ws : Int) : Pn.okW l wb ws = (Pn.okT l && ((decide (0 ≤ wb) && decide (wb ≤ 65536)) && (decide (0 ≤ ws) && decide (ws ≤ 65536)))) := by
 unfold Pn.okW
 cases Pn.okT l <;> cases decide (0 ≤ wb) <;> cases decide (wb ≤ 65536) <;> cases decide (0 ≤ ws) <;> cases decide (ws ≤ 65536) <;> rfl
theorem ch_bad {l : List Int} {wb ws : Int} (h : Pn.okW l wb ws = false) : Co.cv (Pn.chZ l wb ws) = [.int .i64 0, .int .i64 0, .int .i64 0, .int .i64 0, .int .i64 0] ∧ Pn.chE l wb ws = 2 := by
 unfold Pn.chZ Pn.chE
 rw [h]
 exact ⟨rfl, rfl⟩
theorem field_cfg (z1 z2 z3 z4 z5 : Int) (a b c d : Int) (w : World) : (Instr.field 71 (.agg #[.int .i64 z1, .int .i64 z2, .int .i64 z3, .int .i64 z4, .int .i64 z5, .int .i64 a, .int .i64 b, .int .i64 c, .int .i64 d]) 0).run Tryz.prog w = .ok (.agg #[.int .i64 z1, .int .i64 z2, .int .i64 z3, .int .i64 z4, .int .i64 z5]) w := by kernel_rfl
set_option maxHeartbeats 8000000 in
theorem pchoose_c (wb ws : Int) (ao : Option Addr) (l : List Int) (cap : Nat) (w : World) (hx : Nd w ao l) (hl : l.length ≤ 1048576) :
  Calls Tryz.prog 9 #[.slice ao l.length cap, .agg #[.int .i64 wb, .int .i64 ws]] w fun e w' => e = .returned (.tuple #[.agg (Co.cv (Pn.chZ l wb ws)).toArray, .int .i64 (Pn.chE l wb ws)]) ∧ Below w.heap.size w w' := by
 obtain ⟨W, hW⟩ : ∃ W, W = (w.alloc (.cells #[.int .i64 wb, .int .i64 ws] 49)).alloc (.cells #[.int .i64 0, .int .i64 0, .int .i64 0, .int .i64 0, .int .i64 0] 44) := ⟨_, rfl⟩
 have HWT := hide (show Cel W w.heap.size [.int .i64 wb, .int .i64 ws] 49 by rw [hW]; exact (Cel.new w _ _).alloc _)
 have HRC := hide (show Cel W (w.heap.size + 1) [.int .i64 0, .int .i64 0, .int .i64 0, .int .i64 0, .int .i64 0] 44 by rw [hW]; exact Cel.new2 w _ _ _)
 have HbW := hide (show Below w.heap.size w W by rw [hW]; exact (below_alloc w _).alloc (by simp) _)
 have PW := hide pweight_c
 cases hT : Pn.okT l with
 | false =>
  have hk : Pn.okW l wb ws = false := by rw [okW_eq, hT]; rfl
  have HZ := hide (ch_bad hk).1
  have HE := hide (ch_bad hk).2
  have T1 : Hid (∀ w0, Below w.heap.size w w0 → Calls Tryz.prog 23 #[.slice ao l.length cap] w0 fun e w' => e = .returned (.tuple #[.agg #[.int .i64 0, .slice none 0 0, .slice none 0 0, .int .i64 0], .bool false]) ∧ Below w0.heap.size w0 w') := fun w0 h => ptext_bad ao l cap w0 (hx.keep h) hl hT
  clear hT hx hl hk
  go_enter Tryz.func9, Tryz.ntmps9
  go_wp2_with fail
  rw [← hW]
  refine (T1.out _ HbW.out).mono ?_
  rintro _ w1 ⟨rfl, hb⟩
  have HB := hide ((HbW.out.trans (hb.mono HbW.out.size)).trans ((below_alloc w1 (.cells #[.int .i64 0, .slice none 0 0, .slice none 0 0, .int .i64 0] 66)).mono (HbW.out.trans (hb.mono HbW.out.size)).size))
  replace HRC := hide ((HRC.out.kept hb).alloc (.cells #[.int .i64 0, .slice none 0 0, .slice none 0 0, .int .i64 0] 66))
  replace HWT := hide ((HWT.out.kept hb).alloc (.cells #[.int .i64 0, .slice none 0 0, .slice none 0 0, .int .i64 0] 66))
  have e0 := HWT.out.cell 0 rfl
  have e1 := HWT.out.cell 1 rfl
  clear hW hb HbW T1
  go_wp2_with (refine store_cel (w.heap.size + 1) [.int .i64 0, .int .i64 0, .int .i64 0, .int .i64 0, .int .i64 0] [.int .i64 0, .int .i64 0, .int .i64 0, .int .i64 0, .int .i64 0] (by rfl) rfl HRC.out rfl (by kernel_rfl) (by simp [Value.oneCell']) ?_)
  intro w8 hc8 ho8
  have HBF := hide (HB.out.trans (ho8.below (Nat.le_succ _)))
  have x0 := hc8.cell 0 rfl
  have x1 := hc8.cell 1 rfl
  have x2 := hc8.cell 2 rfl
  have x3 := hc8.cell 3 rfl
  have x4 := hc8.cell 4 rfl
  clear hc8 ho8 HB HRC
  go_wp2
  refine bodyPost_ret (v := .tuple #[.agg #[.int .i64 0, .int .i64 0, .int .i64 0, .int .i64 0, .int .i64 0], .int .i64 2]) (by simp [results, Tryz.results9, go_sem, x0, x1, x2, x3, x4]) rfl ?_
  rw [HZ.out, HE.out]
  exact ⟨rfl, HBF.out⟩
 | true =>
  obtain ⟨hw, ht⟩ := Pn.okT_parts hT
  have T1 : Hid (∀ w0, Below w.heap.size w w0 → Calls Tryz.prog 23 #[.slice ao l.length cap] w0 fun e w' => ∃ gl an mn cn, e = .returned (.tuple #[.agg #[.int .i64 (Hv.tot (cntOf l) 256 : Nat), .slice (some ⟨gl, 0, none⟩) 8 8, .slice an mn cn, .int .i64 (Pn.dpt l : Nat)], .bool true]) ∧ Pn.TX w' l gl an mn cn ∧ Below w0.heap.size w0 w') := fun w0 h => ptext_c ao l cap w0 (hx.keep h) hl hT
  have HD : Hid (Pn.dpt l = Pn.shp 2 l (Hv.tot (cntOf l) 256)) := rfl
  obtain ⟨n, hn⟩ : ∃ n, Hid (n = Hv.tot (cntOf l) 256) := ⟨_, rfl⟩
  rw [← hn.out] at T1 HD
  generalize Pn.dpt l = D at *
  cases h1 : (decide (0 ≤ wb) && decide (wb ≤ 65536)) with
  | false =>
   have hk : Pn.okW l wb ws = false := by rw [okW_eq, h1]; simp
   have HZ := hide (ch_bad hk).1
   have HE := hide (ch_bad hk).2
   have P1 := hide fun w0 => PW.out wb w0
   rw [h1] at P1
   clear hT hx hl hk hw ht PW h1 hn HD
   go_enter Tryz.func9, Tryz.ntmps9
   go_wp2_with fail
   rw [← hW]
   refine (T1.out _ HbW.out).mono ?_
   rintro _ w1 ⟨gl, an, mn, cn, rfl, _, hb⟩
   have HB := hide ((HbW.out.trans (hb.mono HbW.out.size)).trans ((below_alloc w1 (.cells #[.int .i64 (n : Int), .slice (some ⟨gl, 0, none⟩) 8 8, .slice an mn cn, .int .i64 (D : Int)] 66)).mono (HbW.out.trans (hb.mono HbW.out.size)).size))
   replace HRC := hide ((HRC.out.kept hb).alloc (.cells #[.int .i64 (n : Int), .slice (some ⟨gl, 0, none⟩) 8 8, .slice an mn cn, .int .i64 (D : Int)] 66))
   replace HWT := hide ((HWT.out.kept hb).alloc (.cells #[.int .i64 (n : Int), .slice (some ⟨gl, 0, none⟩) 8 8, .slice an mn cn, .int .i64 (D : Int)] 66))
   have e0 := HWT.out.cell 0 rfl
   have e1 := HWT.out.cell 1 rfl
   clear hW hb HbW T1
   go_wp2_with fail
   refine (P1.out _).mono ?_
   rintro _ w2 ⟨rfl, rfl⟩
   clear e0 e1
   go_wp2_with (refine store_cel (w.heap.size + 1) [.int .i64 0, .int .i64 0, .int .i64 0, .int .i64 0, .int .i64 0] [.int .i64 0, .int .i64 0, .int .i64 0, .int .i64 0, .int .i64 0] (by rfl) rfl HRC.out rfl (by kernel_rfl) (by simp [Value.oneCell']) ?_)
   intro w8 hc8 ho8
   have HBF := hide (HB.out.trans (ho8.below (Nat.le_succ _)))
   have x0 := hc8.cell 0 rfl
   have x1 := hc8.cell 1 rfl
   have x2 := hc8.cell 2 rfl
   have x3 := hc8.cell 3 rfl
   have x4 := hc8.cell 4 rfl
   clear hc8 ho8 HB HRC
   go_wp2
   refine bodyPost_ret (v := .tuple #[.agg #[.int .i64 0, .int .i64 0, .int .i64 0, .int .i64 0, .int .i64 0], .int .i64 2]) (by simp [results, Tryz.results9, go_sem, x0, x1, x2, x3, x4]) rfl ?_
   rw [HZ.out, HE.out]
   exact ⟨rfl, HBF.out⟩
  | true =>
   have P1 := hide fun w0 => PW.out wb w0
   rw [h1] at P1
   have P2 := hide fun w0 => PW.out ws w0
   cases h2 : (decide (0 ≤ ws) && decide (ws ≤ 65536)) with
   | false =>
    have hk : Pn.okW l wb ws = false := by rw [okW_eq, h2]; simp
    have HZ := hide (ch_bad hk).1
    have HE := hide (ch_bad hk).2
    rw [h2] at P2
    clear hT hx hl hk hw ht PW h1 h2 hn HD
    go_enter Tryz.func9, Tryz.ntmps9
    go_wp2_with fail
    rw [← hW]
    refine (T1.out _ HbW.out).mono ?_
    rintro _ w1 ⟨gl, an, mn, cn, rfl, _, hb⟩
    have HB := hide ((HbW.out.trans (hb.mono HbW.out.size)).trans ((below_alloc w1 (.cells #[.int .i64 (n : Int), .slice (some ⟨gl, 0, none⟩) 8 8, .slice an mn cn, .int .i64 (D : Int)] 66)).mono (HbW.out.trans (hb.mono HbW.out.size)).size))
    replace HRC := hide ((HRC.out.kept hb).alloc (.cells #[.int .i64 (n : Int), .slice (some ⟨gl, 0, none⟩) 8 8, .slice an mn cn, .int .i64 (D : Int)] 66))
    replace HWT := hide ((HWT.out.kept hb).alloc (.cells #[.int .i64 (n : Int), .slice (some ⟨gl, 0, none⟩) 8 8, .slice an mn cn, .int .i64 (D : Int)] 66))
    have e0 := HWT.out.cell 0 rfl
    have e1 := HWT.out.cell 1 rfl
    clear hW hb HbW T1
    go_wp2_with fail
    refine (P1.out _).mono ?_
    rintro _ w2 ⟨rfl, rfl⟩
    go_wp2_with fail
    refine (P2.out _).mono ?_
    rintro _ w3 ⟨rfl, rfl⟩
    clear e0 e1
    go_wp2_with (refine store_cel (w.heap.size + 1) [.int .i64 0, .int .i64 0, .int .i64 0, .int .i64 0, .int .i64 0] [.int .i64 0, .int .i64 0, .int .i64 0, .int .i64 0, .int .i64 0] (by rfl) rfl HRC.out rfl (by kernel_rfl) (by simp [Value.oneCell']) ?_)
    intro w8 hc8 ho8
    have HBF := hide (HB.out.trans (ho8.below (Nat.le_succ _)))
    have x0 := hc8.cell 0 rfl
    have x1 := hc8.cell 1 rfl
    have x2 := hc8.cell 2 rfl
    have x3 := hc8.cell 3 rfl
    have x4 := hc8.cell 4 rfl
    clear hc8 ho8 HB HRC
    go_wp2
    refine bodyPost_ret (v := .tuple #[.agg #[.int .i64 0, .int .i64 0, .int .i64 0, .int .i64 0, .int .i64 0], .int .i64 2]) (by simp [results, Tryz.results9, go_sem, x0, x1, x2, x3, x4]) rfl ?_
    rw [HZ.out, HE.out]
    exact ⟨rfl, HBF.out⟩
   | true =>
    rw [h2] at P2
    have hk : Pn.okW l wb ws = true := by rw [okW_eq, h1, h2, hT]; rfl
    simp only [Bool.and_eq_true, decide_eq_true_eq] at h1 h2
    obtain ⟨B, hB⟩ : ∃ B : Nat, wb = B := ⟨wb.toNat, by omega⟩
    obtain ⟨S, hS⟩ : ∃ S : Nat, ws = S := ⟨ws.toNat, by omega⟩
    subst hB hS
    have hB2 : B ≤ 65536 := by omega
    have hS2 : S ≤ 65536 := by omega
    have HE : Hid (Pn.chE l (B : Int) (S : Int) = 0) := by show _ = _; unfold Pn.chE; rw [hk, if_pos rfl]
    obtain ⟨z1, z2, z3, z4, z5, hz⟩ : ∃ z1 z2 z3 z4 z5, Hid (Pn.zz (Pn.am (Pn.wgq l B S) 378) = (z1, z2, z3, z4, z5)) := ⟨_, _, _, _, _, rfl⟩
    have HZ : Hid (Co.cv (Pn.chZ l (B : Int) (S : Int)) = [.int .i64 z1, .int .i64 z2, .int .i64 z3, .int .i64 z4, .int .i64 z5]) := by
     show _ = _
     have : Pn.chZ l (B : Int) (S : Int) = (z1, z2, z3, z4, z5) := by
      unfold Pn.chZ
      rw [hk, if_pos rfl, Int.toNat_natCast, Int.toNat_natCast]
      exact hz.out
     rw [this]
     rfl
    have OC : Hid (∀ gl an mn cn w0, Pn.TX w0 l gl an mn cn → Calls Tryz.prog 27 #[.agg #[.int .i64 (n : Nat), .slice (some ⟨gl, 0, none⟩) 8 8, .slice an mn cn, .int .i64 (D : Nat)], .agg #[.int .i64 (B : Nat), .int .i64 (S : Nat)]] w0 fun e w' => ∃ g cap, e = .returned (.slice (some ⟨g, 0, none⟩) 378 cap) ∧ OFs w' g 378 (ofc Pn.zz (Pn.bb l) (Pn.tt l) B S) ∧ Below w0.heap.size w0 w') := fun gl an mn cn w0 h => poffers_c l hT n gl hn an mn cn D B S HD w0 h
    have VC := hide fun a m c w0 => pvals_c a m c w0
    obtain ⟨bq, hbq⟩ : ∃ bq, bq = Pn.bb l (Pn.am (Pn.wgq l B S) 378) := ⟨_, rfl⟩
    obtain ⟨sq, hsq⟩ : ∃ sq, sq = Pn.tt l (Pn.am (Pn.wgq l B S) 378) := ⟨_, rfl⟩
    have LC : Hid (∀ gB g c w0, Cel w0 gB [.slice (some ⟨g, 0, none⟩) 378 c] 76 → OFs w0 g 378 (ofc Pn.zz (Pn.bb l) (Pn.tt l) B S) → Calls Tryz.prog 25 #[.func (.func 53) #[] #[.pointer (some ⟨gB, 0, none⟩)], .func (.func 28) #[] #[]] w0 fun e w' => e = .returned (.agg #[.int .i64 z1, .int .i64 z2, .int .i64 z3, .int .i64 z4, .int .i64 z5, .int .i64 (bq : Nat), .int .i64 (sq : Nat), .int .i64 (B : Nat), .int .i64 (S : Nat)]) ∧ Below w0.heap.size w0 w') := fun gB g c w0 h1 h2 => by
     have := pleastO_c gB g 378 c Pn.zz (Pn.bb l) (Pn.tt l) B S (Pn.wgq l B S) (fun q => rfl) (fun q => Pn.bitsN_le hT _) (fun q => Pn.stpN_le hT _) hB2 hS2 (by omega) (by omega) w0 h1 h2
     unfold ofc at this
     rw [hz.out, ← hbq, ← hsq] at this
     exact this
    rw [HE.out, HZ.out]
    clear hT hx hl hk hw ht PW h1 h2 hn HD hz hbq hsq HE HZ
    go_enter Tryz.func9, Tryz.ntmps9
    go_wp2_with fail
    rw [← hW]
    refine (T1.out _ HbW.out).mono ?_
    rintro _ w1 ⟨gl, an, mn, cn, rfl, htx, hb⟩
    have HB := hide ((HbW.out.trans (hb.mono HbW.out.size)).trans ((below_alloc w1 (.cells #[.int .i64 (n : Int), .slice (some ⟨gl, 0, none⟩) 8 8, .slice an mn cn, .int .i64 (D : Int)] 66)).mono (HbW.out.trans (hb.mono HbW.out.size)).size))
    replace HRC := hide ((HRC.out.kept hb).alloc (.cells #[.int .i64 (n : Int), .slice (some ⟨gl, 0, none⟩) 8 8, .slice an mn cn, .int .i64 (D : Int)] 66))
    replace HWT := hide ((HWT.out.kept hb).alloc (.cells #[.int .i64 (n : Int), .slice (some ⟨gl, 0, none⟩) 8 8, .slice an mn cn, .int .i64 (D : Int)] 66))
    have e0 := HWT.out.cell 0 rfl
    have e1 := HWT.out.cell 1 rfl
    have HTX := hide (htx.keep (below_alloc w1 (.cells #[.int .i64 (n : Int), .slice (some ⟨gl, 0, none⟩) 8 8, .slice an mn cn, .int .i64 (D : Int)] 66)))
    have HT2 := hide (Cel.new w1 [.int .i64 (n : Int), .slice (some ⟨gl, 0, none⟩) 8 8, .slice an mn cn, .int .i64 (D : Int)] 66)
    have t0 := HT2.out.cell 0 rfl
    have t1 := HT2.out.cell 1 rfl
    have t2 := HT2.out.cell 2 rfl
    have t3 := HT2.out.cell 3 rfl
    clear hW hb HbW T1 htx
    go_wp2_with fail
    refine (P1.out _).mono ?_
    rintro _ w2 ⟨rfl, rfl⟩
    go_wp2_with fail
    refine (P2.out _).mono ?_
    rintro _ w3 ⟨rfl, rfl⟩
    go_wp2_with fail
    refine (OC.out gl an mn cn _ HTX.out).mono ?_
    rintro _ w4 ⟨g, c, rfl, ho, hb4⟩
    replace HB := hide (HB.out.trans (hb4.mono HB.out.size))
    replace HRC := hide (HRC.out.kept hb4)
    have HO := hide ho
    clear ho hb4 e0 e1 t0 t1 t2 t3 HTX HT2 HWT OC
    go_wp2_with fail
    refine (VC.out _ _ _ _).mono ?_
    rintro _ w5 ⟨rfl, hcv, hb5⟩
    replace HB := hide (HB.out.trans (hb5.mono HB.out.size))
    replace HRC := hide (HRC.out.kept hb5)
    replace HO := hide (HO.out.kept hb5)
    have HCV := hide hcv
    clear hcv hb5 VC
    go_wp2_with fail
    refine (LC.out _ _ _ _ HCV.out HO.out).mono ?_
    rintro _ w6 ⟨rfl, hb6⟩
    have fld := field_cfg z1 z2 z3 z4 z5 bq sq B S w6
    replace HB := hide (HB.out.trans (hb6.mono HB.out.size))
    replace HRC := hide (HRC.out.kept hb6)
    clear hb6 LC HCV HO
    go_wp2_with (refine store_cel (w.heap.size + 1) [.int .i64 0, .int .i64 0, .int .i64 0, .int .i64 0, .int .i64 0] [.int .i64 z1, .int .i64 z2, .int .i64 z3, .int .i64 z4, .int .i64 z5] (by rfl) rfl HRC.out rfl (by kernel_rfl) (by simp [Value.oneCell']) ?_)
    intro w8 hc8 ho8
    have HBF := hide (HB.out.trans (ho8.below (Nat.le_succ _)))
    have x0 := hc8.cell 0 rfl
    have x1 := hc8.cell 1 rfl
    have x2 := hc8.cell 2 rfl
    have x3 := hc8.cell 3 rfl
    have x4 := hc8.cell 4 rfl
    clear hc8 ho8 HB HRC
    go_wp2
    refine bodyPost_ret (v := .tuple #[.agg #[.int .i64 z1, .int .i64 z2, .int .i64 z3, .int .i64 z4, .int .i64 z5], .int .i64 0]) (by simp [results, Tryz.results9, go_sem, x0, x1, x2, x3, x4]) rfl ?_
    exact ⟨rfl, HBF.out⟩
end Go.Proofs.YtcaalcjcpddhaaaGreat.Zz

namespace Go.Proofs.YtcaalcjcpddhaaaGreat.Zz
end Go.Proofs.YtcaalcjcpddhaaaGreat.Zz

namespace Go.Proofs.YtcaalcjcpddhaaaGreat.Zz
open Go.RowKit Num Hp
set_option linter.unusedVariables false
set_option linter.unusedSimpArgs false
set_option maxRecDepth 100000

namespace Pn
theorem am_is {f : Nat → Nat} {q i : Nat} (hi : i < q) (h1 : ∀ j, j < i → f i < f j) (h2 : ∀ j, j < q → f i ≤ f j) : am f q = i := by
 have a1 := am_lt f (q := q) (by omega)
 have a2 := am_le f hi
 by_cases c1 : am f q < i
 ·have := h1 _ c1; omega
 ·by_cases c2 : i < am f q
  ·have := am_first f (q := q) (j := i) (by omega) c2
   have := h2 _ a1
   omega
  ·omega
def hN : List Nat := ((List.replicate 256 0).set 97 5).set 98 3
def hI : List Int := hN.map fun n : Nat => (n : Int)
theorem hI_len : hI.length = 256 := by decide +kernel
theorem hI_ok : okT hI = true := by decide +kernel
theorem hI_cst : cst hI = 8 := by decide +kernel
theorem hI_tot : Hv.tot (cntOf hI) 256 = 8 := by decide +kernel
theorem hI_bits : bitsN (1, 0, 0, 1, 4) hI = 8779 := by decide +kernel
theorem az_ok : (Co.az.all Co.okZ) = true := by decide +kernel
theorem az_one : ((List.range 21).all fun j => decide ((Co.az.getD j (0, 0, 0, 0, 0)).1 = 1)) = true := by decide +kernel
theorem okZ_az {j : Nat} (h : j < 378) : Co.okZ (Co.az.getD j (0, 0, 0, 0, 0)) = true := by
 have hl : j < Co.az.length := by rw [Co.az_len]; exact h
 have := List.all_eq_true.1 az_ok _ (List.getElem_mem hl)
 rw [List.getD_eq_getElem?_getD, List.getElem?_eq_getElem hl]
 exact this
theorem fac_pos (k : Int) : 1 ≤ fac k := by
 unfold fac
 split
 ·omega
 ·split <;> omega
theorem shS_pos (s i : Int) (l : List Int) (n : Nat) : 1 ≤ shS s i l n := by
 have := shp_pos s l n
 unfold shS
 split <;> omega
theorem stpN_in {l : List Int} {z : Co.Zf} (h : okT l = true) (hz : Co.okZ z = true) : stpN z l = shS z.1 z.2.1 l (Hv.tot (cntOf l) 256) * fac z.2.2.2.1 * z.2.2.2.2.toNat := by
 unfold stpN
 rw [if_pos (by rw [h, hz]; rfl)]
theorem stpN_pos {l : List Int} {z : Co.Zf} (h : okT l = true) (hz : Co.okZ z = true) : shS z.1 z.2.1 l (Hv.tot (cntOf l) 256) ≤ stpN z l := by
 rw [stpN_in h hz]
 obtain ⟨M, e, m1, m2⟩ := (CfI.of hz).m1
 have e' : z.2.2.2.2 = (M : Int) := e
 rw [e', Int.toNat_natCast]
 have h1 := Nat.mul_le_mul_left (shS z.1 z.2.1 l (Hv.tot (cntOf l) 256)) (fac_pos z.2.2.2.1)
 have h2 := Nat.mul_le_mul_left (shS z.1 z.2.1 l (Hv.tot (cntOf l) 256) * fac z.2.2.2.1) m1
 omega
theorem az_21 : Co.az.getD 21 (0, 0, 0, 0, 0) = (2, 0, 0, 1, 1) := by decide +kernel
theorem wgq_h (q : Nat) : wgq hI 0 1 q = stpN (Co.az.getD q (0, 0, 0, 0, 0)) hI := by unfold wgq wgt; omega
theorem hI_21 : wgq hI 0 1 21 = 1 := by
 rw [wgq_h, az_21, stpN_in hI_ok (by decide +kernel), hI_tot]
 have : shS 2 0 hI 8 = 1 := by
  unfold shS shp
  rw [if_neg (by decide), if_pos rfl, if_neg (by decide), hI_cst]
  decide
 show shS 2 0 hI 8 * fac 1 * (1 : Int).toNat = 1
 rw [this]
 decide
theorem hI_am : am (wgq hI 0 1) 378 = 21 := by
 refine am_is (by decide) (fun j hj => ?_) (fun j hj => ?_)
 ·rw [hI_21, wgq_h]
  have h1 := stpN_pos hI_ok (okZ_az (j := j) (by omega))
  have h2 := of_decide_eq_true (List.all_eq_true.1 az_one j (List.mem_range.2 hj))
  rw [h2] at h1
  have h3 : shS 1 (Co.az.getD j (0, 0, 0, 0, 0)).2.1 hI (Hv.tot (cntOf hI) 256) = 8 := by
   unfold shS shp
   rw [if_neg (by decide), if_neg (by decide)]
  omega
 ·rw [hI_21, wgq_h]
  have h1 := stpN_pos hI_ok (okZ_az hj)
  have h2 := shS_pos (Co.az.getD j (0, 0, 0, 0, 0)).1 (Co.az.getD j (0, 0, 0, 0, 0)).2.1 hI (Hv.tot (cntOf hI) 256)
  omega
theorem hI_okW : okW hI 0 1 = true := by
 unfold okW
 rw [hI_ok]
 rfl
theorem hI_ch : chZ hI 0 1 = (2, 0, 0, 1, 1) ∧ chE hI 0 1 = 0 := by
 constructor
 ·unfold chZ
  rw [if_pos hI_okW]
  show Co.az.getD (am (wgq hI 0 1) 378) _ = _
  rw [hI_am, az_21]
 ·unfold chE
  rw [if_pos hI_okW]
theorem hI_steps : stpN (1, 0, 0, 1, 4) hI = 32 := by
 rw [stpN_in hI_ok (by decide +kernel)]
 decide +kernel
theorem h_none : okT [] = false := by decide
theorem h_row : rowI 1 600 5 = 824 ∧ rowI 9 5 5 = 0 := by decide +kernel
end Pn
end Go.Proofs.YtcaalcjcpddhaaaGreat.Zz

namespace Go.Proofs.YtcaalcjcpddhaaaGreat.Zz
open Go.RowKit Num Hp
set_option linter.unusedVariables false
set_option linter.unusedSimpArgs false
set_option maxRecDepth 100000

theorem nd_ivh {w : World} {g : Nat} {l : List Nat} {T : TypeId} (h : Cel w g (ivh l) T) : Nd w (some ⟨g, 0, none⟩) (l.map fun n : Nat => (n : Int)) := by
 intro h0
 rw [List.length_map] at h0
 refine ⟨g, 0, rfl, h.lt, fun i hi => ?_⟩
 rw [List.length_map] at hi
 rw [Nat.zero_add, h.cell i (ivh_get l i hi)]
 unfold gi
 rw [List.getD_eq_getElem?_getD, List.getD_eq_getElem?_getD, List.getElem?_map, List.getElem?_eq_getElem hi]
 rfl
set_option maxHeartbeats 8000000 in
theorem heads21_c (w : World) : Calls Tryz.prog 4 #[] w fun e w' => e = .returned (.bool true) ∧ Below w.heap.size w w' := by
 obtain ⟨i0, hi, hz0, hz1, hz2⟩ := info_parts info_i64
 have R1 : Hid (∀ w0, Calls Tryz.prog 7 #[.int .i64 1, .int .i64 600, .int .i64 5] w0 fun e w' => e = .returned (.int .i64 824) ∧ Below w0.heap.size w0 w') := fun w0 => by
  have := prow_c 1 600 5 w0
  rw [Pn.h_row.1] at this
  exact this
 have R2 : Hid (∀ w0, Calls Tryz.prog 7 #[.int .i64 9, .int .i64 5, .int .i64 5] w0 fun e w' => e = .returned (.int .i64 0) ∧ Below w0.heap.size w0 w') := fun w0 => by
  have := prow_c 9 5 5 w0
  rw [Pn.h_row.2] at this
  exact this
 have CH1 : Hid (∀ w0 g, Nd w0 (some ⟨g, 0, none⟩) Pn.hI → Calls Tryz.prog 9 #[.slice (some ⟨g, 0, none⟩) 256 256, .agg #[.int .i64 0, .int .i64 1]] w0 fun e w' => e = .returned (.tuple #[.agg #[.int .i64 2, .int .i64 0, .int .i64 0, .int .i64 1, .int .i64 1], .int .i64 0]) ∧ Below w0.heap.size w0 w') := fun w0 g h => by
  have := pchoose_c 0 1 (some ⟨g, 0, none⟩) Pn.hI 256 w0 h (by rw [Pn.hI_len]; omega)
  rw [Pn.hI_ch.1, Pn.hI_ch.2, Pn.hI_len] at this
  exact this
 have CH2 : Hid (∀ w0, Calls Tryz.prog 9 #[.slice none 0 0, .agg #[.int .i64 0, .int .i64 0]] w0 fun e w' => e = .returned (.tuple #[.agg #[.int .i64 0, .int .i64 0, .int .i64 0, .int .i64 0, .int .i64 0], .int .i64 2]) ∧ Below w0.heap.size w0 w') := fun w0 => by
  have := pchoose_c 0 0 none [] 0 w0 (nd0 _ _) (by decide)
  have hno : Pn.okW [] 0 0 = false := by unfold Pn.okW; rw [Pn.h_none]; rfl
  rw [show Pn.chZ [] 0 0 = (0, 0, 0, 0, 0) by unfold Pn.chZ; rw [hno]; rfl, show Pn.chE [] 0 0 = 2 by unfold Pn.chE; rw [hno]; rfl] at this
  exact this
 have BT : Hid (∀ w0 g, Nd w0 (some ⟨g, 0, none⟩) Pn.hI → Calls Tryz.prog 10 #[.agg #[.int .i64 1, .int .i64 0, .int .i64 0, .int .i64 1, .int .i64 4], .slice (some ⟨g, 0, none⟩) 256 256] w0 fun e w' => e = .returned (.int .i64 8779) ∧ Below w0.heap.size w0 w') := fun w0 g h => by
  have := pbits_c 1 0 0 1 4 (some ⟨g, 0, none⟩) Pn.hI 256 w0 h (by rw [Pn.hI_len]; omega)
  rw [Pn.hI_bits, Pn.hI_len] at this
  exact this
 have ST : Hid (∀ w0 g, Nd w0 (some ⟨g, 0, none⟩) Pn.hI → Calls Tryz.prog 11 #[.agg #[.int .i64 1, .int .i64 0, .int .i64 0, .int .i64 1, .int .i64 4], .slice (some ⟨g, 0, none⟩) 256 256] w0 fun e w' => e = .returned (.int .i64 32) ∧ Below w0.heap.size w0 w') := fun w0 g h => by
  have := psteps_c 1 0 0 1 4 (some ⟨g, 0, none⟩) Pn.hI 256 w0 h (by rw [Pn.hI_len]; omega)
  rw [Pn.hI_steps, Pn.hI_len] at this
  exact this
 have BN : Hid (∀ w0, Calls Tryz.prog 10 #[.agg #[.int .i64 1, .int .i64 0, .int .i64 0, .int .i64 1, .int .i64 4], .slice none 0 0] w0 fun e w' => e = .returned (.int .i64 0) ∧ Below w0.heap.size w0 w') := fun w0 => by
  have := pbits_c 1 0 0 1 4 none [] 0 w0 (nd0 _ _) (by decide)
  rw [show Pn.bitsN (1, 0, 0, 1, 4) [] = 0 by unfold Pn.bitsN; rw [Pn.h_none]; rfl] at this
  exact this
 go_enter Tryz.func4, Tryz.ntmps4
 go_wp2_with (at_make; refine wpList_make_full _ rfl _ _ 26 rfl w.heap.size 3 i0 (.int .i64 0) 1 Tryz.underlying26 hi hz0 hz1 .i64 .i64 _ _ 256 rfl rfl rfl rfl ?b2 ?b3 ?b4 ?_)
 case b2 => rw [hz2]; omega
 case b3 => unfold maxLen; omega
 case b4 => simp
 intro w1 hown hgr
 have T1 := cel_made1 hown
 have HB1 := hide (show Below w.heap.size w w1 from (Below.refl _ _).grown hgr (Nat.le_refl _) (fun k h => by cases h))
 have y0 := T1.cell 97 (ivh_get _ 97 (by rw [List.length_replicate]; omega))
 have y1 := T1.cell 98 (ivh_get _ 98 (by rw [List.length_replicate]; omega))
 have f0 := T1.frozen 97
 have f1 := T1.frozen 98
 have hlt := T1.lt
 have K := (T1.set 97 (.int .i64 ((5 : Nat) : Int))).set 98 (.int .i64 ((3 : Nat) : Int))
 rw [ivh_set, ivh_set] at K
 obtain ⟨W, hW⟩ : ∃ W, W = (w1.setCell ⟨w.heap.size, 97, none⟩ (.int .i64 5)).setCell ⟨w.heap.size, 98, none⟩ (.int .i64 3) := ⟨_, rfl⟩
 have HN : Hid (Nd W (some ⟨w.heap.size, 0, none⟩) Pn.hI) := by rw [hW]; exact nd_ivh K
 have HB : Hid (Below w.heap.size w W) := by rw [hW]; exact (HB1.out.setCell (p := ⟨w.heap.size, 97, none⟩) (Nat.le_refl _) _).setCell (p := ⟨w.heap.size, 98, none⟩) (Nat.le_refl _) _
 clear K T1 HB1 hown hgr hi hz0 hz1 hz2
 go_wp2_with fail
 rw [← hW]
 clear hW y0 y1 f0 f1 hlt
 refine (CH1.out _ w.heap.size HN.out).mono ?_
 rintro e w2 ⟨rfl, hb⟩
 replace HN := hide (HN.out.keep hb)
 replace HB := hide (HB.out.trans (hb.mono HB.out.size))
 obtain ⟨V2, hV2⟩ : ∃ V, V = w2.alloc (.cells #[.int .i64 2, .int .i64 0, .int .i64 0, .int .i64 1, .int .i64 1] 44) := ⟨_, rfl⟩
 have A2 := hide (show Cel V2 w2.heap.size [.int .i64 2, .int .i64 0, .int .i64 0, .int .i64 1, .int .i64 1] 44 by rw [hV2]; exact Cel.new w2 _ _)
 replace HN := hide (show Nd V2 (some ⟨w.heap.size, 0, none⟩) Pn.hI by rw [hV2]; exact HN.out.keep (below_alloc w2 _))
 replace HB := hide (show Below w.heap.size w V2 by rw [hV2]; exact HB.out.trans ((below_alloc w2 _).mono HB.out.size))
 clear hb
 go_wp2_with fail
 rw [← hV2]
 clear hV2
 generalize w2.heap.size = g2 at *
 refine (CH2.out _).mono ?_
 rintro e w3 ⟨rfl, hb⟩
 replace A2 := hide (A2.out.kept hb)
 replace HN := hide (HN.out.keep hb)
 replace HB := hide (HB.out.trans (hb.mono HB.out.size))
 obtain ⟨V3, hV3⟩ : ∃ V, V = (w3.alloc (.cells #[.int .i64 0, .int .i64 0, .int .i64 0, .int .i64 0, .int .i64 0] 44)).alloc (.cells #[.int .i64 1, .int .i64 0, .int .i64 0, .int .i64 1, .int .i64 4] 44) := ⟨_, rfl⟩
 have bV : Below w3.heap.size w3 V3 := by rw [hV3]; exact (below_alloc w3 _).alloc (by simp) _
 replace A2 := hide (A2.out.kept bV)
 have A6 := hide (show Cel V3 (w3.heap.size + 1) [.int .i64 1, .int .i64 0, .int .i64 0, .int .i64 1, .int .i64 4] 44 by rw [hV3]; exact Cel.new2 w3 _ _ _)
 replace HN := hide (HN.out.keep bV)
 replace HB := hide (HB.out.trans (bV.mono HB.out.size))
 clear hb bV
 go_wp2_with fail
 rw [← hV3]
 clear hV3
 generalize w3.heap.size + 1 = g6 at *
 go_wp2_with fail
 refine (R1.out _).mono ?_
 rintro e w9 ⟨rfl, hb⟩
 replace A2 := hide (A2.out.kept hb)
 replace A6 := hide (A6.out.kept hb)
 replace HN := hide (HN.out.keep hb)
 replace HB := hide (HB.out.trans (hb.mono HB.out.size))
 clear hb
 have p0 := A2.out.cell 0 rfl
 have p1 := A2.out.cell 1 rfl
 have p2 := A2.out.cell 2 rfl
 have p3 := A2.out.cell 3 rfl
 have p4 := A2.out.cell 4 rfl
 have q0 := A6.out.cell 0 rfl
 have q1 := A6.out.cell 1 rfl
 have q2 := A6.out.cell 2 rfl
 have q3 := A6.out.cell 3 rfl
 have q4 := A6.out.cell 4 rfl
 go_wp2_with fail
 refine (R2.out _).mono ?_
 rintro e w9 ⟨rfl, hb⟩
 replace A2 := hide (A2.out.kept hb)
 replace A6 := hide (A6.out.kept hb)
 replace HN := hide (HN.out.keep hb)
 replace HB := hide (HB.out.trans (hb.mono HB.out.size))
 clear hb p0 p1 p2 p3 p4 q0 q1 q2 q3 q4
 have p0 := A2.out.cell 0 rfl
 have p1 := A2.out.cell 1 rfl
 have p2 := A2.out.cell 2 rfl
 have p3 := A2.out.cell 3 rfl
 have p4 := A2.out.cell 4 rfl
 have q0 := A6.out.cell 0 rfl
 have q1 := A6.out.cell 1 rfl
 have q2 := A6.out.cell 2 rfl
 have q3 := A6.out.cell 3 rfl
 have q4 := A6.out.cell 4 rfl
 go_wp2_with fail
 refine (BT.out _ w.heap.size HN.out).mono ?_
 rintro e w9 ⟨rfl, hb⟩
 replace A2 := hide (A2.out.kept hb)
 replace A6 := hide (A6.out.kept hb)
 replace HN := hide (HN.out.keep hb)
 replace HB := hide (HB.out.trans (hb.mono HB.out.size))
 clear hb p0 p1 p2 p3 p4 q0 q1 q2 q3 q4
 have p0 := A2.out.cell 0 rfl
 have p1 := A2.out.cell 1 rfl
 have p2 := A2.out.cell 2 rfl
 have p3 := A2.out.cell 3 rfl
 have p4 := A2.out.cell 4 rfl
 have q0 := A6.out.cell 0 rfl
 have q1 := A6.out.cell 1 rfl
 have q2 := A6.out.cell 2 rfl
 have q3 := A6.out.cell 3 rfl
 have q4 := A6.out.cell 4 rfl
 go_wp2_with fail
 refine (ST.out _ w.heap.size HN.out).mono ?_
 rintro e w9 ⟨rfl, hb⟩
 replace A2 := hide (A2.out.kept hb)
 replace A6 := hide (A6.out.kept hb)
 replace HN := hide (HN.out.keep hb)
 replace HB := hide (HB.out.trans (hb.mono HB.out.size))
 clear hb p0 p1 p2 p3 p4 q0 q1 q2 q3 q4
 have p0 := A2.out.cell 0 rfl
 have p1 := A2.out.cell 1 rfl
 have p2 := A2.out.cell 2 rfl
 have p3 := A2.out.cell 3 rfl
 have p4 := A2.out.cell 4 rfl
 have q0 := A6.out.cell 0 rfl
 have q1 := A6.out.cell 1 rfl
 have q2 := A6.out.cell 2 rfl
 have q3 := A6.out.cell 3 rfl
 have q4 := A6.out.cell 4 rfl
 go_wp2_with fail
 refine (BN.out _).mono ?_
 rintro e w9 ⟨rfl, hb⟩
 replace A2 := hide (A2.out.kept hb)
 replace A6 := hide (A6.out.kept hb)
 replace HN := hide (HN.out.keep hb)
 replace HB := hide (HB.out.trans (hb.mono HB.out.size))
 clear hb p0 p1 p2 p3 p4 q0 q1 q2 q3 q4
 have p0 := A2.out.cell 0 rfl
 have p1 := A2.out.cell 1 rfl
 have p2 := A2.out.cell 2 rfl
 have p3 := A2.out.cell 3 rfl
 have p4 := A2.out.cell 4 rfl
 have q0 := A6.out.cell 0 rfl
 have q1 := A6.out.cell 1 rfl
 have q2 := A6.out.cell 2 rfl
 have q3 := A6.out.cell 3 rfl
 have q4 := A6.out.cell 4 rfl
 go_wp2
 go_ret
 exact ⟨rfl, HB.out⟩
end Go.Proofs.YtcaalcjcpddhaaaGreat.Zz
