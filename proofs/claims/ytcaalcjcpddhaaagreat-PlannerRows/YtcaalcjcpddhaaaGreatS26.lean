/-
  Plain: all that may be are there (out of config's Cj). The contract of the landed offers. The contract of the landed Choose. The landed package planner: Row (Pzb), Bits and Steps (Pzm), Choose (Pzr).
-/
import Derived.Test.YtcaalcjcpddhaaaGreatS25
set_option linter.unusedVariables false
set_option linter.unusedSimpArgs false
set_option maxRecDepth 100000
namespace Go.Proofs.YtcaalcjcpddhaaaGreat.Zz
namespace Co
end Co
end Go.Proofs.YtcaalcjcpddhaaaGreat.Zz
namespace Go.Proofs.YtcaalcjcpddhaaaGreat.Zz
open Go.RowKit Num Hp
def ofs (F : Nat → List Value) : Nat → List Value
 | 0 => []
 | t + 1 => ofs F t ++ F t
theorem ofs_len {F : Nat → List Value} (h : ∀ i, (F i).length = 9) : ∀ t, (ofs F t).length = t * 9
 | 0 => rfl
 | t + 1 => by rw [ofs, List.length_append, ofs_len h t, h t]; omega
theorem ofs_get {F : Nat → List Value} (h : ∀ i, (F i).length = 9) : ∀ {t q u : Nat} {x : Value}, q < t → (F q)[u]? = some x → (ofs F t)[q * 9 + u]? = some x
 | t + 1, q, u, x, hq, hx => by
  have hu := (List.getElem?_eq_some_iff.1 hx).1
  rw [h q] at hu
  rw [ofs]
  by_cases e : q = t
  ·subst e
   rw [List.getElem?_append_right (by rw [ofs_len h]; omega), ofs_len h, show q * 9 + u - q * 9 = u by omega]
   exact hx
  ·rw [List.getElem?_append_left (by rw [ofs_len h]; omega)]
   exact ofs_get h (by omega) hx
theorem okZ_at {q : Nat} {c : Co.Cf} (h : Co.all[q]? = some c) : Co.okZ (Co.toZ c) = true := by
 have key : (Co.all.all fun c => Co.okZ (Co.toZ c)) = true := by decide +kernel
 exact List.all_eq_true.1 key c (List.mem_of_getElem? h)
namespace Pn
def zz (q : Nat) : Co.Zf := Co.az.getD q (0, 0, 0, 0, 0)
def bb (l : List Int) (q : Nat) : Nat := bitsN (zz q) l
def tt (l : List Int) (q : Nat) : Nat := stpN (zz q) l
end Pn
set_option maxHeartbeats 8000000 in
theorem poffers_c (l : List Int) (hT : Pn.okT l = true) (n gl : Nat) (hn : Hid (n = Hv.tot (cntOf l) 256)) (an : Option Addr) (mn cn D wb ws : Nat) (hD : Hid (D = Pn.shp 2 l n)) (w : World) (hx : Pn.TX w l gl an mn cn) :
  Calls Tryz.prog 27 #[.agg #[.int .i64 (n : Nat), .slice (some ⟨gl, 0, none⟩) 8 8, .slice an mn cn, .int .i64 (D : Nat)], .agg #[.int .i64 (wb : Nat), .int .i64 (ws : Nat)]] w fun e w' => ∃ g cap, e = .returned (.slice (some ⟨g, 0, none⟩) 378 cap) ∧ OFs w' g 378 (ofc Pn.zz (Pn.bb l) (Pn.tt l) wb ws) ∧ Below w.heap.size w w' := by
 obtain ⟨i0, hi, hz0, hz1, hz2⟩ := info_parts (show (Tryz.prog.info? 71).map (fun i => (i.zero, i.size, i.bytes)) = some (some (.agg #[.int .i64 0, .int .i64 0, .int .i64 0, .int .i64 0, .int .i64 0, .int .i64 0, .int .i64 0, .int .i64 0, .int .i64 0]), 9, 72) by kernel_rfl)
 have HI := hide (And.intro hi (And.intro hz0 (And.intro hz1 hz2)))
 obtain ⟨hw, ht⟩ := Pn.okT_parts hT
 have hD2 : D ≤ 327680 := by rw [hD.out]; exact Pn.shp_le 2 hw ht
 have AA := hide kall_c
 unfold AllQ at AA
 have CB0 : Hid (∀ (c1 c2 c3 c4 c5 : Nat), Co.okZ ((c1 : Int), (c2 : Int), (c3 : Int), (c4 : Int), (c5 : Int)) = true → ∀ w0, Pn.TX w0 l gl an mn cn → Calls Tryz.prog 30 #[.agg #[.int .i64 (n : Nat), .slice (some ⟨gl, 0, none⟩) 8 8, .slice an mn cn, .int .i64 (D : Nat)], .agg #[.int .i64 (c1 : Nat), .int .i64 (c2 : Nat), .int .i64 (c3 : Nat), .int .i64 (c4 : Nat), .int .i64 (c5 : Nat)]] w0 fun e w' => e = .returned (.int .i64 (Pn.bitsN ((c1 : Int), (c2 : Int), (c3 : Int), (c4 : Int), (c5 : Int)) l : Nat)) ∧ Below w0.heap.size w0 w') := fun c1 c2 c3 c4 c5 hZ w0 h => by
  have hc := Pn.CfI.of hZ
  obtain ⟨M, hM, m1, m2⟩ := hc.m1
  obtain rfl : c5 = M := by omega
  have := pbitsT_c _ _ _ _ c5 hc l hT n gl hn an mn cn D w0 m1 m2 h
  unfold Pn.bitsN
  rw [hT, hZ, if_pos (by decide), ← hn.out, Int.toNat_natCast]
  exact this
 have CS0 : Hid (∀ (c1 c2 c3 c4 c5 : Nat), Co.okZ ((c1 : Int), (c2 : Int), (c3 : Int), (c4 : Int), (c5 : Int)) = true → ∀ w0, Calls Tryz.prog 31 #[.agg #[.int .i64 (n : Nat), .slice (some ⟨gl, 0, none⟩) 8 8, .slice an mn cn, .int .i64 (D : Nat)], .agg #[.int .i64 (c1 : Nat), .int .i64 (c2 : Nat), .int .i64 (c3 : Nat), .int .i64 (c4 : Nat), .int .i64 (c5 : Nat)]] w0 fun e w' => e = .returned (.int .i64 (Pn.stpN ((c1 : Int), (c2 : Int), (c3 : Int), (c4 : Int), (c5 : Int)) l : Nat)) ∧ Below w0.heap.size w0 w') := fun c1 c2 c3 c4 c5 hZ w0 => by
  have hc := Pn.CfI.of hZ
  obtain ⟨M, hM, m1, m2⟩ := hc.m1
  obtain rfl : c5 = M := by omega
  have := pstepsT_c (c1 : Int) (c2 : Int) (c3 : Int) (c4 : Int) c5 n gl an mn cn D w0 hc.k1 hc.k3 m2 hD2
  unfold Pn.stpN
  rw [hT, hZ, if_pos (by decide), ← hn.out, Int.toNat_natCast, Pn.shS_ss _ _ l n D hD.out]
  exact this
 obtain ⟨W, hW⟩ : ∃ W, W = (w.alloc (.cells #[.int .i64 (n : Nat), .slice (some ⟨gl, 0, none⟩) 8 8, .slice an mn cn, .int .i64 (D : Nat)] 66)).alloc (.cells #[.int .i64 (wb : Nat), .int .i64 (ws : Nat)] 49) := ⟨_, rfl⟩
 have A1 := hide (show Cel W w.heap.size [.int .i64 (n : Nat), .slice (some ⟨gl, 0, none⟩) 8 8, .slice an mn cn, .int .i64 (D : Nat)] 66 by rw [hW]; exact (Cel.new w _ _).alloc _)
 have A2 := hide (show Cel W (w.heap.size + 1) [.int .i64 (wb : Nat), .int .i64 (ws : Nat)] 49 by rw [hW]; exact Cel.new2 w _ _ _)
 have HbW := hide (show Below w.heap.size w W by rw [hW]; exact (below_alloc w _).alloc (by simp) _)
 have HTX := hide (hx.keep HbW.out)
 obtain ⟨F, hF⟩ : ∃ F, Hid (F = ofc Pn.zz (Pn.bb l) (Pn.tt l) wb ws) := ⟨_, rfl⟩
 have HF9 : Hid (∀ i, (F i).length = 9) := fun i => by rw [hF.out]; rfl
 rw [← hF.out]
 clear hx hw ht hi hz0 hz1 hz2 hT hn hD hD2
 go_enter Tryz.func27, Tryz.ntmps27
 go_wp2_with fail
 rw [← hW]
 refine (AA.out W).mono ?_
 rintro _ W2 ⟨ga, capa, rfl, hal, _, _, hb⟩
 clear hW
 have HAL := hide hal
 have HB2 := hide (HbW.out.trans (hb.mono HbW.out.size))
 have HT2 := hide (A1.out.kept hb)
 have HW2 := hide (A2.out.kept hb)
 have HTX2 := hide (HTX.out.keep hb)
 have HLT : Hid (w.heap.size < W2.heap.size) := HT2.out.lt
 have HLW : Hid (w.heap.size + 1 < W2.heap.size) := HW2.out.lt
 have H0 : Hid (W2.ownsRow W2.heap.size 71 9 (.slice none 0 0) 0 (ofs F 0)) := ⟨rfl, .inl ⟨rfl, rfl⟩⟩
 clear hal hb A1 A2 HTX HbW AA
 go_wp2
 go_loopw [5, 10] (fun vo vi wr => ∃ q : Nat, q ≤ 378 ∧ vi = .int .i64 (q : Nat) ∧ Hid (wr.ownsRow W2.heap.size 71 9 vo q (ofs F q)) ∧ Hid (Below W2.heap.size W2 wr)) (fun _ vi _ => 378 - (intOf vi).toNat)
 case atStart => exact ⟨0, Nat.zero_le _, rfl, H0, Below.refl _ _⟩
 case round =>
  clear H0
  obtain ⟨q, hq, rfl, HR, HB⟩ := hrel
  by_cases hlt : q < 378
  ·have hltz : (q : Int) < 378 := by omega
   obtain ⟨⟨c1, c2, c3, c4, c5⟩, hc, hz⟩ := Pn.az_get q hlt
   obtain ⟨a0, a1, a2, a3, a4⟩ := al_five (HAL.out.keep HB.out) hc
   have hok : Co.okZ ((c1 : Int), (c2 : Int), (c3 : Int), (c4 : Int), (c5 : Int)) = true := by
    have := okZ_at hc
    exact this
   have HZQ : Hid (Pn.zz q = ((c1 : Int), (c2 : Int), (c3 : Int), (c4 : Int), (c5 : Int))) := hz
   have CB : Hid (∀ w0, Below W2.heap.size W2 w0 → Calls Tryz.prog 30 #[.agg #[.int .i64 (n : Nat), .slice (some ⟨gl, 0, none⟩) 8 8, .slice an mn cn, .int .i64 (D : Nat)], .agg #[.int .i64 (c1 : Nat), .int .i64 (c2 : Nat), .int .i64 (c3 : Nat), .int .i64 (c4 : Nat), .int .i64 (c5 : Nat)]] w0 fun e w' => e = .returned (.int .i64 (Pn.bb l q : Nat)) ∧ Below w0.heap.size w0 w') := fun w0 h => by
    have := CB0.out c1 c2 c3 c4 c5 hok w0 (HTX2.out.keep h)
    unfold Pn.bb
    rw [HZQ.out]
    exact this
   have CS : Hid (∀ w0, Below W2.heap.size W2 w0 → Calls Tryz.prog 31 #[.agg #[.int .i64 (n : Nat), .slice (some ⟨gl, 0, none⟩) 8 8, .slice an mn cn, .int .i64 (D : Nat)], .agg #[.int .i64 (c1 : Nat), .int .i64 (c2 : Nat), .int .i64 (c3 : Nat), .int .i64 (c4 : Nat), .int .i64 (c5 : Nat)]] w0 fun e w' => e = .returned (.int .i64 (Pn.tt l q : Nat)) ∧ Below w0.heap.size w0 w') := fun w0 h => by
    have := CS0.out c1 c2 c3 c4 c5 hok w0
    unfold Pn.tt
    rw [HZQ.out]
    exact this
   have HFQ : Hid (ofs F (q + 1) = ofs F q ++ [.int .i64 (c1 : Nat), .int .i64 (c2 : Nat), .int .i64 (c3 : Nat), .int .i64 (c4 : Nat), .int .i64 (c5 : Nat), .int .i64 (Pn.bb l q : Nat), .int .i64 (Pn.tt l q : Nat), .int .i64 (wb : Nat), .int .i64 (ws : Nat)]) := by
    show _ = _
    rw [ofs, hF.out]
    unfold ofc
    rw [HZQ.out]
   generalize Pn.bb l q = bv at *
   generalize Pn.tt l q = sv at *
   obtain ⟨gb, hgb⟩ : ∃ gb, Hid (gb = wr.heap.size) := ⟨_, rfl⟩
   obtain ⟨U, hU⟩ : ∃ U, Hid (U = wr.alloc (.cells #[.int .i64 (c1 : Nat), .int .i64 (c2 : Nat), .int .i64 (c3 : Nat), .int .i64 (c4 : Nat), .int .i64 (c5 : Nat)] 44)) := ⟨_, rfl⟩
   have hal := below_alloc wr (.cells #[.int .i64 (c1 : Nat), .int .i64 (c2 : Nat), .int .i64 (c3 : Nat), .int .i64 (c4 : Nat), .int .i64 (c5 : Nat)] 44)
   have HCU : Hid (Cel U gb [.int .i64 (c1 : Nat), .int .i64 (c2 : Nat), .int .i64 (c3 : Nat), .int .i64 (c4 : Nat), .int .i64 (c5 : Nat)] 44) := by show Cel _ _ _ _; rw [hU.out, hgb.out]; exact Cel.new wr _ _
   have HBU : Hid (Below W2.heap.size W2 U) := by show Below _ _ _; rw [hU.out]; exact HB.out.trans (hal.mono HB.out.size)
   have HRU : Hid (U.ownsRow W2.heap.size 71 9 u5 q (ofs F q)) := by show World.ownsRow _ _ _ _ _ _ _; rw [hU.out]; exact Ag.owns_keep HR.out hal
   have HNE : Hid (u5.ownBlock ≠ some gb) := fun h => by have := (HR.out.lt gb h).2; rw [hgb.out] at this; exact Nat.lt_irrefl _ this
   obtain ⟨hi, hz0, hz1, hz2⟩ := HI.out
   clear hok hz hc HR HB hal CB0 CS0 HZQ HF9
   go_wp2_with fail
   rw [← hU.out, ← hgb.out]
   clear hU hgb a0 a1 a2 a3 a4
   refine region_g [] (fun w' => Cel w' gb [.int .i64 (c1 : Nat), .int .i64 (c2 : Nat), .int .i64 (c3 : Nat), .int .i64 (c4 : Nat), .int .i64 (c5 : Nat)] 44 ∧ Below W2.heap.size W2 w') (by kernel_rfl) ?_
   have hS : (fun w' => Cel w' gb [.int .i64 (c1 : Nat), .int .i64 (c2 : Nat), .int .i64 (c3 : Nat), .int .i64 (c4 : Nat), .int .i64 (c5 : Nat)] 44 ∧ Below W2.heap.size W2 w') U.drew := ⟨HCU.out.drew, HBU.out.drew⟩
   have hR : Hid (U.drew.ownsRow W2.heap.size 71 9 u5 q (ofs F q)) := HRU.out
   clear HCU HBU HRU
   generalize U.drew = V at *
   refine AnyG.take 0 (v := ?vv1) rfl (by kernel_rfl) (by kernel_rfl) (by kernel_rfl) (by kernel_rfl) (fun _ _ _ h => h) hS ?hy1 (by rfl) ?rest1
   case hy1 =>
    intro w0 h0
    go_simp
    try with_reducible rfl
   simp only [Act.put, yq0, yq1, yq2, yq3, yq4, yq5]
   refine AnyG.take 1 (v := ?vv2) rfl (by kernel_rfl) (by kernel_rfl) (by kernel_rfl) (by kernel_rfl) (fun _ _ _ h => h) hS ?hy2 (by rfl) ?rest2
   case hy2 =>
    intro w0 h0
    have e0 := h0.1.cell 0 rfl
    have e1 := h0.1.cell 1 rfl
    have e2 := h0.1.cell 2 rfl
    have e3 := h0.1.cell 3 rfl
    have e4 := h0.1.cell 4 rfl
    go_simp
    try with_reducible rfl
   simp only [Act.put, yq0, yq1, yq2, yq3, yq4, yq5]
   refine AnyG.take 2 (v := ?vv3) rfl (by kernel_rfl) (by kernel_rfl) (by kernel_rfl) (by kernel_rfl) (fun _ _ _ h => h) hS ?hy3 (by rfl) ?rest3
   case hy3 =>
    intro w0 h0
    have d0 := (h0.2.cell (p := ⟨w.heap.size, 0, none⟩) HLT.out).trans (HT2.out.cell 0 rfl)
    have d1 := (h0.2.cell (p := ⟨w.heap.size, 1, none⟩) HLT.out).trans (HT2.out.cell 1 rfl)
    have d2 := (h0.2.cell (p := ⟨w.heap.size, 2, none⟩) HLT.out).trans (HT2.out.cell 2 rfl)
    have d3 := (h0.2.cell (p := ⟨w.heap.size, 3, none⟩) HLT.out).trans (HT2.out.cell 3 rfl)
    go_simp
    try with_reducible rfl
   simp only [Act.put, yq0, yq1, yq2, yq3, yq4, yq5]
   refine AnyG.take 3 (v := ?vv4) rfl (by kernel_rfl) (by kernel_rfl) (by kernel_rfl) (by kernel_rfl) (fun _ _ _ h => h) hS ?hy4 (by rfl) ?rest4
   case hy4 =>
    intro w0 h0
    have e0 := h0.1.cell 0 rfl
    have e1 := h0.1.cell 1 rfl
    have e2 := h0.1.cell 2 rfl
    have e3 := h0.1.cell 3 rfl
    have e4 := h0.1.cell 4 rfl
    go_simp
    try with_reducible rfl
   simp only [Act.put, yq0, yq1, yq2, yq3, yq4, yq5]
   refine AnyG.take 5 (v := ?vv5) rfl (by kernel_rfl) (by kernel_rfl) (by kernel_rfl) (by kernel_rfl) (fun _ _ _ h => h) hS ?hy5 (by rfl) ?rest5
   case hy5 =>
    intro w0 h0
    have d0 := (h0.2.cell (p := ⟨w.heap.size, 0, none⟩) HLT.out).trans (HT2.out.cell 0 rfl)
    have d1 := (h0.2.cell (p := ⟨w.heap.size, 1, none⟩) HLT.out).trans (HT2.out.cell 1 rfl)
    have d2 := (h0.2.cell (p := ⟨w.heap.size, 2, none⟩) HLT.out).trans (HT2.out.cell 2 rfl)
    have d3 := (h0.2.cell (p := ⟨w.heap.size, 3, none⟩) HLT.out).trans (HT2.out.cell 3 rfl)
    go_simp
    try with_reducible rfl
   simp only [Act.put, yq0, yq1, yq2, yq3, yq4, yq5]
   refine AnyG.take 6 (v := ?vv6) rfl (by kernel_rfl) (by kernel_rfl) (by kernel_rfl) (by kernel_rfl) (fun _ _ _ h => h) hS ?hy6 (by rfl) ?rest6
   case hy6 =>
    intro w0 h0
    have e0 := h0.1.cell 0 rfl
    have e1 := h0.1.cell 1 rfl
    have e2 := h0.1.cell 2 rfl
    have e3 := h0.1.cell 3 rfl
    have e4 := h0.1.cell 4 rfl
    go_simp
    try with_reducible rfl
   simp only [Act.put, yq0, yq1, yq2, yq3, yq4, yq5]
   refine AnyG.take 8 (v := ?vv7) rfl (by kernel_rfl) (by kernel_rfl) (by kernel_rfl) (by kernel_rfl) (fun _ _ _ h => h) hS ?hy7 (by rfl) ?rest7
   case hy7 =>
    intro w0 h0
    have g0 := (h0.2.cell (p := ⟨w.heap.size + 1, 0, none⟩) HLW.out).trans (HW2.out.cell 0 rfl)
    have g1 := (h0.2.cell (p := ⟨w.heap.size + 1, 1, none⟩) HLW.out).trans (HW2.out.cell 1 rfl)
    go_simp
    try with_reducible rfl
   simp only [Act.put, yq0, yq1, yq2, yq3, yq4, yq5]
   refine AnyG.one 4 (by kernel_rfl) rfl ?_
   intro K hK
   go_simp
   refine (CB.out V hS.2).mono ?_
   rintro _ v1 ⟨rfl, hb⟩
   have hS1 : (fun w' => Cel w' gb [.int .i64 (c1 : Nat), .int .i64 (c2 : Nat), .int .i64 (c3 : Nat), .int .i64 (c4 : Nat), .int .i64 (c5 : Nat)] 44 ∧ Below W2.heap.size W2 w') v1 := ⟨hS.1.kept hb, hS.2.trans (hb.mono hS.2.size)⟩
   replace hR := hide (Ag.owns_keep hR.out hb)
   clear hb hS
   refine hK.out _ _ (fun _ => hS1) ?_
   clear hK K
   try simp only [Act.put, yq0, yq1, yq2, yq3, yq4, yq5]
   refine AnyG.one 7 (by kernel_rfl) rfl ?_
   intro K hK
   go_simp
   refine (CS.out v1 hS1.2).mono ?_
   rintro _ v2 ⟨rfl, hb⟩
   have hS2 : (fun w' => Cel w' gb [.int .i64 (c1 : Nat), .int .i64 (c2 : Nat), .int .i64 (c3 : Nat), .int .i64 (c4 : Nat), .int .i64 (c5 : Nat)] 44 ∧ Below W2.heap.size W2 w') v2 := ⟨hS1.1.kept hb, hS1.2.trans (hb.mono hS1.2.size)⟩
   replace hR := hide (Ag.owns_keep hR.out hb)
   clear hb hS1
   refine hK.out _ _ (fun _ => hS2) ?_
   clear hK K
   try simp only [Act.put, yq0, yq1, yq2, yq3, yq4, yq5]
   refine AnyG.take 9 (v := ?vv8) rfl (by kernel_rfl) (by kernel_rfl) (by kernel_rfl) (by kernel_rfl) (fun _ _ _ h => h) hS2 ?hy8 (by rfl) ?rest8
   case hy8 =>
    intro w0 h0
    go_simp
    try with_reducible rfl
   simp only [Act.put, yq0, yq1, yq2, yq3, yq4, yq5]
   refine AnyG.one 10 (by kernel_rfl) rfl ?_
   intro K hK
   go_simp
   have hb := below_alloc v2 (.cells #[.int .i64 (c1 : Nat), .int .i64 (c2 : Nat), .int .i64 (c3 : Nat), .int .i64 (c4 : Nat), .int .i64 (c5 : Nat), .int .i64 (bv : Nat), .int .i64 (sv : Nat), .int .i64 (wb : Nat), .int .i64 (ws : Nat)] 71)
   have hS3 : (fun w' => Cel w' gb [.int .i64 (c1 : Nat), .int .i64 (c2 : Nat), .int .i64 (c3 : Nat), .int .i64 (c4 : Nat), .int .i64 (c5 : Nat)] 44 ∧ Below W2.heap.size W2 w') (v2.alloc (.cells #[.int .i64 (c1 : Nat), .int .i64 (c2 : Nat), .int .i64 (c3 : Nat), .int .i64 (c4 : Nat), .int .i64 (c5 : Nat), .int .i64 (bv : Nat), .int .i64 (sv : Nat), .int .i64 (wb : Nat), .int .i64 (ws : Nat)] 71)) := ⟨hS2.1.kept hb, hS2.2.trans (hb.mono hS2.2.size)⟩
   replace hR := hide (Ag.owns_keep hR.out hb)
   have hnew := hide (Cel.new v2 [.int .i64 (c1 : Nat), .int .i64 (c2 : Nat), .int .i64 (c3 : Nat), .int .i64 (c4 : Nat), .int .i64 (c5 : Nat), .int .i64 (bv : Nat), .int .i64 (sv : Nat), .int .i64 (wb : Nat), .int .i64 (ws : Nat)] 71)
   have hgbl := hide (Nat.lt_of_lt_of_le hS2.1.lt hb.size)
   have hW2l : Hid (W2.heap.size ≤ v2.heap.size) := hS2.2.size
   clear hb hS2
   refine hK.out _ _ (fun _ => hS3) ?_
   clear hK K
   try simp only [Act.put, yq0, yq1, yq2, yq3, yq4, yq5]
   refine AnyG.one 11 (by kernel_rfl) rfl ?_
   intro K hK
   rw [if_pos (by rfl)]
   refine Ag.wp_append _ _ _ (by rfl) W2.heap.size 71 i0 (.agg #[.int .i64 0, .int .i64 0, .int .i64 0, .int .i64 0, .int .i64 0, .int .i64 0, .int .i64 0, .int .i64 0, .int .i64 0]) 9 72 Tryz.underlying76 hi hz0 hz1 hz2 rfl (by decide) u5 q (ofs F q) (by rfl) hR.out ⟨v2.heap.size, 0, none⟩ 1 1 [.int .i64 (c1 : Nat), .int .i64 (c2 : Nat), .int .i64 (c3 : Nat), .int .i64 (c4 : Nat), .int .i64 (c5 : Nat), .int .i64 (bv : Nat), .int .i64 (sv : Nat), .int .i64 (wb : Nat), .int .i64 (ws : Nat)] (by rfl) rfl (by decide) ?c1 ?c2 ?c3 ?c4 ?c5 ?_
   case c1 =>
    intro jj x hj
    have := hnew.out.cell jj hj
    match jj, hj with
    | 0, _ => exact this
    | 1, _ => exact this
    | 2, _ => exact this
    | 3, _ => exact this
    | 4, _ => exact this
    | 5, _ => exact this
    | 6, _ => exact this
    | 7, _ => exact this
    | 8, _ => exact this
   case c2 =>
    intro x hx
    simp only [List.mem_cons, List.not_mem_nil, or_false] at hx
    rcases hx with rfl | rfl | rfl | rfl | rfl | rfl | rfl | rfl | rfl <;> rfl
   case c3 => unfold maxLen; omega
   case c4 => omega
   case c5 => simp only [World.size_alloc]; have := hW2l.out; omega
   intro g cap v4 o1 o2 o3 o4 o5 o6
   have hS4 : (fun w' => Cel w' gb [.int .i64 (c1 : Nat), .int .i64 (c2 : Nat), .int .i64 (c3 : Nat), .int .i64 (c4 : Nat), .int .i64 (c5 : Nat)] 44 ∧ Below W2.heap.size W2 w') v4 := ⟨(o5 gb hgbl.out HNE.out).trans hS3.1, hS3.2.trans o2⟩
   rw [← HFQ.out] at o1
   have hR4 := hide o1
   clear hnew hS3 hR hgbl hW2l o1 o2 o3 o4 o5 o6
   refine hK.out _ _ (fun _ => hS4) ?_
   clear hK K
   try simp only [Act.put, yq0, yq1, yq2, yq3, yq4, yq5]
   refine AnyG.take 12 (v := ?vv9) rfl (by kernel_rfl) (by kernel_rfl) (by kernel_rfl) (by kernel_rfl) (fun _ _ _ h => h) hS4 ?hy9 (by rfl) ?rest9
   case hy9 =>
    intro w0 h0
    go_simp
    try with_reducible rfl
   simp only [Act.put, yq0, yq1, yq2, yq3, yq4, yq5]
   refine AnyG.done (by kernel_rfl) ?_ _
   have HBF := hide hS4.2
   clear hS4
   go_wp2
   exact ⟨⟨q + 1, by omega, by go_num, hR4, HBF⟩, by simp only [intOf]; omega⟩
  ·obtain rfl : q = 378 := by omega
   obtain ⟨g, cap, rfl⟩ : ∃ g cap, u5 = .slice (some ⟨g, 0, none⟩) 378 cap := by
    rcases HR.out.2 with ⟨_, h⟩ | ⟨g, cap, _, h, _⟩
    ·cases h
    ·exact ⟨g, cap, h⟩
   have HC := Ag.owns_cells HR.out
   have HBF := hide (HB2.out.trans (HB.out.mono HB2.out.size))
   have HO : Hid (OFs wr g 378 F) := ⟨HC.1, fun q hq u x hx => HC.2 _ _ (ofs_get HF9.out hq hx)⟩
   clear HC HR HB
   go_wp2
   go_ret
   exact ⟨g, cap, rfl, HO.out, HBF.out⟩
end Go.Proofs.YtcaalcjcpddhaaaGreat.Zz
namespace Go.Proofs.YtcaalcjcpddhaaaGreat.Zz
open Go.RowKit Num Hp
theorem okW_eq (l : List Int) (wb ws : Int) : Pn.okW l wb ws = (Pn.okT l && ((decide (0 ≤ wb) && decide (wb ≤ 65536)) && (decide (0 ≤ ws) && decide (ws ≤ 65536)))) := by
 unfold Pn.okW
 cases Pn.okT l <;> cases decide (0 ≤ wb) <;> cases decide (wb ≤ 65536) <;> cases decide (0 ≤ ws) <;> cases decide (ws ≤ 65536) <;> rfl
theorem ch_bad {l : List Int} {wb ws : Int} (h : Pn.okW l wb ws = false) : Co.cv (Pn.chZ l wb ws) = [.int .i64 0, .int .i64 0, .int .i64 0, .int .i64 0, .int .i64 0] ∧ Pn.chE l wb ws = 2 := by
 unfold Pn.chZ Pn.chE
 rw [h]
 exact ⟨rfl, rfl⟩
theorem field_cfg (z1 z2 z3 z4 z5 : Int) (a b c d : Int) (w : World) : (Instr.field 71 (.agg #[.int .i64 z1, .int .i64 z2, .int .i64 z3, .int .i64 z4, .int .i64 z5, .int .i64 a, .int .i64 b, .int .i64 c, .int .i64 d]) 0).run Tryz.prog w = .ok (.agg #[.int .i64 z1, .int .i64 z2, .int .i64 z3, .int .i64 z4, .int .i64 z5]) w := by kernel_rfl
set_option maxHeartbeats 8000000 in
theorem pchoose_c (wb ws : Int) (ao : Option Addr) (l : List Int) (cap : Nat) (w : World) (hx : Nd w ao l) (hl : l.length ≤ 1048576) :
  Calls Tryz.prog 9 #[.slice ao l.length cap, .agg #[.int .i64 wb, .int .i64 ws]] w fun e w' => e = .returned (.tuple #[.agg (Co.cv (Pn.chZ l wb ws)).toArray, .int .i64 (Pn.chE l wb ws)]) ∧ Below w.heap.size w w' := by
 obtain ⟨W, hW⟩ : ∃ W, W = (w.alloc (.cells #[.int .i64 wb, .int .i64 ws] 49)).alloc (.cells #[.int .i64 0, .int .i64 0, .int .i64 0, .int .i64 0, .int .i64 0] 44) := ⟨_, rfl⟩
 have HWT := hide (show Cel W w.heap.size [.int .i64 wb, .int .i64 ws] 49 by rw [hW]; exact (Cel.new w _ _).alloc _)
 have HRC := hide (show Cel W (w.heap.size + 1) [.int .i64 0, .int .i64 0, .int .i64 0, .int .i64 0, .int .i64 0] 44 by rw [hW]; exact Cel.new2 w _ _ _)
 have HbW := hide (show Below w.heap.size w W by rw [hW]; exact (below_alloc w _).alloc (by simp) _)
 have PW := hide pweight_c
 cases hT : Pn.okT l with
 | false =>
  have hk : Pn.okW l wb ws = false := by rw [okW_eq, hT]; rfl
  have HZ := hide (ch_bad hk).1
  have HE := hide (ch_bad hk).2
  have T1 : Hid (∀ w0, Below w.heap.size w w0 → Calls Tryz.prog 23 #[.slice ao l.length cap] w0 fun e w' => e = .returned (.tuple #[.agg #[.int .i64 0, .slice none 0 0, .slice none 0 0, .int .i64 0], .bool false]) ∧ Below w0.heap.size w0 w') := fun w0 h => ptext_bad ao l cap w0 (hx.keep h) hl hT
  clear hT hx hl hk
  go_enter Tryz.func9, Tryz.ntmps9
  go_wp2_with fail
  rw [← hW]
  refine (T1.out _ HbW.out).mono ?_
  rintro _ w1 ⟨rfl, hb⟩
  have HB := hide ((HbW.out.trans (hb.mono HbW.out.size)).trans ((below_alloc w1 (.cells #[.int .i64 0, .slice none 0 0, .slice none 0 0, .int .i64 0] 66)).mono (HbW.out.trans (hb.mono HbW.out.size)).size))
  replace HRC := hide ((HRC.out.kept hb).alloc (.cells #[.int .i64 0, .slice none 0 0, .slice none 0 0, .int .i64 0] 66))
  replace HWT := hide ((HWT.out.kept hb).alloc (.cells #[.int .i64 0, .slice none 0 0, .slice none 0 0, .int .i64 0] 66))
  have e0 := HWT.out.cell 0 rfl
  have e1 := HWT.out.cell 1 rfl
  clear hW hb HbW T1
  go_wp2_with (refine store_cel (w.heap.size + 1) [.int .i64 0, .int .i64 0, .int .i64 0, .int .i64 0, .int .i64 0] [.int .i64 0, .int .i64 0, .int .i64 0, .int .i64 0, .int .i64 0] (by rfl) rfl HRC.out rfl (by kernel_rfl) (by simp [Value.oneCell']) ?_)
  intro w8 hc8 ho8
  have HBF := hide (HB.out.trans (ho8.below (Nat.le_succ _)))
  have x0 := hc8.cell 0 rfl
  have x1 := hc8.cell 1 rfl
  have x2 := hc8.cell 2 rfl
  have x3 := hc8.cell 3 rfl
  have x4 := hc8.cell 4 rfl
  clear hc8 ho8 HB HRC
  go_wp2
  refine bodyPost_ret (v := .tuple #[.agg #[.int .i64 0, .int .i64 0, .int .i64 0, .int .i64 0, .int .i64 0], .int .i64 2]) (by simp [results, Tryz.results9, go_sem, x0, x1, x2, x3, x4]) rfl ?_
  rw [HZ.out, HE.out]
  exact ⟨rfl, HBF.out⟩
 | true =>
  obtain ⟨hw, ht⟩ := Pn.okT_parts hT
  have T1 : Hid (∀ w0, Below w.heap.size w w0 → Calls Tryz.prog 23 #[.slice ao l.length cap] w0 fun e w' => ∃ gl an mn cn, e = .returned (.tuple #[.agg #[.int .i64 (Hv.tot (cntOf l) 256 : Nat), .slice (some ⟨gl, 0, none⟩) 8 8, .slice an mn cn, .int .i64 (Pn.dpt l : Nat)], .bool true]) ∧ Pn.TX w' l gl an mn cn ∧ Below w0.heap.size w0 w') := fun w0 h => ptext_c ao l cap w0 (hx.keep h) hl hT
  have HD : Hid (Pn.dpt l = Pn.shp 2 l (Hv.tot (cntOf l) 256)) := rfl
  obtain ⟨n, hn⟩ : ∃ n, Hid (n = Hv.tot (cntOf l) 256) := ⟨_, rfl⟩
  rw [← hn.out] at T1 HD
  generalize Pn.dpt l = D at *
  cases h1 : (decide (0 ≤ wb) && decide (wb ≤ 65536)) with
  | false =>
   have hk : Pn.okW l wb ws = false := by rw [okW_eq, h1]; simp
   have HZ := hide (ch_bad hk).1
   have HE := hide (ch_bad hk).2
   have P1 := hide fun w0 => PW.out wb w0
   rw [h1] at P1
   clear hT hx hl hk hw ht PW h1 hn HD
   go_enter Tryz.func9, Tryz.ntmps9
   go_wp2_with fail
   rw [← hW]
   refine (T1.out _ HbW.out).mono ?_
   rintro _ w1 ⟨gl, an, mn, cn, rfl, _, hb⟩
   have HB := hide ((HbW.out.trans (hb.mono HbW.out.size)).trans ((below_alloc w1 (.cells #[.int .i64 (n : Int), .slice (some ⟨gl, 0, none⟩) 8 8, .slice an mn cn, .int .i64 (D : Int)] 66)).mono (HbW.out.trans (hb.mono HbW.out.size)).size))
   replace HRC := hide ((HRC.out.kept hb).alloc (.cells #[.int .i64 (n : Int), .slice (some ⟨gl, 0, none⟩) 8 8, .slice an mn cn, .int .i64 (D : Int)] 66))
   replace HWT := hide ((HWT.out.kept hb).alloc (.cells #[.int .i64 (n : Int), .slice (some ⟨gl, 0, none⟩) 8 8, .slice an mn cn, .int .i64 (D : Int)] 66))
   have e0 := HWT.out.cell 0 rfl
   have e1 := HWT.out.cell 1 rfl
   clear hW hb HbW T1
   go_wp2_with fail
   refine (P1.out _).mono ?_
   rintro _ w2 ⟨rfl, rfl⟩
   clear e0 e1
   go_wp2_with (refine store_cel (w.heap.size + 1) [.int .i64 0, .int .i64 0, .int .i64 0, .int .i64 0, .int .i64 0] [.int .i64 0, .int .i64 0, .int .i64 0, .int .i64 0, .int .i64 0] (by rfl) rfl HRC.out rfl (by kernel_rfl) (by simp [Value.oneCell']) ?_)
   intro w8 hc8 ho8
   have HBF := hide (HB.out.trans (ho8.below (Nat.le_succ _)))
   have x0 := hc8.cell 0 rfl
   have x1 := hc8.cell 1 rfl
   have x2 := hc8.cell 2 rfl
   have x3 := hc8.cell 3 rfl
   have x4 := hc8.cell 4 rfl
   clear hc8 ho8 HB HRC
   go_wp2
   refine bodyPost_ret (v := .tuple #[.agg #[.int .i64 0, .int .i64 0, .int .i64 0, .int .i64 0, .int .i64 0], .int .i64 2]) (by simp [results, Tryz.results9, go_sem, x0, x1, x2, x3, x4]) rfl ?_
   rw [HZ.out, HE.out]
   exact ⟨rfl, HBF.out⟩
  | true =>
   have P1 := hide fun w0 => PW.out wb w0
   rw [h1] at P1
   have P2 := hide fun w0 => PW.out ws w0
   cases h2 : (decide (0 ≤ ws) && decide (ws ≤ 65536)) with
   | false =>
    have hk : Pn.okW l wb ws = false := by rw [okW_eq, h2]; simp
    have HZ := hide (ch_bad hk).1
    have HE := hide (ch_bad hk).2
    rw [h2] at P2
    clear hT hx hl hk hw ht PW h1 h2 hn HD
    go_enter Tryz.func9, Tryz.ntmps9
    go_wp2_with fail
    rw [← hW]
    refine (T1.out _ HbW.out).mono ?_
    rintro _ w1 ⟨gl, an, mn, cn, rfl, _, hb⟩
    have HB := hide ((HbW.out.trans (hb.mono HbW.out.size)).trans ((below_alloc w1 (.cells #[.int .i64 (n : Int), .slice (some ⟨gl, 0, none⟩) 8 8, .slice an mn cn, .int .i64 (D : Int)] 66)).mono (HbW.out.trans (hb.mono HbW.out.size)).size))
    replace HRC := hide ((HRC.out.kept hb).alloc (.cells #[.int .i64 (n : Int), .slice (some ⟨gl, 0, none⟩) 8 8, .slice an mn cn, .int .i64 (D : Int)] 66))
    replace HWT := hide ((HWT.out.kept hb).alloc (.cells #[.int .i64 (n : Int), .slice (some ⟨gl, 0, none⟩) 8 8, .slice an mn cn, .int .i64 (D : Int)] 66))
    have e0 := HWT.out.cell 0 rfl
    have e1 := HWT.out.cell 1 rfl
    clear hW hb HbW T1
    go_wp2_with fail
    refine (P1.out _).mono ?_
    rintro _ w2 ⟨rfl, rfl⟩
    go_wp2_with fail
    refine (P2.out _).mono ?_
    rintro _ w3 ⟨rfl, rfl⟩
    clear e0 e1
    go_wp2_with (refine store_cel (w.heap.size + 1) [.int .i64 0, .int .i64 0, .int .i64 0, .int .i64 0, .int .i64 0] [.int .i64 0, .int .i64 0, .int .i64 0, .int .i64 0, .int .i64 0] (by rfl) rfl HRC.out rfl (by kernel_rfl) (by simp [Value.oneCell']) ?_)
    intro w8 hc8 ho8
    have HBF := hide (HB.out.trans (ho8.below (Nat.le_succ _)))
    have x0 := hc8.cell 0 rfl
    have x1 := hc8.cell 1 rfl
    have x2 := hc8.cell 2 rfl
    have x3 := hc8.cell 3 rfl
    have x4 := hc8.cell 4 rfl
    clear hc8 ho8 HB HRC
    go_wp2
    refine bodyPost_ret (v := .tuple #[.agg #[.int .i64 0, .int .i64 0, .int .i64 0, .int .i64 0, .int .i64 0], .int .i64 2]) (by simp [results, Tryz.results9, go_sem, x0, x1, x2, x3, x4]) rfl ?_
    rw [HZ.out, HE.out]
    exact ⟨rfl, HBF.out⟩
   | true =>
    rw [h2] at P2
    have hk : Pn.okW l wb ws = true := by rw [okW_eq, h1, h2, hT]; rfl
    simp only [Bool.and_eq_true, decide_eq_true_eq] at h1 h2
    obtain ⟨B, hB⟩ : ∃ B : Nat, wb = B := ⟨wb.toNat, by omega⟩
    obtain ⟨S, hS⟩ : ∃ S : Nat, ws = S := ⟨ws.toNat, by omega⟩
    subst hB hS
    have hB2 : B ≤ 65536 := by omega
    have hS2 : S ≤ 65536 := by omega
    have HE : Hid (Pn.chE l (B : Int) (S : Int) = 0) := by show _ = _; unfold Pn.chE; rw [hk, if_pos rfl]
    obtain ⟨z1, z2, z3, z4, z5, hz⟩ : ∃ z1 z2 z3 z4 z5, Hid (Pn.zz (Pn.am (Pn.wgq l B S) 378) = (z1, z2, z3, z4, z5)) := ⟨_, _, _, _, _, rfl⟩
    have HZ : Hid (Co.cv (Pn.chZ l (B : Int) (S : Int)) = [.int .i64 z1, .int .i64 z2, .int .i64 z3, .int .i64 z4, .int .i64 z5]) := by
     show _ = _
     have : Pn.chZ l (B : Int) (S : Int) = (z1, z2, z3, z4, z5) := by
      unfold Pn.chZ
      rw [hk, if_pos rfl, Int.toNat_natCast, Int.toNat_natCast]
      exact hz.out
     rw [this]
     rfl
    have OC : Hid (∀ gl an mn cn w0, Pn.TX w0 l gl an mn cn → Calls Tryz.prog 27 #[.agg #[.int .i64 (n : Nat), .slice (some ⟨gl, 0, none⟩) 8 8, .slice an mn cn, .int .i64 (D : Nat)], .agg #[.int .i64 (B : Nat), .int .i64 (S : Nat)]] w0 fun e w' => ∃ g cap, e = .returned (.slice (some ⟨g, 0, none⟩) 378 cap) ∧ OFs w' g 378 (ofc Pn.zz (Pn.bb l) (Pn.tt l) B S) ∧ Below w0.heap.size w0 w') := fun gl an mn cn w0 h => poffers_c l hT n gl hn an mn cn D B S HD w0 h
    have VC := hide fun a m c w0 => pvals_c a m c w0
    obtain ⟨bq, hbq⟩ : ∃ bq, bq = Pn.bb l (Pn.am (Pn.wgq l B S) 378) := ⟨_, rfl⟩
    obtain ⟨sq, hsq⟩ : ∃ sq, sq = Pn.tt l (Pn.am (Pn.wgq l B S) 378) := ⟨_, rfl⟩
    have LC : Hid (∀ gB g c w0, Cel w0 gB [.slice (some ⟨g, 0, none⟩) 378 c] 76 → OFs w0 g 378 (ofc Pn.zz (Pn.bb l) (Pn.tt l) B S) → Calls Tryz.prog 25 #[.func (.func 53) #[] #[.pointer (some ⟨gB, 0, none⟩)], .func (.func 28) #[] #[]] w0 fun e w' => e = .returned (.agg #[.int .i64 z1, .int .i64 z2, .int .i64 z3, .int .i64 z4, .int .i64 z5, .int .i64 (bq : Nat), .int .i64 (sq : Nat), .int .i64 (B : Nat), .int .i64 (S : Nat)]) ∧ Below w0.heap.size w0 w') := fun gB g c w0 h1 h2 => by
     have := pleastO_c gB g 378 c Pn.zz (Pn.bb l) (Pn.tt l) B S (Pn.wgq l B S) (fun q => rfl) (fun q => Pn.bitsN_le hT _) (fun q => Pn.stpN_le hT _) hB2 hS2 (by omega) (by omega) w0 h1 h2
     unfold ofc at this
     rw [hz.out, ← hbq, ← hsq] at this
     exact this
    rw [HE.out, HZ.out]
    clear hT hx hl hk hw ht PW h1 h2 hn HD hz hbq hsq HE HZ
    go_enter Tryz.func9, Tryz.ntmps9
    go_wp2_with fail
    rw [← hW]
    refine (T1.out _ HbW.out).mono ?_
    rintro _ w1 ⟨gl, an, mn, cn, rfl, htx, hb⟩
    have HB := hide ((HbW.out.trans (hb.mono HbW.out.size)).trans ((below_alloc w1 (.cells #[.int .i64 (n : Int), .slice (some ⟨gl, 0, none⟩) 8 8, .slice an mn cn, .int .i64 (D : Int)] 66)).mono (HbW.out.trans (hb.mono HbW.out.size)).size))
    replace HRC := hide ((HRC.out.kept hb).alloc (.cells #[.int .i64 (n : Int), .slice (some ⟨gl, 0, none⟩) 8 8, .slice an mn cn, .int .i64 (D : Int)] 66))
    replace HWT := hide ((HWT.out.kept hb).alloc (.cells #[.int .i64 (n : Int), .slice (some ⟨gl, 0, none⟩) 8 8, .slice an mn cn, .int .i64 (D : Int)] 66))
    have e0 := HWT.out.cell 0 rfl
    have e1 := HWT.out.cell 1 rfl
    have HTX := hide (htx.keep (below_alloc w1 (.cells #[.int .i64 (n : Int), .slice (some ⟨gl, 0, none⟩) 8 8, .slice an mn cn, .int .i64 (D : Int)] 66)))
    have HT2 := hide (Cel.new w1 [.int .i64 (n : Int), .slice (some ⟨gl, 0, none⟩) 8 8, .slice an mn cn, .int .i64 (D : Int)] 66)
    have t0 := HT2.out.cell 0 rfl
    have t1 := HT2.out.cell 1 rfl
    have t2 := HT2.out.cell 2 rfl
    have t3 := HT2.out.cell 3 rfl
    clear hW hb HbW T1 htx
    go_wp2_with fail
    refine (P1.out _).mono ?_
    rintro _ w2 ⟨rfl, rfl⟩
    go_wp2_with fail
    refine (P2.out _).mono ?_
    rintro _ w3 ⟨rfl, rfl⟩
    go_wp2_with fail
    refine (OC.out gl an mn cn _ HTX.out).mono ?_
    rintro _ w4 ⟨g, c, rfl, ho, hb4⟩
    replace HB := hide (HB.out.trans (hb4.mono HB.out.size))
    replace HRC := hide (HRC.out.kept hb4)
    have HO := hide ho
    clear ho hb4 e0 e1 t0 t1 t2 t3 HTX HT2 HWT OC
    go_wp2_with fail
    refine (VC.out _ _ _ _).mono ?_
    rintro _ w5 ⟨rfl, hcv, hb5⟩
    replace HB := hide (HB.out.trans (hb5.mono HB.out.size))
    replace HRC := hide (HRC.out.kept hb5)
    replace HO := hide (HO.out.kept hb5)
    have HCV := hide hcv
    clear hcv hb5 VC
    go_wp2_with fail
    refine (LC.out _ _ _ _ HCV.out HO.out).mono ?_
    rintro _ w6 ⟨rfl, hb6⟩
    have fld := field_cfg z1 z2 z3 z4 z5 bq sq B S w6
    replace HB := hide (HB.out.trans (hb6.mono HB.out.size))
    replace HRC := hide (HRC.out.kept hb6)
    clear hb6 LC HCV HO
    go_wp2_with (refine store_cel (w.heap.size + 1) [.int .i64 0, .int .i64 0, .int .i64 0, .int .i64 0, .int .i64 0] [.int .i64 z1, .int .i64 z2, .int .i64 z3, .int .i64 z4, .int .i64 z5] (by rfl) rfl HRC.out rfl (by kernel_rfl) (by simp [Value.oneCell']) ?_)
    intro w8 hc8 ho8
    have HBF := hide (HB.out.trans (ho8.below (Nat.le_succ _)))
    have x0 := hc8.cell 0 rfl
    have x1 := hc8.cell 1 rfl
    have x2 := hc8.cell 2 rfl
    have x3 := hc8.cell 3 rfl
    have x4 := hc8.cell 4 rfl
    clear hc8 ho8 HB HRC
    go_wp2
    refine bodyPost_ret (v := .tuple #[.agg #[.int .i64 z1, .int .i64 z2, .int .i64 z3, .int .i64 z4, .int .i64 z5], .int .i64 0]) (by simp [results, Tryz.results9, go_sem, x0, x1, x2, x3, x4]) rfl ?_
    exact ⟨rfl, HBF.out⟩
end Go.Proofs.YtcaalcjcpddhaaaGreat.Zz
namespace Go.Proofs.YtcaalcjcpddhaaaGreat.Zz
end Go.Proofs.YtcaalcjcpddhaaaGreat.Zz
