/-
  The contract of the landed levelsOf. Maps keyed by codes: what a block holds, key by key; what a look-up, a store, an entry and a store into it make of it.
-/
import Derived.Test.YtcaalcjcpddhaaaGreatS18
import Derived.Maps.OwnSet
import Derived.WideKeyEntry
import Derived.DeepKeys4
set_option linter.unusedVariables false
set_option linter.unusedSimpArgs false
set_option maxRecDepth 100000
namespace Go.Proofs.YtcaalcjcpddhaaaGreat.Zz
open Go.RowKit Num Hp
theorem and1_i64 : ∀ d : Nat, d < 256 → bits BinOp.and IntKind.i64 (d : Int) 1 = ((d % 2 : Nat) : Int) := by
 have key : ((List.range 256).all fun d : Nat => bits BinOp.and IntKind.i64 (d : Int) 1 == ((d % 2 : Nat) : Int)) = true := by decide +kernel
 intro d hd
 have := List.all_eq_true.1 key d (List.mem_range.2 hd)
 simpa using this
namespace Pn
def lvC (v : Nat → Nat) (q b : Nat) : List Value := bl2 8 (fun i => .int .i64 (Hv.tot v (if i < b then q + 1 else q) : Nat)) (fun i => .int .i64 (os v i (if i < b then q + 1 else q) : Nat))
theorem lvC_zero (v : Nat → Nat) : lvC v 0 0 = bl2 8 (fun _ => .int .i64 0) (fun _ => .int .i64 0) := by
 unfold lvC
 simp only [Nat.not_lt_zero, if_false]
 rfl
theorem lvC_next (v : Nat → Nat) (q : Nat) : lvC v q 8 = lvC v (q + 1) 0 := by
 unfold lvC bl2
 refine List.map_congr_left fun j hj => ?_
 have := List.mem_range.1 hj
 have h2 : j / 2 < 8 := by omega
 simp only [h2, if_true, Nat.not_lt_zero, if_false]
theorem lvC_step (v : Nat → Nat) (q b : Nat) (h : b < 8) (d z : Nat) (hd : d = Hv.tot v q + v q) (he : z = os v b q + (if q / 2 ^ b % 2 = 1 then v q else 0)) : ((lvC v q b).set (b * 2) (.int .i64 (d : Nat))).set (b * 2 + 1) (.int .i64 (z : Nat)) = lvC v q (b + 1) := by
 have e := bl2_set 8 (fun i => .int .i64 (Hv.tot v (if i < b then q + 1 else q) : Nat)) (fun i => .int .i64 (os v i (if i < b then q + 1 else q) : Nat)) (fun i => .int .i64 (Hv.tot v (if i < b + 1 then q + 1 else q) : Nat)) (fun i => .int .i64 (os v i (if i < b + 1 then q + 1 else q) : Nat)) b h
  (fun j hj => by by_cases d : j < b <;> simp [d, show (j < b + 1 ↔ j < b) by omega]) (fun j hj => by by_cases d : j < b <;> simp [d, show (j < b + 1 ↔ j < b) by omega])
 simp only [if_pos (show b < b + 1 by omega)] at e
 have e1 : Hv.tot v (q + 1) = d := by rw [Hv.tot, hd]
 have e2 : os v b (q + 1) = z := by rw [he]; unfold os; rw [Hv.tot]
 rw [e1, e2] at e
 exact e
end Pn
set_option maxHeartbeats 4000000 in
theorem plevels_c (ao : Option Addr) (l : List Int) (cap : Nat) (w : World) (hx : Nd w ao l) (hw : win l 8192 = true) (ht : Hv.tot (cntOf l) 256 ≤ 8192) :
  Calls Tryz.prog 51 #[.slice ao l.length cap] w fun e w' => ∃ g, e = .returned (.slice (some ⟨g, 0, none⟩) 8 8) ∧ Cel w' g (Pn.lvC (cntOf l) 256 0) 139 ∧ w.heap.size ≤ g ∧ Below w.heap.size w w' := by
 obtain ⟨i0, hi, hz0, hz1, hz2⟩ := info_parts (show (Tryz.prog.info? 139).map (fun i => (i.zero, i.size, i.bytes)) = some (some (.agg #[.int .i64 0, .int .i64 0]), 2, 16) by kernel_rfl)
 obtain ⟨h256, hbd⟩ := win_len hw
 obtain ⟨v, hv⟩ : ∃ v, Hid (v = cntOf l) := ⟨_, rfl⟩
 obtain ⟨b0, off, rfl, hbw, hcc⟩ := hx (by omega)
 have HCC : Hid (∀ i, i < 256 → w.cell? ⟨b0, off + i, none⟩ = some (.int .i64 (v i : Nat)) ∧ v i ≤ 8192) := fun i hi => by
  have h1 := hcc i (by omega)
  have h2 := hbd i (by omega)
  rw [hv.out]
  unfold cntOf
  refine ⟨?_, by omega⟩
  rw [h1]
  congr 2
  omega
 rw [← hv.out] at ht ⊢
 have HT := hide ht
 rw [h256]
 clear hcc hbd h256 hx hw ht hv
 go_enter Tryz.func51, Tryz.ntmps51
 go_wp2_with (at_make; refine wpList_make_full _ rfl _ _ 64 rfl w.heap.size 139 i0 (.agg #[.int .i64 0, .int .i64 0]) 2 Tryz.underlying64 hi hz0 hz1 .i64 .i64 _ _ 8 rfl rfl rfl rfl ?b2 ?b3 ?b4 ?_)
 case b2 => rw [hz2]; omega
 case b3 => unfold maxLen; omega
 case b4 => simp
 intro w6 hown hgr
 have B6 := cel_madeJ hown
 rw [← Pn.lvC_zero v] at B6
 have HC6 := hide B6
 have HB6 : Hid (Below w.heap.size w w6) := (Below.refl _ _).grown hgr (Nat.le_refl _) (fun k h => by cases h)
 have hg0 : w.heap.size ≤ w.heap.size := Nat.le_refl _
 obtain ⟨g, hg⟩ : ∃ g, g = w.heap.size := ⟨_, rfl⟩
 have hg0 : w.heap.size ≤ g := by omega
 rw [← hg] at HC6 ⊢
 clear hown hgr hi hz0 hz1 hz2 B6 hg
 go_wp2
 go_loopw [10] (fun vi wr => ∃ q : Nat, q ≤ 256 ∧ vi = .int .i64 q ∧ Hid (Cel wr g (Pn.lvC v q 0) 139) ∧ Hid (Below w.heap.size w wr)) (fun vi _ => 256 - (intOf vi).toNat)
 case atStart => exact ⟨0, Nat.zero_le _, rfl, HC6, HB6⟩
 case round =>
  clear HC6 HB6
  obtain ⟨q, hq, rfl, HC, HB⟩ := hrel
  by_cases hlt : q < 256
  ·have hltz : (q : Int) < 256 := by omega
   have c1 := (HB.out.cell (p := ⟨b0, off + q, none⟩) hbw).trans (HCC.out q hlt).1
   have v8 := (HCC.out q hlt).2
   go_wp2
   go_loopw [17] (fun vi wr => ∃ b : Nat, b ≤ 8 ∧ vi = .int .i64 b ∧ Hid (Cel wr g (Pn.lvC v q b) 139) ∧ Hid (Below w.heap.size w wr)) (fun vi _ => 8 - (intOf vi).toNat)
   case atStart => exact ⟨0, Nat.zero_le _, rfl, HC, HB⟩
   case round =>
    clear HC HB c1
    obtain ⟨b, hb, rfl, HC, HB⟩ := hrel
    by_cases hlb : b < 8
    ·have hlbz : (b : Int) < 8 := by omega
     obtain ⟨d, hd⟩ : ∃ d, d = q / 2 ^ b := ⟨_, rfl⟩
     have hdq : d ≤ q := by rw [hd]; exact Nat.div_le_self _ _
     have ed : Hid ((q : Int) / 2 ^ b = (d : Int)) := by show _ = _; rw [hd, Int.natCast_ediv, Int.natCast_pow]; rfl
     obtain ⟨e, he⟩ : ∃ e, e = d % 2 := ⟨_, rfl⟩
     have ee : Hid (bits BinOp.and IntKind.i64 (d : Int) 1 = (e : Int)) := by show _ = _; rw [he]; exact and1_i64 d (by omega)
     obtain ⟨t, htt⟩ : ∃ t, t = decide (e = 1) := ⟨_, rfl⟩
     have et : Hid (((e : Int) == 1) = t) := by
      show _ = _
      rw [htt, Bool.eq_iff_iff]
      simp
      omega
     have s1 : Hv.tot v q ≤ 8192 := Nat.le_trans (Pn.tot_mono v (show q ≤ 256 by omega)) HT.out
     have s2 : Pn.os v b q ≤ 8192 := Nat.le_trans (Pn.os_le v b q) s1
     have cb0 : Hid ((Pn.lvC v q b)[b * 2]? = some (.int .i64 (Hv.tot v q : Nat))) := by show _ = _; unfold Pn.lvC; rw [bl2_fst _ _ _ _ hlb, if_neg (Nat.lt_irrefl _)]
     have cb1 : Hid ((Pn.lvC v q b)[b * 2 + 1]? = some (.int .i64 (Pn.os v b q : Nat))) := by show _ = _; unfold Pn.lvC; rw [bl2_snd _ _ _ _ hlb, if_neg (Nat.lt_irrefl _)]
     have cb2 : ∀ u : Value, Hid (((Pn.lvC v q b).set (b * 2) u)[b * 2 + 1]? = some (.int .i64 (Pn.os v b q : Nat))) := fun u => by show _ = _; rw [List.getElem?_set_ne (by omega)]; exact cb1.out
     have CW := hide fun w0 => pwith_c (Hv.tot v q) (Pn.os v b q) (v q) t (by omega) (by omega) (by omega) w0
     obtain ⟨x1, hx1⟩ : ∃ x, Hid (x = Hv.tot v q + v q) := ⟨_, rfl⟩
     obtain ⟨x2, hx2⟩ : ∃ x, Hid (x = Pn.os v b q + (if t = true then v q else 0)) := ⟨_, rfl⟩
     have HS := hide (Pn.lvC_step v q b hlb x1 x2 hx1.out (by rw [hx2.out, htt, he, hd]; simp))
     rw [← hx1.out, ← hx2.out] at CW
     generalize Hv.tot v q = y1 at *
     generalize Pn.os v b q = y2 at *
     generalize v q = y3 at *
     clear htt he hd hx1 hx2
     go_wp2
     refine region_g [14] (fun w' => Cel w' g (Pn.lvC v q b) 139 ∧ Below w.heap.size w w') (by kernel_rfl) ?_
     have hS : (fun w' => Cel w' g (Pn.lvC v q b) 139 ∧ Below w.heap.size w w') wr.drew := ⟨HC.out.drew, HB.out.drew⟩
     clear HC HB
     generalize wr.drew = V at *
     refine AnyG.take 0 (v := ?vv1) rfl (by kernel_rfl) (by kernel_rfl) (by kernel_rfl) (by kernel_rfl) (fun _ _ _ h => h) hS ?hy1 (by rfl) ?rest1
     case hy1 =>
      intro w0 h0
      go_simp
      try with_reducible rfl
     simp only [Act.put, yq0, yq1, yq2, yq3, yq4, yq5]
     refine AnyG.take 1 (v := ?vv2) rfl (by kernel_rfl) (by kernel_rfl) (by kernel_rfl) (by kernel_rfl) (fun _ _ _ h => h) hS ?hy2 (by rfl) ?rest2
     case hy2 =>
      intro w0 h0
      go_simp
      try with_reducible rfl
     simp only [Act.put, yq0, yq1, yq2, yq3, yq4, yq5]
     refine AnyG.take 2 (v := ?vv3) rfl (by kernel_rfl) (by kernel_rfl) (by kernel_rfl) (by kernel_rfl) (fun _ _ _ h => h) hS ?hy3 (by rfl) ?rest3
     case hy3 =>
      intro w0 h0
      go_simp
      try with_reducible rfl
     simp only [Act.put, yq0, yq1, yq2, yq3, yq4, yq5]
     refine AnyG.take 3 (v := ?vv4) rfl (by kernel_rfl) (by kernel_rfl) (by kernel_rfl) (by kernel_rfl) (fun _ _ _ h => h) hS ?hy4 (by rfl) ?rest4
     case hy4 =>
      intro w0 h0
      go_simp
      try with_reducible rfl
     simp only [Act.put, yq0, yq1, yq2, yq3, yq4, yq5]
     refine AnyG.take 4 (v := ?vv5) rfl (by kernel_rfl) (by kernel_rfl) (by kernel_rfl) (by kernel_rfl) (fun _ _ _ h => h) hS ?hy5 (by rfl) ?rest5
     case hy5 =>
      intro w0 h0
      go_simp
      try with_reducible rfl
     simp only [Act.put, yq0, yq1, yq2, yq3, yq4, yq5]
     refine AnyG.take 5 (v := ?vv6) rfl (by kernel_rfl) (by kernel_rfl) (by kernel_rfl) (by kernel_rfl) (fun _ _ _ h => h) hS ?hy6 (by rfl) ?rest6
     case hy6 =>
      intro w0 h0
      have d0 := h0.1.cell (b * 2) cb0.out
      have d1 := h0.1.cell (b * 2 + 1) cb1.out
      go_simp
      try with_reducible rfl
     simp only [Act.put, yq0, yq1, yq2, yq3, yq4, yq5]
     refine AnyG.take 6 (v := ?vv7) rfl (by kernel_rfl) (by kernel_rfl) (by kernel_rfl) (by kernel_rfl) (fun _ _ _ h => h) hS ?hy7 (by rfl) ?rest7
     case hy7 =>
      intro w0 h0
      go_simp
      try with_reducible rfl
     simp only [Act.put, yq0, yq1, yq2, yq3, yq4, yq5]
     refine AnyG.take 7 (v := ?vv8) rfl (by kernel_rfl) (by kernel_rfl) (by kernel_rfl) (by kernel_rfl) (fun _ _ _ h => h) hS ?hy8 (by rfl) ?rest8
     case hy8 =>
      intro w0 h0
      go_simp
      try with_reducible rfl
     simp only [Act.put, yq0, yq1, yq2, yq3, yq4, yq5]
     refine AnyG.take 8 (v := ?vv9) rfl (by kernel_rfl) (by kernel_rfl) (by kernel_rfl) (by kernel_rfl) (fun _ _ _ h => h) hS ?hy9 (by rfl) ?rest9
     case hy9 =>
      intro w0 h0
      go_simp
      try with_reducible rfl
     simp only [Act.put, yq0, yq1, yq2, yq3, yq4, yq5]
     refine AnyG.take 9 (v := .int .i64 (d : Int)) rfl (by kernel_rfl) (by kernel_rfl) (by kernel_rfl) (by kernel_rfl) (fun _ _ _ h => h) hS ?hy10 (by rfl) ?rest10
     case hy10 =>
      intro w0 h0
      have ed2 := ed.out
      go_simp
      try with_reducible rfl
      try (rw [IntKind.wrap_i64]; omega)
     simp only [Act.put, yq0, yq1, yq2, yq3, yq4, yq5]
     refine AnyG.take 10 (v := .int .i64 (e : Int)) rfl (by kernel_rfl) (by kernel_rfl) (by kernel_rfl) (by kernel_rfl) (fun _ _ _ h => h) hS ?hy11 (by rfl) ?rest11
     case hy11 =>
      intro w0 h0
      have ee2 := ee.out
      go_simp
      try with_reducible rfl
      try (rw [IntKind.wrap_i64]; omega)
     simp only [Act.put, yq0, yq1, yq2, yq3, yq4, yq5]
     refine AnyG.take 11 (v := .bool t) rfl (by kernel_rfl) (by kernel_rfl) (by kernel_rfl) (by kernel_rfl) (fun _ _ _ h => h) hS ?hy12 (by rfl) ?rest12
     case hy12 =>
      intro w0 h0
      have et2 := et.out
      go_simp
      try with_reducible rfl
      try (rw [IntKind.wrap_i64]; omega)
     simp only [Act.put, yq0, yq1, yq2, yq3, yq4, yq5]
     refine AnyG.one 12 (by kernel_rfl) rfl ?_
     intro K hK
     go_simp
     refine (CW.out _).mono ?_
     rintro _ v1 ⟨rfl, hb⟩
     have hS1 : (fun w' => Cel w' g (Pn.lvC v q b) 139 ∧ Below w.heap.size w w') v1 := ⟨hS.1.kept hb, hS.2.trans (hb.mono hS.2.size)⟩
     clear hb hS
     refine hK.out _ _ (fun _ => hS1) ?_
     clear hK K
     try simp only [Act.put, yq0, yq1, yq2, yq3, yq4, yq5]
     refine AnyG.take 13 (v := ?vv13) rfl (by kernel_rfl) (by kernel_rfl) (by kernel_rfl) (by kernel_rfl) (fun _ _ _ h => h) hS1 ?hy13 (by rfl) ?rest13
     case hy13 =>
      intro w0 h0
      go_simp
      try with_reducible rfl
     simp only [Act.put, yq0, yq1, yq2, yq3, yq4, yq5]
     refine AnyG.one 14 (by kernel_rfl) rfl ?_
     intro K hK
     have k0 := hS1.1.cell (b * 2) cb0.out
     have k1 := hS1.1.cell (b * 2 + 1) cb1.out
     have f0 := hS1.1.frozen (b * 2)
     have f1 := hS1.1.frozen (b * 2 + 1)
     have f2 := (hS1.1.set (b * 2) (.int .i64 (x1 : Nat))).frozen (b * 2 + 1)
     have k2 := (hS1.1.set (b * 2) (.int .i64 (x1 : Nat))).cell (b * 2 + 1) (cb2 _).out
     have HC1 : Hid (Cel ((v1.setCell ⟨g, b * 2, none⟩ (.int .i64 (x1 : Nat))).setCell ⟨g, b * 2 + 1, none⟩ (.int .i64 (x2 : Nat))) g (Pn.lvC v q (b + 1)) 139) := by
      have := (hS1.1.set (b * 2) (.int .i64 (x1 : Nat))).set (b * 2 + 1) (.int .i64 (x2 : Nat))
      rw [HS.out] at this
      exact this
     have HB1 : Hid (Below w.heap.size w ((v1.setCell ⟨g, b * 2, none⟩ (.int .i64 (x1 : Nat))).setCell ⟨g, b * 2 + 1, none⟩ (.int .i64 (x2 : Nat)))) := (hS1.2.setCell (by show w.heap.size ≤ g; omega) _).setCell (by show w.heap.size ≤ g; omega) _
     go_simp
     refine hK.out _ _ (fun h => absurd (by decide) h) ?_
     clear hK K
     try simp only [Act.put, yq0, yq1, yq2, yq3, yq4, yq5]
     refine AnyG.done (by kernel_rfl) ?_ _
     clear hS1 HS
     go_wp2
     exact ⟨⟨b + 1, by omega, by go_num, HC1, HB1⟩, by simp only [intOf]; omega⟩
    ·obtain rfl : b = 8 := by omega
     have HC1 : Hid (Cel wr g (Pn.lvC v (q + 1) 0) 139) := by
      rw [← Pn.lvC_next]
      exact HC.out
     clear HC
     go_wp2
     exact ⟨⟨q + 1, by omega, by go_num, HC1, HB⟩, by simp only [intOf]; omega⟩
  ·obtain rfl : q = 256 := by omega
   go_wp2
   go_ret
   exact ⟨g, rfl, HC.out, hg0, HB.out⟩
end Go.Proofs.YtcaalcjcpddhaaaGreat.Zz
namespace Go.Proofs.YtcaalcjcpddhaaaGreat.Zz
open Go.RowKit Go.MapKept Go.ChangeMaps
open Go.WideElems (Fit)
theorem lay_out : laidOutB Tryz.prog = true := by kernel_rfl
theorem code_law0 : WideMaps.KeyLaw Tryz.prog 137 := deep_law_laid lay_out (m := 2) (by omega) (of_decide_eq_true (by kernel_rfl)) (by kernel_rfl) (by rw [Tryz.underlying137])
theorem code_law : Maps.Keyed Tryz.prog 137 := Maps.Keyed.of_law code_law0
def cv (L x : Nat) : Value := .agg #[.int .i64 (L : Int), .int .u64 (x : Int)]
theorem cv_inj {L x M y : Nat} (h : cv L x = cv M y) : L = M ∧ x = y := by
 simp only [cv, Value.agg.injEq, Array.mk.injEq, List.cons.injEq, Value.int.injEq, true_and, and_true] at h
 omega
def ck (L x : Nat) : Lit := .string (keyBytes [.int .i64 (L : Int), .int .u64 (x : Int)])
theorem ckt : Tryz.prog.keyType 137 = true := by kernel_rfl
theorem cks : Tryz.prog.cellsOf 137 = 2 := by kernel_rfl
theorem cki : Tryz.prog.cellsOf 3 = 1 := by kernel_rfl
theorem cku : Tryz.prog.cellsOf 83 = 1 := by kernel_rfl
theorem wfL {L : Nat} (h : L ≤ 64) : (Lit.int .i64 (L : Int)).wf = true := by simp [Lit.wf, IntKind.min, IntKind.max, IntKind.bits, IntKind.signed]; omega
theorem wfX {x : Nat} (h : x < 18446744073709551616) : (Lit.int .u64 (x : Int)).wf = true := by simp [Lit.wf, IntKind.min, IntKind.max, IntKind.bits, IntKind.signed]; omega
theorem key_cv {L x : Nat} (hL : L ≤ 64) (hx : x < 18446744073709551616) : keyOf Tryz.prog 137 (cv L x) = some (ck L x) := by
 have f : (cv L x).formed Tryz.prog 137 = true := by
  unfold cv Value.formed
  simp only [Tryz.underlying137, cks]
  rfl
 have k : Tryz.prog.keyLits (Tryz.prog.types.size + 1) 137 [.int .i64 (L : Int), .int .u64 (x : Int)] = some [.int .i64 (L : Int), .int .u64 (x : Int)] := by
  have hs : ∃ n, Tryz.prog.types.size = n + 1 := ⟨Tryz.prog.types.size - 1, by kernel_rfl⟩
  obtain ⟨n, hn⟩ := hs
  have i1 : Tryz.prog.keyLits (n + 1) 3 [.int .i64 (L : Int)] = some [.int .i64 (L : Int)] := by
   unfold Program.keyLits
   simp only [Tryz.underlying3, wfL hL, and_self, if_true]
  have i2 : Tryz.prog.keyLits (n + 1) 83 [.int .u64 (x : Int)] = some [.int .u64 (x : Int)] := by
   unfold Program.keyLits
   simp only [Tryz.underlying83, wfX hx, and_self, if_true]
  rw [hn]
  unfold Program.keyLits
  simp only [Tryz.underlying137, cks]
  rw [if_pos ⟨rfl, by kernel_rfl⟩]
  simp only [List.mapM_cons, List.mapM_nil, List.drop_zero, cki, cku, List.take_succ_cons, List.take_zero, i1, List.drop_succ_cons, i2]
  rfl
 unfold keyOf
 simp only [Tryz.underlying137, ckt, f, Bool.and_self, if_true]
 have e : (cv L x).cells.toList = [.int .i64 (L : Int), .int .u64 (x : Int)] := rfl
 rw [e, k]
 rfl
theorem ck_inj {L x M y : Nat} (hL : L ≤ 64) (hx : x < 18446744073709551616) (hM : M ≤ 64) (hy : y < 18446744073709551616) (h : ck L x = ck M y) : L = M ∧ x = y :=
 cv_inj (code_law.inj (key_cv hL hx) (by rw [key_cv hM hy, h]))
def hv (v : Value) : Option (DataW Value × List MemPlace) := some (.held v, [])
theorem hv_out {v u : Value} {ps : List MemPlace} (h : hv v = some (.held u, ps)) : v = u := by
 unfold hv at h
 cases h
 rfl
def CM (w : World) (b n : Nat) (M : Nat → Nat → Option Value) : Prop :=
 ∃ D : DataW Value, w.ownsMap Tryz.prog 137 hv b n D ∧ ∀ L x, L ≤ 64 → x < 18446744073709551616 → Maps.has D (ck L x) = (M L x).isSome ∧ ∀ z, D.atKey (ck L x) (.held z) = .held ((M L x).getD z)
def cup (M : Nat → Nat → Option Value) (L x : Nat) (v : Value) : Nat → Nat → Option Value := fun L' x' => if L' = L ∧ x' = x then some v else M L' x'
theorem cup_same (M : Nat → Nat → Option Value) (L x : Nat) (v : Value) : cup M L x v L x = some v := by unfold cup; rw [if_pos ⟨rfl, rfl⟩]
theorem cup_other (M : Nat → Nat → Option Value) {L x L' x' : Nat} (v : Value) (h : ¬ (L' = L ∧ x' = x)) : cup M L x v L' x' = M L' x' := by unfold cup; rw [if_neg h]
theorem CM.lt {w : World} {b n : Nat} {M : Nat → Nat → Option Value} (h : CM w b n M) : b < w.heap.size := by
 obtain ⟨D, h, _⟩ := h
 exact h.lt
theorem CM.of {w w' : World} {b n : Nat} {M : Nat → Nat → Option Value} (h : CM w b n M) (e : w'.heap[b]? = w.heap[b]?) : CM w' b n M := by
 obtain ⟨D, ⟨es, clock, hb, F, hs, hD⟩, k⟩ := h
 exact ⟨D, ⟨es, clock, e.trans hb, F, hs, hD⟩, k⟩
theorem CM.keep {w w' : World} {b n base : Nat} {M : Nat → Nat → Option Value} (h : CM w b n M) (hb : Below base w w') (hl : b < base) : CM w' b n M := h.of (hb.block b hl)
theorem CM.kept {w w' : World} {b n : Nat} {M : Nat → Nat → Option Value} (h : CM w b n M) (hb : Below w.heap.size w w') : CM w' b n M := h.keep hb h.lt
theorem CM.only {w w' : World} {b n g : Nat} {M : Nat → Nat → Option Value} (h : CM w b n M) (hO : Only g w w') (hg : b ≠ g) : CM w' b n M := h.of (hO.block b hg)
theorem CM.mono {w : World} {b n m : Nat} {M : Nat → Nat → Option Value} (h : CM w b n M) (hm : n ≤ m) : CM w b m M := by
 obtain ⟨D, h, k⟩ := h
 exact ⟨D, h.mono hm, k⟩
theorem CM.made (w : World) : CM (w.alloc (.map #[] 0)) w.heap.size 0 fun _ _ => none := ⟨_, World.ownsMap_made _ _ _ _, fun L x _ _ => ⟨rfl, fun z => rfl⟩⟩
theorem CM.look_ok {w : World} {b n : Nat} {M : Nat → Nat → Option Value} {t e : TypeId} (h : CM w b n M) (ht : Tryz.prog.underlying t = some (.map 137 e)) {z : Value} (hz : (zeroValue e).run Tryz.prog w = .ok z w) {L x : Nat} (hL : L ≤ 64) (hx : x < 18446744073709551616) :
  (Instr.lookup t (.map (some b)) (cv L x) true).run Tryz.prog w = .ok (.tuple #[(M L x).getD z, .bool (M L x).isSome]) w := by
 obtain ⟨D, h, k⟩ := h
 obtain ⟨v, ps, hrun, hv⟩ := h.look_ok code_law ht hz (zd := .held z) (zp := []) rfl (key_cv hL hx)
 rw [(k L x hL hx).2] at hv
 rw [hrun, hv_out hv, (k L x hL hx).1]
theorem only_turned {w w' : World} {b : Nat} (h : w.mapTurned w' b) : Only b w w' := by
 obtain ⟨es, clock, es', clock', hb, rfl⟩ := h
 exact ⟨rfl, rfl, rfl, by simp [setBlock], fun k hk => heap_setBlock_other hb _ hk⟩
theorem cm_put {M : Nat → Nat → Option Value} {D : DataW Value} (hm : Maps.IsMap D) (k : ∀ L x, L ≤ 64 → x < 18446744073709551616 → Maps.has D (ck L x) = (M L x).isSome ∧ ∀ z, D.atKey (ck L x) (.held z) = .held ((M L x).getD z)) {L x : Nat} (hL : L ≤ 64) (hx : x < 18446744073709551616) (v : Value) :
  ∀ L' x', L' ≤ 64 → x' < 18446744073709551616 → Maps.has (D.put (ck L x) (.held v)) (ck L' x') = (cup M L x v L' x').isSome ∧ ∀ z, (D.put (ck L x) (.held v)).atKey (ck L' x') (.held z) = .held ((cup M L x v L' x').getD z) := by
 intro L' x' hL' hx'
 by_cases e : L' = L ∧ x' = x
 ·obtain ⟨rfl, rfl⟩ := e
  rw [cup_same]
  exact ⟨Maps.has_put_same hm (code_law.key (key_cv hL hx)) _, fun z => Maps.atKey_put_same hm (code_law.key (key_cv hL hx)) _ _⟩
 ·have ne : ck L' x' ≠ ck L x := fun h => e (ck_inj hL' hx' hL hx h)
  rw [cup_other M v e, Maps.has_put_other ne]
  exact ⟨(k L' x' hL' hx').1, fun z => by rw [Maps.atKey_put_other ne]; exact (k L' x' hL' hx').2 z⟩
theorem CM.store {w : World} {b n : Nat} {M : Nat → Nat → Option Value} {t e : TypeId} (h : CM w b n M) (ht : Tryz.prog.underlying t = some (.map 137 e)) (hn : n < maxLen) {L x : Nat} (hL : L ≤ 64) (hx : x < 18446744073709551616) (v : Value) :
  ∃ w', (Instr.mapUpdate t (.map (some b)) (cv L x) v).run Tryz.prog w = .ok () w' ∧ CM w' b (n + 1) (cup M L x v) ∧ Only b w w' := by
 obtain ⟨D, h, k⟩ := h
 obtain ⟨w', hrun, h2, h3⟩ := h.store code_law ht hn (key_cv hL hx) (val := v) (d := .held v) (ps := []) rfl
 exact ⟨w', hrun, ⟨_, h2, cm_put h.isMap k hL hx v⟩, only_turned h3⟩
end Go.Proofs.YtcaalcjcpddhaaaGreat.Zz
