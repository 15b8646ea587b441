/-
  The contract of the program's measure. The contract of the program's Lengths. The contract of the program's fit.
-/
import Derived.Test.YtcaalcjcpddhaaaGreatS16
set_option linter.unusedVariables false
set_option linter.unusedSimpArgs false
set_option maxRecDepth 100000
namespace Go.Proofs.YtcaalcjcpddhaaaGreat.Zz
open Go.RowKit Num Ji
theorem jmeas_1 (g n : Nat) (f : Nat → T4) (w : World) (hT : TH w g f) (hn : n ≤ 1) :
  Calls Tryz.prog 77 #[.pointer (some ⟨g, 0, none⟩), .int .i64 (n : Nat)] w fun e w' => e = .returned (.tuple #[]) ∧ SO g w (fun F => F = f) w' := by
 have HT := hide hT
 have h0 : ¬ (0 : Int) ≤ 2 * (n : Int) - 3 := by omega
 clear hT
 go_enter Tryz.func77, Tryz.ntmps77
 go_wp2
 go_loopw [4] (fun vi wr => vi = .int .i64 (2 * (n : Int) - 3) ∧ wr = w) (fun vi _ => 0)
 case atStart => exact ⟨by go_num, rfl⟩
 case round =>
  obtain ⟨rfl, hw⟩ := hrel
  subst hw
  go_wp2
  refine bodyPost_end (results_none rfl _ _ _) rfl ?_
  exact ⟨rfl, SO.mk _ HT.out rfl (Bar.refl _ _)⟩
set_option maxHeartbeats 4000000 in
theorem jmeas_2 (g n : Nat) (D : Nat → Nat) (f : Nat → T4) (S : Nat → List Nat) (hh : Nat → Nat → Nat) (w : World) (hT : TH w g f) (h2 : 2 ≤ n) (hn : n ≤ 256) (T : Tree n D f S hh) :
  Calls Tryz.prog 77 #[.pointer (some ⟨g, 0, none⟩), .int .i64 (n : Nat)] w fun e w' => e = .returned (.tuple #[]) ∧ SO g w (fun F => Ms n D f F S hh 0) w' := by
 have HT := hide hT
 have HTr := hide T
 have HM := hide (Ms.start T)
 clear hT T
 go_enter Tryz.func77, Tryz.ntmps77
 go_wp2
 go_loopw [4] (fun vi wr => ∃ (k : Nat) (F : Nat → T4), k ≤ 2 * n - 2 ∧ vi = .int .i64 ((k : Int) - 1) ∧ Hid (TH wr g F) ∧ Hid (Bar g w wr) ∧ Hid (Ms n D f F S hh k)) (fun vi _ => (intOf vi + 1).toNat)
 case atStart => exact ⟨2 * n - 2, f, Nat.le_refl _, by congr 1; omega, HT, Bar.refl _ _, HM⟩
 case round =>
  clear HT HM
  obtain ⟨k, F, hk, rfl, HH, HB, HI⟩ := hrel
  by_cases hk0 : k = 0
  ·subst hk0
   have hz : ¬ (0 : Int) ≤ ((0 : Nat) : Int) - 1 := by omega
   go_wp2
   refine bodyPost_end (results_none rfl _ _ _) rfl ?_
   exact ⟨rfl, SO.mk _ HH.out HI.out HB.out⟩
  ·obtain ⟨i, rfl⟩ : ∃ i, k = i + 1 := ⟨k - 1, by omega⟩
   have zi : ((i + 1 : Nat) : Int) - 1 = (i : Int) := by omega
   obtain ⟨m1, m2, m3, m4⟩ := HI.out.step HTr.out (by omega)
   obtain ⟨p, hp⟩ : ∃ p, Hid (p = (F i).it) := ⟨_, rfl⟩
   rw [← hp.out] at m1 m2 m3 m4
   obtain ⟨q, hq⟩ : ∃ q, Hid (q = (F p).ln) := ⟨_, rfl⟩
   rw [← hq.out] at m3 m4
   have HM := hide m4
   have i511 : (i : Int) < 511 := by omega
   have p511 : (p : Int) < 511 := by omega
   have i5 : i < 511 := by omega
   have p5 : p < 511 := by omega
   have q5 : q ≤ 512 := by omega
   have i6 : i + 1 ≤ 2 * n - 2 := hk
   clear m4 HI m1 m2 m3
   rw [zi]
   clear zi hk hk0
   go_wp2
   refine region_g [17] (fun w' => TH w' g F) (by kernel_rfl) ?_
   have hS : TH wr.drew g F := HH.out.drew
   have HB2 : Hid (Bar g w wr.drew) := HB.out.drew
   generalize wr.drew = Y at *
   refine AnyG.take 0 (v := ?vv1) rfl (by kernel_rfl) (by kernel_rfl) (by kernel_rfl) (by kernel_rfl) (fun _ _ _ h => h) hS ?hy1 (by rfl) ?rest1
   case hy1 =>
    intro w0 h0
    go_simp
    try with_reducible rfl
   simp only [Act.put, yq0, yq1, yq2, yq3, yq4, yq5]
   refine AnyG.take 1 (v := ?vv2) rfl (by kernel_rfl) (by kernel_rfl) (by kernel_rfl) (by kernel_rfl) (fun _ _ _ h => h) hS ?hy2 (by rfl) ?rest2
   case hy2 =>
    intro w0 h0
    go_simp
    try with_reducible rfl
   simp only [Act.put, yq0, yq1, yq2, yq3, yq4, yq5]
   refine AnyG.take 2 (v := ?vv3) rfl (by kernel_rfl) (by kernel_rfl) (by kernel_rfl) (by kernel_rfl) (fun _ _ _ h => h) hS ?hy3 (by rfl) ?rest3
   case hy3 =>
    intro w0 h0
    go_simp
    try with_reducible rfl
   simp only [Act.put, yq0, yq1, yq2, yq3, yq4, yq5]
   refine AnyG.take 3 (v := ?vv4) rfl (by kernel_rfl) (by kernel_rfl) (by kernel_rfl) (by kernel_rfl) (fun _ _ _ h => h) hS ?hy4 (by rfl) ?rest4
   case hy4 =>
    intro w0 h0
    go_simp
    try with_reducible rfl
   simp only [Act.put, yq0, yq1, yq2, yq3, yq4, yq5]
   refine AnyG.take 4 (v := ?vv5) rfl (by kernel_rfl) (by kernel_rfl) (by kernel_rfl) (by kernel_rfl) (fun _ _ _ h => h) hS ?hy5 (by rfl) ?rest5
   case hy5 =>
    intro w0 h0
    go_simp
    try with_reducible rfl
   simp only [Act.put, yq0, yq1, yq2, yq3, yq4, yq5]
   refine AnyG.take 5 (v := ?vv6) rfl (by kernel_rfl) (by kernel_rfl) (by kernel_rfl) (by kernel_rfl) (fun _ _ _ h => h) hS ?hy6 (by rfl) ?rest6
   case hy6 =>
    intro w0 h0
    go_simp
    try with_reducible rfl
   simp only [Act.put, yq0, yq1, yq2, yq3, yq4, yq5]
   refine AnyG.take 6 (v := ?vv7) rfl (by kernel_rfl) (by kernel_rfl) (by kernel_rfl) (by kernel_rfl) (fun _ _ _ h => h) hS ?hy7 (by rfl) ?rest7
   case hy7 =>
    intro w0 h0
    go_simp
    try with_reducible rfl
   simp only [Act.put, yq0, yq1, yq2, yq3, yq4, yq5]
   refine AnyG.take 7 (v := ?vv8) rfl (by kernel_rfl) (by kernel_rfl) (by kernel_rfl) (by kernel_rfl) (fun _ _ _ h => h) hS ?hy8 (by rfl) ?rest8
   case hy8 =>
    intro w0 h0
    go_simp
    try with_reducible rfl
   simp only [Act.put, yq0, yq1, yq2, yq3, yq4, yq5]
   refine AnyG.take 8 (v := ?vv9) rfl (by kernel_rfl) (by kernel_rfl) (by kernel_rfl) (by kernel_rfl) (fun _ _ _ h => h) hS ?hy9 (by rfl) ?rest9
   case hy9 =>
    intro w0 h0
    have k0 := h0.c2 i i5
    have k1 := h0.c3 p p5
    rw [← hp.out] at k0
    rw [← hq.out] at k1
    go_simp
    try with_reducible rfl
   simp only [Act.put, yq0, yq1, yq2, yq3, yq4, yq5]
   refine AnyG.take 9 (v := ?vv10) rfl (by kernel_rfl) (by kernel_rfl) (by kernel_rfl) (by kernel_rfl) (fun _ _ _ h => h) hS ?hy10 (by rfl) ?rest10
   case hy10 =>
    intro w0 h0
    go_simp
    try with_reducible rfl
   simp only [Act.put, yq0, yq1, yq2, yq3, yq4, yq5]
   refine AnyG.take 10 (v := ?vv11) rfl (by kernel_rfl) (by kernel_rfl) (by kernel_rfl) (by kernel_rfl) (fun _ _ _ h => h) hS ?hy11 (by rfl) ?rest11
   case hy11 =>
    intro w0 h0
    go_simp
    try with_reducible rfl
   simp only [Act.put, yq0, yq1, yq2, yq3, yq4, yq5]
   refine AnyG.take 11 (v := ?vv12) rfl (by kernel_rfl) (by kernel_rfl) (by kernel_rfl) (by kernel_rfl) (fun _ _ _ h => h) hS ?hy12 (by rfl) ?rest12
   case hy12 =>
    intro w0 h0
    go_simp
    try with_reducible rfl
   simp only [Act.put, yq0, yq1, yq2, yq3, yq4, yq5]
   refine AnyG.take 12 (v := ?vv13) rfl (by kernel_rfl) (by kernel_rfl) (by kernel_rfl) (by kernel_rfl) (fun _ _ _ h => h) hS ?hy13 (by rfl) ?rest13
   case hy13 =>
    intro w0 h0
    have k0 := h0.c2 i i5
    have k1 := h0.c3 p p5
    rw [← hp.out] at k0
    rw [← hq.out] at k1
    go_simp
    try with_reducible rfl
   simp only [Act.put, yq0, yq1, yq2, yq3, yq4, yq5]
   have wsum : IntKind.i64.wrap ((q : Int) + 1) = ((q + 1 : Nat) : Int) := by rw [IntKind.wrap_i64]; omega
   refine AnyG.take 13 (v := ?vv14) rfl (by kernel_rfl) (by kernel_rfl) (by kernel_rfl) (by kernel_rfl) (fun _ _ _ h => h) hS ?hy14 (by rfl) ?rest14
   case hy14 =>
    intro w0 h0
    go_simp
    try with_reducible rfl
   simp only [Act.put, yq0, yq1, yq2, yq3, yq4, yq5]
   refine AnyG.takeW 14 (v := ?vv15) rfl (by kernel_rfl) (by kernel_rfl) (by kernel_rfl) (fun _ _ _ h => h) ?hy15 (by rfl) ?rest15
   case hy15 =>
    intro w0
    go_simp
    try with_reducible rfl
   simp only [Act.put, yq0, yq1, yq2, yq3, yq4, yq5]
   refine AnyG.takeW 15 (v := ?vv16) rfl (by kernel_rfl) (by kernel_rfl) (by kernel_rfl) (fun _ _ _ h => h) ?hy16 (by rfl) ?rest16
   case hy16 =>
    intro w0
    go_simp
    try with_reducible rfl
   simp only [Act.put, yq0, yq1, yq2, yq3, yq4, yq5]
   refine AnyG.takeW 16 (v := ?vv17) rfl (by kernel_rfl) (by kernel_rfl) (by kernel_rfl) (fun _ _ _ h => h) ?hy17 (by rfl) ?rest17
   case hy17 =>
    intro w0
    go_simp
    try with_reducible rfl
   simp only [Act.put, yq0, yq1, yq2, yq3, yq4, yq5]
   clear wsum
   refine AnyG.one 17 (by kernel_rfl) rfl ?_
   intro K hK
   have n0 := hS.c3 i i5
   have f0 := hS.frozen (i * 4 + 3)
   go_simp
   refine hK.out _ _ (fun h => absurd (by decide) h) ?_
   clear hK K
   try simp only [Act.put, yq0, yq1, yq2, yq3, yq4, yq5]
   refine AnyG.done (by kernel_rfl) ?_ _
   clear n0 f0
   have HT1 := hide (hS.setLn i (q + 1) i5)
   have HB3 := hide (HB2.out.set (i * 4 + 3) (.int .i64 ((q + 1 : Nat) : Int)))
   clear hS HB2 HH HB
   go_wp2
   exact ⟨⟨i, _, by omega, by go_num, HT1, HB3, HM⟩, by simp only [intOf]; omega⟩
end Go.Proofs.YtcaalcjcpddhaaaGreat.Zz
namespace Go.Proofs.YtcaalcjcpddhaaaGreat.Zz
open Go.RowKit Num Ji Hp
theorem info_th : (Tryz.prog.info? 129).map (fun i => (i.zero, i.size)) = some (some (.agg (tv (fun _ => th0)).toArray), 2044) := by kernel_rfl
theorem alloc_th {ops : Array Oper} {rest : List Oper} {d : Option Tmp} {ty : TypeId} {ps : String} {af : Array Edge} {a : Act} {w : World} {Q : Exit → Act → World → Prop}
  (h : ∀ w1, TH w1 w.heap.size (fun _ => th0) → Below w.heap.size w w1 → w.heap.size < w1.heap.size → wpList Tryz.prog ops Q rest (a.put d (.pointer (some ⟨w.heap.size, 0, none⟩))) w1) :
  wpList Tryz.prog ops Q (⟨d, .alloc 129, ty, ps, af, none⟩ :: rest) a w := by
 refine wpList_plain rfl fun K hK => ?_
 unfold Oper.wp execOp
 have z := (zero_of_info info_th).1
 have nw := h _ (Cel.new w (tv (fun _ => th0)) 129) (below_alloc w _) (by simp)
 refine cast ?_ (hK _ _ nw)
 simp [Instr.alloc, Sem.run_bind, z, newVar, Value.cells, go_sem]
set_option maxHeartbeats 4000000 in
theorem jlen_c (ao : Option Addr) (l : List Int) (cap : Nat) (w : World) (hx : Nd w ao l) (hl : l.length ≤ 1048576) (hw : win l 1048576 = true) :
  Calls Tryz.prog 48 #[.slice ao l.length cap] w fun e w' => LO w (hls l) e w' := by
 obtain ⟨i0, hi, hz0, hz1, hz2⟩ := info_parts info_i64
 have C := hide (jwithin_c ao l cap 1048576 w hx hl)
 rw [hw] at C
 obtain ⟨h256, hbd⟩ := win_len hw
 have HBD := hide hbd
 have HCB : Hid (∀ c, cntOf l c ≤ 1048576) := cntI_le hbd
 have HX := hide hx
 have HL := hide h256
 clear hx hw hbd h256
 go_enter Tryz.func48, Tryz.ntmps48
 go_wp2_with fail
 refine (C.out).mono ?_
 rintro e w1 ⟨rfl, hb1⟩
 go_wp2_with (refine alloc_th ?_)
 intro w2 hT2 hb2 hs2
 have HN : Hid (NdB w1.heap.size w2 ao l) := by
  obtain ⟨b, off, e, hlt, hc⟩ := HX.out (by have := HL.out; omega)
  have h1 := hb1.size
  refine ⟨b, off, e, by omega, by omega, fun i hi => ?_⟩
  have k1 := (hb1.cell (p := ⟨b, off + i, none⟩) hlt).trans (hc i hi)
  exact (hb2.cell (p := ⟨b, off + i, none⟩) (by show b < _; omega)).trans k1
 have HB2 := hide (hb1.trans (hb2.mono hb1.size))
 have hg0 := hb1.size
 have HT2 := hide hT2
 have hgl : w1.heap.size < w2.heap.size := hs2
 clear hb1 hb2 hT2 hs2
 generalize w1.heap.size = g at *
 go_wp2_with fail
 refine (jlay_c g ao l cap w2 HT2.out HL.out HBD.out HN.out).mono ?_
 rintro e w3 ⟨rfl, f3, hT3, hS3, hB3⟩
 have HS3 := hide hS3
 have HT3 := hide hT3
 have HB3 := hide (HB2.out.trans (hB3.below hg0 (by omega)))
 have hn3 : (used (cntOf l) 256).length ≤ 256 := used_len _ _
 clear hT3 hS3 hB3 HB2 HT2 HN hgl
 obtain ⟨n, hn⟩ : ∃ n, Hid (n = (used (cntOf l) 256).length) := ⟨_, rfl⟩
 rw [← hn.out] at HS3 hn3 ⊢
 go_wp2_with fail
 refine (jjoin_c g n (cntOf l) f3 w3 HT3.out HS3.out HCB.out).mono ?_
 rintro e w4 ⟨rfl, f4, hT4, hP4, hB4⟩
 have HP4 := hide hP4
 have HT4 := hide hT4
 have HB4 := hide (HB3.out.trans (hB4.below hg0 (by have := HT3.out.lt; omega)))
 clear hT4 hP4 hB4 HB3 HT3
 have CM : Hid (∀ v : Int, v = (n : Nat) → Calls Tryz.prog 77 #[.pointer (some ⟨g, 0, none⟩), .int .i64 v] w4 fun e w' => e = .returned (.tuple #[]) ∧ SO g w4 (fun F => Lns (cntOf l) n F) w') := by
  intro v hv
  subst hv
  rcases HP4.out with ⟨c1, c2⟩ | ⟨c1, c2, S, hh, c3⟩
  ·refine (jmeas_1 g n f4 w4 HT4.out c1).mono ?_
   rintro e w' ⟨rfl, F, hT, rfl, hB⟩
   exact ⟨rfl, F, hT, by rw [c2]; exact lns_one HS3.out c1, hB⟩
  ·refine (jmeas_2 g n _ f4 S hh w4 HT4.out c1 hn3 c3).mono ?_
   rintro e w' ⟨rfl, F, hT, hM, hB⟩
   exact ⟨rfl, F, hT, hM.done HCB.out HS3.out c1 c2 c3, hB⟩
 have hlt4 := HT4.out.lt
 clear HP4 HT4
 go_wp2_with fail
 refine (CM.out _ rfl).mono ?_
 rintro e w5 ⟨rfl, F, hT5, hL5, hB5⟩
 have HL5 := hide hL5
 have HT5 := hide hT5
 have HB5 := hide (HB4.out.trans (hB5.below hg0 (by omega)))
 have hlt5 : g < w5.heap.size := hT5.lt
 clear hT5 hL5 hB5 HB4 CM HS3 hlt4
 go_wp2_with (at_make; refine wpList_make_full _ rfl _ _ 26 rfl w5.heap.size 3 i0 (.int .i64 0) 1 Tryz.underlying26 hi hz0 hz1 .i64 .i64 _ _ 256 rfl rfl rfl rfl ?b2 ?b3 ?b4 ?_)
 case b2 => rw [hz2]; omega
 case b3 => unfold maxLen; omega
 case b4 => simp
 intro w6 hown hgr
 have B6 := cel_made1 hown
 have hb6 : Below w5.heap.size w5 w6 := (Below.refl _ _).grown hgr (Nat.le_refl _) (fun k h => by cases h)
 have HT6 := hide (HT5.out.kept hb6)
 have HB6 := hide (HB5.out.trans (hb6.mono (by omega)))
 rw [← lnP_zero (cntOf l) F] at B6
 have HC6 := hide B6
 clear hown hgr hb6 hi hz0 hz1 hz2 HT5 HB5 B6
 generalize w5.heap.size = gl at *
 have n511 : (n : Int) ≤ 511 := by omega
 go_wp2
 go_loopw [22] (fun vi wr => ∃ q : Nat, q ≤ n ∧ vi = .int .i64 q ∧ Hid (Cel wr gl (ivh (lnP (cntOf l) F q)) 3) ∧ Hid (TH wr g F) ∧ Hid (Below w.heap.size w wr)) (fun vi _ => n - (intOf vi).toNat)
 case atStart => exact ⟨0, Nat.zero_le _, rfl, HC6, HT6, HB6⟩
 case round =>
  clear HC6 HT6 HB6
  obtain ⟨q, hq, rfl, HC, HT, HB⟩ := hrel
  by_cases hlt : q < n
  ·have hltz : (q : Int) < (n : Int) := by omega
   have t0 := HT.out.c0 q (by omega)
   have t1 := HT.out.c1 q (by omega)
   have t2 := HT.out.c2 q (by omega)
   have t3 := HT.out.c3 q (by omega)
   have hsy := (mem_used.1 (HL5.out.sy q hlt)).1
   have hln := (HL5.out.ln q hlt).2
   have HST := hide (lnP_step HL5.out q hlt)
   have glt : gl < wr.heap.size := HC.out.lt
   have glg : g < gl := hlt5
   have hc0 := HC.out.cell (F q).sy (ivh_get _ _ (by simp [lnP]; omega))
   have hf0 := HC.out.frozen (F q).sy
   have HC1 : Hid (∀ o : Obj, Cel ((wr.setCell ⟨gl, (F q).sy, none⟩ (.int .i64 ((max (F q).ln 1 : Nat) : Int))).alloc o) gl (ivh (lnP (cntOf l) F (q + 1))) 3) := fun o => by
    have := HC.out.set (F q).sy (.int .i64 ((max (F q).ln 1 : Nat) : Int))
    rw [ivh_set, HST.out] at this
    exact this.alloc o
   have HT1 : Hid (∀ (o : Obj) v, TH ((wr.setCell ⟨gl, (F q).sy, none⟩ v).alloc o) g F) := fun o v => (Cel.other (a := ⟨gl, (F q).sy, none⟩) HT.out (by show g ≠ gl; omega) v).alloc o
   have HB1 : Hid (∀ (o : Obj) v, Below w.heap.size w ((wr.setCell ⟨gl, (F q).sy, none⟩ v).alloc o)) := fun o v => (HB.out.setCell (by show w.heap.size ≤ gl; omega) v).alloc (by have := HB.out.size; simpa using this) o
   have hsyz : ((F q).sy : Int) < 256 := by omega
   clear HST HC HT HB
   by_cases hl0 : (F q).ln = 0
   ·rw [hl0] at t3 HC1
    have e1 : ((max 0 1 : Nat) : Int) = 1 := rfl
    rw [e1] at HC1
    clear e1
    clear hln hl0
    generalize (F q).sy = sy at *
    generalize (F q).ct = ct at *
    generalize (F q).it = it at *
    go_wp2
    exact ⟨⟨q + 1, by omega, by go_num, HC1.out _, HT1.out _ _, HB1.out _ _⟩, by simp only [intOf]; omega⟩
   ·have hl1 : max (F q).ln 1 = (F q).ln := by omega
    have hl2 : (1 : Int) ≤ ((F q).ln : Int) := by omega
    rw [hl1] at HC1
    clear hl1
    generalize (F q).ln = ln at *
    generalize (F q).sy = sy at *
    generalize (F q).ct = ct at *
    generalize (F q).it = it at *
    go_wp2
    exact ⟨⟨q + 1, by omega, by go_num, HC1.out _, HT1.out _ _, HB1.out _ _⟩, by simp only [intOf]; omega⟩
  ·obtain rfl : q = n := by omega
   have HC7 : Hid (Cel wr gl (ivh (hls l)) 3) := by
    have := HC.out
    rw [lnP_done HL5.out] at this
    exact this
   clear HC
   go_wp2
   go_ret2
   exact LO.mk gl rfl HC7.out (by omega) HB.out
end Go.Proofs.YtcaalcjcpddhaaaGreat.Zz
namespace Go.Proofs.YtcaalcjcpddhaaaGreat.Zz
open Go.RowKit Num Ji Hp Ka Hr
theorem wr2 (s t : Nat) (hs : s ≤ 140737488355328) (h : 2 ^ t ≤ 549755813888) : IntKind.u64.wrap ((s : Int) + IntKind.u64.wrap (2 ^ t)) = ((s + 2 ^ t : Nat) : Int) := by
 have e : (2 : Int) ^ t = ((2 ^ t : Nat) : Int) := by rw [Int.natCast_pow]; rfl
 rw [e]
 generalize (2 : Nat) ^ t = p at *
 rw [IntKind.wrap_u64, IntKind.wrap_u64]
 omega
set_option maxHeartbeats 4000000 in
theorem jfit_c (ao : Option Addr) (l : List Int) (cap : Nat) (w : World) (hx : Nd w ao l) (hl : l.length = 256) (hb : ∀ i, i < l.length → 0 ≤ gi l i ∧ gi l i ≤ 40) :
  Calls Tryz.prog 78 #[.slice ao l.length cap] w fun e w' => e = .returned (.bool (fitb (cntOf l))) ∧ w' = w := by
 obtain ⟨b, off, rfl, hbw, hcc⟩ := hx (by omega)
 obtain ⟨v, hv⟩ : ∃ v, Hid (v = cntOf l) := ⟨_, rfl⟩
 have HC : Hid (∀ i, i < l.length → gi l i = (v i : Int) ∧ v i ≤ 40) := fun i hi => by
  have := hb i hi
  rw [hv.out]
  unfold cntOf
  omega
 have HCC : Hid (∀ i, i < l.length → w.cell? ⟨b, off + i, none⟩ = some (.int .i64 (v i : Nat))) := fun i hi => by
  rw [← (HC.out i hi).1]; exact hcc i hi
 have HL := hide hl
 have l256 : l.length ≤ 256 := by omega
 rw [← hv.out]
 clear hcc hb hl hx
 go_enter Tryz.func78, Tryz.ntmps78
 go_wp2
 go_loopw [3, 4, 10] (fun vc vs vi wr => ∃ (q c s : Nat), q ≤ l.length ∧ c ≤ q ∧ vi = .int .i64 q ∧ vc = .int .i64 c ∧ vs = .int .u64 s ∧ Hid (c = (used v q).length ∧ s = need v (fun _ => true) q) ∧ wr = w) (fun _ _ vi _ => l.length - (intOf vi).toNat)
 case atStart => exact ⟨0, 0, 0, by omega, by omega, rfl, rfl, rfl, ⟨rfl, rfl⟩, rfl⟩
 case round =>
  obtain ⟨q, c, s, hq, hcq, rfl, rfl, rfl, HI, hw⟩ := hrel
  subst hw
  have hs5 : s ≤ 140737488355328 := by
   have e := HI.out.2
   have e2 := need_le v q
   have : q * 549755813888 ≤ 256 * 549755813888 := Nat.mul_le_mul_right _ (by omega)
   omega
  by_cases hlt : q < l.length
  ·have hltz : (q : Int) < (l.length : Int) := by omega
   obtain ⟨_, hv2⟩ := HC.out q hlt
   have c1 := HCC.out q hlt
   by_cases hp : 0 < v q
   ·have hpz : (0 : Int) < (v q : Int) := by omega
    have hpw := pow39 (v q) hp
    have HI1 : Hid (c + 1 = (used v (q + 1)).length ∧ s + 2 ^ (40 - v q) = need v (fun _ => true) (q + 1)) := by
     refine ⟨by rw [used_more, if_pos hp, HI.out.1], ?_⟩
     rw [need, if_pos ⟨hp, rfl⟩, HI.out.2]
    obtain ⟨t, ht⟩ : ∃ t : Nat, t = 40 - v q := ⟨_, rfl⟩
    have tz : (40 : Int) - (v q : Int) = (t : Int) := by omega
    have t40 : t ≤ 39 := by omega
    rw [← ht] at hpw HI1
    clear ht
    generalize v q = x at *
    go_wp2
    exact ⟨⟨q + 1, c + 1, s + 2 ^ t, by omega, by omega, by go_num, by go_num, by rw [wr2 s t hs5 hpw], HI1, trivial⟩, by simp only [intOf]; omega⟩
   ·have hpz : ¬ (0 : Int) < (v q : Int) := by omega
    have HI1 : Hid (c = (used v (q + 1)).length ∧ s = need v (fun _ => true) (q + 1)) := by
     refine ⟨by rw [used_more, if_neg hp, HI.out.1]; rfl, ?_⟩
     rw [need, if_neg (fun e => hp e.1), HI.out.2]
     rfl
    generalize v q = x at *
    go_wp2
    exact ⟨⟨q + 1, c, s, by omega, by omega, by go_num, rfl, rfl, HI1, trivial⟩, by simp only [intOf]; omega⟩
  ·obtain rfl : q = l.length := by omega
   have HF : Hid (fitb v = (decide (s = 1099511627776) || (decide (c = 1) && decide (s = 549755813888)) || decide (c = 0))) := by
    have e := HI.out
    rw [HL.out] at e
    show fitb v = _
    unfold fitb
    rw [← e.1, ← e.2]
   clear HI HC HCC HL
   by_cases k1 : c = 1
   ·have k1z : ((c : Int) == 1) = true := by simp; omega
    have k0z : ((c : Int) == 0) = false := by simp; omega
    by_cases k2 : s = 1099511627776
    ·have k2z : ((s : Int) == 1099511627776) = true := by simp; omega
     go_wp2
     go_ret
     rw [HF.out]
     exact ⟨by simp [k1, k2], rfl⟩
    ·have k2z : ((s : Int) == 1099511627776) = false := by simp; omega
     by_cases k3 : s = 549755813888
     ·have k3z : ((s : Int) == 549755813888) = true := by simp; omega
      go_wp2
      go_ret
      rw [HF.out]
      exact ⟨by simp [k1, k2, k3], rfl⟩
     ·have k3z : ((s : Int) == 549755813888) = false := by simp; omega
      go_wp2
      go_ret
      rw [HF.out]
      exact ⟨by simp [k1, k2, k3], rfl⟩
   ·have k1z : ((c : Int) == 1) = false := by simp; omega
    by_cases k2 : s = 1099511627776
    ·have k2z : ((s : Int) == 1099511627776) = true := by simp; omega
     go_wp2
     go_ret
     rw [HF.out]
     exact ⟨by simp [k1, k2], rfl⟩
    ·have k2z : ((s : Int) == 1099511627776) = false := by simp; omega
     by_cases k4 : c = 0
     ·have k4z : ((c : Int) == 0) = true := by simp; omega
      go_wp2
      go_ret
      rw [HF.out]
      exact ⟨by simp [k2, k4], rfl⟩
     ·have k4z : ((c : Int) == 0) = false := by simp; omega
      go_wp2
      go_ret
      rw [HF.out]
      exact ⟨by simp [k1, k2, k4], rfl⟩
end Go.Proofs.YtcaalcjcpddhaaaGreat.Zz
