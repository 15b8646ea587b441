/-
  The contracts of the landed Bits and Steps. The landed slices.Values of offers, and what an offer costs.
-/
import Derived.Test.YtckkhmmicbpihaaM36
import Derived.Test.YtckkhmmicbpihaaM18
namespace Go.Proofs.Ytckkhmmicbpihaa
open Go.RowKit Num Hp
set_option linter.unusedVariables false
set_option linter.unusedSimpArgs false
set_option maxRecDepth 100000

set_option maxHeartbeats 4000000 in
theorem pbits_c (s i g k m : Int) (ao : Option Addr) (l : List Int) (cap : Nat) (w : World) (hx : Nd w ao l) (hl : l.length ≤ 1048576) :
    Calls Try.prog 10 #[.agg #[.int .i64 s, .int .i64 i, .int .i64 g, .int .i64 k, .int .i64 m], .slice ao l.length cap] w fun e w' => e = .returned (.int .i64 (Pn.bitsN (s, i, g, k, m) l : Nat)) ∧ Below w.heap.size w w' := by
  obtain ⟨W, hW⟩ : ∃ W, W = w.alloc (.cells #[.int .i64 s, .int .i64 i, .int .i64 g, .int .i64 k, .int .i64 m] 23) := ⟨_, rfl⟩
  have HbW := hide (show Below w.heap.size w W by rw [hW]; exact below_alloc w _)
  have HC := hide (show Cel W w.heap.size [.int .i64 s, .int .i64 i, .int .i64 g, .int .i64 k, .int .i64 m] 23 by rw [hW]; exact Cel.new w _ _)
  have K1 := hide fun w0 => kcheck_c s i g k m w0
  cases hT : Pn.okT l with
  | false =>
    have E : Hid (Pn.bitsN (s, i, g, k, m) l = 0) := by show _ = _; unfold Pn.bitsN; rw [hT, Bool.false_and, if_neg (by decide)]
    have T1 : Hid (∀ w0, Below w.heap.size w w0 → Calls Try.prog 20 #[.slice ao l.length cap] w0 fun e w' => e = .returned (.tuple #[.agg #[.int .i64 0, .slice none 0 0, .slice none 0 0, .int .i64 0], .bool false]) ∧ Below w0.heap.size w0 w') := fun w0 h => ptext_bad ao l cap w0 (hx.keep h) hl hT
    rw [E.out]
    clear hT hx hl HC K1 E
    go_enter Try.func10, Try.ntmps10
    go_wp2_with fail
    rw [← hW]
    refine (T1.out _ HbW.out).mono ?_
    rintro _ w1 ⟨rfl, hb⟩
    have HB := hide ((HbW.out.trans (hb.mono HbW.out.size)).trans ((below_alloc w1 (.cells #[.int .i64 0, .slice none 0 0, .slice none 0 0, .int .i64 0] 44)).mono (HbW.out.trans (hb.mono HbW.out.size)).size))
    clear hW hb
    go_wp2
    go_ret
    exact ⟨rfl, HB.out⟩
  | true =>
    obtain ⟨hw, ht⟩ := Pn.okT_parts hT
    have T1 : Hid (∀ w0, Below w.heap.size w w0 → Calls Try.prog 20 #[.slice ao l.length cap] w0 fun e w' => ∃ gl an mn cn, e = .returned (.tuple #[.agg #[.int .i64 (Hv.tot (cntOf l) 256 : Nat), .slice (some ⟨gl, 0, none⟩) 8 8, .slice an mn cn, .int .i64 (Pn.dpt l : Nat)], .bool true]) ∧ Pn.TX w' l gl an mn cn ∧ Below w0.heap.size w0 w') := fun w0 h => ptext_c ao l cap w0 (hx.keep h) hl hT
    have dl : Pn.dpt l ≤ 327680 := Pn.shp_le 2 hw ht
    have HD : Hid (Pn.dpt l = Pn.shp 2 l (Hv.tot (cntOf l) 256)) := rfl
    obtain ⟨n, hn⟩ : ∃ n, Hid (n = Hv.tot (cntOf l) 256) := ⟨_, rfl⟩
    rw [← hn.out] at T1 HD ht
    generalize Pn.dpt l = D at *
    cases hZ : Co.okZ (s, i, g, k, m) with
    | false =>
      have E : Hid (Pn.bitsN (s, i, g, k, m) l = 0) := by show _ = _; unfold Pn.bitsN; rw [hZ, Bool.and_false, if_neg (by decide)]
      rw [hZ] at K1
      rw [E.out]
      clear hT hx hl hZ hw E HD
      go_enter Try.func10, Try.ntmps10
      go_wp2_with fail
      rw [← hW]
      refine (T1.out _ HbW.out).mono ?_
      rintro _ w1 ⟨gl, an, mn, cn, rfl, _, hb⟩
      have HB := hide ((HbW.out.trans (hb.mono HbW.out.size)).trans ((below_alloc w1 (.cells #[.int .i64 (n : Int), .slice (some ⟨gl, 0, none⟩) 8 8, .slice an mn cn, .int .i64 (D : Int)] 44)).mono (HbW.out.trans (hb.mono HbW.out.size)).size))
      have HC2 := hide ((HC.out.kept hb).alloc (.cells #[.int .i64 (n : Int), .slice (some ⟨gl, 0, none⟩) 8 8, .slice an mn cn, .int .i64 (D : Int)] 44))
      clear hW hb HC
      have d0 := HC2.out.cell 0 rfl
      have d1 := HC2.out.cell 1 rfl
      have d2 := HC2.out.cell 2 rfl
      have d3 := HC2.out.cell 3 rfl
      have d4 := HC2.out.cell 4 rfl
      go_wp2_with fail
      refine (K1.out _).mono ?_
      rintro _ w2 ⟨rfl, hb2⟩
      have HB2 := hide (HB.out.trans (hb2.mono HB.out.size))
      clear hb2 d0 d1 d2 d3 d4 HC2
      go_wp2
      go_ret
      exact ⟨rfl, HB2.out⟩
    | true =>
      have hc := Pn.CfI.of hZ
      obtain ⟨M, rfl, m1, m2⟩ := hc.m1
      have E : Hid (Pn.bitsN (s, i, g, k, (M : Int)) l = Pn.btN s i g k l n M) := by
        show _ = _
        unfold Pn.bitsN
        rw [hT, hZ, if_pos (by decide), Int.toNat_natCast, ← hn.out]
      rw [hZ] at K1
      have C1 : Hid (∀ gl an mn cn w0, Pn.TX w0 l gl an mn cn → Calls Try.prog 23 #[.agg #[.int .i64 (n : Nat), .slice (some ⟨gl, 0, none⟩) 8 8, .slice an mn cn, .int .i64 (D : Nat)], .agg #[.int .i64 s, .int .i64 i, .int .i64 g, .int .i64 k, .int .i64 (M : Nat)]] w0 fun e w' => e = .returned (.int .i64 (Pn.btN s i g k l n M : Nat)) ∧ Below w0.heap.size w0 w') := fun gl an mn cn w0 h => pbitsT_c s i g k M hc l hT n gl hn an mn cn D w0 m1 m2 h
      rw [E.out]
      generalize Pn.btN s i g k l n M = y at *
      clear hT hx hl hZ hw E HD hc hn
      go_enter Try.func10, Try.ntmps10
      go_wp2_with fail
      rw [← hW]
      refine (T1.out _ HbW.out).mono ?_
      rintro _ w1 ⟨gl, an, mn, cn, rfl, htx, hb⟩
      have HB := hide ((HbW.out.trans (hb.mono HbW.out.size)).trans ((below_alloc w1 (.cells #[.int .i64 (n : Int), .slice (some ⟨gl, 0, none⟩) 8 8, .slice an mn cn, .int .i64 (D : Int)] 44)).mono (HbW.out.trans (hb.mono HbW.out.size)).size))
      have HC2 := hide ((HC.out.kept hb).alloc (.cells #[.int .i64 (n : Int), .slice (some ⟨gl, 0, none⟩) 8 8, .slice an mn cn, .int .i64 (D : Int)] 44))
      have HTX := hide (htx.keep (below_alloc w1 (.cells #[.int .i64 (n : Int), .slice (some ⟨gl, 0, none⟩) 8 8, .slice an mn cn, .int .i64 (D : Int)] 44)))
      have HT2 := hide (Cel.new w1 [.int .i64 (n : Int), .slice (some ⟨gl, 0, none⟩) 8 8, .slice an mn cn, .int .i64 (D : Int)] 44)
      clear hW hb HC htx
      have d0 := HC2.out.cell 0 rfl
      have d1 := HC2.out.cell 1 rfl
      have d2 := HC2.out.cell 2 rfl
      have d3 := HC2.out.cell 3 rfl
      have d4 := HC2.out.cell 4 rfl
      go_wp2_with fail
      refine (K1.out _).mono ?_
      rintro _ w2 ⟨rfl, hb2⟩
      have HB2 := hide (HB.out.trans (hb2.mono HB.out.size))
      have HC3 := hide (HC2.out.kept hb2)
      have HT3 := hide (HT2.out.kept hb2)
      have HX3 := hide (HTX.out.keep hb2)
      clear hb2 d0 d1 d2 d3 d4 HC2 HT2 HTX HB
      have d0 := HC3.out.cell 0 rfl
      have d1 := HC3.out.cell 1 rfl
      have d2 := HC3.out.cell 2 rfl
      have d3 := HC3.out.cell 3 rfl
      have d4 := HC3.out.cell 4 rfl
      have t0 := HT3.out.cell 0 rfl
      have t1 := HT3.out.cell 1 rfl
      have t2 := HT3.out.cell 2 rfl
      have t3 := HT3.out.cell 3 rfl
      go_wp2_with fail
      refine (C1.out gl an mn cn _ HX3.out).mono ?_
      rintro _ w3 ⟨rfl, hb3⟩
      have HB3 := hide (HB2.out.trans (hb3.mono HB2.out.size))
      clear hb3 d0 d1 d2 d3 d4 t0 t1 t2 t3
      go_wp2
      go_ret
      exact ⟨rfl, HB3.out⟩
set_option maxHeartbeats 4000000 in
theorem psteps_c (s i g k m : Int) (ao : Option Addr) (l : List Int) (cap : Nat) (w : World) (hx : Nd w ao l) (hl : l.length ≤ 1048576) :
    Calls Try.prog 9 #[.agg #[.int .i64 s, .int .i64 i, .int .i64 g, .int .i64 k, .int .i64 m], .slice ao l.length cap] w fun e w' => e = .returned (.int .i64 (Pn.stpN (s, i, g, k, m) l : Nat)) ∧ Below w.heap.size w w' := by
  obtain ⟨W, hW⟩ : ∃ W, W = w.alloc (.cells #[.int .i64 s, .int .i64 i, .int .i64 g, .int .i64 k, .int .i64 m] 23) := ⟨_, rfl⟩
  have HbW := hide (show Below w.heap.size w W by rw [hW]; exact below_alloc w _)
  have HC := hide (show Cel W w.heap.size [.int .i64 s, .int .i64 i, .int .i64 g, .int .i64 k, .int .i64 m] 23 by rw [hW]; exact Cel.new w _ _)
  have K1 := hide fun w0 => kcheck_c s i g k m w0
  cases hT : Pn.okT l with
  | false =>
    have E : Hid (Pn.stpN (s, i, g, k, m) l = 0) := by show _ = _; unfold Pn.stpN; rw [hT, Bool.false_and, if_neg (by decide)]
    have T1 : Hid (∀ w0, Below w.heap.size w w0 → Calls Try.prog 20 #[.slice ao l.length cap] w0 fun e w' => e = .returned (.tuple #[.agg #[.int .i64 0, .slice none 0 0, .slice none 0 0, .int .i64 0], .bool false]) ∧ Below w0.heap.size w0 w') := fun w0 h => ptext_bad ao l cap w0 (hx.keep h) hl hT
    rw [E.out]
    clear hT hx hl HC K1 E
    go_enter Try.func9, Try.ntmps9
    go_wp2_with fail
    rw [← hW]
    refine (T1.out _ HbW.out).mono ?_
    rintro _ w1 ⟨rfl, hb⟩
    have HB := hide ((HbW.out.trans (hb.mono HbW.out.size)).trans ((below_alloc w1 (.cells #[.int .i64 0, .slice none 0 0, .slice none 0 0, .int .i64 0] 44)).mono (HbW.out.trans (hb.mono HbW.out.size)).size))
    clear hW hb
    go_wp2
    go_ret
    exact ⟨rfl, HB.out⟩
  | true =>
    obtain ⟨hw, ht⟩ := Pn.okT_parts hT
    have T1 : Hid (∀ w0, Below w.heap.size w w0 → Calls Try.prog 20 #[.slice ao l.length cap] w0 fun e w' => ∃ gl an mn cn, e = .returned (.tuple #[.agg #[.int .i64 (Hv.tot (cntOf l) 256 : Nat), .slice (some ⟨gl, 0, none⟩) 8 8, .slice an mn cn, .int .i64 (Pn.dpt l : Nat)], .bool true]) ∧ Pn.TX w' l gl an mn cn ∧ Below w0.heap.size w0 w') := fun w0 h => ptext_c ao l cap w0 (hx.keep h) hl hT
    have dl : Pn.dpt l ≤ 327680 := Pn.shp_le 2 hw ht
    have HD : Hid (Pn.dpt l = Pn.shp 2 l (Hv.tot (cntOf l) 256)) := rfl
    obtain ⟨n, hn⟩ : ∃ n, Hid (n = Hv.tot (cntOf l) 256) := ⟨_, rfl⟩
    rw [← hn.out] at T1 HD ht
    generalize Pn.dpt l = D at *
    cases hZ : Co.okZ (s, i, g, k, m) with
    | false =>
      have E : Hid (Pn.stpN (s, i, g, k, m) l = 0) := by show _ = _; unfold Pn.stpN; rw [hZ, Bool.and_false, if_neg (by decide)]
      rw [hZ] at K1
      rw [E.out]
      clear hT hx hl hZ hw E HD
      go_enter Try.func9, Try.ntmps9
      go_wp2_with fail
      rw [← hW]
      refine (T1.out _ HbW.out).mono ?_
      rintro _ w1 ⟨gl, an, mn, cn, rfl, _, hb⟩
      have HB := hide ((HbW.out.trans (hb.mono HbW.out.size)).trans ((below_alloc w1 (.cells #[.int .i64 (n : Int), .slice (some ⟨gl, 0, none⟩) 8 8, .slice an mn cn, .int .i64 (D : Int)] 44)).mono (HbW.out.trans (hb.mono HbW.out.size)).size))
      have HC2 := hide ((HC.out.kept hb).alloc (.cells #[.int .i64 (n : Int), .slice (some ⟨gl, 0, none⟩) 8 8, .slice an mn cn, .int .i64 (D : Int)] 44))
      clear hW hb HC
      have d0 := HC2.out.cell 0 rfl
      have d1 := HC2.out.cell 1 rfl
      have d2 := HC2.out.cell 2 rfl
      have d3 := HC2.out.cell 3 rfl
      have d4 := HC2.out.cell 4 rfl
      go_wp2_with fail
      refine (K1.out _).mono ?_
      rintro _ w2 ⟨rfl, hb2⟩
      have HB2 := hide (HB.out.trans (hb2.mono HB.out.size))
      clear hb2 d0 d1 d2 d3 d4 HC2
      go_wp2
      go_ret
      exact ⟨rfl, HB2.out⟩
    | true =>
      have hc := Pn.CfI.of hZ
      obtain ⟨M, rfl, m1, m2⟩ := hc.m1
      have E : Hid (Pn.stpN (s, i, g, k, (M : Int)) l = (if s = 4 then 1 + Pn.ss i D else Pn.ss s D) * Pn.fac k * M) := by
        show _ = _
        unfold Pn.stpN
        rw [hT, hZ, if_pos (by decide), Int.toNat_natCast, ← hn.out]
        rw [Pn.shS_ss s i l n D HD.out]
      rw [hZ] at K1
      have C1 : Hid (∀ gl an mn cn w0, Pn.TX w0 l gl an mn cn → Calls Try.prog 22 #[.agg #[.int .i64 (n : Nat), .slice (some ⟨gl, 0, none⟩) 8 8, .slice an mn cn, .int .i64 (D : Nat)], .agg #[.int .i64 s, .int .i64 i, .int .i64 g, .int .i64 k, .int .i64 (M : Nat)]] w0 fun e w' => e = .returned (.int .i64 ((if s = 4 then 1 + Pn.ss i D else Pn.ss s D) * Pn.fac k * M : Nat)) ∧ Below w0.heap.size w0 w') := fun gl an mn cn w0 h => pstepsT_c s i g k M n gl an mn cn D w0 hc.k1 hc.k3 m2 dl
      rw [E.out]
      generalize (if s = 4 then 1 + Pn.ss i D else Pn.ss s D) * Pn.fac k * M = y at *
      clear hT hx hl hZ hw E HD hc hn
      go_enter Try.func9, Try.ntmps9
      go_wp2_with fail
      rw [← hW]
      refine (T1.out _ HbW.out).mono ?_
      rintro _ w1 ⟨gl, an, mn, cn, rfl, htx, hb⟩
      have HB := hide ((HbW.out.trans (hb.mono HbW.out.size)).trans ((below_alloc w1 (.cells #[.int .i64 (n : Int), .slice (some ⟨gl, 0, none⟩) 8 8, .slice an mn cn, .int .i64 (D : Int)] 44)).mono (HbW.out.trans (hb.mono HbW.out.size)).size))
      have HC2 := hide ((HC.out.kept hb).alloc (.cells #[.int .i64 (n : Int), .slice (some ⟨gl, 0, none⟩) 8 8, .slice an mn cn, .int .i64 (D : Int)] 44))
      have HTX := hide (htx.keep (below_alloc w1 (.cells #[.int .i64 (n : Int), .slice (some ⟨gl, 0, none⟩) 8 8, .slice an mn cn, .int .i64 (D : Int)] 44)))
      have HT2 := hide (Cel.new w1 [.int .i64 (n : Int), .slice (some ⟨gl, 0, none⟩) 8 8, .slice an mn cn, .int .i64 (D : Int)] 44)
      clear hW hb HC htx
      have d0 := HC2.out.cell 0 rfl
      have d1 := HC2.out.cell 1 rfl
      have d2 := HC2.out.cell 2 rfl
      have d3 := HC2.out.cell 3 rfl
      have d4 := HC2.out.cell 4 rfl
      go_wp2_with fail
      refine (K1.out _).mono ?_
      rintro _ w2 ⟨rfl, hb2⟩
      have HB2 := hide (HB.out.trans (hb2.mono HB.out.size))
      have HC3 := hide (HC2.out.kept hb2)
      have HT3 := hide (HT2.out.kept hb2)
      have HX3 := hide (HTX.out.keep hb2)
      clear hb2 d0 d1 d2 d3 d4 HC2 HT2 HTX HB
      have d0 := HC3.out.cell 0 rfl
      have d1 := HC3.out.cell 1 rfl
      have d2 := HC3.out.cell 2 rfl
      have d3 := HC3.out.cell 3 rfl
      have d4 := HC3.out.cell 4 rfl
      have t0 := HT3.out.cell 0 rfl
      have t1 := HT3.out.cell 1 rfl
      have t2 := HT3.out.cell 2 rfl
      have t3 := HT3.out.cell 3 rfl
      go_wp2_with fail
      refine (C1.out gl an mn cn _ HX3.out).mono ?_
      rintro _ w3 ⟨rfl, hb3⟩
      have HB3 := hide (HB2.out.trans (hb3.mono HB2.out.size))
      clear hb3 d0 d1 d2 d3 d4 t0 t1 t2 t3
      go_wp2
      go_ret
      exact ⟨rfl, HB3.out⟩
end Go.Proofs.Ytckkhmmicbpihaa

namespace Go.Proofs.Ytckkhmmicbpihaa
open Go.RowKit Go.Shelf Num
set_option linter.unusedVariables false
set_option linter.unusedSimpArgs false
set_option maxRecDepth 100000
attribute [local go_sem] Oper.semAt_some

/-- m structs of nine cells, one behind the other. -/
def OFs (w : World) (g m : Nat) (f : Nat → List Value) : Prop := g < w.heap.size ∧ ∀ q, q < m → ∀ u x, (f q)[u]? = some x → w.cell? ⟨g, q * 9 + u, none⟩ = some x
theorem Kept.ofs {K : Nat → Prop} {W W' : World} {g m : Nat} {f : Nat → List Value} (h : Kept K W W') (ho : OFs W g m f) (hK : K g) : OFs W' g m f :=
  ⟨Nat.lt_of_lt_of_le ho.1 h.size, fun q hq u x hx => (World.cell?_of_block (w := W) (h.same g hK ho.1)).trans (ho.2 q hq u x hx)⟩
theorem OFs.kept {w w' : World} {g m : Nat} {f : Nat → List Value} (ho : OFs w g m f) (h : Below w.heap.size w w') : OFs w' g m f := (Kept.of (K := fun _ => True) h).ofs ho trivial
def ofc (Z : Nat → Co.Zf) (b st : Nat → Nat) (wb ws q : Nat) : List Value := [.int .i64 (Z q).1, .int .i64 (Z q).2.1, .int .i64 (Z q).2.2.1, .int .i64 (Z q).2.2.2.1, .int .i64 (Z q).2.2.2.2, .int .i64 (b q : Nat), .int .i64 (st q : Nat), .int .i64 (wb : Nat), .int .i64 (ws : Nat)]
set_option maxHeartbeats 4000000 in
theorem vals1_goes (gB g m cap : Nat) (Z : Nat → Co.Zf) (b st : Nat → Nat) (wb ws : Nat) (hm : m ≤ 378) (K : Nat → Prop) (w : World) (hc : Cel w gB [.slice (some ⟨g, 0, none⟩) m cap] 61) (ho : OFs w g m (ofc Z b st wb ws)) (hK : K gB) (hKg : K g) :
    Goes Try.prog 56 #[.pointer (some ⟨gB, 0, none⟩)] m (fun q => #[.agg #[.int .i64 (Z q).1, .int .i64 (Z q).2.1, .int .i64 (Z q).2.2.1, .int .i64 (Z q).2.2.2.1, .int .i64 (Z q).2.2.2.2, .int .i64 (b q : Nat), .int .i64 (st q : Nat), .int .i64 (wb : Nat), .int .i64 (ws : Nat)]]) K w := by
  intro l J Jx W hW hKW hJ hJx hY h0
  refine (callsIn_wide (n := 0)).1 (callsIn_of_wp Try.func56 rfl trivial ?_)
  simp only [Try.ntmps56, List.size_toArray, List.length_cons, List.length_nil, Nat.reduceAdd, Nat.reduceSub, Array.replicate_succ, Array.replicate_zero, List.push_toArray, List.append_toArray, List.nil_append, List.cons_append]
  replace hc := hc.kept hW
  have HO := hide (ho.kept hW)
  have c0 := hc.cell 0 rfl
  clear hc ho
  gi_wp2
  clear c0
  gi_loopw [7] (fun iv wr => ∃ q : Nat, q ≤ m ∧ iv = .int .i64 (q : Nat) ∧ Hid (J q wr) ∧ Hid (OFs wr g m (ofc Z b st wb ws)) ∧ W.heap.size ≤ wr.heap.size) (fun k _ => m - (intOf k).toNat)
  case atStart => exact ⟨0, Nat.zero_le _, rfl, h0, HO, Nat.le_refl _⟩
  case round =>
    clear HO
    obtain ⟨q, hq, rfl, HJ, HO, hz⟩ := hrel
    by_cases hlt : q < m
    · have hltz : (q : Int) < (m : Int) := by omega
      obtain ⟨WA, hWA⟩ : ∃ WA, Hid (WA = wr.alloc (.cells #[.int .i64 (Z q).1, .int .i64 (Z q).2.1, .int .i64 (Z q).2.2.1, .int .i64 (Z q).2.2.2.1, .int .i64 (Z q).2.2.2.2, .int .i64 (b q : Nat), .int .i64 (st q : Nat), .int .i64 (wb : Nat), .int .i64 (ws : Nat)] 56)) := ⟨_, rfl⟩
      have HAB : Hid (Below wr.heap.size wr WA) := by show Below _ _ _; rw [hWA.out]; exact below_alloc wr _
      have HOA := hide (HO.out.kept HAB.out)
      have hzA : W.heap.size ≤ WA.heap.size := Nat.le_trans hz HAB.out.size
      have Y := hY q WA hlt (hJ q wr WA HJ.out (HAB.out.mono hz)) hzA
      have e0 : wr.cell? ⟨g, q * 9, none⟩ = some _ := HO.out.2 q hlt 0 _ rfl
      have e1 : wr.cell? ⟨g, q * 9 + 1, none⟩ = some _ := HO.out.2 q hlt 1 _ rfl
      have e2 : wr.cell? ⟨g, q * 9 + 2, none⟩ = some _ := HO.out.2 q hlt 2 _ rfl
      have e3 : wr.cell? ⟨g, q * 9 + 3, none⟩ = some _ := HO.out.2 q hlt 3 _ rfl
      have e4 : wr.cell? ⟨g, q * 9 + 4, none⟩ = some _ := HO.out.2 q hlt 4 _ rfl
      have e5 : wr.cell? ⟨g, q * 9 + 5, none⟩ = some _ := HO.out.2 q hlt 5 _ rfl
      have e6 : wr.cell? ⟨g, q * 9 + 6, none⟩ = some _ := HO.out.2 q hlt 6 _ rfl
      have e7 : wr.cell? ⟨g, q * 9 + 7, none⟩ = some _ := HO.out.2 q hlt 7 _ rfl
      have e8 : wr.cell? ⟨g, q * 9 + 8, none⟩ = some _ := HO.out.2 q hlt 8 _ rfl
      obtain ⟨fn, tmps, assign, body, hy, hR⟩ := Y
      have HLT := hide hlt
      rw [hWA.out] at hy
      gi_wp2_with fail
      rw [← hWA.out] at hy ⊢
      refine ⟨rfl, hR.mono ?_⟩
      rintro e W3 ⟨hkp, ⟨rfl, hJ3⟩ | ⟨rfl, hJx3⟩⟩
      · have HJ3 : Hid (J (q + 1) W3) := hJ3
        have HO3 := hide (hkp.ofs HOA.out hKg)
        have hz3 := Nat.le_trans hzA hkp.size
        clear hJ3 hkp HJ HO HOA HAB hWA hY hJ hJx e0 e1 e2 e3 e4 e5 e6 e7 e8
        gi_wp2
        exact ⟨⟨q + 1, by omega, by go_num, HJ3, HO3, hz3⟩, by simp only [intOf]; omega⟩
      · have HF : Hid (∃ q, q < m ∧ Jx q W3) := ⟨q, HLT.out, hJx3⟩
        clear hJx3 hkp HJ HO HOA HAB hWA hY hJ hJx e0 e1 e2 e3 e4 e5 e6 e7 e8
        gi_wp2
        refine bodyPost_ret (results_none rfl _ _ _) rfl ?_
        exact ⟨⟨_, rfl⟩, .inr HF.out⟩
    · obtain rfl : q = m := by omega
      have HJ3 := hide HJ.out
      clear HJ HO hY hJ hJx
      gi_wp2
      refine bodyPost_end (results_none rfl _ _ _) rfl ?_
      exact ⟨⟨_, rfl⟩, .inl HJ3.out⟩
theorem pvals_c (a : Option Addr) (m cap : Nat) (w : World) :
    Calls Try.prog 34 #[.slice a m cap] w fun e w' => e = .returned (.func (.func 56) #[] #[.pointer (some ⟨w.heap.size, 0, none⟩)]) ∧ Cel w' w.heap.size [.slice a m cap] 61 ∧ Below w.heap.size w w' := by
  have C := hide (Cel.new w [.slice a m cap] 61)
  have B := hide (below_alloc w (.cells #[.slice a m cap] 61))
  go_enter Try.func34, Try.ntmps34
  go_wp2
  go_ret
  exact ⟨rfl, C.out, B.out⟩
set_option maxHeartbeats 2000000 in
theorem pcost_c (z1 z2 z3 z4 z5 : Int) (b st wb ws : Nat) (hb : b ≤ 1700001000000) (hs : st ≤ 83886336) (hwb : wb ≤ 65536) (hws : ws ≤ 65536) (w : World) :
    Calls Try.prog 36 #[.agg #[.int .i64 z1, .int .i64 z2, .int .i64 z3, .int .i64 z4, .int .i64 z5, .int .i64 (b : Nat), .int .i64 (st : Nat), .int .i64 (wb : Nat), .int .i64 (ws : Nat)]] w fun e w' => e = .returned (.int .i64 (b * wb + st * ws : Nat)) ∧ Below w.heap.size w w' := by
  have B := hide (below_alloc w (.cells #[.int .i64 z1, .int .i64 z2, .int .i64 z3, .int .i64 z4, .int .i64 z5, .int .i64 (b : Nat), .int .i64 (st : Nat), .int .i64 (wb : Nat), .int .i64 (ws : Nat)] 56))
  have p1 := Nat.mul_le_mul hb hwb
  have p2 := Nat.mul_le_mul hs hws
  have e1 : (b : Int) * (wb : Int) = ((b * wb : Nat) : Int) := by rw [Int.natCast_mul]
  have e2 : (st : Int) * (ws : Int) = ((st * ws : Nat) : Int) := by rw [Int.natCast_mul]
  generalize b * wb = P1 at *
  generalize st * ws = P2 at *
  go_enter Try.func36, Try.ntmps36
  go_wp2
  go_ret
  exact ⟨by go_num, B.out⟩
end Go.Proofs.Ytckkhmmicbpihaa
