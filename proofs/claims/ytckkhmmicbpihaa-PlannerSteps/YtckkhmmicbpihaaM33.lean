/-
  The contract of the document's Steps. The contracts of the landed upTo, worst, blockOf.
-/
import Derived.Test.YtckkhmmicbpihaaM16
import Derived.Test.YtckkhmmicbpihaaM17
namespace Go.Proofs.Ytckkhmmicbpihaa
open Go.RowKit Num Hp
set_option linter.unusedVariables false
set_option linter.unusedSimpArgs false
set_option maxRecDepth 100000

section
variable {P : Program} {ops : Array Oper} {Q : Exit → Act → World → Prop} {md : Region.Mode} {S E : World → Prop}
/-- From here on more is held of the world. -/
theorem AnyG.moreP : ∀ f l a w, S w → E w → AnyG P md ops Q (fun w => S w ∧ E w) [] f l a w → AnyG P md ops Q S [] f l a w
  | 0, _, _, _, _, _, h => h
  | f + 1, _, _, _, hs, he, h => ⟨h.1, fun i hi => wpOp_mono (fun a' w' h' => ⟨fun _ _ => (h'.1 (by simp) ⟨hs, he⟩).1, AnyG.moreP f _ a' w' (h'.1 (by simp) ⟨hs, he⟩).1 (h'.1 (by simp) ⟨hs, he⟩).2 h'.2⟩) (h.2 i hi)⟩
end
namespace Pn
def fac (k : Int) : Nat := if k = 1 then 1 else if k = 2 then 4 else 3
def shS (s i : Int) (l : List Int) (n : Nat) : Nat := if s = 4 then 1 + shp i l n else shp s l n
/-- What an answer costs. -/
def stpN (z : Co.Zf) (l : List Int) : Nat := if (okT l && Co.okZ z) = true then shS z.1 z.2.1 l (Hv.tot (cntOf l) 256) * fac z.2.2.2.1 * z.2.2.2.2.toNat else 0
theorem shS_le (s i : Int) {l : List Int} {n : Nat} (hw : win l 8192 = true) (ht : Hv.tot (cntOf l) 256 ≤ 8192) : shS s i l n ≤ 327681 := by
  have h1 := shp_le s (n := n) hw ht
  have h2 := shp_le i (n := n) hw ht
  unfold shS
  split <;> omega
theorem fac_le (k : Int) : fac k ≤ 4 := by
  unfold fac
  split
  · omega
  · split <;> omega
theorem fac_get {K : Nat} (h : K < 3) : [Value.int .i64 1, .int .i64 4, .int .i64 3][K]? = some (.int .i64 (fac ((K : Int) + 1) : Nat)) := by
  obtain rfl | rfl | rfl : K = 0 ∨ K = 1 ∨ K = 2 := by omega
  · rfl
  · rfl
  · rfl
end Pn
set_option maxHeartbeats 8000000 in
theorem rsteps_c (s i g k m : Int) (ao : Option Addr) (l : List Int) (cap : Nat) (w : World) (hx : Nd w ao l) (hl : l.length ≤ 1048576) :
    Calls Try.prog 14 #[.agg #[.int .i64 s, .int .i64 i, .int .i64 g, .int .i64 k, .int .i64 m], .slice ao l.length cap] w fun e w' => e = .returned (.int .i64 (Pn.stpN (s, i, g, k, m) l : Nat)) ∧ Below w.heap.size w w' := by
  obtain ⟨W, hW⟩ : ∃ W, W = w.alloc (.cells #[.int .i64 s, .int .i64 i, .int .i64 g, .int .i64 k, .int .i64 m] 23) := ⟨_, rfl⟩
  have HbW := hide (show Below w.heap.size w W by rw [hW]; exact below_alloc w _)
  have HB1 := hide (show Cel W w.heap.size [.int .i64 s, .int .i64 i, .int .i64 g, .int .i64 k, .int .i64 m] 23 by rw [hW]; exact Cel.new w _ _)
  have T1 : Hid (∀ w0, Below w.heap.size w w0 → Calls Try.prog 28 #[.slice ao l.length cap] w0 fun e w' => e = .returned (.int .i64 (Pn.totI l)) ∧ w' = w0) := fun w0 h => rtotal_c ao l cap w0 (hx.keep h) hl
  have K1 : Hid (∀ w0, Calls Try.prog 7 #[.agg #[.int .i64 s, .int .i64 i, .int .i64 g, .int .i64 k, .int .i64 m]] w0 fun e w' => e = .returned (.bool (Co.okZ (s, i, g, k, m))) ∧ Below w0.heap.size w0 w') := fun w0 => rcheck_c s i g k m w0
  have E : Hid (Pn.stpN (s, i, g, k, m) l = if (Pn.okT l && Co.okZ (s, i, g, k, m)) = true then Pn.shS s i l (Hv.tot (cntOf l) 256) * Pn.fac k * m.toNat else 0) := rfl
  have d0 := HB1.out.cell 0 rfl
  have d1 := HB1.out.cell 1 rfl
  have d2 := HB1.out.cell 2 rfl
  have d3 := HB1.out.cell 3 rfl
  have d4 := HB1.out.cell 4 rfl
  cases hT : Pn.okT l with
  | false =>
    rw [Pn.totI_out hT] at T1
    rw [hT, Bool.false_and, if_neg (by decide)] at E
    clear hT hx hl HB1
    go_enter Try.func14, Try.ntmps14
    go_wp2_with fail
    rw [← hW]
    refine (T1.out _ HbW.out).mono ?_
    rintro e w1 ⟨rfl, rfl⟩
    clear hW
    go_wp2
    go_ret
    rw [E.out]
    exact ⟨rfl, HbW.out⟩
  | true =>
    obtain ⟨hw, ht⟩ := Pn.okT_parts hT
    rw [Pn.totI_in hT] at T1
    rw [hT, Bool.true_and] at E
    have SHi : Hid (∀ w0, Below w.heap.size w w0 → Calls Try.prog 31 #[.int .i64 i, .slice ao l.length cap, .int .i64 (Hv.tot (cntOf l) 256 : Nat)] w0 fun e w' => e = .returned (.int .i64 (Pn.shp i l (Hv.tot (cntOf l) 256) : Nat)) ∧ Below w0.heap.size w0 w') := fun w0 h => rshape_c i ao l cap _ w0 (hx.keep h) hw ht ht
    have SHs : Hid (∀ w0, Below w.heap.size w w0 → Calls Try.prog 31 #[.int .i64 s, .slice ao l.length cap, .int .i64 (Hv.tot (cntOf l) 256 : Nat)] w0 fun e w' => e = .returned (.int .i64 (Pn.shp s l (Hv.tot (cntOf l) 256) : Nat)) ∧ Below w0.heap.size w0 w') := fun w0 h => rshape_c s ao l cap _ w0 (hx.keep h) hw ht ht
    obtain ⟨n, hn⟩ : ∃ n, Hid (n = Hv.tot (cntOf l) 256) := ⟨_, rfl⟩
    have li := Pn.shp_le i (n := n) hw ht
    have ls := Pn.shp_le s (n := n) hw ht
    rw [← hn.out] at T1 E SHi SHs ht
    cases hZ : Co.okZ (s, i, g, k, m) with
    | false =>
      rw [hZ] at K1
      rw [hZ, if_neg (by decide)] at E
      clear hT hx hl HB1 hw
      go_enter Try.func14, Try.ntmps14
      go_wp2_with fail
      rw [← hW]
      refine (T1.out _ HbW.out).mono ?_
      rintro e w1 ⟨rfl, rfl⟩
      clear hW
      go_wp2_with fail
      refine (K1.out _).mono ?_
      rintro e w2 ⟨rfl, hb2⟩
      replace HbW := hide (HbW.out.trans (hb2.mono HbW.out.size))
      clear hb2 d0 d1 d2 d3 d4
      go_wp2
      go_ret
      rw [E.out]
      exact ⟨rfl, HbW.out⟩
    | true =>
      rw [hZ] at K1
      rw [hZ, if_pos rfl] at E
      have hc := Pn.CfI.of hZ
      obtain ⟨M, rfl, m1, m2⟩ := hc.m1
      obtain ⟨J, rfl, J3⟩ : ∃ J : Nat, k = (J : Int) + 1 ∧ J < 3 := ⟨(k - 1).toNat, by have := hc.k1; omega, by have := hc.k3; omega⟩
      have hfk := hide (Pn.fac_get J3)
      have f4 := Pn.fac_le ((J : Int) + 1)
      obtain ⟨f, hf⟩ : ∃ f, Hid (f = Pn.fac ((J : Int) + 1)) := ⟨_, rfl⟩
      rw [← hf.out] at hfk f4
      rw [Int.toNat_natCast] at E
      have J3z : (J : Int) < 3 := by omega
      have END : Hid (∀ (y : Nat), y ≤ 327681 → y = Pn.shS s i l n → ∃ p P : Nat, p ≤ 1310724 ∧ P ≤ 83886336 ∧ (y : Int) * (f : Int) = (p : Int) ∧ (p : Int) * (M : Int) = (P : Int) ∧ Pn.stpN (s, i, g, (J : Int) + 1, (M : Int)) l = P) := fun y hy e => by
        have h1 := Nat.mul_le_mul hy f4
        have h2 := Nat.mul_le_mul (show y * f ≤ 1310724 by omega) m2
        refine ⟨y * f, y * f * M, by omega, by omega, by rw [Int.natCast_mul], by rw [Int.natCast_mul (y * f)], ?_⟩
        rw [E.out, ← e, ← hf.out]
      clear hT hZ hx hl hw E hf
      by_cases h4 : s = 4
      · subst h4
        have he : 1 + Pn.shp i l n = Pn.shS 4 i l n := by unfold Pn.shS; rw [if_pos rfl]
        have SH := SHi
        generalize Pn.shp i l n = x at *
        obtain ⟨y, hyx⟩ : ∃ y, y = 1 + x := ⟨_, rfl⟩
        have hyz : 1 + (x : Int) = (y : Int) := by omega
        have hy : y ≤ 327681 := by omega
        rw [← hyx] at he
        replace he := hide he
        clear SHi SHs hyx hc
        go_enter Try.func14, Try.ntmps14
        go_wp2_with fail
        rw [← hW]
        refine (T1.out _ HbW.out).mono ?_
        rintro e w1 ⟨rfl, rfl⟩
        clear hW
        go_wp2_with fail
        refine (K1.out _).mono ?_
        rintro e W2 ⟨rfl, hb2⟩
        have HB2 := hide (HbW.out.trans (hb2.mono HbW.out.size))
        have HC2 := hide (HB1.out.kept hb2)
        clear hb2 d0 d1 d2 d3 d4 HbW HB1 T1 K1
        have d0 := HC2.out.cell 0 rfl
        have d1 := HC2.out.cell 1 rfl
        have d2 := HC2.out.cell 2 rfl
        have d3 := HC2.out.cell 3 rfl
        have d4 := HC2.out.cell 4 rfl
        go_wp2_with fail
        refine (SH.out _ HB2.out).mono ?_
        rintro e W3 ⟨rfl, hb3⟩
        have HB3 := hide (HB2.out.trans (hb3.mono HB2.out.size))
        have HC3 := hide (HC2.out.kept hb3)
        clear hb3 HC2 HB2 SH d0 d1 d2 d3 d4
        have d0 := HC3.out.cell 0 rfl
        have d1 := HC3.out.cell 1 rfl
        have d2 := HC3.out.cell 2 rfl
        have d3 := HC3.out.cell 3 rfl
        have d4 := HC3.out.cell 4 rfl
        obtain ⟨p, P, q1, q2, q3, q4, q5⟩ := END.out y hy he.out
        have hq5 := hide q5
        clear q5 END he
        go_wp2
        refine region_g [] (fun w' => Cel w' w.heap.size [.int .i64 4, .int .i64 i, .int .i64 g, .int .i64 ((J : Int) + 1), .int .i64 (M : Int)] 23 ∧ Below w.heap.size w w') (by kernel_rfl) ?_
        have hS : (fun w' => Cel w' w.heap.size [.int .i64 4, .int .i64 i, .int .i64 g, .int .i64 ((J : Int) + 1), .int .i64 (M : Int)] 23 ∧ Below w.heap.size w w') W3.drew := ⟨HC3.out.drew, HB3.out.drew⟩
        clear HC3 HB3 d0 d1 d2 d3 d4
        generalize W3.drew = V at *
        refine AnyG.take 0 (v := ?vv1) rfl (by kernel_rfl) (by kernel_rfl) (by kernel_rfl) (by kernel_rfl) (fun _ _ _ h => h) hS ?hy1 (by rfl) ?rest1
        case hy1 =>
          intro w0 h0
          go_simp
          try with_reducible rfl
        simp only [Act.put, List.getElem_toArray, List.getElem_cons_zero, List.getElem_cons_succ, List.setIfInBounds_toArray, List.set_cons_zero, List.set_cons_succ]
        refine AnyG.take 2 (v := ?vv2) rfl (by kernel_rfl) (by kernel_rfl) (by kernel_rfl) (by kernel_rfl) (fun _ _ _ h => h) hS ?hy2 (by rfl) ?rest2
        case hy2 =>
          intro w0 h0
          go_simp
          try with_reducible rfl
        simp only [Act.put, List.getElem_toArray, List.getElem_cons_zero, List.getElem_cons_succ, List.setIfInBounds_toArray, List.set_cons_zero, List.set_cons_succ]
        refine AnyG.take 3 (v := ?vv3) rfl (by kernel_rfl) (by kernel_rfl) (by kernel_rfl) (by kernel_rfl) (fun _ _ _ h => h) hS ?hy3 (by rfl) ?rest3
        case hy3 =>
          intro w0 h0
          have d3 := h0.1.cell 3 rfl
          have d4 := h0.1.cell 4 rfl
          go_simp
          try with_reducible rfl
        simp only [Act.put, List.getElem_toArray, List.getElem_cons_zero, List.getElem_cons_succ, List.setIfInBounds_toArray, List.set_cons_zero, List.set_cons_succ]
        refine AnyG.take 4 (v := .int .i64 (J : Int)) rfl (by kernel_rfl) (by kernel_rfl) (by kernel_rfl) (by kernel_rfl) (fun _ _ _ h => h) hS ?hy4 (by rfl) ?rest4
        case hy4 =>
          intro w0 h0
          have wr : IntKind.i64.wrap ((J : Int) + 1 - 1) = (J : Int) := by rw [IntKind.wrap_i64]; omega
          go_simp
          try with_reducible rfl
          try (rw [IntKind.wrap_i64]; omega)
        simp only [Act.put, List.getElem_toArray, List.getElem_cons_zero, List.getElem_cons_succ, List.setIfInBounds_toArray, List.set_cons_zero, List.set_cons_succ]
        refine AnyG.take 8 (v := ?vv5) rfl (by kernel_rfl) (by kernel_rfl) (by kernel_rfl) (by kernel_rfl) (fun _ _ _ h => h) hS ?hy5 (by rfl) ?rest5
        case hy5 =>
          intro w0 h0
          go_simp
          try with_reducible rfl
        simp only [Act.put, List.getElem_toArray, List.getElem_cons_zero, List.getElem_cons_succ, List.setIfInBounds_toArray, List.set_cons_zero, List.set_cons_succ]
        refine AnyG.take 9 (v := ?vv6) rfl (by kernel_rfl) (by kernel_rfl) (by kernel_rfl) (by kernel_rfl) (fun _ _ _ h => h) hS ?hy6 (by rfl) ?rest6
        case hy6 =>
          intro w0 h0
          have d3 := h0.1.cell 3 rfl
          have d4 := h0.1.cell 4 rfl
          go_simp
          try with_reducible rfl
        simp only [Act.put, List.getElem_toArray, List.getElem_cons_zero, List.getElem_cons_succ, List.setIfInBounds_toArray, List.set_cons_zero, List.set_cons_succ]
        refine AnyG.one 1 (by kernel_rfl) rfl ?_
        intro K hK
        go_simp
        have hS1 : (fun w' => Cel w' w.heap.size [.int .i64 4, .int .i64 i, .int .i64 g, .int .i64 ((J : Int) + 1), .int .i64 (M : Int)] 23 ∧ Below w.heap.size w w') (V.alloc (.cells #[.int .i64 1, .int .i64 4, .int .i64 3] 3)) := ⟨hS.1.alloc _, hS.2.alloc hS.2.size _⟩
        have FC : Hid (∀ w1, Below (V.heap.size + 1) (V.alloc (.cells #[.int .i64 1, .int .i64 4, .int .i64 3] 3)) w1 → w1.cell? ⟨V.heap.size, J, none⟩ = some (.int .i64 (f : Nat))) := fun w1 hb => by
          have h1 : Cel (V.alloc (.cells #[.int .i64 1, .int .i64 4, .int .i64 3] 3)) V.heap.size [.int .i64 1, .int .i64 4, .int .i64 3] 3 := Cel.new V _ 3
          exact (h1.keep hb (Nat.lt_succ_self _)).cell J hfk.out
        refine hK.out _ _ (fun _ => hS1) ?_
        clear hK K
        try simp only [Act.put, List.getElem_toArray, List.getElem_cons_zero, List.getElem_cons_succ, List.setIfInBounds_toArray, List.set_cons_zero, List.set_cons_succ]
        have hE : (fun (w' : World) => w'.cell? ⟨V.heap.size, J, none⟩ = some (.int .i64 (f : Nat))) (V.alloc (.cells #[.int .i64 1, .int .i64 4, .int .i64 3] 3)) := FC.out _ (Below.refl _ _)
        refine AnyG.moreP (E := (fun (w' : World) => w'.cell? ⟨V.heap.size, J, none⟩ = some (.int .i64 (f : Nat)))) _ _ _ _ hS1 hE ?_
        have hT := And.intro hS1 hE
        clear hS1 hE FC hS
        generalize V.heap.size = gs at *
        generalize V.alloc _ = V1 at *
        refine AnyG.take 5 (v := ?vv7) rfl (by kernel_rfl) (by kernel_rfl) (by kernel_rfl) (by kernel_rfl) (fun _ _ _ h => h) hT ?hy7 (by rfl) ?rest7
        case hy7 =>
          intro w0 h0
          go_simp
          try with_reducible rfl
        simp only [Act.put, List.getElem_toArray, List.getElem_cons_zero, List.getElem_cons_succ, List.setIfInBounds_toArray, List.set_cons_zero, List.set_cons_succ]
        refine AnyG.take 6 (v := ?vv8) rfl (by kernel_rfl) (by kernel_rfl) (by kernel_rfl) (by kernel_rfl) (fun _ _ _ h => h) hT ?hy8 (by rfl) ?rest8
        case hy8 =>
          intro w0 h0
          have dk := h0.2
          go_simp
          try with_reducible rfl
        simp only [Act.put, List.getElem_toArray, List.getElem_cons_zero, List.getElem_cons_succ, List.setIfInBounds_toArray, List.set_cons_zero, List.set_cons_succ]
        refine AnyG.take 7 (v := .int .i64 (p : Int)) rfl (by kernel_rfl) (by kernel_rfl) (by kernel_rfl) (by kernel_rfl) (fun _ _ _ h => h) hT ?hy9 (by rfl) ?rest9
        case hy9 =>
          intro w0 h0
          have wr : IntKind.i64.wrap ((y : Int) * (f : Int)) = (p : Int) := by rw [q3, IntKind.wrap_i64]; omega
          go_simp
          try with_reducible rfl
          try (rw [IntKind.wrap_i64]; omega)
        simp only [Act.put, List.getElem_toArray, List.getElem_cons_zero, List.getElem_cons_succ, List.setIfInBounds_toArray, List.set_cons_zero, List.set_cons_succ]
        refine AnyG.take 10 (v := .int .i64 (P : Int)) rfl (by kernel_rfl) (by kernel_rfl) (by kernel_rfl) (by kernel_rfl) (fun _ _ _ h => h) hT ?hy10 (by rfl) ?rest10
        case hy10 =>
          intro w0 h0
          have wr : IntKind.i64.wrap ((p : Int) * (M : Int)) = (P : Int) := by rw [q4, IntKind.wrap_i64]; omega
          go_simp
          try with_reducible rfl
          try (rw [IntKind.wrap_i64]; omega)
        simp only [Act.put, List.getElem_toArray, List.getElem_cons_zero, List.getElem_cons_succ, List.setIfInBounds_toArray, List.set_cons_zero, List.set_cons_succ]
        refine AnyG.take 11 (v := ?vv11) rfl (by kernel_rfl) (by kernel_rfl) (by kernel_rfl) (by kernel_rfl) (fun _ _ _ h => h) hT ?hy11 (by rfl) ?rest11
        case hy11 =>
          intro w0 h0
          go_simp
          try with_reducible rfl
        simp only [Act.put, List.getElem_toArray, List.getElem_cons_zero, List.getElem_cons_succ, List.setIfInBounds_toArray, List.set_cons_zero, List.set_cons_succ]
        refine AnyG.done (by kernel_rfl) ?_ _
        have HB := hide hT.1.2
        clear hT
        go_wp2
        go_ret
        rw [hq5.out]
        exact ⟨rfl, HB.out⟩
      · have h4z : (s == 4) = false := by simp; omega
        have he := hide (show Pn.shp s l n = Pn.shS s i l n by unfold Pn.shS; rw [if_neg h4])
        have SH := SHs
        generalize Pn.shp s l n = y at *
        have hy : y ≤ 327681 := by omega
        clear SHi SHs hc
        go_enter Try.func14, Try.ntmps14
        go_wp2_with fail
        rw [← hW]
        refine (T1.out _ HbW.out).mono ?_
        rintro e w1 ⟨rfl, rfl⟩
        clear hW
        go_wp2_with fail
        refine (K1.out _).mono ?_
        rintro e W2 ⟨rfl, hb2⟩
        have HB2 := hide (HbW.out.trans (hb2.mono HbW.out.size))
        have HC2 := hide (HB1.out.kept hb2)
        clear hb2 d0 d1 d2 d3 d4 HbW HB1 T1 K1
        have d0 := HC2.out.cell 0 rfl
        have d1 := HC2.out.cell 1 rfl
        have d2 := HC2.out.cell 2 rfl
        have d3 := HC2.out.cell 3 rfl
        have d4 := HC2.out.cell 4 rfl
        go_wp2_with fail
        refine (SH.out _ HB2.out).mono ?_
        rintro e W3 ⟨rfl, hb3⟩
        have HB3 := hide (HB2.out.trans (hb3.mono HB2.out.size))
        have HC3 := hide (HC2.out.kept hb3)
        clear hb3 HC2 HB2 SH d0 d1 d2 d3 d4
        have d0 := HC3.out.cell 0 rfl
        have d1 := HC3.out.cell 1 rfl
        have d2 := HC3.out.cell 2 rfl
        have d3 := HC3.out.cell 3 rfl
        have d4 := HC3.out.cell 4 rfl
        obtain ⟨p, P, q1, q2, q3, q4, q5⟩ := END.out y hy he.out
        have hq5 := hide q5
        clear q5 END he
        go_wp2
        refine region_g [] (fun w' => Cel w' w.heap.size [.int .i64 s, .int .i64 i, .int .i64 g, .int .i64 ((J : Int) + 1), .int .i64 (M : Int)] 23 ∧ Below w.heap.size w w') (by kernel_rfl) ?_
        have hS : (fun w' => Cel w' w.heap.size [.int .i64 s, .int .i64 i, .int .i64 g, .int .i64 ((J : Int) + 1), .int .i64 (M : Int)] 23 ∧ Below w.heap.size w w') W3.drew := ⟨HC3.out.drew, HB3.out.drew⟩
        clear HC3 HB3 d0 d1 d2 d3 d4
        generalize W3.drew = V at *
        refine AnyG.take 0 (v := ?vv51) rfl (by kernel_rfl) (by kernel_rfl) (by kernel_rfl) (by kernel_rfl) (fun _ _ _ h => h) hS ?hy51 (by rfl) ?rest51
        case hy51 =>
          intro w0 h0
          go_simp
          try with_reducible rfl
        simp only [Act.put, List.getElem_toArray, List.getElem_cons_zero, List.getElem_cons_succ, List.setIfInBounds_toArray, List.set_cons_zero, List.set_cons_succ]
        refine AnyG.take 2 (v := ?vv52) rfl (by kernel_rfl) (by kernel_rfl) (by kernel_rfl) (by kernel_rfl) (fun _ _ _ h => h) hS ?hy52 (by rfl) ?rest52
        case hy52 =>
          intro w0 h0
          go_simp
          try with_reducible rfl
        simp only [Act.put, List.getElem_toArray, List.getElem_cons_zero, List.getElem_cons_succ, List.setIfInBounds_toArray, List.set_cons_zero, List.set_cons_succ]
        refine AnyG.take 3 (v := ?vv53) rfl (by kernel_rfl) (by kernel_rfl) (by kernel_rfl) (by kernel_rfl) (fun _ _ _ h => h) hS ?hy53 (by rfl) ?rest53
        case hy53 =>
          intro w0 h0
          have d3 := h0.1.cell 3 rfl
          have d4 := h0.1.cell 4 rfl
          go_simp
          try with_reducible rfl
        simp only [Act.put, List.getElem_toArray, List.getElem_cons_zero, List.getElem_cons_succ, List.setIfInBounds_toArray, List.set_cons_zero, List.set_cons_succ]
        refine AnyG.take 4 (v := .int .i64 (J : Int)) rfl (by kernel_rfl) (by kernel_rfl) (by kernel_rfl) (by kernel_rfl) (fun _ _ _ h => h) hS ?hy54 (by rfl) ?rest54
        case hy54 =>
          intro w0 h0
          have wr : IntKind.i64.wrap ((J : Int) + 1 - 1) = (J : Int) := by rw [IntKind.wrap_i64]; omega
          go_simp
          try with_reducible rfl
          try (rw [IntKind.wrap_i64]; omega)
        simp only [Act.put, List.getElem_toArray, List.getElem_cons_zero, List.getElem_cons_succ, List.setIfInBounds_toArray, List.set_cons_zero, List.set_cons_succ]
        refine AnyG.take 8 (v := ?vv55) rfl (by kernel_rfl) (by kernel_rfl) (by kernel_rfl) (by kernel_rfl) (fun _ _ _ h => h) hS ?hy55 (by rfl) ?rest55
        case hy55 =>
          intro w0 h0
          go_simp
          try with_reducible rfl
        simp only [Act.put, List.getElem_toArray, List.getElem_cons_zero, List.getElem_cons_succ, List.setIfInBounds_toArray, List.set_cons_zero, List.set_cons_succ]
        refine AnyG.take 9 (v := ?vv56) rfl (by kernel_rfl) (by kernel_rfl) (by kernel_rfl) (by kernel_rfl) (fun _ _ _ h => h) hS ?hy56 (by rfl) ?rest56
        case hy56 =>
          intro w0 h0
          have d3 := h0.1.cell 3 rfl
          have d4 := h0.1.cell 4 rfl
          go_simp
          try with_reducible rfl
        simp only [Act.put, List.getElem_toArray, List.getElem_cons_zero, List.getElem_cons_succ, List.setIfInBounds_toArray, List.set_cons_zero, List.set_cons_succ]
        refine AnyG.one 1 (by kernel_rfl) rfl ?_
        intro K hK
        go_simp
        have hS1 : (fun w' => Cel w' w.heap.size [.int .i64 s, .int .i64 i, .int .i64 g, .int .i64 ((J : Int) + 1), .int .i64 (M : Int)] 23 ∧ Below w.heap.size w w') (V.alloc (.cells #[.int .i64 1, .int .i64 4, .int .i64 3] 3)) := ⟨hS.1.alloc _, hS.2.alloc hS.2.size _⟩
        have FC : Hid (∀ w1, Below (V.heap.size + 1) (V.alloc (.cells #[.int .i64 1, .int .i64 4, .int .i64 3] 3)) w1 → w1.cell? ⟨V.heap.size, J, none⟩ = some (.int .i64 (f : Nat))) := fun w1 hb => by
          have h1 : Cel (V.alloc (.cells #[.int .i64 1, .int .i64 4, .int .i64 3] 3)) V.heap.size [.int .i64 1, .int .i64 4, .int .i64 3] 3 := Cel.new V _ 3
          exact (h1.keep hb (Nat.lt_succ_self _)).cell J hfk.out
        refine hK.out _ _ (fun _ => hS1) ?_
        clear hK K
        try simp only [Act.put, List.getElem_toArray, List.getElem_cons_zero, List.getElem_cons_succ, List.setIfInBounds_toArray, List.set_cons_zero, List.set_cons_succ]
        have hE : (fun (w' : World) => w'.cell? ⟨V.heap.size, J, none⟩ = some (.int .i64 (f : Nat))) (V.alloc (.cells #[.int .i64 1, .int .i64 4, .int .i64 3] 3)) := FC.out _ (Below.refl _ _)
        refine AnyG.moreP (E := (fun (w' : World) => w'.cell? ⟨V.heap.size, J, none⟩ = some (.int .i64 (f : Nat)))) _ _ _ _ hS1 hE ?_
        have hT := And.intro hS1 hE
        clear hS1 hE FC hS
        generalize V.heap.size = gs at *
        generalize V.alloc _ = V1 at *
        refine AnyG.take 5 (v := ?vv57) rfl (by kernel_rfl) (by kernel_rfl) (by kernel_rfl) (by kernel_rfl) (fun _ _ _ h => h) hT ?hy57 (by rfl) ?rest57
        case hy57 =>
          intro w0 h0
          go_simp
          try with_reducible rfl
        simp only [Act.put, List.getElem_toArray, List.getElem_cons_zero, List.getElem_cons_succ, List.setIfInBounds_toArray, List.set_cons_zero, List.set_cons_succ]
        refine AnyG.take 6 (v := ?vv58) rfl (by kernel_rfl) (by kernel_rfl) (by kernel_rfl) (by kernel_rfl) (fun _ _ _ h => h) hT ?hy58 (by rfl) ?rest58
        case hy58 =>
          intro w0 h0
          have dk := h0.2
          go_simp
          try with_reducible rfl
        simp only [Act.put, List.getElem_toArray, List.getElem_cons_zero, List.getElem_cons_succ, List.setIfInBounds_toArray, List.set_cons_zero, List.set_cons_succ]
        refine AnyG.take 7 (v := .int .i64 (p : Int)) rfl (by kernel_rfl) (by kernel_rfl) (by kernel_rfl) (by kernel_rfl) (fun _ _ _ h => h) hT ?hy59 (by rfl) ?rest59
        case hy59 =>
          intro w0 h0
          have wr : IntKind.i64.wrap ((y : Int) * (f : Int)) = (p : Int) := by rw [q3, IntKind.wrap_i64]; omega
          go_simp
          try with_reducible rfl
          try (rw [IntKind.wrap_i64]; omega)
        simp only [Act.put, List.getElem_toArray, List.getElem_cons_zero, List.getElem_cons_succ, List.setIfInBounds_toArray, List.set_cons_zero, List.set_cons_succ]
        refine AnyG.take 10 (v := .int .i64 (P : Int)) rfl (by kernel_rfl) (by kernel_rfl) (by kernel_rfl) (by kernel_rfl) (fun _ _ _ h => h) hT ?hy60 (by rfl) ?rest60
        case hy60 =>
          intro w0 h0
          have wr : IntKind.i64.wrap ((p : Int) * (M : Int)) = (P : Int) := by rw [q4, IntKind.wrap_i64]; omega
          go_simp
          try with_reducible rfl
          try (rw [IntKind.wrap_i64]; omega)
        simp only [Act.put, List.getElem_toArray, List.getElem_cons_zero, List.getElem_cons_succ, List.setIfInBounds_toArray, List.set_cons_zero, List.set_cons_succ]
        refine AnyG.take 11 (v := ?vv61) rfl (by kernel_rfl) (by kernel_rfl) (by kernel_rfl) (by kernel_rfl) (fun _ _ _ h => h) hT ?hy61 (by rfl) ?rest61
        case hy61 =>
          intro w0 h0
          go_simp
          try with_reducible rfl
        simp only [Act.put, List.getElem_toArray, List.getElem_cons_zero, List.getElem_cons_succ, List.setIfInBounds_toArray, List.set_cons_zero, List.set_cons_succ]
        refine AnyG.done (by kernel_rfl) ?_ _
        have HB := hide hT.1.2
        clear hT
        go_wp2
        go_ret
        rw [hq5.out]
        exact ⟨rfl, HB.out⟩
end Go.Proofs.Ytckkhmmicbpihaa

namespace Go.Proofs.Ytckkhmmicbpihaa
open Go.RowKit Num Hp
set_option linter.unusedVariables false
set_option linter.unusedSimpArgs false
set_option maxRecDepth 100000

theorem pupTo_c (n : Nat) (w : World) :
    Calls Try.prog 93 #[.int .i64 (n : Nat)] w fun e w' => e = .returned (.func (.func 95) #[] #[.pointer (some ⟨w.heap.size, 0, none⟩)]) ∧ Cel w' w.heap.size [.int .i64 (n : Nat)] 3 ∧ Below w.heap.size w w' := by
  have C := hide (Cel.new w [.int .i64 (n : Nat)] 3)
  have B := hide (below_alloc w (.cells #[.int .i64 (n : Nat)] 3))
  go_enter Try.func93, Try.ntmps93
  go_wp2
  go_ret
  exact ⟨rfl, C.out, B.out⟩
set_option maxHeartbeats 2000000 in
theorem pworst_c (k : Int) (s : Nat) (hs : s ≤ 8192) (w : World) :
    Calls Try.prog 88 #[.int .i64 k, .int .i64 (s : Nat)] w fun e w' => e = .returned (.int .i64 (Pn.wst k s : Nat)) ∧ Below w.heap.size w w' := by
  obtain ⟨W, hW⟩ : ∃ W, W = (w.alloc (.cells #[.int .i64 k] 3)).alloc (.cells #[.int .i64 (s : Nat)] 3) := ⟨_, rfl⟩
  have A1 := hide (show Cel W w.heap.size [.int .i64 k] 3 by rw [hW]; exact (Cel.new w _ _).alloc _)
  have A2 := hide (show Cel W (w.heap.size + 1) [.int .i64 (s : Nat)] 3 by rw [hW]; exact Cel.new2 w _ _ _)
  have HbW := hide (show Below w.heap.size w W by rw [hW]; exact (below_alloc w _).alloc (by simp) _)
  have UP := hide (pupTo_c s)
  have LE : Hid (∀ gU w0, Cel w0 gU [.int .i64 (s : Nat)] 3 → Cel w0 w.heap.size [.int .i64 k] 3 → Cel w0 (w.heap.size + 1) [.int .i64 (s : Nat)] 3 → Calls Try.prog 92 #[.func (.func 95) #[] #[.pointer (some ⟨gU, 0, none⟩)], .func (.func 91) #[] #[.pointer (some ⟨w.heap.size, 0, none⟩), .pointer (some ⟨w.heap.size + 1, 0, none⟩)]] w0 fun e w' => e = .returned (.int .i64 (Pn.wsA k s (s + 1) : Nat)) ∧ Below w0.heap.size w0 w') := fun gU w0 h1 h2 h3 => pleastI_c k s gU w.heap.size (w.heap.size + 1) w0 hs h1 h2 h3
  have RW : Hid (∀ w0, Calls Try.prog 11 #[.int .i64 k, .int .i64 (s : Nat), .int .i64 (Pn.wsA k s (s + 1) : Nat)] w0 fun e w' => e = .returned (.int .i64 (Pn.wst k s : Nat)) ∧ w' = w0) := fun w0 => by
    have := prow0_c k s (Pn.wsA k s (s + 1) : Nat) w0
    rw [rowI_in (by omega) (by have := Pn.wsA_lt k s (q := s + 1) (by omega); omega), Pn.wsA_wst] at this
    exact this
  generalize Pn.wsA k s (s + 1) = a at *
  generalize Pn.wst k s = y at *
  go_enter Try.func88, Try.ntmps88
  go_wp2_with fail
  rw [← hW]
  clear hW
  try go_wp2
  refine region_g [] (fun w' => Cel w' w.heap.size [.int .i64 k] 3 ∧ Cel w' (w.heap.size + 1) [.int .i64 (s : Nat)] 3 ∧ Below w.heap.size w w') (by kernel_rfl) ?_
  have hS : (fun w' => Cel w' w.heap.size [.int .i64 k] 3 ∧ Cel w' (w.heap.size + 1) [.int .i64 (s : Nat)] 3 ∧ Below w.heap.size w w') W.drew := ⟨A1.out.drew, A2.out.drew, HbW.out.drew⟩
  clear A1 A2 HbW
  generalize W.drew = V at *
  refine AnyG.take 0 (v := ?vv1) rfl (by kernel_rfl) (by kernel_rfl) (by kernel_rfl) (by kernel_rfl) (fun _ _ _ h => h) hS ?hy1 (by rfl) ?rest1
  case hy1 =>
    intro w0 h0
    have d0 := h0.1.cell 0 rfl
    go_simp
    try with_reducible rfl
  simp only [Act.put, List.getElem_toArray, List.getElem_cons_zero, List.getElem_cons_succ, List.setIfInBounds_toArray, List.set_cons_zero, List.set_cons_succ]
  refine AnyG.take 1 (v := ?vv2) rfl (by kernel_rfl) (by kernel_rfl) (by kernel_rfl) (by kernel_rfl) (fun _ _ _ h => h) hS ?hy2 (by rfl) ?rest2
  case hy2 =>
    intro w0 h0
    have d1 := h0.2.1.cell 0 rfl
    go_simp
    try with_reducible rfl
  simp only [Act.put, List.getElem_toArray, List.getElem_cons_zero, List.getElem_cons_succ, List.setIfInBounds_toArray, List.set_cons_zero, List.set_cons_succ]
  refine AnyG.take 2 (v := ?vv3) rfl (by kernel_rfl) (by kernel_rfl) (by kernel_rfl) (by kernel_rfl) (fun _ _ _ h => h) hS ?hy3 (by rfl) ?rest3
  case hy3 =>
    intro w0 h0
    have d1 := h0.2.1.cell 0 rfl
    go_simp
    try with_reducible rfl
  simp only [Act.put, List.getElem_toArray, List.getElem_cons_zero, List.getElem_cons_succ, List.setIfInBounds_toArray, List.set_cons_zero, List.set_cons_succ]
  refine AnyG.take 4 (v := ?vv4) rfl (by kernel_rfl) (by kernel_rfl) (by kernel_rfl) (by kernel_rfl) (fun _ _ _ h => h) hS ?hy4 (by rfl) ?rest4
  case hy4 =>
    intro w0 h0
    go_simp
    try with_reducible rfl
  simp only [Act.put, List.getElem_toArray, List.getElem_cons_zero, List.getElem_cons_succ, List.setIfInBounds_toArray, List.set_cons_zero, List.set_cons_succ]
  refine AnyG.one 3 (by kernel_rfl) rfl ?_
  intro K hK
  go_simp
  refine (UP.out V).mono ?_
  rintro _ v1 ⟨rfl, hcu, hb⟩
  have hS1 : (fun w' => Cel w' w.heap.size [.int .i64 k] 3 ∧ Cel w' (w.heap.size + 1) [.int .i64 (s : Nat)] 3 ∧ Below w.heap.size w w') v1 := ⟨hS.1.kept hb, hS.2.1.kept hb, hS.2.2.trans (hb.mono hS.2.2.size)⟩
  clear hb hS
  refine hK.out _ _ (fun _ => hS1) ?_
  clear hK K
  try simp only [Act.put, List.getElem_toArray, List.getElem_cons_zero, List.getElem_cons_succ, List.setIfInBounds_toArray, List.set_cons_zero, List.set_cons_succ]
  refine AnyG.one 5 (by kernel_rfl) rfl ?_
  intro K hK
  go_simp
  refine (LE.out _ v1 hcu hS1.1 hS1.2.1).mono ?_
  rintro _ v2 ⟨rfl, hb⟩
  have hS2 : (fun w' => Cel w' w.heap.size [.int .i64 k] 3 ∧ Cel w' (w.heap.size + 1) [.int .i64 (s : Nat)] 3 ∧ Below w.heap.size w w') v2 := ⟨hS1.1.kept hb, hS1.2.1.kept hb, hS1.2.2.trans (hb.mono hS1.2.2.size)⟩
  clear hb hS1 hcu
  refine hK.out _ _ (fun _ => hS2) ?_
  clear hK K
  try simp only [Act.put, List.getElem_toArray, List.getElem_cons_zero, List.getElem_cons_succ, List.setIfInBounds_toArray, List.set_cons_zero, List.set_cons_succ]
  refine AnyG.one 6 (by kernel_rfl) rfl ?_
  intro K hK
  go_simp
  refine (RW.out _).mono ?_
  rintro _ v3 ⟨rfl, rfl⟩
  refine hK.out _ _ (fun _ => hS2) ?_
  clear hK K
  try simp only [Act.put, List.getElem_toArray, List.getElem_cons_zero, List.getElem_cons_succ, List.setIfInBounds_toArray, List.set_cons_zero, List.set_cons_succ]
  refine AnyG.take 7 (v := ?vv5) rfl (by kernel_rfl) (by kernel_rfl) (by kernel_rfl) (by kernel_rfl) (fun _ _ _ h => h) hS2 ?hy5 (by rfl) ?rest5
  case hy5 =>
    intro w0 h0
    go_simp
    try with_reducible rfl
  simp only [Act.put, List.getElem_toArray, List.getElem_cons_zero, List.getElem_cons_succ, List.setIfInBounds_toArray, List.set_cons_zero, List.set_cons_succ]
  refine AnyG.done (by kernel_rfl) ?_ _
  have HB := hide hS2.2.2
  clear hS2
  go_wp2
  go_ret
  exact ⟨rfl, HB.out⟩
set_option maxHeartbeats 2000000 in
theorem pblock_c (a i g k m : Int) (s : Nat) (hs : s ≤ 8192) (w : World) :
    Calls Try.prog 83 #[.agg #[.int .i64 a, .int .i64 i, .int .i64 g, .int .i64 k, .int .i64 m], .int .i64 (s : Nat)] w fun e w' => e = .returned (.int .i64 (4096 + Pn.blk i k s : Nat)) ∧ Below w.heap.size w w' := by
  have R1 := hide (pworst_c k s hs)
  have hw : Pn.wst k s ≤ 700000 := by
    have := Pn.wsq_le k (s := s) (by omega) (s + 1) (Nat.le_refl _)
    unfold Pn.wst
    omega
  have E : Hid (Pn.blk i k s = if i = 1 then 8 * Pn.wst k s else if i = 3 then 8 * Pn.wst k s + 256 else 1536 + min 255 s * Pn.wst k s) := rfl
  obtain ⟨W, hW⟩ : ∃ W, W = w.alloc (.cells #[.int .i64 a, .int .i64 i, .int .i64 g, .int .i64 k, .int .i64 m] 23) := ⟨_, rfl⟩
  have bW := hide (show Below w.heap.size w W by rw [hW]; exact below_alloc w _)
  have B1 : Cel W w.heap.size [.int .i64 a, .int .i64 i, .int .i64 g, .int .i64 k, .int .i64 m] 23 := by rw [hW]; exact Cel.new w _ _
  have c1 := B1.cell 1 rfl
  have c3 := B1.cell 3 rfl
  generalize Pn.wst k s = y at *
  have lW := hide B1.lt
  clear B1
  by_cases h1 : i = 1
  · subst h1
    rw [if_pos rfl] at E
    go_enter Try.func83, Try.ntmps83
    go_wp2_with fail
    rw [← hW]
    go_wp2_with fail
    refine (R1.out _).mono ?_
    rintro e w1 ⟨rfl, hb1⟩
    replace bW := hide (bW.out.trans (hb1.mono bW.out.size))
    replace c1 := (hb1.cell (p := ⟨w.heap.size, 1, none⟩) lW.out).trans c1
    clear hW hb1 c3
    go_wp2
    go_ret
    rw [E.out]
    exact ⟨by go_num, bW.out⟩
  · have h1z : (i == 1) = false := by simp; omega
    rw [if_neg h1] at E
    by_cases h3 : i = 3
    · subst h3
      rw [if_pos rfl] at E
      go_enter Try.func83, Try.ntmps83
      go_wp2_with fail
      rw [← hW]
      go_wp2_with fail
      refine (R1.out _).mono ?_
      rintro e w1 ⟨rfl, hb1⟩
      replace bW := hide (bW.out.trans (hb1.mono bW.out.size))
      replace c1 := (hb1.cell (p := ⟨w.heap.size, 1, none⟩) lW.out).trans c1
      clear hW hb1 c3
      go_wp2
      go_ret
      rw [E.out]
      exact ⟨by go_num, bW.out⟩
    · have h3z : (i == 3) = false := by simp; omega
      rw [if_neg h3] at E
      by_cases hm : s < 255
      · have hmz : ¬ (255 : Int) ≤ (s : Int) := by omega
        rw [show min 255 s = s by omega] at E
        have hp := Nat.mul_le_mul (show s ≤ 255 by omega) hw
        have ez : (s : Int) * (y : Int) = ((s * y : Nat) : Int) := by rw [Int.natCast_mul]
        generalize s * y = p at *
        go_enter Try.func83, Try.ntmps83
        go_wp2_with fail
        rw [← hW]
        go_wp2_with fail
        refine (R1.out _).mono ?_
        rintro e w1 ⟨rfl, hb1⟩
        replace bW := hide (bW.out.trans (hb1.mono bW.out.size))
        replace c1 := (hb1.cell (p := ⟨w.heap.size, 1, none⟩) lW.out).trans c1
        clear hW hb1 c3
        go_wp2
        go_ret
        rw [E.out]
        exact ⟨by go_num, bW.out⟩
      · have hmy : (255 : Int) ≤ (s : Int) := by omega
        rw [show min 255 s = 255 by omega] at E
        go_enter Try.func83, Try.ntmps83
        go_wp2_with fail
        rw [← hW]
        go_wp2_with fail
        refine (R1.out _).mono ?_
        rintro e w1 ⟨rfl, hb1⟩
        replace bW := hide (bW.out.trans (hb1.mono bW.out.size))
        replace c1 := (hb1.cell (p := ⟨w.heap.size, 1, none⟩) lW.out).trans c1
        clear hW hb1 c3
        go_wp2
        go_ret
        rw [E.out]
        exact ⟨by go_num, bW.out⟩
end Go.Proofs.Ytckkhmmicbpihaa
