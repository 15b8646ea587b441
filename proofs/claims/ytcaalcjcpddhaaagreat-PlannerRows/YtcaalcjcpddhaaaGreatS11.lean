/-
  The contract of the sort by insertion.
-/
import Derived.Test.YtcaalcjcpddhaaaGreatS10
set_option linter.unusedVariables false
set_option linter.unusedSimpArgs false
set_option maxRecDepth 100000
namespace Go.Proofs.YtcaalcjcpddhaaaGreat.Zz
open Go.RowKit
section
variable {P : Program} {ops : Array Oper} {Q : Exit → Act → World → Prop} {md : Region.Mode} {S : World → Prop} {ns : List Nat}
theorem AnyG.skip (i : Nat) {oi : Oper} {f : Nat} {l : Array Bool} {a : Act} {w : World} (hi : ops[i]? = some oi) (hs : Region.noSelect ops = true) (hf : Region.free md ops l i = true) (hr : (Region.ready md ops l).contains i = true) (hw : ns.all (fun n => waits md ops n i) = true)
  (hQ : ∀ c a w, Q (.panic c) (a.put oi.dst undef) w → Q (.panic c) a w) (hS : S w) (hwn : Region.wanted oi (yielded ops a.tmps) = false)
  (h : AnyG P md ops Q S ns f (l.setIfInBounds i true) (a.put oi.dst undef) w) : AnyG P md ops Q S ns (f + 1) l a w :=
 AnyG.first hi hs hQ hw f l a w (Region.free_spec hi hf) (by simpa using hr) (.inr ⟨hwn, rfl⟩) hS h
end
set_option maxHeartbeats 8000000 in
theorem jins_c (g L cap a b : Nat) (f : Nat → T4) (w : World) (hT : TH w g f) (h1 : a ≤ b) (h2 : b ≤ L) (h3 : L ≤ 511) (cr : ∀ p q, a ≤ p → p < q → q < b → Sx.Cr cT ltT (f p) (f q)) :
  Calls Tryz.prog 112 #[.slice (some ⟨g, 0, none⟩) L cap, .int .i64 a, .int .i64 b, .func (.func 99) #[] #[]] w fun e w' => e = .returned (.tuple #[]) ∧ SO g w (fun f' => Sx.Im a b f f' ∧ Sx.Up ltT a b f') w' := by
 have HT := hide hT
 have CR := hide cr
 have C : Hid (∀ (x y : T4) (w0 : World), Calls Tryz.prog 99 #[.agg (tc x).toArray, .agg (tc y).toArray] w0 fun e w' => e = .returned (.int .i64 (cvT x y)) ∧ Below w0.heap.size w0 w') := fun x y w0 => jless_c x y w0
 clear hT cr
 go_enter Tryz.func112, Tryz.ntmps112
 go_wp2
 go_loopw [8] (fun vi wr => ∃ (i : Nat) (F : Nat → T4), a < i ∧ i ≤ b + 1 ∧ vi = .int .i64 i ∧ Hid (TH wr g F) ∧ Hid (Bar g w wr) ∧ Hid (Sx.Im a (min i b) f F ∧ Sx.Up ltT a (min i b) F)) (fun vi _ => b + 1 - (intOf vi).toNat)
 case atStart => exact ⟨a + 1, f, by omega, by omega, by go_num, HT, Bar.refl _ _, ⟨Sx.Im.refl _ _ _, fun p q g1 g2 g3 => by omega⟩⟩
 case round =>
  obtain ⟨i, F0, hai, hib, rfl, HH, HB, HI⟩ := hrel
  clear HT
  by_cases hlt : i < b
  ·have hltz : (i : Int) < (b : Int) := by omega
   have HI0 : Hid (Sx.Ins ltT a i i f F0) := by
    have e := HI.out
    rw [show min i b = i by omega] at e
    exact Sx.Ins.start (by omega) e.1 e.2
   clear HI
   go_wp2
   go_loopw [9] (fun vj wr => ∃ (j : Nat) (F : Nat → T4), a ≤ j ∧ j ≤ i ∧ vj = .int .i64 j ∧ Hid (TH wr g F) ∧ Hid (Bar g w wr) ∧ Hid (Sx.Ins ltT a i j f F)) (fun vj _ => (intOf vj).toNat)
   case atStart => exact ⟨i, F0, by omega, Nat.le_refl _, rfl, HH, HB, HI0⟩
   case round =>
    clear HI0 HH HB
    obtain ⟨j, F, haj, hji, rfl, HH, HB, HI⟩ := hrel
    by_cases hja : j = a
    ·have HU := hide (Sx.Ins.stop ltT_trans HI.out hlt CR.out (.inl hja))
     subst hja
     have hd : decide ((j : Int) < (j : Int)) = false := by simp
     go_wp2
     refine region_g [] (fun w' => TH w' g F) (by kernel_rfl) ?_
     have hS : TH wr.drew g F := HH.out.drew
     have HB2 : Hid (Bar g w wr.drew) := HB.out.drew
     generalize wr.drew = Y at *
     refine AnyG.take 0 (v := ?vv1) rfl (by kernel_rfl) (by kernel_rfl) (by kernel_rfl) (by kernel_rfl) (fun _ _ _ h => h) hS ?hy1 (by rfl) ?rest1
     case hy1 =>
      intro w0 h0
      go_simp
      try with_reducible rfl
     simp only [Act.put, yq0, yq1, yq2, yq3, yq4, yq5]
     refine AnyG.take 1 (v := ?vv2) rfl (by kernel_rfl) (by kernel_rfl) (by kernel_rfl) (by kernel_rfl) (fun _ _ _ h => h) hS ?hy2 (by rfl) ?rest2
     case hy2 =>
      intro w0 h0
      go_simp
      try with_reducible rfl
     simp only [Act.put, yq0, yq1, yq2, yq3, yq4, yq5]
     refine AnyG.take 2 (v := ?vv3) rfl (by kernel_rfl) (by kernel_rfl) (by kernel_rfl) (by kernel_rfl) (fun _ _ _ h => h) hS ?hy3 (by rfl) ?rest3
     case hy3 =>
      intro w0 h0
      go_simp
      try with_reducible rfl
     simp only [Act.put, yq0, yq1, yq2, yq3, yq4, yq5]
     refine AnyG.take 3 (v := ?vv4) rfl (by kernel_rfl) (by kernel_rfl) (by kernel_rfl) (by kernel_rfl) (fun _ _ _ h => h) hS ?hy4 (by rfl) ?rest4
     case hy4 =>
      intro w0 h0
      go_simp
      try with_reducible rfl
     simp only [Act.put, yq0, yq1, yq2, yq3, yq4, yq5]
     refine AnyG.skip 4 rfl (by kernel_rfl) (by kernel_rfl) (by kernel_rfl) (by kernel_rfl) (fun _ _ _ h => h) hS (by rfl) ?_
     simp only [Act.put, yq0, yq1, yq2, yq3, yq4, yq5]
     refine AnyG.skip 5 rfl (by kernel_rfl) (by kernel_rfl) (by kernel_rfl) (by kernel_rfl) (fun _ _ _ h => h) hS (by rfl) ?_
     simp only [Act.put, yq0, yq1, yq2, yq3, yq4, yq5]
     refine AnyG.skip 6 rfl (by kernel_rfl) (by kernel_rfl) (by kernel_rfl) (by kernel_rfl) (fun _ _ _ h => h) hS (by rfl) ?_
     simp only [Act.put, yq0, yq1, yq2, yq3, yq4, yq5]
     refine AnyG.skip 7 rfl (by kernel_rfl) (by kernel_rfl) (by kernel_rfl) (by kernel_rfl) (fun _ _ _ h => h) hS (by rfl) ?_
     simp only [Act.put, yq0, yq1, yq2, yq3, yq4, yq5]
     refine AnyG.skip 8 rfl (by kernel_rfl) (by kernel_rfl) (by kernel_rfl) (by kernel_rfl) (fun _ _ _ h => h) hS (by rfl) ?_
     simp only [Act.put, yq0, yq1, yq2, yq3, yq4, yq5]
     refine AnyG.skip 9 rfl (by kernel_rfl) (by kernel_rfl) (by kernel_rfl) (by kernel_rfl) (fun _ _ _ h => h) hS (by rfl) ?_
     simp only [Act.put, yq0, yq1, yq2, yq3, yq4, yq5]
     refine AnyG.skip 10 rfl (by kernel_rfl) (by kernel_rfl) (by kernel_rfl) (by kernel_rfl) (fun _ _ _ h => h) hS (by rfl) ?_
     simp only [Act.put, yq0, yq1, yq2, yq3, yq4, yq5]
     refine AnyG.skip 11 rfl (by kernel_rfl) (by kernel_rfl) (by kernel_rfl) (by kernel_rfl) (fun _ _ _ h => h) hS (by rfl) ?_
     simp only [Act.put, yq0, yq1, yq2, yq3, yq4, yq5]
     refine AnyG.skip 12 rfl (by kernel_rfl) (by kernel_rfl) (by kernel_rfl) (by kernel_rfl) (fun _ _ _ h => h) hS (by rfl) ?_
     simp only [Act.put, yq0, yq1, yq2, yq3, yq4, yq5]
     refine AnyG.skip 13 rfl (by kernel_rfl) (by kernel_rfl) (by kernel_rfl) (by kernel_rfl) (fun _ _ _ h => h) hS (by rfl) ?_
     simp only [Act.put, yq0, yq1, yq2, yq3, yq4, yq5]
     refine AnyG.skip 14 rfl (by kernel_rfl) (by kernel_rfl) (by kernel_rfl) (by kernel_rfl) (fun _ _ _ h => h) hS (by rfl) ?_
     simp only [Act.put, yq0, yq1, yq2, yq3, yq4, yq5]
     refine AnyG.skip 15 rfl (by kernel_rfl) (by kernel_rfl) (by kernel_rfl) (by kernel_rfl) (fun _ _ _ h => h) hS (by rfl) ?_
     simp only [Act.put, yq0, yq1, yq2, yq3, yq4, yq5]
     refine AnyG.take 16 (v := ?vv5) rfl (by kernel_rfl) (by kernel_rfl) (by kernel_rfl) (by kernel_rfl) (fun _ _ _ h => h) hS ?hy5 (by rfl) ?rest5
     case hy5 =>
      intro w0 h0
      go_simp
      try with_reducible rfl
     simp only [Act.put, yq0, yq1, yq2, yq3, yq4, yq5]
     refine AnyG.done (by kernel_rfl) ?_ _
     go_wp2
     exact ⟨⟨i + 1, F, by omega, by omega, by go_num, hS, HB2, by show _ ∧ _; rw [show min (i + 1) b = i + 1 by omega]; exact HU.out⟩, by simp only [intOf]; omega⟩
    ·obtain ⟨jp, rfl⟩ : ∃ jp, j = jp + 1 := ⟨j - 1, by omega⟩
     have hjz : (a : Int) < (jp : Int) + 1 := by omega
     have hjL : (jp : Int) + 1 < (L : Int) := by omega
     have hjL2 : (jp : Int) < (L : Int) := by omega
     have hwp : IntKind.i64.wrap (jp : Int) = (jp : Int) := by rw [IntKind.wrap_i64]; omega
     have p0 : (0 : Int) ≤ (jp : Int) + 1 := by omega
     have e0 : ((jp : Int) + 1).toNat = jp + 1 := by omega
     by_cases hc : cT (F (jp + 1)) (F jp) = true
     ·have HI1 := hide (Sx.Ins.step (c := cT) HI.out (by omega) hlt CR.out hc)
      have hv : cvT (F (jp + 1)) (F jp) < 0 := by unfold cT at hc; simpa using hc
      have C1 := hide (C.out (F (jp + 1)) (F jp))
      clear hc HI
      generalize cvT (F (jp + 1)) (F jp) = V at *
      go_wp2
      refine region_g [] (fun w' => TH w' g F) (by kernel_rfl) ?_
      have hS : TH wr.drew g F := HH.out.drew
      have HB2 : Hid (Bar g w wr.drew) := HB.out.drew
      generalize wr.drew = Y at *
      refine AnyG.take 0 (v := ?vv6) rfl (by kernel_rfl) (by kernel_rfl) (by kernel_rfl) (by kernel_rfl) (fun _ _ _ h => h) hS ?hy6 (by rfl) ?rest6
      case hy6 =>
       intro w0 h0
       go_simp
       try with_reducible rfl
      simp only [Act.put, yq0, yq1, yq2, yq3, yq4, yq5]
      refine AnyG.take 1 (v := ?vv7) rfl (by kernel_rfl) (by kernel_rfl) (by kernel_rfl) (by kernel_rfl) (fun _ _ _ h => h) hS ?hy7 (by rfl) ?rest7
      case hy7 =>
       intro w0 h0
       go_simp
       try with_reducible rfl
      simp only [Act.put, yq0, yq1, yq2, yq3, yq4, yq5]
      refine AnyG.take 2 (v := ?vv8) rfl (by kernel_rfl) (by kernel_rfl) (by kernel_rfl) (by kernel_rfl) (fun _ _ _ h => h) hS ?hy8 (by rfl) ?rest8
      case hy8 =>
       intro w0 h0
       go_simp
       try with_reducible rfl
      simp only [Act.put, yq0, yq1, yq2, yq3, yq4, yq5]
      refine AnyG.take 3 (v := ?vv9) rfl (by kernel_rfl) (by kernel_rfl) (by kernel_rfl) (by kernel_rfl) (fun _ _ _ h => h) hS ?hy9 (by rfl) ?rest9
      case hy9 =>
       intro w0 h0
       go_simp
       try with_reducible rfl
      simp only [Act.put, yq0, yq1, yq2, yq3, yq4, yq5]
      refine AnyG.take 4 (v := ?vv10) rfl (by kernel_rfl) (by kernel_rfl) (by kernel_rfl) (by kernel_rfl) (fun _ _ _ h => h) hS ?hy10 (by rfl) ?rest10
      case hy10 =>
       intro w0 h0
       go_simp
       try with_reducible rfl
      simp only [Act.put, yq0, yq1, yq2, yq3, yq4, yq5]
      refine AnyG.take 5 (v := ?vv11) rfl (by kernel_rfl) (by kernel_rfl) (by kernel_rfl) (by kernel_rfl) (fun _ _ _ h => h) hS ?hy11 (by rfl) ?rest11
      case hy11 =>
       intro w0 h0
       go_simp
       try with_reducible rfl
      simp only [Act.put, yq0, yq1, yq2, yq3, yq4, yq5]
      refine AnyG.take 6 (v := ?vv12) rfl (by kernel_rfl) (by kernel_rfl) (by kernel_rfl) (by kernel_rfl) (fun _ _ _ h => h) hS ?hy12 (by rfl) ?rest12
      case hy12 =>
       intro w0 h0
       go_simp
       try with_reducible rfl
      simp only [Act.put, yq0, yq1, yq2, yq3, yq4, yq5]
      refine AnyG.take 7 (v := ?vv13) rfl (by kernel_rfl) (by kernel_rfl) (by kernel_rfl) (by kernel_rfl) (fun _ _ _ h => h) hS ?hy13 (by rfl) ?rest13
      case hy13 =>
       intro w0 h0
       go_simp
       try with_reducible rfl
      simp only [Act.put, yq0, yq1, yq2, yq3, yq4, yq5]
      refine AnyG.take 8 (v := .agg (tc (F (jp + 1))).toArray) rfl (by kernel_rfl) (by kernel_rfl) (by kernel_rfl) (by kernel_rfl) (fun _ _ _ h => h) hS (fun w0 h0 => run_load_th g F (jp + 1) _ (by omega) (by omega) rfl h0) (by rfl) ?rest14
      simp only [Act.put, yq0, yq1, yq2, yq3, yq4, yq5]
      refine AnyG.take 9 (v := ?vv15) rfl (by kernel_rfl) (by kernel_rfl) (by kernel_rfl) (by kernel_rfl) (fun _ _ _ h => h) hS ?hy15 (by rfl) ?rest15
      case hy15 =>
       intro w0 h0
       go_simp
       try with_reducible rfl
      simp only [Act.put, yq0, yq1, yq2, yq3, yq4, yq5]
      refine AnyG.take 10 (v := ?vv16) rfl (by kernel_rfl) (by kernel_rfl) (by kernel_rfl) (by kernel_rfl) (fun _ _ _ h => h) hS ?hy16 (by rfl) ?rest16
      case hy16 =>
       intro w0 h0
       go_simp
       try with_reducible rfl
      simp only [Act.put, yq0, yq1, yq2, yq3, yq4, yq5]
      refine AnyG.take 11 (v := ?vv17) rfl (by kernel_rfl) (by kernel_rfl) (by kernel_rfl) (by kernel_rfl) (fun _ _ _ h => h) hS ?hy17 (by rfl) ?rest17
      case hy17 =>
       intro w0 h0
       go_simp
       try with_reducible rfl
      simp only [Act.put, yq0, yq1, yq2, yq3, yq4, yq5]
      refine AnyG.take 12 (v := ?vv18) rfl (by kernel_rfl) (by kernel_rfl) (by kernel_rfl) (by kernel_rfl) (fun _ _ _ h => h) hS ?hy18 (by rfl) ?rest18
      case hy18 =>
       intro w0 h0
       go_simp
       try with_reducible rfl
      simp only [Act.put, yq0, yq1, yq2, yq3, yq4, yq5]
      refine AnyG.take 13 (v := .agg (tc (F (jp))).toArray) rfl (by kernel_rfl) (by kernel_rfl) (by kernel_rfl) (by kernel_rfl) (fun _ _ _ h => h) hS (fun w0 h0 => run_load_th g F (jp) _ (by omega) (by omega) rfl h0) (by rfl) ?rest19
      simp only [Act.put, yq0, yq1, yq2, yq3, yq4, yq5]
      refine AnyG.one 14 (by kernel_rfl) rfl ?_
      intro K hK
      go_simp
      refine (C1.out _).mono ?_
      rintro e w3 ⟨rfl, hb3⟩
      refine hK.out _ _ (fun _ => hS.kept hb3) ?_
      clear hK K
      try simp only [Act.put, yq0, yq1, yq2, yq3, yq4, yq5]
      replace HB2 : Hid (Bar g w w3) := HB2.out.trans (Bar.of hb3)
      replace hS := hS.kept hb3
      clear hb3
      refine AnyG.take 15 (v := ?vv20) rfl (by kernel_rfl) (by kernel_rfl) (by kernel_rfl) (by kernel_rfl) (fun _ _ _ h => h) hS ?hy20 (by rfl) ?rest20
      case hy20 =>
       intro w0 h0
       go_simp
       try with_reducible rfl
      simp only [Act.put, yq0, yq1, yq2, yq3, yq4, yq5]
      refine AnyG.take 16 (v := ?vv21) rfl (by kernel_rfl) (by kernel_rfl) (by kernel_rfl) (by kernel_rfl) (fun _ _ _ h => h) hS ?hy21 (by rfl) ?rest21
      case hy21 =>
       intro w0 h0
       go_simp
       try with_reducible rfl
      simp only [Act.put, yq0, yq1, yq2, yq3, yq4, yq5]
      refine AnyG.done (by kernel_rfl) ?_ _
      clear HH HB
      have HH : Hid (TH w3 g F) := hS
      have HB := HB2
      clear hS HB2
      go_wp2
      refine region_g [15, 17] (fun w' => TH w' g F) (by kernel_rfl) ?_
      have hS : TH w3.drew g F := HH.out.drew
      have HB2 : Hid (Bar g w w3.drew) := HB.out.drew
      generalize w3.drew = Y at *
      refine AnyG.take 0 (v := ?vv22) rfl (by kernel_rfl) (by kernel_rfl) (by kernel_rfl) (by kernel_rfl) (fun _ _ _ h => h) hS ?hy22 (by rfl) ?rest22
      case hy22 =>
       intro w0 h0
       go_simp
       try with_reducible rfl
      simp only [Act.put, yq0, yq1, yq2, yq3, yq4, yq5]
      refine AnyG.take 1 (v := ?vv23) rfl (by kernel_rfl) (by kernel_rfl) (by kernel_rfl) (by kernel_rfl) (fun _ _ _ h => h) hS ?hy23 (by rfl) ?rest23
      case hy23 =>
       intro w0 h0
       go_simp
       try with_reducible rfl
      simp only [Act.put, yq0, yq1, yq2, yq3, yq4, yq5]
      refine AnyG.take 5 (v := ?vv24) rfl (by kernel_rfl) (by kernel_rfl) (by kernel_rfl) (by kernel_rfl) (fun _ _ _ h => h) hS ?hy24 (by rfl) ?rest24
      case hy24 =>
       intro w0 h0
       go_simp
       try with_reducible rfl
      simp only [Act.put, yq0, yq1, yq2, yq3, yq4, yq5]
      refine AnyG.take 6 (v := ?vv25) rfl (by kernel_rfl) (by kernel_rfl) (by kernel_rfl) (by kernel_rfl) (fun _ _ _ h => h) hS ?hy25 (by rfl) ?rest25
      case hy25 =>
       intro w0 h0
       go_simp
       try with_reducible rfl
      simp only [Act.put, yq0, yq1, yq2, yq3, yq4, yq5]
      refine AnyG.take 7 (v := ?vv26) rfl (by kernel_rfl) (by kernel_rfl) (by kernel_rfl) (by kernel_rfl) (fun _ _ _ h => h) hS ?hy26 (by rfl) ?rest26
      case hy26 =>
       intro w0 h0
       go_simp
       try with_reducible rfl
      simp only [Act.put, yq0, yq1, yq2, yq3, yq4, yq5]
      refine AnyG.take 8 (v := ?vv27) rfl (by kernel_rfl) (by kernel_rfl) (by kernel_rfl) (by kernel_rfl) (fun _ _ _ h => h) hS ?hy27 (by rfl) ?rest27
      case hy27 =>
       intro w0 h0
       go_simp
       try with_reducible rfl
      simp only [Act.put, yq0, yq1, yq2, yq3, yq4, yq5]
      refine AnyG.take 9 (v := .agg (tc (F (jp))).toArray) rfl (by kernel_rfl) (by kernel_rfl) (by kernel_rfl) (by kernel_rfl) (fun _ _ _ h => h) hS (fun w0 h0 => run_load_th g F (jp) _ (by omega) (by omega) rfl h0) (by rfl) ?rest28
      simp only [Act.put, yq0, yq1, yq2, yq3, yq4, yq5]
      refine AnyG.takeW 10 (v := ?vv29) rfl (by kernel_rfl) (by kernel_rfl) (by kernel_rfl) (fun _ _ _ h => h) ?hy29 (by rfl) ?rest29
      case hy29 =>
       intro w0
       go_simp
       try with_reducible rfl
      simp only [Act.put, yq0, yq1, yq2, yq3, yq4, yq5]
      refine AnyG.takeW 11 (v := ?vv30) rfl (by kernel_rfl) (by kernel_rfl) (by kernel_rfl) (fun _ _ _ h => h) ?hy30 (by rfl) ?rest30
      case hy30 =>
       intro w0
       go_simp
       try with_reducible rfl
      simp only [Act.put, yq0, yq1, yq2, yq3, yq4, yq5]
      refine AnyG.takeW 12 (v := ?vv31) rfl (by kernel_rfl) (by kernel_rfl) (by kernel_rfl) (fun _ _ _ h => h) ?hy31 (by rfl) ?rest31
      case hy31 =>
       intro w0
       go_simp
       try with_reducible rfl
      simp only [Act.put, yq0, yq1, yq2, yq3, yq4, yq5]
      refine AnyG.take 13 (v := .agg (tc (F (jp + 1))).toArray) rfl (by kernel_rfl) (by kernel_rfl) (by kernel_rfl) (by kernel_rfl) (fun _ _ _ h => h) hS (fun w0 h0 => run_load_th g F (jp + 1) _ (by omega) (by omega) rfl h0) (by rfl) ?rest32
      simp only [Act.put, yq0, yq1, yq2, yq3, yq4, yq5]
      refine AnyG.takeW 2 (v := ?vv33) rfl (by kernel_rfl) (by kernel_rfl) (by kernel_rfl) (fun _ _ _ h => h) ?hy33 (by rfl) ?rest33
      case hy33 =>
       intro w0
       go_simp
       try with_reducible rfl
      simp only [Act.put, yq0, yq1, yq2, yq3, yq4, yq5]
      refine AnyG.takeW 3 (v := ?vv34) rfl (by kernel_rfl) (by kernel_rfl) (by kernel_rfl) (fun _ _ _ h => h) ?hy34 (by rfl) ?rest34
      case hy34 =>
       intro w0
       go_simp
       try with_reducible rfl
      simp only [Act.put, yq0, yq1, yq2, yq3, yq4, yq5]
      refine AnyG.takeW 4 (v := ?vv35) rfl (by kernel_rfl) (by kernel_rfl) (by kernel_rfl) (fun _ _ _ h => h) ?hy35 (by rfl) ?rest35
      case hy35 =>
       intro w0
       go_simp
       try with_reducible rfl
      simp only [Act.put, yq0, yq1, yq2, yq3, yq4, yq5]
      refine AnyG.takeW 14 (v := ?vv36) rfl (by kernel_rfl) (by kernel_rfl) (by kernel_rfl) (fun _ _ _ h => h) ?hy36 (by rfl) ?rest36
      case hy36 =>
       intro w0
       go_simp
       try with_reducible rfl
      simp only [Act.put, yq0, yq1, yq2, yq3, yq4, yq5]
      refine AnyG.one 15 (by kernel_rfl) rfl ?_
      intro K hK
      refine wp_store_th _ _ rfl g F (jp + 1) _ (F (jp)) (by omega) (by omega) rfl rfl hS ?_
      intro w1 hT1 hB1
      refine hK.out _ _ (fun h => absurd (by decide) h) ?_
      clear hK K
      try simp only [Act.put, yq0, yq1, yq2, yq3, yq4, yq5]
      have HB3 : Hid (Bar g w w1) := HB2.out.trans hB1
      clear hB1 HB2 hS HH HB
      refine AnyG.takeW 16 (v := ?vv37) rfl (by kernel_rfl) (by kernel_rfl) (by kernel_rfl) (fun _ _ _ h => h) ?hy37 (by rfl) ?rest37
      case hy37 =>
       intro w0
       go_simp
       try with_reducible rfl
      simp only [Act.put, yq0, yq1, yq2, yq3, yq4, yq5]
      refine AnyG.one 17 (by kernel_rfl) rfl ?_
      intro K hK
      refine wp_store_th _ _ rfl g _ (jp) _ (F (jp + 1)) (by omega) (by omega) rfl rfl hT1 ?_
      intro w2 hT2 hB2
      refine hK.out _ _ (fun h => absurd (by decide) h) ?_
      clear hK K
      try simp only [Act.put, yq0, yq1, yq2, yq3, yq4, yq5]
      refine AnyG.done (by kernel_rfl) ?_ _
      have HB4 : Hid (Bar g w w2) := HB3.out.trans hB2
      rw [upd_swp F (jp + 1) (jp) (by omega)] at hT2
      have HT2 := hide hT2
      clear hB2 HB3 hT2 hT1
      go_wp2
      exact ⟨⟨jp, _, by omega, by omega, by go_num, HT2, HB4, HI1⟩, by simp only [intOf]; omega⟩
     ·have hc' : cT (F (jp + 1)) (F jp) = false := Bool.eq_false_iff.2 hc
      have HU := hide (Sx.Ins.stop ltT_trans HI.out hlt CR.out (.inr hc'))
      have hv : ¬ cvT (F (jp + 1)) (F jp) < 0 := by unfold cT at hc; simpa using hc
      have C1 := hide (C.out (F (jp + 1)) (F jp))
      clear hc hc' HI
      generalize cvT (F (jp + 1)) (F jp) = V at *
      go_wp2
      refine region_g [] (fun w' => TH w' g F) (by kernel_rfl) ?_
      have hS : TH wr.drew g F := HH.out.drew
      have HB2 : Hid (Bar g w wr.drew) := HB.out.drew
      generalize wr.drew = Y at *
      refine AnyG.take 0 (v := ?vv38) rfl (by kernel_rfl) (by kernel_rfl) (by kernel_rfl) (by kernel_rfl) (fun _ _ _ h => h) hS ?hy38 (by rfl) ?rest38
      case hy38 =>
       intro w0 h0
       go_simp
       try with_reducible rfl
      simp only [Act.put, yq0, yq1, yq2, yq3, yq4, yq5]
      refine AnyG.take 1 (v := ?vv39) rfl (by kernel_rfl) (by kernel_rfl) (by kernel_rfl) (by kernel_rfl) (fun _ _ _ h => h) hS ?hy39 (by rfl) ?rest39
      case hy39 =>
       intro w0 h0
       go_simp
       try with_reducible rfl
      simp only [Act.put, yq0, yq1, yq2, yq3, yq4, yq5]
      refine AnyG.take 2 (v := ?vv40) rfl (by kernel_rfl) (by kernel_rfl) (by kernel_rfl) (by kernel_rfl) (fun _ _ _ h => h) hS ?hy40 (by rfl) ?rest40
      case hy40 =>
       intro w0 h0
       go_simp
       try with_reducible rfl
      simp only [Act.put, yq0, yq1, yq2, yq3, yq4, yq5]
      refine AnyG.take 3 (v := ?vv41) rfl (by kernel_rfl) (by kernel_rfl) (by kernel_rfl) (by kernel_rfl) (fun _ _ _ h => h) hS ?hy41 (by rfl) ?rest41
      case hy41 =>
       intro w0 h0
       go_simp
       try with_reducible rfl
      simp only [Act.put, yq0, yq1, yq2, yq3, yq4, yq5]
      refine AnyG.take 4 (v := ?vv42) rfl (by kernel_rfl) (by kernel_rfl) (by kernel_rfl) (by kernel_rfl) (fun _ _ _ h => h) hS ?hy42 (by rfl) ?rest42
      case hy42 =>
       intro w0 h0
       go_simp
       try with_reducible rfl
      simp only [Act.put, yq0, yq1, yq2, yq3, yq4, yq5]
      refine AnyG.take 5 (v := ?vv43) rfl (by kernel_rfl) (by kernel_rfl) (by kernel_rfl) (by kernel_rfl) (fun _ _ _ h => h) hS ?hy43 (by rfl) ?rest43
      case hy43 =>
       intro w0 h0
       go_simp
       try with_reducible rfl
      simp only [Act.put, yq0, yq1, yq2, yq3, yq4, yq5]
      refine AnyG.take 6 (v := ?vv44) rfl (by kernel_rfl) (by kernel_rfl) (by kernel_rfl) (by kernel_rfl) (fun _ _ _ h => h) hS ?hy44 (by rfl) ?rest44
      case hy44 =>
       intro w0 h0
       go_simp
       try with_reducible rfl
      simp only [Act.put, yq0, yq1, yq2, yq3, yq4, yq5]
      refine AnyG.take 7 (v := ?vv45) rfl (by kernel_rfl) (by kernel_rfl) (by kernel_rfl) (by kernel_rfl) (fun _ _ _ h => h) hS ?hy45 (by rfl) ?rest45
      case hy45 =>
       intro w0 h0
       go_simp
       try with_reducible rfl
      simp only [Act.put, yq0, yq1, yq2, yq3, yq4, yq5]
      refine AnyG.take 8 (v := .agg (tc (F (jp + 1))).toArray) rfl (by kernel_rfl) (by kernel_rfl) (by kernel_rfl) (by kernel_rfl) (fun _ _ _ h => h) hS (fun w0 h0 => run_load_th g F (jp + 1) _ (by omega) (by omega) rfl h0) (by rfl) ?rest46
      simp only [Act.put, yq0, yq1, yq2, yq3, yq4, yq5]
      refine AnyG.take 9 (v := ?vv47) rfl (by kernel_rfl) (by kernel_rfl) (by kernel_rfl) (by kernel_rfl) (fun _ _ _ h => h) hS ?hy47 (by rfl) ?rest47
      case hy47 =>
       intro w0 h0
       go_simp
       try with_reducible rfl
      simp only [Act.put, yq0, yq1, yq2, yq3, yq4, yq5]
      refine AnyG.take 10 (v := ?vv48) rfl (by kernel_rfl) (by kernel_rfl) (by kernel_rfl) (by kernel_rfl) (fun _ _ _ h => h) hS ?hy48 (by rfl) ?rest48
      case hy48 =>
       intro w0 h0
       go_simp
       try with_reducible rfl
      simp only [Act.put, yq0, yq1, yq2, yq3, yq4, yq5]
      refine AnyG.take 11 (v := ?vv49) rfl (by kernel_rfl) (by kernel_rfl) (by kernel_rfl) (by kernel_rfl) (fun _ _ _ h => h) hS ?hy49 (by rfl) ?rest49
      case hy49 =>
       intro w0 h0
       go_simp
       try with_reducible rfl
      simp only [Act.put, yq0, yq1, yq2, yq3, yq4, yq5]
      refine AnyG.take 12 (v := ?vv50) rfl (by kernel_rfl) (by kernel_rfl) (by kernel_rfl) (by kernel_rfl) (fun _ _ _ h => h) hS ?hy50 (by rfl) ?rest50
      case hy50 =>
       intro w0 h0
       go_simp
       try with_reducible rfl
      simp only [Act.put, yq0, yq1, yq2, yq3, yq4, yq5]
      refine AnyG.take 13 (v := .agg (tc (F (jp))).toArray) rfl (by kernel_rfl) (by kernel_rfl) (by kernel_rfl) (by kernel_rfl) (fun _ _ _ h => h) hS (fun w0 h0 => run_load_th g F (jp) _ (by omega) (by omega) rfl h0) (by rfl) ?rest51
      simp only [Act.put, yq0, yq1, yq2, yq3, yq4, yq5]
      refine AnyG.one 14 (by kernel_rfl) rfl ?_
      intro K hK
      go_simp
      refine (C1.out _).mono ?_
      rintro e w3 ⟨rfl, hb3⟩
      refine hK.out _ _ (fun _ => hS.kept hb3) ?_
      clear hK K
      try simp only [Act.put, yq0, yq1, yq2, yq3, yq4, yq5]
      replace HB2 : Hid (Bar g w w3) := HB2.out.trans (Bar.of hb3)
      replace hS := hS.kept hb3
      clear hb3
      refine AnyG.take 15 (v := ?vv52) rfl (by kernel_rfl) (by kernel_rfl) (by kernel_rfl) (by kernel_rfl) (fun _ _ _ h => h) hS ?hy52 (by rfl) ?rest52
      case hy52 =>
       intro w0 h0
       go_simp
       try with_reducible rfl
      simp only [Act.put, yq0, yq1, yq2, yq3, yq4, yq5]
      refine AnyG.take 16 (v := ?vv53) rfl (by kernel_rfl) (by kernel_rfl) (by kernel_rfl) (by kernel_rfl) (fun _ _ _ h => h) hS ?hy53 (by rfl) ?rest53
      case hy53 =>
       intro w0 h0
       go_simp
       try with_reducible rfl
      simp only [Act.put, yq0, yq1, yq2, yq3, yq4, yq5]
      refine AnyG.done (by kernel_rfl) ?_ _
      go_wp2
      exact ⟨⟨i + 1, F, by omega, by omega, by go_num, hS, HB2, by show _ ∧ _; rw [show min (i + 1) b = i + 1 by omega]; exact HU.out⟩, by simp only [intOf]; omega⟩
  ·have hltz : ¬ (i : Int) < (b : Int) := by omega
   have HI2 : Hid (Sx.Im a b f F0 ∧ Sx.Up ltT a b F0) := by
    have e := HI.out
    rw [show min i b = b by omega] at e
    exact e
   go_wp2
   refine bodyPost_end (results_none rfl _ _ _) rfl ?_
   exact ⟨rfl, SO.mk _ HH.out HI2.out HB.out⟩
end Go.Proofs.YtcaalcjcpddhaaaGreat.Zz
