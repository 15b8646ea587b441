/-
  The contract of the sort's merging.
-/
import Derived.Test.YtcaalcjcpddhaaaGreatS11
set_option linter.unusedVariables false
set_option linter.unusedSimpArgs false
set_option maxRecDepth 100000
namespace Go.Proofs.YtcaalcjcpddhaaaGreat.Zz
open Go.RowKit
set_option maxHeartbeats 8000000 in
theorem jsym1_c (g L cap a m b : Nat) (f : Nat → T4) (w : World) (hT : TH w g f) (h1 : a < m) (h2 : m < b) (h3 : b ≤ L) (h4 : L ≤ 511) (M : Sx.Mg cT ltT a m b f) (h5 : m = a + 1) :
  Calls Tryz.prog 113 #[.slice (some ⟨g, 0, none⟩) L cap, .int .i64 a, .int .i64 m, .int .i64 b, .func (.func 99) #[] #[]] w fun e w' => e = .returned (.tuple #[]) ∧ SO g w (fun f' => Sx.Im a b f f' ∧ Sx.Up ltT a b f') w' := by
 have HT := hide hT
 have HM := hide M
 have C : Hid (∀ (x y : T4) (w0 : World), Calls Tryz.prog 99 #[.agg (tc x).toArray, .agg (tc y).toArray] w0 fun e w' => e = .returned (.int .i64 (cvT x y)) ∧ Below w0.heap.size w0 w') := fun x y w0 => jless_c x y w0
 clear hT M
 have q1 : ((m : Int) - (a : Int) == 1) = true := by simp; omega
 have H5 := hide h5
 have h6 : a < m := h1
 clear h5
 go_enter Tryz.func113, Tryz.ntmps113
 go_wp2
 go_loopw [10, 11] (fun vi vj wr => ∃ (i j : Nat), i ≤ j ∧ j ≤ b ∧ m ≤ i ∧ vi = .int .i64 i ∧ vj = .int .i64 j ∧ Hid (TH wr g f) ∧ Hid (Bar g w wr) ∧ Hid (Sx.B1 ltT a m b i j f)) (fun vi vj _ => (intOf vj).toNat - (intOf vi).toNat)
 case atStart => exact ⟨m, b, by omega, by omega, by omega, rfl, rfl, HT, Bar.refl _ _, Sx.B1.start _ _ _ _ _ (by omega)⟩
 case round =>
  obtain ⟨i, j, hib, hjb, hai, rfl, rfl, HH, HB, HI⟩ := hrel
  clear q1 HT
  by_cases hlt : i < j
  ·have hltz : (i : Int) < (j : Int) := by omega
   obtain ⟨hm, hh⟩ : ∃ hm : Nat, hm = (i + j) / 2 := ⟨_, rfl⟩
   have hz : ((i : Int) + (j : Int)) / 2 = (hm : Int) := by omega
   have hi1 : i ≤ hm := by omega
   have hi2 : hm < j := by omega
   have hmL : (hm : Int) < (L : Int) := by omega
   clear hh
   have haL : (a : Int) < (L : Int) := by omega
   have C1 := hide (C.out (f hm) (f a))
   by_cases hc : cT (f hm) (f a) = true
   ·have HI1 := hide (Sx.B1.up ltT_trans HM.out HI.out (by omega) hi1 hi2 hc)
    have hv : cvT (f hm) (f a) < 0 := by unfold cT at hc; simpa using hc
    clear hc HI
    generalize cvT (f hm) (f a) = V at *
    go_wp2
    refine region_g [] (fun w' => TH w' g f) (by kernel_rfl) ?_
    have hS : TH wr.drew g f := HH.out.drew
    have HB2 : Hid (Bar g w wr.drew) := HB.out.drew
    generalize wr.drew = Y at *
    refine AnyG.take 0 (v := ?vv1) rfl (by kernel_rfl) (by kernel_rfl) (by kernel_rfl) (by kernel_rfl) (fun _ _ _ h => h) hS ?hy1 (by rfl) ?rest1
    case hy1 =>
     intro w0 h0
     go_simp
     try with_reducible rfl
    simp only [Act.put, yq0, yq1, yq2, yq3, yq4, yq5]
    refine AnyG.take 1 (v := ?vv2) rfl (by kernel_rfl) (by kernel_rfl) (by kernel_rfl) (by kernel_rfl) (fun _ _ _ h => h) hS ?hy2 (by rfl) ?rest2
    case hy2 =>
     intro w0 h0
     go_simp
     try with_reducible rfl
    simp only [Act.put, yq0, yq1, yq2, yq3, yq4, yq5]
    refine AnyG.take 2 (v := ?vv3) rfl (by kernel_rfl) (by kernel_rfl) (by kernel_rfl) (by kernel_rfl) (fun _ _ _ h => h) hS ?hy3 (by rfl) ?rest3
    case hy3 =>
     intro w0 h0
     go_simp
     try with_reducible rfl
    simp only [Act.put, yq0, yq1, yq2, yq3, yq4, yq5]
    refine AnyG.take 3 (v := ?vv4) rfl (by kernel_rfl) (by kernel_rfl) (by kernel_rfl) (by kernel_rfl) (fun _ _ _ h => h) hS ?hy4 (by rfl) ?rest4
    case hy4 =>
     intro w0 h0
     go_simp
     try with_reducible rfl
    simp only [Act.put, yq0, yq1, yq2, yq3, yq4, yq5]
    refine AnyG.take 4 (v := .agg (tc (f (hm))).toArray) rfl (by kernel_rfl) (by kernel_rfl) (by kernel_rfl) (by kernel_rfl) (fun _ _ _ h => h) hS (fun w0 h0 => run_load_th g f (hm) _ (by omega) (by omega) rfl h0) (by rfl) ?rest5
    simp only [Act.put, yq0, yq1, yq2, yq3, yq4, yq5]
    refine AnyG.take 5 (v := ?vv6) rfl (by kernel_rfl) (by kernel_rfl) (by kernel_rfl) (by kernel_rfl) (fun _ _ _ h => h) hS ?hy6 (by rfl) ?rest6
    case hy6 =>
     intro w0 h0
     go_simp
     try with_reducible rfl
    simp only [Act.put, yq0, yq1, yq2, yq3, yq4, yq5]
    refine AnyG.take 6 (v := ?vv7) rfl (by kernel_rfl) (by kernel_rfl) (by kernel_rfl) (by kernel_rfl) (fun _ _ _ h => h) hS ?hy7 (by rfl) ?rest7
    case hy7 =>
     intro w0 h0
     go_simp
     try with_reducible rfl
    simp only [Act.put, yq0, yq1, yq2, yq3, yq4, yq5]
    refine AnyG.take 7 (v := ?vv8) rfl (by kernel_rfl) (by kernel_rfl) (by kernel_rfl) (by kernel_rfl) (fun _ _ _ h => h) hS ?hy8 (by rfl) ?rest8
    case hy8 =>
     intro w0 h0
     go_simp
     try with_reducible rfl
    simp only [Act.put, yq0, yq1, yq2, yq3, yq4, yq5]
    refine AnyG.take 8 (v := .agg (tc (f (a))).toArray) rfl (by kernel_rfl) (by kernel_rfl) (by kernel_rfl) (by kernel_rfl) (fun _ _ _ h => h) hS (fun w0 h0 => run_load_th g f (a) _ (by omega) (by omega) rfl h0) (by rfl) ?rest9
    simp only [Act.put, yq0, yq1, yq2, yq3, yq4, yq5]
    refine AnyG.one 9 (by kernel_rfl) rfl ?_
    intro K hK
    go_simp
    refine (C1.out _).mono ?_
    rintro e w3 ⟨rfl, hb3⟩
    refine hK.out _ _ (fun _ => hS.kept hb3) ?_
    clear hK K
    try simp only [Act.put, yq0, yq1, yq2, yq3, yq4, yq5]
    replace HB2 : Hid (Bar g w w3) := HB2.out.trans (Bar.of hb3)
    replace hS := hS.kept hb3
    clear hb3
    refine AnyG.take 10 (v := ?vv10) rfl (by kernel_rfl) (by kernel_rfl) (by kernel_rfl) (by kernel_rfl) (fun _ _ _ h => h) hS ?hy10 (by rfl) ?rest10
    case hy10 =>
     intro w0 h0
     go_simp
     try with_reducible rfl
    simp only [Act.put, yq0, yq1, yq2, yq3, yq4, yq5]
    refine AnyG.done (by kernel_rfl) ?_ _
    go_wp2
    exact ⟨⟨hm + 1, j, by omega, by omega, by omega, by go_num, rfl, hS, HB2, HI1⟩, by simp only [intOf]; omega⟩
   ·have hc' : cT (f hm) (f a) = false := Bool.eq_false_iff.2 hc
    have HI1 := hide (Sx.B1.down ltT_trans HM.out HI.out (by omega) hi1 hi2 hc')
    have hv : ¬ cvT (f hm) (f a) < 0 := by unfold cT at hc; simpa using hc
    clear hc hc' HI
    generalize cvT (f hm) (f a) = V at *
    go_wp2
    refine region_g [] (fun w' => TH w' g f) (by kernel_rfl) ?_
    have hS : TH wr.drew g f := HH.out.drew
    have HB2 : Hid (Bar g w wr.drew) := HB.out.drew
    generalize wr.drew = Y at *
    refine AnyG.take 0 (v := ?vv11) rfl (by kernel_rfl) (by kernel_rfl) (by kernel_rfl) (by kernel_rfl) (fun _ _ _ h => h) hS ?hy11 (by rfl) ?rest11
    case hy11 =>
     intro w0 h0
     go_simp
     try with_reducible rfl
    simp only [Act.put, yq0, yq1, yq2, yq3, yq4, yq5]
    refine AnyG.take 1 (v := ?vv12) rfl (by kernel_rfl) (by kernel_rfl) (by kernel_rfl) (by kernel_rfl) (fun _ _ _ h => h) hS ?hy12 (by rfl) ?rest12
    case hy12 =>
     intro w0 h0
     go_simp
     try with_reducible rfl
    simp only [Act.put, yq0, yq1, yq2, yq3, yq4, yq5]
    refine AnyG.take 2 (v := ?vv13) rfl (by kernel_rfl) (by kernel_rfl) (by kernel_rfl) (by kernel_rfl) (fun _ _ _ h => h) hS ?hy13 (by rfl) ?rest13
    case hy13 =>
     intro w0 h0
     go_simp
     try with_reducible rfl
    simp only [Act.put, yq0, yq1, yq2, yq3, yq4, yq5]
    refine AnyG.take 3 (v := ?vv14) rfl (by kernel_rfl) (by kernel_rfl) (by kernel_rfl) (by kernel_rfl) (fun _ _ _ h => h) hS ?hy14 (by rfl) ?rest14
    case hy14 =>
     intro w0 h0
     go_simp
     try with_reducible rfl
    simp only [Act.put, yq0, yq1, yq2, yq3, yq4, yq5]
    refine AnyG.take 4 (v := .agg (tc (f (hm))).toArray) rfl (by kernel_rfl) (by kernel_rfl) (by kernel_rfl) (by kernel_rfl) (fun _ _ _ h => h) hS (fun w0 h0 => run_load_th g f (hm) _ (by omega) (by omega) rfl h0) (by rfl) ?rest15
    simp only [Act.put, yq0, yq1, yq2, yq3, yq4, yq5]
    refine AnyG.take 5 (v := ?vv16) rfl (by kernel_rfl) (by kernel_rfl) (by kernel_rfl) (by kernel_rfl) (fun _ _ _ h => h) hS ?hy16 (by rfl) ?rest16
    case hy16 =>
     intro w0 h0
     go_simp
     try with_reducible rfl
    simp only [Act.put, yq0, yq1, yq2, yq3, yq4, yq5]
    refine AnyG.take 6 (v := ?vv17) rfl (by kernel_rfl) (by kernel_rfl) (by kernel_rfl) (by kernel_rfl) (fun _ _ _ h => h) hS ?hy17 (by rfl) ?rest17
    case hy17 =>
     intro w0 h0
     go_simp
     try with_reducible rfl
    simp only [Act.put, yq0, yq1, yq2, yq3, yq4, yq5]
    refine AnyG.take 7 (v := ?vv18) rfl (by kernel_rfl) (by kernel_rfl) (by kernel_rfl) (by kernel_rfl) (fun _ _ _ h => h) hS ?hy18 (by rfl) ?rest18
    case hy18 =>
     intro w0 h0
     go_simp
     try with_reducible rfl
    simp only [Act.put, yq0, yq1, yq2, yq3, yq4, yq5]
    refine AnyG.take 8 (v := .agg (tc (f (a))).toArray) rfl (by kernel_rfl) (by kernel_rfl) (by kernel_rfl) (by kernel_rfl) (fun _ _ _ h => h) hS (fun w0 h0 => run_load_th g f (a) _ (by omega) (by omega) rfl h0) (by rfl) ?rest19
    simp only [Act.put, yq0, yq1, yq2, yq3, yq4, yq5]
    refine AnyG.one 9 (by kernel_rfl) rfl ?_
    intro K hK
    go_simp
    refine (C1.out _).mono ?_
    rintro e w3 ⟨rfl, hb3⟩
    refine hK.out _ _ (fun _ => hS.kept hb3) ?_
    clear hK K
    try simp only [Act.put, yq0, yq1, yq2, yq3, yq4, yq5]
    replace HB2 : Hid (Bar g w w3) := HB2.out.trans (Bar.of hb3)
    replace hS := hS.kept hb3
    clear hb3
    refine AnyG.take 10 (v := ?vv20) rfl (by kernel_rfl) (by kernel_rfl) (by kernel_rfl) (by kernel_rfl) (fun _ _ _ h => h) hS ?hy20 (by rfl) ?rest20
    case hy20 =>
     intro w0 h0
     go_simp
     try with_reducible rfl
    simp only [Act.put, yq0, yq1, yq2, yq3, yq4, yq5]
    refine AnyG.done (by kernel_rfl) ?_ _
    go_wp2
    exact ⟨⟨i, hm, by omega, by omega, by omega, rfl, rfl, hS, HB2, HI1⟩, by simp only [intOf]; omega⟩
  ·obtain rfl : j = i := by omega
   obtain ⟨ip, rfl⟩ : ∃ ip, j = ip + 1 := ⟨j - 1, by omega⟩
   have HD : Hid (Sx.Im a b f (Sx.shl f a ip) ∧ Sx.Up ltT a b (Sx.shl f a ip)) := by
    have e1 := HM.out
    have e2 := HI.out
    rw [H5.out] at e1 e2
    exact Sx.B1.done e1 e2
   have hwp : IntKind.i64.wrap (ip : Int) = (ip : Int) := by rw [IntKind.wrap_i64]; omega
   have HH0 : Hid (TH wr g (Sx.shl f a a)) := by show TH wr g _; rw [Sx.shl_start]; exact HH.out
   clear HI HH C
   go_wp2
   go_loopw [13] (fun vk wr => ∃ k : Nat, a ≤ k ∧ k ≤ ip ∧ vk = .int .i64 k ∧ Hid (TH wr g (Sx.shl f a k)) ∧ Hid (Bar g w wr)) (fun vk _ => ip - (intOf vk).toNat)
   case atStart => exact ⟨a, by omega, by omega, rfl, HH0, HB⟩
   case round =>
    clear HH0 HB
    obtain ⟨k, hak, hkb, rfl, HH, HB⟩ := hrel
    by_cases hk : k < ip
    ·have hkz : (k : Int) < (ip : Int) := by omega
     have kL : (k : Int) < (L : Int) := by omega
     have kL2 : (k : Int) + 1 < (L : Int) := by omega
     have p0 : (0 : Int) ≤ (k : Int) + 1 := by omega
     have e0 : ((k : Int) + 1).toNat = k + 1 := by omega
     have wk : IntKind.i64.wrap ((k : Int) + 1) = (k : Int) + 1 := by rw [IntKind.wrap_i64]; omega
     have HE := hide (Sx.shl_step f a k hak)
     generalize Sx.shl f a k = F at *
     go_wp2
     refine region_g [15, 17] (fun w' => TH w' g F) (by kernel_rfl) ?_
     have hS : TH wr.drew g F := HH.out.drew
     have HB2 : Hid (Bar g w wr.drew) := HB.out.drew
     generalize wr.drew = Y at *
     refine AnyG.take 0 (v := ?vv21) rfl (by kernel_rfl) (by kernel_rfl) (by kernel_rfl) (by kernel_rfl) (fun _ _ _ h => h) hS ?hy21 (by rfl) ?rest21
     case hy21 =>
      intro w0 h0
      go_simp
      try with_reducible rfl
     simp only [Act.put, yq0, yq1, yq2, yq3, yq4, yq5]
     refine AnyG.take 1 (v := ?vv22) rfl (by kernel_rfl) (by kernel_rfl) (by kernel_rfl) (by kernel_rfl) (fun _ _ _ h => h) hS ?hy22 (by rfl) ?rest22
     case hy22 =>
      intro w0 h0
      go_simp
      try with_reducible rfl
     simp only [Act.put, yq0, yq1, yq2, yq3, yq4, yq5]
     refine AnyG.take 5 (v := ?vv23) rfl (by kernel_rfl) (by kernel_rfl) (by kernel_rfl) (by kernel_rfl) (fun _ _ _ h => h) hS ?hy23 (by rfl) ?rest23
     case hy23 =>
      intro w0 h0
      go_simp
      try with_reducible rfl
     simp only [Act.put, yq0, yq1, yq2, yq3, yq4, yq5]
     refine AnyG.take 6 (v := ?vv24) rfl (by kernel_rfl) (by kernel_rfl) (by kernel_rfl) (by kernel_rfl) (fun _ _ _ h => h) hS ?hy24 (by rfl) ?rest24
     case hy24 =>
      intro w0 h0
      go_simp
      try with_reducible rfl
     simp only [Act.put, yq0, yq1, yq2, yq3, yq4, yq5]
     refine AnyG.take 7 (v := ?vv25) rfl (by kernel_rfl) (by kernel_rfl) (by kernel_rfl) (by kernel_rfl) (fun _ _ _ h => h) hS ?hy25 (by rfl) ?rest25
     case hy25 =>
      intro w0 h0
      go_simp
      try with_reducible rfl
     simp only [Act.put, yq0, yq1, yq2, yq3, yq4, yq5]
     refine AnyG.take 8 (v := ?vv26) rfl (by kernel_rfl) (by kernel_rfl) (by kernel_rfl) (by kernel_rfl) (fun _ _ _ h => h) hS ?hy26 (by rfl) ?rest26
     case hy26 =>
      intro w0 h0
      go_simp
      try with_reducible rfl
     simp only [Act.put, yq0, yq1, yq2, yq3, yq4, yq5]
     refine AnyG.take 9 (v := .agg (tc (F (k + 1))).toArray) rfl (by kernel_rfl) (by kernel_rfl) (by kernel_rfl) (by kernel_rfl) (fun _ _ _ h => h) hS (fun w0 h0 => run_load_th g F (k + 1) _ (by omega) (by omega) rfl h0) (by rfl) ?rest27
     simp only [Act.put, yq0, yq1, yq2, yq3, yq4, yq5]
     refine AnyG.takeW 10 (v := ?vv28) rfl (by kernel_rfl) (by kernel_rfl) (by kernel_rfl) (fun _ _ _ h => h) ?hy28 (by rfl) ?rest28
     case hy28 =>
      intro w0
      go_simp
      try with_reducible rfl
     simp only [Act.put, yq0, yq1, yq2, yq3, yq4, yq5]
     refine AnyG.takeW 11 (v := ?vv29) rfl (by kernel_rfl) (by kernel_rfl) (by kernel_rfl) (fun _ _ _ h => h) ?hy29 (by rfl) ?rest29
     case hy29 =>
      intro w0
      go_simp
      try with_reducible rfl
     simp only [Act.put, yq0, yq1, yq2, yq3, yq4, yq5]
     refine AnyG.takeW 12 (v := ?vv30) rfl (by kernel_rfl) (by kernel_rfl) (by kernel_rfl) (fun _ _ _ h => h) ?hy30 (by rfl) ?rest30
     case hy30 =>
      intro w0
      go_simp
      try with_reducible rfl
     simp only [Act.put, yq0, yq1, yq2, yq3, yq4, yq5]
     refine AnyG.take 13 (v := .agg (tc (F (k))).toArray) rfl (by kernel_rfl) (by kernel_rfl) (by kernel_rfl) (by kernel_rfl) (fun _ _ _ h => h) hS (fun w0 h0 => run_load_th g F (k) _ (by omega) (by omega) rfl h0) (by rfl) ?rest31
     simp only [Act.put, yq0, yq1, yq2, yq3, yq4, yq5]
     refine AnyG.takeW 2 (v := ?vv32) rfl (by kernel_rfl) (by kernel_rfl) (by kernel_rfl) (fun _ _ _ h => h) ?hy32 (by rfl) ?rest32
     case hy32 =>
      intro w0
      go_simp
      try with_reducible rfl
     simp only [Act.put, yq0, yq1, yq2, yq3, yq4, yq5]
     refine AnyG.takeW 3 (v := ?vv33) rfl (by kernel_rfl) (by kernel_rfl) (by kernel_rfl) (fun _ _ _ h => h) ?hy33 (by rfl) ?rest33
     case hy33 =>
      intro w0
      go_simp
      try with_reducible rfl
     simp only [Act.put, yq0, yq1, yq2, yq3, yq4, yq5]
     refine AnyG.takeW 4 (v := ?vv34) rfl (by kernel_rfl) (by kernel_rfl) (by kernel_rfl) (fun _ _ _ h => h) ?hy34 (by rfl) ?rest34
     case hy34 =>
      intro w0
      go_simp
      try with_reducible rfl
     simp only [Act.put, yq0, yq1, yq2, yq3, yq4, yq5]
     refine AnyG.takeW 14 (v := ?vv35) rfl (by kernel_rfl) (by kernel_rfl) (by kernel_rfl) (fun _ _ _ h => h) ?hy35 (by rfl) ?rest35
     case hy35 =>
      intro w0
      go_simp
      try with_reducible rfl
     simp only [Act.put, yq0, yq1, yq2, yq3, yq4, yq5]
     refine AnyG.one 15 (by kernel_rfl) rfl ?_
     intro K hK
     refine wp_store_th _ _ rfl g F (k) _ (F (k + 1)) (by omega) (by omega) rfl rfl hS ?_
     intro w1 hT1 hB1
     refine hK.out _ _ (fun h => absurd (by decide) h) ?_
     clear hK K
     try simp only [Act.put, yq0, yq1, yq2, yq3, yq4, yq5]
     have HB3 : Hid (Bar g w w1) := HB2.out.trans hB1
     clear hB1 HB2 hS HH HB
     refine AnyG.takeW 16 (v := ?vv36) rfl (by kernel_rfl) (by kernel_rfl) (by kernel_rfl) (fun _ _ _ h => h) ?hy36 (by rfl) ?rest36
     case hy36 =>
      intro w0
      go_simp
      try with_reducible rfl
     simp only [Act.put, yq0, yq1, yq2, yq3, yq4, yq5]
     refine AnyG.one 17 (by kernel_rfl) rfl ?_
     intro K hK
     refine wp_store_th _ _ rfl g _ (k + 1) _ (F (k)) (by omega) (by omega) rfl rfl hT1 ?_
     intro w2 hT2 hB2
     refine hK.out _ _ (fun h => absurd (by decide) h) ?_
     clear hK K
     try simp only [Act.put, yq0, yq1, yq2, yq3, yq4, yq5]
     refine AnyG.done (by kernel_rfl) ?_ _
     have HB4 : Hid (Bar g w w2) := HB3.out.trans hB2
     rw [upd_swp F (k) (k + 1) (by omega)] at hT2
     have HT2 := hide hT2
     clear hB2 HB3 hT2 hT1
     rw [HE.out] at HT2
     go_wp2
     exact ⟨⟨k + 1, by omega, by omega, by go_num, HT2, HB4⟩, by simp only [intOf]; omega⟩
    ·obtain rfl : k = ip := by omega
     go_wp2
     (try simp only [Exit.inBlock, Exit.then])
     exact bodyPost_ret (results_none rfl _ _ _) rfl ⟨rfl, SO.mk _ HH.out HD.out HB.out⟩
set_option maxHeartbeats 8000000 in
theorem jsym2_c (g L cap a m b : Nat) (f : Nat → T4) (w : World) (hT : TH w g f) (h1 : a < m) (h2 : m < b) (h3 : b ≤ L) (h4 : L ≤ 511) (M : Sx.Mg cT ltT a m b f) (h5 : a + 1 < m) (h6 : b = m + 1) :
  Calls Tryz.prog 113 #[.slice (some ⟨g, 0, none⟩) L cap, .int .i64 a, .int .i64 m, .int .i64 b, .func (.func 99) #[] #[]] w fun e w' => e = .returned (.tuple #[]) ∧ SO g w (fun f' => Sx.Im a b f f' ∧ Sx.Up ltT a b f') w' := by
 have HT := hide hT
 have HM := hide M
 have C : Hid (∀ (x y : T4) (w0 : World), Calls Tryz.prog 99 #[.agg (tc x).toArray, .agg (tc y).toArray] w0 fun e w' => e = .returned (.int .i64 (cvT x y)) ∧ Below w0.heap.size w0 w') := fun x y w0 => jless_c x y w0
 clear hT M
 have q1 : ((m : Int) - (a : Int) == 1) = false := by simp; omega
 have q2 : ((b : Int) - (m : Int) == 1) = true := by simp; omega
 have H6 := hide h6
 clear h6
 go_enter Tryz.func113, Tryz.ntmps113
 go_wp2
 go_loopw [14, 15] (fun vi vj wr => ∃ (i j : Nat), a ≤ i ∧ i ≤ j ∧ j ≤ m ∧ vi = .int .i64 i ∧ vj = .int .i64 j ∧ Hid (TH wr g f) ∧ Hid (Bar g w wr) ∧ Hid (Sx.B2 ltT a m i j f)) (fun vi vj _ => (intOf vj).toNat - (intOf vi).toNat)
 case atStart => exact ⟨a, m, by omega, by omega, by omega, rfl, rfl, HT, Bar.refl _ _, Sx.B2.start _ _ _ _ (by omega)⟩
 case round =>
  obtain ⟨i, j, hai, hib, hjb, rfl, rfl, HH, HB, HI⟩ := hrel
  clear q1 q2 HT
  by_cases hlt : i < j
  ·have hltz : (i : Int) < (j : Int) := by omega
   obtain ⟨hm, hh⟩ : ∃ hm : Nat, hm = (i + j) / 2 := ⟨_, rfl⟩
   have hz : ((i : Int) + (j : Int)) / 2 = (hm : Int) := by omega
   have hi1 : i ≤ hm := by omega
   have hi2 : hm < j := by omega
   have hmL : (hm : Int) < (L : Int) := by omega
   clear hh
   have haL : (m : Int) < (L : Int) := by omega
   have C1 := hide (C.out (f m) (f hm))
   by_cases hc : cT (f m) (f hm) = true
   ·have HI1 := hide (Sx.B2.down ltT_trans HM.out HI.out (by omega) hi1 hi2 hc)
    have hv : cvT (f m) (f hm) < 0 := by unfold cT at hc; simpa using hc
    clear hc HI
    generalize cvT (f m) (f hm) = V at *
    go_wp2
    refine region_g [] (fun w' => TH w' g f) (by kernel_rfl) ?_
    have hS : TH wr.drew g f := HH.out.drew
    have HB2 : Hid (Bar g w wr.drew) := HB.out.drew
    generalize wr.drew = Y at *
    refine AnyG.take 0 (v := ?vv37) rfl (by kernel_rfl) (by kernel_rfl) (by kernel_rfl) (by kernel_rfl) (fun _ _ _ h => h) hS ?hy37 (by rfl) ?rest37
    case hy37 =>
     intro w0 h0
     go_simp
     try with_reducible rfl
    simp only [Act.put, yq0, yq1, yq2, yq3, yq4, yq5]
    refine AnyG.take 1 (v := ?vv38) rfl (by kernel_rfl) (by kernel_rfl) (by kernel_rfl) (by kernel_rfl) (fun _ _ _ h => h) hS ?hy38 (by rfl) ?rest38
    case hy38 =>
     intro w0 h0
     go_simp
     try with_reducible rfl
    simp only [Act.put, yq0, yq1, yq2, yq3, yq4, yq5]
    refine AnyG.take 2 (v := ?vv39) rfl (by kernel_rfl) (by kernel_rfl) (by kernel_rfl) (by kernel_rfl) (fun _ _ _ h => h) hS ?hy39 (by rfl) ?rest39
    case hy39 =>
     intro w0 h0
     go_simp
     try with_reducible rfl
    simp only [Act.put, yq0, yq1, yq2, yq3, yq4, yq5]
    refine AnyG.take 3 (v := ?vv40) rfl (by kernel_rfl) (by kernel_rfl) (by kernel_rfl) (by kernel_rfl) (fun _ _ _ h => h) hS ?hy40 (by rfl) ?rest40
    case hy40 =>
     intro w0 h0
     go_simp
     try with_reducible rfl
    simp only [Act.put, yq0, yq1, yq2, yq3, yq4, yq5]
    refine AnyG.take 4 (v := .agg (tc (f (m))).toArray) rfl (by kernel_rfl) (by kernel_rfl) (by kernel_rfl) (by kernel_rfl) (fun _ _ _ h => h) hS (fun w0 h0 => run_load_th g f (m) _ (by omega) (by omega) rfl h0) (by rfl) ?rest41
    simp only [Act.put, yq0, yq1, yq2, yq3, yq4, yq5]
    refine AnyG.take 5 (v := ?vv42) rfl (by kernel_rfl) (by kernel_rfl) (by kernel_rfl) (by kernel_rfl) (fun _ _ _ h => h) hS ?hy42 (by rfl) ?rest42
    case hy42 =>
     intro w0 h0
     go_simp
     try with_reducible rfl
    simp only [Act.put, yq0, yq1, yq2, yq3, yq4, yq5]
    refine AnyG.take 6 (v := ?vv43) rfl (by kernel_rfl) (by kernel_rfl) (by kernel_rfl) (by kernel_rfl) (fun _ _ _ h => h) hS ?hy43 (by rfl) ?rest43
    case hy43 =>
     intro w0 h0
     go_simp
     try with_reducible rfl
    simp only [Act.put, yq0, yq1, yq2, yq3, yq4, yq5]
    refine AnyG.take 7 (v := ?vv44) rfl (by kernel_rfl) (by kernel_rfl) (by kernel_rfl) (by kernel_rfl) (fun _ _ _ h => h) hS ?hy44 (by rfl) ?rest44
    case hy44 =>
     intro w0 h0
     go_simp
     try with_reducible rfl
    simp only [Act.put, yq0, yq1, yq2, yq3, yq4, yq5]
    refine AnyG.take 8 (v := .agg (tc (f (hm))).toArray) rfl (by kernel_rfl) (by kernel_rfl) (by kernel_rfl) (by kernel_rfl) (fun _ _ _ h => h) hS (fun w0 h0 => run_load_th g f (hm) _ (by omega) (by omega) rfl h0) (by rfl) ?rest45
    simp only [Act.put, yq0, yq1, yq2, yq3, yq4, yq5]
    refine AnyG.one 9 (by kernel_rfl) rfl ?_
    intro K hK
    go_simp
    refine (C1.out _).mono ?_
    rintro e w3 ⟨rfl, hb3⟩
    refine hK.out _ _ (fun _ => hS.kept hb3) ?_
    clear hK K
    try simp only [Act.put, yq0, yq1, yq2, yq3, yq4, yq5]
    replace HB2 : Hid (Bar g w w3) := HB2.out.trans (Bar.of hb3)
    replace hS := hS.kept hb3
    clear hb3
    refine AnyG.take 10 (v := ?vv46) rfl (by kernel_rfl) (by kernel_rfl) (by kernel_rfl) (by kernel_rfl) (fun _ _ _ h => h) hS ?hy46 (by rfl) ?rest46
    case hy46 =>
     intro w0 h0
     go_simp
     try with_reducible rfl
    simp only [Act.put, yq0, yq1, yq2, yq3, yq4, yq5]
    refine AnyG.take 11 (v := ?vv47) rfl (by kernel_rfl) (by kernel_rfl) (by kernel_rfl) (by kernel_rfl) (fun _ _ _ h => h) hS ?hy47 (by rfl) ?rest47
    case hy47 =>
     intro w0 h0
     go_simp
     try with_reducible rfl
    simp only [Act.put, yq0, yq1, yq2, yq3, yq4, yq5]
    refine AnyG.done (by kernel_rfl) ?_ _
    go_wp2
    exact ⟨⟨i, hm, by omega, by omega, by omega, rfl, rfl, hS, HB2, HI1⟩, by simp only [intOf]; omega⟩
   ·have hc' : cT (f m) (f hm) = false := Bool.eq_false_iff.2 hc
    have HI1 := hide (Sx.B2.up ltT_trans HM.out HI.out (by omega) hi1 hi2 hc')
    have hv : ¬ cvT (f m) (f hm) < 0 := by unfold cT at hc; simpa using hc
    clear hc hc' HI
    generalize cvT (f m) (f hm) = V at *
    have hd : decide (V < 0) = false := by simpa using hv
    have hd2 : (!decide (V < 0)) = true := by rw [hd]; rfl
    go_wp2
    refine region_g [] (fun w' => TH w' g f) (by kernel_rfl) ?_
    have hS : TH wr.drew g f := HH.out.drew
    have HB2 : Hid (Bar g w wr.drew) := HB.out.drew
    generalize wr.drew = Y at *
    refine AnyG.take 0 (v := ?vv48) rfl (by kernel_rfl) (by kernel_rfl) (by kernel_rfl) (by kernel_rfl) (fun _ _ _ h => h) hS ?hy48 (by rfl) ?rest48
    case hy48 =>
     intro w0 h0
     go_simp
     try with_reducible rfl
    simp only [Act.put, yq0, yq1, yq2, yq3, yq4, yq5]
    refine AnyG.take 1 (v := ?vv49) rfl (by kernel_rfl) (by kernel_rfl) (by kernel_rfl) (by kernel_rfl) (fun _ _ _ h => h) hS ?hy49 (by rfl) ?rest49
    case hy49 =>
     intro w0 h0
     go_simp
     try with_reducible rfl
    simp only [Act.put, yq0, yq1, yq2, yq3, yq4, yq5]
    refine AnyG.take 2 (v := ?vv50) rfl (by kernel_rfl) (by kernel_rfl) (by kernel_rfl) (by kernel_rfl) (fun _ _ _ h => h) hS ?hy50 (by rfl) ?rest50
    case hy50 =>
     intro w0 h0
     go_simp
     try with_reducible rfl
    simp only [Act.put, yq0, yq1, yq2, yq3, yq4, yq5]
    refine AnyG.take 3 (v := ?vv51) rfl (by kernel_rfl) (by kernel_rfl) (by kernel_rfl) (by kernel_rfl) (fun _ _ _ h => h) hS ?hy51 (by rfl) ?rest51
    case hy51 =>
     intro w0 h0
     go_simp
     try with_reducible rfl
    simp only [Act.put, yq0, yq1, yq2, yq3, yq4, yq5]
    refine AnyG.take 4 (v := .agg (tc (f (m))).toArray) rfl (by kernel_rfl) (by kernel_rfl) (by kernel_rfl) (by kernel_rfl) (fun _ _ _ h => h) hS (fun w0 h0 => run_load_th g f (m) _ (by omega) (by omega) rfl h0) (by rfl) ?rest52
    simp only [Act.put, yq0, yq1, yq2, yq3, yq4, yq5]
    refine AnyG.take 5 (v := ?vv53) rfl (by kernel_rfl) (by kernel_rfl) (by kernel_rfl) (by kernel_rfl) (fun _ _ _ h => h) hS ?hy53 (by rfl) ?rest53
    case hy53 =>
     intro w0 h0
     go_simp
     try with_reducible rfl
    simp only [Act.put, yq0, yq1, yq2, yq3, yq4, yq5]
    refine AnyG.take 6 (v := ?vv54) rfl (by kernel_rfl) (by kernel_rfl) (by kernel_rfl) (by kernel_rfl) (fun _ _ _ h => h) hS ?hy54 (by rfl) ?rest54
    case hy54 =>
     intro w0 h0
     go_simp
     try with_reducible rfl
    simp only [Act.put, yq0, yq1, yq2, yq3, yq4, yq5]
    refine AnyG.take 7 (v := ?vv55) rfl (by kernel_rfl) (by kernel_rfl) (by kernel_rfl) (by kernel_rfl) (fun _ _ _ h => h) hS ?hy55 (by rfl) ?rest55
    case hy55 =>
     intro w0 h0
     go_simp
     try with_reducible rfl
    simp only [Act.put, yq0, yq1, yq2, yq3, yq4, yq5]
    refine AnyG.take 8 (v := .agg (tc (f (hm))).toArray) rfl (by kernel_rfl) (by kernel_rfl) (by kernel_rfl) (by kernel_rfl) (fun _ _ _ h => h) hS (fun w0 h0 => run_load_th g f (hm) _ (by omega) (by omega) rfl h0) (by rfl) ?rest56
    simp only [Act.put, yq0, yq1, yq2, yq3, yq4, yq5]
    refine AnyG.one 9 (by kernel_rfl) rfl ?_
    intro K hK
    go_simp
    refine (C1.out _).mono ?_
    rintro e w3 ⟨rfl, hb3⟩
    refine hK.out _ _ (fun _ => hS.kept hb3) ?_
    clear hK K
    try simp only [Act.put, yq0, yq1, yq2, yq3, yq4, yq5]
    replace HB2 : Hid (Bar g w w3) := HB2.out.trans (Bar.of hb3)
    replace hS := hS.kept hb3
    clear hb3
    refine AnyG.take 10 (v := ?vv57) rfl (by kernel_rfl) (by kernel_rfl) (by kernel_rfl) (by kernel_rfl) (fun _ _ _ h => h) hS ?hy57 (by rfl) ?rest57
    case hy57 =>
     intro w0 h0
     go_simp
     try with_reducible rfl
    simp only [Act.put, yq0, yq1, yq2, yq3, yq4, yq5]
    refine AnyG.take 11 (v := ?vv58) rfl (by kernel_rfl) (by kernel_rfl) (by kernel_rfl) (by kernel_rfl) (fun _ _ _ h => h) hS ?hy58 (by rfl) ?rest58
    case hy58 =>
     intro w0 h0
     go_simp
     try with_reducible rfl
    simp only [Act.put, yq0, yq1, yq2, yq3, yq4, yq5]
    refine AnyG.done (by kernel_rfl) ?_ _
    go_wp2
    exact ⟨⟨hm + 1, j, by omega, by omega, by omega, by go_num, rfl, hS, HB2, HI1⟩, by simp only [intOf]; omega⟩
  ·obtain rfl : j = i := by omega
   have HD : Hid (Sx.Im a b f (Sx.shr f m j) ∧ Sx.Up ltT a b (Sx.shr f m j)) := by
    have e1 := HM.out
    rw [H6.out] at e1 ⊢
    exact Sx.B2.done e1 HI.out
   have HH0 : Hid (TH wr g (Sx.shr f m m)) := by show TH wr g _; rw [Sx.shr_start]; exact HH.out
   clear HI HH C
   go_wp2
   go_loopw [17] (fun vk wr => ∃ k : Nat, j ≤ k ∧ k ≤ m ∧ vk = .int .i64 k ∧ Hid (TH wr g (Sx.shr f m k)) ∧ Hid (Bar g w wr)) (fun vk _ => (intOf vk).toNat)
   case atStart => exact ⟨m, by omega, by omega, rfl, HH0, HB⟩
   case round =>
    clear HH0 HB
    obtain ⟨k, hak, hkb, rfl, HH, HB⟩ := hrel
    by_cases hk : j < k
    ·obtain ⟨kp, rfl⟩ : ∃ kp, k = kp + 1 := ⟨k - 1, by omega⟩
     have hkz : (j : Int) < (kp : Int) + 1 := by omega
     have kL : (kp : Int) < (L : Int) := by omega
     have kL2 : (kp : Int) + 1 < (L : Int) := by omega
     have p0 : (0 : Int) ≤ (kp : Int) + 1 := by omega
     have e0 : ((kp : Int) + 1).toNat = kp + 1 := by omega
     have hwp : IntKind.i64.wrap (kp : Int) = (kp : Int) := by rw [IntKind.wrap_i64]; omega
     have HE := hide (Sx.shr_step f m kp hkb)
     generalize Sx.shr f m (kp + 1) = F at *
     go_wp2
     refine region_g [15, 17] (fun w' => TH w' g F) (by kernel_rfl) ?_
     have hS : TH wr.drew g F := HH.out.drew
     have HB2 : Hid (Bar g w wr.drew) := HB.out.drew
     generalize wr.drew = Y at *
     refine AnyG.take 0 (v := ?vv59) rfl (by kernel_rfl) (by kernel_rfl) (by kernel_rfl) (by kernel_rfl) (fun _ _ _ h => h) hS ?hy59 (by rfl) ?rest59
     case hy59 =>
      intro w0 h0
      go_simp
      try with_reducible rfl
     simp only [Act.put, yq0, yq1, yq2, yq3, yq4, yq5]
     refine AnyG.take 1 (v := ?vv60) rfl (by kernel_rfl) (by kernel_rfl) (by kernel_rfl) (by kernel_rfl) (fun _ _ _ h => h) hS ?hy60 (by rfl) ?rest60
     case hy60 =>
      intro w0 h0
      go_simp
      try with_reducible rfl
     simp only [Act.put, yq0, yq1, yq2, yq3, yq4, yq5]
     refine AnyG.take 5 (v := ?vv61) rfl (by kernel_rfl) (by kernel_rfl) (by kernel_rfl) (by kernel_rfl) (fun _ _ _ h => h) hS ?hy61 (by rfl) ?rest61
     case hy61 =>
      intro w0 h0
      go_simp
      try with_reducible rfl
     simp only [Act.put, yq0, yq1, yq2, yq3, yq4, yq5]
     refine AnyG.take 6 (v := ?vv62) rfl (by kernel_rfl) (by kernel_rfl) (by kernel_rfl) (by kernel_rfl) (fun _ _ _ h => h) hS ?hy62 (by rfl) ?rest62
     case hy62 =>
      intro w0 h0
      go_simp
      try with_reducible rfl
     simp only [Act.put, yq0, yq1, yq2, yq3, yq4, yq5]
     refine AnyG.take 7 (v := ?vv63) rfl (by kernel_rfl) (by kernel_rfl) (by kernel_rfl) (by kernel_rfl) (fun _ _ _ h => h) hS ?hy63 (by rfl) ?rest63
     case hy63 =>
      intro w0 h0
      go_simp
      try with_reducible rfl
     simp only [Act.put, yq0, yq1, yq2, yq3, yq4, yq5]
     refine AnyG.take 8 (v := ?vv64) rfl (by kernel_rfl) (by kernel_rfl) (by kernel_rfl) (by kernel_rfl) (fun _ _ _ h => h) hS ?hy64 (by rfl) ?rest64
     case hy64 =>
      intro w0 h0
      go_simp
      try with_reducible rfl
     simp only [Act.put, yq0, yq1, yq2, yq3, yq4, yq5]
     refine AnyG.take 9 (v := .agg (tc (F (kp))).toArray) rfl (by kernel_rfl) (by kernel_rfl) (by kernel_rfl) (by kernel_rfl) (fun _ _ _ h => h) hS (fun w0 h0 => run_load_th g F (kp) _ (by omega) (by omega) rfl h0) (by rfl) ?rest65
     simp only [Act.put, yq0, yq1, yq2, yq3, yq4, yq5]
     refine AnyG.takeW 10 (v := ?vv66) rfl (by kernel_rfl) (by kernel_rfl) (by kernel_rfl) (fun _ _ _ h => h) ?hy66 (by rfl) ?rest66
     case hy66 =>
      intro w0
      go_simp
      try with_reducible rfl
     simp only [Act.put, yq0, yq1, yq2, yq3, yq4, yq5]
     refine AnyG.takeW 11 (v := ?vv67) rfl (by kernel_rfl) (by kernel_rfl) (by kernel_rfl) (fun _ _ _ h => h) ?hy67 (by rfl) ?rest67
     case hy67 =>
      intro w0
      go_simp
      try with_reducible rfl
     simp only [Act.put, yq0, yq1, yq2, yq3, yq4, yq5]
     refine AnyG.takeW 12 (v := ?vv68) rfl (by kernel_rfl) (by kernel_rfl) (by kernel_rfl) (fun _ _ _ h => h) ?hy68 (by rfl) ?rest68
     case hy68 =>
      intro w0
      go_simp
      try with_reducible rfl
     simp only [Act.put, yq0, yq1, yq2, yq3, yq4, yq5]
     refine AnyG.take 13 (v := .agg (tc (F (kp + 1))).toArray) rfl (by kernel_rfl) (by kernel_rfl) (by kernel_rfl) (by kernel_rfl) (fun _ _ _ h => h) hS (fun w0 h0 => run_load_th g F (kp + 1) _ (by omega) (by omega) rfl h0) (by rfl) ?rest69
     simp only [Act.put, yq0, yq1, yq2, yq3, yq4, yq5]
     refine AnyG.takeW 2 (v := ?vv70) rfl (by kernel_rfl) (by kernel_rfl) (by kernel_rfl) (fun _ _ _ h => h) ?hy70 (by rfl) ?rest70
     case hy70 =>
      intro w0
      go_simp
      try with_reducible rfl
     simp only [Act.put, yq0, yq1, yq2, yq3, yq4, yq5]
     refine AnyG.takeW 3 (v := ?vv71) rfl (by kernel_rfl) (by kernel_rfl) (by kernel_rfl) (fun _ _ _ h => h) ?hy71 (by rfl) ?rest71
     case hy71 =>
      intro w0
      go_simp
      try with_reducible rfl
     simp only [Act.put, yq0, yq1, yq2, yq3, yq4, yq5]
     refine AnyG.takeW 4 (v := ?vv72) rfl (by kernel_rfl) (by kernel_rfl) (by kernel_rfl) (fun _ _ _ h => h) ?hy72 (by rfl) ?rest72
     case hy72 =>
      intro w0
      go_simp
      try with_reducible rfl
     simp only [Act.put, yq0, yq1, yq2, yq3, yq4, yq5]
     refine AnyG.takeW 14 (v := ?vv73) rfl (by kernel_rfl) (by kernel_rfl) (by kernel_rfl) (fun _ _ _ h => h) ?hy73 (by rfl) ?rest73
     case hy73 =>
      intro w0
      go_simp
      try with_reducible rfl
     simp only [Act.put, yq0, yq1, yq2, yq3, yq4, yq5]
     refine AnyG.one 15 (by kernel_rfl) rfl ?_
     intro K hK
     refine wp_store_th _ _ rfl g F (kp + 1) _ (F (kp)) (by omega) (by omega) rfl rfl hS ?_
     intro w1 hT1 hB1
     refine hK.out _ _ (fun h => absurd (by decide) h) ?_
     clear hK K
     try simp only [Act.put, yq0, yq1, yq2, yq3, yq4, yq5]
     have HB3 : Hid (Bar g w w1) := HB2.out.trans hB1
     clear hB1 HB2 hS HH HB
     refine AnyG.takeW 16 (v := ?vv74) rfl (by kernel_rfl) (by kernel_rfl) (by kernel_rfl) (fun _ _ _ h => h) ?hy74 (by rfl) ?rest74
     case hy74 =>
      intro w0
      go_simp
      try with_reducible rfl
     simp only [Act.put, yq0, yq1, yq2, yq3, yq4, yq5]
     refine AnyG.one 17 (by kernel_rfl) rfl ?_
     intro K hK
     refine wp_store_th _ _ rfl g _ (kp) _ (F (kp + 1)) (by omega) (by omega) rfl rfl hT1 ?_
     intro w2 hT2 hB2
     refine hK.out _ _ (fun h => absurd (by decide) h) ?_
     clear hK K
     try simp only [Act.put, yq0, yq1, yq2, yq3, yq4, yq5]
     refine AnyG.done (by kernel_rfl) ?_ _
     have HB4 : Hid (Bar g w w2) := HB3.out.trans hB2
     rw [upd_swp F (kp + 1) (kp) (by omega)] at hT2
     have HT2 := hide hT2
     clear hB2 HB3 hT2 hT1
     rw [HE.out] at HT2
     go_wp2
     exact ⟨⟨kp, by omega, by omega, by go_num, HT2, HB4⟩, by simp only [intOf]; omega⟩
    ·obtain rfl : k = j := by omega
     have hkz : ¬ (k : Int) < (k : Int) := by omega
     go_wp2
     (try simp only [Exit.inBlock, Exit.then])
     exact bodyPost_ret (results_none rfl _ _ _) rfl ⟨rfl, SO.mk _ HH.out HD.out HB.out⟩
end Go.Proofs.YtcaalcjcpddhaaaGreat.Zz
