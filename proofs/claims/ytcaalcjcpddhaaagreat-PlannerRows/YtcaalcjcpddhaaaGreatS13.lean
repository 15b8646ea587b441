/-
  The contract of the sort's merging: two halves. The contract of the sort's merging: two halves. The contract of the stable sort.
-/
import Derived.Test.YtcaalcjcpddhaaaGreatS12
set_option linter.unusedVariables false
set_option linter.unusedSimpArgs false
set_option maxRecDepth 100000
namespace Go.Proofs.YtcaalcjcpddhaaaGreat.Zz
open Go.RowKit
def sndC : Code → Code
 | .seq _ y => y
 | c => c
set_option maxHeartbeats 8000000 in
theorem jsym3_t (g L cap a m b j mid ee pp : Nat) (f : Nat → T4) (w wr : World) (u23 u25 u26 u27 u28 u29 u30 u31 u32 u33 u34 u35 u36 u37 u38 u39 u40 u41 u42 u43 u44 u45 u46 u47 u48 u49 u50 u51 u52 u53 u54 u55 u56 u57 u58 u59 u60 u61 u62 u63 u64 u65 u66 u67 u68 u69 u70 u71 u72 u73 u74 u75 u76 u77 u78 u79 u80 u81 u82 u83 u84 u85 u86 u87 u88 u89 u90 u91 u92 u93 u94 u95 u96 u97 u98 u99 u100 u101 u102 u103 u104 u105 u106 u107 u108 u109 u110 u111 u112 u113 u114 u115 u116 u117 u118 u119 u120 u121 u122 u123 u124 u125 u126 u127 u128 u129 u130 u131 u132 u133 u134 u135 u136 u137 u138 u139 u140 u141 u142 u143 u144 u145 u146 u147 u148 u149 u150 u151 u152 u153 u154 u155 u156 u157 u158 u159 u160 u161 u162 u163 u164 u165 u166 u167 u168 u169 u170 u171 u172 u173 u174 u175 u176 u177 u178 u179 u180 u181 u182 u183 u184 u185 u186 u187 u188 u189 u190 u191 u192 u193 u194 u195 u196 u197 u198 u199 u200 u201 u202 u203 u204 u205 u206 u207 u208 u209 u210 u211 u212 u213 u214 u215 u216 u217 u218 u219 : Value) (h1 : a < m) (h2 : m < b) (h3 : b ≤ L) (h4 : L ≤ 511) (hmid : a < mid ∧ mid < b) (hle : a ≤ j ∧ j ≤ mid ∧ mid ≤ ee ∧ ee ≤ b) (hme : m ≤ ee) (hjm : j ≤ m) (heL : ee ≤ L)
  (HH : Hid (TH wr g f)) (HB : Hid (Bar g w wr)) (HS : Hid (Sx.Sp cT ltT a j mid ee b f (Sx.rot f j m ee)))
  (CR : Hid (∀ (F : Nat → T4) (w0 : World), TH w0 g F → ∀ (x y z : Int) (p q t : Nat), x = (p : Nat) → y = (q : Nat) → z = (t : Nat) → p < q → q < t → t ≤ L → Calls Tryz.prog 117 #[.slice (some ⟨g, 0, none⟩) L cap, .int .i64 x, .int .i64 y, .int .i64 z, .func (.func 99) #[] #[]] w0 fun e w' => e = .returned (.tuple #[]) ∧ SO g w0 (fun f' => f' = Sx.rot F p q t) w'))
  (IH : Hid (∀ (F : Nat → T4) (w0 : World) (x y z : Int) (p q t : Nat), x = (p : Nat) → y = (q : Nat) → z = (t : Nat) → t - p < b - a → TH w0 g F → p < q → q < t → t ≤ L → Sx.Mg cT ltT p q t F → Calls Tryz.prog 113 #[.slice (some ⟨g, 0, none⟩) L cap, .int .i64 x, .int .i64 y, .int .i64 z, .func (.func 99) #[] #[]] w0 fun e w' => e = .returned (.tuple #[]) ∧ SO g w0 (fun f' => Sx.Im p t F f' ∧ Sx.Up ltT p t f') w')) :
  Code.wp Tryz.prog (sndC (sndC (sndC (sndC (sndC (sndC (sndC (sndC (sndC (Tryz.f113.body.getD .skip)))))))))) (bodyPost Tryz.prog Tryz.f113 fun e w' => e = .returned (.tuple #[]) ∧ SO g w (fun f' => Sx.Im a b f f' ∧ Sx.Up ltT a b f') w') { tmps := List.toArray ((.slice (some ⟨g, 0, none⟩) L cap : Value) :: (.int .i64 a : Value) :: (.int .i64 m : Value) :: (.int .i64 b : Value) :: (.func (.func 99) #[] #[] : Value) :: (undef : Value) :: (undef : Value) :: (undef : Value) :: (undef : Value) :: (undef : Value) :: (undef : Value) :: (undef : Value) :: (undef : Value) :: (undef : Value) :: (undef : Value) :: (undef : Value) :: (undef : Value) :: (undef : Value) :: (.int .i64 mid : Value) :: (.int .i64 ((mid : Int) + (m : Int)) : Value) :: (.int .i64 j : Value) :: (.int .i64 j : Value) :: (.int .i64 pp : Value) :: u23 :: (.int .i64 ee : Value) :: u25 :: u26 :: u27 :: u28 :: u29 :: u30 :: u31 :: u32 :: u33 :: u34 :: u35 :: u36 :: u37 :: u38 :: u39 :: u40 :: u41 :: u42 :: u43 :: u44 :: u45 :: u46 :: u47 :: u48 :: u49 :: u50 :: u51 :: u52 :: u53 :: u54 :: u55 :: u56 :: u57 :: u58 :: u59 :: u60 :: u61 :: u62 :: u63 :: u64 :: u65 :: u66 :: u67 :: u68 :: u69 :: u70 :: u71 :: u72 :: u73 :: u74 :: u75 :: u76 :: u77 :: u78 :: u79 :: u80 :: u81 :: u82 :: u83 :: u84 :: u85 :: u86 :: u87 :: u88 :: u89 :: u90 :: u91 :: u92 :: u93 :: u94 :: u95 :: u96 :: u97 :: u98 :: u99 :: u100 :: u101 :: u102 :: u103 :: u104 :: u105 :: u106 :: u107 :: u108 :: u109 :: u110 :: u111 :: u112 :: u113 :: u114 :: u115 :: u116 :: u117 :: u118 :: u119 :: u120 :: u121 :: u122 :: u123 :: u124 :: u125 :: u126 :: u127 :: u128 :: u129 :: u130 :: u131 :: u132 :: u133 :: u134 :: u135 :: u136 :: u137 :: u138 :: u139 :: u140 :: u141 :: u142 :: u143 :: u144 :: u145 :: u146 :: u147 :: u148 :: u149 :: u150 :: u151 :: u152 :: u153 :: u154 :: u155 :: u156 :: u157 :: u158 :: u159 :: u160 :: u161 :: u162 :: u163 :: u164 :: u165 :: u166 :: u167 :: u168 :: u169 :: u170 :: u171 :: u172 :: u173 :: u174 :: u175 :: u176 :: u177 :: u178 :: u179 :: u180 :: u181 :: u182 :: u183 :: u184 :: u185 :: u186 :: u187 :: u188 :: u189 :: u190 :: u191 :: u192 :: u193 :: u194 :: u195 :: u196 :: u197 :: u198 :: u199 :: u200 :: u201 :: u202 :: u203 :: u204 :: u205 :: u206 :: u207 :: u208 :: u209 :: u210 :: u211 :: u212 :: u213 :: u214 :: u215 :: u216 :: u217 :: u218 :: u219 :: []), defers := [] } wr := by
 conv => arg 2; whnf
 refine wp_seq_k fun K hK => ?_
 go_cut [] (fun wx => ∃ G, Hid (TH wx g G) ∧ Hid (Bar g w wx) ∧ Hid (Sx.Sp cT ltT a j mid ee b f G))
 case first =>
  by_cases c1 : j < m
  ·have c1z : (j : Int) < (m : Int) := by omega
   by_cases c2 : m < ee
   ·have c2z : (m : Int) < (ee : Int) := by omega
    clear hK
    go_wp2_with fail
    refine (CR.out f _ HH.out _ _ _ j m ee (by omega) (by omega) (by omega) c1 c2 heL).mono ?_
    rintro e w1 ⟨rfl, f', hT', rfl, hB⟩
    have HT1 := hide hT'
    have HB1 := hide (HB.out.trans hB)
    clear hT' hB
    go_wp2_with fail
    go_meet
    exact ⟨_, HT1, HB1, HS⟩
   ·have c2z : ¬ (m : Int) < (ee : Int) := by omega
    clear hK
    have HS1 : Hid (Sx.Sp cT ltT a j mid ee b f f) := by
     have := HS.out
     rwa [Sx.rot_none f j m ee hjm hme (by omega)] at this
    go_wp2_with fail
    go_meet
    exact ⟨f, HH, HB, HS1⟩
  ·have c1z : ¬ (j : Int) < (m : Int) := by omega
   clear hK
   have HS1 : Hid (Sx.Sp cT ltT a j mid ee b f f) := by
    have := HS.out
    rwa [Sx.rot_none f j m ee hjm hme (by omega)] at this
   go_wp2_with fail
   go_meet
   exact ⟨f, HH, HB, HS1⟩
 case rest =>
  clear HH HB HS CR
  obtain ⟨G, HH, HB, HS⟩ := hcut
  refine hK _ _ ?_
  clear hK K
  refine wp_seq_k fun K hK => ?_
  go_cut [] (fun wx => ∃ G1, Hid (TH wx g G1) ∧ Hid (Bar g w wx) ∧ Hid (Sx.Im a mid G G1 ∧ Sx.Up ltT a mid G1))
  case first =>
   by_cases c1 : a < j
   ·have c1z : (a : Int) < (j : Int) := by omega
    by_cases c2 : j < mid
    ·have c2z : (j : Int) < (mid : Int) := by omega
     clear hK
     go_wp2_with fail
     refine (IH.out G _ _ _ _ a j mid (by omega) (by omega) (by omega) (by omega) HH.out c1 c2 (by omega) HS.out.l).mono ?_
     rintro e w1 ⟨rfl, f', hT', hP, hB⟩
     have HT1 := hide hT'
     have HB1 := hide (HB.out.trans hB)
     have HP := hide hP
     clear hT' hB hP
     go_wp2_with fail
     go_meet
     exact ⟨_, HT1, HB1, HP⟩
    ·have c2z : ¬ (j : Int) < (mid : Int) := by omega
     clear hK
     have HP := hide (HS.out.l.none hle.1 hle.2.1 (by omega))
     go_wp2_with fail
     go_meet
     exact ⟨_, HH, HB, HP⟩
   ·have c1z : ¬ (a : Int) < (j : Int) := by omega
    clear hK
    have HP := hide (HS.out.l.none hle.1 hle.2.1 (by omega))
    go_wp2_with fail
    go_meet
    exact ⟨_, HH, HB, HP⟩
  case rest =>
   clear HH HB
   obtain ⟨G1, HH, HB, HP⟩ := hcut
   have HR := hide (HS.out.right HP.out.1)
   refine hK _ _ ?_
   clear hK K
   by_cases c1 : mid < ee
   ·have c1z : (mid : Int) < (ee : Int) := by omega
    by_cases c2 : ee < b
    ·have c2z : (ee : Int) < (b : Int) := by omega
     go_wp2_with fail
     refine (IH.out G1 _ _ _ _ mid ee b (by omega) (by omega) (by omega) (by omega) HH.out c1 c2 (by omega) HR.out).mono ?_
     rintro e w1 ⟨rfl, f', hT', hP, hB⟩
     have HT1 := hide hT'
     have HB1 := hide (HB.out.trans hB)
     have HE := hide (HS.out.done HP.out.1 HP.out.2 hP.1 hP.2)
     clear hT' hB hP
     go_wp2
     refine bodyPost_end (results_none rfl _ _ _) rfl ?_
     exact ⟨rfl, SO.mk _ HT1.out HE.out HB1.out⟩
    ·have c2z : ¬ (ee : Int) < (b : Int) := by omega
     have e2 := HR.out.none (by omega) (by omega) (by omega)
     have HE := hide (HS.out.done HP.out.1 HP.out.2 e2.1 e2.2)
     clear e2
     go_wp2
     refine bodyPost_end (results_none rfl _ _ _) rfl ?_
     exact ⟨rfl, SO.mk _ HH.out HE.out HB.out⟩
   ·have c1z : ¬ (mid : Int) < (ee : Int) := by omega
    have e2 := HR.out.none (by omega) (by omega) (by omega)
    have HE := hide (HS.out.done HP.out.1 HP.out.2 e2.1 e2.2)
    clear e2
    go_wp2
    refine bodyPost_end (results_none rfl _ _ _) rfl ?_
    exact ⟨rfl, SO.mk _ HH.out HE.out HB.out⟩
end Go.Proofs.YtcaalcjcpddhaaaGreat.Zz
namespace Go.Proofs.YtcaalcjcpddhaaaGreat.Zz
open Go.RowKit
theorem bd_ofJ (a m b mid : Nat) (h1 : a + 1 < m) (h2 : m + 1 < b) (hm : mid = (a + b) / 2) : ∃ s0 r0, Sx.Bd a m b mid s0 r0 := by
 by_cases c : mid < m
 ·exact ⟨mid + m - b, mid, ⟨by omega, by omega, .inl ⟨c, rfl, rfl, by omega⟩, by omega⟩⟩
 ·exact ⟨a, m, ⟨by omega, by omega, .inr ⟨by omega, rfl, rfl⟩, by omega⟩⟩
set_option maxHeartbeats 8000000 in
theorem jsym3_c (g L cap a m b : Nat) (f : Nat → T4) (w : World) (hT : TH w g f) (h1 : a < m) (h2 : m < b) (h3 : b ≤ L) (h4 : L ≤ 511) (M : Sx.Mg cT ltT a m b f) (h5 : a + 1 < m) (h6 : m + 1 < b)
  (ih : ∀ (F : Nat → T4) (w0 : World) (x y z : Int) (p q t : Nat), x = (p : Nat) → y = (q : Nat) → z = (t : Nat) → t - p < b - a → TH w0 g F → p < q → q < t → t ≤ L → Sx.Mg cT ltT p q t F → Calls Tryz.prog 113 #[.slice (some ⟨g, 0, none⟩) L cap, .int .i64 x, .int .i64 y, .int .i64 z, .func (.func 99) #[] #[]] w0 fun e w' => e = .returned (.tuple #[]) ∧ SO g w0 (fun f' => Sx.Im p t F f' ∧ Sx.Up ltT p t f') w') :
  Calls Tryz.prog 113 #[.slice (some ⟨g, 0, none⟩) L cap, .int .i64 a, .int .i64 m, .int .i64 b, .func (.func 99) #[] #[]] w fun e w' => e = .returned (.tuple #[]) ∧ SO g w (fun f' => Sx.Im a b f f' ∧ Sx.Up ltT a b f') w' := by
 have HT := hide hT
 have HM := hide M
 have C : Hid (∀ (x y : T4) (w0 : World), Calls Tryz.prog 99 #[.agg (tc x).toArray, .agg (tc y).toArray] w0 fun e w' => e = .returned (.int .i64 (cvT x y)) ∧ Below w0.heap.size w0 w') := fun x y w0 => jless_c x y w0
 clear hT M
 have q1 : ((m : Int) - (a : Int) == 1) = false := by simp; omega
 have q2 : ((b : Int) - (m : Int) == 1) = false := by simp; omega
 have IH := hide ih
 have CR : Hid (∀ (F : Nat → T4) (w0 : World), TH w0 g F → ∀ (x y z : Int) (p q t : Nat), x = (p : Nat) → y = (q : Nat) → z = (t : Nat) → p < q → q < t → t ≤ L → Calls Tryz.prog 117 #[.slice (some ⟨g, 0, none⟩) L cap, .int .i64 x, .int .i64 y, .int .i64 z, .func (.func 99) #[] #[]] w0 fun e w' => e = .returned (.tuple #[]) ∧ SO g w0 (fun f' => f' = Sx.rot F p q t) w') := fun F w0 hF x y z p q t e1 e2 e3 g1 g2 g3 => by
  subst e1 e2 e3
  exact jrot_c g L cap p q t F w0 hF g1 g2 g3 h4
 clear ih
 obtain ⟨mid, hmid⟩ : ∃ mid : Nat, mid = (a + b) / 2 := ⟨_, rfl⟩
 have hz0 : ((a : Int) + (b : Int)) / 2 = (mid : Int) := by omega
 obtain ⟨s0, r0, HD0⟩ := bd_ofJ a m b mid h5 h6 hmid
 have HD := hide HD0
 have hsr : a ≤ s0 ∧ s0 ≤ r0 ∧ r0 ≤ m ∧ r0 ≤ mid ∧ a < mid ∧ mid < b := by
  have e1 := HD0.md
  have e2 := HD0.am
  rcases HD0.c with d | d <;> omega
 obtain ⟨pp, hpp⟩ : ∃ pp : Nat, Hid (pp = mid + m - 1) := ⟨_, rfl⟩
 have zp : (mid : Int) + (m : Int) - 1 = (pp : Int) := by have := hpp.out; omega
 clear hmid HD0
 go_enter Tryz.func113, Tryz.ntmps113
 go_upto_if 140 with fail
 go_cut [20, 21] (fun t20 t21 wx => t20 = .int .i64 s0 ∧ t21 = .int .i64 r0 ∧ wx = w)
 case first =>
  by_cases hgt : mid < m
  ·have hgz : (mid : Int) < (m : Int) := by omega
   have e0 : (mid : Int) + (m : Int) - (b : Int) = (s0 : Int) ∧ r0 = mid := by
    rcases HD.out.c with d | d <;> omega
   obtain ⟨e1, e2⟩ := e0
   subst e2
   go_wp2_with fail
   go_meet
   exact ⟨by go_num, rfl, rfl⟩
  ·have hgz : ¬ (mid : Int) < (m : Int) := by omega
   have e0 : s0 = a ∧ r0 = m := by
    rcases HD.out.c with d | d <;> omega
   obtain ⟨e1, e2⟩ := e0
   subst e1 e2
   go_wp2_with fail
   go_meet
   exact ⟨rfl, rfl, rfl⟩
 case rest =>
  obtain ⟨rfl, rfl, hwc⟩ := hcut
  replace hwc := hwc.symm
  subst hwc
  clear q1 q2 hz0
  go_wp2
  go_loopw [20, 21] (fun vi vj wr => ∃ (i j : Nat), s0 ≤ i ∧ i ≤ j ∧ j ≤ r0 ∧ vi = .int .i64 i ∧ vj = .int .i64 j ∧ Hid (TH wr g f) ∧ Hid (Bar g w wr) ∧ Hid (Sx.B3 ltT (mid + m - 1) s0 r0 i j f)) (fun vi vj _ => (intOf vj).toNat - (intOf vi).toNat)
  case atStart => exact ⟨s0, r0, by omega, by omega, by omega, rfl, rfl, HT, Bar.refl _ _, Sx.B3.start _ _ _ _ _ (by omega)⟩
  case round =>
   obtain ⟨i, j, hai, hib, hjb, rfl, rfl, HH, HB, HI⟩ := hrel
   clear HT
   by_cases hlt : i < j
   ·have hltz : (i : Int) < (j : Int) := by omega
    obtain ⟨hm, hh⟩ : ∃ hm : Nat, hm = (i + j) / 2 := ⟨_, rfl⟩
    have hz : ((i : Int) + (j : Int)) / 2 = (hm : Int) := by omega
    have hi1 : i ≤ hm := by omega
    have hi2 : hm < j := by omega
    have hmL : (hm : Int) < (L : Int) := by omega
    have hpp1 := hpp.out
    obtain ⟨qq, hqq⟩ : ∃ qq : Nat, Hid (qq = mid + m - 1 - hm) := ⟨_, rfl⟩
    have hqq1 := hqq.out
    have zq : (pp : Int) - (hm : Int) = (qq : Int) := by omega
    have hqb : qq < b := by have hf := HD.out.half; rcases HD.out.c with d | d <;> omega
    have hqL : (qq : Int) < (L : Int) := by omega
    have wq : IntKind.i64.wrap (qq : Int) = (qq : Int) := by rw [IntKind.wrap_i64]; omega
    clear hh hqq1 hpp1
    have C1 := hide (C.out (f qq) (f hm))
    by_cases hc : cT (f qq) (f hm) = true
    ·have HI1 := hide (Sx.B3.down ltT_trans HM.out HD.out HI.out hi1 hi2 (by rw [← hqq.out]; exact hc))
     have hv : cvT (f qq) (f hm) < 0 := by unfold cT at hc; simpa using hc
     clear hc HI
     generalize cvT (f qq) (f hm) = V at *
     go_wp2
     refine region_g [] (fun w' => TH w' g f) (by kernel_rfl) ?_
     have hS : TH wr.drew g f := HH.out.drew
     have HB2 : Hid (Bar g w wr.drew) := HB.out.drew
     generalize wr.drew = Y at *
     refine AnyG.take 0 (v := ?vv75) rfl (by kernel_rfl) (by kernel_rfl) (by kernel_rfl) (by kernel_rfl) (fun _ _ _ h => h) hS ?hy75 (by rfl) ?rest75
     case hy75 =>
      intro w0 h0
      go_simp
      try with_reducible rfl
     simp only [Act.put, yq0, yq1, yq2, yq3, yq4, yq5]
     refine AnyG.take 1 (v := ?vv76) rfl (by kernel_rfl) (by kernel_rfl) (by kernel_rfl) (by kernel_rfl) (fun _ _ _ h => h) hS ?hy76 (by rfl) ?rest76
     case hy76 =>
      intro w0 h0
      go_simp
      try with_reducible rfl
     simp only [Act.put, yq0, yq1, yq2, yq3, yq4, yq5]
     refine AnyG.take 2 (v := ?vv77) rfl (by kernel_rfl) (by kernel_rfl) (by kernel_rfl) (by kernel_rfl) (fun _ _ _ h => h) hS ?hy77 (by rfl) ?rest77
     case hy77 =>
      intro w0 h0
      go_simp
      try with_reducible rfl
     simp only [Act.put, yq0, yq1, yq2, yq3, yq4, yq5]
     refine AnyG.take 3 (v := ?vv78) rfl (by kernel_rfl) (by kernel_rfl) (by kernel_rfl) (by kernel_rfl) (fun _ _ _ h => h) hS ?hy78 (by rfl) ?rest78
     case hy78 =>
      intro w0 h0
      go_simp
      try with_reducible rfl
     simp only [Act.put, yq0, yq1, yq2, yq3, yq4, yq5]
     refine AnyG.take 4 (v := ?vv79) rfl (by kernel_rfl) (by kernel_rfl) (by kernel_rfl) (by kernel_rfl) (fun _ _ _ h => h) hS ?hy79 (by rfl) ?rest79
     case hy79 =>
      intro w0 h0
      go_simp
      try with_reducible rfl
     simp only [Act.put, yq0, yq1, yq2, yq3, yq4, yq5]
     refine AnyG.take 5 (v := ?vv80) rfl (by kernel_rfl) (by kernel_rfl) (by kernel_rfl) (by kernel_rfl) (fun _ _ _ h => h) hS ?hy80 (by rfl) ?rest80
     case hy80 =>
      intro w0 h0
      go_simp
      try with_reducible rfl
     simp only [Act.put, yq0, yq1, yq2, yq3, yq4, yq5]
     refine AnyG.take 6 (v := .agg (tc (f (qq))).toArray) rfl (by kernel_rfl) (by kernel_rfl) (by kernel_rfl) (by kernel_rfl) (fun _ _ _ h => h) hS (fun w0 h0 => run_load_th g f (qq) _ (by omega) (by omega) rfl h0) (by rfl) ?rest81
     simp only [Act.put, yq0, yq1, yq2, yq3, yq4, yq5]
     refine AnyG.take 7 (v := ?vv82) rfl (by kernel_rfl) (by kernel_rfl) (by kernel_rfl) (by kernel_rfl) (fun _ _ _ h => h) hS ?hy82 (by rfl) ?rest82
     case hy82 =>
      intro w0 h0
      go_simp
      try with_reducible rfl
     simp only [Act.put, yq0, yq1, yq2, yq3, yq4, yq5]
     refine AnyG.take 8 (v := ?vv83) rfl (by kernel_rfl) (by kernel_rfl) (by kernel_rfl) (by kernel_rfl) (fun _ _ _ h => h) hS ?hy83 (by rfl) ?rest83
     case hy83 =>
      intro w0 h0
      go_simp
      try with_reducible rfl
     simp only [Act.put, yq0, yq1, yq2, yq3, yq4, yq5]
     refine AnyG.take 9 (v := ?vv84) rfl (by kernel_rfl) (by kernel_rfl) (by kernel_rfl) (by kernel_rfl) (fun _ _ _ h => h) hS ?hy84 (by rfl) ?rest84
     case hy84 =>
      intro w0 h0
      go_simp
      try with_reducible rfl
     simp only [Act.put, yq0, yq1, yq2, yq3, yq4, yq5]
     refine AnyG.take 10 (v := .agg (tc (f (hm))).toArray) rfl (by kernel_rfl) (by kernel_rfl) (by kernel_rfl) (by kernel_rfl) (fun _ _ _ h => h) hS (fun w0 h0 => run_load_th g f (hm) _ (by omega) (by omega) rfl h0) (by rfl) ?rest85
     simp only [Act.put, yq0, yq1, yq2, yq3, yq4, yq5]
     refine AnyG.one 11 (by kernel_rfl) rfl ?_
     intro K hK
     go_simp
     refine (C1.out _).mono ?_
     rintro e w3 ⟨rfl, hb3⟩
     refine hK.out _ _ (fun _ => hS.kept hb3) ?_
     clear hK K
     try simp only [Act.put, yq0, yq1, yq2, yq3, yq4, yq5]
     replace HB2 : Hid (Bar g w w3) := HB2.out.trans (Bar.of hb3)
     replace hS := hS.kept hb3
     clear hb3
     refine AnyG.take 12 (v := ?vv86) rfl (by kernel_rfl) (by kernel_rfl) (by kernel_rfl) (by kernel_rfl) (fun _ _ _ h => h) hS ?hy86 (by rfl) ?rest86
     case hy86 =>
      intro w0 h0
      go_simp
      try with_reducible rfl
     simp only [Act.put, yq0, yq1, yq2, yq3, yq4, yq5]
     refine AnyG.take 13 (v := ?vv87) rfl (by kernel_rfl) (by kernel_rfl) (by kernel_rfl) (by kernel_rfl) (fun _ _ _ h => h) hS ?hy87 (by rfl) ?rest87
     case hy87 =>
      intro w0 h0
      go_simp
      try with_reducible rfl
     simp only [Act.put, yq0, yq1, yq2, yq3, yq4, yq5]
     refine AnyG.done (by kernel_rfl) ?_ _
     go_wp2
     exact ⟨⟨i, hm, by omega, by omega, by omega, rfl, rfl, hS, HB2, HI1⟩, by simp only [intOf]; omega⟩
    ·have hc' : cT (f qq) (f hm) = false := Bool.eq_false_iff.2 hc
     have HI1 := hide (Sx.B3.up ltT_trans HM.out HD.out HI.out hi1 hi2 (by rw [← hqq.out]; exact hc'))
     have hv : ¬ cvT (f qq) (f hm) < 0 := by unfold cT at hc; simpa using hc
     clear hc hc' HI
     generalize cvT (f qq) (f hm) = V at *
     have hd : decide (V < 0) = false := by simpa using hv
     have hd2 : (!decide (V < 0)) = true := by rw [hd]; rfl
     go_wp2
     refine region_g [] (fun w' => TH w' g f) (by kernel_rfl) ?_
     have hS : TH wr.drew g f := HH.out.drew
     have HB2 : Hid (Bar g w wr.drew) := HB.out.drew
     generalize wr.drew = Y at *
     refine AnyG.take 0 (v := ?vv88) rfl (by kernel_rfl) (by kernel_rfl) (by kernel_rfl) (by kernel_rfl) (fun _ _ _ h => h) hS ?hy88 (by rfl) ?rest88
     case hy88 =>
      intro w0 h0
      go_simp
      try with_reducible rfl
     simp only [Act.put, yq0, yq1, yq2, yq3, yq4, yq5]
     refine AnyG.take 1 (v := ?vv89) rfl (by kernel_rfl) (by kernel_rfl) (by kernel_rfl) (by kernel_rfl) (fun _ _ _ h => h) hS ?hy89 (by rfl) ?rest89
     case hy89 =>
      intro w0 h0
      go_simp
      try with_reducible rfl
     simp only [Act.put, yq0, yq1, yq2, yq3, yq4, yq5]
     refine AnyG.take 2 (v := ?vv90) rfl (by kernel_rfl) (by kernel_rfl) (by kernel_rfl) (by kernel_rfl) (fun _ _ _ h => h) hS ?hy90 (by rfl) ?rest90
     case hy90 =>
      intro w0 h0
      go_simp
      try with_reducible rfl
     simp only [Act.put, yq0, yq1, yq2, yq3, yq4, yq5]
     refine AnyG.take 3 (v := ?vv91) rfl (by kernel_rfl) (by kernel_rfl) (by kernel_rfl) (by kernel_rfl) (fun _ _ _ h => h) hS ?hy91 (by rfl) ?rest91
     case hy91 =>
      intro w0 h0
      go_simp
      try with_reducible rfl
     simp only [Act.put, yq0, yq1, yq2, yq3, yq4, yq5]
     refine AnyG.take 4 (v := ?vv92) rfl (by kernel_rfl) (by kernel_rfl) (by kernel_rfl) (by kernel_rfl) (fun _ _ _ h => h) hS ?hy92 (by rfl) ?rest92
     case hy92 =>
      intro w0 h0
      go_simp
      try with_reducible rfl
     simp only [Act.put, yq0, yq1, yq2, yq3, yq4, yq5]
     refine AnyG.take 5 (v := ?vv93) rfl (by kernel_rfl) (by kernel_rfl) (by kernel_rfl) (by kernel_rfl) (fun _ _ _ h => h) hS ?hy93 (by rfl) ?rest93
     case hy93 =>
      intro w0 h0
      go_simp
      try with_reducible rfl
     simp only [Act.put, yq0, yq1, yq2, yq3, yq4, yq5]
     refine AnyG.take 6 (v := .agg (tc (f (qq))).toArray) rfl (by kernel_rfl) (by kernel_rfl) (by kernel_rfl) (by kernel_rfl) (fun _ _ _ h => h) hS (fun w0 h0 => run_load_th g f (qq) _ (by omega) (by omega) rfl h0) (by rfl) ?rest94
     simp only [Act.put, yq0, yq1, yq2, yq3, yq4, yq5]
     refine AnyG.take 7 (v := ?vv95) rfl (by kernel_rfl) (by kernel_rfl) (by kernel_rfl) (by kernel_rfl) (fun _ _ _ h => h) hS ?hy95 (by rfl) ?rest95
     case hy95 =>
      intro w0 h0
      go_simp
      try with_reducible rfl
     simp only [Act.put, yq0, yq1, yq2, yq3, yq4, yq5]
     refine AnyG.take 8 (v := ?vv96) rfl (by kernel_rfl) (by kernel_rfl) (by kernel_rfl) (by kernel_rfl) (fun _ _ _ h => h) hS ?hy96 (by rfl) ?rest96
     case hy96 =>
      intro w0 h0
      go_simp
      try with_reducible rfl
     simp only [Act.put, yq0, yq1, yq2, yq3, yq4, yq5]
     refine AnyG.take 9 (v := ?vv97) rfl (by kernel_rfl) (by kernel_rfl) (by kernel_rfl) (by kernel_rfl) (fun _ _ _ h => h) hS ?hy97 (by rfl) ?rest97
     case hy97 =>
      intro w0 h0
      go_simp
      try with_reducible rfl
     simp only [Act.put, yq0, yq1, yq2, yq3, yq4, yq5]
     refine AnyG.take 10 (v := .agg (tc (f (hm))).toArray) rfl (by kernel_rfl) (by kernel_rfl) (by kernel_rfl) (by kernel_rfl) (fun _ _ _ h => h) hS (fun w0 h0 => run_load_th g f (hm) _ (by omega) (by omega) rfl h0) (by rfl) ?rest98
     simp only [Act.put, yq0, yq1, yq2, yq3, yq4, yq5]
     refine AnyG.one 11 (by kernel_rfl) rfl ?_
     intro K hK
     go_simp
     refine (C1.out _).mono ?_
     rintro e w3 ⟨rfl, hb3⟩
     refine hK.out _ _ (fun _ => hS.kept hb3) ?_
     clear hK K
     try simp only [Act.put, yq0, yq1, yq2, yq3, yq4, yq5]
     replace HB2 : Hid (Bar g w w3) := HB2.out.trans (Bar.of hb3)
     replace hS := hS.kept hb3
     clear hb3
     refine AnyG.take 12 (v := ?vv99) rfl (by kernel_rfl) (by kernel_rfl) (by kernel_rfl) (by kernel_rfl) (fun _ _ _ h => h) hS ?hy99 (by rfl) ?rest99
     case hy99 =>
      intro w0 h0
      go_simp
      try with_reducible rfl
     simp only [Act.put, yq0, yq1, yq2, yq3, yq4, yq5]
     refine AnyG.take 13 (v := ?vv100) rfl (by kernel_rfl) (by kernel_rfl) (by kernel_rfl) (by kernel_rfl) (fun _ _ _ h => h) hS ?hy100 (by rfl) ?rest100
     case hy100 =>
      intro w0 h0
      go_simp
      try with_reducible rfl
     simp only [Act.put, yq0, yq1, yq2, yq3, yq4, yq5]
     refine AnyG.done (by kernel_rfl) ?_ _
     go_wp2
     exact ⟨⟨hm + 1, j, by omega, by omega, by omega, by go_num, rfl, hS, HB2, HI1⟩, by simp only [intOf]; omega⟩
   ·obtain rfl : j = i := by omega
    obtain ⟨ee, hee⟩ : ∃ ee : Nat, Hid (ee = mid + m - j) := ⟨_, rfl⟩
    have hS := Sx.split ltT_trans HM.out HD.out HI.out
    rw [← hee.out] at hS
    have HS := hide hS
    have hle := hS.le
    have ze : (mid : Int) + (m : Int) - (j : Int) = (ee : Int) := by have := hee.out; omega
    have hme : m ≤ ee := by have := hee.out; omega
    have hjm : j ≤ m := by omega
    have heL : ee ≤ L := by omega
    clear hS HI C hpp zp HM HD
    go_upto_region 38 with fail
    go_cut [24] (fun te wx => te = .int .i64 ee ∧ wx = wr)
    case first =>
     go_wp2_with fail
     go_meet
     exact ⟨by go_num, rfl⟩
    case rest =>
     obtain ⟨rfl, hwc⟩ := hcut
     replace hwc := hwc.symm
     subst hwc
     rename_i K0 hK0 K1 hK1
     refine hK1 _ _ ?_
     clear hK1 K1 hK0 K0
     exact jsym3_t g L cap a m b j mid ee pp f w wr _ _ _ _ _ _ _ _ _ _ _ _ _ _ _ _ _ _ _ _ _ _ _ _ _ _ _ _ _ _ _ _ _ _ _ _ _ _ _ _ _ _ _ _ _ _ _ _ _ _ _ _ _ _ _ _ _ _ _ _ _ _ _ _ _ _ _ _ _ _ _ _ _ _ _ _ _ _ _ _ _ _ _ _ _ _ _ _ _ _ _ _ _ _ _ _ _ _ _ _ _ _ _ _ _ _ _ _ _ _ _ _ _ _ _ _ _ _ _ _ _ _ _ _ _ _ _ _ _ _ _ _ _ _ _ _ _ _ _ _ _ _ _ _ _ _ _ _ _ _ _ _ _ _ _ _ _ _ _ _ _ _ _ _ _ _ _ _ _ _ _ _ _ _ _ _ _ _ _ _ _ _ _ _ _ _ _ _ _ _ _ _ _ _ _ _ h1 h2 h3 h4 (by omega) hle hme hjm heL HH HB HS CR IH
theorem jsym_k (g L cap : Nat) (h4 : L ≤ 511) : ∀ (k : Nat) (F : Nat → T4) (w0 : World) (x y z : Int) (p q t : Nat), x = (p : Nat) → y = (q : Nat) → z = (t : Nat) → t - p ≤ k → TH w0 g F → p < q → q < t → t ≤ L → Sx.Mg cT ltT p q t F → Calls Tryz.prog 113 #[.slice (some ⟨g, 0, none⟩) L cap, .int .i64 x, .int .i64 y, .int .i64 z, .func (.func 99) #[] #[]] w0 fun e w' => e = .returned (.tuple #[]) ∧ SO g w0 (fun f' => Sx.Im p t F f' ∧ Sx.Up ltT p t f') w' := by
 intro k
 induction k with
 | zero => intro F w0 x y z p q t _ _ _ h _ h1 h2; omega
 | succ k ih =>
  intro F w0 x y z p q t ex ey ez hk hT h1 h2 h3 M
  subst ex ey ez
  by_cases c1 : q = p + 1
  ·exact jsym1_c g L cap p q t F w0 hT h1 h2 h3 h4 M c1
  ·by_cases c2 : t = q + 1
   ·exact jsym2_c g L cap p q t F w0 hT h1 h2 h3 h4 M (by omega) c2
   ·exact jsym3_c g L cap p q t F w0 hT h1 h2 h3 h4 M (by omega) (by omega) (fun F w0 x y z p' q' t' e1 e2 e3 hlt hF g1 g2 g3 M' => ih F w0 x y z p' q' t' e1 e2 e3 (by omega) hF g1 g2 g3 M')
end Go.Proofs.YtcaalcjcpddhaaaGreat.Zz
namespace Go.Proofs.YtcaalcjcpddhaaaGreat.Zz
open Go.RowKit
set_option maxHeartbeats 8000000 in
theorem jstab_c (g L cap : Nat) (f : Nat → T4) (w : World) (hT : TH w g f) (h4 : L ≤ 511) (cr : ∀ p q, p < q → q < L → Sx.Cr cT ltT (f p) (f q)) :
  Calls Tryz.prog 108 #[.slice (some ⟨g, 0, none⟩) L cap, .int .i64 L, .func (.func 99) #[] #[]] w fun e w' => e = .returned (.tuple #[]) ∧ SO g w (fun f' => Sx.Im 0 L f f' ∧ Sx.Up ltT 0 L f') w' := by
 have HT := hide hT
 have CR := hide cr
 have CI : Hid (∀ (F : Nat → T4) (w0 : World) (x y : Int) (p q : Nat), x = (p : Nat) → y = (q : Nat) → TH w0 g F → p ≤ q → q ≤ L → (∀ i j, p ≤ i → i < j → j < q → Sx.Cr cT ltT (F i) (F j)) → Calls Tryz.prog 112 #[.slice (some ⟨g, 0, none⟩) L cap, .int .i64 x, .int .i64 y, .func (.func 99) #[] #[]] w0 fun e w' => e = .returned (.tuple #[]) ∧ SO g w0 (fun f' => Sx.Im p q F f' ∧ Sx.Up ltT p q f') w') := fun F w0 x y p q e1 e2 hF g1 g2 c => by
  subst e1 e2
  exact jins_c g L cap p q F w0 hF g1 g2 h4 c
 have CS : Hid (∀ (F : Nat → T4) (w0 : World) (x y z : Int) (p q t : Nat), x = (p : Nat) → y = (q : Nat) → z = (t : Nat) → TH w0 g F → p < q → q < t → t ≤ L → Sx.Mg cT ltT p q t F → Calls Tryz.prog 113 #[.slice (some ⟨g, 0, none⟩) L cap, .int .i64 x, .int .i64 y, .int .i64 z, .func (.func 99) #[] #[]] w0 fun e w' => e = .returned (.tuple #[]) ∧ SO g w0 (fun f' => Sx.Im p t F f' ∧ Sx.Up ltT p t f') w') := fun F w0 x y z p q t e1 e2 e3 hF g1 g2 g3 M => jsym_k g L cap h4 (t - p) F w0 x y z p q t e1 e2 e3 (Nat.le_refl _) hF g1 g2 g3 M
 clear hT cr
 go_enter Tryz.func108, Tryz.ntmps108
 go_wp2
 go_loopw [7, 8] (fun va vb wr => ∃ (a b : Nat) (F : Nat → T4), a ≤ L ∧ Hid (b = a + 20) ∧ b ≤ 531 ∧ va = .int .i64 a ∧ vb = .int .i64 b ∧ Hid (TH wr g F) ∧ Hid (Bar g w wr) ∧ Hid (Sx.Bf ltT 20 L a f F)) (fun va _ _ => L - (intOf va).toNat)
 case atStart => exact ⟨0, 20, f, by omega, rfl, by omega, rfl, rfl, HT, Bar.refl _ _, Sx.Bf.start _ _ _ _⟩
 case round =>
  obtain ⟨a, b, F, haL, Hb, hb5, rfl, rfl, HH, HB, HI⟩ := hrel
  clear HT
  by_cases hlt : b ≤ L
  ·have hltz : (b : Int) ≤ (L : Int) := by omega
   have Hcr : Hid (∀ i j, a ≤ i → i < j → j < b → Sx.Cr cT ltT (F i) (F j)) := fun i j g1 g2 g3 => by
    rw [HI.out.out i g1, HI.out.out j (by omega)]
    exact CR.out i j g2 (by omega)
   go_wp2_with fail
   refine (CI.out F _ _ _ a b rfl rfl HH.out (by have := Hb.out; omega) hlt Hcr.out).mono ?_
   rintro e w1 ⟨rfl, f', hT', hP, hB⟩
   have HT1 := hide hT'
   have HB1 := hide (HB.out.trans hB)
   have HI1 : Hid (Sx.Bf ltT 20 L b f f') := by
    have e := Hb.out
    rw [e] at hP hlt ⊢
    exact HI.out.step (by omega) hlt hP.1 hP.2
   have hab : a < b := by have := Hb.out; omega
   clear hT' hB hP HI Hcr
   go_wp2
   exact ⟨⟨b, b + 20, f', by omega, rfl, by omega, rfl, by go_num, HT1, HB1, HI1⟩, by simp only [intOf]; omega⟩
  ·have hltz : ¬ (b : Int) ≤ (L : Int) := by omega
   have Hcr : Hid (∀ i j, a ≤ i → i < j → j < L → Sx.Cr cT ltT (F i) (F j)) := fun i j g1 g2 g3 => by
    rw [HI.out.out i g1, HI.out.out j (by omega)]
    exact CR.out i j g2 (by omega)
   go_wp2_with fail
   refine (CI.out F _ _ _ a L rfl rfl HH.out haL (Nat.le_refl _) Hcr.out).mono ?_
   rintro e w1 ⟨rfl, f', hT', hP, hB⟩
   have HT1 := hide hT'
   have HB1 := hide (HB.out.trans hB)
   have HI1 : Hid (Sx.Bk ltT 20 L f f') := HI.out.last (by omega) (by have := Hb.out; omega) haL hP.1 hP.2
   clear hT' hB hP HI Hcr Hb HH HB
   go_wp2
   go_loopw [6] (fun vs wr => ∃ (s : Nat) (F : Nat → T4), 0 < s ∧ s ≤ 1100 ∧ vs = .int .i64 s ∧ Hid (TH wr g F) ∧ Hid (Bar g w wr) ∧ Hid (Sx.Bk ltT s L f F)) (fun vs _ => 2048 - (intOf vs).toNat)
   case atStart => exact ⟨20, f', by omega, by omega, rfl, HT1, HB1, HI1⟩
   case round =>
    clear HT1 HB1 HI1
    obtain ⟨s, F, hs0, hs1, rfl, HH, HB, HI⟩ := hrel
    by_cases hsL : s < L
    ·have hsz : (s : Int) < (L : Int) := by omega
     have HI0 := hide HI.out.round
     clear HI
     go_wp2
     go_loopw [7, 8] (fun va vb wr => ∃ (a b : Nat) (F : Nat → T4), a ≤ L ∧ Hid (b = a + 2 * s) ∧ b ≤ 2000 ∧ va = .int .i64 a ∧ vb = .int .i64 b ∧ Hid (TH wr g F) ∧ Hid (Bar g w wr) ∧ Hid (Sx.Br ltT s L a f F)) (fun va _ _ => L - (intOf va).toNat)
     case atStart => exact ⟨0, 2 * s, F, by omega, by show _ = _; omega, by omega, rfl, by go_num, HH, HB, HI0⟩
     case round =>
      clear HI0 HH HB
      obtain ⟨a, b, F, haL, Hb, hb5, rfl, rfl, HH, HB, HI⟩ := hrel
      have hb6 := Hb.out
      by_cases hlt : b ≤ L
      ·have hltz : (b : Int) ≤ (L : Int) := by omega
       have HM := hide (HI.out.mg (b := b) hs0 (by omega) (by omega) CR.out)
       have k1 : a < a + s := by omega
       have k2 : a + s < b := by omega
       have k3 : a < b := by omega
       clear hb6
       go_wp2_with fail
       refine (CS.out F _ _ _ _ a (a + s) b (by omega) (by omega) (by omega) HH.out k1 k2 hlt HM.out).mono ?_
       rintro e w1 ⟨rfl, f', hT', hP, hB⟩
       have HT1 := hide hT'
       have HB1 := hide (HB.out.trans hB)
       have HI1 : Hid (Sx.Br ltT s L b f f') := by
        have e := Hb.out
        rw [e] at hP hlt ⊢
        exact HI.out.step hs0 hlt hP.1 hP.2
       clear hT' hB hP HI HM
       go_wp2
       exact ⟨⟨b, b + 2 * s, f', by omega, rfl, by omega, rfl, by go_num, HT1, HB1, HI1⟩, by simp only [intOf]; omega⟩
      ·have hltz : ¬ (b : Int) ≤ (L : Int) := by omega
       by_cases hm : a + s < L
       ·have hmz : (a : Int) + (s : Int) < (L : Int) := by omega
        have HM := hide (HI.out.mg (b := L) hs0 hm (by omega) CR.out)
        have k1 : a < a + s := by omega
        clear hb6
        go_wp2_with fail
        refine (CS.out F _ _ _ _ a (a + s) L (by omega) (by omega) (by omega) HH.out k1 hm (Nat.le_refl _) HM.out).mono ?_
        rintro e w1 ⟨rfl, f', hT', hP, hB⟩
        have HT1 := hide hT'
        have HB1 := hide (HB.out.trans hB)
        have HI1 : Hid (Sx.Bk ltT (2 * s) L f f') := HI.out.last hs0 (by have := Hb.out; omega) hm hP.1 hP.2
        clear hT' hB hP HI HM
        go_wp2
        exact ⟨⟨2 * s, f', by omega, by omega, by go_num, HT1, HB1, HI1⟩, by simp only [intOf]; omega⟩
       ·have hmz : ¬ (a : Int) + (s : Int) < (L : Int) := by omega
        have HI1 : Hid (Sx.Bk ltT (2 * s) L f F) := HI.out.none hs0 (by omega) (by omega)
        clear hb6
        go_wp2
        exact ⟨⟨2 * s, F, by omega, by omega, by go_num, HH, HB, HI1⟩, by simp only [intOf]; omega⟩
    ·have hsz : ¬ (s : Int) < (L : Int) := by omega
     have HE := hide (HI.out.done (by omega))
     go_wp2
     refine bodyPost_end (results_none rfl _ _ _) rfl ?_
     exact ⟨rfl, SO.mk _ HH.out HE.out HB.out⟩
theorem jsort_c (g L cap : Nat) (f : Nat → T4) (w : World) (hT : TH w g f) (h4 : L ≤ 511) (cr : ∀ p q, p < q → q < L → Sx.Cr cT ltT (f p) (f q)) :
  Calls Tryz.prog 98 #[.slice (some ⟨g, 0, none⟩) L cap, .func (.func 99) #[] #[]] w fun e w' => e = .returned (.tuple #[]) ∧ SO g w (fun f' => Sx.Im 0 L f f' ∧ Sx.Up ltT 0 L f') w' := by
 have C := hide (jstab_c g L cap f w hT h4 cr)
 clear hT cr
 go_enter Tryz.func98, Tryz.ntmps98
 go_wp2_with fail
 refine (C.out).mono ?_
 rintro e w1 ⟨rfl, hS⟩
 have HS := hide hS
 clear hS
 go_wp2
 refine bodyPost_end (results_none rfl _ _ _) rfl ?_
 exact ⟨rfl, HS.out⟩
end Go.Proofs.YtcaalcjcpddhaaaGreat.Zz
