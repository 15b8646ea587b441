/-
  The contract of the sort's merging: two halves.
-/
import Derived.Test.YtcjhiolginpgoaaM08
import Derived.Deep.DeepCutAuto
namespace Go.Proofs.Ytcjhiolginpgoaa
open Go.RowKit
set_option linter.unusedVariables false
set_option linter.unusedSimpArgs false
set_option maxRecDepth 100000

def sndC : Code → Code
  | .seq _ y => y
  | c => c

set_option maxHeartbeats 8000000 in
theorem jsym3_t (g L cap a m b j mid ee pp : Nat) (f : Nat → T4) (w wr : World) (u23 u25 u26 u27 u28 u29 u30 u31 u32 u33 u34 u35 u36 u37 u38 u39 u40 u41 u42 u43 u44 u45 u46 u47 u48 u49 u50 u51 u52 u53 u54 u55 u56 u57 u58 u59 u60 u61 u62 u63 u64 u65 u66 u67 u68 u69 u70 u71 u72 u73 u74 u75 u76 u77 u78 u79 u80 u81 u82 u83 u84 u85 u86 u87 u88 u89 u90 u91 u92 u93 u94 u95 u96 u97 u98 u99 u100 u101 u102 u103 u104 u105 u106 u107 u108 u109 u110 u111 u112 u113 u114 u115 u116 u117 u118 u119 u120 u121 u122 u123 u124 u125 u126 u127 u128 u129 u130 u131 u132 u133 u134 u135 u136 u137 u138 u139 u140 u141 u142 u143 u144 u145 u146 u147 u148 u149 u150 u151 u152 u153 u154 u155 u156 u157 u158 u159 u160 u161 u162 u163 u164 u165 u166 u167 u168 u169 u170 u171 u172 u173 u174 u175 u176 u177 u178 u179 u180 u181 u182 u183 u184 u185 u186 u187 u188 u189 u190 u191 u192 u193 u194 u195 u196 u197 u198 u199 u200 u201 u202 u203 u204 u205 u206 u207 u208 u209 u210 u211 u212 u213 u214 u215 u216 u217 u218 u219 : Value) (h1 : a < m) (h2 : m < b) (h3 : b ≤ L) (h4 : L ≤ 511) (hmid : a < mid ∧ mid < b) (hle : a ≤ j ∧ j ≤ mid ∧ mid ≤ ee ∧ ee ≤ b) (hme : m ≤ ee) (hjm : j ≤ m) (heL : ee ≤ L)
    (HH : Hid (TH wr g f)) (HB : Hid (Bar g w wr)) (HS : Hid (Sx.Sp cT ltT a j mid ee b f (Sx.rot f j m ee)))
    (CR : Hid (∀ (F : Nat → T4) (w0 : World), TH w0 g F → ∀ (x y z : Int) (p q t : Nat), x = (p : Nat) → y = (q : Nat) → z = (t : Nat) → p < q → q < t → t ≤ L → Calls Try.prog 57 #[.slice (some ⟨g, 0, none⟩) L cap, .int .i64 x, .int .i64 y, .int .i64 z, .func (.func 40) #[] #[]] w0 fun e w' => e = .returned (.tuple #[]) ∧ SO g w0 (fun f' => f' = Sx.rot F p q t) w'))
    (IH : Hid (∀ (F : Nat → T4) (w0 : World) (x y z : Int) (p q t : Nat), x = (p : Nat) → y = (q : Nat) → z = (t : Nat) → t - p < b - a → TH w0 g F → p < q → q < t → t ≤ L → Sx.Mg cT ltT p q t F → Calls Try.prog 56 #[.slice (some ⟨g, 0, none⟩) L cap, .int .i64 x, .int .i64 y, .int .i64 z, .func (.func 40) #[] #[]] w0 fun e w' => e = .returned (.tuple #[]) ∧ SO g w0 (fun f' => Sx.Im p t F f' ∧ Sx.Up ltT p t f') w')) :
    Code.wp Try.prog (sndC (sndC (sndC (sndC (sndC (sndC (sndC (sndC (sndC (Try.f56.body.getD .skip)))))))))) (bodyPost Try.prog Try.f56 fun e w' => e = .returned (.tuple #[]) ∧ SO g w (fun f' => Sx.Im a b f f' ∧ Sx.Up ltT a b f') w') { tmps := List.toArray ((.slice (some ⟨g, 0, none⟩) L cap : Value) :: (.int .i64 a : Value) :: (.int .i64 m : Value) :: (.int .i64 b : Value) :: (.func (.func 40) #[] #[] : Value) :: (undef : Value) :: (undef : Value) :: (undef : Value) :: (undef : Value) :: (undef : Value) :: (undef : Value) :: (undef : Value) :: (undef : Value) :: (undef : Value) :: (undef : Value) :: (undef : Value) :: (undef : Value) :: (undef : Value) :: (.int .i64 mid : Value) :: (.int .i64 ((mid : Int) + (m : Int)) : Value) :: (.int .i64 j : Value) :: (.int .i64 j : Value) :: (.int .i64 pp : Value) :: u23 :: (.int .i64 ee : Value) :: u25 :: u26 :: u27 :: u28 :: u29 :: u30 :: u31 :: u32 :: u33 :: u34 :: u35 :: u36 :: u37 :: u38 :: u39 :: u40 :: u41 :: u42 :: u43 :: u44 :: u45 :: u46 :: u47 :: u48 :: u49 :: u50 :: u51 :: u52 :: u53 :: u54 :: u55 :: u56 :: u57 :: u58 :: u59 :: u60 :: u61 :: u62 :: u63 :: u64 :: u65 :: u66 :: u67 :: u68 :: u69 :: u70 :: u71 :: u72 :: u73 :: u74 :: u75 :: u76 :: u77 :: u78 :: u79 :: u80 :: u81 :: u82 :: u83 :: u84 :: u85 :: u86 :: u87 :: u88 :: u89 :: u90 :: u91 :: u92 :: u93 :: u94 :: u95 :: u96 :: u97 :: u98 :: u99 :: u100 :: u101 :: u102 :: u103 :: u104 :: u105 :: u106 :: u107 :: u108 :: u109 :: u110 :: u111 :: u112 :: u113 :: u114 :: u115 :: u116 :: u117 :: u118 :: u119 :: u120 :: u121 :: u122 :: u123 :: u124 :: u125 :: u126 :: u127 :: u128 :: u129 :: u130 :: u131 :: u132 :: u133 :: u134 :: u135 :: u136 :: u137 :: u138 :: u139 :: u140 :: u141 :: u142 :: u143 :: u144 :: u145 :: u146 :: u147 :: u148 :: u149 :: u150 :: u151 :: u152 :: u153 :: u154 :: u155 :: u156 :: u157 :: u158 :: u159 :: u160 :: u161 :: u162 :: u163 :: u164 :: u165 :: u166 :: u167 :: u168 :: u169 :: u170 :: u171 :: u172 :: u173 :: u174 :: u175 :: u176 :: u177 :: u178 :: u179 :: u180 :: u181 :: u182 :: u183 :: u184 :: u185 :: u186 :: u187 :: u188 :: u189 :: u190 :: u191 :: u192 :: u193 :: u194 :: u195 :: u196 :: u197 :: u198 :: u199 :: u200 :: u201 :: u202 :: u203 :: u204 :: u205 :: u206 :: u207 :: u208 :: u209 :: u210 :: u211 :: u212 :: u213 :: u214 :: u215 :: u216 :: u217 :: u218 :: u219 :: []), defers := [] } wr := by
  conv => arg 2; whnf
  refine wp_seq_k fun K hK => ?_
  go_cut [] (fun wx => ∃ G, Hid (TH wx g G) ∧ Hid (Bar g w wx) ∧ Hid (Sx.Sp cT ltT a j mid ee b f G))
  case first =>
    by_cases c1 : j < m
    · have c1z : (j : Int) < (m : Int) := by omega
      by_cases c2 : m < ee
      · have c2z : (m : Int) < (ee : Int) := by omega
        clear hK
        go_wp2_with fail
        refine (CR.out f _ HH.out _ _ _ j m ee (by omega) (by omega) (by omega) c1 c2 heL).mono ?_
        rintro e w1 ⟨rfl, f', hT', rfl, hB⟩
        have HT1 := hide hT'
        have HB1 := hide (HB.out.trans hB)
        clear hT' hB
        go_wp2_with fail
        go_meet
        exact ⟨_, HT1, HB1, HS⟩
      · have c2z : ¬ (m : Int) < (ee : Int) := by omega
        clear hK
        have HS1 : Hid (Sx.Sp cT ltT a j mid ee b f f) := by
          have := HS.out
          rwa [Sx.rot_none f j m ee hjm hme (by omega)] at this
        go_wp2_with fail
        go_meet
        exact ⟨f, HH, HB, HS1⟩
    · have c1z : ¬ (j : Int) < (m : Int) := by omega
      clear hK
      have HS1 : Hid (Sx.Sp cT ltT a j mid ee b f f) := by
        have := HS.out
        rwa [Sx.rot_none f j m ee hjm hme (by omega)] at this
      go_wp2_with fail
      go_meet
      exact ⟨f, HH, HB, HS1⟩
  case rest =>
    clear HH HB HS CR
    obtain ⟨G, HH, HB, HS⟩ := hcut
    refine hK _ _ ?_
    clear hK K
    refine wp_seq_k fun K hK => ?_
    go_cut [] (fun wx => ∃ G1, Hid (TH wx g G1) ∧ Hid (Bar g w wx) ∧ Hid (Sx.Im a mid G G1 ∧ Sx.Up ltT a mid G1))
    case first =>
      by_cases c1 : a < j
      · have c1z : (a : Int) < (j : Int) := by omega
        by_cases c2 : j < mid
        · have c2z : (j : Int) < (mid : Int) := by omega
          clear hK
          go_wp2_with fail
          refine (IH.out G _ _ _ _ a j mid (by omega) (by omega) (by omega) (by omega) HH.out c1 c2 (by omega) HS.out.l).mono ?_
          rintro e w1 ⟨rfl, f', hT', hP, hB⟩
          have HT1 := hide hT'
          have HB1 := hide (HB.out.trans hB)
          have HP := hide hP
          clear hT' hB hP
          go_wp2_with fail
          go_meet
          exact ⟨_, HT1, HB1, HP⟩
        · have c2z : ¬ (j : Int) < (mid : Int) := by omega
          clear hK
          have HP := hide (HS.out.l.none hle.1 hle.2.1 (by omega))
          go_wp2_with fail
          go_meet
          exact ⟨_, HH, HB, HP⟩
      · have c1z : ¬ (a : Int) < (j : Int) := by omega
        clear hK
        have HP := hide (HS.out.l.none hle.1 hle.2.1 (by omega))
        go_wp2_with fail
        go_meet
        exact ⟨_, HH, HB, HP⟩
    case rest =>
      clear HH HB
      obtain ⟨G1, HH, HB, HP⟩ := hcut
      have HR := hide (HS.out.right HP.out.1)
      refine hK _ _ ?_
      clear hK K
      by_cases c1 : mid < ee
      · have c1z : (mid : Int) < (ee : Int) := by omega
        by_cases c2 : ee < b
        · have c2z : (ee : Int) < (b : Int) := by omega
          go_wp2_with fail
          refine (IH.out G1 _ _ _ _ mid ee b (by omega) (by omega) (by omega) (by omega) HH.out c1 c2 (by omega) HR.out).mono ?_
          rintro e w1 ⟨rfl, f', hT', hP, hB⟩
          have HT1 := hide hT'
          have HB1 := hide (HB.out.trans hB)
          have HE := hide (HS.out.done HP.out.1 HP.out.2 hP.1 hP.2)
          clear hT' hB hP
          go_wp2
          refine bodyPost_end (results_none rfl _ _ _) rfl ?_
          exact ⟨rfl, SO.mk _ HT1.out HE.out HB1.out⟩
        · have c2z : ¬ (ee : Int) < (b : Int) := by omega
          have e2 := HR.out.none (by omega) (by omega) (by omega)
          have HE := hide (HS.out.done HP.out.1 HP.out.2 e2.1 e2.2)
          clear e2
          go_wp2
          refine bodyPost_end (results_none rfl _ _ _) rfl ?_
          exact ⟨rfl, SO.mk _ HH.out HE.out HB.out⟩
      · have c1z : ¬ (mid : Int) < (ee : Int) := by omega
        have e2 := HR.out.none (by omega) (by omega) (by omega)
        have HE := hide (HS.out.done HP.out.1 HP.out.2 e2.1 e2.2)
        clear e2
        go_wp2
        refine bodyPost_end (results_none rfl _ _ _) rfl ?_
        exact ⟨rfl, SO.mk _ HH.out HE.out HB.out⟩

end Go.Proofs.Ytcjhiolginpgoaa
