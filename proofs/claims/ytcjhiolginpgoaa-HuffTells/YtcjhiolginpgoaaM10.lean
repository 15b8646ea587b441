/-
  The contract of the sort's merging: two halves.
-/
import Derived.Test.YtcjhiolginpgoaaM09
import Derived.Deep.DeepCutAuto
namespace Go.Proofs.Ytcjhiolginpgoaa
open Go.RowKit
set_option linter.unusedVariables false
set_option linter.unusedSimpArgs false
set_option maxRecDepth 100000

theorem bd_of (a m b mid : Nat) (h1 : a + 1 < m) (h2 : m + 1 < b) (hm : mid = (a + b) / 2) : ∃ s0 r0, Sx.Bd a m b mid s0 r0 := by
  by_cases c : mid < m
  · exact ⟨mid + m - b, mid, ⟨by omega, by omega, .inl ⟨c, rfl, rfl, by omega⟩, by omega⟩⟩
  · exact ⟨a, m, ⟨by omega, by omega, .inr ⟨by omega, rfl, rfl⟩, by omega⟩⟩

set_option maxHeartbeats 8000000 in
theorem jsym3_c (g L cap a m b : Nat) (f : Nat → T4) (w : World) (hT : TH w g f) (h1 : a < m) (h2 : m < b) (h3 : b ≤ L) (h4 : L ≤ 511) (M : Sx.Mg cT ltT a m b f) (h5 : a + 1 < m) (h6 : m + 1 < b)
    (ih : ∀ (F : Nat → T4) (w0 : World) (x y z : Int) (p q t : Nat), x = (p : Nat) → y = (q : Nat) → z = (t : Nat) → t - p < b - a → TH w0 g F → p < q → q < t → t ≤ L → Sx.Mg cT ltT p q t F → Calls Try.prog 56 #[.slice (some ⟨g, 0, none⟩) L cap, .int .i64 x, .int .i64 y, .int .i64 z, .func (.func 40) #[] #[]] w0 fun e w' => e = .returned (.tuple #[]) ∧ SO g w0 (fun f' => Sx.Im p t F f' ∧ Sx.Up ltT p t f') w') :
    Calls Try.prog 56 #[.slice (some ⟨g, 0, none⟩) L cap, .int .i64 a, .int .i64 m, .int .i64 b, .func (.func 40) #[] #[]] w fun e w' => e = .returned (.tuple #[]) ∧ SO g w (fun f' => Sx.Im a b f f' ∧ Sx.Up ltT a b f') w' := by
  have HT := hide hT
  have HM := hide M
  have C : Hid (∀ (x y : T4) (w0 : World), Calls Try.prog 40 #[.agg (tc x).toArray, .agg (tc y).toArray] w0 fun e w' => e = .returned (.int .i64 (cvT x y)) ∧ Below w0.heap.size w0 w') := fun x y w0 => jless_c x y w0
  clear hT M
  have q1 : ((m : Int) - (a : Int) == 1) = false := by simp; omega
  have q2 : ((b : Int) - (m : Int) == 1) = false := by simp; omega
  have IH := hide ih
  have CR : Hid (∀ (F : Nat → T4) (w0 : World), TH w0 g F → ∀ (x y z : Int) (p q t : Nat), x = (p : Nat) → y = (q : Nat) → z = (t : Nat) → p < q → q < t → t ≤ L → Calls Try.prog 57 #[.slice (some ⟨g, 0, none⟩) L cap, .int .i64 x, .int .i64 y, .int .i64 z, .func (.func 40) #[] #[]] w0 fun e w' => e = .returned (.tuple #[]) ∧ SO g w0 (fun f' => f' = Sx.rot F p q t) w') := fun F w0 hF x y z p q t e1 e2 e3 g1 g2 g3 => by
    subst e1 e2 e3
    exact jrot_c g L cap p q t F w0 hF g1 g2 g3 h4
  clear ih
  obtain ⟨mid, hmid⟩ : ∃ mid : Nat, mid = (a + b) / 2 := ⟨_, rfl⟩
  have hz0 : ((a : Int) + (b : Int)) / 2 = (mid : Int) := by omega
  obtain ⟨s0, r0, HD0⟩ := bd_of a m b mid h5 h6 hmid
  have HD := hide HD0
  have hsr : a ≤ s0 ∧ s0 ≤ r0 ∧ r0 ≤ m ∧ r0 ≤ mid ∧ a < mid ∧ mid < b := by
    have e1 := HD0.md
    have e2 := HD0.am
    rcases HD0.c with d | d <;> omega
  obtain ⟨pp, hpp⟩ : ∃ pp : Nat, Hid (pp = mid + m - 1) := ⟨_, rfl⟩
  have zp : (mid : Int) + (m : Int) - 1 = (pp : Int) := by have := hpp.out; omega
  clear hmid HD0
  go_enter Try.func56, Try.ntmps56
  go_upto_if 140 with fail
  go_cut [20, 21] (fun t20 t21 wx => t20 = .int .i64 s0 ∧ t21 = .int .i64 r0 ∧ wx = w)
  case first =>
    by_cases hgt : mid < m
    · have hgz : (mid : Int) < (m : Int) := by omega
      have e0 : (mid : Int) + (m : Int) - (b : Int) = (s0 : Int) ∧ r0 = mid := by
        rcases HD.out.c with d | d <;> omega
      obtain ⟨e1, e2⟩ := e0
      subst e2
      go_wp2_with fail
      go_meet
      exact ⟨by go_num, rfl, rfl⟩
    · have hgz : ¬ (mid : Int) < (m : Int) := by omega
      have e0 : s0 = a ∧ r0 = m := by
        rcases HD.out.c with d | d <;> omega
      obtain ⟨e1, e2⟩ := e0
      subst e1 e2
      go_wp2_with fail
      go_meet
      exact ⟨rfl, rfl, rfl⟩
  case rest =>
    obtain ⟨rfl, rfl, hwc⟩ := hcut
    replace hwc := hwc.symm
    subst hwc
    clear q1 q2 hz0
    go_wp2
    go_loopw [20, 21] (fun vi vj wr => ∃ (i j : Nat), s0 ≤ i ∧ i ≤ j ∧ j ≤ r0 ∧ vi = .int .i64 i ∧ vj = .int .i64 j ∧ Hid (TH wr g f) ∧ Hid (Bar g w wr) ∧ Hid (Sx.B3 ltT (mid + m - 1) s0 r0 i j f)) (fun vi vj _ => (intOf vj).toNat - (intOf vi).toNat)
    case atStart => exact ⟨s0, r0, by omega, by omega, by omega, rfl, rfl, HT, Bar.refl _ _, Sx.B3.start _ _ _ _ _ (by omega)⟩
    case round =>
      obtain ⟨i, j, hai, hib, hjb, rfl, rfl, HH, HB, HI⟩ := hrel
      clear HT
      by_cases hlt : i < j
      · have hltz : (i : Int) < (j : Int) := by omega
        obtain ⟨hm, hh⟩ : ∃ hm : Nat, hm = (i + j) / 2 := ⟨_, rfl⟩
        have hz : ((i : Int) + (j : Int)) / 2 = (hm : Int) := by omega
        have hi1 : i ≤ hm := by omega
        have hi2 : hm < j := by omega
        have hmL : (hm : Int) < (L : Int) := by omega
        have hpp1 := hpp.out
        obtain ⟨qq, hqq⟩ : ∃ qq : Nat, Hid (qq = mid + m - 1 - hm) := ⟨_, rfl⟩
        have hqq1 := hqq.out
        have zq : (pp : Int) - (hm : Int) = (qq : Int) := by omega
        have hqb : qq < b := by have hf := HD.out.half; rcases HD.out.c with d | d <;> omega
        have hqL : (qq : Int) < (L : Int) := by omega
        have wq : IntKind.i64.wrap (qq : Int) = (qq : Int) := by rw [IntKind.wrap_i64]; omega
        clear hh hqq1 hpp1
        have C1 := hide (C.out (f qq) (f hm))
        by_cases hc : cT (f qq) (f hm) = true
        · have HI1 := hide (Sx.B3.down ltT_trans HM.out HD.out HI.out hi1 hi2 (by rw [← hqq.out]; exact hc))
          have hv : cvT (f qq) (f hm) < 0 := by unfold cT at hc; simpa using hc
          clear hc HI
          generalize cvT (f qq) (f hm) = V at *
          go_wp2
          refine region_g [] (fun w' => TH w' g f) (by kernel_rfl) ?_
          have hS : TH wr.drew g f := HH.out.drew
          have HB2 : Hid (Bar g w wr.drew) := HB.out.drew
          generalize wr.drew = Y at *
          refine AnyG.take 0 (v := ?vv75) rfl (by kernel_rfl) (by kernel_rfl) (by kernel_rfl) (by kernel_rfl) (fun _ _ _ h => h) hS ?hy75 (by rfl) ?rest75
          case hy75 =>
            intro w0 h0
            go_simp
            try with_reducible rfl
          simp only [Act.put, List.getElem_toArray, List.getElem_cons_zero, List.getElem_cons_succ, List.setIfInBounds_toArray, List.set_cons_zero, List.set_cons_succ]
          refine AnyG.take 1 (v := ?vv76) rfl (by kernel_rfl) (by kernel_rfl) (by kernel_rfl) (by kernel_rfl) (fun _ _ _ h => h) hS ?hy76 (by rfl) ?rest76
          case hy76 =>
            intro w0 h0
            go_simp
            try with_reducible rfl
          simp only [Act.put, List.getElem_toArray, List.getElem_cons_zero, List.getElem_cons_succ, List.setIfInBounds_toArray, List.set_cons_zero, List.set_cons_succ]
          refine AnyG.take 2 (v := ?vv77) rfl (by kernel_rfl) (by kernel_rfl) (by kernel_rfl) (by kernel_rfl) (fun _ _ _ h => h) hS ?hy77 (by rfl) ?rest77
          case hy77 =>
            intro w0 h0
            go_simp
            try with_reducible rfl
          simp only [Act.put, List.getElem_toArray, List.getElem_cons_zero, List.getElem_cons_succ, List.setIfInBounds_toArray, List.set_cons_zero, List.set_cons_succ]
          refine AnyG.take 3 (v := ?vv78) rfl (by kernel_rfl) (by kernel_rfl) (by kernel_rfl) (by kernel_rfl) (fun _ _ _ h => h) hS ?hy78 (by rfl) ?rest78
          case hy78 =>
            intro w0 h0
            go_simp
            try with_reducible rfl
          simp only [Act.put, List.getElem_toArray, List.getElem_cons_zero, List.getElem_cons_succ, List.setIfInBounds_toArray, List.set_cons_zero, List.set_cons_succ]
          refine AnyG.take 4 (v := ?vv79) rfl (by kernel_rfl) (by kernel_rfl) (by kernel_rfl) (by kernel_rfl) (fun _ _ _ h => h) hS ?hy79 (by rfl) ?rest79
          case hy79 =>
            intro w0 h0
            go_simp
            try with_reducible rfl
          simp only [Act.put, List.getElem_toArray, List.getElem_cons_zero, List.getElem_cons_succ, List.setIfInBounds_toArray, List.set_cons_zero, List.set_cons_succ]
          refine AnyG.take 5 (v := ?vv80) rfl (by kernel_rfl) (by kernel_rfl) (by kernel_rfl) (by kernel_rfl) (fun _ _ _ h => h) hS ?hy80 (by rfl) ?rest80
          case hy80 =>
            intro w0 h0
            go_simp
            try with_reducible rfl
          simp only [Act.put, List.getElem_toArray, List.getElem_cons_zero, List.getElem_cons_succ, List.setIfInBounds_toArray, List.set_cons_zero, List.set_cons_succ]
          refine AnyG.take 6 (v := .agg (tc (f (qq))).toArray) rfl (by kernel_rfl) (by kernel_rfl) (by kernel_rfl) (by kernel_rfl) (fun _ _ _ h => h) hS (fun w0 h0 => run_load_th g f (qq) _ (by omega) (by omega) rfl h0) (by rfl) ?rest81
          simp only [Act.put, List.getElem_toArray, List.getElem_cons_zero, List.getElem_cons_succ, List.setIfInBounds_toArray, List.set_cons_zero, List.set_cons_succ]
          refine AnyG.take 7 (v := ?vv82) rfl (by kernel_rfl) (by kernel_rfl) (by kernel_rfl) (by kernel_rfl) (fun _ _ _ h => h) hS ?hy82 (by rfl) ?rest82
          case hy82 =>
            intro w0 h0
            go_simp
            try with_reducible rfl
          simp only [Act.put, List.getElem_toArray, List.getElem_cons_zero, List.getElem_cons_succ, List.setIfInBounds_toArray, List.set_cons_zero, List.set_cons_succ]
          refine AnyG.take 8 (v := ?vv83) rfl (by kernel_rfl) (by kernel_rfl) (by kernel_rfl) (by kernel_rfl) (fun _ _ _ h => h) hS ?hy83 (by rfl) ?rest83
          case hy83 =>
            intro w0 h0
            go_simp
            try with_reducible rfl
          simp only [Act.put, List.getElem_toArray, List.getElem_cons_zero, List.getElem_cons_succ, List.setIfInBounds_toArray, List.set_cons_zero, List.set_cons_succ]
          refine AnyG.take 9 (v := ?vv84) rfl (by kernel_rfl) (by kernel_rfl) (by kernel_rfl) (by kernel_rfl) (fun _ _ _ h => h) hS ?hy84 (by rfl) ?rest84
          case hy84 =>
            intro w0 h0
            go_simp
            try with_reducible rfl
          simp only [Act.put, List.getElem_toArray, List.getElem_cons_zero, List.getElem_cons_succ, List.setIfInBounds_toArray, List.set_cons_zero, List.set_cons_succ]
          refine AnyG.take 10 (v := .agg (tc (f (hm))).toArray) rfl (by kernel_rfl) (by kernel_rfl) (by kernel_rfl) (by kernel_rfl) (fun _ _ _ h => h) hS (fun w0 h0 => run_load_th g f (hm) _ (by omega) (by omega) rfl h0) (by rfl) ?rest85
          simp only [Act.put, List.getElem_toArray, List.getElem_cons_zero, List.getElem_cons_succ, List.setIfInBounds_toArray, List.set_cons_zero, List.set_cons_succ]
          refine AnyG.one 11 (by kernel_rfl) rfl ?_
          intro K hK
          go_simp
          refine (C1.out _).mono ?_
          rintro e w3 ⟨rfl, hb3⟩
          refine hK.out _ _ (fun _ => hS.kept hb3) ?_
          clear hK K
          try simp only [Act.put, List.getElem_toArray, List.getElem_cons_zero, List.getElem_cons_succ, List.setIfInBounds_toArray, List.set_cons_zero, List.set_cons_succ]
          replace HB2 : Hid (Bar g w w3) := HB2.out.trans (Bar.of hb3)
          replace hS := hS.kept hb3
          clear hb3
          refine AnyG.take 12 (v := ?vv86) rfl (by kernel_rfl) (by kernel_rfl) (by kernel_rfl) (by kernel_rfl) (fun _ _ _ h => h) hS ?hy86 (by rfl) ?rest86
          case hy86 =>
            intro w0 h0
            go_simp
            try with_reducible rfl
          simp only [Act.put, List.getElem_toArray, List.getElem_cons_zero, List.getElem_cons_succ, List.setIfInBounds_toArray, List.set_cons_zero, List.set_cons_succ]
          refine AnyG.take 13 (v := ?vv87) rfl (by kernel_rfl) (by kernel_rfl) (by kernel_rfl) (by kernel_rfl) (fun _ _ _ h => h) hS ?hy87 (by rfl) ?rest87
          case hy87 =>
            intro w0 h0
            go_simp
            try with_reducible rfl
          simp only [Act.put, List.getElem_toArray, List.getElem_cons_zero, List.getElem_cons_succ, List.setIfInBounds_toArray, List.set_cons_zero, List.set_cons_succ]
          refine AnyG.done (by kernel_rfl) ?_ _
          go_wp2
          exact ⟨⟨i, hm, by omega, by omega, by omega, rfl, rfl, hS, HB2, HI1⟩, by simp only [intOf]; omega⟩
        · have hc' : cT (f qq) (f hm) = false := Bool.eq_false_iff.2 hc
          have HI1 := hide (Sx.B3.up ltT_trans HM.out HD.out HI.out hi1 hi2 (by rw [← hqq.out]; exact hc'))
          have hv : ¬ cvT (f qq) (f hm) < 0 := by unfold cT at hc; simpa using hc
          clear hc hc' HI
          generalize cvT (f qq) (f hm) = V at *
          have hd : decide (V < 0) = false := by simpa using hv
          have hd2 : (!decide (V < 0)) = true := by rw [hd]; rfl
          go_wp2
          refine region_g [] (fun w' => TH w' g f) (by kernel_rfl) ?_
          have hS : TH wr.drew g f := HH.out.drew
          have HB2 : Hid (Bar g w wr.drew) := HB.out.drew
          generalize wr.drew = Y at *
          refine AnyG.take 0 (v := ?vv88) rfl (by kernel_rfl) (by kernel_rfl) (by kernel_rfl) (by kernel_rfl) (fun _ _ _ h => h) hS ?hy88 (by rfl) ?rest88
          case hy88 =>
            intro w0 h0
            go_simp
            try with_reducible rfl
          simp only [Act.put, List.getElem_toArray, List.getElem_cons_zero, List.getElem_cons_succ, List.setIfInBounds_toArray, List.set_cons_zero, List.set_cons_succ]
          refine AnyG.take 1 (v := ?vv89) rfl (by kernel_rfl) (by kernel_rfl) (by kernel_rfl) (by kernel_rfl) (fun _ _ _ h => h) hS ?hy89 (by rfl) ?rest89
          case hy89 =>
            intro w0 h0
            go_simp
            try with_reducible rfl
          simp only [Act.put, List.getElem_toArray, List.getElem_cons_zero, List.getElem_cons_succ, List.setIfInBounds_toArray, List.set_cons_zero, List.set_cons_succ]
          refine AnyG.take 2 (v := ?vv90) rfl (by kernel_rfl) (by kernel_rfl) (by kernel_rfl) (by kernel_rfl) (fun _ _ _ h => h) hS ?hy90 (by rfl) ?rest90
          case hy90 =>
            intro w0 h0
            go_simp
            try with_reducible rfl
          simp only [Act.put, List.getElem_toArray, List.getElem_cons_zero, List.getElem_cons_succ, List.setIfInBounds_toArray, List.set_cons_zero, List.set_cons_succ]
          refine AnyG.take 3 (v := ?vv91) rfl (by kernel_rfl) (by kernel_rfl) (by kernel_rfl) (by kernel_rfl) (fun _ _ _ h => h) hS ?hy91 (by rfl) ?rest91
          case hy91 =>
            intro w0 h0
            go_simp
            try with_reducible rfl
          simp only [Act.put, List.getElem_toArray, List.getElem_cons_zero, List.getElem_cons_succ, List.setIfInBounds_toArray, List.set_cons_zero, List.set_cons_succ]
          refine AnyG.take 4 (v := ?vv92) rfl (by kernel_rfl) (by kernel_rfl) (by kernel_rfl) (by kernel_rfl) (fun _ _ _ h => h) hS ?hy92 (by rfl) ?rest92
          case hy92 =>
            intro w0 h0
            go_simp
            try with_reducible rfl
          simp only [Act.put, List.getElem_toArray, List.getElem_cons_zero, List.getElem_cons_succ, List.setIfInBounds_toArray, List.set_cons_zero, List.set_cons_succ]
          refine AnyG.take 5 (v := ?vv93) rfl (by kernel_rfl) (by kernel_rfl) (by kernel_rfl) (by kernel_rfl) (fun _ _ _ h => h) hS ?hy93 (by rfl) ?rest93
          case hy93 =>
            intro w0 h0
            go_simp
            try with_reducible rfl
          simp only [Act.put, List.getElem_toArray, List.getElem_cons_zero, List.getElem_cons_succ, List.setIfInBounds_toArray, List.set_cons_zero, List.set_cons_succ]
          refine AnyG.take 6 (v := .agg (tc (f (qq))).toArray) rfl (by kernel_rfl) (by kernel_rfl) (by kernel_rfl) (by kernel_rfl) (fun _ _ _ h => h) hS (fun w0 h0 => run_load_th g f (qq) _ (by omega) (by omega) rfl h0) (by rfl) ?rest94
          simp only [Act.put, List.getElem_toArray, List.getElem_cons_zero, List.getElem_cons_succ, List.setIfInBounds_toArray, List.set_cons_zero, List.set_cons_succ]
          refine AnyG.take 7 (v := ?vv95) rfl (by kernel_rfl) (by kernel_rfl) (by kernel_rfl) (by kernel_rfl) (fun _ _ _ h => h) hS ?hy95 (by rfl) ?rest95
          case hy95 =>
            intro w0 h0
            go_simp
            try with_reducible rfl
          simp only [Act.put, List.getElem_toArray, List.getElem_cons_zero, List.getElem_cons_succ, List.setIfInBounds_toArray, List.set_cons_zero, List.set_cons_succ]
          refine AnyG.take 8 (v := ?vv96) rfl (by kernel_rfl) (by kernel_rfl) (by kernel_rfl) (by kernel_rfl) (fun _ _ _ h => h) hS ?hy96 (by rfl) ?rest96
          case hy96 =>
            intro w0 h0
            go_simp
            try with_reducible rfl
          simp only [Act.put, List.getElem_toArray, List.getElem_cons_zero, List.getElem_cons_succ, List.setIfInBounds_toArray, List.set_cons_zero, List.set_cons_succ]
          refine AnyG.take 9 (v := ?vv97) rfl (by kernel_rfl) (by kernel_rfl) (by kernel_rfl) (by kernel_rfl) (fun _ _ _ h => h) hS ?hy97 (by rfl) ?rest97
          case hy97 =>
            intro w0 h0
            go_simp
            try with_reducible rfl
          simp only [Act.put, List.getElem_toArray, List.getElem_cons_zero, List.getElem_cons_succ, List.setIfInBounds_toArray, List.set_cons_zero, List.set_cons_succ]
          refine AnyG.take 10 (v := .agg (tc (f (hm))).toArray) rfl (by kernel_rfl) (by kernel_rfl) (by kernel_rfl) (by kernel_rfl) (fun _ _ _ h => h) hS (fun w0 h0 => run_load_th g f (hm) _ (by omega) (by omega) rfl h0) (by rfl) ?rest98
          simp only [Act.put, List.getElem_toArray, List.getElem_cons_zero, List.getElem_cons_succ, List.setIfInBounds_toArray, List.set_cons_zero, List.set_cons_succ]
          refine AnyG.one 11 (by kernel_rfl) rfl ?_
          intro K hK
          go_simp
          refine (C1.out _).mono ?_
          rintro e w3 ⟨rfl, hb3⟩
          refine hK.out _ _ (fun _ => hS.kept hb3) ?_
          clear hK K
          try simp only [Act.put, List.getElem_toArray, List.getElem_cons_zero, List.getElem_cons_succ, List.setIfInBounds_toArray, List.set_cons_zero, List.set_cons_succ]
          replace HB2 : Hid (Bar g w w3) := HB2.out.trans (Bar.of hb3)
          replace hS := hS.kept hb3
          clear hb3
          refine AnyG.take 12 (v := ?vv99) rfl (by kernel_rfl) (by kernel_rfl) (by kernel_rfl) (by kernel_rfl) (fun _ _ _ h => h) hS ?hy99 (by rfl) ?rest99
          case hy99 =>
            intro w0 h0
            go_simp
            try with_reducible rfl
          simp only [Act.put, List.getElem_toArray, List.getElem_cons_zero, List.getElem_cons_succ, List.setIfInBounds_toArray, List.set_cons_zero, List.set_cons_succ]
          refine AnyG.take 13 (v := ?vv100) rfl (by kernel_rfl) (by kernel_rfl) (by kernel_rfl) (by kernel_rfl) (fun _ _ _ h => h) hS ?hy100 (by rfl) ?rest100
          case hy100 =>
            intro w0 h0
            go_simp
            try with_reducible rfl
          simp only [Act.put, List.getElem_toArray, List.getElem_cons_zero, List.getElem_cons_succ, List.setIfInBounds_toArray, List.set_cons_zero, List.set_cons_succ]
          refine AnyG.done (by kernel_rfl) ?_ _
          go_wp2
          exact ⟨⟨hm + 1, j, by omega, by omega, by omega, by go_num, rfl, hS, HB2, HI1⟩, by simp only [intOf]; omega⟩
      · obtain rfl : j = i := by omega
        obtain ⟨ee, hee⟩ : ∃ ee : Nat, Hid (ee = mid + m - j) := ⟨_, rfl⟩
        have hS := Sx.split ltT_trans HM.out HD.out HI.out
        rw [← hee.out] at hS
        have HS := hide hS
        have hle := hS.le
        have ze : (mid : Int) + (m : Int) - (j : Int) = (ee : Int) := by have := hee.out; omega
        have hme : m ≤ ee := by have := hee.out; omega
        have hjm : j ≤ m := by omega
        have heL : ee ≤ L := by omega
        clear hS HI C hpp zp HM HD
        go_upto_region 38 with fail
        go_cut [24] (fun te wx => te = .int .i64 ee ∧ wx = wr)
        case first =>
          go_wp2_with fail
          go_meet
          exact ⟨by go_num, rfl⟩
        case rest =>
          obtain ⟨rfl, hwc⟩ := hcut
          replace hwc := hwc.symm
          subst hwc
          rename_i K0 hK0 K1 hK1
          refine hK1 _ _ ?_
          clear hK1 K1 hK0 K0
          exact jsym3_t g L cap a m b j mid ee pp f w wr _ _ _ _ _ _ _ _ _ _ _ _ _ _ _ _ _ _ _ _ _ _ _ _ _ _ _ _ _ _ _ _ _ _ _ _ _ _ _ _ _ _ _ _ _ _ _ _ _ _ _ _ _ _ _ _ _ _ _ _ _ _ _ _ _ _ _ _ _ _ _ _ _ _ _ _ _ _ _ _ _ _ _ _ _ _ _ _ _ _ _ _ _ _ _ _ _ _ _ _ _ _ _ _ _ _ _ _ _ _ _ _ _ _ _ _ _ _ _ _ _ _ _ _ _ _ _ _ _ _ _ _ _ _ _ _ _ _ _ _ _ _ _ _ _ _ _ _ _ _ _ _ _ _ _ _ _ _ _ _ _ _ _ _ _ _ _ _ _ _ _ _ _ _ _ _ _ _ _ _ _ _ _ _ _ _ _ _ _ _ _ _ _ _ _ _ h1 h2 h3 h4 (by omega) hle hme hjm heL HH HB HS CR IH

theorem jsym_k (g L cap : Nat) (h4 : L ≤ 511) : ∀ (k : Nat) (F : Nat → T4) (w0 : World) (x y z : Int) (p q t : Nat), x = (p : Nat) → y = (q : Nat) → z = (t : Nat) → t - p ≤ k → TH w0 g F → p < q → q < t → t ≤ L → Sx.Mg cT ltT p q t F → Calls Try.prog 56 #[.slice (some ⟨g, 0, none⟩) L cap, .int .i64 x, .int .i64 y, .int .i64 z, .func (.func 40) #[] #[]] w0 fun e w' => e = .returned (.tuple #[]) ∧ SO g w0 (fun f' => Sx.Im p t F f' ∧ Sx.Up ltT p t f') w' := by
  intro k
  induction k with
  | zero => intro F w0 x y z p q t _ _ _ h _ h1 h2; omega
  | succ k ih =>
    intro F w0 x y z p q t ex ey ez hk hT h1 h2 h3 M
    subst ex ey ez
    by_cases c1 : q = p + 1
    · exact jsym1_c g L cap p q t F w0 hT h1 h2 h3 h4 M c1
    · by_cases c2 : t = q + 1
      · exact jsym2_c g L cap p q t F w0 hT h1 h2 h3 h4 M (by omega) c2
      · exact jsym3_c g L cap p q t F w0 hT h1 h2 h3 h4 M (by omega) (by omega) (fun F w0 x y z p' q' t' e1 e2 e3 hlt hF g1 g2 g3 M' => ih F w0 x y z p' q' t' e1 e2 e3 (by omega) hF g1 g2 g3 M')
end Go.Proofs.Ytcjhiolginpgoaa
