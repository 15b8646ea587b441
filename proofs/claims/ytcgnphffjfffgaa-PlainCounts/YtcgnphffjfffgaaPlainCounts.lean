/-
  PlainCounts: ones and noughts ahead of each place are all there are, and a bit more is a count more.
-/
import Derived.Test.YtcgnphffjfffgaaPh
import Derived.Test.YtcgnphffjfffgaaPh
import Derived.ChangeOld
namespace Go.Proofs.Ytcgnphffjfffgaa.plainCounts
open Go.ChangeShapes Go.WideShapes Go.ChangeAt Go.RowKit Num Bit
set_option linter.unusedVariables false
set_option linter.unusedSimpArgs false
set_option maxRecDepth 100000


set_option maxHeartbeats 4000000 in
theorem walk (w : World) (Nb : Int) (ab : Option Addr) (xb : List Nat) (cb : Nat) (hbN : -9223372036854775808 ≤ Nb ∧ Nb ≤ 9223372036854775807) (Xb : Wd w ab xb) (Fb : Fit xb) (Cb : xb.length ≤ cb) (i : Int) (hi : -9223372036854775808 ≤ i ∧ i ≤ 9223372036854775807) :
    Calls Try.prog 3 #[.agg #[.int .i64 Nb, .slice ab xb.length cb], .int .i64 i] w fun e w' => e = .returned (.bool true) ∧ Below w.heap.size w w' := by
  by_cases q1 : 3000 < Nb
  · go_enter Try.func3, Try.ntmps3
    go_wp2_with fail
    refine (heads_c _).mono ?_
    rintro e w9 ⟨rfl, hb⟩
    go_wp2
    go_ret
    exact ⟨rfl, (below_alloc w _).trans (hb.mono (by simp))⟩
  by_cases q2 : (3000 : Int) < (xb.length : Int)
  · go_enter Try.func3, Try.ntmps3
    go_wp2_with fail
    refine (heads_c _).mono ?_
    rintro e w9 ⟨rfl, hb⟩
    go_wp2
    go_ret
    exact ⟨rfl, (below_alloc w _).trans (hb.mono (by simp))⟩
  have hlx : xb.length ≤ 1048576 := by omega
  have HC : Hid (∀ w0, Below w.heap.size w w0 → Calls Try.prog 7 #[.agg #[.int .i64 Nb, .slice ab xb.length cb]] w0 fun e w' => e = .returned (.bool (chk Nb xb)) ∧ Below w0.heap.size w0 w') := fun w0 h => refcheck_c Nb ab xb cb w0 (Xb.keep h) Fb
  cases hk : chk Nb xb with
  | false =>
    rw [hk] at HC
    go_enter Try.func3, Try.ntmps3
    go_wp2_with fail
    refine (HC.out _ (below_alloc w _)).mono ?_
    rintro e w1 ⟨rfl, hb⟩
    have hw := (below_alloc w _).trans (hb.mono (by simp))
    have B0 := (Cel.new w [.int .i64 Nb, .slice ab xb.length cb] 24).kept hb
    clear hb
    have r0 := B0.cell 0 rfl
    have r1 := B0.cell 1 rfl
    go_wp2_with fail
    refine (heads_c _).mono ?_
    rintro e w9 ⟨rfl, hb⟩
    replace hw := hw.trans (hb.mono hw.size)
    go_wp2
    go_ret
    exact ⟨rfl, hw⟩
  | true =>
    rw [hk] at HC
    obtain ⟨h0, h1, -, -⟩ := chk_out Nb xb hk
    by_cases q3 : i < 0
    · go_enter Try.func3, Try.ntmps3
      go_wp2_with fail
      refine (HC.out _ (below_alloc w _)).mono ?_
      rintro e w1 ⟨rfl, hb⟩
      have hw := (below_alloc w _).trans (hb.mono (by simp))
      have B0 := (Cel.new w [.int .i64 Nb, .slice ab xb.length cb] 24).kept hb
      clear hb
      have r0 := B0.cell 0 rfl
      have r1 := B0.cell 1 rfl
      go_wp2_with fail
      refine (heads_c _).mono ?_
      rintro e w9 ⟨rfl, hb⟩
      replace hw := hw.trans (hb.mono hw.size)
      go_wp2
      go_ret
      exact ⟨rfl, hw⟩
    by_cases q4 : Nb ≤ i
    · go_enter Try.func3, Try.ntmps3
      go_wp2_with fail
      refine (HC.out _ (below_alloc w _)).mono ?_
      rintro e w1 ⟨rfl, hb⟩
      have hw := (below_alloc w _).trans (hb.mono (by simp))
      have B0 := (Cel.new w [.int .i64 Nb, .slice ab xb.length cb] 24).kept hb
      clear hb
      have r0 := B0.cell 0 rfl
      have r1 := B0.cell 1 rfl
      go_wp2_with fail
      refine (heads_c _).mono ?_
      rintro e w9 ⟨rfl, hb⟩
      replace hw := hw.trans (hb.mono hw.size)
      go_wp2
      go_ret
      exact ⟨rfl, hw⟩
    have H1 : Hid (∀ w0, Below w.heap.size w w0 → Calls Try.prog 9 #[.agg #[.int .i64 Nb, .slice ab xb.length cb]] w0 fun e w' => ∃ bo bc so sc tO tc, e = .returned (.tuple #[.agg #[.int .i64 Nb, .slice bo xb.length bc, .slice so (supL Nb xb).length sc, .slice tO (subL Nb xb).length tc], .int .i64 0]) ∧ PlIn w' Nb bo xb bc so (supL Nb xb) sc tO (subL Nb xb) tc ∧ Below w0.heap.size w0 w') := fun w0 h => by
      have e1 : pbN Nb xb = Nb := by unfold pbN; rw [hk]; rfl
      have e2 : pbX Nb xb = xb := by unfold pbX; rw [hk]; rfl
      have e3 : pbS Nb xb = supL Nb xb := by unfold pbS; rw [hk]; rfl
      have e4 : pbT Nb xb = subL Nb xb := by unfold pbT; rw [hk]; rfl
      have e5 : pbE Nb xb = 0 := by unfold pbE; rw [hk]; rfl
      refine (build_p Nb ab xb cb w0 hbN (Xb.keep h) Fb Cb hlx).mono ?_
      rintro e w' ⟨bo, bc, so, sc, tO, tc, rfl, ho, hb⟩
      have hp := ho.plin Nb xb hbN Fb hlx
      rw [e1, e2, e3, e4] at hp
      rw [e1, e2, e3, e4, e5]
      exact ⟨bo, bc, so, sc, tO, tc, rfl, hp, hb⟩
    have hp := pchk_of Nb xb hk
    obtain ⟨k, rfl⟩ := Int.eq_ofNat_of_zero_le (show 0 ≤ i by omega)
    have cle := cntB_le xb k
    have R1 : Hid (∀ w0 b bc s sc t tc, PlIn w0 Nb b xb bc s (supL Nb xb) sc t (subL Nb xb) tc → Calls Try.prog 10 #[.agg #[.int .i64 Nb, .slice b xb.length bc, .slice s (supL Nb xb).length sc, .slice t (subL Nb xb).length tc], .bool true, .int .i64 k] w0 fun e w' => e = .returned (.tuple #[.int .i64 (cntB xb k), .int .i64 0]) ∧ Below w0.heap.size w0 w') := fun w0 b bc s sc t tc h => by
      have := rank_p Nb b xb bc s (supL Nb xb) sc t (subL Nb xb) tc true k w0 h (by omega)
      have eE : prE Nb xb (supL Nb xb) (subL Nb xb) k = 0 := by unfold prE; rw [hp, if_pos rfl, if_neg (by omega)]
      unfold prN at this
      rw [eE, if_pos rfl, Int.toNat_natCast, show cB xb true k = cntB xb k from rfl] at this
      exact this
    have R2 : Hid (∀ w0 b bc s sc t tc, PlIn w0 Nb b xb bc s (supL Nb xb) sc t (subL Nb xb) tc → Calls Try.prog 10 #[.agg #[.int .i64 Nb, .slice b xb.length bc, .slice s (supL Nb xb).length sc, .slice t (subL Nb xb).length tc], .bool false, .int .i64 k] w0 fun e w' => e = .returned (.tuple #[.int .i64 ((k : Int) - (cntB xb k : Int)), .int .i64 0]) ∧ Below w0.heap.size w0 w') := fun w0 b bc s sc t tc h => by
      have := rank_p Nb b xb bc s (supL Nb xb) sc t (subL Nb xb) tc false k w0 h (by omega)
      have eE : prE Nb xb (supL Nb xb) (subL Nb xb) k = 0 := by unfold prE; rw [hp, if_pos rfl, if_neg (by omega)]
      unfold prN at this
      rw [eE, if_pos rfl, Int.toNat_natCast, show cB xb false k = k - cntB xb k from rfl, show ((k - cntB xb k : Nat) : Int) = (k : Int) - (cntB xb k : Int) by omega] at this
      exact this
    have R3 : Hid (∀ w0 b bc s sc t tc, PlIn w0 Nb b xb bc s (supL Nb xb) sc t (subL Nb xb) tc → Calls Try.prog 10 #[.agg #[.int .i64 Nb, .slice b xb.length bc, .slice s (supL Nb xb).length sc, .slice t (subL Nb xb).length tc], .bool true, .int .i64 ((k : Int) + 1)] w0 fun e w' => e = .returned (.tuple #[.int .i64 (cntB xb (k + 1)), .int .i64 0]) ∧ Below w0.heap.size w0 w') := fun w0 b bc s sc t tc h => by
      have := rank_p Nb b xb bc s (supL Nb xb) sc t (subL Nb xb) tc true ((k : Int) + 1) w0 h (by omega)
      have eE : prE Nb xb (supL Nb xb) (subL Nb xb) ((k : Int) + 1) = 0 := by unfold prE; rw [hp, if_pos rfl, if_neg (by omega)]
      unfold prN at this
      rw [eE, if_pos rfl, show ((k : Int) + 1).toNat = k + 1 by omega, show cB xb true (k + 1) = cntB xb (k + 1) from rfl] at this
      exact this
    have R4 : Hid (∀ w0 b bc s sc t tc, PlIn w0 Nb b xb bc s (supL Nb xb) sc t (subL Nb xb) tc → Calls Try.prog 11 #[.agg #[.int .i64 Nb, .slice b xb.length bc, .slice s (supL Nb xb).length sc, .slice t (subL Nb xb).length tc], .int .i64 k] w0 fun e w' => e = .returned (.tuple #[.bool (bitAt xb k), .int .i64 0]) ∧ Below w0.heap.size w0 w') := fun w0 b bc s sc t tc h => by
      have := access_p Nb b xb bc s (supL Nb xb) sc t (subL Nb xb) tc k w0 h (by omega)
      unfold paB paE getB getE at this
      rw [hp, hk, if_pos rfl, if_neg (by simp), if_neg (by omega), show decide (0 ≤ (k : Int) ∧ (k : Int) < Nb) = true by simp; omega, Int.toNat_natCast] at this
      simp only [Bool.true_and] at this
      exact this
    have cs : cntB xb (k + 1) = cntB xb k + if bitAt xb k = true then 1 else 0 := cB_succ xb true k
    generalize cntB xb (k + 1) = C1 at *
    generalize cntB xb k = C at *
    generalize supL Nb xb = S1 at *
    generalize subL Nb xb = T1 at *
    clear hp hk
    cases hv : bitAt xb k with
    | true =>
      rw [hv] at R4 cs
      have cs2 : C + 1 = C1 := cs.symm
      subst cs2
      have e1 : ((C : Int) + 1 == (C : Int)) = false := by simp; omega
      have e2 : (C : Int) + ((k : Int) - (C : Int)) = (k : Int) := by omega
      clear cs hv
      go_enter Try.func3, Try.ntmps3
      go_wp2_with fail
      refine (HC.out _ (below_alloc w _)).mono ?_
      rintro e w1 ⟨rfl, hb⟩
      have hw := (below_alloc w _).trans (hb.mono (by simp))
      have B0 := (Cel.new w [.int .i64 Nb, .slice ab xb.length cb] 24).kept hb
      clear hb
      have r0 := B0.cell 0 rfl
      have r1 := B0.cell 1 rfl
      go_wp2_with fail
      refine (H1.out _ hw).mono ?_
      rintro e w2 ⟨bo, bc, so, sc, tO, tc, rfl, hP, hb⟩
      replace hb := hb.alloc hb.size (.cells #[.int .i64 Nb, .slice bo xb.length bc, .slice so S1.length sc, .slice tO T1.length tc] 29)
      replace hP := hP.keep (below_alloc w2 (.cells #[.int .i64 Nb, .slice bo xb.length bc, .slice so S1.length sc, .slice tO T1.length tc] 29))
      have hB := Cel.new w2 [.int .i64 Nb, .slice bo xb.length bc, .slice so S1.length sc, .slice tO T1.length tc] 29
      replace B0 := B0.kept hb
      replace hw := hw.trans (hb.mono hw.size)
      clear hb r0 r1 H1
      have c0 := hB.cell 0 rfl
      have c1 := hB.cell 1 rfl
      have c2 := hB.cell 2 rfl
      have c3 := hB.cell 3 rfl
      have r0 := B0.cell 0 rfl
      have r1 := B0.cell 1 rfl
      go_wp2_with fail
      refine (R1.out _ _ _ _ _ _ _ hP).mono ?_
      rintro e w3 ⟨rfl, hb⟩
      replace hP := hP.keep hb
      replace hB := hB.kept hb
      replace B0 := B0.kept hb
      replace hw := hw.trans (hb.mono hw.size)
      clear hb c0 c1 c2 c3 r0 r1
      have c0 := hB.cell 0 rfl
      have c1 := hB.cell 1 rfl
      have c2 := hB.cell 2 rfl
      have c3 := hB.cell 3 rfl
      have r0 := B0.cell 0 rfl
      have r1 := B0.cell 1 rfl
      go_wp2_with fail
      refine (R2.out _ _ _ _ _ _ _ hP).mono ?_
      rintro e w4 ⟨rfl, hb⟩
      replace hP := hP.keep hb
      replace hB := hB.kept hb
      replace B0 := B0.kept hb
      replace hw := hw.trans (hb.mono hw.size)
      clear hb c0 c1 c2 c3 r0 r1
      have c0 := hB.cell 0 rfl
      have c1 := hB.cell 1 rfl
      have c2 := hB.cell 2 rfl
      have c3 := hB.cell 3 rfl
      have r0 := B0.cell 0 rfl
      have r1 := B0.cell 1 rfl
      go_wp2_with fail
      refine (R3.out _ _ _ _ _ _ _ hP).mono ?_
      rintro e w5 ⟨rfl, hb⟩
      replace hP := hP.keep hb
      replace hB := hB.kept hb
      replace B0 := B0.kept hb
      replace hw := hw.trans (hb.mono hw.size)
      clear hb c0 c1 c2 c3 r0 r1
      have c0 := hB.cell 0 rfl
      have c1 := hB.cell 1 rfl
      have c2 := hB.cell 2 rfl
      have c3 := hB.cell 3 rfl
      have r0 := B0.cell 0 rfl
      have r1 := B0.cell 1 rfl
      go_wp2_with fail
      refine (R4.out _ _ _ _ _ _ _ hP).mono ?_
      rintro e w6 ⟨rfl, hb⟩
      replace hP := hP.keep hb
      replace hB := hB.kept hb
      replace B0 := B0.kept hb
      replace hw := hw.trans (hb.mono hw.size)
      clear hb c0 c1 c2 c3 r0 r1
      have c0 := hB.cell 0 rfl
      have c1 := hB.cell 1 rfl
      have c2 := hB.cell 2 rfl
      have c3 := hB.cell 3 rfl
      have r0 := B0.cell 0 rfl
      have r1 := B0.cell 1 rfl
      go_wp2_with fail
      refine (heads_c _).mono ?_
      rintro e w9 ⟨rfl, hb⟩
      replace hw := hw.trans (hb.mono hw.size)
      go_wp2
      go_ret
      exact ⟨rfl, hw⟩
    | false =>
      rw [hv] at R4 cs
      have cs2 : C = C1 := cs.symm
      subst cs2
      have e1 : ((C : Int) == (C : Int) + 1) = false := by simp; omega
      have e2 : (C : Int) + ((k : Int) - (C : Int)) = (k : Int) := by omega
      clear cs hv
      go_enter Try.func3, Try.ntmps3
      go_wp2_with fail
      refine (HC.out _ (below_alloc w _)).mono ?_
      rintro e w1 ⟨rfl, hb⟩
      have hw := (below_alloc w _).trans (hb.mono (by simp))
      have B0 := (Cel.new w [.int .i64 Nb, .slice ab xb.length cb] 24).kept hb
      clear hb
      have r0 := B0.cell 0 rfl
      have r1 := B0.cell 1 rfl
      go_wp2_with fail
      refine (H1.out _ hw).mono ?_
      rintro e w2 ⟨bo, bc, so, sc, tO, tc, rfl, hP, hb⟩
      replace hb := hb.alloc hb.size (.cells #[.int .i64 Nb, .slice bo xb.length bc, .slice so S1.length sc, .slice tO T1.length tc] 29)
      replace hP := hP.keep (below_alloc w2 (.cells #[.int .i64 Nb, .slice bo xb.length bc, .slice so S1.length sc, .slice tO T1.length tc] 29))
      have hB := Cel.new w2 [.int .i64 Nb, .slice bo xb.length bc, .slice so S1.length sc, .slice tO T1.length tc] 29
      replace B0 := B0.kept hb
      replace hw := hw.trans (hb.mono hw.size)
      clear hb r0 r1 H1
      have c0 := hB.cell 0 rfl
      have c1 := hB.cell 1 rfl
      have c2 := hB.cell 2 rfl
      have c3 := hB.cell 3 rfl
      have r0 := B0.cell 0 rfl
      have r1 := B0.cell 1 rfl
      go_wp2_with fail
      refine (R1.out _ _ _ _ _ _ _ hP).mono ?_
      rintro e w3 ⟨rfl, hb⟩
      replace hP := hP.keep hb
      replace hB := hB.kept hb
      replace B0 := B0.kept hb
      replace hw := hw.trans (hb.mono hw.size)
      clear hb c0 c1 c2 c3 r0 r1
      have c0 := hB.cell 0 rfl
      have c1 := hB.cell 1 rfl
      have c2 := hB.cell 2 rfl
      have c3 := hB.cell 3 rfl
      have r0 := B0.cell 0 rfl
      have r1 := B0.cell 1 rfl
      go_wp2_with fail
      refine (R2.out _ _ _ _ _ _ _ hP).mono ?_
      rintro e w4 ⟨rfl, hb⟩
      replace hP := hP.keep hb
      replace hB := hB.kept hb
      replace B0 := B0.kept hb
      replace hw := hw.trans (hb.mono hw.size)
      clear hb c0 c1 c2 c3 r0 r1
      have c0 := hB.cell 0 rfl
      have c1 := hB.cell 1 rfl
      have c2 := hB.cell 2 rfl
      have c3 := hB.cell 3 rfl
      have r0 := B0.cell 0 rfl
      have r1 := B0.cell 1 rfl
      go_wp2_with fail
      refine (R3.out _ _ _ _ _ _ _ hP).mono ?_
      rintro e w5 ⟨rfl, hb⟩
      replace hP := hP.keep hb
      replace hB := hB.kept hb
      replace B0 := B0.kept hb
      replace hw := hw.trans (hb.mono hw.size)
      clear hb c0 c1 c2 c3 r0 r1
      have c0 := hB.cell 0 rfl
      have c1 := hB.cell 1 rfl
      have c2 := hB.cell 2 rfl
      have c3 := hB.cell 3 rfl
      have r0 := B0.cell 0 rfl
      have r1 := B0.cell 1 rfl
      go_wp2_with fail
      refine (R4.out _ _ _ _ _ _ _ hP).mono ?_
      rintro e w6 ⟨rfl, hb⟩
      replace hP := hP.keep hb
      replace hB := hB.kept hb
      replace B0 := B0.kept hb
      replace hw := hw.trans (hb.mono hw.size)
      clear hb c0 c1 c2 c3 r0 r1
      have c0 := hB.cell 0 rfl
      have c1 := hB.cell 1 rfl
      have c2 := hB.cell 2 rfl
      have c3 := hB.cell 3 rfl
      have r0 := B0.cell 0 rfl
      have r1 := B0.cell 1 rfl
      go_wp2_with fail
      refine (heads_c _).mono ?_
      rintro e w9 ⟨rfl, hb⟩
      replace hw := hw.trans (hb.mono hw.size)
      go_wp2
      go_ret
      exact ⟨rfl, hw⟩

theorem lifted (os : Os) (started : os.Started) (H : Type) (enc : TypeId × Value → H) :
    ReturnsInHanded {} Try.checked os 3 .any (Rows.plainCountsSpec.pre6 enc Try.prog Try.f3 Rows.plainCountsRow.domain false) (Rows.plainCountsSpec.post enc Try.prog Try.f3 false true false false) := by
  refine returnsInHanded_of_change (C := Try.checked) own started (by kernel_rfl) Try.func3
    (ChangeSpec.witness6 (enc := enc) (C := Try.checked) false ⟨#[], #[.agg #[.int .i64 0, .slice none 0 0], .int .i64 0], []⟩ 8 (by kernel_rfl) (by kernel_rfl) (by kernel_rfl) (by kernel_rfl)) ?_
  intro W base args ds gs before hval0 hW hcnd _
  have hval : ∀ (j : Nat) t v, Try.f3.params[j]? = some t → args[j]? = some v → Value.okWide Try.prog W .any base t v := hval0
  have hW' := hW
  obtain ⟨p, q, hA0, hV, rfl, hfz, hnd⟩ := hW
  have hA : DataW.TrodAll enc Try.prog W 0 (fun _ => true) true Try.f3.params.toList args.toList ds p := hA0
  rw [Try.params3] at hA hval
  obtain ⟨v0, vs0, d0, ds0, p0, q0, hargs, rfl, rfl, h0, r0⟩ := trodAll_cons hA
  obtain ⟨v1, vs1, d1, ds1, p1, q1, rfl, rfl, rfl, h1, r1⟩ := trodAll_cons r0
  obtain ⟨rfl, rfl, rfl⟩ := trodAll_nil r1
  obtain rfl : args = #[v0, v1] := by cases args; simp_all
  obtain ⟨rfl, rfl⟩ := trodVars_none hV
  have k0 := h0
  have lt0 : ∀ x ∈ p0, x.block < W.heap.size := by obtain ⟨m, hm⟩ := k0; exact DataW.trod_lt m _ _ _ hm
  obtain ⟨Nb, ab, xb, cb, rfl, bb1, bb2, bb3, bb4⟩ := open_bits (hval 0 24 v0 rfl rfl) h0
  obtain ⟨i, rfl, rfl, rfl, w1⟩ := open_int Try.underlying3 (hval 1 3 v1 rfl rfl) h1
  clear hA0 hval0
  refine (walk W Nb ab xb cb bb1 bb2 bb3 bb4 i (i64_wf _ w1)).mono fun e W' ⟨he, bel⟩ => ?_
  subst he
  exact ⟨_, rfl, _, _, _, [], _, [], hW', trodAll_mk1 (shut_bool Try.underlying4 _), (trodAll_cons_mk (Below.trod laidOut (by kernel_rfl) (of_decide_eq_true (by kernel_rfl)) k0 bel lt0) (trodAll_cons_mk (shut_int Try.underlying3 w1) trodAll_mk0)), rfl, bel.frame _, fun h => by cases h⟩

theorem over : Rows.plainCountsRow.holds Try.pinned (OpenSpec.ofChange Rows.plainCountsSpec) :=
  OpenClaim.holds_of_wide 3 Try.f3 rfl rfl rfl rfl rfl rfl rfl ⟨rfl, rfl, rfl, rfl, rfl⟩ rfl rfl rfl rfl rfl (by kernel_rfl) Try.func3 (by kernel_rfl)
    (of_decide_eq_true (by kernel_rfl)) (by unfold Func.isWrapper; first | (rw [if_pos (by decide +kernel)]; kernel_rfl) | (rw [if_neg (by decide +kernel)]; exact ⟨rfl, rfl⟩))
    (fun os started H enc _ => lifted os started H enc)

theorem proved : Rows.PlainCountsSaid := over
end Go.Proofs.Ytcgnphffjfffgaa.plainCounts
namespace Go.Proofs.Ytcgnphffjfffgaa
theorem plainCounts_holds : Rows.PlainCountsSaid := plainCounts.proved
#print axioms plainCounts_holds
end Go.Proofs.Ytcgnphffjfffgaa
