/-
  BwtSteps: steps lead through all ends, and back, spelling the text from behind.
-/
import Derived.Test.YtojjinjgmijgcaaBw8
import Derived.ChangeOld
import Derived.Deep.DeepCutAuto
namespace Go.Proofs.Ytojjinjgmijgcaa.bwtSteps
open Go.ChangeShapes Go.WideShapes Go.ChangeAt Go.RowKit
set_option linter.unusedVariables false
set_option linter.unusedSimpArgs false
set_option maxRecDepth 100000


set_option maxHeartbeats 8000000 in
theorem walk (w : World) (ot : Option Addr) (t : List Nat) (ct : Nat) (Xt : Bd w ot t) (Ft : Bytes t) (Ct : t.length ≤ ct) :
    Calls Try.prog 6 #[.slice ot t.length ct] w fun e w' => e = .returned (.bool true) ∧ Below w.heap.size w w' := by
  by_cases hL : 60 < t.length
  · have hL2 : (60 : Int) < (t.length : Int) := by omega
    go_enter Try.func6, Try.ntmps6
    go_wp2_with fail
    refine (heads18_c _).mono ?_
    rintro e w9 ⟨rfl, hb⟩
    go_wp2
    go_ret
    exact ⟨rfl, hb⟩
  have hL2 : ¬ (60 : Int) < (t.length : Int) := by omega
  have M1 := hide (mmake_c ot t ct w Xt Ft Ct (by omega))
  have RL := Su.rw_le t
  have S1 : Hid (∀ (i : Nat), i < t.length → ∀ w0 lo lc co cc, MA w0 t lo lc co cc → Calls Try.prog 14 #[.agg #[.slice lo t.length lc, .int .i64 (Su.rk t 0 : Nat), .slice co 257 cc], .int .i64 (Su.rk t (i + 1) : Nat)] w0 fun e w' => e = .returned (.tuple #[.int .i64 (Su.rk t i : Nat), .int .i64 0]) ∧ Below w0.heap.size w0 w') := fun i hi w0 lo lc co cc h => by
    have o := Su.ord_sa t
    have := mstep_c Ft (by omega) (Su.rk t (i + 1)) (Su.rk_le o.2 o.1 (by omega)) w0 h
    rw [show Su.stp (Su.La t) (Su.rk t 0) (Su.first t) (Su.rk t (i + 1)) = Su.rk t i from Su.stp_at o.2 o.1 hi] at this
    exact this
  have S0 : Hid (∀ w0 lo lc co cc, MA w0 t lo lc co cc → Calls Try.prog 14 #[.agg #[.slice lo t.length lc, .int .i64 (Su.rk t 0 : Nat), .slice co 257 cc], .int .i64 (Su.rk t 0 : Nat)] w0 fun e w' => e = .returned (.tuple #[.int .i64 0, .int .i64 0]) ∧ Below w0.heap.size w0 w') := fun w0 lo lc co cc h => by
    have := mstep_c Ft (by omega) (Su.rk t 0) RL w0 h
    rw [Su.stp_row] at this
    exact this
  have LA : Hid (∀ i, i < t.length → Su.rk t (i + 1) ≠ Su.rk t 0 ∧ gt (Su.La t) (Su.ix (Su.rk t 0) (Su.rk t (i + 1))) = gt t i) := fun i hi => by
    have o := Su.ord_sa t
    exact Su.la_at o.2 o.1 hi
  have RLE : Hid (∀ p, p ≤ t.length → Su.rk t p ≤ t.length) := fun p hp => Su.rk_le (Su.ord_sa t).2 (Su.ord_sa t).1 hp
  have RE : Hid (Su.rk t t.length = 0) := Su.rk_end t
  have LL := hide (Su.length_La t)
  have HBY := hide (Su.La_bytes Ft)
  obtain ⟨n, hn⟩ : ∃ n, Hid (n = t.length) := ⟨_, rfl⟩
  obtain ⟨R, hR⟩ : ∃ R, Hid (R = Su.rk t 0) := ⟨_, rfl⟩
  rw [← hn.out] at M1 S1 S0 LA RLE RE LL hL2 RL ⊢
  rw [← hR.out] at M1 S1 S0 RL LA
  have HX := hide Xt
  have hn2 : n ≤ 60 := by rw [hn.out]; omega
  clear Xt Ct hL
  go_enter Try.func6, Try.ntmps6
  go_wp2_with fail
  refine (M1.out).mono ?_
  rintro e w1 ⟨lo, lc, co, cc, rfl, hM, hb⟩
  have ba := below_alloc w1 (.cells #[.slice lo n lc, .int .i64 (R : Nat), .slice co 257 cc] 25)
  have BX := hide (Cel.new w1 [.slice lo n lc, .int .i64 (R : Nat), .slice co 257 cc] 25)
  have HM := hide (hM.keep ba)
  have HB := hide (hb.trans (ba.mono hb.size))
  clear hb hM M1 ba
  have HX1 := hide (HX.out.keep HB.out)
  obtain ⟨w2, hw2⟩ : ∃ w2, w2 = w1.alloc (.cells #[.slice lo n lc, .int .i64 (R : Nat), .slice co 257 cc] 25) := ⟨_, rfl⟩
  have c0 := BX.out.cell 0 rfl
  go_wp2
  rw [← hw2] at BX HM HB HX1
  generalize w1.heap.size = g1 at *
  go_loopw [5, 6] (fun v5 v6 wr => ∃ p : Nat, p ≤ n ∧ v5 = .int .i64 (Su.rk t p : Nat) ∧ v6 = .int .i64 ((p : Int) - 1) ∧ Hid (Below w2.heap.size w2 wr)) (fun _ v6 _ => (intOf v6 + 1).toNat)
  case atStart => exact ⟨n, Nat.le_refl _, by rw [RE.out]; rfl, rfl, by rw [← hw2]; exact Below.refl _ _⟩
  case round =>
    obtain ⟨p, hp, rfl, rfl, HBr⟩ := hrel
    have c0 := (BX.out.kept HBr.out).cell 0 rfl
    have c1 := (BX.out.kept HBr.out).cell 1 rfl
    have c2 := (BX.out.kept HBr.out).cell 2 rfl
    have HMr := hide (HM.out.keep HBr.out)
    have HXr := hide (HX1.out.keep HBr.out)
    have HBB : Hid (Below w.heap.size w wr) := HB.out.trans (HBr.out.mono HB.out.size)
    by_cases h0 : p = 0
    · subst h0
      rw [← hR.out]
      clear S1 LA
      go_wp2_with fail
      refine (S0.out _ _ _ _ _ HMr.out).mono ?_
      rintro e w5 ⟨rfl, hb⟩
      have d1 := ((BX.out.kept HBr.out).kept hb).cell 1 rfl
      replace HBB := hide (HBB.out.trans (hb.mono HBB.out.size))
      clear hb S0
      go_wp2_with fail
      refine (heads18_c _).mono ?_
      rintro e w6 ⟨rfl, hb⟩
      replace HBB := hide (HBB.out.trans (hb.mono HBB.out.size))
      clear hb
      go_wp2
      go_ret
      exact ⟨rfl, HBB.out⟩
    · obtain ⟨i, rfl⟩ : ∃ i, p = i + 1 := ⟨p - 1, by omega⟩
      have ei : ((i + 1 : Nat) : Int) - 1 = (i : Int) := by omega
      rw [ei]
      have SQ := hide (S1.out i (by omega))
      obtain ⟨la1, la2⟩ := LA.out i (by omega)
      have rle := RLE.out (i + 1) hp
      obtain ⟨A, hA⟩ : ∃ A, Hid (A = Su.rk t (i + 1)) := ⟨_, rfl⟩
      obtain ⟨A0', hA0⟩ : ∃ A0', Hid (A0' = Su.rk t i) := ⟨_, rfl⟩
      have A0 : Hid (Su.rk t i = A0') := hA0.out.symm
      rw [← hA.out] at SQ la1 la2 rle ⊢
      rw [← hA0.out] at SQ
      have hne : ((A : Int) == (R : Int)) = false := by simp; omega
      have hk := Su.ix_lt RL rle la1
      obtain ⟨b, off, rfl, hb0, hcc⟩ := HXr.out (by rw [← hn.out]; omega)
      have ex := hcc i (by rw [← hn.out]; omega)
      obtain ⟨b2, off2, rfl, hb2, hcc2⟩ := HMr.out.x (by rw [LL.out]; omega)
      have hiz : (i : Int) < (n : Int) := by omega
      have hi0 : (0 : Int) ≤ (i : Int) := by omega
      clear ei h0 S1 S0 LA hcc
      by_cases hlt : A < R
      · have ek0 : Su.ix R A = A := by unfold Su.ix; rw [if_pos (by omega)]
        rw [ek0] at la2 hk
        have hz : ¬ (R : Int) < (A : Int) := by omega
        have e2 := hcc2 A (by rw [LL.out]; exact hk)
        rw [la2] at e2
        have hkz : (A : Int) < (n : Int) := by omega
        have g1' := gt_lt Ft i
        clear hcc2 ek0 la1 la2
        generalize gt t i = y at *
        go_wp2
        go_quiet (fail)
        have HMn := hide fun m => HMr.out.keep (below_drewN (Below.refl wr.heap.size wr) m)
        have HBn := hide fun m => below_drewN HBr.out m
        have k0 := fun m => (((BX.out.kept HBr.out).kept (below_drewN (Below.refl wr.heap.size wr) m))).cell 0 rfl
        have k1 := fun m => (((BX.out.kept HBr.out).kept (below_drewN (Below.refl wr.heap.size wr) m))).cell 1 rfl
        have k2 := fun m => (((BX.out.kept HBr.out).kept (below_drewN (Below.refl wr.heap.size wr) m))).cell 2 rfl
        go_wp2_with fail
        refine (SQ.out _ _ _ _ _ (HMn.out _)).mono ?_
        rintro e w5 ⟨rfl, hb⟩
        have HB5 : Hid (Below w2.heap.size w2 w5) := (HBn.out _).trans (hb.mono (HBn.out _).size)
        clear hb
        go_wp2
        exact ⟨⟨i, by omega, by rw [A0.out], rfl, HB5⟩, by simp only [intOf]; omega⟩
      · have ek0 : Su.ix R A = A - 1 := by unfold Su.ix; rw [if_neg (by omega)]
        rw [ek0] at la2 hk
        have hz : (R : Int) < (A : Int) := by omega
        have e2 := hcc2 (A - 1) (by rw [LL.out]; exact hk)
        rw [la2] at e2
        have g1' := gt_lt Ft i
        obtain ⟨k, rfl⟩ : ∃ k, A = k + 1 := ⟨A - 1, by omega⟩
        rw [Nat.add_sub_cancel] at e2 hk
        have hkz : (k : Int) < (n : Int) := by omega
        clear hcc2 ek0 la1 la2
        generalize gt t i = y at *
        go_wp2
        go_quiet (fail)
        have HMn := hide fun m => HMr.out.keep (below_drewN (Below.refl wr.heap.size wr) m)
        have HBn := hide fun m => below_drewN HBr.out m
        have k0 := fun m => (((BX.out.kept HBr.out).kept (below_drewN (Below.refl wr.heap.size wr) m))).cell 0 rfl
        have k1 := fun m => (((BX.out.kept HBr.out).kept (below_drewN (Below.refl wr.heap.size wr) m))).cell 1 rfl
        have k2 := fun m => (((BX.out.kept HBr.out).kept (below_drewN (Below.refl wr.heap.size wr) m))).cell 2 rfl
        go_wp2_with fail
        refine (SQ.out _ _ _ _ _ (HMn.out _)).mono ?_
        rintro e w5 ⟨rfl, hb⟩
        have HB5 : Hid (Below w2.heap.size w2 w5) := (HBn.out _).trans (hb.mono (HBn.out _).size)
        clear hb
        go_wp2
        exact ⟨⟨i, by omega, by rw [A0.out], rfl, HB5⟩, by simp only [intOf]; omega⟩

theorem lifted (os : Os) (started : os.Started) (H : Type) (enc : TypeId × Value → H) :
    ReturnsInHanded {} Try.checked os 6 .any (Rows.bwtStepsSpec.pre6 enc Try.prog Try.f6 Rows.bwtStepsRow.domain false) (Rows.bwtStepsSpec.post enc Try.prog Try.f6 false true false false) := by
  refine returnsInHanded_of_change (C := Try.checked) own started (by kernel_rfl) Try.func6
    (ChangeSpec.witness6 (enc := enc) (C := Try.checked) false ⟨#[], #[.slice none 0 0], []⟩ 8 (by kernel_rfl) (by kernel_rfl) (by kernel_rfl) (by kernel_rfl)) ?_
  intro W base args ds gs before hval0 hW hcnd _
  have hval : ∀ (j : Nat) t v, Try.f6.params[j]? = some t → args[j]? = some v → Value.okWide Try.prog W .any base t v := hval0
  have hW' := hW
  obtain ⟨p, q, hA0, hV, rfl, hfz, hnd⟩ := hW
  have hA : DataW.TrodAll enc Try.prog W 0 (fun _ => true) true Try.f6.params.toList args.toList ds p := hA0
  rw [Try.params6] at hA hval
  obtain ⟨v0, vs0, d0, ds0, p0, q0, hargs, rfl, rfl, h0, r0⟩ := trodAll_cons hA
  obtain ⟨rfl, rfl, rfl⟩ := trodAll_nil r0
  obtain rfl : args = #[v0] := by cases args; simp_all
  obtain ⟨rfl, rfl⟩ := trodVars_none hV
  have k0 := h0
  have lt0 : ∀ x ∈ p0, x.block < W.heap.size := by obtain ⟨m, hm⟩ := k0; exact DataW.trod_lt m _ _ _ hm
  obtain ⟨ot, t, ct, rfl, b01, b02, b03⟩ := open_bytes (hval 0 22 v0 rfl rfl) h0
  clear hA0 hval0
  refine (walk W ot t ct b01 b02 b03).mono fun e W' ⟨he, bel⟩ => ?_
  subst he
  exact ⟨_, rfl, _, _, _, [], _, [], hW', trodAll_mk1 (shut_bool Try.underlying4 _), (trodAll_cons_mk (Below.trod laidOut (by kernel_rfl) (of_decide_eq_true (by kernel_rfl)) k0 bel lt0) trodAll_mk0), rfl, bel.frame _, fun h => by cases h⟩

theorem over : Rows.bwtStepsRow.holds Try.pinned (OpenSpec.ofChange Rows.bwtStepsSpec) :=
  OpenClaim.holds_of_wide 6 Try.f6 rfl rfl rfl rfl rfl rfl rfl ⟨rfl, rfl, rfl, rfl, rfl⟩ rfl rfl rfl rfl rfl (by kernel_rfl) Try.func6 (by kernel_rfl)
    (of_decide_eq_true (by kernel_rfl)) (by unfold Func.isWrapper; first | (rw [if_pos (by decide +kernel)]; kernel_rfl) | (rw [if_neg (by decide +kernel)]; exact ⟨rfl, rfl⟩))
    (fun os started H enc _ => lifted os started H enc)

theorem proved : Rows.BwtStepsSaid := over
end Go.Proofs.Ytojjinjgmijgcaa.bwtSteps
namespace Go.Proofs.Ytojjinjgmijgcaa
theorem bwtSteps_holds : Rows.BwtStepsSaid := bwtSteps.proved
#print axioms bwtSteps_holds
end Go.Proofs.Ytojjinjgmijgcaa
