/-
  PhaseBounds: agreements are no greater than the pattern; a pattern agrees wholly with itself.
-/
import Derived.Test.YtbpmbdgimolkcaaM00
import Derived.ChangeOld
import Derived.Deep.DeepCutAuto
namespace Go.Proofs.Ytbpmbdgimolkcaa.phaseBounds
open Go.ChangeShapes Go.WideShapes Go.ChangeAt Go.RowKit Go.ChangeMaps
set_option linter.unusedVariables false
set_option linter.unusedSimpArgs false
set_option maxRecDepth 100000

open Fp
theorem corr_self (p : List Nat) : Ph.corr p p = [((p.length : Int), 0)] := by
  unfold Ph.corr Ph.pl
  rw [show p.length + 1 - p.length = 1 by omega]
  show [Ph.ag p p 0 p.length] = _
  rw [Ph.ag_self]
theorem fl_sub0 {x : Nat} {n : Int} (h : Fl x n) (h1 : -1000000 ≤ n) (h2 : n ≤ 1000000) : ∃ r, (∀ t w, (binOp .sub t (.float .f64 0) (.float .f64 x)).run Try.prog w = .ok (.float .f64 r) w) ∧ Fl r (0 - n) := by
  obtain ⟨r, e, f⟩ := fl_sub fl0 h (by omega) (by omega)
  exact ⟨r, fun t w => run_float_arith w .sub t .f64 0 x r e, f⟩
theorem fl_sqr {x : Nat} {n : Int} (h : Fl x n) (h1 : -1000 ≤ n) (h2 : n ≤ 1000) : ∃ r, (∀ t w, (binOp .mul t (.float .f64 x) (.float .f64 x)).run Try.prog w = .ok (.float .f64 r) w) ∧ Fl r (n * n) ∧ 0 ≤ n * n ∧ n * n ≤ 1000000 := by
  have b1 : 0 ≤ n * n := by
    rw [← Int.natAbs_mul_self' n]
    exact Int.mul_nonneg (by omega) (by omega)
  have b2 : n * n ≤ 1000000 := by
    have : (n.natAbs : Int) * n.natAbs = n * n := Int.natAbs_mul_self' n
    have h3 : n.natAbs ≤ 1000 := by omega
    have := Nat.mul_le_mul h3 h3
    have h4 : ((n.natAbs * n.natAbs : Nat) : Int) ≤ 1000000 := by omega
    rw [Int.natCast_mul] at h4
    omega
  obtain ⟨r, e, f⟩ := fl_mul h h (by omega) (by omega)
  exact ⟨r, fun t w => run_float_arith w .mul t .f64 x x r e, f, b1, b2⟩
theorem fl_plus {x y : Nat} {n k : Int} (h : Fl x n) (h' : Fl y k) (h1 : 0 ≤ n ∧ n ≤ 1000000) (h2 : 0 ≤ k ∧ k ≤ 1000000) : ∃ r, (∀ t w, (binOp .add t (.float .f64 x) (.float .f64 y)).run Try.prog w = .ok (.float .f64 r) w) ∧ Fl r (n + k) := by
  obtain ⟨r, e, f⟩ := fl_add h h' (by omega) (by omega)
  exact ⟨r, fun t w => run_float_arith w .add t .f64 x y r e, f⟩

set_option maxHeartbeats 8000000 in
theorem walk (w : World) (ot : Option Addr) (t : List Nat) (ct : Nat) (Xt : Bd w ot t) (Ft : Bytes t) (Ct : t.length ≤ ct) (op : Option Addr) (p : List Nat) (cp : Nat) (Xp : Bd w op p) (Fp_ : Bytes p) (Cp : p.length ≤ cp) :
    Calls Try.prog 3 #[.slice ot t.length ct, .slice op p.length cp] w fun e w' => e = .returned (.bool true) ∧ Below w.heap.size w w' := by
  have HH := hide heads23_c
  by_cases hL : 1000 < t.length
  · have hLz : (1000 : Int) < (t.length : Int) := by omega
    go_enter Try.func3, Try.ntmps3
    go_wp2_with fail
    refine (HH.out _).mono ?_
    rintro e w1 ⟨rfl, hb⟩
    go_wp2
    go_ret
    exact ⟨rfl, hb⟩
  have hLz : ¬ (1000 : Int) < (t.length : Int) := by omega
  by_cases hL2 : 1000 < p.length
  · have hLz2 : (1000 : Int) < (p.length : Int) := by omega
    go_enter Try.func3, Try.ntmps3
    go_wp2_with fail
    refine (HH.out _).mono ?_
    rintro e w1 ⟨rfl, hb⟩
    go_wp2
    go_ret
    exact ⟨rfl, hb⟩
  have hLz2 : ¬ (1000 : Int) < (p.length : Int) := by omega
  have KC := hide (fun w0 hx hy => kcorr_c ot t ct op p cp w0 hx Ft (by omega) Ct hy Fp_ (by omega) Cp)
  have KD : Hid (∀ (w0 : World), Bd w0 op p → Calls Try.prog 7 #[.slice op p.length cp, .slice op p.length cp] w0 fun e w' => ∃ o c, e = .returned (.slice o 1 c) ∧ Cz w' o [((p.length : Int), 0)] ∧ Below w0.heap.size w0 w') := fun w0 hy => by
    have := kcorr_c op p cp op p cp w0 hy Fp_ (by omega) Cp hy Fp_ (by omega) Cp
    rw [corr_self, show Ph.pl p p = 1 by unfold Ph.pl; omega] at this
    exact this
  have hpl : Hid (((Ph.pl t p : Nat) : Int) = max 0 ((t.length : Int) - (p.length : Int) + 1)) := by show _ = _; unfold Ph.pl; omega
  have hpl2 : Hid (Ph.pl t p ≤ 1001) := by show _ ≤ _; unfold Ph.pl; omega
  have hcl := hide (Ph.corr_len t p)
  go_enter Try.func3, Try.ntmps3
  go_wp2_with fail
  refine (KC.out _ Xt Xp).mono ?_
  rintro e w1 ⟨o, c, rfl, hZ, hb⟩
  have HZ := hide hZ
  have HP := hide (Xp.keep hb)
  have B1 := hide hb
  clear hZ hb KC
  obtain ⟨N, hN⟩ : ∃ N, Hid (Ph.pl t p = N) := ⟨_, rfl⟩
  rw [hN.out] at hpl hpl2 hcl ⊢
  have hm : (if (0 : Int) < (t.length : Int) - (p.length : Int) + 1 then (t.length : Int) - (p.length : Int) + 1 else 0) = (N : Int) := by
    have := hpl.out
    split <;> omega
  have hnb : (p.length : Int) ≤ 1000 := by omega
  obtain ⟨nf, hnf⟩ : ∃ nf, Hid (floatOfInt .f64 (p.length : Int) = nf) := ⟨_, rfl⟩
  have HNF : Hid (Fl nf (p.length : Int)) := by rw [← hnf.out]; exact fl_int _ (by omega) (by omega)
  have hzs : Hid (∀ i z, (Ph.corr t p)[i]? = some z → Ph.Bo z p.length) := fun i z hz => by
    unfold Ph.corr at hz
    rw [List.getElem?_map] at hz
    cases hr : (List.range (Ph.pl t p))[i]? with
    | none => rw [hr] at hz; cases hz
    | some j =>
      rw [hr] at hz
      injection hz with hz
      rw [← hz]
      exact Ph.ag_bound t p j p.length
  go_wp2
  rw [hnf.out]
  go_loopw [7] (fun vi wr => ∃ k : Nat, k ≤ N ∧ vi = .int .i64 (k : Nat) ∧ Hid (Below w1.heap.size w1 wr)) (fun vi _ => N - (intOf vi).toNat)
  case atStart => exact ⟨0, by omega, rfl, Below.refl _ _⟩
  case round =>
    obtain ⟨k, hk, rfl, HB⟩ := hrel
    have HBB := hide (B1.out.trans (HB.out.mono B1.out.size))
    by_cases hlt : k < N
    · obtain ⟨b, off, rfl, hb1, hc⟩ := HZ.out (by rw [hcl.out]; omega)
      obtain ⟨z, hz⟩ : ∃ z, (Ph.corr t p)[k]? = some z := ⟨_, List.getElem?_eq_getElem (by rw [hcl.out]; exact hlt)⟩
      obtain ⟨x, y, c1, hf⟩ := hc k z hz
      obtain ⟨z1, z2, z3, z4, z5⟩ := hzs.out k z hz
      have c1 := (HB.out.cell (p := ⟨b, off + k, none⟩) hb1).trans c1
      have hltz : (k : Int) < (N : Int) := by omega
      obtain ⟨r1, s1, f1⟩ := fl_sub0 hf.1 (by omega) (by omega)
      obtain ⟨r2, s2, f2⟩ := fl_sub0 hf.2 (by omega) (by omega)
      obtain ⟨r3, s3, f3, g3, g3'⟩ := fl_sqr hf.1 (by omega) (by omega)
      obtain ⟨r4, s4, f4, g4, g4'⟩ := fl_sqr hf.2 (by omega) (by omega)
      obtain ⟨r5, s5, f5⟩ := fl_plus f3 f4 ⟨g3, g3'⟩ ⟨g4, g4'⟩
      obtain ⟨r6, s6, f6, g6, g6'⟩ := fl_sqr HNF.out (by omega) (by omega)
      have q1 := fl_gt hf.1 HNF.out
      have q2 := fl_gt hf.2 HNF.out
      have q3 := fl_gt f1 HNF.out
      have q4 := fl_gt f2 HNF.out
      have q5 := fl_gt f5 f6
      rw [decide_eq_false (by omega)] at q1 q2 q3 q4 q5
      clear hc hf z1 z2 z3 z4 z5 hz f1 f2 f3 f4 f5 f6 g3 g3' g4 g4' g6 g6' hk
      go_wp2
      refine region_g [] (fun w' => w'.cell? ⟨b, off + k, none⟩ = some (.complex .f64 x y) ∧ Below w.heap.size w w') (by kernel_rfl) ?_
      have hS : (fun w' => w'.cell? ⟨b, off + k, none⟩ = some (.complex .f64 x y) ∧ Below w.heap.size w w') wr.drew := ⟨c1, HBB.out.drew⟩
      have HBD : Hid (Below w1.heap.size w1 wr.drew) := HB.out.drew
      clear c1
      generalize wr.drew = V at *
      refine AnyG.take 0 (v := ?vv1) rfl (by kernel_rfl) (by kernel_rfl) (by kernel_rfl) (by kernel_rfl) (fun _ _ _ h => h) hS ?hy1 (by rfl) ?rest1
      case hy1 =>
        intro w0 h0
        go_simp
        try with_reducible rfl
      simp only [Act.put, List.getElem_toArray, List.getElem_cons_zero, List.getElem_cons_succ, List.setIfInBounds_toArray, List.set_cons_zero, List.set_cons_succ]
      refine AnyG.take 1 (v := ?vv2) rfl (by kernel_rfl) (by kernel_rfl) (by kernel_rfl) (by kernel_rfl) (fun _ _ _ h => h) hS ?hy2 (by rfl) ?rest2
      case hy2 =>
        intro w0 h0
        go_simp
        try with_reducible rfl
      simp only [Act.put, List.getElem_toArray, List.getElem_cons_zero, List.getElem_cons_succ, List.setIfInBounds_toArray, List.set_cons_zero, List.set_cons_succ]
      refine AnyG.take 2 (v := ?vv3) rfl (by kernel_rfl) (by kernel_rfl) (by kernel_rfl) (by kernel_rfl) (fun _ _ _ h => h) hS ?hy3 (by rfl) ?rest3
      case hy3 =>
        intro w0 h0
        go_simp
        try with_reducible rfl
      simp only [Act.put, List.getElem_toArray, List.getElem_cons_zero, List.getElem_cons_succ, List.setIfInBounds_toArray, List.set_cons_zero, List.set_cons_succ]
      refine AnyG.take 3 (v := ?vv4) rfl (by kernel_rfl) (by kernel_rfl) (by kernel_rfl) (by kernel_rfl) (fun _ _ _ h => h) hS ?hy4 (by rfl) ?rest4
      case hy4 =>
        intro w0 h0
        have c0 := h0.1
        go_simp
        try with_reducible rfl
      simp only [Act.put, List.getElem_toArray, List.getElem_cons_zero, List.getElem_cons_succ, List.setIfInBounds_toArray, List.set_cons_zero, List.set_cons_succ]
      refine AnyG.take 4 (v := ?vv5) rfl (by kernel_rfl) (by kernel_rfl) (by kernel_rfl) (by kernel_rfl) (fun _ _ _ h => h) hS ?hy5 (by rfl) ?rest5
      case hy5 =>
        intro w0 h0
        go_simp
        try with_reducible rfl
      simp only [Act.put, List.getElem_toArray, List.getElem_cons_zero, List.getElem_cons_succ, List.setIfInBounds_toArray, List.set_cons_zero, List.set_cons_succ]
      refine AnyG.take 5 (v := ?vv6) rfl (by kernel_rfl) (by kernel_rfl) (by kernel_rfl) (by kernel_rfl) (fun _ _ _ h => h) hS ?hy6 (by rfl) ?rest6
      case hy6 =>
        intro w0 h0
        go_simp
        try with_reducible rfl
      simp only [Act.put, List.getElem_toArray, List.getElem_cons_zero, List.getElem_cons_succ, List.setIfInBounds_toArray, List.set_cons_zero, List.set_cons_succ]
      refine AnyG.take 6 (v := ?vv7) rfl (by kernel_rfl) (by kernel_rfl) (by kernel_rfl) (by kernel_rfl) (fun _ _ _ h => h) hS ?hy7 (by rfl) ?rest7
      case hy7 =>
        intro w0 h0
        go_simp
        try with_reducible rfl
      simp only [Act.put, List.getElem_toArray, List.getElem_cons_zero, List.getElem_cons_succ, List.setIfInBounds_toArray, List.set_cons_zero, List.set_cons_succ]
      refine AnyG.take 7 (v := ?vv8) rfl (by kernel_rfl) (by kernel_rfl) (by kernel_rfl) (by kernel_rfl) (fun _ _ _ h => h) hS ?hy8 (by rfl) ?rest8
      case hy8 =>
        intro w0 h0
        go_simp
        try with_reducible rfl
      simp only [Act.put, List.getElem_toArray, List.getElem_cons_zero, List.getElem_cons_succ, List.setIfInBounds_toArray, List.set_cons_zero, List.set_cons_succ]
      refine AnyG.take 8 (v := ?vv9) rfl (by kernel_rfl) (by kernel_rfl) (by kernel_rfl) (by kernel_rfl) (fun _ _ _ h => h) hS ?hy9 (by rfl) ?rest9
      case hy9 =>
        intro w0 h0
        have c0 := h0.1
        go_simp
        try with_reducible rfl
      simp only [Act.put, List.getElem_toArray, List.getElem_cons_zero, List.getElem_cons_succ, List.setIfInBounds_toArray, List.set_cons_zero, List.set_cons_succ]
      refine AnyG.take 9 (v := ?vv10) rfl (by kernel_rfl) (by kernel_rfl) (by kernel_rfl) (by kernel_rfl) (fun _ _ _ h => h) hS ?hy10 (by rfl) ?rest10
      case hy10 =>
        intro w0 h0
        go_simp
        try with_reducible rfl
      simp only [Act.put, List.getElem_toArray, List.getElem_cons_zero, List.getElem_cons_succ, List.setIfInBounds_toArray, List.set_cons_zero, List.set_cons_succ]
      refine AnyG.take 10 (v := ?vv11) rfl (by kernel_rfl) (by kernel_rfl) (by kernel_rfl) (by kernel_rfl) (fun _ _ _ h => h) hS ?hy11 (by rfl) ?rest11
      case hy11 =>
        intro w0 h0
        go_simp
        try with_reducible rfl
      simp only [Act.put, List.getElem_toArray, List.getElem_cons_zero, List.getElem_cons_succ, List.setIfInBounds_toArray, List.set_cons_zero, List.set_cons_succ]
      refine AnyG.take 11 (v := ?vv12) rfl (by kernel_rfl) (by kernel_rfl) (by kernel_rfl) (by kernel_rfl) (fun _ _ _ h => h) hS ?hy12 (by rfl) ?rest12
      case hy12 =>
        intro w0 h0
        go_simp
        try with_reducible rfl
      simp only [Act.put, List.getElem_toArray, List.getElem_cons_zero, List.getElem_cons_succ, List.setIfInBounds_toArray, List.set_cons_zero, List.set_cons_succ]
      refine AnyG.done (by kernel_rfl) ?_ _
      go_wp2
      exact ⟨⟨k + 1, by omega, by go_num, HBD⟩, by simp only [intOf]; omega⟩
    · have hltz : ¬ (k : Int) < (N : Int) := by omega
      have HP2 := HP.out.keep HB.out
      go_wp2_with fail
      refine (KD.out _ HP2).mono ?_
      rintro e w2 ⟨o2, c2, rfl, hZ2, hb⟩
      obtain ⟨b2, of2, rfl, hb2, hc2⟩ := hZ2 (by simp)
      obtain ⟨x, y, e1, hf⟩ := hc2 0 _ rfl
      rw [Nat.add_zero] at e1
      obtain ⟨q1, q2⟩ := ceq hf (show Fz nf 0 ((p.length : Int), 0) from ⟨HNF.out, fl0⟩)
      rw [decide_eq_true rfl] at q1 q2
      have B2 := hide (HBB.out.trans (hb.mono HBB.out.size))
      clear hb hZ2 hc2 hf HP2 HBB HB
      go_wp2_with fail
      refine (HH.out _).mono ?_
      rintro e w3 ⟨rfl, hb⟩
      have B3 := hide (B2.out.trans (hb.mono B2.out.size))
      clear hb B2
      go_wp2
      go_ret
      exact ⟨rfl, B3.out⟩

theorem lifted (os : Os) (started : os.Started) (H : Type) (enc : TypeId × Value → H) :
    ReturnsInHanded {} Try.checked os 3 .any (Rows.phaseBoundsSpec.pre6 enc Try.prog Try.f3 Rows.phaseBoundsRow.domain false) (Rows.phaseBoundsSpec.post enc Try.prog Try.f3 false true false false) := by
  refine returnsInHanded_of_change (C := Try.checked) own started (by kernel_rfl) Try.func3
    (ChangeSpec.witness6 (enc := enc) (C := Try.checked) false ⟨#[], #[.slice none 0 0, .slice none 0 0], []⟩ 8 (by kernel_rfl) (by kernel_rfl) (by kernel_rfl) (by kernel_rfl)) ?_
  intro W base args ds gs before hval0 hW hcnd _
  have hval : ∀ (j : Nat) t v, Try.f3.params[j]? = some t → args[j]? = some v → Value.okWide Try.prog W .any base t v := hval0
  have hW' := hW
  obtain ⟨p, q, hA0, hV, rfl, hfz, hnd⟩ := hW
  have hA : DataW.TrodAll enc Try.prog W 0 (fun _ => true) true Try.f3.params.toList args.toList ds p := hA0
  rw [Try.params3] at hA hval
  obtain ⟨v0, vs0, d0, ds0, p0, q0, hargs, rfl, rfl, h0, r0⟩ := trodAll_cons hA
  obtain ⟨v1, vs1, d1, ds1, p1, q1, rfl, rfl, rfl, h1, r1⟩ := trodAll_cons r0
  obtain ⟨rfl, rfl, rfl⟩ := trodAll_nil r1
  obtain rfl : args = #[v0, v1] := by cases args; simp_all
  obtain ⟨rfl, rfl⟩ := trodVars_none hV
  have k0 := h0
  have lt0 : ∀ x ∈ p0, x.block < W.heap.size := by obtain ⟨m, hm⟩ := k0; exact DataW.trod_lt m _ _ _ hm
  obtain ⟨ot, t, ct, rfl, b01, b02, b03⟩ := open_bytes (hval 0 22 v0 rfl rfl) h0
  have k1 := h1
  have lt1 : ∀ x ∈ p1, x.block < W.heap.size := by obtain ⟨m, hm⟩ := k1; exact DataW.trod_lt m _ _ _ hm
  obtain ⟨op, p, cp, rfl, b11, b12, b13⟩ := open_bytes (hval 1 22 v1 rfl rfl) h1
  clear hA0 hval0
  refine (walk W ot t ct b01 b02 b03 op p cp b11 b12 b13).mono fun e W' ⟨he, bel⟩ => ?_
  subst he
  exact ⟨_, rfl, _, _, _, [], _, [], hW', trodAll_mk1 (shut_bool Try.underlying4 _), (trodAll_cons_mk (Below.trod laidOut (by kernel_rfl) (of_decide_eq_true (by kernel_rfl)) k0 bel lt0) (trodAll_cons_mk (Below.trod laidOut (by kernel_rfl) (of_decide_eq_true (by kernel_rfl)) k1 bel lt1) trodAll_mk0)), rfl, bel.frame _, fun h => by cases h⟩

theorem over : Rows.phaseBoundsRow.holds Try.pinned (OpenSpec.ofChange Rows.phaseBoundsSpec) :=
  OpenClaim.holds_of_wide 3 Try.f3 rfl rfl rfl rfl rfl rfl rfl ⟨rfl, rfl, rfl, rfl, rfl⟩ rfl rfl rfl rfl rfl (by kernel_rfl) Try.func3 (by kernel_rfl)
    (of_decide_eq_true (by kernel_rfl)) (by unfold Func.isWrapper; first | (rw [if_pos (by decide +kernel)]; kernel_rfl) | (rw [if_neg (by decide +kernel)]; exact ⟨rfl, rfl⟩))
    (fun os started H enc _ => lifted os started H enc)

theorem proved : Rows.PhaseBoundsSaid := over
end Go.Proofs.Ytbpmbdgimolkcaa.phaseBounds
namespace Go.Proofs.Ytbpmbdgimolkcaa
theorem phaseBounds_holds : Rows.PhaseBoundsSaid := phaseBounds.proved
#print axioms phaseBounds_holds
end Go.Proofs.Ytbpmbdgimolkcaa
