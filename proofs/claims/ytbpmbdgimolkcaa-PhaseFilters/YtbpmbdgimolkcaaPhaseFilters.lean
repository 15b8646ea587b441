/-
  PhaseFilters: every place where a pattern stands is let through, and what is let through agrees modulo four.
-/
import Derived.Test.YtbpmbdgimolkcaaM00
import Derived.ChangeOld
import Derived.Deep.DeepCutAuto
namespace Go.Proofs.Ytbpmbdgimolkcaa.phaseFilters
open Go.ChangeShapes Go.WideShapes Go.ChangeAt Go.RowKit Go.ChangeMaps
set_option linter.unusedVariables false
set_option linter.unusedSimpArgs false
set_option maxRecDepth 100000


set_option maxHeartbeats 8000000 in
theorem walk (w : World) (ot : Option Addr) (t : List Nat) (ct : Nat) (Xt : Bd w ot t) (Ft : Bytes t) (Ct : t.length ≤ ct) (op : Option Addr) (p : List Nat) (cp : Nat) (Xp : Bd w op p) (Fp_ : Bytes p) (Cp : p.length ≤ cp) :
    Calls Try.prog 5 #[.slice ot t.length ct, .slice op p.length cp] w fun e w' => e = .returned (.bool true) ∧ Below w.heap.size w w' := by
  have HH := hide heads23_c
  by_cases hL : 1000 < t.length
  · have hLz : (1000 : Int) < (t.length : Int) := by omega
    go_enter Try.func5, Try.ntmps5
    go_wp2_with fail
    refine (HH.out _).mono ?_
    rintro e w1 ⟨rfl, hb⟩
    go_wp2
    go_ret
    exact ⟨rfl, hb⟩
  have hLz : ¬ (1000 : Int) < (t.length : Int) := by omega
  by_cases hL2 : 1000 < p.length
  · have hLz2 : (1000 : Int) < (p.length : Int) := by omega
    go_enter Try.func5, Try.ntmps5
    go_wp2_with fail
    refine (HH.out _).mono ?_
    rintro e w1 ⟨rfl, hb⟩
    go_wp2
    go_ret
    exact ⟨rfl, hb⟩
  have hLz2 : ¬ (1000 : Int) < (p.length : Int) := by omega
  have KF := hide (fun w0 hx hy => kfil_c ot t ct op p cp w0 hx Ft (by omega) Ct hy Fp_ (by omega) Cp)
  have KO := hide (fun w0 hx hy => rocc_c ot t ct op p cp w0 hx Ft (by omega) Ct hy Fp_ (by omega) Cp)
  have hpl : Hid (Ph.pl t p = t.length + 1 - p.length) := rfl
  go_enter Try.func5, Try.ntmps5
  go_wp2_with fail
  refine (KF.out _ Xt Xp).mono ?_
  rintro e w1 ⟨o, c, rfl, hN, hb⟩
  have HN1 := hide hN
  have T1 := hide (Xt.keep hb)
  have P1 := hide (Xp.keep hb)
  have B1 := hide hb
  clear hN hb KF
  go_wp2_with fail
  refine (KO.out _ T1.out P1.out).mono ?_
  rintro e w2 ⟨o2, c2, rfl, hN, hb⟩
  have XO := hide hN
  have XL := hide (HN1.out.keep hb)
  have XT := hide (T1.out.keep hb)
  have XP := hide (P1.out.keep hb)
  have B2 := hide (B1.out.trans (hb.mono B1.out.size))
  clear hN hb KO HN1 T1 P1 B1
  have HOC0 := hide (Ph.occ_fil t p (Ph.pl t p))
  have HMEM : Hid (∀ i x, (Ph.fil t p (Ph.pl t p))[i]? = some x → x + p.length ≤ t.length ∧ Ph.alike t p x = true) := fun i x hx => by
    have := Ph.fil_mem (List.mem_of_getElem? hx)
    have h2 := hpl.out
    exact ⟨by omega, this.2⟩
  have HRISE : Hid (∀ i x y, (Ph.fil t p (Ph.pl t p))[i]? = some x → (Ph.fil t p (Ph.pl t p))[i + 1]? = some y → x < y) := fun i x y h1 h2 => Ph.fil_rises h1 h2
  have HLEN : Hid ((Ph.fil t p (Ph.pl t p)).length ≤ 1001) := by
    have h1 := Ph.fil_len t p (Ph.pl t p)
    have h2 := hpl.out
    show _ ≤ _
    omega
  obtain ⟨L, HL⟩ : ∃ L, Hid (Ph.fil t p (Ph.pl t p) = L) := ⟨_, rfl⟩
  obtain ⟨O, HO⟩ : ∃ O, Hid (Ph.occ t p (Ph.pl t p) = O) := ⟨_, rfl⟩
  rw [HL.out] at HOC0 HMEM HRISE HLEN XL ⊢
  rw [HO.out] at HOC0 XO ⊢
  have HOC : Hid (O = L.filter (Ph.stands t p)) := HOC0.out
  have HOL : Hid (O.length ≤ 1001) := by
    have h1 := List.length_filter_le (Ph.stands t p) L
    have h2 := HLEN.out
    rw [HOC.out]
    show _ ≤ _
    omega
  have hL1001 := HLEN.out
  have hO1001 := HOL.out
  clear HOC0
  go_wp2
  go_loopw [7, 8] (fun vk vi wr => ∃ i : Nat, i ≤ L.length ∧ vi = .int .i64 (i : Nat) ∧ vk = .int .i64 (Ph.cnt L (Ph.stands t p) i : Nat) ∧ Hid (Below w2.heap.size w2 wr)) (fun _ vi _ => L.length - (intOf vi).toNat)
  case atStart => exact ⟨0, by omega, rfl, rfl, Below.refl _ _⟩
  case round =>
    obtain ⟨i, hi, rfl, rfl, HB⟩ := hrel
    have HBB := hide (B2.out.trans (HB.out.mono B2.out.size))
    by_cases hlt : i < L.length
    · obtain ⟨b, off, rfl, hbl, hcl⟩ := XL.out (by rw [length_toI]; omega)
      obtain ⟨x, hx⟩ : ∃ x, L[i]? = some x := ⟨_, List.getElem?_eq_getElem hlt⟩
      obtain ⟨hx1, hx2⟩ := HMEM.out i x hx
      have HX0 := hide hx
      have HX := hide hx1
      have HAL := hide hx2
      have C1 : Hid (w2.cell? ⟨b, off + i, none⟩ = some (.int .i64 (x : Nat))) := by
        have := hcl i (by rw [length_toI]; exact hlt)
        rw [gi_toI, show gt L i = x by unfold gt; rw [List.getD_eq_getElem?_getD, hx]; rfl] at this
        exact this
      have hltz : (i : Int) < (L.length : Int) := by omega
      have hxz1 : ¬ (t.length : Int) - (p.length : Int) < (x : Int) := by omega
      have hxz2 : (x : Int) ≤ 1000 := by omega
      have hccl := Ph.cnt_le L (Ph.stands t p) i
      rw [← HOC.out] at hccl
      clear hx hx2
      have d1 : decide ((x : Int) < 0) = false := decide_eq_false (by omega)
      have wq : IntKind.i64.wrap ((t.length : Int) - (p.length : Int)) = (t.length : Int) - (p.length : Int) := by simp [IntKind.wrap, IntKind.bits, IntKind.signed]; omega
      have d2 : decide ((t.length : Int) - (p.length : Int) < (x : Int)) = false := decide_eq_false hxz1
      have c1 := (HB.out.cell (p := ⟨b, off + i, none⟩) hbl).trans C1.out
      by_cases h0 : i = 0
      · have hiz : ¬ (0 : Int) < (i : Int) := by omega
        have d3 : decide ((0 : Int) < (i : Int)) = false := decide_eq_false hiz
        have d3n : decide (0 < i) = false := decide_eq_false (by omega)
        clear h0
        go_wp2
        refine region_g [] (fun w' => w'.cell? ⟨b, off + i, none⟩ = some (.int .i64 (x : Nat)) ∧ Below w.heap.size w w') (by kernel_rfl) ?_
        have hS : (fun w' => w'.cell? ⟨b, off + i, none⟩ = some (.int .i64 (x : Nat)) ∧ Below w.heap.size w w') wr.drew := ⟨c1, HBB.out.drew⟩
        have HBD : Hid (Below w2.heap.size w2 wr.drew) := HB.out.drew
        clear c1
        generalize wr.drew = V at *
        refine AnyG.take 0 (v := ?vv1) rfl (by kernel_rfl) (by kernel_rfl) (by kernel_rfl) (by kernel_rfl) (fun _ _ _ h => h) hS ?hy1 (by rfl) ?rest1
        case hy1 =>
          intro w0 h0
          go_simp
          try with_reducible rfl
        simp only [Act.put, List.getElem_toArray, List.getElem_cons_zero, List.getElem_cons_succ, List.setIfInBounds_toArray, List.set_cons_zero, List.set_cons_succ]
        refine AnyG.take 1 (v := ?vv2) rfl (by kernel_rfl) (by kernel_rfl) (by kernel_rfl) (by kernel_rfl) (fun _ _ _ h => h) hS ?hy2 (by rfl) ?rest2
        case hy2 =>
          intro w0 h0
          go_simp
          try with_reducible rfl
        simp only [Act.put, List.getElem_toArray, List.getElem_cons_zero, List.getElem_cons_succ, List.setIfInBounds_toArray, List.set_cons_zero, List.set_cons_succ]
        refine AnyG.take 2 (v := ?vv3) rfl (by kernel_rfl) (by kernel_rfl) (by kernel_rfl) (by kernel_rfl) (fun _ _ _ h => h) hS ?hy3 (by rfl) ?rest3
        case hy3 =>
          intro w0 h0
          go_simp
          try with_reducible rfl
        simp only [Act.put, List.getElem_toArray, List.getElem_cons_zero, List.getElem_cons_succ, List.setIfInBounds_toArray, List.set_cons_zero, List.set_cons_succ]
        refine AnyG.take 3 (v := ?vv4) rfl (by kernel_rfl) (by kernel_rfl) (by kernel_rfl) (by kernel_rfl) (fun _ _ _ h => h) hS ?hy4 (by rfl) ?rest4
        case hy4 =>
          intro w0 h0
          have c0 := h0.1
          go_simp
          try with_reducible rfl
        simp only [Act.put, List.getElem_toArray, List.getElem_cons_zero, List.getElem_cons_succ, List.setIfInBounds_toArray, List.set_cons_zero, List.set_cons_succ]
        refine AnyG.take 4 (v := ?vv5) rfl (by kernel_rfl) (by kernel_rfl) (by kernel_rfl) (by kernel_rfl) (fun _ _ _ h => h) hS ?hy5 (by rfl) ?rest5
        case hy5 =>
          intro w0 h0
          go_simp
          try with_reducible rfl
        simp only [Act.put, List.getElem_toArray, List.getElem_cons_zero, List.getElem_cons_succ, List.setIfInBounds_toArray, List.set_cons_zero, List.set_cons_succ]
        refine AnyG.take 5 (v := ?vv6) rfl (by kernel_rfl) (by kernel_rfl) (by kernel_rfl) (by kernel_rfl) (fun _ _ _ h => h) hS ?hy6 (by rfl) ?rest6
        case hy6 =>
          intro w0 h0
          go_simp
          try with_reducible rfl
        simp only [Act.put, List.getElem_toArray, List.getElem_cons_zero, List.getElem_cons_succ, List.setIfInBounds_toArray, List.set_cons_zero, List.set_cons_succ]
        refine AnyG.take 6 (v := ?vv7) rfl (by kernel_rfl) (by kernel_rfl) (by kernel_rfl) (by kernel_rfl) (fun _ _ _ h => h) hS ?hy7 (by rfl) ?rest7
        case hy7 =>
          intro w0 h0
          go_simp
          try with_reducible rfl
        simp only [Act.put, List.getElem_toArray, List.getElem_cons_zero, List.getElem_cons_succ, List.setIfInBounds_toArray, List.set_cons_zero, List.set_cons_succ]
        refine AnyG.take 7 (v := ?vv8) rfl (by kernel_rfl) (by kernel_rfl) (by kernel_rfl) (by kernel_rfl) (fun _ _ _ h => h) hS ?hy8 (by rfl) ?rest8
        case hy8 =>
          intro w0 h0
          go_simp
          try with_reducible rfl
        simp only [Act.put, List.getElem_toArray, List.getElem_cons_zero, List.getElem_cons_succ, List.setIfInBounds_toArray, List.set_cons_zero, List.set_cons_succ]
        refine AnyG.take 8 (v := ?vv9) rfl (by kernel_rfl) (by kernel_rfl) (by kernel_rfl) (by kernel_rfl) (fun _ _ _ h => h) hS ?hy9 (by rfl) ?rest9
        case hy9 =>
          intro w0 h0
          go_simp
          try with_reducible rfl
        simp only [Act.put, List.getElem_toArray, List.getElem_cons_zero, List.getElem_cons_succ, List.setIfInBounds_toArray, List.set_cons_zero, List.set_cons_succ]
        refine AnyG.take 9 (v := ?vv10) rfl (by kernel_rfl) (by kernel_rfl) (by kernel_rfl) (by kernel_rfl) (fun _ _ _ h => h) hS ?hy10 (by rfl) ?rest10
        case hy10 =>
          intro w0 h0
          have c0 := h0.1
          go_simp
          try with_reducible rfl
        simp only [Act.put, List.getElem_toArray, List.getElem_cons_zero, List.getElem_cons_succ, List.setIfInBounds_toArray, List.set_cons_zero, List.set_cons_succ]
        refine AnyG.take 10 (v := ?vv11) rfl (by kernel_rfl) (by kernel_rfl) (by kernel_rfl) (by kernel_rfl) (fun _ _ _ h => h) hS ?hy11 (by rfl) ?rest11
        case hy11 =>
          intro w0 h0
          go_simp
          try with_reducible rfl
        simp only [Act.put, List.getElem_toArray, List.getElem_cons_zero, List.getElem_cons_succ, List.setIfInBounds_toArray, List.set_cons_zero, List.set_cons_succ]
        refine AnyG.take 11 (v := ?vv12) rfl (by kernel_rfl) (by kernel_rfl) (by kernel_rfl) (by kernel_rfl) (fun _ _ _ h => h) hS ?hy12 (by rfl) ?rest12
        case hy12 =>
          intro w0 h0
          go_simp
          try with_reducible rfl
        simp only [Act.put, List.getElem_toArray, List.getElem_cons_zero, List.getElem_cons_succ, List.setIfInBounds_toArray, List.set_cons_zero, List.set_cons_succ]
        refine AnyG.take 12 (v := ?vv13) rfl (by kernel_rfl) (by kernel_rfl) (by kernel_rfl) (by kernel_rfl) (fun _ _ _ h => h) hS ?hy13 (by rfl) ?rest13
        case hy13 =>
          intro w0 h0
          go_simp
          try with_reducible rfl
        simp only [Act.put, List.getElem_toArray, List.getElem_cons_zero, List.getElem_cons_succ, List.setIfInBounds_toArray, List.set_cons_zero, List.set_cons_succ]
        refine AnyG.take 13 (v := ?vv14) rfl (by kernel_rfl) (by kernel_rfl) (by kernel_rfl) (by kernel_rfl) (fun _ _ _ h => h) hS ?hy14 (by rfl) ?rest14
        case hy14 =>
          intro w0 h0
          go_simp
          try with_reducible rfl
        simp only [Act.put, List.getElem_toArray, List.getElem_cons_zero, List.getElem_cons_succ, List.setIfInBounds_toArray, List.set_cons_zero, List.set_cons_succ]
        refine AnyG.take 14 (v := ?vv15) rfl (by kernel_rfl) (by kernel_rfl) (by kernel_rfl) (by kernel_rfl) (fun _ _ _ h => h) hS ?hy15 (by rfl) ?rest15
        case hy15 =>
          intro w0 h0
          go_simp
          try with_reducible rfl
        simp only [Act.put, List.getElem_toArray, List.getElem_cons_zero, List.getElem_cons_succ, List.setIfInBounds_toArray, List.set_cons_zero, List.set_cons_succ]
        refine AnyG.take 15 (v := ?vv16) rfl (by kernel_rfl) (by kernel_rfl) (by kernel_rfl) (by kernel_rfl) (fun _ _ _ h => h) hS ?hy16 (by rfl) ?rest16
        case hy16 =>
          intro w0 h0
          go_simp
          try with_reducible rfl
        simp only [Act.put, List.getElem_toArray, List.getElem_cons_zero, List.getElem_cons_succ, List.setIfInBounds_toArray, List.set_cons_zero, List.set_cons_succ]
        refine AnyG.take 16 (v := ?vv17) rfl (by kernel_rfl) (by kernel_rfl) (by kernel_rfl) (by kernel_rfl) (fun _ _ _ h => h) hS ?hy17 (by rfl) ?rest17
        case hy17 =>
          intro w0 h0
          go_simp
          try with_reducible rfl
        simp only [Act.put, List.getElem_toArray, List.getElem_cons_zero, List.getElem_cons_succ, List.setIfInBounds_toArray, List.set_cons_zero, List.set_cons_succ]
        refine AnyG.take 17 (v := ?vv18) rfl (by kernel_rfl) (by kernel_rfl) (by kernel_rfl) (by kernel_rfl) (fun _ _ _ h => h) hS ?hy18 (by rfl) ?rest18
        case hy18 =>
          intro w0 h0
          go_simp
          try with_reducible rfl
        simp only [Act.put, List.getElem_toArray, List.getElem_cons_zero, List.getElem_cons_succ, List.setIfInBounds_toArray, List.set_cons_zero, List.set_cons_succ]
        refine AnyG.take 18 (v := ?vv19) rfl (by kernel_rfl) (by kernel_rfl) (by kernel_rfl) (by kernel_rfl) (fun _ _ _ h => h) hS ?hy19 (by rfl) ?rest19
        case hy19 =>
          intro w0 h0
          go_simp
          try with_reducible rfl
        simp only [Act.put, List.getElem_toArray, List.getElem_cons_zero, List.getElem_cons_succ, List.setIfInBounds_toArray, List.set_cons_zero, List.set_cons_succ]
        refine AnyG.take 19 (v := ?vv20) rfl (by kernel_rfl) (by kernel_rfl) (by kernel_rfl) (by kernel_rfl) (fun _ _ _ h => h) hS ?hy20 (by rfl) ?rest20
        case hy20 =>
          intro w0 h0
          go_simp
          try with_reducible rfl
        simp only [Act.put, List.getElem_toArray, List.getElem_cons_zero, List.getElem_cons_succ, List.setIfInBounds_toArray, List.set_cons_zero, List.set_cons_succ]
        refine AnyG.take 20 (v := ?vv21) rfl (by kernel_rfl) (by kernel_rfl) (by kernel_rfl) (by kernel_rfl) (fun _ _ _ h => h) hS ?hy21 (by rfl) ?rest21
        case hy21 =>
          intro w0 h0
          go_simp
          try with_reducible rfl
        simp only [Act.put, List.getElem_toArray, List.getElem_cons_zero, List.getElem_cons_succ, List.setIfInBounds_toArray, List.set_cons_zero, List.set_cons_succ]
        refine AnyG.skip 21 rfl (by kernel_rfl) (by kernel_rfl) (by kernel_rfl) (by kernel_rfl) (fun _ _ _ h => h) hS (by rfl) ?_
        simp only [Act.put, List.getElem_toArray, List.getElem_cons_zero, List.getElem_cons_succ, List.setIfInBounds_toArray, List.set_cons_zero, List.set_cons_succ]
        refine AnyG.skip 22 rfl (by kernel_rfl) (by kernel_rfl) (by kernel_rfl) (by kernel_rfl) (fun _ _ _ h => h) hS (by rfl) ?_
        simp only [Act.put, List.getElem_toArray, List.getElem_cons_zero, List.getElem_cons_succ, List.setIfInBounds_toArray, List.set_cons_zero, List.set_cons_succ]
        refine AnyG.skip 23 rfl (by kernel_rfl) (by kernel_rfl) (by kernel_rfl) (by kernel_rfl) (fun _ _ _ h => h) hS (by rfl) ?_
        simp only [Act.put, List.getElem_toArray, List.getElem_cons_zero, List.getElem_cons_succ, List.setIfInBounds_toArray, List.set_cons_zero, List.set_cons_succ]
        refine AnyG.skip 24 rfl (by kernel_rfl) (by kernel_rfl) (by kernel_rfl) (by kernel_rfl) (fun _ _ _ h => h) hS (by rfl) ?_
        simp only [Act.put, List.getElem_toArray, List.getElem_cons_zero, List.getElem_cons_succ, List.setIfInBounds_toArray, List.set_cons_zero, List.set_cons_succ]
        refine AnyG.skip 25 rfl (by kernel_rfl) (by kernel_rfl) (by kernel_rfl) (by kernel_rfl) (fun _ _ _ h => h) hS (by rfl) ?_
        simp only [Act.put, List.getElem_toArray, List.getElem_cons_zero, List.getElem_cons_succ, List.setIfInBounds_toArray, List.set_cons_zero, List.set_cons_succ]
        refine AnyG.skip 26 rfl (by kernel_rfl) (by kernel_rfl) (by kernel_rfl) (by kernel_rfl) (fun _ _ _ h => h) hS (by rfl) ?_
        simp only [Act.put, List.getElem_toArray, List.getElem_cons_zero, List.getElem_cons_succ, List.setIfInBounds_toArray, List.set_cons_zero, List.set_cons_succ]
        refine AnyG.skip 27 rfl (by kernel_rfl) (by kernel_rfl) (by kernel_rfl) (by kernel_rfl) (fun _ _ _ h => h) hS (by rfl) ?_
        simp only [Act.put, List.getElem_toArray, List.getElem_cons_zero, List.getElem_cons_succ, List.setIfInBounds_toArray, List.set_cons_zero, List.set_cons_succ]
        refine AnyG.skip 28 rfl (by kernel_rfl) (by kernel_rfl) (by kernel_rfl) (by kernel_rfl) (fun _ _ _ h => h) hS (by rfl) ?_
        simp only [Act.put, List.getElem_toArray, List.getElem_cons_zero, List.getElem_cons_succ, List.setIfInBounds_toArray, List.set_cons_zero, List.set_cons_succ]
        refine AnyG.skip 29 rfl (by kernel_rfl) (by kernel_rfl) (by kernel_rfl) (by kernel_rfl) (fun _ _ _ h => h) hS (by rfl) ?_
        simp only [Act.put, List.getElem_toArray, List.getElem_cons_zero, List.getElem_cons_succ, List.setIfInBounds_toArray, List.set_cons_zero, List.set_cons_succ]
        refine AnyG.skip 30 rfl (by kernel_rfl) (by kernel_rfl) (by kernel_rfl) (by kernel_rfl) (fun _ _ _ h => h) hS (by rfl) ?_
        simp only [Act.put, List.getElem_toArray, List.getElem_cons_zero, List.getElem_cons_succ, List.setIfInBounds_toArray, List.set_cons_zero, List.set_cons_succ]
        refine AnyG.take 31 (v := ?vv22) rfl (by kernel_rfl) (by kernel_rfl) (by kernel_rfl) (by kernel_rfl) (fun _ _ _ h => h) hS ?hy22 (by rfl) ?rest22
        case hy22 =>
          intro w0 h0
          go_simp
          try with_reducible rfl
        simp only [Act.put, List.getElem_toArray, List.getElem_cons_zero, List.getElem_cons_succ, List.setIfInBounds_toArray, List.set_cons_zero, List.set_cons_succ]
        refine AnyG.take 32 (v := ?vv23) rfl (by kernel_rfl) (by kernel_rfl) (by kernel_rfl) (by kernel_rfl) (fun _ _ _ h => h) hS ?hy23 (by rfl) ?rest23
        case hy23 =>
          intro w0 h0
          go_simp
          try with_reducible rfl
        simp only [Act.put, List.getElem_toArray, List.getElem_cons_zero, List.getElem_cons_succ, List.setIfInBounds_toArray, List.set_cons_zero, List.set_cons_succ]
        refine AnyG.done (by kernel_rfl) ?_ _
        go_wp2
        obtain ⟨wa, rfl⟩ : ∃ wa, wa = V := ⟨_, rfl⟩
        go_wp2
        go_loopw [9] (fun vj wj => ∃ j : Nat, j ≤ p.length ∧ vj = .int .i64 (j : Nat) ∧ Hid (Below w2.heap.size w2 wj)) (fun vj _ => p.length - (intOf vj).toNat)
        case atStart => exact ⟨0, by omega, rfl, HBD⟩
        case round =>
          obtain ⟨wj, rfl⟩ : ∃ wj, wj = wr := ⟨_, rfl⟩
          obtain ⟨j, hj, rfl, HJ⟩ := hrel
          have HBJ := hide (B2.out.trans (HJ.out.mono B2.out.size))
          have c1 := (HJ.out.cell (p := ⟨b, off + i, none⟩) hbl).trans C1.out
          by_cases hjp : j < p.length
          · obtain ⟨bt, of1, rfl, hbt, hct⟩ := XT.out (by have := HX.out; omega)
            obtain ⟨bp, of2, rfl, hbp, hcp⟩ := XP.out (by omega)
            obtain ⟨xj, hxj⟩ : ∃ xj, Hid (x + j = xj) := ⟨_, rfl⟩
            have c2 := (HJ.out.cell (p := ⟨bt, of1 + xj, none⟩) hbt).trans (hct xj (by have := HX.out; have := hxj.out; omega))
            have c3 := (HJ.out.cell (p := ⟨bp, of2 + j, none⟩) hbp).trans (hcp j hjp)
            have hal := (Ph.alike_iff.1 HAL.out) j hjp
            rw [hxj.out] at hal
            have ha := gt_lt Ft xj
            have hpa := gt_lt Fp_ j
            obtain ⟨ta, hta⟩ : ∃ ta, Hid (gt t xj = ta) := ⟨_, rfl⟩
            obtain ⟨pa, hpa2⟩ : ∃ pa, Hid (gt p j = pa) := ⟨_, rfl⟩
            rw [hta.out] at c2 hal ha
            rw [hpa2.out] at c3 hal hpa
            have hjz : (j : Int) < (p.length : Int) := by omega
            have hxz : (x : Int) + (j : Int) < (t.length : Int) := by have := HX.out; omega
            have hne : ((ta : Int).tmod 4 != (pa : Int).tmod 4) = false := by
              rw [Int.tmod_eq_emod_of_nonneg (by omega), Int.tmod_eq_emod_of_nonneg (by omega), show (ta : Int) % 4 = (pa : Int) % 4 by omega]
              simp
            have w3q : IntKind.i64.wrap ((x : Int) + (j : Int)) = (xj : Int) := by have := HX.out; have := hxj.out; simp [IntKind.wrap, IntKind.bits, IntKind.signed]; omega
            have hxn : (xj : Int) < (t.length : Int) := by have := HX.out; have := hxj.out; omega
            have hxn2 : xj < t.length := by omega
            clear hct hcp hal hta hpa2
            go_wp2
            refine region_g [] (fun w' => w'.cell? ⟨b, off + i, none⟩ = some (.int .i64 (x : Nat)) ∧ w'.cell? ⟨bt, of1 + xj, none⟩ = some (.int .u8 (ta : Nat)) ∧ w'.cell? ⟨bp, of2 + j, none⟩ = some (.int .u8 (pa : Nat)) ∧ Below w.heap.size w w') (by kernel_rfl) ?_
            have hS : (fun w' => w'.cell? ⟨b, off + i, none⟩ = some (.int .i64 (x : Nat)) ∧ w'.cell? ⟨bt, of1 + xj, none⟩ = some (.int .u8 (ta : Nat)) ∧ w'.cell? ⟨bp, of2 + j, none⟩ = some (.int .u8 (pa : Nat)) ∧ Below w.heap.size w w') wj.drew := ⟨c1, c2, c3, HBJ.out.drew⟩
            have HBD2 : Hid (Below w2.heap.size w2 wj.drew) := HJ.out.drew
            clear c1 c2 c3
            generalize wj.drew = V2 at *
            refine AnyG.take 0 (v := ?vv57) rfl (by kernel_rfl) (by kernel_rfl) (by kernel_rfl) (by kernel_rfl) (fun _ _ _ h => h) hS ?hy57 (by rfl) ?rest57
            case hy57 =>
              intro w0 h0
              go_simp
              try with_reducible rfl
            simp only [Act.put, List.getElem_toArray, List.getElem_cons_zero, List.getElem_cons_succ, List.setIfInBounds_toArray, List.set_cons_zero, List.set_cons_succ]
            refine AnyG.take 1 (v := ?vv58) rfl (by kernel_rfl) (by kernel_rfl) (by kernel_rfl) (by kernel_rfl) (fun _ _ _ h => h) hS ?hy58 (by rfl) ?rest58
            case hy58 =>
              intro w0 h0
              go_simp
              try with_reducible rfl
            simp only [Act.put, List.getElem_toArray, List.getElem_cons_zero, List.getElem_cons_succ, List.setIfInBounds_toArray, List.set_cons_zero, List.set_cons_succ]
            refine AnyG.take 2 (v := ?vv59) rfl (by kernel_rfl) (by kernel_rfl) (by kernel_rfl) (by kernel_rfl) (fun _ _ _ h => h) hS ?hy59 (by rfl) ?rest59
            case hy59 =>
              intro w0 h0
              go_simp
              try with_reducible rfl
            simp only [Act.put, List.getElem_toArray, List.getElem_cons_zero, List.getElem_cons_succ, List.setIfInBounds_toArray, List.set_cons_zero, List.set_cons_succ]
            refine AnyG.take 3 (v := ?vv60) rfl (by kernel_rfl) (by kernel_rfl) (by kernel_rfl) (by kernel_rfl) (fun _ _ _ h => h) hS ?hy60 (by rfl) ?rest60
            case hy60 =>
              intro w0 h0
              go_simp
              try with_reducible rfl
            simp only [Act.put, List.getElem_toArray, List.getElem_cons_zero, List.getElem_cons_succ, List.setIfInBounds_toArray, List.set_cons_zero, List.set_cons_succ]
            refine AnyG.take 4 (v := ?vv61) rfl (by kernel_rfl) (by kernel_rfl) (by kernel_rfl) (by kernel_rfl) (fun _ _ _ h => h) hS ?hy61 (by rfl) ?rest61
            case hy61 =>
              intro w0 h0
              have c0 := h0.1
              go_simp
              try with_reducible rfl
            simp only [Act.put, List.getElem_toArray, List.getElem_cons_zero, List.getElem_cons_succ, List.setIfInBounds_toArray, List.set_cons_zero, List.set_cons_succ]
            refine AnyG.take 5 (v := ?vv62) rfl (by kernel_rfl) (by kernel_rfl) (by kernel_rfl) (by kernel_rfl) (fun _ _ _ h => h) hS ?hy62 (by rfl) ?rest62
            case hy62 =>
              intro w0 h0
              go_simp
              try with_reducible rfl
            simp only [Act.put, List.getElem_toArray, List.getElem_cons_zero, List.getElem_cons_succ, List.setIfInBounds_toArray, List.set_cons_zero, List.set_cons_succ]
            refine AnyG.take 6 (v := ?vv63) rfl (by kernel_rfl) (by kernel_rfl) (by kernel_rfl) (by kernel_rfl) (fun _ _ _ h => h) hS ?hy63 (by rfl) ?rest63
            case hy63 =>
              intro w0 h0
              go_simp
              try with_reducible rfl
            simp only [Act.put, List.getElem_toArray, List.getElem_cons_zero, List.getElem_cons_succ, List.setIfInBounds_toArray, List.set_cons_zero, List.set_cons_succ]
            refine AnyG.take 7 (v := ?vv64) rfl (by kernel_rfl) (by kernel_rfl) (by kernel_rfl) (by kernel_rfl) (fun _ _ _ h => h) hS ?hy64 (by rfl) ?rest64
            case hy64 =>
              intro w0 h0
              go_simp
              try with_reducible rfl
            simp only [Act.put, List.getElem_toArray, List.getElem_cons_zero, List.getElem_cons_succ, List.setIfInBounds_toArray, List.set_cons_zero, List.set_cons_succ]
            refine AnyG.take 8 (v := ?vv65) rfl (by kernel_rfl) (by kernel_rfl) (by kernel_rfl) (by kernel_rfl) (fun _ _ _ h => h) hS ?hy65 (by rfl) ?rest65
            case hy65 =>
              intro w0 h0
              have c0 := h0.2.1
              go_simp
              try with_reducible rfl
            simp only [Act.put, List.getElem_toArray, List.getElem_cons_zero, List.getElem_cons_succ, List.setIfInBounds_toArray, List.set_cons_zero, List.set_cons_succ]
            refine AnyG.take 9 (v := ?vv66) rfl (by kernel_rfl) (by kernel_rfl) (by kernel_rfl) (by kernel_rfl) (fun _ _ _ h => h) hS ?hy66 (by rfl) ?rest66
            case hy66 =>
              intro w0 h0
              go_simp
              try with_reducible rfl
            simp only [Act.put, List.getElem_toArray, List.getElem_cons_zero, List.getElem_cons_succ, List.setIfInBounds_toArray, List.set_cons_zero, List.set_cons_succ]
            refine AnyG.take 10 (v := ?vv67) rfl (by kernel_rfl) (by kernel_rfl) (by kernel_rfl) (by kernel_rfl) (fun _ _ _ h => h) hS ?hy67 (by rfl) ?rest67
            case hy67 =>
              intro w0 h0
              go_simp
              try with_reducible rfl
            simp only [Act.put, List.getElem_toArray, List.getElem_cons_zero, List.getElem_cons_succ, List.setIfInBounds_toArray, List.set_cons_zero, List.set_cons_succ]
            refine AnyG.take 11 (v := ?vv68) rfl (by kernel_rfl) (by kernel_rfl) (by kernel_rfl) (by kernel_rfl) (fun _ _ _ h => h) hS ?hy68 (by rfl) ?rest68
            case hy68 =>
              intro w0 h0
              go_simp
              try with_reducible rfl
            simp only [Act.put, List.getElem_toArray, List.getElem_cons_zero, List.getElem_cons_succ, List.setIfInBounds_toArray, List.set_cons_zero, List.set_cons_succ]
            refine AnyG.take 12 (v := ?vv69) rfl (by kernel_rfl) (by kernel_rfl) (by kernel_rfl) (by kernel_rfl) (fun _ _ _ h => h) hS ?hy69 (by rfl) ?rest69
            case hy69 =>
              intro w0 h0
              go_simp
              try with_reducible rfl
            simp only [Act.put, List.getElem_toArray, List.getElem_cons_zero, List.getElem_cons_succ, List.setIfInBounds_toArray, List.set_cons_zero, List.set_cons_succ]
            refine AnyG.take 13 (v := ?vv70) rfl (by kernel_rfl) (by kernel_rfl) (by kernel_rfl) (by kernel_rfl) (fun _ _ _ h => h) hS ?hy70 (by rfl) ?rest70
            case hy70 =>
              intro w0 h0
              have c0 := h0.2.2.1
              go_simp
              try with_reducible rfl
            simp only [Act.put, List.getElem_toArray, List.getElem_cons_zero, List.getElem_cons_succ, List.setIfInBounds_toArray, List.set_cons_zero, List.set_cons_succ]
            refine AnyG.take 14 (v := ?vv71) rfl (by kernel_rfl) (by kernel_rfl) (by kernel_rfl) (by kernel_rfl) (fun _ _ _ h => h) hS ?hy71 (by rfl) ?rest71
            case hy71 =>
              intro w0 h0
              go_simp
              try with_reducible rfl
            simp only [Act.put, List.getElem_toArray, List.getElem_cons_zero, List.getElem_cons_succ, List.setIfInBounds_toArray, List.set_cons_zero, List.set_cons_succ]
            refine AnyG.take 15 (v := ?vv72) rfl (by kernel_rfl) (by kernel_rfl) (by kernel_rfl) (by kernel_rfl) (fun _ _ _ h => h) hS ?hy72 (by rfl) ?rest72
            case hy72 =>
              intro w0 h0
              go_simp
              try with_reducible rfl
            simp only [Act.put, List.getElem_toArray, List.getElem_cons_zero, List.getElem_cons_succ, List.setIfInBounds_toArray, List.set_cons_zero, List.set_cons_succ]
            refine AnyG.done (by kernel_rfl) ?_ _
            go_wp2
            exact ⟨⟨j + 1, by omega, by go_num, HBD2⟩, by simp only [intOf]; omega⟩
          · have hjz : ¬ (j : Int) < (p.length : Int) := by omega
            cases hst : Ph.stands t p x with
            | true =>
              have hhit := Ph.cnt_hit HX0.out hst
              have hup := Ph.cnt_up (st := Ph.stands t p) HX0.out
              rw [if_pos hst] at hup
              rw [← HOC.out] at hhit
              have hcl := (List.getElem?_eq_some_iff.1 hhit).1
              obtain ⟨bo, of3, rfl, hbo, hco⟩ := XO.out (by rw [length_toI]; omega)
              have c4 := (HJ.out.cell (p := ⟨bo, of3 + Ph.cnt L (Ph.stands t p) i, none⟩) hbo).trans (hco _ (by rw [length_toI]; exact hcl))
              rw [gi_toI, show gt O (Ph.cnt L (Ph.stands t p) i) = x by unfold gt; rw [List.getD_eq_getElem?_getD, hhit]; rfl] at c4
              have HUP : Hid (Ph.cnt L (Ph.stands t p) (i + 1) = Ph.cnt L (Ph.stands t p) i + 1) := hup
              have hclz : ((Ph.cnt L (Ph.stands t p) i : Nat) : Int) < (O.length : Int) := by omega
              have d5 : decide (((Ph.cnt L (Ph.stands t p) i : Nat) : Int) < (O.length : Int)) = true := decide_eq_true hclz
              clear hhit hup hco hst
              generalize Ph.cnt L (Ph.stands t p) i = cc at *
              obtain ⟨y, hy⟩ : ∃ y, y = x := ⟨_, rfl⟩
              rw [← hy] at c4
              have hyx : ((y : Int) == (x : Int)) = true := by rw [hy]; simp
              clear hy
              go_wp2
              refine region_g [] (fun w' => w'.cell? ⟨b, off + i, none⟩ = some (.int .i64 (x : Nat)) ∧ w'.cell? ⟨bo, of3 + cc, none⟩ = some (.int .i64 (y : Nat)) ∧ Below w.heap.size w w') (by kernel_rfl) ?_
              have hS : (fun w' => w'.cell? ⟨b, off + i, none⟩ = some (.int .i64 (x : Nat)) ∧ w'.cell? ⟨bo, of3 + cc, none⟩ = some (.int .i64 (y : Nat)) ∧ Below w.heap.size w w') wj.drew := ⟨c1, c4, HBJ.out.drew⟩
              have HBD2 : Hid (Below w2.heap.size w2 wj.drew) := HJ.out.drew
              clear c1 c4
              generalize wj.drew = V2 at *
              refine AnyG.take 0 (v := ?vv73) rfl (by kernel_rfl) (by kernel_rfl) (by kernel_rfl) (by kernel_rfl) (fun _ _ _ h => h) hS ?hy73 (by rfl) ?rest73
              case hy73 =>
                intro w0 h0
                go_simp
                try with_reducible rfl
              simp only [Act.put, List.getElem_toArray, List.getElem_cons_zero, List.getElem_cons_succ, List.setIfInBounds_toArray, List.set_cons_zero, List.set_cons_succ]
              refine AnyG.take 1 (v := ?vv74) rfl (by kernel_rfl) (by kernel_rfl) (by kernel_rfl) (by kernel_rfl) (fun _ _ _ h => h) hS ?hy74 (by rfl) ?rest74
              case hy74 =>
                intro w0 h0
                go_simp
                try with_reducible rfl
              simp only [Act.put, List.getElem_toArray, List.getElem_cons_zero, List.getElem_cons_succ, List.setIfInBounds_toArray, List.set_cons_zero, List.set_cons_succ]
              refine AnyG.take 2 (v := ?vv75) rfl (by kernel_rfl) (by kernel_rfl) (by kernel_rfl) (by kernel_rfl) (fun _ _ _ h => h) hS ?hy75 (by rfl) ?rest75
              case hy75 =>
                intro w0 h0
                go_simp
                try with_reducible rfl
              simp only [Act.put, List.getElem_toArray, List.getElem_cons_zero, List.getElem_cons_succ, List.setIfInBounds_toArray, List.set_cons_zero, List.set_cons_succ]
              refine AnyG.take 3 (v := ?vv76) rfl (by kernel_rfl) (by kernel_rfl) (by kernel_rfl) (by kernel_rfl) (fun _ _ _ h => h) hS ?hy76 (by rfl) ?rest76
              case hy76 =>
                intro w0 h0
                go_simp
                try with_reducible rfl
              simp only [Act.put, List.getElem_toArray, List.getElem_cons_zero, List.getElem_cons_succ, List.setIfInBounds_toArray, List.set_cons_zero, List.set_cons_succ]
              refine AnyG.take 4 (v := ?vv77) rfl (by kernel_rfl) (by kernel_rfl) (by kernel_rfl) (by kernel_rfl) (fun _ _ _ h => h) hS ?hy77 (by rfl) ?rest77
              case hy77 =>
                intro w0 h0
                go_simp
                try with_reducible rfl
              simp only [Act.put, List.getElem_toArray, List.getElem_cons_zero, List.getElem_cons_succ, List.setIfInBounds_toArray, List.set_cons_zero, List.set_cons_succ]
              refine AnyG.take 5 (v := ?vv78) rfl (by kernel_rfl) (by kernel_rfl) (by kernel_rfl) (by kernel_rfl) (fun _ _ _ h => h) hS ?hy78 (by rfl) ?rest78
              case hy78 =>
                intro w0 h0
                go_simp
                try with_reducible rfl
              simp only [Act.put, List.getElem_toArray, List.getElem_cons_zero, List.getElem_cons_succ, List.setIfInBounds_toArray, List.set_cons_zero, List.set_cons_succ]
              refine AnyG.take 6 (v := ?vv79) rfl (by kernel_rfl) (by kernel_rfl) (by kernel_rfl) (by kernel_rfl) (fun _ _ _ h => h) hS ?hy79 (by rfl) ?rest79
              case hy79 =>
                intro w0 h0
                go_simp
                try with_reducible rfl
              simp only [Act.put, List.getElem_toArray, List.getElem_cons_zero, List.getElem_cons_succ, List.setIfInBounds_toArray, List.set_cons_zero, List.set_cons_succ]
              refine AnyG.take 7 (v := ?vv80) rfl (by kernel_rfl) (by kernel_rfl) (by kernel_rfl) (by kernel_rfl) (fun _ _ _ h => h) hS ?hy80 (by rfl) ?rest80
              case hy80 =>
                intro w0 h0
                go_simp
                try with_reducible rfl
              simp only [Act.put, List.getElem_toArray, List.getElem_cons_zero, List.getElem_cons_succ, List.setIfInBounds_toArray, List.set_cons_zero, List.set_cons_succ]
              refine AnyG.take 8 (v := ?vv81) rfl (by kernel_rfl) (by kernel_rfl) (by kernel_rfl) (by kernel_rfl) (fun _ _ _ h => h) hS ?hy81 (by rfl) ?rest81
              case hy81 =>
                intro w0 h0
                have c0 := h0.2.1
                go_simp
                try with_reducible rfl
              simp only [Act.put, List.getElem_toArray, List.getElem_cons_zero, List.getElem_cons_succ, List.setIfInBounds_toArray, List.set_cons_zero, List.set_cons_succ]
              refine AnyG.take 9 (v := ?vv82) rfl (by kernel_rfl) (by kernel_rfl) (by kernel_rfl) (by kernel_rfl) (fun _ _ _ h => h) hS ?hy82 (by rfl) ?rest82
              case hy82 =>
                intro w0 h0
                go_simp
                try with_reducible rfl
              simp only [Act.put, List.getElem_toArray, List.getElem_cons_zero, List.getElem_cons_succ, List.setIfInBounds_toArray, List.set_cons_zero, List.set_cons_succ]
              refine AnyG.take 10 (v := ?vv83) rfl (by kernel_rfl) (by kernel_rfl) (by kernel_rfl) (by kernel_rfl) (fun _ _ _ h => h) hS ?hy83 (by rfl) ?rest83
              case hy83 =>
                intro w0 h0
                go_simp
                try with_reducible rfl
              simp only [Act.put, List.getElem_toArray, List.getElem_cons_zero, List.getElem_cons_succ, List.setIfInBounds_toArray, List.set_cons_zero, List.set_cons_succ]
              refine AnyG.take 11 (v := ?vv84) rfl (by kernel_rfl) (by kernel_rfl) (by kernel_rfl) (by kernel_rfl) (fun _ _ _ h => h) hS ?hy84 (by rfl) ?rest84
              case hy84 =>
                intro w0 h0
                go_simp
                try with_reducible rfl
              simp only [Act.put, List.getElem_toArray, List.getElem_cons_zero, List.getElem_cons_succ, List.setIfInBounds_toArray, List.set_cons_zero, List.set_cons_succ]
              refine AnyG.take 12 (v := ?vv85) rfl (by kernel_rfl) (by kernel_rfl) (by kernel_rfl) (by kernel_rfl) (fun _ _ _ h => h) hS ?hy85 (by rfl) ?rest85
              case hy85 =>
                intro w0 h0
                have c0 := h0.1
                go_simp
                try with_reducible rfl
              simp only [Act.put, List.getElem_toArray, List.getElem_cons_zero, List.getElem_cons_succ, List.setIfInBounds_toArray, List.set_cons_zero, List.set_cons_succ]
              refine AnyG.take 13 (v := ?vv86) rfl (by kernel_rfl) (by kernel_rfl) (by kernel_rfl) (by kernel_rfl) (fun _ _ _ h => h) hS ?hy86 (by rfl) ?rest86
              case hy86 =>
                intro w0 h0
                go_simp
                try with_reducible rfl
              simp only [Act.put, List.getElem_toArray, List.getElem_cons_zero, List.getElem_cons_succ, List.setIfInBounds_toArray, List.set_cons_zero, List.set_cons_succ]
              refine AnyG.take 14 (v := ?vv87) rfl (by kernel_rfl) (by kernel_rfl) (by kernel_rfl) (by kernel_rfl) (fun _ _ _ h => h) hS ?hy87 (by rfl) ?rest87
              case hy87 =>
                intro w0 h0
                go_simp
                try with_reducible rfl
              simp only [Act.put, List.getElem_toArray, List.getElem_cons_zero, List.getElem_cons_succ, List.setIfInBounds_toArray, List.set_cons_zero, List.set_cons_succ]
              refine AnyG.done (by kernel_rfl) ?_ _
              go_wp2
              exact ⟨⟨i + 1, by omega, by go_num, by rw [HUP.out]; go_num, HBD2⟩, by simp only [intOf]; omega⟩
            | false =>
              have hup := Ph.cnt_up (st := Ph.stands t p) HX0.out
              rw [if_neg (by rw [hst]; decide)] at hup
              have hmiss := Ph.cnt_miss (Ph.fil_nodup t p _) (by rw [HL.out]; exact HX0.out) hst
              rw [HL.out, ← HOC.out] at hmiss
              have HUP : Hid (Ph.cnt L (Ph.stands t p) (i + 1) = Ph.cnt L (Ph.stands t p) i) := hup
              by_cases hcl : Ph.cnt L (Ph.stands t p) i < O.length
              · obtain ⟨bo, of3, rfl, hbo, hco⟩ := XO.out (by rw [length_toI]; omega)
                have c4 := (HJ.out.cell (p := ⟨bo, of3 + Ph.cnt L (Ph.stands t p) i, none⟩) hbo).trans (hco _ (by rw [length_toI]; exact hcl))
                rw [gi_toI] at c4
                have hyx : ((gt O (Ph.cnt L (Ph.stands t p) i) : Int) == (x : Int)) = false := by
                  simp only [beq_eq_false_iff_ne, ne_eq]
                  intro q
                  refine hmiss ?_
                  rw [gt_get O _ hcl]
                  congr 1
                  omega
                have hclz : ((Ph.cnt L (Ph.stands t p) i : Nat) : Int) < (O.length : Int) := by omega
                have d5 : decide (((Ph.cnt L (Ph.stands t p) i : Nat) : Int) < (O.length : Int)) = true := decide_eq_true hclz
                clear hup hco hst hmiss
                generalize gt O (Ph.cnt L (Ph.stands t p) i) = y at *
                generalize Ph.cnt L (Ph.stands t p) i = cc at *
                go_wp2
                refine region_g [] (fun w' => w'.cell? ⟨b, off + i, none⟩ = some (.int .i64 (x : Nat)) ∧ w'.cell? ⟨bo, of3 + cc, none⟩ = some (.int .i64 (y : Nat)) ∧ Below w.heap.size w w') (by kernel_rfl) ?_
                have hS : (fun w' => w'.cell? ⟨b, off + i, none⟩ = some (.int .i64 (x : Nat)) ∧ w'.cell? ⟨bo, of3 + cc, none⟩ = some (.int .i64 (y : Nat)) ∧ Below w.heap.size w w') wj.drew := ⟨c1, c4, HBJ.out.drew⟩
                have HBD2 : Hid (Below w2.heap.size w2 wj.drew) := HJ.out.drew
                clear c1 c4
                generalize wj.drew = V2 at *
                refine AnyG.take 0 (v := ?vv88) rfl (by kernel_rfl) (by kernel_rfl) (by kernel_rfl) (by kernel_rfl) (fun _ _ _ h => h) hS ?hy88 (by rfl) ?rest88
                case hy88 =>
                  intro w0 h0
                  go_simp
                  try with_reducible rfl
                simp only [Act.put, List.getElem_toArray, List.getElem_cons_zero, List.getElem_cons_succ, List.setIfInBounds_toArray, List.set_cons_zero, List.set_cons_succ]
                refine AnyG.take 1 (v := ?vv89) rfl (by kernel_rfl) (by kernel_rfl) (by kernel_rfl) (by kernel_rfl) (fun _ _ _ h => h) hS ?hy89 (by rfl) ?rest89
                case hy89 =>
                  intro w0 h0
                  go_simp
                  try with_reducible rfl
                simp only [Act.put, List.getElem_toArray, List.getElem_cons_zero, List.getElem_cons_succ, List.setIfInBounds_toArray, List.set_cons_zero, List.set_cons_succ]
                refine AnyG.take 2 (v := ?vv90) rfl (by kernel_rfl) (by kernel_rfl) (by kernel_rfl) (by kernel_rfl) (fun _ _ _ h => h) hS ?hy90 (by rfl) ?rest90
                case hy90 =>
                  intro w0 h0
                  go_simp
                  try with_reducible rfl
                simp only [Act.put, List.getElem_toArray, List.getElem_cons_zero, List.getElem_cons_succ, List.setIfInBounds_toArray, List.set_cons_zero, List.set_cons_succ]
                refine AnyG.take 3 (v := ?vv91) rfl (by kernel_rfl) (by kernel_rfl) (by kernel_rfl) (by kernel_rfl) (fun _ _ _ h => h) hS ?hy91 (by rfl) ?rest91
                case hy91 =>
                  intro w0 h0
                  go_simp
                  try with_reducible rfl
                simp only [Act.put, List.getElem_toArray, List.getElem_cons_zero, List.getElem_cons_succ, List.setIfInBounds_toArray, List.set_cons_zero, List.set_cons_succ]
                refine AnyG.take 4 (v := ?vv92) rfl (by kernel_rfl) (by kernel_rfl) (by kernel_rfl) (by kernel_rfl) (fun _ _ _ h => h) hS ?hy92 (by rfl) ?rest92
                case hy92 =>
                  intro w0 h0
                  go_simp
                  try with_reducible rfl
                simp only [Act.put, List.getElem_toArray, List.getElem_cons_zero, List.getElem_cons_succ, List.setIfInBounds_toArray, List.set_cons_zero, List.set_cons_succ]
                refine AnyG.take 5 (v := ?vv93) rfl (by kernel_rfl) (by kernel_rfl) (by kernel_rfl) (by kernel_rfl) (fun _ _ _ h => h) hS ?hy93 (by rfl) ?rest93
                case hy93 =>
                  intro w0 h0
                  go_simp
                  try with_reducible rfl
                simp only [Act.put, List.getElem_toArray, List.getElem_cons_zero, List.getElem_cons_succ, List.setIfInBounds_toArray, List.set_cons_zero, List.set_cons_succ]
                refine AnyG.take 6 (v := ?vv94) rfl (by kernel_rfl) (by kernel_rfl) (by kernel_rfl) (by kernel_rfl) (fun _ _ _ h => h) hS ?hy94 (by rfl) ?rest94
                case hy94 =>
                  intro w0 h0
                  go_simp
                  try with_reducible rfl
                simp only [Act.put, List.getElem_toArray, List.getElem_cons_zero, List.getElem_cons_succ, List.setIfInBounds_toArray, List.set_cons_zero, List.set_cons_succ]
                refine AnyG.take 7 (v := ?vv95) rfl (by kernel_rfl) (by kernel_rfl) (by kernel_rfl) (by kernel_rfl) (fun _ _ _ h => h) hS ?hy95 (by rfl) ?rest95
                case hy95 =>
                  intro w0 h0
                  go_simp
                  try with_reducible rfl
                simp only [Act.put, List.getElem_toArray, List.getElem_cons_zero, List.getElem_cons_succ, List.setIfInBounds_toArray, List.set_cons_zero, List.set_cons_succ]
                refine AnyG.take 8 (v := ?vv96) rfl (by kernel_rfl) (by kernel_rfl) (by kernel_rfl) (by kernel_rfl) (fun _ _ _ h => h) hS ?hy96 (by rfl) ?rest96
                case hy96 =>
                  intro w0 h0
                  have c0 := h0.2.1
                  go_simp
                  try with_reducible rfl
                simp only [Act.put, List.getElem_toArray, List.getElem_cons_zero, List.getElem_cons_succ, List.setIfInBounds_toArray, List.set_cons_zero, List.set_cons_succ]
                refine AnyG.take 9 (v := ?vv97) rfl (by kernel_rfl) (by kernel_rfl) (by kernel_rfl) (by kernel_rfl) (fun _ _ _ h => h) hS ?hy97 (by rfl) ?rest97
                case hy97 =>
                  intro w0 h0
                  go_simp
                  try with_reducible rfl
                simp only [Act.put, List.getElem_toArray, List.getElem_cons_zero, List.getElem_cons_succ, List.setIfInBounds_toArray, List.set_cons_zero, List.set_cons_succ]
                refine AnyG.take 10 (v := ?vv98) rfl (by kernel_rfl) (by kernel_rfl) (by kernel_rfl) (by kernel_rfl) (fun _ _ _ h => h) hS ?hy98 (by rfl) ?rest98
                case hy98 =>
                  intro w0 h0
                  go_simp
                  try with_reducible rfl
                simp only [Act.put, List.getElem_toArray, List.getElem_cons_zero, List.getElem_cons_succ, List.setIfInBounds_toArray, List.set_cons_zero, List.set_cons_succ]
                refine AnyG.take 11 (v := ?vv99) rfl (by kernel_rfl) (by kernel_rfl) (by kernel_rfl) (by kernel_rfl) (fun _ _ _ h => h) hS ?hy99 (by rfl) ?rest99
                case hy99 =>
                  intro w0 h0
                  go_simp
                  try with_reducible rfl
                simp only [Act.put, List.getElem_toArray, List.getElem_cons_zero, List.getElem_cons_succ, List.setIfInBounds_toArray, List.set_cons_zero, List.set_cons_succ]
                refine AnyG.take 12 (v := ?vv100) rfl (by kernel_rfl) (by kernel_rfl) (by kernel_rfl) (by kernel_rfl) (fun _ _ _ h => h) hS ?hy100 (by rfl) ?rest100
                case hy100 =>
                  intro w0 h0
                  have c0 := h0.1
                  go_simp
                  try with_reducible rfl
                simp only [Act.put, List.getElem_toArray, List.getElem_cons_zero, List.getElem_cons_succ, List.setIfInBounds_toArray, List.set_cons_zero, List.set_cons_succ]
                refine AnyG.take 13 (v := ?vv101) rfl (by kernel_rfl) (by kernel_rfl) (by kernel_rfl) (by kernel_rfl) (fun _ _ _ h => h) hS ?hy101 (by rfl) ?rest101
                case hy101 =>
                  intro w0 h0
                  go_simp
                  try with_reducible rfl
                simp only [Act.put, List.getElem_toArray, List.getElem_cons_zero, List.getElem_cons_succ, List.setIfInBounds_toArray, List.set_cons_zero, List.set_cons_succ]
                refine AnyG.take 14 (v := ?vv102) rfl (by kernel_rfl) (by kernel_rfl) (by kernel_rfl) (by kernel_rfl) (fun _ _ _ h => h) hS ?hy102 (by rfl) ?rest102
                case hy102 =>
                  intro w0 h0
                  go_simp
                  try with_reducible rfl
                simp only [Act.put, List.getElem_toArray, List.getElem_cons_zero, List.getElem_cons_succ, List.setIfInBounds_toArray, List.set_cons_zero, List.set_cons_succ]
                refine AnyG.done (by kernel_rfl) ?_ _
                go_wp2
                exact ⟨⟨i + 1, by omega, by go_num, by rw [HUP.out], HBD2⟩, by simp only [intOf]; omega⟩
              · have hclz : ¬ ((Ph.cnt L (Ph.stands t p) i : Nat) : Int) < (O.length : Int) := by omega
                have d5 : decide (((Ph.cnt L (Ph.stands t p) i : Nat) : Int) < (O.length : Int)) = false := decide_eq_false hclz
                clear hup hst hmiss c1
                generalize Ph.cnt L (Ph.stands t p) i = cc at *
                go_wp2
                refine region_g [] (fun w' => Below w.heap.size w w') (by kernel_rfl) ?_
                have hS : (fun w' => Below w.heap.size w w') wj.drew := HBJ.out.drew
                have HBD2 : Hid (Below w2.heap.size w2 wj.drew) := HJ.out.drew
                skip
                generalize wj.drew = V2 at *
                refine AnyG.take 0 (v := ?vv103) rfl (by kernel_rfl) (by kernel_rfl) (by kernel_rfl) (by kernel_rfl) (fun _ _ _ h => h) hS ?hy103 (by rfl) ?rest103
                case hy103 =>
                  intro w0 h0
                  go_simp
                  try with_reducible rfl
                simp only [Act.put, List.getElem_toArray, List.getElem_cons_zero, List.getElem_cons_succ, List.setIfInBounds_toArray, List.set_cons_zero, List.set_cons_succ]
                refine AnyG.take 1 (v := ?vv104) rfl (by kernel_rfl) (by kernel_rfl) (by kernel_rfl) (by kernel_rfl) (fun _ _ _ h => h) hS ?hy104 (by rfl) ?rest104
                case hy104 =>
                  intro w0 h0
                  go_simp
                  try with_reducible rfl
                simp only [Act.put, List.getElem_toArray, List.getElem_cons_zero, List.getElem_cons_succ, List.setIfInBounds_toArray, List.set_cons_zero, List.set_cons_succ]
                refine AnyG.take 2 (v := ?vv105) rfl (by kernel_rfl) (by kernel_rfl) (by kernel_rfl) (by kernel_rfl) (fun _ _ _ h => h) hS ?hy105 (by rfl) ?rest105
                case hy105 =>
                  intro w0 h0
                  go_simp
                  try with_reducible rfl
                simp only [Act.put, List.getElem_toArray, List.getElem_cons_zero, List.getElem_cons_succ, List.setIfInBounds_toArray, List.set_cons_zero, List.set_cons_succ]
                refine AnyG.take 3 (v := ?vv106) rfl (by kernel_rfl) (by kernel_rfl) (by kernel_rfl) (by kernel_rfl) (fun _ _ _ h => h) hS ?hy106 (by rfl) ?rest106
                case hy106 =>
                  intro w0 h0
                  go_simp
                  try with_reducible rfl
                simp only [Act.put, List.getElem_toArray, List.getElem_cons_zero, List.getElem_cons_succ, List.setIfInBounds_toArray, List.set_cons_zero, List.set_cons_succ]
                refine AnyG.take 4 (v := ?vv107) rfl (by kernel_rfl) (by kernel_rfl) (by kernel_rfl) (by kernel_rfl) (fun _ _ _ h => h) hS ?hy107 (by rfl) ?rest107
                case hy107 =>
                  intro w0 h0
                  go_simp
                  try with_reducible rfl
                simp only [Act.put, List.getElem_toArray, List.getElem_cons_zero, List.getElem_cons_succ, List.setIfInBounds_toArray, List.set_cons_zero, List.set_cons_succ]
                refine AnyG.skip 5 rfl (by kernel_rfl) (by kernel_rfl) (by kernel_rfl) (by kernel_rfl) (fun _ _ _ h => h) hS (by rfl) ?_
                simp only [Act.put, List.getElem_toArray, List.getElem_cons_zero, List.getElem_cons_succ, List.setIfInBounds_toArray, List.set_cons_zero, List.set_cons_succ]
                refine AnyG.skip 6 rfl (by kernel_rfl) (by kernel_rfl) (by kernel_rfl) (by kernel_rfl) (fun _ _ _ h => h) hS (by rfl) ?_
                simp only [Act.put, List.getElem_toArray, List.getElem_cons_zero, List.getElem_cons_succ, List.setIfInBounds_toArray, List.set_cons_zero, List.set_cons_succ]
                refine AnyG.skip 7 rfl (by kernel_rfl) (by kernel_rfl) (by kernel_rfl) (by kernel_rfl) (fun _ _ _ h => h) hS (by rfl) ?_
                simp only [Act.put, List.getElem_toArray, List.getElem_cons_zero, List.getElem_cons_succ, List.setIfInBounds_toArray, List.set_cons_zero, List.set_cons_succ]
                refine AnyG.skip 8 rfl (by kernel_rfl) (by kernel_rfl) (by kernel_rfl) (by kernel_rfl) (fun _ _ _ h => h) hS (by rfl) ?_
                simp only [Act.put, List.getElem_toArray, List.getElem_cons_zero, List.getElem_cons_succ, List.setIfInBounds_toArray, List.set_cons_zero, List.set_cons_succ]
                refine AnyG.skip 9 rfl (by kernel_rfl) (by kernel_rfl) (by kernel_rfl) (by kernel_rfl) (fun _ _ _ h => h) hS (by rfl) ?_
                simp only [Act.put, List.getElem_toArray, List.getElem_cons_zero, List.getElem_cons_succ, List.setIfInBounds_toArray, List.set_cons_zero, List.set_cons_succ]
                refine AnyG.skip 10 rfl (by kernel_rfl) (by kernel_rfl) (by kernel_rfl) (by kernel_rfl) (fun _ _ _ h => h) hS (by rfl) ?_
                simp only [Act.put, List.getElem_toArray, List.getElem_cons_zero, List.getElem_cons_succ, List.setIfInBounds_toArray, List.set_cons_zero, List.set_cons_succ]
                refine AnyG.skip 11 rfl (by kernel_rfl) (by kernel_rfl) (by kernel_rfl) (by kernel_rfl) (fun _ _ _ h => h) hS (by rfl) ?_
                simp only [Act.put, List.getElem_toArray, List.getElem_cons_zero, List.getElem_cons_succ, List.setIfInBounds_toArray, List.set_cons_zero, List.set_cons_succ]
                refine AnyG.skip 12 rfl (by kernel_rfl) (by kernel_rfl) (by kernel_rfl) (by kernel_rfl) (fun _ _ _ h => h) hS (by rfl) ?_
                simp only [Act.put, List.getElem_toArray, List.getElem_cons_zero, List.getElem_cons_succ, List.setIfInBounds_toArray, List.set_cons_zero, List.set_cons_succ]
                refine AnyG.skip 13 rfl (by kernel_rfl) (by kernel_rfl) (by kernel_rfl) (by kernel_rfl) (fun _ _ _ h => h) hS (by rfl) ?_
                simp only [Act.put, List.getElem_toArray, List.getElem_cons_zero, List.getElem_cons_succ, List.setIfInBounds_toArray, List.set_cons_zero, List.set_cons_succ]
                refine AnyG.take 14 (v := ?vv108) rfl (by kernel_rfl) (by kernel_rfl) (by kernel_rfl) (by kernel_rfl) (fun _ _ _ h => h) hS ?hy108 (by rfl) ?rest108
                case hy108 =>
                  intro w0 h0
                  go_simp
                  try with_reducible rfl
                simp only [Act.put, List.getElem_toArray, List.getElem_cons_zero, List.getElem_cons_succ, List.setIfInBounds_toArray, List.set_cons_zero, List.set_cons_succ]
                refine AnyG.done (by kernel_rfl) ?_ _
                go_wp2
                exact ⟨⟨i + 1, by omega, by go_num, by rw [HUP.out], HBD2⟩, by simp only [intOf]; omega⟩
      · have hiz : (0 : Int) < (i : Int) := by omega
        obtain ⟨h, hh⟩ : ∃ h, Hid (i = h + 1) := ⟨i - 1, by show _ = _; omega⟩
        have hih : (i : Int) - 1 = (h : Int) := by have := hh.out; omega
        have hhl : (h : Int) < (L.length : Int) := by have := hh.out; omega
        obtain ⟨x0, hx0⟩ : ∃ x0, L[h]? = some x0 := ⟨_, List.getElem?_eq_getElem (by omega)⟩
        have hrise := HRISE.out h x0 x hx0 (by rw [← hh.out]; exact HX0.out)
        have C2 : Hid (w2.cell? ⟨b, off + h, none⟩ = some (.int .i64 (x0 : Nat))) := by
          have := hcl h (by rw [length_toI]; omega)
          rw [gi_toI, show gt L h = x0 by unfold gt; rw [List.getD_eq_getElem?_getD, hx0]; rfl] at this
          exact this
        have c2 := (HB.out.cell (p := ⟨b, off + h, none⟩) hbl).trans C2.out
        have hrz : ¬ (x : Int) ≤ (x0 : Int) := by omega
        have d3 : decide ((0 : Int) < (i : Int)) = true := decide_eq_true hiz
        have d3n : decide (0 < i) = true := decide_eq_true (by omega)
        have w2q : IntKind.i64.wrap ((i : Int) - 1) = (h : Int) := by rw [hih]; simp [IntKind.wrap, IntKind.bits, IntKind.signed]; omega
        have w2r : IntKind.i64.wrap (h : Int) = (h : Int) := by simp [IntKind.wrap, IntKind.bits, IntKind.signed]; omega
        have d4 : decide ((x : Int) ≤ (x0 : Int)) = false := decide_eq_false hrz
        clear h0 hx0
        go_wp2
        refine region_g [] (fun w' => w'.cell? ⟨b, off + i, none⟩ = some (.int .i64 (x : Nat)) ∧ w'.cell? ⟨b, off + h, none⟩ = some (.int .i64 (x0 : Nat)) ∧ Below w.heap.size w w') (by kernel_rfl) ?_
        have hS : (fun w' => w'.cell? ⟨b, off + i, none⟩ = some (.int .i64 (x : Nat)) ∧ w'.cell? ⟨b, off + h, none⟩ = some (.int .i64 (x0 : Nat)) ∧ Below w.heap.size w w') wr.drew := ⟨c1, c2, HBB.out.drew⟩
        have HBD : Hid (Below w2.heap.size w2 wr.drew) := HB.out.drew
        clear c1 c2
        generalize wr.drew = V at *
        refine AnyG.take 0 (v := ?vv24) rfl (by kernel_rfl) (by kernel_rfl) (by kernel_rfl) (by kernel_rfl) (fun _ _ _ h => h) hS ?hy24 (by rfl) ?rest24
        case hy24 =>
          intro w0 h0
          go_simp
          try with_reducible rfl
        simp only [Act.put, List.getElem_toArray, List.getElem_cons_zero, List.getElem_cons_succ, List.setIfInBounds_toArray, List.set_cons_zero, List.set_cons_succ]
        refine AnyG.take 1 (v := ?vv25) rfl (by kernel_rfl) (by kernel_rfl) (by kernel_rfl) (by kernel_rfl) (fun _ _ _ h => h) hS ?hy25 (by rfl) ?rest25
        case hy25 =>
          intro w0 h0
          go_simp
          try with_reducible rfl
        simp only [Act.put, List.getElem_toArray, List.getElem_cons_zero, List.getElem_cons_succ, List.setIfInBounds_toArray, List.set_cons_zero, List.set_cons_succ]
        refine AnyG.take 2 (v := ?vv26) rfl (by kernel_rfl) (by kernel_rfl) (by kernel_rfl) (by kernel_rfl) (fun _ _ _ h => h) hS ?hy26 (by rfl) ?rest26
        case hy26 =>
          intro w0 h0
          go_simp
          try with_reducible rfl
        simp only [Act.put, List.getElem_toArray, List.getElem_cons_zero, List.getElem_cons_succ, List.setIfInBounds_toArray, List.set_cons_zero, List.set_cons_succ]
        refine AnyG.take 3 (v := ?vv27) rfl (by kernel_rfl) (by kernel_rfl) (by kernel_rfl) (by kernel_rfl) (fun _ _ _ h => h) hS ?hy27 (by rfl) ?rest27
        case hy27 =>
          intro w0 h0
          have c0 := h0.1
          go_simp
          try with_reducible rfl
        simp only [Act.put, List.getElem_toArray, List.getElem_cons_zero, List.getElem_cons_succ, List.setIfInBounds_toArray, List.set_cons_zero, List.set_cons_succ]
        refine AnyG.take 4 (v := ?vv28) rfl (by kernel_rfl) (by kernel_rfl) (by kernel_rfl) (by kernel_rfl) (fun _ _ _ h => h) hS ?hy28 (by rfl) ?rest28
        case hy28 =>
          intro w0 h0
          go_simp
          try with_reducible rfl
        simp only [Act.put, List.getElem_toArray, List.getElem_cons_zero, List.getElem_cons_succ, List.setIfInBounds_toArray, List.set_cons_zero, List.set_cons_succ]
        refine AnyG.take 5 (v := ?vv29) rfl (by kernel_rfl) (by kernel_rfl) (by kernel_rfl) (by kernel_rfl) (fun _ _ _ h => h) hS ?hy29 (by rfl) ?rest29
        case hy29 =>
          intro w0 h0
          go_simp
          try with_reducible rfl
        simp only [Act.put, List.getElem_toArray, List.getElem_cons_zero, List.getElem_cons_succ, List.setIfInBounds_toArray, List.set_cons_zero, List.set_cons_succ]
        refine AnyG.take 6 (v := ?vv30) rfl (by kernel_rfl) (by kernel_rfl) (by kernel_rfl) (by kernel_rfl) (fun _ _ _ h => h) hS ?hy30 (by rfl) ?rest30
        case hy30 =>
          intro w0 h0
          go_simp
          try with_reducible rfl
        simp only [Act.put, List.getElem_toArray, List.getElem_cons_zero, List.getElem_cons_succ, List.setIfInBounds_toArray, List.set_cons_zero, List.set_cons_succ]
        refine AnyG.take 7 (v := ?vv31) rfl (by kernel_rfl) (by kernel_rfl) (by kernel_rfl) (by kernel_rfl) (fun _ _ _ h => h) hS ?hy31 (by rfl) ?rest31
        case hy31 =>
          intro w0 h0
          go_simp
          try with_reducible rfl
        simp only [Act.put, List.getElem_toArray, List.getElem_cons_zero, List.getElem_cons_succ, List.setIfInBounds_toArray, List.set_cons_zero, List.set_cons_succ]
        refine AnyG.take 8 (v := ?vv32) rfl (by kernel_rfl) (by kernel_rfl) (by kernel_rfl) (by kernel_rfl) (fun _ _ _ h => h) hS ?hy32 (by rfl) ?rest32
        case hy32 =>
          intro w0 h0
          go_simp
          try with_reducible rfl
        simp only [Act.put, List.getElem_toArray, List.getElem_cons_zero, List.getElem_cons_succ, List.setIfInBounds_toArray, List.set_cons_zero, List.set_cons_succ]
        refine AnyG.take 9 (v := ?vv33) rfl (by kernel_rfl) (by kernel_rfl) (by kernel_rfl) (by kernel_rfl) (fun _ _ _ h => h) hS ?hy33 (by rfl) ?rest33
        case hy33 =>
          intro w0 h0
          have c0 := h0.1
          go_simp
          try with_reducible rfl
        simp only [Act.put, List.getElem_toArray, List.getElem_cons_zero, List.getElem_cons_succ, List.setIfInBounds_toArray, List.set_cons_zero, List.set_cons_succ]
        refine AnyG.take 10 (v := ?vv34) rfl (by kernel_rfl) (by kernel_rfl) (by kernel_rfl) (by kernel_rfl) (fun _ _ _ h => h) hS ?hy34 (by rfl) ?rest34
        case hy34 =>
          intro w0 h0
          go_simp
          try with_reducible rfl
        simp only [Act.put, List.getElem_toArray, List.getElem_cons_zero, List.getElem_cons_succ, List.setIfInBounds_toArray, List.set_cons_zero, List.set_cons_succ]
        refine AnyG.take 11 (v := ?vv35) rfl (by kernel_rfl) (by kernel_rfl) (by kernel_rfl) (by kernel_rfl) (fun _ _ _ h => h) hS ?hy35 (by rfl) ?rest35
        case hy35 =>
          intro w0 h0
          go_simp
          try with_reducible rfl
        simp only [Act.put, List.getElem_toArray, List.getElem_cons_zero, List.getElem_cons_succ, List.setIfInBounds_toArray, List.set_cons_zero, List.set_cons_succ]
        refine AnyG.take 12 (v := ?vv36) rfl (by kernel_rfl) (by kernel_rfl) (by kernel_rfl) (by kernel_rfl) (fun _ _ _ h => h) hS ?hy36 (by rfl) ?rest36
        case hy36 =>
          intro w0 h0
          go_simp
          try with_reducible rfl
        simp only [Act.put, List.getElem_toArray, List.getElem_cons_zero, List.getElem_cons_succ, List.setIfInBounds_toArray, List.set_cons_zero, List.set_cons_succ]
        refine AnyG.take 13 (v := ?vv37) rfl (by kernel_rfl) (by kernel_rfl) (by kernel_rfl) (by kernel_rfl) (fun _ _ _ h => h) hS ?hy37 (by rfl) ?rest37
        case hy37 =>
          intro w0 h0
          go_simp
          try with_reducible rfl
        simp only [Act.put, List.getElem_toArray, List.getElem_cons_zero, List.getElem_cons_succ, List.setIfInBounds_toArray, List.set_cons_zero, List.set_cons_succ]
        refine AnyG.take 14 (v := ?vv38) rfl (by kernel_rfl) (by kernel_rfl) (by kernel_rfl) (by kernel_rfl) (fun _ _ _ h => h) hS ?hy38 (by rfl) ?rest38
        case hy38 =>
          intro w0 h0
          go_simp
          try with_reducible rfl
        simp only [Act.put, List.getElem_toArray, List.getElem_cons_zero, List.getElem_cons_succ, List.setIfInBounds_toArray, List.set_cons_zero, List.set_cons_succ]
        refine AnyG.take 15 (v := ?vv39) rfl (by kernel_rfl) (by kernel_rfl) (by kernel_rfl) (by kernel_rfl) (fun _ _ _ h => h) hS ?hy39 (by rfl) ?rest39
        case hy39 =>
          intro w0 h0
          go_simp
          try with_reducible rfl
        simp only [Act.put, List.getElem_toArray, List.getElem_cons_zero, List.getElem_cons_succ, List.setIfInBounds_toArray, List.set_cons_zero, List.set_cons_succ]
        refine AnyG.take 16 (v := ?vv40) rfl (by kernel_rfl) (by kernel_rfl) (by kernel_rfl) (by kernel_rfl) (fun _ _ _ h => h) hS ?hy40 (by rfl) ?rest40
        case hy40 =>
          intro w0 h0
          go_simp
          try with_reducible rfl
        simp only [Act.put, List.getElem_toArray, List.getElem_cons_zero, List.getElem_cons_succ, List.setIfInBounds_toArray, List.set_cons_zero, List.set_cons_succ]
        refine AnyG.take 17 (v := ?vv41) rfl (by kernel_rfl) (by kernel_rfl) (by kernel_rfl) (by kernel_rfl) (fun _ _ _ h => h) hS ?hy41 (by rfl) ?rest41
        case hy41 =>
          intro w0 h0
          go_simp
          try with_reducible rfl
        simp only [Act.put, List.getElem_toArray, List.getElem_cons_zero, List.getElem_cons_succ, List.setIfInBounds_toArray, List.set_cons_zero, List.set_cons_succ]
        refine AnyG.take 18 (v := ?vv42) rfl (by kernel_rfl) (by kernel_rfl) (by kernel_rfl) (by kernel_rfl) (fun _ _ _ h => h) hS ?hy42 (by rfl) ?rest42
        case hy42 =>
          intro w0 h0
          go_simp
          try with_reducible rfl
        simp only [Act.put, List.getElem_toArray, List.getElem_cons_zero, List.getElem_cons_succ, List.setIfInBounds_toArray, List.set_cons_zero, List.set_cons_succ]
        refine AnyG.take 19 (v := ?vv43) rfl (by kernel_rfl) (by kernel_rfl) (by kernel_rfl) (by kernel_rfl) (fun _ _ _ h => h) hS ?hy43 (by rfl) ?rest43
        case hy43 =>
          intro w0 h0
          go_simp
          try with_reducible rfl
        simp only [Act.put, List.getElem_toArray, List.getElem_cons_zero, List.getElem_cons_succ, List.setIfInBounds_toArray, List.set_cons_zero, List.set_cons_succ]
        refine AnyG.take 20 (v := ?vv44) rfl (by kernel_rfl) (by kernel_rfl) (by kernel_rfl) (by kernel_rfl) (fun _ _ _ h => h) hS ?hy44 (by rfl) ?rest44
        case hy44 =>
          intro w0 h0
          go_simp
          try with_reducible rfl
        simp only [Act.put, List.getElem_toArray, List.getElem_cons_zero, List.getElem_cons_succ, List.setIfInBounds_toArray, List.set_cons_zero, List.set_cons_succ]
        refine AnyG.take 21 (v := ?vv45) rfl (by kernel_rfl) (by kernel_rfl) (by kernel_rfl) (by kernel_rfl) (fun _ _ _ h => h) hS ?hy45 (by rfl) ?rest45
        case hy45 =>
          intro w0 h0
          go_simp
          try with_reducible rfl
        simp only [Act.put, List.getElem_toArray, List.getElem_cons_zero, List.getElem_cons_succ, List.setIfInBounds_toArray, List.set_cons_zero, List.set_cons_succ]
        refine AnyG.take 22 (v := ?vv46) rfl (by kernel_rfl) (by kernel_rfl) (by kernel_rfl) (by kernel_rfl) (fun _ _ _ h => h) hS ?hy46 (by rfl) ?rest46
        case hy46 =>
          intro w0 h0
          go_simp
          try with_reducible rfl
        simp only [Act.put, List.getElem_toArray, List.getElem_cons_zero, List.getElem_cons_succ, List.setIfInBounds_toArray, List.set_cons_zero, List.set_cons_succ]
        refine AnyG.take 23 (v := ?vv47) rfl (by kernel_rfl) (by kernel_rfl) (by kernel_rfl) (by kernel_rfl) (fun _ _ _ h => h) hS ?hy47 (by rfl) ?rest47
        case hy47 =>
          intro w0 h0
          go_simp
          try with_reducible rfl
        simp only [Act.put, List.getElem_toArray, List.getElem_cons_zero, List.getElem_cons_succ, List.setIfInBounds_toArray, List.set_cons_zero, List.set_cons_succ]
        refine AnyG.take 24 (v := ?vv48) rfl (by kernel_rfl) (by kernel_rfl) (by kernel_rfl) (by kernel_rfl) (fun _ _ _ h => h) hS ?hy48 (by rfl) ?rest48
        case hy48 =>
          intro w0 h0
          have c0 := h0.1
          go_simp
          try with_reducible rfl
        simp only [Act.put, List.getElem_toArray, List.getElem_cons_zero, List.getElem_cons_succ, List.setIfInBounds_toArray, List.set_cons_zero, List.set_cons_succ]
        refine AnyG.take 25 (v := ?vv49) rfl (by kernel_rfl) (by kernel_rfl) (by kernel_rfl) (by kernel_rfl) (fun _ _ _ h => h) hS ?hy49 (by rfl) ?rest49
        case hy49 =>
          intro w0 h0
          go_simp
          try with_reducible rfl
        simp only [Act.put, List.getElem_toArray, List.getElem_cons_zero, List.getElem_cons_succ, List.setIfInBounds_toArray, List.set_cons_zero, List.set_cons_succ]
        refine AnyG.take 26 (v := ?vv50) rfl (by kernel_rfl) (by kernel_rfl) (by kernel_rfl) (by kernel_rfl) (fun _ _ _ h => h) hS ?hy50 (by rfl) ?rest50
        case hy50 =>
          intro w0 h0
          go_simp
          try with_reducible rfl
        simp only [Act.put, List.getElem_toArray, List.getElem_cons_zero, List.getElem_cons_succ, List.setIfInBounds_toArray, List.set_cons_zero, List.set_cons_succ]
        refine AnyG.take 27 (v := ?vv51) rfl (by kernel_rfl) (by kernel_rfl) (by kernel_rfl) (by kernel_rfl) (fun _ _ _ h => h) hS ?hy51 (by rfl) ?rest51
        case hy51 =>
          intro w0 h0
          go_simp
          try with_reducible rfl
        simp only [Act.put, List.getElem_toArray, List.getElem_cons_zero, List.getElem_cons_succ, List.setIfInBounds_toArray, List.set_cons_zero, List.set_cons_succ]
        refine AnyG.take 28 (v := ?vv52) rfl (by kernel_rfl) (by kernel_rfl) (by kernel_rfl) (by kernel_rfl) (fun _ _ _ h => h) hS ?hy52 (by rfl) ?rest52
        case hy52 =>
          intro w0 h0
          go_simp
          try with_reducible rfl
        simp only [Act.put, List.getElem_toArray, List.getElem_cons_zero, List.getElem_cons_succ, List.setIfInBounds_toArray, List.set_cons_zero, List.set_cons_succ]
        refine AnyG.take 29 (v := ?vv53) rfl (by kernel_rfl) (by kernel_rfl) (by kernel_rfl) (by kernel_rfl) (fun _ _ _ h => h) hS ?hy53 (by rfl) ?rest53
        case hy53 =>
          intro w0 h0
          have c0 := h0.2.1
          go_simp
          try with_reducible rfl
        simp only [Act.put, List.getElem_toArray, List.getElem_cons_zero, List.getElem_cons_succ, List.setIfInBounds_toArray, List.set_cons_zero, List.set_cons_succ]
        refine AnyG.take 30 (v := ?vv54) rfl (by kernel_rfl) (by kernel_rfl) (by kernel_rfl) (by kernel_rfl) (fun _ _ _ h => h) hS ?hy54 (by rfl) ?rest54
        case hy54 =>
          intro w0 h0
          go_simp
          try with_reducible rfl
        simp only [Act.put, List.getElem_toArray, List.getElem_cons_zero, List.getElem_cons_succ, List.setIfInBounds_toArray, List.set_cons_zero, List.set_cons_succ]
        refine AnyG.take 31 (v := ?vv55) rfl (by kernel_rfl) (by kernel_rfl) (by kernel_rfl) (by kernel_rfl) (fun _ _ _ h => h) hS ?hy55 (by rfl) ?rest55
        case hy55 =>
          intro w0 h0
          go_simp
          try with_reducible rfl
        simp only [Act.put, List.getElem_toArray, List.getElem_cons_zero, List.getElem_cons_succ, List.setIfInBounds_toArray, List.set_cons_zero, List.set_cons_succ]
        refine AnyG.take 32 (v := ?vv56) rfl (by kernel_rfl) (by kernel_rfl) (by kernel_rfl) (by kernel_rfl) (fun _ _ _ h => h) hS ?hy56 (by rfl) ?rest56
        case hy56 =>
          intro w0 h0
          go_simp
          try with_reducible rfl
        simp only [Act.put, List.getElem_toArray, List.getElem_cons_zero, List.getElem_cons_succ, List.setIfInBounds_toArray, List.set_cons_zero, List.set_cons_succ]
        refine AnyG.done (by kernel_rfl) ?_ _
        go_wp2
        obtain ⟨wa, rfl⟩ : ∃ wa, wa = V := ⟨_, rfl⟩
        go_wp2
        go_loopw [9] (fun vj wj => ∃ j : Nat, j ≤ p.length ∧ vj = .int .i64 (j : Nat) ∧ Hid (Below w2.heap.size w2 wj)) (fun vj _ => p.length - (intOf vj).toNat)
        case atStart => exact ⟨0, by omega, rfl, HBD⟩
        case round =>
          obtain ⟨wj, rfl⟩ : ∃ wj, wj = wr := ⟨_, rfl⟩
          obtain ⟨j, hj, rfl, HJ⟩ := hrel
          have HBJ := hide (B2.out.trans (HJ.out.mono B2.out.size))
          have c1 := (HJ.out.cell (p := ⟨b, off + i, none⟩) hbl).trans C1.out
          by_cases hjp : j < p.length
          · obtain ⟨bt, of1, rfl, hbt, hct⟩ := XT.out (by have := HX.out; omega)
            obtain ⟨bp, of2, rfl, hbp, hcp⟩ := XP.out (by omega)
            obtain ⟨xj, hxj⟩ : ∃ xj, Hid (x + j = xj) := ⟨_, rfl⟩
            have c2 := (HJ.out.cell (p := ⟨bt, of1 + xj, none⟩) hbt).trans (hct xj (by have := HX.out; have := hxj.out; omega))
            have c3 := (HJ.out.cell (p := ⟨bp, of2 + j, none⟩) hbp).trans (hcp j hjp)
            have hal := (Ph.alike_iff.1 HAL.out) j hjp
            rw [hxj.out] at hal
            have ha := gt_lt Ft xj
            have hpa := gt_lt Fp_ j
            obtain ⟨ta, hta⟩ : ∃ ta, Hid (gt t xj = ta) := ⟨_, rfl⟩
            obtain ⟨pa, hpa2⟩ : ∃ pa, Hid (gt p j = pa) := ⟨_, rfl⟩
            rw [hta.out] at c2 hal ha
            rw [hpa2.out] at c3 hal hpa
            have hjz : (j : Int) < (p.length : Int) := by omega
            have hxz : (x : Int) + (j : Int) < (t.length : Int) := by have := HX.out; omega
            have hne : ((ta : Int).tmod 4 != (pa : Int).tmod 4) = false := by
              rw [Int.tmod_eq_emod_of_nonneg (by omega), Int.tmod_eq_emod_of_nonneg (by omega), show (ta : Int) % 4 = (pa : Int) % 4 by omega]
              simp
            have w3q : IntKind.i64.wrap ((x : Int) + (j : Int)) = (xj : Int) := by have := HX.out; have := hxj.out; simp [IntKind.wrap, IntKind.bits, IntKind.signed]; omega
            have hxn : (xj : Int) < (t.length : Int) := by have := HX.out; have := hxj.out; omega
            have hxn2 : xj < t.length := by omega
            clear hct hcp hal hta hpa2
            go_wp2
            refine region_g [] (fun w' => w'.cell? ⟨b, off + i, none⟩ = some (.int .i64 (x : Nat)) ∧ w'.cell? ⟨bt, of1 + xj, none⟩ = some (.int .u8 (ta : Nat)) ∧ w'.cell? ⟨bp, of2 + j, none⟩ = some (.int .u8 (pa : Nat)) ∧ Below w.heap.size w w') (by kernel_rfl) ?_
            have hS : (fun w' => w'.cell? ⟨b, off + i, none⟩ = some (.int .i64 (x : Nat)) ∧ w'.cell? ⟨bt, of1 + xj, none⟩ = some (.int .u8 (ta : Nat)) ∧ w'.cell? ⟨bp, of2 + j, none⟩ = some (.int .u8 (pa : Nat)) ∧ Below w.heap.size w w') wj.drew := ⟨c1, c2, c3, HBJ.out.drew⟩
            have HBD2 : Hid (Below w2.heap.size w2 wj.drew) := HJ.out.drew
            clear c1 c2 c3
            generalize wj.drew = V2 at *
            refine AnyG.take 0 (v := ?vv109) rfl (by kernel_rfl) (by kernel_rfl) (by kernel_rfl) (by kernel_rfl) (fun _ _ _ h => h) hS ?hy109 (by rfl) ?rest109
            case hy109 =>
              intro w0 h0
              go_simp
              try with_reducible rfl
            simp only [Act.put, List.getElem_toArray, List.getElem_cons_zero, List.getElem_cons_succ, List.setIfInBounds_toArray, List.set_cons_zero, List.set_cons_succ]
            refine AnyG.take 1 (v := ?vv110) rfl (by kernel_rfl) (by kernel_rfl) (by kernel_rfl) (by kernel_rfl) (fun _ _ _ h => h) hS ?hy110 (by rfl) ?rest110
            case hy110 =>
              intro w0 h0
              go_simp
              try with_reducible rfl
            simp only [Act.put, List.getElem_toArray, List.getElem_cons_zero, List.getElem_cons_succ, List.setIfInBounds_toArray, List.set_cons_zero, List.set_cons_succ]
            refine AnyG.take 2 (v := ?vv111) rfl (by kernel_rfl) (by kernel_rfl) (by kernel_rfl) (by kernel_rfl) (fun _ _ _ h => h) hS ?hy111 (by rfl) ?rest111
            case hy111 =>
              intro w0 h0
              go_simp
              try with_reducible rfl
            simp only [Act.put, List.getElem_toArray, List.getElem_cons_zero, List.getElem_cons_succ, List.setIfInBounds_toArray, List.set_cons_zero, List.set_cons_succ]
            refine AnyG.take 3 (v := ?vv112) rfl (by kernel_rfl) (by kernel_rfl) (by kernel_rfl) (by kernel_rfl) (fun _ _ _ h => h) hS ?hy112 (by rfl) ?rest112
            case hy112 =>
              intro w0 h0
              go_simp
              try with_reducible rfl
            simp only [Act.put, List.getElem_toArray, List.getElem_cons_zero, List.getElem_cons_succ, List.setIfInBounds_toArray, List.set_cons_zero, List.set_cons_succ]
            refine AnyG.take 4 (v := ?vv113) rfl (by kernel_rfl) (by kernel_rfl) (by kernel_rfl) (by kernel_rfl) (fun _ _ _ h => h) hS ?hy113 (by rfl) ?rest113
            case hy113 =>
              intro w0 h0
              have c0 := h0.1
              go_simp
              try with_reducible rfl
            simp only [Act.put, List.getElem_toArray, List.getElem_cons_zero, List.getElem_cons_succ, List.setIfInBounds_toArray, List.set_cons_zero, List.set_cons_succ]
            refine AnyG.take 5 (v := ?vv114) rfl (by kernel_rfl) (by kernel_rfl) (by kernel_rfl) (by kernel_rfl) (fun _ _ _ h => h) hS ?hy114 (by rfl) ?rest114
            case hy114 =>
              intro w0 h0
              go_simp
              try with_reducible rfl
            simp only [Act.put, List.getElem_toArray, List.getElem_cons_zero, List.getElem_cons_succ, List.setIfInBounds_toArray, List.set_cons_zero, List.set_cons_succ]
            refine AnyG.take 6 (v := ?vv115) rfl (by kernel_rfl) (by kernel_rfl) (by kernel_rfl) (by kernel_rfl) (fun _ _ _ h => h) hS ?hy115 (by rfl) ?rest115
            case hy115 =>
              intro w0 h0
              go_simp
              try with_reducible rfl
            simp only [Act.put, List.getElem_toArray, List.getElem_cons_zero, List.getElem_cons_succ, List.setIfInBounds_toArray, List.set_cons_zero, List.set_cons_succ]
            refine AnyG.take 7 (v := ?vv116) rfl (by kernel_rfl) (by kernel_rfl) (by kernel_rfl) (by kernel_rfl) (fun _ _ _ h => h) hS ?hy116 (by rfl) ?rest116
            case hy116 =>
              intro w0 h0
              go_simp
              try with_reducible rfl
            simp only [Act.put, List.getElem_toArray, List.getElem_cons_zero, List.getElem_cons_succ, List.setIfInBounds_toArray, List.set_cons_zero, List.set_cons_succ]
            refine AnyG.take 8 (v := ?vv117) rfl (by kernel_rfl) (by kernel_rfl) (by kernel_rfl) (by kernel_rfl) (fun _ _ _ h => h) hS ?hy117 (by rfl) ?rest117
            case hy117 =>
              intro w0 h0
              have c0 := h0.2.1
              go_simp
              try with_reducible rfl
            simp only [Act.put, List.getElem_toArray, List.getElem_cons_zero, List.getElem_cons_succ, List.setIfInBounds_toArray, List.set_cons_zero, List.set_cons_succ]
            refine AnyG.take 9 (v := ?vv118) rfl (by kernel_rfl) (by kernel_rfl) (by kernel_rfl) (by kernel_rfl) (fun _ _ _ h => h) hS ?hy118 (by rfl) ?rest118
            case hy118 =>
              intro w0 h0
              go_simp
              try with_reducible rfl
            simp only [Act.put, List.getElem_toArray, List.getElem_cons_zero, List.getElem_cons_succ, List.setIfInBounds_toArray, List.set_cons_zero, List.set_cons_succ]
            refine AnyG.take 10 (v := ?vv119) rfl (by kernel_rfl) (by kernel_rfl) (by kernel_rfl) (by kernel_rfl) (fun _ _ _ h => h) hS ?hy119 (by rfl) ?rest119
            case hy119 =>
              intro w0 h0
              go_simp
              try with_reducible rfl
            simp only [Act.put, List.getElem_toArray, List.getElem_cons_zero, List.getElem_cons_succ, List.setIfInBounds_toArray, List.set_cons_zero, List.set_cons_succ]
            refine AnyG.take 11 (v := ?vv120) rfl (by kernel_rfl) (by kernel_rfl) (by kernel_rfl) (by kernel_rfl) (fun _ _ _ h => h) hS ?hy120 (by rfl) ?rest120
            case hy120 =>
              intro w0 h0
              go_simp
              try with_reducible rfl
            simp only [Act.put, List.getElem_toArray, List.getElem_cons_zero, List.getElem_cons_succ, List.setIfInBounds_toArray, List.set_cons_zero, List.set_cons_succ]
            refine AnyG.take 12 (v := ?vv121) rfl (by kernel_rfl) (by kernel_rfl) (by kernel_rfl) (by kernel_rfl) (fun _ _ _ h => h) hS ?hy121 (by rfl) ?rest121
            case hy121 =>
              intro w0 h0
              go_simp
              try with_reducible rfl
            simp only [Act.put, List.getElem_toArray, List.getElem_cons_zero, List.getElem_cons_succ, List.setIfInBounds_toArray, List.set_cons_zero, List.set_cons_succ]
            refine AnyG.take 13 (v := ?vv122) rfl (by kernel_rfl) (by kernel_rfl) (by kernel_rfl) (by kernel_rfl) (fun _ _ _ h => h) hS ?hy122 (by rfl) ?rest122
            case hy122 =>
              intro w0 h0
              have c0 := h0.2.2.1
              go_simp
              try with_reducible rfl
            simp only [Act.put, List.getElem_toArray, List.getElem_cons_zero, List.getElem_cons_succ, List.setIfInBounds_toArray, List.set_cons_zero, List.set_cons_succ]
            refine AnyG.take 14 (v := ?vv123) rfl (by kernel_rfl) (by kernel_rfl) (by kernel_rfl) (by kernel_rfl) (fun _ _ _ h => h) hS ?hy123 (by rfl) ?rest123
            case hy123 =>
              intro w0 h0
              go_simp
              try with_reducible rfl
            simp only [Act.put, List.getElem_toArray, List.getElem_cons_zero, List.getElem_cons_succ, List.setIfInBounds_toArray, List.set_cons_zero, List.set_cons_succ]
            refine AnyG.take 15 (v := ?vv124) rfl (by kernel_rfl) (by kernel_rfl) (by kernel_rfl) (by kernel_rfl) (fun _ _ _ h => h) hS ?hy124 (by rfl) ?rest124
            case hy124 =>
              intro w0 h0
              go_simp
              try with_reducible rfl
            simp only [Act.put, List.getElem_toArray, List.getElem_cons_zero, List.getElem_cons_succ, List.setIfInBounds_toArray, List.set_cons_zero, List.set_cons_succ]
            refine AnyG.done (by kernel_rfl) ?_ _
            go_wp2
            exact ⟨⟨j + 1, by omega, by go_num, HBD2⟩, by simp only [intOf]; omega⟩
          · have hjz : ¬ (j : Int) < (p.length : Int) := by omega
            cases hst : Ph.stands t p x with
            | true =>
              have hhit := Ph.cnt_hit HX0.out hst
              have hup := Ph.cnt_up (st := Ph.stands t p) HX0.out
              rw [if_pos hst] at hup
              rw [← HOC.out] at hhit
              have hcl := (List.getElem?_eq_some_iff.1 hhit).1
              obtain ⟨bo, of3, rfl, hbo, hco⟩ := XO.out (by rw [length_toI]; omega)
              have c4 := (HJ.out.cell (p := ⟨bo, of3 + Ph.cnt L (Ph.stands t p) i, none⟩) hbo).trans (hco _ (by rw [length_toI]; exact hcl))
              rw [gi_toI, show gt O (Ph.cnt L (Ph.stands t p) i) = x by unfold gt; rw [List.getD_eq_getElem?_getD, hhit]; rfl] at c4
              have HUP : Hid (Ph.cnt L (Ph.stands t p) (i + 1) = Ph.cnt L (Ph.stands t p) i + 1) := hup
              have hclz : ((Ph.cnt L (Ph.stands t p) i : Nat) : Int) < (O.length : Int) := by omega
              have d5 : decide (((Ph.cnt L (Ph.stands t p) i : Nat) : Int) < (O.length : Int)) = true := decide_eq_true hclz
              clear hhit hup hco hst
              generalize Ph.cnt L (Ph.stands t p) i = cc at *
              obtain ⟨y, hy⟩ : ∃ y, y = x := ⟨_, rfl⟩
              rw [← hy] at c4
              have hyx : ((y : Int) == (x : Int)) = true := by rw [hy]; simp
              clear hy
              go_wp2
              refine region_g [] (fun w' => w'.cell? ⟨b, off + i, none⟩ = some (.int .i64 (x : Nat)) ∧ w'.cell? ⟨bo, of3 + cc, none⟩ = some (.int .i64 (y : Nat)) ∧ Below w.heap.size w w') (by kernel_rfl) ?_
              have hS : (fun w' => w'.cell? ⟨b, off + i, none⟩ = some (.int .i64 (x : Nat)) ∧ w'.cell? ⟨bo, of3 + cc, none⟩ = some (.int .i64 (y : Nat)) ∧ Below w.heap.size w w') wj.drew := ⟨c1, c4, HBJ.out.drew⟩
              have HBD2 : Hid (Below w2.heap.size w2 wj.drew) := HJ.out.drew
              clear c1 c4
              generalize wj.drew = V2 at *
              refine AnyG.take 0 (v := ?vv125) rfl (by kernel_rfl) (by kernel_rfl) (by kernel_rfl) (by kernel_rfl) (fun _ _ _ h => h) hS ?hy125 (by rfl) ?rest125
              case hy125 =>
                intro w0 h0
                go_simp
                try with_reducible rfl
              simp only [Act.put, List.getElem_toArray, List.getElem_cons_zero, List.getElem_cons_succ, List.setIfInBounds_toArray, List.set_cons_zero, List.set_cons_succ]
              refine AnyG.take 1 (v := ?vv126) rfl (by kernel_rfl) (by kernel_rfl) (by kernel_rfl) (by kernel_rfl) (fun _ _ _ h => h) hS ?hy126 (by rfl) ?rest126
              case hy126 =>
                intro w0 h0
                go_simp
                try with_reducible rfl
              simp only [Act.put, List.getElem_toArray, List.getElem_cons_zero, List.getElem_cons_succ, List.setIfInBounds_toArray, List.set_cons_zero, List.set_cons_succ]
              refine AnyG.take 2 (v := ?vv127) rfl (by kernel_rfl) (by kernel_rfl) (by kernel_rfl) (by kernel_rfl) (fun _ _ _ h => h) hS ?hy127 (by rfl) ?rest127
              case hy127 =>
                intro w0 h0
                go_simp
                try with_reducible rfl
              simp only [Act.put, List.getElem_toArray, List.getElem_cons_zero, List.getElem_cons_succ, List.setIfInBounds_toArray, List.set_cons_zero, List.set_cons_succ]
              refine AnyG.take 3 (v := ?vv128) rfl (by kernel_rfl) (by kernel_rfl) (by kernel_rfl) (by kernel_rfl) (fun _ _ _ h => h) hS ?hy128 (by rfl) ?rest128
              case hy128 =>
                intro w0 h0
                go_simp
                try with_reducible rfl
              simp only [Act.put, List.getElem_toArray, List.getElem_cons_zero, List.getElem_cons_succ, List.setIfInBounds_toArray, List.set_cons_zero, List.set_cons_succ]
              refine AnyG.take 4 (v := ?vv129) rfl (by kernel_rfl) (by kernel_rfl) (by kernel_rfl) (by kernel_rfl) (fun _ _ _ h => h) hS ?hy129 (by rfl) ?rest129
              case hy129 =>
                intro w0 h0
                go_simp
                try with_reducible rfl
              simp only [Act.put, List.getElem_toArray, List.getElem_cons_zero, List.getElem_cons_succ, List.setIfInBounds_toArray, List.set_cons_zero, List.set_cons_succ]
              refine AnyG.take 5 (v := ?vv130) rfl (by kernel_rfl) (by kernel_rfl) (by kernel_rfl) (by kernel_rfl) (fun _ _ _ h => h) hS ?hy130 (by rfl) ?rest130
              case hy130 =>
                intro w0 h0
                go_simp
                try with_reducible rfl
              simp only [Act.put, List.getElem_toArray, List.getElem_cons_zero, List.getElem_cons_succ, List.setIfInBounds_toArray, List.set_cons_zero, List.set_cons_succ]
              refine AnyG.take 6 (v := ?vv131) rfl (by kernel_rfl) (by kernel_rfl) (by kernel_rfl) (by kernel_rfl) (fun _ _ _ h => h) hS ?hy131 (by rfl) ?rest131
              case hy131 =>
                intro w0 h0
                go_simp
                try with_reducible rfl
              simp only [Act.put, List.getElem_toArray, List.getElem_cons_zero, List.getElem_cons_succ, List.setIfInBounds_toArray, List.set_cons_zero, List.set_cons_succ]
              refine AnyG.take 7 (v := ?vv132) rfl (by kernel_rfl) (by kernel_rfl) (by kernel_rfl) (by kernel_rfl) (fun _ _ _ h => h) hS ?hy132 (by rfl) ?rest132
              case hy132 =>
                intro w0 h0
                go_simp
                try with_reducible rfl
              simp only [Act.put, List.getElem_toArray, List.getElem_cons_zero, List.getElem_cons_succ, List.setIfInBounds_toArray, List.set_cons_zero, List.set_cons_succ]
              refine AnyG.take 8 (v := ?vv133) rfl (by kernel_rfl) (by kernel_rfl) (by kernel_rfl) (by kernel_rfl) (fun _ _ _ h => h) hS ?hy133 (by rfl) ?rest133
              case hy133 =>
                intro w0 h0
                have c0 := h0.2.1
                go_simp
                try with_reducible rfl
              simp only [Act.put, List.getElem_toArray, List.getElem_cons_zero, List.getElem_cons_succ, List.setIfInBounds_toArray, List.set_cons_zero, List.set_cons_succ]
              refine AnyG.take 9 (v := ?vv134) rfl (by kernel_rfl) (by kernel_rfl) (by kernel_rfl) (by kernel_rfl) (fun _ _ _ h => h) hS ?hy134 (by rfl) ?rest134
              case hy134 =>
                intro w0 h0
                go_simp
                try with_reducible rfl
              simp only [Act.put, List.getElem_toArray, List.getElem_cons_zero, List.getElem_cons_succ, List.setIfInBounds_toArray, List.set_cons_zero, List.set_cons_succ]
              refine AnyG.take 10 (v := ?vv135) rfl (by kernel_rfl) (by kernel_rfl) (by kernel_rfl) (by kernel_rfl) (fun _ _ _ h => h) hS ?hy135 (by rfl) ?rest135
              case hy135 =>
                intro w0 h0
                go_simp
                try with_reducible rfl
              simp only [Act.put, List.getElem_toArray, List.getElem_cons_zero, List.getElem_cons_succ, List.setIfInBounds_toArray, List.set_cons_zero, List.set_cons_succ]
              refine AnyG.take 11 (v := ?vv136) rfl (by kernel_rfl) (by kernel_rfl) (by kernel_rfl) (by kernel_rfl) (fun _ _ _ h => h) hS ?hy136 (by rfl) ?rest136
              case hy136 =>
                intro w0 h0
                go_simp
                try with_reducible rfl
              simp only [Act.put, List.getElem_toArray, List.getElem_cons_zero, List.getElem_cons_succ, List.setIfInBounds_toArray, List.set_cons_zero, List.set_cons_succ]
              refine AnyG.take 12 (v := ?vv137) rfl (by kernel_rfl) (by kernel_rfl) (by kernel_rfl) (by kernel_rfl) (fun _ _ _ h => h) hS ?hy137 (by rfl) ?rest137
              case hy137 =>
                intro w0 h0
                have c0 := h0.1
                go_simp
                try with_reducible rfl
              simp only [Act.put, List.getElem_toArray, List.getElem_cons_zero, List.getElem_cons_succ, List.setIfInBounds_toArray, List.set_cons_zero, List.set_cons_succ]
              refine AnyG.take 13 (v := ?vv138) rfl (by kernel_rfl) (by kernel_rfl) (by kernel_rfl) (by kernel_rfl) (fun _ _ _ h => h) hS ?hy138 (by rfl) ?rest138
              case hy138 =>
                intro w0 h0
                go_simp
                try with_reducible rfl
              simp only [Act.put, List.getElem_toArray, List.getElem_cons_zero, List.getElem_cons_succ, List.setIfInBounds_toArray, List.set_cons_zero, List.set_cons_succ]
              refine AnyG.take 14 (v := ?vv139) rfl (by kernel_rfl) (by kernel_rfl) (by kernel_rfl) (by kernel_rfl) (fun _ _ _ h => h) hS ?hy139 (by rfl) ?rest139
              case hy139 =>
                intro w0 h0
                go_simp
                try with_reducible rfl
              simp only [Act.put, List.getElem_toArray, List.getElem_cons_zero, List.getElem_cons_succ, List.setIfInBounds_toArray, List.set_cons_zero, List.set_cons_succ]
              refine AnyG.done (by kernel_rfl) ?_ _
              go_wp2
              exact ⟨⟨i + 1, by omega, by go_num, by rw [HUP.out]; go_num, HBD2⟩, by simp only [intOf]; omega⟩
            | false =>
              have hup := Ph.cnt_up (st := Ph.stands t p) HX0.out
              rw [if_neg (by rw [hst]; decide)] at hup
              have hmiss := Ph.cnt_miss (Ph.fil_nodup t p _) (by rw [HL.out]; exact HX0.out) hst
              rw [HL.out, ← HOC.out] at hmiss
              have HUP : Hid (Ph.cnt L (Ph.stands t p) (i + 1) = Ph.cnt L (Ph.stands t p) i) := hup
              by_cases hcl : Ph.cnt L (Ph.stands t p) i < O.length
              · obtain ⟨bo, of3, rfl, hbo, hco⟩ := XO.out (by rw [length_toI]; omega)
                have c4 := (HJ.out.cell (p := ⟨bo, of3 + Ph.cnt L (Ph.stands t p) i, none⟩) hbo).trans (hco _ (by rw [length_toI]; exact hcl))
                rw [gi_toI] at c4
                have hyx : ((gt O (Ph.cnt L (Ph.stands t p) i) : Int) == (x : Int)) = false := by
                  simp only [beq_eq_false_iff_ne, ne_eq]
                  intro q
                  refine hmiss ?_
                  rw [gt_get O _ hcl]
                  congr 1
                  omega
                have hclz : ((Ph.cnt L (Ph.stands t p) i : Nat) : Int) < (O.length : Int) := by omega
                have d5 : decide (((Ph.cnt L (Ph.stands t p) i : Nat) : Int) < (O.length : Int)) = true := decide_eq_true hclz
                clear hup hco hst hmiss
                generalize gt O (Ph.cnt L (Ph.stands t p) i) = y at *
                generalize Ph.cnt L (Ph.stands t p) i = cc at *
                go_wp2
                refine region_g [] (fun w' => w'.cell? ⟨b, off + i, none⟩ = some (.int .i64 (x : Nat)) ∧ w'.cell? ⟨bo, of3 + cc, none⟩ = some (.int .i64 (y : Nat)) ∧ Below w.heap.size w w') (by kernel_rfl) ?_
                have hS : (fun w' => w'.cell? ⟨b, off + i, none⟩ = some (.int .i64 (x : Nat)) ∧ w'.cell? ⟨bo, of3 + cc, none⟩ = some (.int .i64 (y : Nat)) ∧ Below w.heap.size w w') wj.drew := ⟨c1, c4, HBJ.out.drew⟩
                have HBD2 : Hid (Below w2.heap.size w2 wj.drew) := HJ.out.drew
                clear c1 c4
                generalize wj.drew = V2 at *
                refine AnyG.take 0 (v := ?vv140) rfl (by kernel_rfl) (by kernel_rfl) (by kernel_rfl) (by kernel_rfl) (fun _ _ _ h => h) hS ?hy140 (by rfl) ?rest140
                case hy140 =>
                  intro w0 h0
                  go_simp
                  try with_reducible rfl
                simp only [Act.put, List.getElem_toArray, List.getElem_cons_zero, List.getElem_cons_succ, List.setIfInBounds_toArray, List.set_cons_zero, List.set_cons_succ]
                refine AnyG.take 1 (v := ?vv141) rfl (by kernel_rfl) (by kernel_rfl) (by kernel_rfl) (by kernel_rfl) (fun _ _ _ h => h) hS ?hy141 (by rfl) ?rest141
                case hy141 =>
                  intro w0 h0
                  go_simp
                  try with_reducible rfl
                simp only [Act.put, List.getElem_toArray, List.getElem_cons_zero, List.getElem_cons_succ, List.setIfInBounds_toArray, List.set_cons_zero, List.set_cons_succ]
                refine AnyG.take 2 (v := ?vv142) rfl (by kernel_rfl) (by kernel_rfl) (by kernel_rfl) (by kernel_rfl) (fun _ _ _ h => h) hS ?hy142 (by rfl) ?rest142
                case hy142 =>
                  intro w0 h0
                  go_simp
                  try with_reducible rfl
                simp only [Act.put, List.getElem_toArray, List.getElem_cons_zero, List.getElem_cons_succ, List.setIfInBounds_toArray, List.set_cons_zero, List.set_cons_succ]
                refine AnyG.take 3 (v := ?vv143) rfl (by kernel_rfl) (by kernel_rfl) (by kernel_rfl) (by kernel_rfl) (fun _ _ _ h => h) hS ?hy143 (by rfl) ?rest143
                case hy143 =>
                  intro w0 h0
                  go_simp
                  try with_reducible rfl
                simp only [Act.put, List.getElem_toArray, List.getElem_cons_zero, List.getElem_cons_succ, List.setIfInBounds_toArray, List.set_cons_zero, List.set_cons_succ]
                refine AnyG.take 4 (v := ?vv144) rfl (by kernel_rfl) (by kernel_rfl) (by kernel_rfl) (by kernel_rfl) (fun _ _ _ h => h) hS ?hy144 (by rfl) ?rest144
                case hy144 =>
                  intro w0 h0
                  go_simp
                  try with_reducible rfl
                simp only [Act.put, List.getElem_toArray, List.getElem_cons_zero, List.getElem_cons_succ, List.setIfInBounds_toArray, List.set_cons_zero, List.set_cons_succ]
                refine AnyG.take 5 (v := ?vv145) rfl (by kernel_rfl) (by kernel_rfl) (by kernel_rfl) (by kernel_rfl) (fun _ _ _ h => h) hS ?hy145 (by rfl) ?rest145
                case hy145 =>
                  intro w0 h0
                  go_simp
                  try with_reducible rfl
                simp only [Act.put, List.getElem_toArray, List.getElem_cons_zero, List.getElem_cons_succ, List.setIfInBounds_toArray, List.set_cons_zero, List.set_cons_succ]
                refine AnyG.take 6 (v := ?vv146) rfl (by kernel_rfl) (by kernel_rfl) (by kernel_rfl) (by kernel_rfl) (fun _ _ _ h => h) hS ?hy146 (by rfl) ?rest146
                case hy146 =>
                  intro w0 h0
                  go_simp
                  try with_reducible rfl
                simp only [Act.put, List.getElem_toArray, List.getElem_cons_zero, List.getElem_cons_succ, List.setIfInBounds_toArray, List.set_cons_zero, List.set_cons_succ]
                refine AnyG.take 7 (v := ?vv147) rfl (by kernel_rfl) (by kernel_rfl) (by kernel_rfl) (by kernel_rfl) (fun _ _ _ h => h) hS ?hy147 (by rfl) ?rest147
                case hy147 =>
                  intro w0 h0
                  go_simp
                  try with_reducible rfl
                simp only [Act.put, List.getElem_toArray, List.getElem_cons_zero, List.getElem_cons_succ, List.setIfInBounds_toArray, List.set_cons_zero, List.set_cons_succ]
                refine AnyG.take 8 (v := ?vv148) rfl (by kernel_rfl) (by kernel_rfl) (by kernel_rfl) (by kernel_rfl) (fun _ _ _ h => h) hS ?hy148 (by rfl) ?rest148
                case hy148 =>
                  intro w0 h0
                  have c0 := h0.2.1
                  go_simp
                  try with_reducible rfl
                simp only [Act.put, List.getElem_toArray, List.getElem_cons_zero, List.getElem_cons_succ, List.setIfInBounds_toArray, List.set_cons_zero, List.set_cons_succ]
                refine AnyG.take 9 (v := ?vv149) rfl (by kernel_rfl) (by kernel_rfl) (by kernel_rfl) (by kernel_rfl) (fun _ _ _ h => h) hS ?hy149 (by rfl) ?rest149
                case hy149 =>
                  intro w0 h0
                  go_simp
                  try with_reducible rfl
                simp only [Act.put, List.getElem_toArray, List.getElem_cons_zero, List.getElem_cons_succ, List.setIfInBounds_toArray, List.set_cons_zero, List.set_cons_succ]
                refine AnyG.take 10 (v := ?vv150) rfl (by kernel_rfl) (by kernel_rfl) (by kernel_rfl) (by kernel_rfl) (fun _ _ _ h => h) hS ?hy150 (by rfl) ?rest150
                case hy150 =>
                  intro w0 h0
                  go_simp
                  try with_reducible rfl
                simp only [Act.put, List.getElem_toArray, List.getElem_cons_zero, List.getElem_cons_succ, List.setIfInBounds_toArray, List.set_cons_zero, List.set_cons_succ]
                refine AnyG.take 11 (v := ?vv151) rfl (by kernel_rfl) (by kernel_rfl) (by kernel_rfl) (by kernel_rfl) (fun _ _ _ h => h) hS ?hy151 (by rfl) ?rest151
                case hy151 =>
                  intro w0 h0
                  go_simp
                  try with_reducible rfl
                simp only [Act.put, List.getElem_toArray, List.getElem_cons_zero, List.getElem_cons_succ, List.setIfInBounds_toArray, List.set_cons_zero, List.set_cons_succ]
                refine AnyG.take 12 (v := ?vv152) rfl (by kernel_rfl) (by kernel_rfl) (by kernel_rfl) (by kernel_rfl) (fun _ _ _ h => h) hS ?hy152 (by rfl) ?rest152
                case hy152 =>
                  intro w0 h0
                  have c0 := h0.1
                  go_simp
                  try with_reducible rfl
                simp only [Act.put, List.getElem_toArray, List.getElem_cons_zero, List.getElem_cons_succ, List.setIfInBounds_toArray, List.set_cons_zero, List.set_cons_succ]
                refine AnyG.take 13 (v := ?vv153) rfl (by kernel_rfl) (by kernel_rfl) (by kernel_rfl) (by kernel_rfl) (fun _ _ _ h => h) hS ?hy153 (by rfl) ?rest153
                case hy153 =>
                  intro w0 h0
                  go_simp
                  try with_reducible rfl
                simp only [Act.put, List.getElem_toArray, List.getElem_cons_zero, List.getElem_cons_succ, List.setIfInBounds_toArray, List.set_cons_zero, List.set_cons_succ]
                refine AnyG.take 14 (v := ?vv154) rfl (by kernel_rfl) (by kernel_rfl) (by kernel_rfl) (by kernel_rfl) (fun _ _ _ h => h) hS ?hy154 (by rfl) ?rest154
                case hy154 =>
                  intro w0 h0
                  go_simp
                  try with_reducible rfl
                simp only [Act.put, List.getElem_toArray, List.getElem_cons_zero, List.getElem_cons_succ, List.setIfInBounds_toArray, List.set_cons_zero, List.set_cons_succ]
                refine AnyG.done (by kernel_rfl) ?_ _
                go_wp2
                exact ⟨⟨i + 1, by omega, by go_num, by rw [HUP.out], HBD2⟩, by simp only [intOf]; omega⟩
              · have hclz : ¬ ((Ph.cnt L (Ph.stands t p) i : Nat) : Int) < (O.length : Int) := by omega
                have d5 : decide (((Ph.cnt L (Ph.stands t p) i : Nat) : Int) < (O.length : Int)) = false := decide_eq_false hclz
                clear hup hst hmiss c1
                generalize Ph.cnt L (Ph.stands t p) i = cc at *
                go_wp2
                refine region_g [] (fun w' => Below w.heap.size w w') (by kernel_rfl) ?_
                have hS : (fun w' => Below w.heap.size w w') wj.drew := HBJ.out.drew
                have HBD2 : Hid (Below w2.heap.size w2 wj.drew) := HJ.out.drew
                skip
                generalize wj.drew = V2 at *
                refine AnyG.take 0 (v := ?vv155) rfl (by kernel_rfl) (by kernel_rfl) (by kernel_rfl) (by kernel_rfl) (fun _ _ _ h => h) hS ?hy155 (by rfl) ?rest155
                case hy155 =>
                  intro w0 h0
                  go_simp
                  try with_reducible rfl
                simp only [Act.put, List.getElem_toArray, List.getElem_cons_zero, List.getElem_cons_succ, List.setIfInBounds_toArray, List.set_cons_zero, List.set_cons_succ]
                refine AnyG.take 1 (v := ?vv156) rfl (by kernel_rfl) (by kernel_rfl) (by kernel_rfl) (by kernel_rfl) (fun _ _ _ h => h) hS ?hy156 (by rfl) ?rest156
                case hy156 =>
                  intro w0 h0
                  go_simp
                  try with_reducible rfl
                simp only [Act.put, List.getElem_toArray, List.getElem_cons_zero, List.getElem_cons_succ, List.setIfInBounds_toArray, List.set_cons_zero, List.set_cons_succ]
                refine AnyG.take 2 (v := ?vv157) rfl (by kernel_rfl) (by kernel_rfl) (by kernel_rfl) (by kernel_rfl) (fun _ _ _ h => h) hS ?hy157 (by rfl) ?rest157
                case hy157 =>
                  intro w0 h0
                  go_simp
                  try with_reducible rfl
                simp only [Act.put, List.getElem_toArray, List.getElem_cons_zero, List.getElem_cons_succ, List.setIfInBounds_toArray, List.set_cons_zero, List.set_cons_succ]
                refine AnyG.take 3 (v := ?vv158) rfl (by kernel_rfl) (by kernel_rfl) (by kernel_rfl) (by kernel_rfl) (fun _ _ _ h => h) hS ?hy158 (by rfl) ?rest158
                case hy158 =>
                  intro w0 h0
                  go_simp
                  try with_reducible rfl
                simp only [Act.put, List.getElem_toArray, List.getElem_cons_zero, List.getElem_cons_succ, List.setIfInBounds_toArray, List.set_cons_zero, List.set_cons_succ]
                refine AnyG.take 4 (v := ?vv159) rfl (by kernel_rfl) (by kernel_rfl) (by kernel_rfl) (by kernel_rfl) (fun _ _ _ h => h) hS ?hy159 (by rfl) ?rest159
                case hy159 =>
                  intro w0 h0
                  go_simp
                  try with_reducible rfl
                simp only [Act.put, List.getElem_toArray, List.getElem_cons_zero, List.getElem_cons_succ, List.setIfInBounds_toArray, List.set_cons_zero, List.set_cons_succ]
                refine AnyG.skip 5 rfl (by kernel_rfl) (by kernel_rfl) (by kernel_rfl) (by kernel_rfl) (fun _ _ _ h => h) hS (by rfl) ?_
                simp only [Act.put, List.getElem_toArray, List.getElem_cons_zero, List.getElem_cons_succ, List.setIfInBounds_toArray, List.set_cons_zero, List.set_cons_succ]
                refine AnyG.skip 6 rfl (by kernel_rfl) (by kernel_rfl) (by kernel_rfl) (by kernel_rfl) (fun _ _ _ h => h) hS (by rfl) ?_
                simp only [Act.put, List.getElem_toArray, List.getElem_cons_zero, List.getElem_cons_succ, List.setIfInBounds_toArray, List.set_cons_zero, List.set_cons_succ]
                refine AnyG.skip 7 rfl (by kernel_rfl) (by kernel_rfl) (by kernel_rfl) (by kernel_rfl) (fun _ _ _ h => h) hS (by rfl) ?_
                simp only [Act.put, List.getElem_toArray, List.getElem_cons_zero, List.getElem_cons_succ, List.setIfInBounds_toArray, List.set_cons_zero, List.set_cons_succ]
                refine AnyG.skip 8 rfl (by kernel_rfl) (by kernel_rfl) (by kernel_rfl) (by kernel_rfl) (fun _ _ _ h => h) hS (by rfl) ?_
                simp only [Act.put, List.getElem_toArray, List.getElem_cons_zero, List.getElem_cons_succ, List.setIfInBounds_toArray, List.set_cons_zero, List.set_cons_succ]
                refine AnyG.skip 9 rfl (by kernel_rfl) (by kernel_rfl) (by kernel_rfl) (by kernel_rfl) (fun _ _ _ h => h) hS (by rfl) ?_
                simp only [Act.put, List.getElem_toArray, List.getElem_cons_zero, List.getElem_cons_succ, List.setIfInBounds_toArray, List.set_cons_zero, List.set_cons_succ]
                refine AnyG.skip 10 rfl (by kernel_rfl) (by kernel_rfl) (by kernel_rfl) (by kernel_rfl) (fun _ _ _ h => h) hS (by rfl) ?_
                simp only [Act.put, List.getElem_toArray, List.getElem_cons_zero, List.getElem_cons_succ, List.setIfInBounds_toArray, List.set_cons_zero, List.set_cons_succ]
                refine AnyG.skip 11 rfl (by kernel_rfl) (by kernel_rfl) (by kernel_rfl) (by kernel_rfl) (fun _ _ _ h => h) hS (by rfl) ?_
                simp only [Act.put, List.getElem_toArray, List.getElem_cons_zero, List.getElem_cons_succ, List.setIfInBounds_toArray, List.set_cons_zero, List.set_cons_succ]
                refine AnyG.skip 12 rfl (by kernel_rfl) (by kernel_rfl) (by kernel_rfl) (by kernel_rfl) (fun _ _ _ h => h) hS (by rfl) ?_
                simp only [Act.put, List.getElem_toArray, List.getElem_cons_zero, List.getElem_cons_succ, List.setIfInBounds_toArray, List.set_cons_zero, List.set_cons_succ]
                refine AnyG.skip 13 rfl (by kernel_rfl) (by kernel_rfl) (by kernel_rfl) (by kernel_rfl) (fun _ _ _ h => h) hS (by rfl) ?_
                simp only [Act.put, List.getElem_toArray, List.getElem_cons_zero, List.getElem_cons_succ, List.setIfInBounds_toArray, List.set_cons_zero, List.set_cons_succ]
                refine AnyG.take 14 (v := ?vv160) rfl (by kernel_rfl) (by kernel_rfl) (by kernel_rfl) (by kernel_rfl) (fun _ _ _ h => h) hS ?hy160 (by rfl) ?rest160
                case hy160 =>
                  intro w0 h0
                  go_simp
                  try with_reducible rfl
                simp only [Act.put, List.getElem_toArray, List.getElem_cons_zero, List.getElem_cons_succ, List.setIfInBounds_toArray, List.set_cons_zero, List.set_cons_succ]
                refine AnyG.done (by kernel_rfl) ?_ _
                go_wp2
                exact ⟨⟨i + 1, by omega, by go_num, by rw [HUP.out], HBD2⟩, by simp only [intOf]; omega⟩
    · have hltz : ¬ (i : Int) < (L.length : Int) := by omega
      have hend : Ph.cnt L (Ph.stands t p) i = O.length := by
        unfold Ph.cnt
        rw [List.take_of_length_le (by omega), HOC.out]
      rw [hend]
      have hend2 : (((O.length : Nat) : Int) == ((O.length : Nat) : Int)) = true := by simp
      go_wp2_with fail
      refine (HH.out _).mono ?_
      rintro e w3 ⟨rfl, hb⟩
      have B3 := hide (HBB.out.trans (hb.mono HBB.out.size))
      clear hb HBB
      go_wp2
      go_ret
      exact ⟨rfl, B3.out⟩

theorem lifted (os : Os) (started : os.Started) (H : Type) (enc : TypeId × Value → H) :
    ReturnsInHanded {} Try.checked os 5 .any (Rows.phaseFiltersSpec.pre6 enc Try.prog Try.f5 Rows.phaseFiltersRow.domain false) (Rows.phaseFiltersSpec.post enc Try.prog Try.f5 false true false false) := by
  refine returnsInHanded_of_change (C := Try.checked) own started (by kernel_rfl) Try.func5
    (ChangeSpec.witness6 (enc := enc) (C := Try.checked) false ⟨#[], #[.slice none 0 0, .slice none 0 0], []⟩ 8 (by kernel_rfl) (by kernel_rfl) (by kernel_rfl) (by kernel_rfl)) ?_
  intro W base args ds gs before hval0 hW hcnd _
  have hval : ∀ (j : Nat) t v, Try.f5.params[j]? = some t → args[j]? = some v → Value.okWide Try.prog W .any base t v := hval0
  have hW' := hW
  obtain ⟨p, q, hA0, hV, rfl, hfz, hnd⟩ := hW
  have hA : DataW.TrodAll enc Try.prog W 0 (fun _ => true) true Try.f5.params.toList args.toList ds p := hA0
  rw [Try.params5] at hA hval
  obtain ⟨v0, vs0, d0, ds0, p0, q0, hargs, rfl, rfl, h0, r0⟩ := trodAll_cons hA
  obtain ⟨v1, vs1, d1, ds1, p1, q1, rfl, rfl, rfl, h1, r1⟩ := trodAll_cons r0
  obtain ⟨rfl, rfl, rfl⟩ := trodAll_nil r1
  obtain rfl : args = #[v0, v1] := by cases args; simp_all
  obtain ⟨rfl, rfl⟩ := trodVars_none hV
  have k0 := h0
  have lt0 : ∀ x ∈ p0, x.block < W.heap.size := by obtain ⟨m, hm⟩ := k0; exact DataW.trod_lt m _ _ _ hm
  obtain ⟨ot, t, ct, rfl, b01, b02, b03⟩ := open_bytes (hval 0 22 v0 rfl rfl) h0
  have k1 := h1
  have lt1 : ∀ x ∈ p1, x.block < W.heap.size := by obtain ⟨m, hm⟩ := k1; exact DataW.trod_lt m _ _ _ hm
  obtain ⟨op, p, cp, rfl, b11, b12, b13⟩ := open_bytes (hval 1 22 v1 rfl rfl) h1
  clear hA0 hval0
  refine (walk W ot t ct b01 b02 b03 op p cp b11 b12 b13).mono fun e W' ⟨he, bel⟩ => ?_
  subst he
  exact ⟨_, rfl, _, _, _, [], _, [], hW', trodAll_mk1 (shut_bool Try.underlying4 _), (trodAll_cons_mk (Below.trod laidOut (by kernel_rfl) (of_decide_eq_true (by kernel_rfl)) k0 bel lt0) (trodAll_cons_mk (Below.trod laidOut (by kernel_rfl) (of_decide_eq_true (by kernel_rfl)) k1 bel lt1) trodAll_mk0)), rfl, bel.frame _, fun h => by cases h⟩

theorem over : Rows.phaseFiltersRow.holds Try.pinned (OpenSpec.ofChange Rows.phaseFiltersSpec) :=
  OpenClaim.holds_of_wide 5 Try.f5 rfl rfl rfl rfl rfl rfl rfl ⟨rfl, rfl, rfl, rfl, rfl⟩ rfl rfl rfl rfl rfl (by kernel_rfl) Try.func5 (by kernel_rfl)
    (of_decide_eq_true (by kernel_rfl)) (by unfold Func.isWrapper; first | (rw [if_pos (by decide +kernel)]; kernel_rfl) | (rw [if_neg (by decide +kernel)]; exact ⟨rfl, rfl⟩))
    (fun os started H enc _ => lifted os started H enc)

theorem proved : Rows.PhaseFiltersSaid := over
end Go.Proofs.Ytbpmbdgimolkcaa.phaseFilters
namespace Go.Proofs.Ytbpmbdgimolkcaa
theorem phaseFilters_holds : Rows.PhaseFiltersSaid := phaseFilters.proved
#print axioms phaseFilters_holds
end Go.Proofs.Ytbpmbdgimolkcaa
