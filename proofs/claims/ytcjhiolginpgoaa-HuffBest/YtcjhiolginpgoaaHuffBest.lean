/-
  For all counts and other lengths, whatever they are: no other lengths that may be cost less (P11.1). No condition.
-/
import Derived.Test.YtcjhiolginpgoaaM18
namespace Go.Proofs.Ytcjhiolginpgoaa.huffBest
open Go.ChangeShapes Go.WideShapes Go.ChangeAt Go.RowKit Num Bit Ji Hp Ka Hr
set_option linter.unusedVariables false
set_option linter.unusedSimpArgs false
set_option maxRecDepth 100000

theorem best_cost (c o : List Int) (h1 : win c 1048576 = true) (h2 : lok o = true) (h3 : ∀ i, i < 256 → ¬ (0 < gi c i ∧ gi o i = 0)) : costv c (lst (hlen (cntOf c) 256)) ≤ costv c o := by
  obtain ⟨k1, k2⟩ : win o 40 = true ∧ fitb (cntOf o) = true := by unfold lok at h2; simpa using h2
  obtain ⟨c256, cb⟩ := win_len h1
  obtain ⟨o256, ob⟩ := win_len k1
  have hv := lok_hlen c h1
  have e1 : win (lst (hlen (cntOf c) 256)) 40 = true := win_of (length_lst _) (fun i hi => by rw [length_lst] at hi; rw [gi_lst _ i hi]; have := hv.le i; omega)
  unfold costv
  rw [h1, k1, e1, cnt_lst hv.out]
  exact Hv.best_all (cntOf c) 256 (by omega) (cnt_le cb) (cntOf o) (fun i hi hp => by
    have := h3 i hi
    have := ob i (by omega)
    unfold cntOf at hp ⊢
    omega) (fun i _ => cnt_le40 ob i) (fit_need k2)

set_option maxHeartbeats 8000000 in
theorem walk (w : World) (ac : Option Addr) (c : List Int) (cc : Nat) (Xc : Nd w ac c) (Fc : FitI c) (ao : Option Addr) (o : List Int) (co : Nat) (Xo : Nd w ao o) (Fo : FitI o) :
    Calls Try.prog 7 #[.slice ac c.length cc, .slice ao o.length co] w fun e w' => e = .returned (.bool true) ∧ Below w.heap.size w w' := by
  by_cases s1 : (1000 : Int) < (c.length : Int)
  case pos =>
    go_enter Try.func7, Try.ntmps7
    go_wp2_with fail
    refine (jheads_c _).mono ?_
    rintro e w9 ⟨rfl, hb9⟩
    go_wp2
    go_ret
    exact ⟨rfl, hb9⟩
  by_cases s2 : (1000 : Int) < (o.length : Int)
  case pos =>
    go_enter Try.func7, Try.ntmps7
    go_wp2_with fail
    refine (jheads_c _).mono ?_
    rintro e w9 ⟨rfl, hb9⟩
    go_wp2
    go_ret
    exact ⟨rfl, hb9⟩
  have c1 : c.length ≤ 1048576 := by omega
  have o1 : o.length ≤ 1048576 := by omega
  -- what Codes of the other lengths answers
  have CO1 : Hid (∀ w0, Below w.heap.size w w0 → Calls Try.prog 10 #[.slice ao o.length co] w0 fun e w' => ∃ bo n cp, e = .returned (.tuple #[.slice bo n cp, .int .i64 (if lok o = true then 0 else 2 : Int)]) ∧ Below w0.heap.size w0 w') := fun w0 hb => by
    cases hk : lok o with
    | false =>
      refine (jcodes_bad ao o co w0 (Xo.keep hb) o1 hk).mono ?_
      rintro e w' ⟨rfl, h⟩
      exact ⟨none, 0, 0, rfl, h⟩
    | true =>
      refine (jcodes_c ao o co w0 (Xo.keep hb) o1 hk).mono ?_
      rintro e w' ⟨g, rfl, _, _, h⟩
      exact ⟨_, 256, 256, rfl, h⟩
  cases hw : win c 1048576 with
  | false =>
    have C1 := hide (jlen_bad ac c cc w Xc c1 hw)
    generalize hz : (if lok o = true then 0 else 2 : Int) = z at CO1
    clear hz hw
    go_enter Try.func7, Try.ntmps7
    go_wp2_with fail
    refine (C1.out).mono ?_
    rintro e w1 ⟨rfl, hb1⟩
    go_wp2_with fail
    refine (CO1.out _ hb1).mono ?_
    rintro e w2 ⟨bo, n, cp, rfl, hb2⟩
    have hb3 := hb1.trans (hb2.mono hb1.size)
    clear hb1 hb2
    go_wp2_with fail
    refine (jheads_c _).mono ?_
    rintro e w9 ⟨rfl, hb9⟩
    have hb4 := hb3.trans (hb9.mono hb3.size)
    go_wp2
    go_ret
    exact ⟨rfl, hb4⟩
  | true =>
    have C1 := hide (jlen_c ac c cc w Xc c1 hw)
    obtain ⟨c256, cb⟩ := win_len hw
    cases hk : lok o with
    | false =>
      rw [hk] at CO1
      have e2 : (if false = true then 0 else 2 : Int) = 2 := rfl
      rw [e2] at CO1
      clear hw hk e2 c256 cb
      go_enter Try.func7, Try.ntmps7
      go_wp2_with fail
      refine (C1.out).mono ?_
      rintro e w1 ⟨gl, rfl, cl1, hgl, hb1⟩
      go_wp2_with fail
      refine (CO1.out _ hb1).mono ?_
      rintro e w2 ⟨bo, n, cp, rfl, hb2⟩
      have hb3 := hb1.trans (hb2.mono hb1.size)
      clear hb1 hb2 cl1 hgl
      go_wp2_with fail
      refine (jheads_c _).mono ?_
      rintro e w9 ⟨rfl, hb9⟩
      have hb4 := hb3.trans (hb9.mono hb3.size)
      go_wp2
      go_ret
      exact ⟨rfl, hb4⟩
    | true =>
      have HBC := hide (best_cost c o hw hk)
      obtain ⟨o256, ob⟩ := win_len (show win o 40 = true by unfold lok at hk; simp at hk; exact hk.1)
      rw [hk] at CO1
      have e2 : (if true = true then 0 else 2 : Int) = 0 := rfl
      rw [e2] at CO1
      have HV := hide (lok_hlen c hw)
      obtain ⟨bC, oC, rfl, hbC, hcC⟩ := Xc (by omega)
      obtain ⟨bO, oO, rfl, hbO, hcO⟩ := Xo (by omega)
      have HCC := hide hcC
      have HCO := hide hcO
      have HN1 : Hid (Nd w (some ⟨bC, oC, none⟩) c) := fun _ => ⟨bC, oC, rfl, hbC, hcC⟩
      have HN2 : Hid (Nd w (some ⟨bO, oO, none⟩) o) := fun _ => ⟨bO, oO, rfl, hbO, hcO⟩
      have hco : ((o.length : Int) != (c.length : Int)) = false := by simp; omega
      have hle : c.length ≤ o.length := by omega
      have H256 := hide c256
      have c256' : c.length ≤ 256 := by omega
      clear hw hk e2 cb ob c256 o256 hcC hcO
      go_enter Try.func7, Try.ntmps7
      go_wp2_with fail
      refine (C1.out).mono ?_
      rintro e w1 ⟨gl, rfl, cl1, hgl, hb1⟩
      go_wp2_with fail
      refine (CO1.out _ hb1).mono ?_
      rintro e w2 ⟨bo, n, cp, rfl, hb2⟩
      have HL := hide (cl1.kept hb2)
      have HB := hide (hb1.trans (hb2.mono hb1.size))
      clear hb1 hb2 cl1 hgl C1 CO1
      go_wp2
      go_loopw [9] (fun vi wr => ∃ q : Nat, q ≤ c.length ∧ vi = .int .i64 q ∧ Hid (∀ i, i < q → ¬ (0 < gi c i ∧ gi o i = 0)) ∧ wr = w2) (fun vi _ => c.length - (intOf vi).toNat)
      case atStart => exact ⟨0, Nat.zero_le _, rfl, fun i hi => by omega, rfl⟩
      case round =>
        obtain ⟨q, hq, rfl, HI, hwr⟩ := hrel
        replace hwr := hwr.symm
        subst hwr
        by_cases hlt : q < c.length
        · have hltz : (q : Int) < (c.length : Int) := by omega
          have hlto : (q : Int) < (o.length : Int) := by omega
          have e1 := (HB.out.cell (p := ⟨bC, oC + q, none⟩) hbC).trans (HCC.out q hlt)
          have e2 := (HB.out.cell (p := ⟨bO, oO + q, none⟩) hbO).trans (HCO.out q (by omega))
          by_cases p1 : 0 < gi c q
          · by_cases p2 : gi o q = 0
            · have p2z : (gi o q == 0) = true := by simpa using p2
              generalize gi c q = x at *
              generalize gi o q = y at *
              go_wp2_with fail
              refine (jheads_c _).mono ?_
              rintro e w9 ⟨rfl, hb9⟩
              have hb4 := HB.out.trans (hb9.mono HB.out.size)
              go_wp2
              go_ret
              exact ⟨rfl, hb4⟩
            · have p2z : (gi o q == 0) = false := by simpa using p2
              have HI1 : Hid (∀ i, i < q + 1 → ¬ (0 < gi c i ∧ gi o i = 0)) := fun i hi => by
                by_cases e : i = q
                · subst e; exact fun h => p2 h.2
                · exact HI.out i (by omega)
              generalize gi c q = x at *
              generalize gi o q = y at *
              go_wp2
              exact ⟨⟨q + 1, by omega, by go_num, HI1, trivial⟩, by simp only [intOf]; omega⟩
          · have HI1 : Hid (∀ i, i < q + 1 → ¬ (0 < gi c i ∧ gi o i = 0)) := fun i hi => by
              by_cases e : i = q
              · subst e; exact fun h => p1 h.1
              · exact HI.out i (by omega)
            generalize gi c q = x at *
            generalize gi o q = y at *
            go_wp2
            exact ⟨⟨q + 1, by omega, by go_num, HI1, trivial⟩, by simp only [intOf]; omega⟩
        · obtain rfl : q = c.length := by omega
          have hcost := HBC.out (fun i hi => HI.out i (by have := H256.out; omega))
          have C2 : Hid (Calls Try.prog 15 #[.slice (some ⟨bC, oC, none⟩) c.length cc, .slice (some ⟨gl, 0, none⟩) 256 256] w2 fun e w' => e = .returned (.int .i64 (costv c (lst (hlen (cntOf c) 256)) : Nat)) ∧ Below w2.heap.size w2 w') := by
            have := jcost_c (some ⟨bC, oC, none⟩) c cc (some ⟨gl, 0, none⟩) (lst (hlen (cntOf c) 256)) 256 w2 (HN1.out.keep HB.out) (nd_hls HL.out) (by omega) (by rw [length_lst]; omega)
            rw [length_lst] at this
            exact this
          have C3 : Hid (∀ w0, Below w2.heap.size w2 w0 → Calls Try.prog 15 #[.slice (some ⟨bC, oC, none⟩) c.length cc, .slice (some ⟨bO, oO, none⟩) o.length co] w0 fun e w' => e = .returned (.int .i64 (costv c o : Nat)) ∧ Below w0.heap.size w0 w') := fun w0 hb => jcost_c _ c cc _ o co w0 (HN1.out.keep (HB.out.trans (hb.mono HB.out.size))) (HN2.out.keep (HB.out.trans (hb.mono HB.out.size))) (by omega) (by omega)
          have hcz : ((costv c (lst (hlen (cntOf c) 256)) : Nat) : Int) ≤ ((costv c o : Nat) : Int) := by omega
          clear hcost
          generalize costv c (lst (hlen (cntOf c) 256)) = X at *
          generalize costv c o = Y at *
          go_wp2_with fail
          refine (C2.out).mono ?_
          rintro e w3 ⟨rfl, hb3⟩
          go_wp2_with fail
          refine (C3.out _ hb3).mono ?_
          rintro e w4 ⟨rfl, hb4⟩
          have HB4 := hide ((HB.out.trans (hb3.mono HB.out.size)).trans (hb4.mono (by have := HB.out.size; have := hb3.size; omega)))
          clear hb3 hb4
          go_wp2_with fail
          refine (jheads_c _).mono ?_
          rintro e w9 ⟨rfl, hb9⟩
          have hb5 := HB4.out.trans (hb9.mono HB4.out.size)
          go_wp2
          go_ret
          exact ⟨rfl, hb5⟩

theorem lifted (os : Os) (started : os.Started) (H : Type) (enc : TypeId × Value → H) :
    ReturnsInHanded {} Try.checked os 7 .any (Rows.huffBestSpec.pre6 enc Try.prog Try.f7 Rows.huffBestRow.domain false) (Rows.huffBestSpec.post enc Try.prog Try.f7 false true false false) := by
  refine returnsInHanded_of_change (C := Try.checked) own started (by kernel_rfl) Try.func7
    (ChangeSpec.witness6 (enc := enc) (C := Try.checked) false ⟨#[], #[.slice none 0 0, .slice none 0 0], []⟩ 8 (by kernel_rfl) (by kernel_rfl) (by kernel_rfl) (by kernel_rfl)) ?_
  intro W base args ds gs before hval0 hW hcnd _
  have hval : ∀ (j : Nat) t v, Try.f7.params[j]? = some t → args[j]? = some v → Value.okWide Try.prog W .any base t v := hval0
  have hW' := hW
  obtain ⟨p, q, hA0, hV, rfl, hfz, hnd⟩ := hW
  have hA : DataW.TrodAll enc Try.prog W 0 (fun _ => true) true Try.f7.params.toList args.toList ds p := hA0
  rw [Try.params7] at hA hval
  obtain ⟨v0, vs0, d0, ds0, p0, q0, hargs, rfl, rfl, h0, r0⟩ := trodAll_cons hA
  obtain ⟨v1, vs1, d1, ds1, p1, q1, rfl, rfl, rfl, h1, r1⟩ := trodAll_cons r0
  obtain ⟨rfl, rfl, rfl⟩ := trodAll_nil r1
  obtain rfl : args = #[v0, v1] := by cases args; simp_all
  obtain ⟨rfl, rfl⟩ := trodVars_none hV
  have k0 := h0
  have lt0 : ∀ x ∈ p0, x.block < W.heap.size := by obtain ⟨m, hm⟩ := k0; exact DataW.trod_lt m _ _ _ hm
  obtain ⟨ac, c, cc, rfl, bc1, bc2, bc3⟩ := open_isl (hval 0 22 v0 rfl rfl) h0
  have k1 := h1
  have lt1 : ∀ x ∈ p1, x.block < W.heap.size := by obtain ⟨m, hm⟩ := k1; exact DataW.trod_lt m _ _ _ hm
  obtain ⟨ao, o, co, rfl, bo1, bo2, bo3⟩ := open_isl (hval 1 22 v1 rfl rfl) h1
  clear hA0 hval0
  refine (walk W ac c cc bc1 bc2 ao o co bo1 bo2).mono fun e W' ⟨he, bel⟩ => ?_
  subst he
  exact ⟨_, rfl, _, _, _, [], _, [], hW', trodAll_mk1 (shut_bool Try.underlying4 _), (trodAll_cons_mk (Below.trod laidOut (by kernel_rfl) (of_decide_eq_true (by kernel_rfl)) k0 bel lt0) (trodAll_cons_mk (Below.trod laidOut (by kernel_rfl) (of_decide_eq_true (by kernel_rfl)) k1 bel lt1) trodAll_mk0)), rfl, bel.frame _, fun h => by cases h⟩

theorem over : Rows.huffBestRow.holds Try.pinned (OpenSpec.ofChange Rows.huffBestSpec) :=
  OpenClaim.holds_of_wide 7 Try.f7 rfl rfl rfl rfl rfl rfl rfl ⟨rfl, rfl, rfl, rfl, rfl⟩ rfl rfl rfl rfl rfl (by kernel_rfl) Try.func7 (by kernel_rfl)
    (of_decide_eq_true (by kernel_rfl)) (by unfold Func.isWrapper; first | (rw [if_pos (by decide +kernel)]; kernel_rfl) | (rw [if_neg (by decide +kernel)]; exact ⟨rfl, rfl⟩))
    (fun os started H enc _ => lifted os started H enc)

theorem proved : Rows.HuffBestSaid := over
end Go.Proofs.Ytcjhiolginpgoaa.huffBest
namespace Go.Proofs.Ytcjhiolginpgoaa
theorem huffBest_holds : Rows.HuffBestSaid := huffBest.proved
#print axioms huffBest_holds
end Go.Proofs.Ytcjhiolginpgoaa
