/-
  The contract of the document's Entropy.
-/
import Derived.Test.YtbkagloonlddfaaSt1
namespace Go.Proofs.Ytbkagloonlddfaa
open Go.RowKit Num
set_option linter.unusedVariables false
set_option linter.unusedSimpArgs false
set_option maxRecDepth 100000

theorem en_no {l : List Int} (h : ¬ Lg.okE l) : Lg.enN l = 0 := by
  unfold Lg.enN
  rw [if_neg h]
theorem en_yes {l : List Int} (h : Lg.okE l) : Lg.enN l = Lg.enV (Lg.vl l) := by
  unfold Lg.enN
  rw [if_pos h]
theorem lgI_in {x : Nat} (h : 1 ≤ x) (h2 : x ≤ 1073741824) : lgI (x : Int) = Lg.lg x := by
  unfold lgI
  rw [if_pos (by omega), Int.toNat_natCast]
set_option maxHeartbeats 8000000 in
theorem rent_c (ao : Option Addr) (l : List Int) (cap : Nat) (w : World) (hx : Nd w ao l) :
    Calls Try.prog 16 #[.slice ao l.length cap] w fun e w' => e = .returned (.int .i64 (Lg.enN l : Nat)) ∧ Below w.heap.size w w' := by
  by_cases h : l.length = 256
  · obtain ⟨b, off, rfl, hb0, hcc⟩ := hx (by omega)
    have HC := hide hcc
    have HLN := hide h
    rw [h] at HC ⊢
    have NOK : Hid (∀ i, i < 256 → (gi l i < 0 ∨ 65536 < gi l i) → Lg.enN l = 0) := fun i hi hbad => en_no fun g => by have := g.2 i hi; omega
    clear hx hcc h
    go_enter Try.func16, Try.ntmps16
    go_wp2
    go_loopw [3, 4] (fun v3 v4 wr => ∃ q s : Nat, q ≤ 256 ∧ s ≤ q * 65536 ∧ v3 = .int .i64 s ∧ v4 = .int .i64 q ∧ Hid (s = Lg.sm (Lg.vl l) q) ∧ Hid (∀ i, i < q → 0 ≤ gi l i ∧ gi l i ≤ 65536) ∧ wr = w) (fun _ v4 _ => 256 - (intOf v4).toNat)
    case atStart => exact ⟨0, 0, Nat.zero_le _, Nat.zero_le _, rfl, rfl, rfl, fun i hi => absurd hi (by omega), rfl⟩
    case round =>
      obtain ⟨q, s, hq, hs, rfl, rfl, HV, HG, rfl⟩ := hrel
      by_cases hlt : q < 256
      · have hltz : (q : Int) < 256 := by omega
        have e1 := HC.out q hlt
        have NQ := hide (NOK.out q hlt)
        have SQ : Hid (Lg.sm (Lg.vl l) (q + 1) = s + (gi l q).toNat) := by rw [HV.out]; rfl
        have HG1 : Hid (0 ≤ gi l q → gi l q ≤ 65536 → ∀ i, i < q + 1 → 0 ≤ gi l i ∧ gi l i ≤ 65536) := fun a c i hi => by
          by_cases e : i = q
          · subst e; exact ⟨a, c⟩
          · exact HG.out i (by omega)
        clear HV
        generalize gi l q = x at *
        by_cases h1 : x < 0
        · have R := hide (NQ.out (.inl h1))
          go_wp2
          go_ret
          rw [R.out]
          exact ⟨rfl, Below.refl _ _⟩
        · by_cases h2 : 65536 < x
          · have R := hide (NQ.out (.inr h2))
            go_wp2
            go_ret
            rw [R.out]
            exact ⟨rfl, Below.refl _ _⟩
          · obtain ⟨y, rfl⟩ := Int.eq_ofNat_of_zero_le (show 0 ≤ x by omega)
            rw [Int.toNat_natCast] at SQ
            have HG2 := hide (HG1.out (by omega) (by omega))
            have yb : y ≤ 65536 := by omega
            have hs2 : s + y ≤ (q + 1) * 65536 := by omega
            have hs3 : s ≤ 16777216 := by omega
            clear hs HG1 HG NQ
            go_wp2
            exact ⟨⟨q + 1, s + y, by omega, hs2, by go_num, by go_num, SQ.out.symm, HG2, trivial⟩, by simp only [intOf]; omega⟩
      · have e256 : q = 256 := by omega
        have hltz : ¬ (q : Int) < 256 := by omega
        rw [e256] at HV HG hs
        obtain ⟨q0, hq0⟩ : ∃ q0, q0 = q := ⟨_, rfl⟩
        rw [← hq0] at hltz ⊢
        clear hq0 e256 hlt hq
        have OK : Lg.okE l := ⟨HLN.out, HG.out⟩
        have RE := hide (en_yes OK)
        have SB : s ≤ 16777216 := by omega
        have VC : Hid (∀ i, i < 256 → wr.cell? ⟨b, off + i, none⟩ = some (.int .i64 (Lg.vl l i : Nat)) ∧ Lg.vl l i ≤ s ∧ Lg.vl l i ≤ 65536) := fun i hi => by
          have h1 := HC.out i hi
          have h2 := HG.out i hi
          have h3 := Lg.v_le_sm (Lg.vl l) hi
          rw [← HV.out] at h3
          have e : ((Lg.vl l i : Nat) : Int) = gi l i := by unfold Lg.vl; omega
          rw [e]
          exact ⟨h1, h3, by unfold Lg.vl; omega⟩
        have EB : Hid (s ≠ 0 → ∀ i, i ≤ 256 → Lg.en (Lg.vl l) s i ≤ 26388279066624) := fun h0 i hi => by
          have h1 := Lg.en_le (Lg.vl l) s SB h0 i
          have h2 := Lg.sm_mono (Lg.vl l) hi
          rw [← HV.out] at h2
          have h3 : Lg.sm (Lg.vl l) i * 1572864 ≤ 16777216 * 1572864 := Nat.mul_le_mul_right _ (by omega)
          omega
        have EV : Hid (Lg.enV (Lg.vl l) = (Lg.en (Lg.vl l) s 256 + 65535) / 65536) := by rw [HV.out]; rfl
        clear HC NOK HG OK HV hs
        go_wp2
        obtain ⟨wo, rfl⟩ : ∃ wo, wo = wr := ⟨_, rfl⟩
        go_loopw [5, 6] (fun v5 v6 wr => ∃ q u : Nat, q ≤ 256 ∧ u ≤ 26388279066624 ∧ v5 = .int .i64 u ∧ v6 = .int .i64 q ∧ Hid (u = Lg.en (Lg.vl l) s q) ∧ Hid (Below wo.heap.size wo wr)) (fun _ v6 _ => 256 - (intOf v6).toNat)
        case atStart => exact ⟨0, 0, Nat.zero_le _, Nat.zero_le _, rfl, rfl, rfl, Below.refl _ _⟩
        case round =>
          obtain ⟨q, u, hq2, hu, rfl, rfl, HU, HB⟩ := hrel
          by_cases hlt2 : q < 256
          · have hltz : (q : Int) < 256 := by omega
            obtain ⟨v1, v2, v3⟩ := VC.out q hlt2
            have e1 := (HB.out.cell (p := ⟨b, off + q, none⟩) hb0).trans v1
            have ET : Hid (Lg.en (Lg.vl l) s (q + 1) = u + Lg.vl l q * (Lg.lg s - Lg.lg (Lg.vl l q))) := by rw [HU.out]; rfl
            have EB1 : Hid (s ≠ 0 → Lg.en (Lg.vl l) s (q + 1) ≤ 26388279066624) := fun h0 => EB.out h0 (q + 1) (by omega)
            clear HU v1
            generalize Lg.vl l q = c at *
            by_cases hc0 : 0 < c
            · have hcz : (0 : Int) < (c : Int) := by omega
              have h0s : s ≠ 0 := by omega
              have hl1 := Lg.lg_le (x := c) (y := s) (by omega) v2
              have hl2 := Lg.lg_24 h0s SB
              have L1 : Hid (∀ w0, Calls Try.prog 15 #[.int .i64 (s : Int)] w0 fun e w' => e = .returned (.int .i64 (Lg.lg s : Nat)) ∧ w' = w0) := fun w0 => by
                have := rlog_c (s : Int) (by omega) w0
                rw [lgI_in (by omega) (by omega)] at this
                exact this
              have L2 : Hid (∀ w0, Calls Try.prog 15 #[.int .i64 (c : Int)] w0 fun e w' => e = .returned (.int .i64 (Lg.lg c : Nat)) ∧ w' = w0) := fun w0 => by
                have := rlog_c (c : Int) (by omega) w0
                rw [lgI_in (by omega) (by omega)] at this
                exact this
              have EB2 := EB1.out h0s
              rw [ET.out] at EB2
              generalize Lg.lg s = A at *
              generalize Lg.lg c = D at *
              obtain ⟨d, hd⟩ : ∃ d, A - D = d := ⟨_, rfl⟩
              rw [hd] at EB2 ET
              obtain ⟨m, hm⟩ : ∃ m, c * d = m := ⟨_, rfl⟩
              rw [hm] at EB2 ET
              have wx1 : IntKind.i64.wrap ((A : Int) - (D : Int)) = (d : Int) := by rw [IntKind.wrap_i64]; omega
              have wx2 : IntKind.i64.wrap ((c : Int) * (d : Int)) = (m : Int) := by
                rw [show (c : Int) * (d : Int) = (m : Int) by rw [← hm, Int.natCast_mul], IntKind.wrap_i64]
                omega
              have wx3 : IntKind.i64.wrap ((u : Int) + (m : Int)) = (u : Int) + (m : Int) := by rw [IntKind.wrap_i64]; omega
              have md : ¬ (d : Int) < 0 := by omega
              clear EB EB1 hd hm hl1 hl2
              go_wp2
              refine region_g [] (fun w' => w'.cell? ⟨b, off + q, none⟩ = some (.int .i64 (c : Int)) ∧ Below wo.heap.size wo w') (by kernel_rfl) ?_
              have hS : (fun w' => w'.cell? ⟨b, off + q, none⟩ = some (.int .i64 (c : Int)) ∧ Below wo.heap.size wo w') wr.drew := ⟨e1, HB.out.drew⟩
              clear e1 HB
              generalize wr.drew = V at *
              refine AnyG.take 0 (v := ?vv1) rfl (by kernel_rfl) (by kernel_rfl) (by kernel_rfl) (by kernel_rfl) (fun _ _ _ h => h) hS ?hy1 (by rfl) ?rest1
              case hy1 =>
                intro w0 h0
                go_simp
                try with_reducible rfl
              simp only [Act.put, List.getElem_toArray, List.getElem_cons_zero, List.getElem_cons_succ, List.setIfInBounds_toArray, List.set_cons_zero, List.set_cons_succ]
              refine AnyG.take 1 (v := ?vv2) rfl (by kernel_rfl) (by kernel_rfl) (by kernel_rfl) (by kernel_rfl) (fun _ _ _ h => h) hS ?hy2 (by rfl) ?rest2
              case hy2 =>
                intro w0 h0
                go_simp
                try with_reducible rfl
              simp only [Act.put, List.getElem_toArray, List.getElem_cons_zero, List.getElem_cons_succ, List.setIfInBounds_toArray, List.set_cons_zero, List.set_cons_succ]
              refine AnyG.take 2 (v := ?vv3) rfl (by kernel_rfl) (by kernel_rfl) (by kernel_rfl) (by kernel_rfl) (fun _ _ _ h => h) hS ?hy3 (by rfl) ?rest3
              case hy3 =>
                intro w0 h0
                go_simp
                try with_reducible rfl
              simp only [Act.put, List.getElem_toArray, List.getElem_cons_zero, List.getElem_cons_succ, List.setIfInBounds_toArray, List.set_cons_zero, List.set_cons_succ]
              refine AnyG.take 3 (v := ?vv4) rfl (by kernel_rfl) (by kernel_rfl) (by kernel_rfl) (by kernel_rfl) (fun _ _ _ h => h) hS ?hy4 (by rfl) ?rest4
              case hy4 =>
                intro w0 h0
                go_simp
                try with_reducible rfl
              simp only [Act.put, List.getElem_toArray, List.getElem_cons_zero, List.getElem_cons_succ, List.setIfInBounds_toArray, List.set_cons_zero, List.set_cons_succ]
              refine AnyG.take 4 (v := ?vv5) rfl (by kernel_rfl) (by kernel_rfl) (by kernel_rfl) (by kernel_rfl) (fun _ _ _ h => h) hS ?hy5 (by rfl) ?rest5
              case hy5 =>
                intro w0 h0
                have c6 := h0.1
                go_simp
                try with_reducible rfl
              simp only [Act.put, List.getElem_toArray, List.getElem_cons_zero, List.getElem_cons_succ, List.setIfInBounds_toArray, List.set_cons_zero, List.set_cons_succ]
              refine AnyG.take 5 (v := ?vv6) rfl (by kernel_rfl) (by kernel_rfl) (by kernel_rfl) (by kernel_rfl) (fun _ _ _ h => h) hS ?hy6 (by rfl) ?rest6
              case hy6 =>
                intro w0 h0
                go_simp
                try with_reducible rfl
              simp only [Act.put, List.getElem_toArray, List.getElem_cons_zero, List.getElem_cons_succ, List.setIfInBounds_toArray, List.set_cons_zero, List.set_cons_succ]
              refine AnyG.take 7 (v := ?vv7) rfl (by kernel_rfl) (by kernel_rfl) (by kernel_rfl) (by kernel_rfl) (fun _ _ _ h => h) hS ?hy7 (by rfl) ?rest7
              case hy7 =>
                intro w0 h0
                go_simp
                try with_reducible rfl
              simp only [Act.put, List.getElem_toArray, List.getElem_cons_zero, List.getElem_cons_succ, List.setIfInBounds_toArray, List.set_cons_zero, List.set_cons_succ]
              refine AnyG.take 8 (v := ?vv8) rfl (by kernel_rfl) (by kernel_rfl) (by kernel_rfl) (by kernel_rfl) (fun _ _ _ h => h) hS ?hy8 (by rfl) ?rest8
              case hy8 =>
                intro w0 h0
                go_simp
                try with_reducible rfl
              simp only [Act.put, List.getElem_toArray, List.getElem_cons_zero, List.getElem_cons_succ, List.setIfInBounds_toArray, List.set_cons_zero, List.set_cons_succ]
              refine AnyG.take 9 (v := ?vv9) rfl (by kernel_rfl) (by kernel_rfl) (by kernel_rfl) (by kernel_rfl) (fun _ _ _ h => h) hS ?hy9 (by rfl) ?rest9
              case hy9 =>
                intro w0 h0
                go_simp
                try with_reducible rfl
              simp only [Act.put, List.getElem_toArray, List.getElem_cons_zero, List.getElem_cons_succ, List.setIfInBounds_toArray, List.set_cons_zero, List.set_cons_succ]
              refine AnyG.take 10 (v := ?vv10) rfl (by kernel_rfl) (by kernel_rfl) (by kernel_rfl) (by kernel_rfl) (fun _ _ _ h => h) hS ?hy10 (by rfl) ?rest10
              case hy10 =>
                intro w0 h0
                have c6 := h0.1
                go_simp
                try with_reducible rfl
              simp only [Act.put, List.getElem_toArray, List.getElem_cons_zero, List.getElem_cons_succ, List.setIfInBounds_toArray, List.set_cons_zero, List.set_cons_succ]
              refine AnyG.one 6 (by kernel_rfl) rfl ?_
              intro K hK
              go_simp
              refine (L1.out _).mono ?_
              rintro e v1 ⟨rfl, hv1⟩
              rw [hv1]
              clear hv1 v1
              refine hK.out _ _ (fun _ => hS) ?_
              clear hK K
              try simp only [Act.put, List.getElem_toArray, List.getElem_cons_zero, List.getElem_cons_succ, List.setIfInBounds_toArray, List.set_cons_zero, List.set_cons_succ]
              refine AnyG.one 11 (by kernel_rfl) rfl ?_
              intro K hK
              go_simp
              refine (L2.out _).mono ?_
              rintro e v1 ⟨rfl, hv1⟩
              rw [hv1]
              clear hv1 v1
              refine hK.out _ _ (fun _ => hS) ?_
              clear hK K
              try simp only [Act.put, List.getElem_toArray, List.getElem_cons_zero, List.getElem_cons_succ, List.setIfInBounds_toArray, List.set_cons_zero, List.set_cons_succ]
              refine AnyG.take 12 (v := .int .i64 (d : Int)) rfl (by kernel_rfl) (by kernel_rfl) (by kernel_rfl) (by kernel_rfl) (fun _ _ _ h => h) hS ?hz11 (by rfl) ?rst11
              case hz11 =>
                intro w0 h0
                go_simp
                try (intro hz; omega)
              simp only [Act.put, List.getElem_toArray, List.getElem_cons_zero, List.getElem_cons_succ, List.setIfInBounds_toArray, List.set_cons_zero, List.set_cons_succ]
              refine AnyG.take 13 (v := .int .i64 (d : Int)) rfl (by kernel_rfl) (by kernel_rfl) (by kernel_rfl) (by kernel_rfl) (fun _ _ _ h => h) hS ?hz12 (by rfl) ?rst12
              case hz12 =>
                intro w0 h0
                go_simp
                try (intro hz; omega)
              simp only [Act.put, List.getElem_toArray, List.getElem_cons_zero, List.getElem_cons_succ, List.setIfInBounds_toArray, List.set_cons_zero, List.set_cons_succ]
              refine AnyG.take 14 (v := .int .i64 (m : Int)) rfl (by kernel_rfl) (by kernel_rfl) (by kernel_rfl) (by kernel_rfl) (fun _ _ _ h => h) hS ?hz13 (by rfl) ?rst13
              case hz13 =>
                intro w0 h0
                go_simp
                try (intro hz; omega)
              simp only [Act.put, List.getElem_toArray, List.getElem_cons_zero, List.getElem_cons_succ, List.setIfInBounds_toArray, List.set_cons_zero, List.set_cons_succ]
              refine AnyG.take 15 (v := .int .i64 ((u : Int) + (m : Int))) rfl (by kernel_rfl) (by kernel_rfl) (by kernel_rfl) (by kernel_rfl) (fun _ _ _ h => h) hS ?hz14 (by rfl) ?rst14
              case hz14 =>
                intro w0 h0
                go_simp
                try (intro hz; omega)
              simp only [Act.put, List.getElem_toArray, List.getElem_cons_zero, List.getElem_cons_succ, List.setIfInBounds_toArray, List.set_cons_zero, List.set_cons_succ]
              refine AnyG.one 16 (by kernel_rfl) rfl ?_
              intro K hK
              go_simp
              refine hK.out _ _ (fun _ => hS) ?_
              clear hK K
              try simp only [Act.put, List.getElem_toArray, List.getElem_cons_zero, List.getElem_cons_succ, List.setIfInBounds_toArray, List.set_cons_zero, List.set_cons_succ]
              refine AnyG.done (by kernel_rfl) ?_ _
              have HBF := hide hS.2
              clear hS wx1 wx2 wx3 L1 L2
              go_wp2
              exact ⟨⟨q + 1, u + m, by omega, EB2, by go_num, by go_num, ET.out.symm, HBF⟩, by simp only [intOf]; omega⟩
            · have hcz : ¬ (0 : Int) < (c : Int) := by omega
              have e0 : c = 0 := by omega
              have ET2 : Hid (Lg.en (Lg.vl l) s (q + 1) = u) := by rw [ET.out, e0, Nat.zero_mul]; rfl
              clear ET EB EB1 e0
              go_wp2
              exact ⟨⟨q + 1, u, by omega, hu, rfl, by go_num, ET2.out.symm, HB⟩, by simp only [intOf]; omega⟩
          · obtain rfl : q = 256 := by omega
            have RR : Hid (Lg.enN l = (u + 65535) / 65536) := by show _ = _; rw [RE.out, EV.out, ← HU.out]
            clear HU EB RE EV VC
            go_wp2
            go_ret
            rw [RR.out]
            exact ⟨ret_int (by omega), HB.out⟩
  · have R : Hid (Lg.enN l = 0) := en_no fun g => h g.1
    have h2 : ((l.length : Int) != 256) = true := by simp; omega
    clear h hx
    go_enter Try.func16, Try.ntmps16
    go_wp2
    go_ret
    rw [R.out]
    exact ⟨rfl, Below.refl _ _⟩
end Go.Proofs.Ytbkagloonlddfaa
