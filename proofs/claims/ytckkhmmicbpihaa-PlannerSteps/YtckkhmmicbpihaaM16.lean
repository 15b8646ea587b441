/-
  The contract of the document's Bits. The contracts of the landed parts, lowWidth, width, kindSteps, isWeight and Row.
-/
import Derived.Test.YtckkhmmicbpihaaM15
namespace Go.Proofs.Ytckkhmmicbpihaa
open Go.RowKit Num Hp
set_option linter.unusedVariables false
set_option linter.unusedSimpArgs false
set_option maxRecDepth 100000

namespace Pn
def bl (x : Nat) : Nat := max 1 (Go.bitLen x)
theorem bl_le {x : Nat} (h : x ≤ 8192) : bl x ≤ 14 := by
  have := Num.len_le x 14 (by have : (2 : Nat) ^ 14 = 16384 := by decide
                              omega)
  unfold bl
  omega
/-- What an index needs. -/
def btN (s i g k : Int) (l : List Int) (n M : Nat) : Nat := txt s i g k l + 8256 + row k (n + 1) (n / M + 1) + (n / M + 1) * bl (n / M) + (n / M + 1) * bl n
def bitsN (z : Co.Zf) (l : List Int) : Nat := if (okT l && Co.okZ z) = true then btN z.1 z.2.1 z.2.2.1 z.2.2.2.1 l (Hv.tot (cntOf l) 256) z.2.2.2.2.toNat else 0
theorem okT_parts {l : List Int} (h : okT l = true) : win l 8192 = true ∧ Hv.tot (cntOf l) 256 ≤ 8192 := by
  unfold okT at h
  rw [Bool.and_eq_true] at h
  exact ⟨h.1, of_decide_eq_true h.2⟩
theorem totI_in {l : List Int} (h : okT l = true) : totI l = (Hv.tot (cntOf l) 256 : Nat) := by unfold totI; rw [if_pos h]
theorem totI_out {l : List Int} (h : okT l = false) : totI l = -1 := by unfold totI; rw [if_neg (by rw [h]; decide)]
theorem max_or (L : Nat) : ((L : Int) ≤ 1 ∧ max 1 L = 1) ∨ (¬ (L : Int) ≤ 1 ∧ max 1 L = L) := by omega
theorem btN_le {s i g k m : Int} (hc : CfI s i g k m) {l : List Int} {n M : Nat} (ht : Hv.tot (cntOf l) 256 ≤ 8192) (hn : n ≤ 8192) : btN s i g k l n M ≤ 1700001000000 := by
  have h1 := txt_le hc ht
  have h2 : n / M ≤ n := Nat.div_le_self _ _
  have h3 := row_le k (n := n + 1) (m := n / M + 1) (by omega) (by omega)
  have h4 := Nat.mul_le_mul (show n / M + 1 ≤ 8193 by omega) (bl_le (x := n / M) (by omega))
  have h5 := Nat.mul_le_mul (show n / M + 1 ≤ 8193 by omega) (bl_le (x := n) (by omega))
  unfold btN
  omega
end Pn
set_option maxHeartbeats 8000000 in
theorem rbits_c (s i g k m : Int) (ao : Option Addr) (l : List Int) (cap : Nat) (w : World) (hx : Nd w ao l) (hl : l.length ≤ 1048576) :
    Calls Try.prog 13 #[.agg #[.int .i64 s, .int .i64 i, .int .i64 g, .int .i64 k, .int .i64 m], .slice ao l.length cap] w fun e w' => e = .returned (.int .i64 (Pn.bitsN (s, i, g, k, m) l : Nat)) ∧ Below w.heap.size w w' := by
  obtain ⟨W, hW⟩ : ∃ W, W = w.alloc (.cells #[.int .i64 s, .int .i64 i, .int .i64 g, .int .i64 k, .int .i64 m] 23) := ⟨_, rfl⟩
  have HbW := hide (show Below w.heap.size w W by rw [hW]; exact below_alloc w _)
  have HB1 := hide (show Cel W w.heap.size [.int .i64 s, .int .i64 i, .int .i64 g, .int .i64 k, .int .i64 m] 23 by rw [hW]; exact Cel.new w _ _)
  have T1 : Hid (∀ w0, Below w.heap.size w w0 → Calls Try.prog 28 #[.slice ao l.length cap] w0 fun e w' => e = .returned (.int .i64 (Pn.totI l)) ∧ w' = w0) := fun w0 h => rtotal_c ao l cap w0 (hx.keep h) hl
  have K1 : Hid (∀ w0, Calls Try.prog 7 #[.agg #[.int .i64 s, .int .i64 i, .int .i64 g, .int .i64 k, .int .i64 m]] w0 fun e w' => e = .returned (.bool (Co.okZ (s, i, g, k, m))) ∧ Below w0.heap.size w0 w') := fun w0 => rcheck_c s i g k m w0
  have E : Hid (Pn.bitsN (s, i, g, k, m) l = if (Pn.okT l && Co.okZ (s, i, g, k, m)) = true then Pn.btN s i g k l (Hv.tot (cntOf l) 256) m.toNat else 0) := rfl
  have d0 := HB1.out.cell 0 rfl
  have d1 := HB1.out.cell 1 rfl
  have d2 := HB1.out.cell 2 rfl
  have d3 := HB1.out.cell 3 rfl
  have d4 := HB1.out.cell 4 rfl
  cases hT : Pn.okT l with
  | false =>
    rw [Pn.totI_out hT] at T1
    rw [hT, Bool.false_and, if_neg (by decide)] at E
    clear hT hx hl HB1
    go_enter Try.func13, Try.ntmps13
    go_wp2_with fail
    rw [← hW]
    refine (T1.out _ HbW.out).mono ?_
    rintro e w1 ⟨rfl, rfl⟩
    clear hW
    go_wp2
    go_ret
    rw [E.out]
    exact ⟨rfl, HbW.out⟩
  | true =>
    obtain ⟨hw, ht⟩ := Pn.okT_parts hT
    rw [Pn.totI_in hT] at T1
    rw [hT, Bool.true_and] at E
    have TX : Hid (Pn.CfI s i g k m → ∀ w0, Below w.heap.size w w0 → Calls Try.prog 29 #[.agg #[.int .i64 s, .int .i64 i, .int .i64 g, .int .i64 k, .int .i64 m], .slice ao l.length cap, .int .i64 (Hv.tot (cntOf l) 256 : Nat)] w0 fun e w' => e = .returned (.int .i64 (Pn.txt s i g k l : Nat)) ∧ Below w0.heap.size w0 w') := fun hc w0 h => rtext_c s i g k m hc ao l cap w0 (hx.keep h) hw ht
    have TL : Hid (Pn.CfI s i g k m → Pn.txt s i g k l ≤ 1700000000000) := fun hc => Pn.txt_le hc ht
    obtain ⟨n, hn⟩ : ∃ n, Hid (n = Hv.tot (cntOf l) 256) := ⟨_, rfl⟩
    rw [← hn.out] at T1 E TX ht
    cases hZ : Co.okZ (s, i, g, k, m) with
    | false =>
      rw [hZ] at K1
      rw [hZ, if_neg (by decide)] at E
      clear hT hx hl HB1 hw
      go_enter Try.func13, Try.ntmps13
      go_wp2_with fail
      rw [← hW]
      refine (T1.out _ HbW.out).mono ?_
      rintro e w1 ⟨rfl, rfl⟩
      clear hW
      go_wp2_with fail
      refine (K1.out _).mono ?_
      rintro e w2 ⟨rfl, hb2⟩
      replace HbW := hide (HbW.out.trans (hb2.mono HbW.out.size))
      clear hb2 d0 d1 d2 d3 d4
      go_wp2
      go_ret
      rw [E.out]
      exact ⟨rfl, HbW.out⟩
    | true =>
      rw [hZ] at K1
      rw [hZ, if_pos rfl] at E
      have hc := Pn.CfI.of hZ
      obtain ⟨M, rfl, m1, m2⟩ := hc.m1
      have C1 := hide (TX.out hc)
      have tl := TL.out hc
      obtain ⟨q, hq⟩ : ∃ q, Hid (q = n / M) := ⟨_, rfl⟩
      have hqn : q ≤ n := by rw [hq.out]; exact Nat.div_le_self _ _
      have eq : wrap64 ((n : Int) / (M : Int)) = (q : Int) := wq n M q hq.out (by omega)
      have eM : ((M : Int) == 0) = false := by simp; omega
      have C2 : Hid (∀ w0, Calls Try.prog 12 #[.int .i64 k, .int .i64 ((n : Int) + 1), .int .i64 ((q : Int) + 1)] w0 fun e w' => e = .returned (.int .i64 (Pn.row k (n + 1) (q + 1) : Nat)) ∧ w' = w0) := fun w0 => by
        have := rrow_c k (n + 1 : Nat) (q + 1 : Nat) w0
        rw [rowI_in (by omega) (by omega)] at this
        exact this
      have rl := Pn.row_le k (n := n + 1) (m := q + 1) (by omega) (by omega)
      have C3 : Hid (∀ w0, Calls Try.prog 30 #[.int .u64 (q : Int)] w0 fun e w' => e = .returned (.int .i64 (Go.bitLen q : Nat)) ∧ w' = w0) := fun w0 => by
        have := reflen_c (q : Int) (by omega) (by omega) w0
        unfold lenI at this
        rw [Int.toNat_natCast] at this
        exact this
      have C4 : Hid (∀ w0, Calls Try.prog 30 #[.int .u64 (n : Int)] w0 fun e w' => e = .returned (.int .i64 (Go.bitLen n : Nat)) ∧ w' = w0) := fun w0 => by
        have := reflen_c (n : Int) (by omega) (by omega) w0
        unfold lenI at this
        rw [Int.toNat_natCast] at this
        exact this
      have hM1 : Hid (((Go.bitLen q : Nat) : Int) ≤ 1 ∧ Pn.bl q = 1 ∨ ¬ ((Go.bitLen q : Nat) : Int) ≤ 1 ∧ Pn.bl q = Go.bitLen q) := Pn.max_or _
      have hM2 : Hid (((Go.bitLen n : Nat) : Int) ≤ 1 ∧ Pn.bl n = 1 ∨ ¬ ((Go.bitLen n : Nat) : Int) ≤ 1 ∧ Pn.bl n = Go.bitLen n) := Pn.max_or _
      have b1 := Pn.bl_le (x := q) (by omega)
      have b2 := Pn.bl_le (x := n) (by omega)
      have p1 := Nat.mul_le_mul (show q + 1 ≤ 8193 by omega) b1
      have p2 := Nat.mul_le_mul (show q + 1 ≤ 8193 by omega) b2
      replace E : Hid (Pn.bitsN (s, i, g, k, (M : Int)) l = Pn.txt s i g k l + 8256 + Pn.row k (n + 1) (q + 1) + (q + 1) * Pn.bl q + (q + 1) * Pn.bl n) := by
        show _ = _
        rw [E.out, Int.toNat_natCast, hq.out]
        rfl
      generalize Pn.bitsN (s, i, g, k, (M : Int)) l = res at *
      generalize Pn.txt s i g k l = tx at *
      generalize Pn.row k (n + 1) (q + 1) = rr at *
      generalize Pn.bl q = M1 at *
      generalize Pn.bl n = M2 at *
      generalize Go.bitLen q = L1 at *
      generalize Go.bitLen n = L2 at *
      have e1 : ((q : Int) + 1) * (M1 : Int) = (((q + 1) * M1 : Nat) : Int) := by rw [Int.natCast_mul]; rfl
      have e2 : ((q : Int) + 1) * (M2 : Int) = (((q + 1) * M2 : Nat) : Int) := by rw [Int.natCast_mul]; rfl
      generalize (q + 1) * M1 = P1 at *
      generalize (q + 1) * M2 = P2 at *
      clear hT hZ hx hl hw hc TX TL hq
      go_enter Try.func13, Try.ntmps13
      go_wp2_with fail
      rw [← hW]
      refine (T1.out _ HbW.out).mono ?_
      rintro e w1 ⟨rfl, rfl⟩
      clear hW
      go_wp2_with fail
      refine (K1.out _).mono ?_
      rintro e W2 ⟨rfl, hb2⟩
      have HB2 := hide (HbW.out.trans (hb2.mono HbW.out.size))
      have HC2 := hide (HB1.out.kept hb2)
      clear hb2 d0 d1 d2 d3 d4 HbW HB1 T1 K1
      have d0 := HC2.out.cell 0 rfl
      have d1 := HC2.out.cell 1 rfl
      have d2 := HC2.out.cell 2 rfl
      have d3 := HC2.out.cell 3 rfl
      have d4 := HC2.out.cell 4 rfl
      go_wp2
      refine region_g [] (fun w' => Cel w' w.heap.size [.int .i64 s, .int .i64 i, .int .i64 g, .int .i64 k, .int .i64 (M : Int)] 23 ∧ Below w.heap.size w w') (by kernel_rfl) ?_
      have hS : (fun w' => Cel w' w.heap.size [.int .i64 s, .int .i64 i, .int .i64 g, .int .i64 k, .int .i64 (M : Int)] 23 ∧ Below w.heap.size w w') W2.drew := ⟨HC2.out.drew, HB2.out.drew⟩
      clear HC2 HB2 d0 d1 d2 d3 d4
      generalize W2.drew = V at *
      refine AnyG.take 0 (v := ?vv1) rfl (by kernel_rfl) (by kernel_rfl) (by kernel_rfl) (by kernel_rfl) (fun _ _ _ h => h) hS ?hy1 (by rfl) ?rest1
      case hy1 =>
        intro w0 h0
        have d0 := h0.1.cell 0 rfl
        have d1 := h0.1.cell 1 rfl
        have d2 := h0.1.cell 2 rfl
        have d3 := h0.1.cell 3 rfl
        have d4 := h0.1.cell 4 rfl
        go_simp
        try with_reducible rfl
      simp only [Act.put, List.getElem_toArray, List.getElem_cons_zero, List.getElem_cons_succ, List.setIfInBounds_toArray, List.set_cons_zero, List.set_cons_succ]
      refine AnyG.take 1 (v := ?vv2) rfl (by kernel_rfl) (by kernel_rfl) (by kernel_rfl) (by kernel_rfl) (fun _ _ _ h => h) hS ?hy2 (by rfl) ?rest2
      case hy2 =>
        intro w0 h0
        go_simp
        try with_reducible rfl
      simp only [Act.put, List.getElem_toArray, List.getElem_cons_zero, List.getElem_cons_succ, List.setIfInBounds_toArray, List.set_cons_zero, List.set_cons_succ]
      refine AnyG.take 2 (v := ?vv3) rfl (by kernel_rfl) (by kernel_rfl) (by kernel_rfl) (by kernel_rfl) (fun _ _ _ h => h) hS ?hy3 (by rfl) ?rest3
      case hy3 =>
        intro w0 h0
        go_simp
        try with_reducible rfl
      simp only [Act.put, List.getElem_toArray, List.getElem_cons_zero, List.getElem_cons_succ, List.setIfInBounds_toArray, List.set_cons_zero, List.set_cons_succ]
      refine AnyG.take 5 (v := ?vv4) rfl (by kernel_rfl) (by kernel_rfl) (by kernel_rfl) (by kernel_rfl) (fun _ _ _ h => h) hS ?hy4 (by rfl) ?rest4
      case hy4 =>
        intro w0 h0
        go_simp
        try with_reducible rfl
      simp only [Act.put, List.getElem_toArray, List.getElem_cons_zero, List.getElem_cons_succ, List.setIfInBounds_toArray, List.set_cons_zero, List.set_cons_succ]
      refine AnyG.take 6 (v := ?vv5) rfl (by kernel_rfl) (by kernel_rfl) (by kernel_rfl) (by kernel_rfl) (fun _ _ _ h => h) hS ?hy5 (by rfl) ?rest5
      case hy5 =>
        intro w0 h0
        have d0 := h0.1.cell 0 rfl
        have d1 := h0.1.cell 1 rfl
        have d2 := h0.1.cell 2 rfl
        have d3 := h0.1.cell 3 rfl
        have d4 := h0.1.cell 4 rfl
        go_simp
        try with_reducible rfl
      simp only [Act.put, List.getElem_toArray, List.getElem_cons_zero, List.getElem_cons_succ, List.setIfInBounds_toArray, List.set_cons_zero, List.set_cons_succ]
      refine AnyG.take 7 (v := ?vv6) rfl (by kernel_rfl) (by kernel_rfl) (by kernel_rfl) (by kernel_rfl) (fun _ _ _ h => h) hS ?hy6 (by rfl) ?rest6
      case hy6 =>
        intro w0 h0
        go_simp
        try with_reducible rfl
      simp only [Act.put, List.getElem_toArray, List.getElem_cons_zero, List.getElem_cons_succ, List.setIfInBounds_toArray, List.set_cons_zero, List.set_cons_succ]
      refine AnyG.take 8 (v := .int .i64 ((n : Int) + 1)) rfl (by kernel_rfl) (by kernel_rfl) (by kernel_rfl) (by kernel_rfl) (fun _ _ _ h => h) hS ?hy7 (by rfl) ?rest7
      case hy7 =>
        intro w0 h0
        have wr : IntKind.i64.wrap ((n : Int) + 1) = (n : Int) + 1 := by rw [IntKind.wrap_i64]; omega
        go_simp
        try with_reducible rfl
        try (rw [IntKind.wrap_i64]; omega)
      simp only [Act.put, List.getElem_toArray, List.getElem_cons_zero, List.getElem_cons_succ, List.setIfInBounds_toArray, List.set_cons_zero, List.set_cons_succ]
      refine AnyG.take 9 (v := ?vv8) rfl (by kernel_rfl) (by kernel_rfl) (by kernel_rfl) (by kernel_rfl) (fun _ _ _ h => h) hS ?hy8 (by rfl) ?rest8
      case hy8 =>
        intro w0 h0
        go_simp
        try with_reducible rfl
      simp only [Act.put, List.getElem_toArray, List.getElem_cons_zero, List.getElem_cons_succ, List.setIfInBounds_toArray, List.set_cons_zero, List.set_cons_succ]
      refine AnyG.take 12 (v := ?vv9) rfl (by kernel_rfl) (by kernel_rfl) (by kernel_rfl) (by kernel_rfl) (fun _ _ _ h => h) hS ?hy9 (by rfl) ?rest9
      case hy9 =>
        intro w0 h0
        go_simp
        try with_reducible rfl
      simp only [Act.put, List.getElem_toArray, List.getElem_cons_zero, List.getElem_cons_succ, List.setIfInBounds_toArray, List.set_cons_zero, List.set_cons_succ]
      refine AnyG.take 13 (v := ?vv10) rfl (by kernel_rfl) (by kernel_rfl) (by kernel_rfl) (by kernel_rfl) (fun _ _ _ h => h) hS ?hy10 (by rfl) ?rest10
      case hy10 =>
        intro w0 h0
        go_simp
        try with_reducible rfl
      simp only [Act.put, List.getElem_toArray, List.getElem_cons_zero, List.getElem_cons_succ, List.setIfInBounds_toArray, List.set_cons_zero, List.set_cons_succ]
      refine AnyG.take 14 (v := .int .i64 (q : Int)) rfl (by kernel_rfl) (by kernel_rfl) (by kernel_rfl) (by kernel_rfl) (fun _ _ _ h => h) hS ?hy11 (by rfl) ?rest11
      case hy11 =>
        intro w0 h0
        have wr : IntKind.i64.wrap ((q : Int) + 1 - 1) = (q : Int) := by rw [IntKind.wrap_i64]; omega
        go_simp
        try with_reducible rfl
        try (rw [IntKind.wrap_i64]; omega)
      simp only [Act.put, List.getElem_toArray, List.getElem_cons_zero, List.getElem_cons_succ, List.setIfInBounds_toArray, List.set_cons_zero, List.set_cons_succ]
      refine AnyG.take 15 (v := .int .u64 (q : Int)) rfl (by kernel_rfl) (by kernel_rfl) (by kernel_rfl) (by kernel_rfl) (fun _ _ _ h => h) hS ?hy12 (by rfl) ?rest12
      case hy12 =>
        intro w0 h0
        have wr : IntKind.u64.wrap (q : Int) = (q : Int) := by rw [IntKind.wrap_u64]; omega
        go_simp
        try with_reducible rfl
        try (rw [IntKind.wrap_i64]; omega)
      simp only [Act.put, List.getElem_toArray, List.getElem_cons_zero, List.getElem_cons_succ, List.setIfInBounds_toArray, List.set_cons_zero, List.set_cons_succ]
      refine AnyG.take 20 (v := ?vv13) rfl (by kernel_rfl) (by kernel_rfl) (by kernel_rfl) (by kernel_rfl) (fun _ _ _ h => h) hS ?hy13 (by rfl) ?rest13
      case hy13 =>
        intro w0 h0
        go_simp
        try with_reducible rfl
      simp only [Act.put, List.getElem_toArray, List.getElem_cons_zero, List.getElem_cons_succ, List.setIfInBounds_toArray, List.set_cons_zero, List.set_cons_succ]
      refine AnyG.take 21 (v := ?vv14) rfl (by kernel_rfl) (by kernel_rfl) (by kernel_rfl) (by kernel_rfl) (fun _ _ _ h => h) hS ?hy14 (by rfl) ?rest14
      case hy14 =>
        intro w0 h0
        go_simp
        try with_reducible rfl
      simp only [Act.put, List.getElem_toArray, List.getElem_cons_zero, List.getElem_cons_succ, List.setIfInBounds_toArray, List.set_cons_zero, List.set_cons_succ]
      refine AnyG.take 22 (v := .int .u64 (n : Int)) rfl (by kernel_rfl) (by kernel_rfl) (by kernel_rfl) (by kernel_rfl) (fun _ _ _ h => h) hS ?hy15 (by rfl) ?rest15
      case hy15 =>
        intro w0 h0
        have wr : IntKind.u64.wrap (n : Int) = (n : Int) := by rw [IntKind.wrap_u64]; omega
        go_simp
        try with_reducible rfl
        try (rw [IntKind.wrap_i64]; omega)
      simp only [Act.put, List.getElem_toArray, List.getElem_cons_zero, List.getElem_cons_succ, List.setIfInBounds_toArray, List.set_cons_zero, List.set_cons_succ]
      refine AnyG.one 3 (by kernel_rfl) rfl ?_
      intro K hK
      go_simp
      refine (C1.out _ hS.2).mono ?_
      rintro e v1 ⟨rfl, hb⟩
      have hS1 : (fun w' => Cel w' w.heap.size [.int .i64 s, .int .i64 i, .int .i64 g, .int .i64 k, .int .i64 (M : Int)] 23 ∧ Below w.heap.size w w') v1 := ⟨hS.1.kept hb, hS.2.trans (hb.mono hS.2.size)⟩
      clear hb hS
      refine hK.out _ _ (fun _ => hS1) ?_
      clear hK K
      try simp only [Act.put, List.getElem_toArray, List.getElem_cons_zero, List.getElem_cons_succ, List.setIfInBounds_toArray, List.set_cons_zero, List.set_cons_succ]
      refine AnyG.take 4 (v := .int .i64 ((tx : Int) + 8256)) rfl (by kernel_rfl) (by kernel_rfl) (by kernel_rfl) (by kernel_rfl) (fun _ _ _ h => h) hS1 ?hy16 (by rfl) ?rest16
      case hy16 =>
        intro w0 h0
        have wr : IntKind.i64.wrap ((tx : Int) + 8256) = (tx : Int) + 8256 := by rw [IntKind.wrap_i64]; omega
        go_simp
        try with_reducible rfl
        try (rw [IntKind.wrap_i64]; omega)
      simp only [Act.put, List.getElem_toArray, List.getElem_cons_zero, List.getElem_cons_succ, List.setIfInBounds_toArray, List.set_cons_zero, List.set_cons_succ]
      refine AnyG.one 10 (by kernel_rfl) rfl ?_
      intro K hK
      go_simp
      refine (C2.out _).mono ?_
      rintro e v2 ⟨rfl, rfl⟩
      refine hK.out _ _ (fun _ => hS1) ?_
      clear hK K
      try simp only [Act.put, List.getElem_toArray, List.getElem_cons_zero, List.getElem_cons_succ, List.setIfInBounds_toArray, List.set_cons_zero, List.set_cons_succ]
      refine AnyG.take 11 (v := .int .i64 ((tx : Int) + 8256 + (rr : Int))) rfl (by kernel_rfl) (by kernel_rfl) (by kernel_rfl) (by kernel_rfl) (fun _ _ _ h => h) hS1 ?hy17 (by rfl) ?rest17
      case hy17 =>
        intro w0 h0
        have wr : IntKind.i64.wrap ((tx : Int) + 8256 + (rr : Int)) = (tx : Int) + 8256 + (rr : Int) := by rw [IntKind.wrap_i64]; omega
        go_simp
        try with_reducible rfl
        try (rw [IntKind.wrap_i64]; omega)
      simp only [Act.put, List.getElem_toArray, List.getElem_cons_zero, List.getElem_cons_succ, List.setIfInBounds_toArray, List.set_cons_zero, List.set_cons_succ]
      refine AnyG.one 16 (by kernel_rfl) rfl ?_
      intro K hK
      go_simp
      refine (C3.out _).mono ?_
      rintro e v3 ⟨rfl, rfl⟩
      refine hK.out _ _ (fun _ => hS1) ?_
      clear hK K
      try simp only [Act.put, List.getElem_toArray, List.getElem_cons_zero, List.getElem_cons_succ, List.setIfInBounds_toArray, List.set_cons_zero, List.set_cons_succ]
      refine AnyG.take 17 (v := .int .i64 (M1 : Int)) rfl (by kernel_rfl) (by kernel_rfl) (by kernel_rfl) (by kernel_rfl) (fun _ _ _ h => h) hS1 ?hyM1 (by rfl) ?restM1
      case hyM1 =>
        intro w0 h0
        rcases hM1.out with ⟨x1, x2⟩ | ⟨x1, x2⟩
        · subst x2
          go_simp
          try (intro h9; omega)
        · subst x2
          go_simp
          try (intro h9; omega)
      simp only [Act.put, List.getElem_toArray, List.getElem_cons_zero, List.getElem_cons_succ, List.setIfInBounds_toArray, List.set_cons_zero, List.set_cons_succ]
      refine AnyG.take 18 (v := .int .i64 (P1 : Int)) rfl (by kernel_rfl) (by kernel_rfl) (by kernel_rfl) (by kernel_rfl) (fun _ _ _ h => h) hS1 ?hy18 (by rfl) ?rest18
      case hy18 =>
        intro w0 h0
        have wr : IntKind.i64.wrap (((q : Int) + 1) * (M1 : Int)) = (P1 : Int) := by rw [e1, IntKind.wrap_i64]; omega
        go_simp
        try with_reducible rfl
        try (rw [IntKind.wrap_i64]; omega)
      simp only [Act.put, List.getElem_toArray, List.getElem_cons_zero, List.getElem_cons_succ, List.setIfInBounds_toArray, List.set_cons_zero, List.set_cons_succ]
      refine AnyG.take 19 (v := .int .i64 ((tx : Int) + 8256 + (rr : Int) + (P1 : Int))) rfl (by kernel_rfl) (by kernel_rfl) (by kernel_rfl) (by kernel_rfl) (fun _ _ _ h => h) hS1 ?hy19 (by rfl) ?rest19
      case hy19 =>
        intro w0 h0
        have wr : IntKind.i64.wrap ((tx : Int) + 8256 + (rr : Int) + (P1 : Int)) = (tx : Int) + 8256 + (rr : Int) + (P1 : Int) := by rw [IntKind.wrap_i64]; omega
        go_simp
        try with_reducible rfl
        try (rw [IntKind.wrap_i64]; omega)
      simp only [Act.put, List.getElem_toArray, List.getElem_cons_zero, List.getElem_cons_succ, List.setIfInBounds_toArray, List.set_cons_zero, List.set_cons_succ]
      refine AnyG.one 23 (by kernel_rfl) rfl ?_
      intro K hK
      go_simp
      refine (C4.out _).mono ?_
      rintro e v4 ⟨rfl, rfl⟩
      refine hK.out _ _ (fun _ => hS1) ?_
      clear hK K
      try simp only [Act.put, List.getElem_toArray, List.getElem_cons_zero, List.getElem_cons_succ, List.setIfInBounds_toArray, List.set_cons_zero, List.set_cons_succ]
      refine AnyG.take 24 (v := .int .i64 (M2 : Int)) rfl (by kernel_rfl) (by kernel_rfl) (by kernel_rfl) (by kernel_rfl) (fun _ _ _ h => h) hS1 ?hyM2 (by rfl) ?restM2
      case hyM2 =>
        intro w0 h0
        rcases hM2.out with ⟨x1, x2⟩ | ⟨x1, x2⟩
        · subst x2
          go_simp
          try (intro h9; omega)
        · subst x2
          go_simp
          try (intro h9; omega)
      simp only [Act.put, List.getElem_toArray, List.getElem_cons_zero, List.getElem_cons_succ, List.setIfInBounds_toArray, List.set_cons_zero, List.set_cons_succ]
      refine AnyG.take 25 (v := .int .i64 (P2 : Int)) rfl (by kernel_rfl) (by kernel_rfl) (by kernel_rfl) (by kernel_rfl) (fun _ _ _ h => h) hS1 ?hy20 (by rfl) ?rest20
      case hy20 =>
        intro w0 h0
        have wr : IntKind.i64.wrap (((q : Int) + 1) * (M2 : Int)) = (P2 : Int) := by rw [e2, IntKind.wrap_i64]; omega
        go_simp
        try with_reducible rfl
        try (rw [IntKind.wrap_i64]; omega)
      simp only [Act.put, List.getElem_toArray, List.getElem_cons_zero, List.getElem_cons_succ, List.setIfInBounds_toArray, List.set_cons_zero, List.set_cons_succ]
      refine AnyG.take 26 (v := .int .i64 ((tx : Int) + 8256 + (rr : Int) + (P1 : Int) + (P2 : Int))) rfl (by kernel_rfl) (by kernel_rfl) (by kernel_rfl) (by kernel_rfl) (fun _ _ _ h => h) hS1 ?hy21 (by rfl) ?rest21
      case hy21 =>
        intro w0 h0
        have wr : IntKind.i64.wrap ((tx : Int) + 8256 + (rr : Int) + (P1 : Int) + (P2 : Int)) = (tx : Int) + 8256 + (rr : Int) + (P1 : Int) + (P2 : Int) := by rw [IntKind.wrap_i64]; omega
        go_simp
        try with_reducible rfl
        try (rw [IntKind.wrap_i64]; omega)
      simp only [Act.put, List.getElem_toArray, List.getElem_cons_zero, List.getElem_cons_succ, List.setIfInBounds_toArray, List.set_cons_zero, List.set_cons_succ]
      refine AnyG.take 27 (v := ?vv22) rfl (by kernel_rfl) (by kernel_rfl) (by kernel_rfl) (by kernel_rfl) (fun _ _ _ h => h) hS1 ?hy22 (by rfl) ?rest22
      case hy22 =>
        intro w0 h0
        go_simp
        try with_reducible rfl
      simp only [Act.put, List.getElem_toArray, List.getElem_cons_zero, List.getElem_cons_succ, List.setIfInBounds_toArray, List.set_cons_zero, List.set_cons_succ]
      refine AnyG.done (by kernel_rfl) ?_ _
      have HB := hide hS1.2
      clear hS1
      go_wp2
      go_ret
      rw [E.out]
      exact ⟨by go_num, HB.out⟩
end Go.Proofs.Ytckkhmmicbpihaa

namespace Go.Proofs.Ytckkhmmicbpihaa
open Go.RowKit Num Hp
set_option linter.unusedVariables false
set_option linter.unusedSimpArgs false
set_option maxRecDepth 100000

theorem pparts_c (n b : Nat) (hb : 0 < b) (hn : n ≤ 1099511627776) (hb2 : b ≤ 1099511627776) (w : World) :
    Calls Try.prog 24 #[.int .i64 (n : Int), .int .i64 (b : Int)] w fun e w' => e = .returned (.int .i64 (Pn.up n b : Nat)) ∧ w' = w := by
  obtain ⟨k, hk⟩ : ∃ k : Nat, n + b = k + 1 := ⟨n + b - 1, by omega⟩
  have e : Hid (Pn.up n b = k / b) := by show _ = _; unfold Pn.up; rw [hk]; rfl
  have e1 : (n : Int) + (b : Int) = (k : Int) + 1 := by omega
  have e2 : ((b : Int) == 0) = false := by simp; omega
  have hb3 : ¬ (b : Int) = 0 := by omega
  have hk2 : k ≤ 2199023255552 := by omega
  have hkb : k / b ≤ k := Nat.div_le_self _ _
  have ed := wq k b _ rfl (by omega)
  generalize k / b = d at *
  clear hk
  go_enter Try.func24, Try.ntmps24
  go_wp2
  go_ret
  rw [e.out]
  exact ⟨congrArg (fun x => Ending.returned (.int .i64 x)) ed, rfl⟩
theorem plow_c (n m : Nat) (hm : m ≤ n) (hn : n ≤ 1048576) (w : World) :
    Calls Try.prog 25 #[.int .i64 (n : Int), .int .i64 (m : Int)] w fun e w' => e = .returned (.int .i64 (Pn.fw n m : Nat)) ∧ w' = w := by
  by_cases h0 : m = 0
  · subst h0
    go_enter Try.func25, Try.ntmps25
    go_wp2
    go_ret
    exact ⟨rfl, rfl⟩
  · obtain ⟨q, hq⟩ : ∃ q, q = n / m := ⟨_, rfl⟩
    have hqn : q ≤ n := by rw [hq]; exact Nat.div_le_self _ _
    have hq1 : 1 ≤ q := by rw [hq]; exact Nat.div_pos hm (by omega)
    obtain ⟨v, hv⟩ : ∃ v, Go.bitLen q = v + 1 := by
      have := (Go.bitLen_spec q).1
      refine ⟨Go.bitLen q - 1, ?_⟩
      by_cases c : Go.bitLen q = 0
      · rw [c] at this; simp at this; omega
      · omega
    have hv2 : Hid (Pn.fw n m = v) := by show Pn.fw n m = v; unfold Pn.fw; rw [if_pos (by omega), ← hq, hv]; rfl
    have hv3 : v ≤ 20 := by rw [← hv2.out]; exact Pn.fw_le hn
    have LL : Hid (∀ w0, Calls Try.prog 50 #[.int .u64 (q : Int)] w0 fun e w' => e = .returned (.int .i64 ((v : Int) + 1)) ∧ w' = w0) := fun w0 => by
      have := len_c (q : Int) (by omega) (by omega) w0
      have e : lenI (q : Int) = (v : Int) + 1 := by unfold lenI; rw [Int.toNat_natCast, hv]; rfl
      rw [e] at this
      exact this
    have ed : wrap64 ((n : Int) / (m : Int)) = (q : Int) := by
      have : (n : Int) / (m : Int) = ((n / m : Nat) : Int) := rfl
      rw [this, ← hq]
      unfold wrap64
      omega
    have e2 : ((m : Int) == 0) = false := by simp; omega
    have hm0 : (0 : Int) < (m : Int) := by omega
    rw [hv2.out]
    clear hv hq h0 hv2
    go_enter Try.func25, Try.ntmps25
    go_wp2_with fail
    refine (LL.out _).mono ?_
    rintro e w1 ⟨rfl, h1⟩
    go_wp2
    go_ret
    exact ⟨by go_num, by subst h1; rfl⟩
theorem pwidth_c (x : Nat) (hx : x ≤ 8192) (w : World) :
    Calls Try.prog 69 #[.int .i64 (x : Int)] w fun e w' => e = .returned (.int .i64 (Pn.bl x : Nat)) ∧ w' = w := by
  have LL : Hid (∀ w0, Calls Try.prog 50 #[.int .u64 (x : Int)] w0 fun e w' => e = .returned (.int .i64 (Go.bitLen x : Nat)) ∧ w' = w0) := fun w0 => by
    have := len_c (x : Int) (by omega) (by omega) w0
    have e : lenI (x : Int) = (Go.bitLen x : Int) := by unfold lenI; rw [Int.toNat_natCast]
    rw [e] at this
    exact this
  have E : Hid (Pn.bl x = max 1 (Go.bitLen x)) := rfl
  rcases Pn.max_or (Go.bitLen x) with ⟨c1, c2⟩ | ⟨c1, c2⟩
  · rw [c2] at E
    rw [E.out]
    generalize Go.bitLen x = b at *
    clear E c2
    go_enter Try.func69, Try.ntmps69
    go_wp2_with fail
    refine (LL.out _).mono ?_
    rintro e w1 ⟨rfl, rfl⟩
    go_wp2
    go_ret
    exact ⟨rfl, rfl⟩
  · rw [c2] at E
    rw [E.out]
    generalize Go.bitLen x = b at *
    clear E c2
    go_enter Try.func69, Try.ntmps69
    go_wp2_with fail
    refine (LL.out _).mono ?_
    rintro e w1 ⟨rfl, rfl⟩
    go_wp2
    go_ret
    exact ⟨rfl, rfl⟩
theorem pweight_c (x : Int) (w : World) :
    Calls Try.prog 32 #[.int .i64 x] w fun e w' => e = .returned (.bool (decide (0 ≤ x) && decide (x ≤ 65536))) ∧ w' = w := by
  by_cases h1 : 0 ≤ x
  · by_cases h2 : x ≤ 65536
    · have e : Hid ((decide (0 ≤ x) && decide (x ≤ 65536)) = true) := by show _ = _; rw [decide_eq_true h1, decide_eq_true h2]; rfl
      rw [e.out]
      go_enter Try.func32, Try.ntmps32
      go_wp2
      go_ret
      exact ⟨rfl, rfl⟩
    · have e : Hid ((decide (0 ≤ x) && decide (x ≤ 65536)) = false) := by show _ = _; rw [decide_eq_false h2]; simp
      rw [e.out]
      go_enter Try.func32, Try.ntmps32
      go_wp2
      go_ret
      exact ⟨rfl, rfl⟩
  · have e : Hid ((decide (0 ≤ x) && decide (x ≤ 65536)) = false) := by show _ = _; rw [decide_eq_false h1]; rfl
    rw [e.out]
    go_enter Try.func32, Try.ntmps32
    go_wp2
    go_ret
    exact ⟨rfl, rfl⟩
set_option maxHeartbeats 4000000 in
theorem prow0_c (k n m : Int) (w : World) :
    Calls Try.prog 11 #[.int .i64 k, .int .i64 n, .int .i64 m] w fun e w' => e = .returned (.int .i64 (Pn.rowI k n m : Nat)) ∧ w' = w := by
  by_cases h : 0 ≤ n ∧ n ≤ 1048576 ∧ 0 ≤ m ∧ m ≤ n
  · obtain ⟨h1, h2, h3, h4⟩ := h
    obtain ⟨N, rfl⟩ := Int.eq_ofNat_of_zero_le h1
    obtain ⟨M, rfl⟩ := Int.eq_ofNat_of_zero_le h3
    have hN : N ≤ 1048576 := by omega
    have hM : M ≤ N := by omega
    rw [rowI_in hN hM]
    have n1 : ¬ (N : Int) < 0 := by omega
    have n2 : ¬ (1048576 : Int) < (N : Int) := by omega
    have n3 : ¬ (M : Int) < 0 := by omega
    have n4 : ¬ (N : Int) < (M : Int) := by omega
    by_cases k1 : k = 1
    · subst k1
      have U := hide fun w0 => pparts_c N 64 (by omega) (by omega) (by omega) w0
      have hu := Pn.up_le N 64 (by omega)
      have e : Hid (Pn.row 1 N M = N + 32 * (N / 512 + 1) + 16 * Pn.up N 64) := by show _ = _; unfold Pn.row; rw [if_pos rfl]
      generalize Pn.up N 64 = u at *
      go_enter Try.func11, Try.ntmps11
      go_wp2_with fail
      refine (U.out _).mono ?_
      rintro e w1 ⟨rfl, rfl⟩
      go_wp2
      go_ret
      rw [e.out]
      exact ⟨by go_num, rfl⟩
    · have k1z : (k == 1) = false := by simp; omega
      by_cases k2 : k = 2
      · subst k2
        have U := hide fun w0 => pparts_c N 15 (by omega) (by omega) (by omega) w0
        have hu := Pn.up_le N 15 (by omega)
        have e : Hid (Pn.row 2 N M = 17 * Pn.up N 15 + 64 * max 1 (Pn.up (Pn.up N 15) 8)) := by show _ = _; unfold Pn.row; rw [if_neg (by decide), if_pos rfl]
        generalize Pn.up N 15 = u at *
        have U2 := hide fun w0 => pparts_c u 8 (by omega) (by omega) (by omega) w0
        have hu2 := Pn.up_le u 8 (by omega)
        generalize Pn.up u 8 = u2 at *
        by_cases c1 : u2 ≤ 1
        · have c1z : (u2 : Int) ≤ 1 := by omega
          rw [show max 1 u2 = 1 by omega] at e
          go_enter Try.func11, Try.ntmps11
          go_wp2_with fail
          refine (U.out _).mono ?_
          rintro e w1 ⟨rfl, rfl⟩
          go_wp2_with fail
          refine (U2.out _).mono ?_
          rintro e w1 ⟨rfl, rfl⟩
          go_wp2
          go_ret
          rw [e.out]
          exact ⟨by go_num, rfl⟩
        · have c1z : ¬ (u2 : Int) ≤ 1 := by omega
          rw [show max 1 u2 = u2 by omega] at e
          go_enter Try.func11, Try.ntmps11
          go_wp2_with fail
          refine (U.out _).mono ?_
          rintro e w1 ⟨rfl, rfl⟩
          go_wp2_with fail
          refine (U2.out _).mono ?_
          rintro e w1 ⟨rfl, rfl⟩
          go_wp2
          go_ret
          rw [e.out]
          exact ⟨by go_num, rfl⟩
      · have k2z : (k == 2) = false := by simp; omega
        by_cases k3 : k = 3
        · subst k3
          have U := hide fun w0 => plow_c N M hM hN w0
          have e : Hid (Pn.row 3 N M = Pn.fano N M) := by show _ = _; unfold Pn.row; rw [if_neg (by decide), if_neg (by decide), if_pos rfl]
          have hv3 := Pn.fw_le (n := N) (m := M) hN
          have f : Hid (∀ v, v = Pn.fw N M → Pn.fano N M = M * v + M + N / 2 ^ v + 65) := fun v hv => by subst hv; rfl
          obtain ⟨v, hv⟩ : ∃ v, Hid (v = Pn.fw N M) := ⟨_, rfl⟩
          have f1 := f.out v hv.out
          rw [← hv.out] at U hv3
          have HF := hide f1
          clear f f1 hv
          obtain ⟨s, hs⟩ : ∃ s, s = N / 2 ^ v := ⟨_, rfl⟩
          have hs2 : s ≤ N := by rw [hs]; exact Nat.div_le_self _ _
          have es : (N : Int) / 2 ^ v = (s : Int) := by
            rw [hs, Int.natCast_ediv, Int.natCast_pow]; rfl
          rw [← hs] at HF
          have hmv : M * v ≤ M * 20 := Nat.mul_le_mul_left M hv3
          have ep : (M : Int) * (v : Int) = ((M * v : Nat) : Int) := by rw [Int.natCast_mul]
          rw [e.out, HF.out]
          generalize M * v = p at *
          clear hs HF e
          go_enter Try.func11, Try.ntmps11
          go_wp2_with fail
          refine (U.out _).mono ?_
          rintro e w1 ⟨rfl, rfl⟩
          go_wp2
          go_ret
          exact ⟨by go_num, rfl⟩
        · have k3z : (k == 3) = false := by simp; omega
          have e : Hid (Pn.row k N M = 0) := by show _ = _; unfold Pn.row; rw [if_neg k1, if_neg k2, if_neg k3]
          rw [e.out]
          go_enter Try.func11, Try.ntmps11
          go_wp2
          go_ret
          exact ⟨rfl, rfl⟩
  · rw [rowI_out h]
    by_cases n1 : n < 0
    · clear h
      go_enter Try.func11, Try.ntmps11
      go_wp2
      go_ret
      exact ⟨rfl, rfl⟩
    · by_cases n2 : (1048576 : Int) < n
      · clear h
        go_enter Try.func11, Try.ntmps11
        go_wp2
        go_ret
        exact ⟨rfl, rfl⟩
      · by_cases n3 : m < 0
        · clear h
          go_enter Try.func11, Try.ntmps11
          go_wp2
          go_ret
          exact ⟨rfl, rfl⟩
        · have n4 : n < m := by omega
          clear h
          go_enter Try.func11, Try.ntmps11
          go_wp2
          go_ret
          exact ⟨rfl, rfl⟩
theorem prow_c (k n m : Int) (w : World) :
    Calls Try.prog 11 #[.int .i64 k, .int .i64 n, .int .i64 m] w fun e w' => e = .returned (.int .i64 (Pn.rowI k n m : Nat)) ∧ Below w.heap.size w w' := by
  refine (prow0_c k n m w).mono ?_
  rintro e w' ⟨h1, rfl⟩
  exact ⟨h1, Below.refl _ _⟩
theorem pkind_c (k : Int) (h1 : 1 ≤ k) (h3 : k ≤ 3) (w : World) :
    Calls Try.prog 47 #[.int .i64 k] w fun e w' => e = .returned (.int .i64 ((if k = 1 then 1 else if k = 2 then 4 else 3 : Nat) : Nat)) ∧ w' = w := by
  obtain rfl | rfl | rfl : k = 1 ∨ k = 2 ∨ k = 3 := by omega
  all_goals
    go_enter Try.func47, Try.ntmps47
    go_wp2
    go_ret
    exact ⟨rfl, rfl⟩
end Go.Proofs.Ytckkhmmicbpihaa
