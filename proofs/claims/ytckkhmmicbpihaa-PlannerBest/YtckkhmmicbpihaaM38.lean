/-
  The contract of the document's Choose.
-/
import Derived.Test.YtckkhmmicbpihaaM33
namespace Go.Proofs.Ytckkhmmicbpihaa
open Go.RowKit Num Hp
set_option linter.unusedVariables false
set_option linter.unusedSimpArgs false
set_option maxRecDepth 100000

namespace Pn
/-- The first place of the least, of the first q. -/
def am (f : Nat → Nat) : Nat → Nat
  | 0 => 0
  | q + 1 => if q = 0 then 0 else if f q < f (am f q) then q else am f q
theorem am_lt (f : Nat → Nat) : ∀ {q : Nat}, 0 < q → am f q < q
  | q + 1, _ => by
    rw [am]
    split
    · omega
    · split
      · omega
      · have := am_lt f (q := q) (by omega)
        omega
theorem am_le (f : Nat → Nat) : ∀ {q j : Nat}, j < q → f (am f q) ≤ f j
  | q + 1, j, h => by
    rw [am]
    split
    · rw [show j = 0 by omega]; exact Nat.le_refl _
    · by_cases e : j = q
      · subst e; split <;> omega
      · have := am_le f (q := q) (j := j) (by omega)
        split <;> omega
theorem am_first (f : Nat → Nat) : ∀ {q j : Nat}, 0 < q → j < am f q → f (am f q) < f j
  | q + 1, j, _, h => by
    rw [am] at h ⊢
    split
    · rw [if_pos (by assumption)] at h; omega
    · rename_i h0
      rw [if_neg h0] at h
      split
      · rename_i h1
        rw [if_pos h1] at h
        have := am_le f (q := q) (j := j) h
        omega
      · rename_i h1
        rw [if_neg h1] at h
        exact am_first f (by omega) h
theorem bitsN_le {l : List Int} (h : okT l = true) (z : Co.Zf) : bitsN z l ≤ 1700001000000 := by
  unfold bitsN
  split
  · rename_i h2
    rw [Bool.and_eq_true] at h2
    exact btN_le (CfI.of h2.2) (okT_parts h).2 (okT_parts h).2
  · omega
theorem stpN_le {l : List Int} (h : okT l = true) (z : Co.Zf) : stpN z l ≤ 83886336 := by
  unfold stpN
  split
  · rename_i h2
    rw [Bool.and_eq_true] at h2
    obtain ⟨M, e, m1, m2⟩ := (CfI.of h2.2).m1
    rw [e, Int.toNat_natCast]
    have h3 := shS_le z.1 z.2.1 (n := Hv.tot (cntOf l) 256) (okT_parts h).1 (okT_parts h).2
    have h4 := Nat.mul_le_mul h3 (fac_le z.2.2.2.1)
    exact Nat.le_trans (Nat.mul_le_mul h4 m2) (by decide)
  · omega
/-- What a configuration weighs. -/
def wgt (l : List Int) (wb ws : Nat) (z : Co.Zf) : Nat := bitsN z l * wb + stpN z l * ws
/-- What the place q of all weighs. -/
def wgq (l : List Int) (wb ws q : Nat) : Nat := wgt l wb ws (Co.az.getD q (0, 0, 0, 0, 0))
def okW (l : List Int) (wb ws : Int) : Bool := okT l && (decide (0 ≤ wb) && (decide (wb ≤ 65536) && (decide (0 ≤ ws) && decide (ws ≤ 65536))))
/-- The one that is chosen. -/
def chZ (l : List Int) (wb ws : Int) : Co.Zf := if okW l wb ws = true then Co.az.getD (am (wgq l wb.toNat ws.toNat) 378) (0, 0, 0, 0, 0) else (0, 0, 0, 0, 0)
def chE (l : List Int) (wb ws : Int) : Int := if okW l wb ws = true then 0 else 2
theorem okW_not {l : List Int} {wb ws : Int} (h : ¬ (0 ≤ wb ∧ wb ≤ 65536 ∧ 0 ≤ ws ∧ ws ≤ 65536)) : okW l wb ws = false := by
  refine Bool.eq_false_iff.2 fun e => h ?_
  unfold okW at e
  simp only [Bool.and_eq_true, decide_eq_true_eq] at e
  exact e.2
theorem az_get (q : Nat) (h : q < 378) : ∃ c, Co.all[q]? = some c ∧ Co.az.getD q (0, 0, 0, 0, 0) = Co.toZ c := by
  have hl : q < Co.all.length := by rw [Co.all_len]; exact h
  refine ⟨Co.all[q], List.getElem?_eq_getElem hl, ?_⟩
  unfold Co.az
  rw [List.getD_eq_getElem?_getD, List.getElem?_map, List.getElem?_eq_getElem hl]
  rfl
end Pn
theorem al_five {w : World} {g q : Nat} {c : Co.Cf} (h : AL w g) (hc : Co.all[q]? = some c) : w.cell? ⟨g, q * 5, none⟩ = some (.int .i64 (c.1 : Int)) ∧ w.cell? ⟨g, q * 5 + 1, none⟩ = some (.int .i64 (c.2.1 : Int)) ∧ w.cell? ⟨g, q * 5 + 2, none⟩ = some (.int .i64 (c.2.2.1 : Int)) ∧ w.cell? ⟨g, q * 5 + 3, none⟩ = some (.int .i64 (c.2.2.2.1 : Int)) ∧ w.cell? ⟨g, q * 5 + 4, none⟩ = some (.int .i64 (c.2.2.2.2 : Int)) :=
  ⟨h.2 q c hc 0 _ rfl, h.2 q c hc 1 _ rfl, h.2 q c hc 2 _ rfl, h.2 q c hc 3 _ rfl, h.2 q c hc 4 _ rfl⟩
set_option maxHeartbeats 8000000 in
theorem rchoose_in (wb ws : Nat) (hwb : wb ≤ 65536) (hws : ws ≤ 65536) (ao : Option Addr) (l : List Int) (cap : Nat) (w : World) (hx : Nd w ao l) (hl : l.length ≤ 1048576) (hT : Pn.okT l = true) :
    Calls Try.prog 16 #[.slice ao l.length cap, .agg #[.int .i64 (wb : Int), .int .i64 (ws : Int)]] w fun e w' => e = .returned (.tuple #[.agg (Co.cv (Pn.chZ l wb ws)).toArray, .int .i64 0]) ∧ Below w.heap.size w w' := by
  obtain ⟨hw, ht⟩ := Pn.okT_parts hT
  have T1 : Hid (∀ w0, Below w.heap.size w w0 → Calls Try.prog 28 #[.slice ao l.length cap] w0 fun e w' => e = .returned (.int .i64 (Hv.tot (cntOf l) 256 : Nat)) ∧ w' = w0) := fun w0 h => by
    have := rtotal_c ao l cap w0 (hx.keep h) hl
    rw [Pn.totI_in hT] at this
    exact this
  have AA := hide rall_a
  unfold AllQ at AA
  have CBa : Hid (∀ z : Co.Zf, Hid (∀ w0, Below w.heap.size w w0 → Calls Try.prog 13 #[.agg #[.int .i64 z.1, .int .i64 z.2.1, .int .i64 z.2.2.1, .int .i64 z.2.2.2.1, .int .i64 z.2.2.2.2], .slice ao l.length cap] w0 fun e w' => e = .returned (.int .i64 (Pn.bitsN z l : Nat)) ∧ Below w0.heap.size w0 w')) := fun z w0 h => rbits_c z.1 z.2.1 z.2.2.1 z.2.2.2.1 z.2.2.2.2 ao l cap w0 (hx.keep h) hl
  have CSa : Hid (∀ z : Co.Zf, Hid (∀ w0, Below w.heap.size w w0 → Calls Try.prog 14 #[.agg #[.int .i64 z.1, .int .i64 z.2.1, .int .i64 z.2.2.1, .int .i64 z.2.2.2.1, .int .i64 z.2.2.2.2], .slice ao l.length cap] w0 fun e w' => e = .returned (.int .i64 (Pn.stpN z l : Nat)) ∧ Below w0.heap.size w0 w')) := fun z w0 h => rsteps_c z.1 z.2.1 z.2.2.1 z.2.2.2.1 z.2.2.2.2 ao l cap w0 (hx.keep h) hl
  have LB := hide (Pn.bitsN_le hT)
  have LS := hide (Pn.stpN_le hT)
  have CH : Hid (Pn.chZ l wb ws = Co.az.getD (Pn.am (Pn.wgq l wb ws) 378) (0, 0, 0, 0, 0)) := by
    show _ = _
    have : Pn.okW l wb ws = true := by
      unfold Pn.okW
      rw [hT, decide_eq_true (by omega), decide_eq_true (by omega), decide_eq_true (by omega), decide_eq_true (by omega)]
      rfl
    unfold Pn.chZ
    rw [if_pos this, Int.toNat_natCast, Int.toNat_natCast]
  obtain ⟨n, hn⟩ : ∃ n, Hid (n = Hv.tot (cntOf l) 256) := ⟨_, rfl⟩
  rw [← hn.out] at T1
  have hn8 : n ≤ 8192 := by rw [hn.out]; exact ht
  obtain ⟨f, hf⟩ : ∃ f, Hid (f = Pn.wgq l wb ws) := ⟨_, rfl⟩
  rw [← hf.out] at CH
  obtain ⟨W, hW⟩ : ∃ W, W = (w.alloc (.cells #[.int .i64 (wb : Int), .int .i64 (ws : Int)] 32)).alloc (.cells #[.int .i64 0, .int .i64 0, .int .i64 0, .int .i64 0, .int .i64 0] 23) := ⟨_, rfl⟩
  have B1 := hide (show Cel W w.heap.size [.int .i64 (wb : Int), .int .i64 (ws : Int)] 32 by rw [hW]; exact (Cel.new w _ _).alloc _)
  have B2 := hide (show Cel W (w.heap.size + 1) [.int .i64 0, .int .i64 0, .int .i64 0, .int .i64 0, .int .i64 0] 23 by rw [hW]; exact Cel.new2 w _ _ _)
  have HbW := hide (show Below w.heap.size w W by rw [hW]; exact (below_alloc w _).alloc (by simp) _)
  have hz1 : ¬ (n : Int) < 0 := by omega
  have hz2 : ¬ (wb : Int) < 0 := by omega
  have hz3 : ¬ (65536 : Int) < (wb : Int) := by omega
  have hz4 : ¬ (ws : Int) < 0 := by omega
  have hz5 : ¬ (65536 : Int) < (ws : Int) := by omega
  have e0 := B1.out.cell 0 rfl
  have e1 := B1.out.cell 1 rfl
  clear hx hl hT hw ht
  go_enter Try.func16, Try.ntmps16
  go_wp2_with fail
  rw [← hW]
  refine (T1.out _ HbW.out).mono ?_
  rintro e w1 ⟨rfl, rfl⟩
  clear hW T1
  go_wp2_with fail
  refine (AA.out _).mono ?_
  rintro e w2 ⟨ga, gcap, rfl, hA, hcap, hga, hb2⟩
  have HA2 := hide hA
  have B1b := hide (B1.out.kept hb2)
  have B2b := hide (B2.out.kept hb2)
  have HB2 := hide (HbW.out.trans (hb2.mono HbW.out.size))
  have g1 := B2.out.lt
  clear hA hb2 AA B1 B2 HbW e0 e1
  go_wp2
  go_loopw [7, 8, 9] (fun vb vl vi wr => ∃ (q b : Nat) (ls : Int), q ≤ 378 ∧ b < 378 ∧ vi = .int .i64 q ∧ vb = .int .i64 b ∧ vl = .int .i64 ls ∧ Hid (b = Pn.am f q ∧ ls = if q = 0 then -1 else (f b : Int)) ∧ Hid (Cel wr w.heap.size [.int .i64 (wb : Int), .int .i64 (ws : Int)] 32) ∧ Hid (AL wr ga) ∧ Hid (Below w2.heap.size w2 wr)) (fun _ _ vi _ => 378 - (intOf vi).toNat)
  case atStart => exact ⟨0, 0, -1, Nat.zero_le _, by omega, rfl, rfl, rfl, ⟨rfl, rfl⟩, B1b, HA2, Below.refl _ _⟩
  case round =>
    obtain ⟨q, b, ls, hq, hb, rfl, rfl, rfl, HI, HWt, HA, HBr⟩ := hrel
    by_cases hlt : q < 378
    · have hltz : (q : Int) < 378 := by omega
      obtain ⟨c, hc, hz⟩ := Pn.az_get q hlt
      have HZ : Hid (f q = Pn.wgt l wb ws (Co.toZ c)) := by show _ = _; rw [hf.out, ← hz]; rfl
      have CB : Hid (∀ w0, Below w2.heap.size w2 w0 → Calls Try.prog 13 #[.agg #[.int .i64 (c.1 : Int), .int .i64 (c.2.1 : Int), .int .i64 (c.2.2.1 : Int), .int .i64 (c.2.2.2.1 : Int), .int .i64 (c.2.2.2.2 : Int)], .slice ao l.length cap] w0 fun e w' => e = .returned (.int .i64 (Pn.bitsN (Co.toZ c) l : Nat)) ∧ Below w0.heap.size w0 w') := fun w0 h => (CBa.out (Co.toZ c)).out w0 (HB2.out.trans (h.mono HB2.out.size))
      have CS : Hid (∀ w0, Below w2.heap.size w2 w0 → Calls Try.prog 14 #[.agg #[.int .i64 (c.1 : Int), .int .i64 (c.2.1 : Int), .int .i64 (c.2.2.1 : Int), .int .i64 (c.2.2.2.1 : Int), .int .i64 (c.2.2.2.2 : Int)], .slice ao l.length cap] w0 fun e w' => e = .returned (.int .i64 (Pn.stpN (Co.toZ c) l : Nat)) ∧ Below w0.heap.size w0 w') := fun w0 h => (CSa.out (Co.toZ c)).out w0 (HB2.out.trans (h.mono HB2.out.size))
      have lb := LB.out (Co.toZ c)
      have lS := LS.out (Co.toZ c)
      unfold Pn.wgt at HZ
      generalize Pn.bitsN (Co.toZ c) l = bv at *
      generalize Pn.stpN (Co.toZ c) l = sv at *
      have p1 := Nat.mul_le_mul lb hwb
      have p2 := Nat.mul_le_mul lS hws
      have e1x : (bv : Int) * (wb : Int) = ((bv * wb : Nat) : Int) := by rw [Int.natCast_mul]
      have e2x : (sv : Int) * (ws : Int) = ((sv * ws : Nat) : Int) := by rw [Int.natCast_mul]
      generalize bv * wb = x1 at *
      generalize sv * ws = x2 at *
      obtain ⟨x, hxx⟩ : ∃ x, x = x1 + x2 := ⟨_, rfl⟩
      rw [← hxx] at HZ
      obtain ⟨hb1, hls⟩ := HI.out
      have HC := hide hc
      clear hc
      by_cases h0 : q = 0
      · have hlz : ls < 0 := by rw [hls, if_pos h0]; decide
        have HI1 : Hid (q = Pn.am f (q + 1) ∧ (x : Int) = if q + 1 = 0 then -1 else (f q : Int)) := ⟨by rw [Pn.am, if_pos h0]; exact h0, by rw [if_neg (by omega), HZ.out]⟩
        clear HI hz hb1 hls HZ h0 CBa CSa
        go_wp2
        refine region_g [] (fun w' => Cel w' w.heap.size [.int .i64 (wb : Int), .int .i64 (ws : Int)] 32 ∧ AL w' ga ∧ Below w2.heap.size w2 w') (by kernel_rfl) ?_
        have hS : (fun w' => Cel w' w.heap.size [.int .i64 (wb : Int), .int .i64 (ws : Int)] 32 ∧ AL w' ga ∧ Below w2.heap.size w2 w') wr.drew := ⟨HWt.out.drew, HA.out, HBr.out.drew⟩
        clear HWt HA HBr
        generalize wr.drew = V at *
        refine AnyG.take 0 (v := ?vv1) rfl (by kernel_rfl) (by kernel_rfl) (by kernel_rfl) (by kernel_rfl) (fun _ _ _ h => h) hS ?hy1 (by rfl) ?rest1
        case hy1 =>
          intro w0 h0
          go_simp
          try with_reducible rfl
        simp only [Act.put, List.getElem_toArray, List.getElem_cons_zero, List.getElem_cons_succ, List.setIfInBounds_toArray, List.set_cons_zero, List.set_cons_succ]
        refine AnyG.take 1 (v := ?vv2) rfl (by kernel_rfl) (by kernel_rfl) (by kernel_rfl) (by kernel_rfl) (fun _ _ _ h => h) hS ?hy2 (by rfl) ?rest2
        case hy2 =>
          intro w0 h0
          go_simp
          try with_reducible rfl
        simp only [Act.put, List.getElem_toArray, List.getElem_cons_zero, List.getElem_cons_succ, List.setIfInBounds_toArray, List.set_cons_zero, List.set_cons_succ]
        refine AnyG.take 2 (v := ?vv3) rfl (by kernel_rfl) (by kernel_rfl) (by kernel_rfl) (by kernel_rfl) (fun _ _ _ h => h) hS ?hy3 (by rfl) ?rest3
        case hy3 =>
          intro w0 h0
          go_simp
          try with_reducible rfl
        simp only [Act.put, List.getElem_toArray, List.getElem_cons_zero, List.getElem_cons_succ, List.setIfInBounds_toArray, List.set_cons_zero, List.set_cons_succ]
        refine AnyG.take 3 (v := ?vv4) rfl (by kernel_rfl) (by kernel_rfl) (by kernel_rfl) (by kernel_rfl) (fun _ _ _ h => h) hS ?hy4 (by rfl) ?rest4
        case hy4 =>
          intro w0 h0
          obtain ⟨a0, a1, a2, a3, a4⟩ := al_five h0.2.1 HC.out
          go_simp
          try with_reducible rfl
        simp only [Act.put, List.getElem_toArray, List.getElem_cons_zero, List.getElem_cons_succ, List.setIfInBounds_toArray, List.set_cons_zero, List.set_cons_succ]
        refine AnyG.take 4 (v := ?vv5) rfl (by kernel_rfl) (by kernel_rfl) (by kernel_rfl) (by kernel_rfl) (fun _ _ _ h => h) hS ?hy5 (by rfl) ?rest5
        case hy5 =>
          intro w0 h0
          go_simp
          try with_reducible rfl
        simp only [Act.put, List.getElem_toArray, List.getElem_cons_zero, List.getElem_cons_succ, List.setIfInBounds_toArray, List.set_cons_zero, List.set_cons_succ]
        refine AnyG.take 6 (v := ?vv6) rfl (by kernel_rfl) (by kernel_rfl) (by kernel_rfl) (by kernel_rfl) (fun _ _ _ h => h) hS ?hy6 (by rfl) ?rest6
        case hy6 =>
          intro w0 h0
          go_simp
          try with_reducible rfl
        simp only [Act.put, List.getElem_toArray, List.getElem_cons_zero, List.getElem_cons_succ, List.setIfInBounds_toArray, List.set_cons_zero, List.set_cons_succ]
        refine AnyG.take 7 (v := ?vv7) rfl (by kernel_rfl) (by kernel_rfl) (by kernel_rfl) (by kernel_rfl) (fun _ _ _ h => h) hS ?hy7 (by rfl) ?rest7
        case hy7 =>
          intro w0 h0
          have e0 := h0.1.cell 0 rfl
          have e1 := h0.1.cell 1 rfl
          go_simp
          try with_reducible rfl
        simp only [Act.put, List.getElem_toArray, List.getElem_cons_zero, List.getElem_cons_succ, List.setIfInBounds_toArray, List.set_cons_zero, List.set_cons_succ]
        refine AnyG.take 9 (v := ?vv8) rfl (by kernel_rfl) (by kernel_rfl) (by kernel_rfl) (by kernel_rfl) (fun _ _ _ h => h) hS ?hy8 (by rfl) ?rest8
        case hy8 =>
          intro w0 h0
          go_simp
          try with_reducible rfl
        simp only [Act.put, List.getElem_toArray, List.getElem_cons_zero, List.getElem_cons_succ, List.setIfInBounds_toArray, List.set_cons_zero, List.set_cons_succ]
        refine AnyG.take 10 (v := ?vv9) rfl (by kernel_rfl) (by kernel_rfl) (by kernel_rfl) (by kernel_rfl) (fun _ _ _ h => h) hS ?hy9 (by rfl) ?rest9
        case hy9 =>
          intro w0 h0
          go_simp
          try with_reducible rfl
        simp only [Act.put, List.getElem_toArray, List.getElem_cons_zero, List.getElem_cons_succ, List.setIfInBounds_toArray, List.set_cons_zero, List.set_cons_succ]
        refine AnyG.take 11 (v := ?vv10) rfl (by kernel_rfl) (by kernel_rfl) (by kernel_rfl) (by kernel_rfl) (fun _ _ _ h => h) hS ?hy10 (by rfl) ?rest10
        case hy10 =>
          intro w0 h0
          go_simp
          try with_reducible rfl
        simp only [Act.put, List.getElem_toArray, List.getElem_cons_zero, List.getElem_cons_succ, List.setIfInBounds_toArray, List.set_cons_zero, List.set_cons_succ]
        refine AnyG.take 12 (v := ?vv11) rfl (by kernel_rfl) (by kernel_rfl) (by kernel_rfl) (by kernel_rfl) (fun _ _ _ h => h) hS ?hy11 (by rfl) ?rest11
        case hy11 =>
          intro w0 h0
          obtain ⟨a0, a1, a2, a3, a4⟩ := al_five h0.2.1 HC.out
          go_simp
          try with_reducible rfl
        simp only [Act.put, List.getElem_toArray, List.getElem_cons_zero, List.getElem_cons_succ, List.setIfInBounds_toArray, List.set_cons_zero, List.set_cons_succ]
        refine AnyG.take 13 (v := ?vv12) rfl (by kernel_rfl) (by kernel_rfl) (by kernel_rfl) (by kernel_rfl) (fun _ _ _ h => h) hS ?hy12 (by rfl) ?rest12
        case hy12 =>
          intro w0 h0
          go_simp
          try with_reducible rfl
        simp only [Act.put, List.getElem_toArray, List.getElem_cons_zero, List.getElem_cons_succ, List.setIfInBounds_toArray, List.set_cons_zero, List.set_cons_succ]
        refine AnyG.take 15 (v := ?vv13) rfl (by kernel_rfl) (by kernel_rfl) (by kernel_rfl) (by kernel_rfl) (fun _ _ _ h => h) hS ?hy13 (by rfl) ?rest13
        case hy13 =>
          intro w0 h0
          go_simp
          try with_reducible rfl
        simp only [Act.put, List.getElem_toArray, List.getElem_cons_zero, List.getElem_cons_succ, List.setIfInBounds_toArray, List.set_cons_zero, List.set_cons_succ]
        refine AnyG.take 16 (v := ?vv14) rfl (by kernel_rfl) (by kernel_rfl) (by kernel_rfl) (by kernel_rfl) (fun _ _ _ h => h) hS ?hy14 (by rfl) ?rest14
        case hy14 =>
          intro w0 h0
          have e0 := h0.1.cell 0 rfl
          have e1 := h0.1.cell 1 rfl
          go_simp
          try with_reducible rfl
        simp only [Act.put, List.getElem_toArray, List.getElem_cons_zero, List.getElem_cons_succ, List.setIfInBounds_toArray, List.set_cons_zero, List.set_cons_succ]
        refine AnyG.one 5 (by kernel_rfl) rfl ?_
        intro K hK
        go_simp
        refine (CB.out _ hS.2.2).mono ?_
        rintro e v1 ⟨rfl, hb⟩
        have hS1 : (fun w' => Cel w' w.heap.size [.int .i64 (wb : Int), .int .i64 (ws : Int)] 32 ∧ AL w' ga ∧ Below w2.heap.size w2 w') v1 := ⟨hS.1.kept hb, hS.2.1.keep hb, hS.2.2.trans (hb.mono hS.2.2.size)⟩
        clear hb hS
        refine hK.out _ _ (fun _ => hS1) ?_
        clear hK K
        try simp only [Act.put, List.getElem_toArray, List.getElem_cons_zero, List.getElem_cons_succ, List.setIfInBounds_toArray, List.set_cons_zero, List.set_cons_succ]
        refine AnyG.take 8 (v := .int .i64 (x1 : Int)) rfl (by kernel_rfl) (by kernel_rfl) (by kernel_rfl) (by kernel_rfl) (fun _ _ _ h => h) hS1 ?hy15 (by rfl) ?rest15
        case hy15 =>
          intro w0 h0
          have wr : IntKind.i64.wrap ((bv : Int) * (wb : Int)) = (x1 : Int) := by rw [e1x, IntKind.wrap_i64]; omega
          go_simp
          try with_reducible rfl
          try (rw [IntKind.wrap_i64]; omega)
        simp only [Act.put, List.getElem_toArray, List.getElem_cons_zero, List.getElem_cons_succ, List.setIfInBounds_toArray, List.set_cons_zero, List.set_cons_succ]
        refine AnyG.one 14 (by kernel_rfl) rfl ?_
        intro K hK
        go_simp
        refine (CS.out _ hS1.2.2).mono ?_
        rintro e v2 ⟨rfl, hb⟩
        have hS2 : (fun w' => Cel w' w.heap.size [.int .i64 (wb : Int), .int .i64 (ws : Int)] 32 ∧ AL w' ga ∧ Below w2.heap.size w2 w') v2 := ⟨hS1.1.kept hb, hS1.2.1.keep hb, hS1.2.2.trans (hb.mono hS1.2.2.size)⟩
        clear hb hS1
        refine hK.out _ _ (fun _ => hS2) ?_
        clear hK K
        try simp only [Act.put, List.getElem_toArray, List.getElem_cons_zero, List.getElem_cons_succ, List.setIfInBounds_toArray, List.set_cons_zero, List.set_cons_succ]
        refine AnyG.take 17 (v := .int .i64 (x2 : Int)) rfl (by kernel_rfl) (by kernel_rfl) (by kernel_rfl) (by kernel_rfl) (fun _ _ _ h => h) hS2 ?hy16 (by rfl) ?rest16
        case hy16 =>
          intro w0 h0
          have wr : IntKind.i64.wrap ((sv : Int) * (ws : Int)) = (x2 : Int) := by rw [e2x, IntKind.wrap_i64]; omega
          go_simp
          try with_reducible rfl
          try (rw [IntKind.wrap_i64]; omega)
        simp only [Act.put, List.getElem_toArray, List.getElem_cons_zero, List.getElem_cons_succ, List.setIfInBounds_toArray, List.set_cons_zero, List.set_cons_succ]
        refine AnyG.take 18 (v := .int .i64 (x : Int)) rfl (by kernel_rfl) (by kernel_rfl) (by kernel_rfl) (by kernel_rfl) (fun _ _ _ h => h) hS2 ?hy17 (by rfl) ?rest17
        case hy17 =>
          intro w0 h0
          have wr : IntKind.i64.wrap ((x1 : Int) + (x2 : Int)) = (x : Int) := by rw [IntKind.wrap_i64]; omega
          go_simp
          try with_reducible rfl
          try (rw [IntKind.wrap_i64]; omega)
        simp only [Act.put, List.getElem_toArray, List.getElem_cons_zero, List.getElem_cons_succ, List.setIfInBounds_toArray, List.set_cons_zero, List.set_cons_succ]
        refine AnyG.take 19 (v := ?vv18) rfl (by kernel_rfl) (by kernel_rfl) (by kernel_rfl) (by kernel_rfl) (fun _ _ _ h => h) hS2 ?hy18 (by rfl) ?rest18
        case hy18 =>
          intro w0 h0
          go_simp
          try with_reducible rfl
        simp only [Act.put, List.getElem_toArray, List.getElem_cons_zero, List.getElem_cons_succ, List.setIfInBounds_toArray, List.set_cons_zero, List.set_cons_succ]
        refine AnyG.done (by kernel_rfl) ?_ _
        have HB := hide hS2.2.2
        have HAA := hide hS2.2.1
        have HWW := hide hS2.1
        clear hS2
        go_wp2
        exact ⟨⟨q + 1, q, x, by omega, hlt, by go_num, rfl, by go_num, HI1, HWW, HAA, HB⟩, by simp only [intOf]; omega⟩
      · rw [if_neg h0] at hls
        obtain ⟨y, hy⟩ : ∃ y, Hid (y = f b) := ⟨_, rfl⟩
        rw [← hy.out] at hls
        subst hls
        by_cases hxy : x < y
        · have HI1 : Hid (q = Pn.am f (q + 1) ∧ (x : Int) = if q + 1 = 0 then -1 else (f q : Int)) := ⟨by rw [Pn.am, if_neg h0, if_pos (by rw [← hb1, ← hy.out, HZ.out]; exact hxy)], by rw [if_neg (by omega), HZ.out]⟩
          have hxz : (x : Int) < (y : Int) := by omega
          have hyz : ¬ (y : Int) < 0 := by omega
          clear HI hz hb1 HZ h0 CBa CSa hy
          go_wp2
          refine region_g [] (fun w' => Cel w' w.heap.size [.int .i64 (wb : Int), .int .i64 (ws : Int)] 32 ∧ AL w' ga ∧ Below w2.heap.size w2 w') (by kernel_rfl) ?_
          have hS : (fun w' => Cel w' w.heap.size [.int .i64 (wb : Int), .int .i64 (ws : Int)] 32 ∧ AL w' ga ∧ Below w2.heap.size w2 w') wr.drew := ⟨HWt.out.drew, HA.out, HBr.out.drew⟩
          clear HWt HA HBr
          generalize wr.drew = V at *
          refine AnyG.take 0 (v := ?vv61) rfl (by kernel_rfl) (by kernel_rfl) (by kernel_rfl) (by kernel_rfl) (fun _ _ _ h => h) hS ?hy61 (by rfl) ?rest61
          case hy61 =>
            intro w0 h0
            go_simp
            try with_reducible rfl
          simp only [Act.put, List.getElem_toArray, List.getElem_cons_zero, List.getElem_cons_succ, List.setIfInBounds_toArray, List.set_cons_zero, List.set_cons_succ]
          refine AnyG.take 1 (v := ?vv62) rfl (by kernel_rfl) (by kernel_rfl) (by kernel_rfl) (by kernel_rfl) (fun _ _ _ h => h) hS ?hy62 (by rfl) ?rest62
          case hy62 =>
            intro w0 h0
            go_simp
            try with_reducible rfl
          simp only [Act.put, List.getElem_toArray, List.getElem_cons_zero, List.getElem_cons_succ, List.setIfInBounds_toArray, List.set_cons_zero, List.set_cons_succ]
          refine AnyG.take 2 (v := ?vv63) rfl (by kernel_rfl) (by kernel_rfl) (by kernel_rfl) (by kernel_rfl) (fun _ _ _ h => h) hS ?hy63 (by rfl) ?rest63
          case hy63 =>
            intro w0 h0
            go_simp
            try with_reducible rfl
          simp only [Act.put, List.getElem_toArray, List.getElem_cons_zero, List.getElem_cons_succ, List.setIfInBounds_toArray, List.set_cons_zero, List.set_cons_succ]
          refine AnyG.take 3 (v := ?vv64) rfl (by kernel_rfl) (by kernel_rfl) (by kernel_rfl) (by kernel_rfl) (fun _ _ _ h => h) hS ?hy64 (by rfl) ?rest64
          case hy64 =>
            intro w0 h0
            obtain ⟨a0, a1, a2, a3, a4⟩ := al_five h0.2.1 HC.out
            go_simp
            try with_reducible rfl
          simp only [Act.put, List.getElem_toArray, List.getElem_cons_zero, List.getElem_cons_succ, List.setIfInBounds_toArray, List.set_cons_zero, List.set_cons_succ]
          refine AnyG.take 4 (v := ?vv65) rfl (by kernel_rfl) (by kernel_rfl) (by kernel_rfl) (by kernel_rfl) (fun _ _ _ h => h) hS ?hy65 (by rfl) ?rest65
          case hy65 =>
            intro w0 h0
            go_simp
            try with_reducible rfl
          simp only [Act.put, List.getElem_toArray, List.getElem_cons_zero, List.getElem_cons_succ, List.setIfInBounds_toArray, List.set_cons_zero, List.set_cons_succ]
          refine AnyG.take 6 (v := ?vv66) rfl (by kernel_rfl) (by kernel_rfl) (by kernel_rfl) (by kernel_rfl) (fun _ _ _ h => h) hS ?hy66 (by rfl) ?rest66
          case hy66 =>
            intro w0 h0
            go_simp
            try with_reducible rfl
          simp only [Act.put, List.getElem_toArray, List.getElem_cons_zero, List.getElem_cons_succ, List.setIfInBounds_toArray, List.set_cons_zero, List.set_cons_succ]
          refine AnyG.take 7 (v := ?vv67) rfl (by kernel_rfl) (by kernel_rfl) (by kernel_rfl) (by kernel_rfl) (fun _ _ _ h => h) hS ?hy67 (by rfl) ?rest67
          case hy67 =>
            intro w0 h0
            have e0 := h0.1.cell 0 rfl
            have e1 := h0.1.cell 1 rfl
            go_simp
            try with_reducible rfl
          simp only [Act.put, List.getElem_toArray, List.getElem_cons_zero, List.getElem_cons_succ, List.setIfInBounds_toArray, List.set_cons_zero, List.set_cons_succ]
          refine AnyG.take 9 (v := ?vv68) rfl (by kernel_rfl) (by kernel_rfl) (by kernel_rfl) (by kernel_rfl) (fun _ _ _ h => h) hS ?hy68 (by rfl) ?rest68
          case hy68 =>
            intro w0 h0
            go_simp
            try with_reducible rfl
          simp only [Act.put, List.getElem_toArray, List.getElem_cons_zero, List.getElem_cons_succ, List.setIfInBounds_toArray, List.set_cons_zero, List.set_cons_succ]
          refine AnyG.take 10 (v := ?vv69) rfl (by kernel_rfl) (by kernel_rfl) (by kernel_rfl) (by kernel_rfl) (fun _ _ _ h => h) hS ?hy69 (by rfl) ?rest69
          case hy69 =>
            intro w0 h0
            go_simp
            try with_reducible rfl
          simp only [Act.put, List.getElem_toArray, List.getElem_cons_zero, List.getElem_cons_succ, List.setIfInBounds_toArray, List.set_cons_zero, List.set_cons_succ]
          refine AnyG.take 11 (v := ?vv70) rfl (by kernel_rfl) (by kernel_rfl) (by kernel_rfl) (by kernel_rfl) (fun _ _ _ h => h) hS ?hy70 (by rfl) ?rest70
          case hy70 =>
            intro w0 h0
            go_simp
            try with_reducible rfl
          simp only [Act.put, List.getElem_toArray, List.getElem_cons_zero, List.getElem_cons_succ, List.setIfInBounds_toArray, List.set_cons_zero, List.set_cons_succ]
          refine AnyG.take 12 (v := ?vv71) rfl (by kernel_rfl) (by kernel_rfl) (by kernel_rfl) (by kernel_rfl) (fun _ _ _ h => h) hS ?hy71 (by rfl) ?rest71
          case hy71 =>
            intro w0 h0
            obtain ⟨a0, a1, a2, a3, a4⟩ := al_five h0.2.1 HC.out
            go_simp
            try with_reducible rfl
          simp only [Act.put, List.getElem_toArray, List.getElem_cons_zero, List.getElem_cons_succ, List.setIfInBounds_toArray, List.set_cons_zero, List.set_cons_succ]
          refine AnyG.take 13 (v := ?vv72) rfl (by kernel_rfl) (by kernel_rfl) (by kernel_rfl) (by kernel_rfl) (fun _ _ _ h => h) hS ?hy72 (by rfl) ?rest72
          case hy72 =>
            intro w0 h0
            go_simp
            try with_reducible rfl
          simp only [Act.put, List.getElem_toArray, List.getElem_cons_zero, List.getElem_cons_succ, List.setIfInBounds_toArray, List.set_cons_zero, List.set_cons_succ]
          refine AnyG.take 15 (v := ?vv73) rfl (by kernel_rfl) (by kernel_rfl) (by kernel_rfl) (by kernel_rfl) (fun _ _ _ h => h) hS ?hy73 (by rfl) ?rest73
          case hy73 =>
            intro w0 h0
            go_simp
            try with_reducible rfl
          simp only [Act.put, List.getElem_toArray, List.getElem_cons_zero, List.getElem_cons_succ, List.setIfInBounds_toArray, List.set_cons_zero, List.set_cons_succ]
          refine AnyG.take 16 (v := ?vv74) rfl (by kernel_rfl) (by kernel_rfl) (by kernel_rfl) (by kernel_rfl) (fun _ _ _ h => h) hS ?hy74 (by rfl) ?rest74
          case hy74 =>
            intro w0 h0
            have e0 := h0.1.cell 0 rfl
            have e1 := h0.1.cell 1 rfl
            go_simp
            try with_reducible rfl
          simp only [Act.put, List.getElem_toArray, List.getElem_cons_zero, List.getElem_cons_succ, List.setIfInBounds_toArray, List.set_cons_zero, List.set_cons_succ]
          refine AnyG.one 5 (by kernel_rfl) rfl ?_
          intro K hK
          go_simp
          refine (CB.out _ hS.2.2).mono ?_
          rintro e v1 ⟨rfl, hb⟩
          have hS1 : (fun w' => Cel w' w.heap.size [.int .i64 (wb : Int), .int .i64 (ws : Int)] 32 ∧ AL w' ga ∧ Below w2.heap.size w2 w') v1 := ⟨hS.1.kept hb, hS.2.1.keep hb, hS.2.2.trans (hb.mono hS.2.2.size)⟩
          clear hb hS
          refine hK.out _ _ (fun _ => hS1) ?_
          clear hK K
          try simp only [Act.put, List.getElem_toArray, List.getElem_cons_zero, List.getElem_cons_succ, List.setIfInBounds_toArray, List.set_cons_zero, List.set_cons_succ]
          refine AnyG.take 8 (v := .int .i64 (x1 : Int)) rfl (by kernel_rfl) (by kernel_rfl) (by kernel_rfl) (by kernel_rfl) (fun _ _ _ h => h) hS1 ?hy75 (by rfl) ?rest75
          case hy75 =>
            intro w0 h0
            have wr : IntKind.i64.wrap ((bv : Int) * (wb : Int)) = (x1 : Int) := by rw [e1x, IntKind.wrap_i64]; omega
            go_simp
            try with_reducible rfl
            try (rw [IntKind.wrap_i64]; omega)
          simp only [Act.put, List.getElem_toArray, List.getElem_cons_zero, List.getElem_cons_succ, List.setIfInBounds_toArray, List.set_cons_zero, List.set_cons_succ]
          refine AnyG.one 14 (by kernel_rfl) rfl ?_
          intro K hK
          go_simp
          refine (CS.out _ hS1.2.2).mono ?_
          rintro e v2 ⟨rfl, hb⟩
          have hS2 : (fun w' => Cel w' w.heap.size [.int .i64 (wb : Int), .int .i64 (ws : Int)] 32 ∧ AL w' ga ∧ Below w2.heap.size w2 w') v2 := ⟨hS1.1.kept hb, hS1.2.1.keep hb, hS1.2.2.trans (hb.mono hS1.2.2.size)⟩
          clear hb hS1
          refine hK.out _ _ (fun _ => hS2) ?_
          clear hK K
          try simp only [Act.put, List.getElem_toArray, List.getElem_cons_zero, List.getElem_cons_succ, List.setIfInBounds_toArray, List.set_cons_zero, List.set_cons_succ]
          refine AnyG.take 17 (v := .int .i64 (x2 : Int)) rfl (by kernel_rfl) (by kernel_rfl) (by kernel_rfl) (by kernel_rfl) (fun _ _ _ h => h) hS2 ?hy76 (by rfl) ?rest76
          case hy76 =>
            intro w0 h0
            have wr : IntKind.i64.wrap ((sv : Int) * (ws : Int)) = (x2 : Int) := by rw [e2x, IntKind.wrap_i64]; omega
            go_simp
            try with_reducible rfl
            try (rw [IntKind.wrap_i64]; omega)
          simp only [Act.put, List.getElem_toArray, List.getElem_cons_zero, List.getElem_cons_succ, List.setIfInBounds_toArray, List.set_cons_zero, List.set_cons_succ]
          refine AnyG.take 18 (v := .int .i64 (x : Int)) rfl (by kernel_rfl) (by kernel_rfl) (by kernel_rfl) (by kernel_rfl) (fun _ _ _ h => h) hS2 ?hy77 (by rfl) ?rest77
          case hy77 =>
            intro w0 h0
            have wr : IntKind.i64.wrap ((x1 : Int) + (x2 : Int)) = (x : Int) := by rw [IntKind.wrap_i64]; omega
            go_simp
            try with_reducible rfl
            try (rw [IntKind.wrap_i64]; omega)
          simp only [Act.put, List.getElem_toArray, List.getElem_cons_zero, List.getElem_cons_succ, List.setIfInBounds_toArray, List.set_cons_zero, List.set_cons_succ]
          refine AnyG.take 19 (v := ?vv78) rfl (by kernel_rfl) (by kernel_rfl) (by kernel_rfl) (by kernel_rfl) (fun _ _ _ h => h) hS2 ?hy78 (by rfl) ?rest78
          case hy78 =>
            intro w0 h0
            go_simp
            try with_reducible rfl
          simp only [Act.put, List.getElem_toArray, List.getElem_cons_zero, List.getElem_cons_succ, List.setIfInBounds_toArray, List.set_cons_zero, List.set_cons_succ]
          refine AnyG.done (by kernel_rfl) ?_ _
          have HB := hide hS2.2.2
          have HAA := hide hS2.2.1
          have HWW := hide hS2.1
          clear hS2
          go_wp2
          exact ⟨⟨q + 1, q, x, by omega, hlt, by go_num, rfl, by go_num, HI1, HWW, HAA, HB⟩, by simp only [intOf]; omega⟩
        · have HI1 : Hid (b = Pn.am f (q + 1) ∧ (y : Int) = if q + 1 = 0 then -1 else (f b : Int)) := ⟨by rw [Pn.am, if_neg h0, if_neg (by rw [← hb1, ← hy.out, HZ.out]; exact hxy)]; exact hb1, by rw [if_neg (by omega), hy.out]⟩
          have hxz : ¬ (x : Int) < (y : Int) := by omega
          have hyz : ¬ (y : Int) < 0 := by omega
          clear HI hz hb1 HZ h0 CBa CSa hy
          go_wp2
          refine region_g [] (fun w' => Cel w' w.heap.size [.int .i64 (wb : Int), .int .i64 (ws : Int)] 32 ∧ AL w' ga ∧ Below w2.heap.size w2 w') (by kernel_rfl) ?_
          have hS : (fun w' => Cel w' w.heap.size [.int .i64 (wb : Int), .int .i64 (ws : Int)] 32 ∧ AL w' ga ∧ Below w2.heap.size w2 w') wr.drew := ⟨HWt.out.drew, HA.out, HBr.out.drew⟩
          clear HWt HA HBr
          generalize wr.drew = V at *
          refine AnyG.take 0 (v := ?vv121) rfl (by kernel_rfl) (by kernel_rfl) (by kernel_rfl) (by kernel_rfl) (fun _ _ _ h => h) hS ?hy121 (by rfl) ?rest121
          case hy121 =>
            intro w0 h0
            go_simp
            try with_reducible rfl
          simp only [Act.put, List.getElem_toArray, List.getElem_cons_zero, List.getElem_cons_succ, List.setIfInBounds_toArray, List.set_cons_zero, List.set_cons_succ]
          refine AnyG.take 1 (v := ?vv122) rfl (by kernel_rfl) (by kernel_rfl) (by kernel_rfl) (by kernel_rfl) (fun _ _ _ h => h) hS ?hy122 (by rfl) ?rest122
          case hy122 =>
            intro w0 h0
            go_simp
            try with_reducible rfl
          simp only [Act.put, List.getElem_toArray, List.getElem_cons_zero, List.getElem_cons_succ, List.setIfInBounds_toArray, List.set_cons_zero, List.set_cons_succ]
          refine AnyG.take 2 (v := ?vv123) rfl (by kernel_rfl) (by kernel_rfl) (by kernel_rfl) (by kernel_rfl) (fun _ _ _ h => h) hS ?hy123 (by rfl) ?rest123
          case hy123 =>
            intro w0 h0
            go_simp
            try with_reducible rfl
          simp only [Act.put, List.getElem_toArray, List.getElem_cons_zero, List.getElem_cons_succ, List.setIfInBounds_toArray, List.set_cons_zero, List.set_cons_succ]
          refine AnyG.take 3 (v := ?vv124) rfl (by kernel_rfl) (by kernel_rfl) (by kernel_rfl) (by kernel_rfl) (fun _ _ _ h => h) hS ?hy124 (by rfl) ?rest124
          case hy124 =>
            intro w0 h0
            obtain ⟨a0, a1, a2, a3, a4⟩ := al_five h0.2.1 HC.out
            go_simp
            try with_reducible rfl
          simp only [Act.put, List.getElem_toArray, List.getElem_cons_zero, List.getElem_cons_succ, List.setIfInBounds_toArray, List.set_cons_zero, List.set_cons_succ]
          refine AnyG.take 4 (v := ?vv125) rfl (by kernel_rfl) (by kernel_rfl) (by kernel_rfl) (by kernel_rfl) (fun _ _ _ h => h) hS ?hy125 (by rfl) ?rest125
          case hy125 =>
            intro w0 h0
            go_simp
            try with_reducible rfl
          simp only [Act.put, List.getElem_toArray, List.getElem_cons_zero, List.getElem_cons_succ, List.setIfInBounds_toArray, List.set_cons_zero, List.set_cons_succ]
          refine AnyG.take 6 (v := ?vv126) rfl (by kernel_rfl) (by kernel_rfl) (by kernel_rfl) (by kernel_rfl) (fun _ _ _ h => h) hS ?hy126 (by rfl) ?rest126
          case hy126 =>
            intro w0 h0
            go_simp
            try with_reducible rfl
          simp only [Act.put, List.getElem_toArray, List.getElem_cons_zero, List.getElem_cons_succ, List.setIfInBounds_toArray, List.set_cons_zero, List.set_cons_succ]
          refine AnyG.take 7 (v := ?vv127) rfl (by kernel_rfl) (by kernel_rfl) (by kernel_rfl) (by kernel_rfl) (fun _ _ _ h => h) hS ?hy127 (by rfl) ?rest127
          case hy127 =>
            intro w0 h0
            have e0 := h0.1.cell 0 rfl
            have e1 := h0.1.cell 1 rfl
            go_simp
            try with_reducible rfl
          simp only [Act.put, List.getElem_toArray, List.getElem_cons_zero, List.getElem_cons_succ, List.setIfInBounds_toArray, List.set_cons_zero, List.set_cons_succ]
          refine AnyG.take 9 (v := ?vv128) rfl (by kernel_rfl) (by kernel_rfl) (by kernel_rfl) (by kernel_rfl) (fun _ _ _ h => h) hS ?hy128 (by rfl) ?rest128
          case hy128 =>
            intro w0 h0
            go_simp
            try with_reducible rfl
          simp only [Act.put, List.getElem_toArray, List.getElem_cons_zero, List.getElem_cons_succ, List.setIfInBounds_toArray, List.set_cons_zero, List.set_cons_succ]
          refine AnyG.take 10 (v := ?vv129) rfl (by kernel_rfl) (by kernel_rfl) (by kernel_rfl) (by kernel_rfl) (fun _ _ _ h => h) hS ?hy129 (by rfl) ?rest129
          case hy129 =>
            intro w0 h0
            go_simp
            try with_reducible rfl
          simp only [Act.put, List.getElem_toArray, List.getElem_cons_zero, List.getElem_cons_succ, List.setIfInBounds_toArray, List.set_cons_zero, List.set_cons_succ]
          refine AnyG.take 11 (v := ?vv130) rfl (by kernel_rfl) (by kernel_rfl) (by kernel_rfl) (by kernel_rfl) (fun _ _ _ h => h) hS ?hy130 (by rfl) ?rest130
          case hy130 =>
            intro w0 h0
            go_simp
            try with_reducible rfl
          simp only [Act.put, List.getElem_toArray, List.getElem_cons_zero, List.getElem_cons_succ, List.setIfInBounds_toArray, List.set_cons_zero, List.set_cons_succ]
          refine AnyG.take 12 (v := ?vv131) rfl (by kernel_rfl) (by kernel_rfl) (by kernel_rfl) (by kernel_rfl) (fun _ _ _ h => h) hS ?hy131 (by rfl) ?rest131
          case hy131 =>
            intro w0 h0
            obtain ⟨a0, a1, a2, a3, a4⟩ := al_five h0.2.1 HC.out
            go_simp
            try with_reducible rfl
          simp only [Act.put, List.getElem_toArray, List.getElem_cons_zero, List.getElem_cons_succ, List.setIfInBounds_toArray, List.set_cons_zero, List.set_cons_succ]
          refine AnyG.take 13 (v := ?vv132) rfl (by kernel_rfl) (by kernel_rfl) (by kernel_rfl) (by kernel_rfl) (fun _ _ _ h => h) hS ?hy132 (by rfl) ?rest132
          case hy132 =>
            intro w0 h0
            go_simp
            try with_reducible rfl
          simp only [Act.put, List.getElem_toArray, List.getElem_cons_zero, List.getElem_cons_succ, List.setIfInBounds_toArray, List.set_cons_zero, List.set_cons_succ]
          refine AnyG.take 15 (v := ?vv133) rfl (by kernel_rfl) (by kernel_rfl) (by kernel_rfl) (by kernel_rfl) (fun _ _ _ h => h) hS ?hy133 (by rfl) ?rest133
          case hy133 =>
            intro w0 h0
            go_simp
            try with_reducible rfl
          simp only [Act.put, List.getElem_toArray, List.getElem_cons_zero, List.getElem_cons_succ, List.setIfInBounds_toArray, List.set_cons_zero, List.set_cons_succ]
          refine AnyG.take 16 (v := ?vv134) rfl (by kernel_rfl) (by kernel_rfl) (by kernel_rfl) (by kernel_rfl) (fun _ _ _ h => h) hS ?hy134 (by rfl) ?rest134
          case hy134 =>
            intro w0 h0
            have e0 := h0.1.cell 0 rfl
            have e1 := h0.1.cell 1 rfl
            go_simp
            try with_reducible rfl
          simp only [Act.put, List.getElem_toArray, List.getElem_cons_zero, List.getElem_cons_succ, List.setIfInBounds_toArray, List.set_cons_zero, List.set_cons_succ]
          refine AnyG.one 5 (by kernel_rfl) rfl ?_
          intro K hK
          go_simp
          refine (CB.out _ hS.2.2).mono ?_
          rintro e v1 ⟨rfl, hb⟩
          have hS1 : (fun w' => Cel w' w.heap.size [.int .i64 (wb : Int), .int .i64 (ws : Int)] 32 ∧ AL w' ga ∧ Below w2.heap.size w2 w') v1 := ⟨hS.1.kept hb, hS.2.1.keep hb, hS.2.2.trans (hb.mono hS.2.2.size)⟩
          clear hb hS
          refine hK.out _ _ (fun _ => hS1) ?_
          clear hK K
          try simp only [Act.put, List.getElem_toArray, List.getElem_cons_zero, List.getElem_cons_succ, List.setIfInBounds_toArray, List.set_cons_zero, List.set_cons_succ]
          refine AnyG.take 8 (v := .int .i64 (x1 : Int)) rfl (by kernel_rfl) (by kernel_rfl) (by kernel_rfl) (by kernel_rfl) (fun _ _ _ h => h) hS1 ?hy135 (by rfl) ?rest135
          case hy135 =>
            intro w0 h0
            have wr : IntKind.i64.wrap ((bv : Int) * (wb : Int)) = (x1 : Int) := by rw [e1x, IntKind.wrap_i64]; omega
            go_simp
            try with_reducible rfl
            try (rw [IntKind.wrap_i64]; omega)
          simp only [Act.put, List.getElem_toArray, List.getElem_cons_zero, List.getElem_cons_succ, List.setIfInBounds_toArray, List.set_cons_zero, List.set_cons_succ]
          refine AnyG.one 14 (by kernel_rfl) rfl ?_
          intro K hK
          go_simp
          refine (CS.out _ hS1.2.2).mono ?_
          rintro e v2 ⟨rfl, hb⟩
          have hS2 : (fun w' => Cel w' w.heap.size [.int .i64 (wb : Int), .int .i64 (ws : Int)] 32 ∧ AL w' ga ∧ Below w2.heap.size w2 w') v2 := ⟨hS1.1.kept hb, hS1.2.1.keep hb, hS1.2.2.trans (hb.mono hS1.2.2.size)⟩
          clear hb hS1
          refine hK.out _ _ (fun _ => hS2) ?_
          clear hK K
          try simp only [Act.put, List.getElem_toArray, List.getElem_cons_zero, List.getElem_cons_succ, List.setIfInBounds_toArray, List.set_cons_zero, List.set_cons_succ]
          refine AnyG.take 17 (v := .int .i64 (x2 : Int)) rfl (by kernel_rfl) (by kernel_rfl) (by kernel_rfl) (by kernel_rfl) (fun _ _ _ h => h) hS2 ?hy136 (by rfl) ?rest136
          case hy136 =>
            intro w0 h0
            have wr : IntKind.i64.wrap ((sv : Int) * (ws : Int)) = (x2 : Int) := by rw [e2x, IntKind.wrap_i64]; omega
            go_simp
            try with_reducible rfl
            try (rw [IntKind.wrap_i64]; omega)
          simp only [Act.put, List.getElem_toArray, List.getElem_cons_zero, List.getElem_cons_succ, List.setIfInBounds_toArray, List.set_cons_zero, List.set_cons_succ]
          refine AnyG.take 18 (v := .int .i64 (x : Int)) rfl (by kernel_rfl) (by kernel_rfl) (by kernel_rfl) (by kernel_rfl) (fun _ _ _ h => h) hS2 ?hy137 (by rfl) ?rest137
          case hy137 =>
            intro w0 h0
            have wr : IntKind.i64.wrap ((x1 : Int) + (x2 : Int)) = (x : Int) := by rw [IntKind.wrap_i64]; omega
            go_simp
            try with_reducible rfl
            try (rw [IntKind.wrap_i64]; omega)
          simp only [Act.put, List.getElem_toArray, List.getElem_cons_zero, List.getElem_cons_succ, List.setIfInBounds_toArray, List.set_cons_zero, List.set_cons_succ]
          refine AnyG.take 19 (v := ?vv138) rfl (by kernel_rfl) (by kernel_rfl) (by kernel_rfl) (by kernel_rfl) (fun _ _ _ h => h) hS2 ?hy138 (by rfl) ?rest138
          case hy138 =>
            intro w0 h0
            go_simp
            try with_reducible rfl
          simp only [Act.put, List.getElem_toArray, List.getElem_cons_zero, List.getElem_cons_succ, List.setIfInBounds_toArray, List.set_cons_zero, List.set_cons_succ]
          refine AnyG.done (by kernel_rfl) ?_ _
          have HB := hide hS2.2.2
          have HAA := hide hS2.2.1
          have HWW := hide hS2.1
          clear hS2
          go_wp2
          exact ⟨⟨q + 1, b, y, by omega, hb, by go_num, rfl, rfl, HI1, HWW, HAA, HB⟩, by simp only [intOf]; omega⟩
    · obtain rfl : q = 378 := by omega
      obtain ⟨c, hc, hz⟩ := Pn.az_get b hb
      have HZ : Hid (Pn.chZ l wb ws = Co.toZ c) := by show _ = _; rw [CH.out, ← HI.out.1, hz]
      obtain ⟨a0, a1, a2, a3, a4⟩ := al_five HA.out hc
      have hbz : (b : Int) < 378 := by omega
      have B2r := B2b.out.kept HBr.out
      have y0 := B2r.cell 0 rfl
      have y1 := B2r.cell 1 rfl
      have y2 := B2r.cell 2 rfl
      have y3 := B2r.cell 3 rfl
      have y4 := B2r.cell 4 rfl
      have f0 := B2r.frozen 0
      have f1 := B2r.frozen 1
      have f2 := B2r.frozen 2
      have f3 := B2r.frozen 3
      have f4 := B2r.frozen 4
      have hC := ((((B2r.set 0 (.int .i64 (c.1 : Int))).set 1 (.int .i64 (c.2.1 : Int))).set 2 (.int .i64 (c.2.2.1 : Int))).set 3 (.int .i64 (c.2.2.2.1 : Int))).set 4 (.int .i64 (c.2.2.2.2 : Int))
      have oW := (((((Only.refl (w.heap.size + 1) wr).set 0 (.int .i64 (c.1 : Int))).set 1 (.int .i64 (c.2.1 : Int))).set 2 (.int .i64 (c.2.2.1 : Int))).set 3 (.int .i64 (c.2.2.2.1 : Int))).set 4 (.int .i64 (c.2.2.2.2 : Int))
      have k0 := hC.cell 0 rfl
      have k1 := hC.cell 1 rfl
      have k2 := hC.cell 2 rfl
      have k3 := hC.cell 3 rfl
      have k4 := hC.cell 4 rfl
      have HBf := hide ((HB2.out.trans (HBr.out.mono HB2.out.size)).trans (oW.below (Nat.le_succ _)))
      have hwr := B2r.lt
      clear hz hc CBa CSa CH HI oW hC B2r HA HWt HBr
      go_wp2
      refine bodyPost_ret (v := .tuple #[.agg #[.int .i64 (c.1 : Int), .int .i64 (c.2.1 : Int), .int .i64 (c.2.2.1 : Int), .int .i64 (c.2.2.2.1 : Int), .int .i64 (c.2.2.2.2 : Int)], .int .i64 0]) (by simp [results, Try.results16, go_sem, k0, k1, k2, k3, k4]) rfl ?_
      rw [HZ.out]
      exact ⟨rfl, HBf.out⟩
set_option maxHeartbeats 4000000 in
theorem rchoose_c (wb ws : Int) (ao : Option Addr) (l : List Int) (cap : Nat) (w : World) (hx : Nd w ao l) (hl : l.length ≤ 1048576) :
    Calls Try.prog 16 #[.slice ao l.length cap, .agg #[.int .i64 wb, .int .i64 ws]] w fun e w' => e = .returned (.tuple #[.agg (Co.cv (Pn.chZ l wb ws)).toArray, .int .i64 (Pn.chE l wb ws)]) ∧ Below w.heap.size w w' := by
  by_cases hok : Pn.okW l wb ws = true
  · have h := hok
    unfold Pn.okW at h
    simp only [Bool.and_eq_true, decide_eq_true_eq] at h
    obtain ⟨hT, h1, h2, h3, h4⟩ := h
    obtain ⟨WB, rfl⟩ := Int.eq_ofNat_of_zero_le h1
    obtain ⟨WS, rfl⟩ := Int.eq_ofNat_of_zero_le h3
    have := rchoose_in WB WS (by omega) (by omega) ao l cap w hx hl hT
    rw [show Pn.chE l WB WS = 0 by unfold Pn.chE; rw [if_pos hok]]
    exact this
  · have hno : Pn.okW l wb ws = false := by simpa using hok
    have E1 : Hid (Pn.chZ l wb ws = (0, 0, 0, 0, 0)) := by show _ = _; unfold Pn.chZ; rw [if_neg hok]
    have E2 : Hid (Pn.chE l wb ws = 2) := by show _ = _; unfold Pn.chE; rw [if_neg hok]
    rw [E1.out, E2.out]
    have T1 : Hid (∀ w0, Below w.heap.size w w0 → Calls Try.prog 28 #[.slice ao l.length cap] w0 fun e w' => e = .returned (.int .i64 (Pn.totI l)) ∧ w' = w0) := fun w0 h => rtotal_c ao l cap w0 (hx.keep h) hl
    obtain ⟨W, hW⟩ : ∃ W, W = (w.alloc (.cells #[.int .i64 wb, .int .i64 ws] 32)).alloc (.cells #[.int .i64 0, .int .i64 0, .int .i64 0, .int .i64 0, .int .i64 0] 23) := ⟨_, rfl⟩
    have B1 := hide (show Cel W w.heap.size [.int .i64 wb, .int .i64 ws] 32 by rw [hW]; exact (Cel.new w _ _).alloc _)
    have B2r := (show Cel W (w.heap.size + 1) [.int .i64 0, .int .i64 0, .int .i64 0, .int .i64 0, .int .i64 0] 23 by rw [hW]; exact Cel.new2 w _ _ _)
    have HbW := hide (show Below w.heap.size w W by rw [hW]; exact (below_alloc w _).alloc (by simp) _)
    have e0 := B1.out.cell 0 rfl
    have e1 := B1.out.cell 1 rfl
    have y0 := B2r.cell 0 rfl
    have y1 := B2r.cell 1 rfl
    have y2 := B2r.cell 2 rfl
    have y3 := B2r.cell 3 rfl
    have y4 := B2r.cell 4 rfl
    have f0 := B2r.frozen 0
    have f1 := B2r.frozen 1
    have f2 := B2r.frozen 2
    have f3 := B2r.frozen 3
    have f4 := B2r.frozen 4
    have hC := ((((B2r.set 0 (.int .i64 0)).set 1 (.int .i64 0)).set 2 (.int .i64 0)).set 3 (.int .i64 0)).set 4 (.int .i64 0)
    have oW := (((((Only.refl (w.heap.size + 1) W).set 0 (.int .i64 0)).set 1 (.int .i64 0)).set 2 (.int .i64 0)).set 3 (.int .i64 0)).set 4 (.int .i64 0)
    have k0 := hC.cell 0 rfl
    have k1 := hC.cell 1 rfl
    have k2 := hC.cell 2 rfl
    have k3 := hC.cell 3 rfl
    have k4 := hC.cell 4 rfl
    have HBf := hide (HbW.out.trans (oW.below (Nat.le_succ _)))
    have hwr := B2r.lt
    have TN : Hid (Pn.okT l = true → ∃ N : Nat, Pn.totI l = (N : Int)) := fun h => ⟨_, Pn.totI_in h⟩
    have TF : Hid (Pn.okT l = false → Pn.totI l = -1) := fun h => Pn.totI_out h
    have hw4 : Pn.okT l = true → ¬ (0 ≤ wb ∧ wb ≤ 65536 ∧ 0 ≤ ws ∧ ws ≤ 65536) := fun hT hh => by
      unfold Pn.okW at hno
      rw [hT, decide_eq_true hh.1, decide_eq_true hh.2.1, decide_eq_true hh.2.2.1, decide_eq_true hh.2.2.2] at hno
      cases hno
    clear hok hno E1 E2 hx hl oW hC B2r B1
    generalize Pn.totI l = tI at *
    cases hT : Pn.okT l with
    | false =>
      obtain rfl := TF.out hT
      clear TN TF hw4 hT
      go_enter Try.func16, Try.ntmps16
      go_wp2_with fail
      rw [← hW]
      refine (T1.out _ HbW.out).mono ?_
      rintro e w1 ⟨rfl, rfl⟩
      clear hW T1
      go_wp2
      refine bodyPost_ret (v := .tuple #[.agg #[.int .i64 0, .int .i64 0, .int .i64 0, .int .i64 0, .int .i64 0], .int .i64 2]) (by simp [results, Try.results16, go_sem, k0, k1, k2, k3, k4]) rfl ?_
      exact ⟨rfl, HBf.out⟩
    | true =>
      obtain ⟨N, rfl⟩ := TN.out hT
      have h5 := hw4 hT
      have hN : ¬ (N : Int) < 0 := by omega
      clear TN TF hw4 hT
      by_cases c1 : wb < 0
      · clear h5
        go_enter Try.func16, Try.ntmps16
        go_wp2_with fail
        rw [← hW]
        refine (T1.out _ HbW.out).mono ?_
        rintro e w1 ⟨rfl, rfl⟩
        clear hW T1
        go_wp2
        refine bodyPost_ret (v := .tuple #[.agg #[.int .i64 0, .int .i64 0, .int .i64 0, .int .i64 0, .int .i64 0], .int .i64 2]) (by simp [results, Try.results16, go_sem, k0, k1, k2, k3, k4]) rfl ?_
        exact ⟨rfl, HBf.out⟩
      · by_cases c2 : (65536 : Int) < wb
        · clear h5
          go_enter Try.func16, Try.ntmps16
          go_wp2_with fail
          rw [← hW]
          refine (T1.out _ HbW.out).mono ?_
          rintro e w1 ⟨rfl, rfl⟩
          clear hW T1
          go_wp2
          refine bodyPost_ret (v := .tuple #[.agg #[.int .i64 0, .int .i64 0, .int .i64 0, .int .i64 0, .int .i64 0], .int .i64 2]) (by simp [results, Try.results16, go_sem, k0, k1, k2, k3, k4]) rfl ?_
          exact ⟨rfl, HBf.out⟩
        · by_cases c3 : ws < 0
          · clear h5
            go_enter Try.func16, Try.ntmps16
            go_wp2_with fail
            rw [← hW]
            refine (T1.out _ HbW.out).mono ?_
            rintro e w1 ⟨rfl, rfl⟩
            clear hW T1
            go_wp2
            refine bodyPost_ret (v := .tuple #[.agg #[.int .i64 0, .int .i64 0, .int .i64 0, .int .i64 0, .int .i64 0], .int .i64 2]) (by simp [results, Try.results16, go_sem, k0, k1, k2, k3, k4]) rfl ?_
            exact ⟨rfl, HBf.out⟩
          · have c4 : (65536 : Int) < ws := by omega
            clear h5
            go_enter Try.func16, Try.ntmps16
            go_wp2_with fail
            rw [← hW]
            refine (T1.out _ HbW.out).mono ?_
            rintro e w1 ⟨rfl, rfl⟩
            clear hW T1
            go_wp2
            refine bodyPost_ret (v := .tuple #[.agg #[.int .i64 0, .int .i64 0, .int .i64 0, .int .i64 0, .int .i64 0], .int .i64 2]) (by simp [results, Try.results16, go_sem, k0, k1, k2, k3, k4]) rfl ?_
            exact ⟨rfl, HBf.out⟩
end Go.Proofs.Ytckkhmmicbpihaa
