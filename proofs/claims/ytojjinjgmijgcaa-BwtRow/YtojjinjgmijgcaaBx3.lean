/-
  The contract of the program's stepsOf.
-/
import Derived.Test.YtojjinjgmijgcaaBx2
namespace Go.Proofs.Ytojjinjgmijgcaa
open Go.RowKit
set_option linter.unusedVariables false
set_option linter.unusedSimpArgs false
set_option maxRecDepth 100000

namespace Su
/-- The next place of each symbol, behind q places. -/
def nxv (L : List Nat) (R q c : Nat) : Nat := first L c + ct (fun j => decide (sg L j = c)) (ix R q)
def Nx (L : List Nat) (R q : Nat) : List Nat := (List.range 257).map (nxv L R q)
theorem length_Nx (L : List Nat) (R q : Nat) : (Nx L R q).length = 257 := by simp [Nx]
theorem gt_Nx (L : List Nat) (R q c : Nat) (h : c < 257) : gt (Nx L R q) c = nxv L R q c := gt_map _ _ _ h
theorem nx_zero (L : List Nat) (R : Nat) : fs L = Nx L R 0 := by
  refine list_ext (by rw [length_fs, length_Nx]) fun i hi => ?_
  rw [length_fs] at hi
  rw [gt_fs _ _ hi, gt_Nx _ _ _ _ hi]
  have e : ix R 0 = 0 := by unfold ix; rw [if_pos (Nat.zero_le _)]
  unfold nxv
  rw [e]
  rfl
theorem nx_row (L : List Nat) (R : Nat) : Nx L R (R + 1) = Nx L R R := by
  unfold Nx
  congr 1
  funext c
  unfold nxv
  rw [ix_succ, if_pos rfl]
theorem nxv_stp {L : List Nat} {R q : Nat} (h : q ≠ R) : nxv L R q (sg L (ix R q)) = stp L R (first L) q := by
  unfold nxv stp
  rw [if_neg h]
theorem nx_next {L : List Nat} {R q c : Nat} (h : q ≠ R) (hc : sg L (ix R q) = c) (h7 : c < 257) : (Nx L R q).set c (nxv L R q c + 1) = Nx L R (q + 1) := by
  refine list_ext (by rw [length_Nx, List.length_set, length_Nx]) fun i hi => ?_
  rw [List.length_set, length_Nx] at hi
  rw [gt_set _ _ _ _ (by rw [length_Nx]; exact h7), gt_Nx _ _ _ _ hi, gt_Nx _ _ _ _ hi]
  unfold nxv
  rw [ix_succ, if_neg h, ct, hc]
  by_cases e : c = i
  · rw [if_pos e, ← e, decide_eq_true rfl]
    simp only [Bool.toNat_true]
    omega
  · rw [if_neg e, decide_eq_false e]
    simp only [Bool.toNat_false]
    omega
/-- The steps of the first q places. -/
def stq (L : List Nat) (R q : Nat) : List Nat := (List.range (L.length + 1)).map fun i => if i < q then stp L R (first L) i else 0
theorem length_stq (L : List Nat) (R q : Nat) : (stq L R q).length = L.length + 1 := by simp [stq]
theorem gt_stq (L : List Nat) (R q i : Nat) (h : i < L.length + 1) : gt (stq L R q) i = if i < q then stp L R (first L) i else 0 := gt_map _ _ _ h
theorem stq_zero (L : List Nat) (R : Nat) : stq L R 0 = List.replicate (L.length + 1) 0 := by
  refine list_ext (by rw [length_stq, List.length_replicate]) fun i hi => ?_
  rw [length_stq] at hi
  rw [gt_stq _ _ _ _ hi, if_neg (Nat.not_lt_zero _)]
  unfold gt
  rw [List.getD_eq_getElem?_getD, List.getElem?_replicate, if_pos hi]
  rfl
theorem stq_next {L : List Nat} {R q v : Nat} (hq : q < L.length + 1) (hv : v = stp L R (first L) q) : (stq L R q).set q v = stq L R (q + 1) := by
  refine list_ext (by rw [length_stq, List.length_set, length_stq]) fun i hi => ?_
  rw [List.length_set, length_stq] at hi
  rw [gt_set _ _ _ _ (by rw [length_stq]; exact hq), gt_stq _ _ _ _ hi, gt_stq _ _ _ _ hi]
  by_cases e : q = i
  · rw [if_pos e, if_pos (by omega), hv, e]
  · rw [if_neg e]
    by_cases c : i < q
    · rw [if_pos c, if_pos (by omega)]
    · rw [if_neg c, if_neg (by omega)]
theorem stq_row (L : List Nat) (R : Nat) : stq L R (R + 1) = stq L R R := by
  unfold stq
  congr 1
  funext i
  by_cases c : i < R
  · rw [if_pos c, if_pos (by omega)]
  · rw [if_neg c]
    by_cases e : i = R
    · rw [if_pos (by omega), e, stp_row]
    · rw [if_neg (by omega)]
theorem stq_all (L : List Nat) (R : Nat) : stq L R (L.length + 1) = sts L R := by
  refine list_ext (by rw [length_stq, length_sts]) fun i hi => ?_
  rw [length_stq] at hi
  rw [gt_stq _ _ _ _ hi, if_pos hi, gt_sts _ _ _ (by omega)]
theorem nxv_le (L : List Nat) (R q c : Nat) : nxv L R q c ≤ L.length + 1 + q := by
  unfold nxv
  have h1 := first_le L c
  have h2 := ct_le (fun j => decide (sg L j = c)) (ix R q)
  have h3 : ix R q ≤ q := by unfold ix; split <;> omega
  omega
end Su
set_option maxHeartbeats 8000000 in
theorem bsteps_c (ao : Option Addr) (L : List Nat) (ac R : Nat) (bo : Option Addr) (m bc : Nat) (w : World) (hx : Bd w ao L) (hb : Bytes L) (hl : L.length ≤ 8192) (hR : R ≤ L.length) :
    Calls Try.prog 23 #[.agg #[.slice ao L.length ac, .int .i64 (R : Int), .slice bo m bc]] w fun e w' => ∃ g, e = .returned (.slice (some ⟨g, 0, none⟩) (L.length + 1) (L.length + 1)) ∧ Cel w' g (iv (Su.sts L R)) 3 ∧ w.heap.size ≤ g ∧ Below w.heap.size w w' := by
  obtain ⟨W, hW⟩ : ∃ W, W = w.alloc (.cells #[.slice ao L.length ac, .int .i64 (R : Int), .slice bo m bc] 25) := ⟨_, rfl⟩
  have bW : Below w.heap.size w W := by rw [hW]; exact below_alloc w _
  have B1 : Cel W w.heap.size [.slice ao L.length ac, .int .i64 (R : Int), .slice bo m bc] 25 := by rw [hW]; exact Cel.new w _ _
  have C1 : Hid (∀ w0, w0 = W → Calls Try.prog 18 #[.slice ao L.length ac] w0 fun e w' => e = .returned (.agg (iv (Su.fs L)).toArray) ∧ Below w0.heap.size w0 w') := fun w0 e => by subst e; exact bcts_c ao L ac w0 (hx.keep bW) hb (by omega)
  have C2 : Hid (∀ w0 (i : Nat), Below w.heap.size w w0 → i ≤ L.length → i ≠ R → Calls Try.prog 24 #[.agg #[.slice ao L.length ac, .int .i64 (R : Int), .slice bo m bc], .int .i64 (i : Int)] w0 fun e w' => e = .returned (.int .u8 (Su.sg L (Su.ix R i) : Nat)) ∧ Below w0.heap.size w0 w') := fun w0 i h1 h2 h3 => bahead_c ao L ac R _ i w0 (hx.keep h1) hb hl hR h2 h3 ⟨_, _, _, rfl⟩
  have LF := hide (Su.length_fs L)
  obtain ⟨i3, hi3, za3, zb3, zc3⟩ := info_parts Try.info3
  obtain ⟨n, hn⟩ : ∃ n, Hid (n = L.length) := ⟨_, rfl⟩
  rw [← hn.out] at B1 hW C1 C2 hl hR ⊢
  clear hx
  go_enter Try.func23, Try.ntmps23
  go_wp2_with fail
  rw [← hW]
  refine (C1.out _ rfl).mono ?_
  rintro e w1 ⟨rfl, hb1⟩
  have HB := hide (bW.trans (hb1.mono bW.size))
  have B2 := hide (B1.kept hb1)
  clear hb1 C1 hW bW B1
  go_wp2_with (first | refine alloc_z _ info_cn ?_ | fail)
  intro w2 hc2 hb2 hs2
  have B3 := hide (B2.out.kept hb2)
  have HB2 := hide (HB.out.trans (hb2.mono HB.out.size))
  have HC2 := hide hc2
  have hgw : w.heap.size < w1.heap.size := B2.out.lt
  clear hb2 hc2 hs2 B2 HB
  generalize w1.heap.size = g at *
  go_wp2_with (first | refine store_cn g _ _ rfl rfl HC2.out (by simp) LF.out ?_ | fail)
  intro w3 hc3 hO
  have B4 := hide (hO.cel B3.out (by omega))
  have HB4 := hide (HB2.out.trans (hO.below (Nat.le_of_lt hgw)))
  have HC4 := hide hc3
  clear hc3 hO HC2 HB2 B3
  have c0 := B4.out.cell 0 rfl
  have wn : IntKind.i64.wrap ((n : Int) + 1) = ((n + 1 : Nat) : Int) := by rw [IntKind.wrap_i64]; omega
  go_wp2_with (at_make; refine wpList_make_full _ rfl _ _ 23 rfl w3.heap.size 3 i3 (.int .i64 0) 1 Try.underlying23 hi3 za3 zb3 .i64 .i64 _ _ (n + 1) rfl rfl ?b0 ?b1 ?b2 ?b3 ?b4 ?_)
  case b2 => rw [zc3]; omega
  case b3 => unfold maxLen; omega
  case b4 => simp
  all_goals (try (first | omega | rfl))
  intro w4 hown hgr
  have T2 := cel_made hown
  have hb2 : Below w3.heap.size w3 w4 := (Below.refl _ _).grown hgr (Nat.le_refl _) (fun k h => by cases h)
  rw [← iv_rep (n + 1), hn.out, ← Su.stq_zero L R] at T2
  have HT := hide T2
  have B5 := hide (B4.out.kept hb2)
  have HC5 := hide (HC4.out.kept hb2)
  have HB5 := hide (HB4.out.trans (hb2.mono HB4.out.size))
  have hgs : g < w3.heap.size := HC4.out.lt
  rw [Su.nx_zero L R] at HC5
  clear hown hgr hb2 T2 B4 HC4 HB4 c0 hi3 za3 zb3 zc3 LF
  generalize w3.heap.size = gs at *
  go_wp2
  go_loopw [17] (fun s wr => ∃ q : Nat, q ≤ n + 1 ∧ s = .int .i64 q ∧ Hid (Cel wr gs (iv (Su.stq L R q)) 3) ∧ Hid (Cel wr g (iv (Su.Nx L R q)) 46) ∧ Hid (Cel wr w.heap.size [.slice ao n ac, .int .i64 (R : Int), .slice bo m bc] 25) ∧ Hid (Below w.heap.size w wr)) (fun s _ => n + 1 - (intOf s).toNat)
  case atStart => exact ⟨0, Nat.zero_le _, rfl, HT, HC5, B5, HB5⟩
  case round =>
    clear HT HC5 B5 HB5
    obtain ⟨q, hq, rfl, H1, H2, H3, H4⟩ := hrel
    by_cases hi : q < n + 1
    · have hi2 : (q : Int) < (n : Int) + 1 := by omega
      have c0 := H3.out.cell 0 rfl
      have c1 := H3.out.cell 1 rfl
      have c2 := H3.out.cell 2 rfl
      by_cases hr : q = R
      · have hz : ((q : Int) != (R : Int)) = false := by simp; omega
        have K1 : Hid (Cel wr gs (iv (Su.stq L R (q + 1))) 3) := by have := H1.out; rw [hr] at this; rw [hr, Su.stq_row]; exact this
        have K2 : Hid (Cel wr g (iv (Su.Nx L R (q + 1))) 46) := by have := H2.out; rw [hr] at this; rw [hr, Su.nx_row]; exact this
        clear H1 H2 hr
        go_wp2
        exact ⟨⟨q + 1, by omega, by go_num, K1, K2, H3, H4⟩, by simp only [intOf]; omega⟩
      · have hz : ((q : Int) != (R : Int)) = true := by simp; omega
        have SQ := hide (C2.out wr q H4.out (by omega) hr)
        have hx8 : Su.sg L (Su.ix R q) < 256 := Su.sg_lt hb _
        have hv := hide (Su.nxv_stp (L := L) hr)
        have hnx := hide (Su.nx_next (L := L) hr rfl (show Su.sg L (Su.ix R q) < 257 by omega))
        have hgx := hide (Su.gt_Nx L R q (Su.sg L (Su.ix R q)) (by omega))
        have hvl := Su.nxv_le L R q (Su.sg L (Su.ix R q))
        rw [← hn.out] at hvl
        clear C2
        generalize Su.sg L (Su.ix R q) = x at *
        go_wp2_with fail
        refine (SQ.out).mono ?_
        rintro e w5 ⟨rfl, hb5⟩
        have G1 := hide (H1.out.kept hb5)
        have G2 := hide (H2.out.kept hb5)
        have G3 := hide (H3.out.kept hb5)
        have G4 := hide (H4.out.trans (hb5.mono H4.out.size))
        clear hb5 H1 H2 H3 H4 c0 c1 c2 SQ
        have e1 := G2.out.cell x (iv_get _ _ (by rw [Su.length_Nx]; omega))
        rw [hgx.out] at e1
        have e2 := G1.out.cell q (iv_get _ _ (by rw [Su.length_stq, ← hn.out]; exact hi))
        have f2 := G1.out.frozen q
        have lt2 := G1.out.lt
        generalize hV : Su.nxv L R q x = v at *
        have K1 : Hid (Cel (w5.setCell ⟨gs, q, none⟩ (.int .i64 (v : Nat))) gs (iv (Su.stq L R (q + 1))) 3) := by
          have := G1.out.set q (.int .i64 (v : Nat))
          rw [iv_set, Su.stq_next (by rw [← hn.out]; exact hi) hv.out] at this
          exact this
        have K2 := hide (G2.out.other (a := ⟨gs, q, none⟩) (by show g ≠ gs; omega) (.int .i64 (v : Nat)))
        have K3 := hide (G3.out.other (a := ⟨gs, q, none⟩) (by show w.heap.size ≠ gs; omega) (.int .i64 (v : Nat)))
        have K4 : Hid (Below w.heap.size w (w5.setCell ⟨gs, q, none⟩ (.int .i64 (v : Nat)))) := G4.out.setCell (p := ⟨gs, q, none⟩) (by show w.heap.size ≤ gs; omega) _
        obtain ⟨w6, hw6⟩ : ∃ w6, w6 = w5.setCell ⟨gs, q, none⟩ (.int .i64 (v : Nat)) := ⟨_, rfl⟩
        rw [← hw6] at K1 K2 K3 K4
        have e3 := K2.out.cell x (iv_get _ _ (by rw [Su.length_Nx]; omega))
        rw [hgx.out] at e3
        have f3 := K2.out.frozen x
        have lt3 := K2.out.lt
        have M2 : Hid (Cel (w6.setCell ⟨g, x, none⟩ (.int .i64 ((v : Int) + 1))) g (iv (Su.Nx L R (q + 1))) 46) := by
          have := K2.out.set x (.int .i64 ((v + 1 : Nat) : Int))
          rw [iv_set, hnx.out] at this
          exact this
        have M1 := hide (K1.out.other (a := ⟨g, x, none⟩) (by show gs ≠ g; omega) (.int .i64 ((v : Int) + 1)))
        have M3 := hide (K3.out.other (a := ⟨g, x, none⟩) (by show w.heap.size ≠ g; omega) (.int .i64 ((v : Int) + 1)))
        have M4 : Hid (Below w.heap.size w (w6.setCell ⟨g, x, none⟩ (.int .i64 ((v : Int) + 1)))) := K4.out.setCell (p := ⟨g, x, none⟩) (by show w.heap.size ≤ g; omega) _
        have HW6 := hide hw6
        clear hw6 K1 K2 K3 K4 G1 G2 G3 G4 hV
        have hx7 : (x : Int) < 257 := by omega
        generalize gt (Su.stq L R q) q = z at *
        go_upto_region 9 with fail
        rw [← HW6.out]
        clear e1 e2 f2 lt2 HW6
        go_wp2
        exact ⟨⟨q + 1, by omega, by go_num, M1, M2, M3, M4⟩, by simp only [intOf]; omega⟩
    · obtain rfl : q = n + 1 := by omega
      have K1 : Hid (Cel wr gs (iv (Su.sts L R)) 3) := by
        have := H1.out
        rw [hn.out, Su.stq_all] at this
        exact this
      clear H1 H2 H3
      go_wp2
      go_ret
      exact ⟨gs, rfl, K1.out, by omega, H4.out⟩
end Go.Proofs.Ytojjinjgmijgcaa
