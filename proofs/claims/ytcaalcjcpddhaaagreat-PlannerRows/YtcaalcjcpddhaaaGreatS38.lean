/-
  The contract of the document's row: the way back from classes and offsets. One block alone is written: what stays. A struct, or an array, whole, out of and into a block of its own.
-/
import Derived.Test.YtcaalcjcpddhaaaGreatS37
import Derived.Laws.Rows
import Derived.Laws.Tables
set_option linter.unusedVariables false
set_option linter.unusedSimpArgs false
set_option maxRecDepth 100000
namespace Go.Proofs.YtcaalcjcpddhaaaGreat
open Go.RowKit Num Bit Bn
theorem wd_own8 {w : World} {base n c : Nat} {ao : Option Addr} {l : List Nat} (h : w.ownsRow base 83 1 (.slice ao n c) n (wv l)) : Wd w ao l := by
 intro h0
 have hlen : (wv l).length = n * 1 := h.1
 have hl : l.length = n := by simp [wv] at hlen; omega
 have hk := fun k hk => h.lt k hk
 have hc := fun g hg => h.cells (g := g) hg
 obtain ⟨_, ⟨e, e2⟩ | ⟨g, cap, cur, e, _⟩⟩ := h
 ·omega
 ·simp only [Value.slice.injEq] at e
  obtain ⟨rfl, _, rfl⟩ := e
  refine ⟨g, 0, rfl, (hk g rfl).2, fun i hi => ?_⟩
  have hu : (wv l)[i]? = some (.int .u64 (gt l i)) := by
   unfold wv
   rw [List.getElem?_map, gt_get l i hi]
   rfl
  rw [← hc g rfl i _ hu]
  unfold Addr.add
  split
  ·subst_vars; rfl
  ·simp
theorem wd_base {w w1 w2 : World} {b : Nat} {ao : Option Addr} {l : List Nat} (h : Wd w ao l) (hb : ∀ a, 0 < l.length → ao = some a → a.block < b) (h1 : Below w.heap.size w w1) (h2 : Below b w1 w2) : Wd w2 ao l := by
 intro h0
 obtain ⟨c, off, e, hlt, hc⟩ := h h0
 have hcb := hb _ h0 e
 refine ⟨c, off, e, ?_, fun i hi => ((h2.cell (p := ⟨c, off + i, none⟩) hcb).trans (h1.cell (p := ⟨c, off + i, none⟩) hlt)).trans (hc i hi)⟩
 have := h1.size
 have := h2.size
 omega
theorem below_set8 {base : Nat} {w w' : World} (h : Below base w w') (b i : Nat) (v : Value) (hb : base ≤ b) : Below base w (w'.setCell ⟨b, i, none⟩ v) := h.setCell hb _
def rwN (o : Option (List Bool)) : Nat := (o.map List.length).getD 0
def rwX (o : Option (List Bool)) : List Nat := (o.map frL).getD []
theorem drop_gt (l : List Nat) (q : Nat) (h : q < l.length) : l.drop q = gt l q :: l.drop (q + 1) := by
 rw [List.drop_eq_getElem_cons h]
 congr 1
 unfold gt
 rw [List.getD_eq_getElem?_getD, List.getElem?_eq_getElem h]
 rfl
set_option maxHeartbeats 8000000 in
theorem row_c (m n V : Nat) (M : Int) (ao : Option Addr) (xs : List Nat) (cap : Nat) (L : Int) (qo : Option Addr) (ys : List Nat) (dap : Nat) (so : Option Addr) (sn sc : Nat) (tO : Option Addr) (tn tc : Nat) (w : World)
  (hm : m ≤ 1048576) (hx : Wd w ao xs) (hf : Fit xs) (hik : ichk (n : Int) (V : Int) M xs = true) (hy : Wd w qo ys) (hfy : Fit ys) (O : Option (List Bool)) (hO : decG m L ys ((List.range n).map (numAt V xs)) 0 [] = O) :
  Calls Tryz.prog 90 #[.agg #[.int .i64 m, .int .i64 n, .int .i64 V, .int .i64 M, .slice ao xs.length cap, .int .i64 L, .slice qo ys.length dap, .slice so sn sc, .slice tO tn tc]] w fun e w' => ∃ bo bc, e = .returned (.agg #[.int .i64 (rwN O), .slice bo (rwX O).length bc]) ∧ Wd w' bo (rwX O) ∧ Fit (rwX O) ∧ (rwX O).length ≤ bc ∧ Below w.heap.size w w' := by
 obtain ⟨a1, a2, a3, a4, a5, a6, a7, a8⟩ := ichk_out n V M xs hik
 have hn : n ≤ 1048576 := by omega
 obtain ⟨i0, hi, hz0, hz1, hz2⟩ := info_parts Tryz.info4
 obtain ⟨W, hW⟩ : ∃ W, W = (w.alloc (.cells #[.int .i64 m, .int .i64 n, .int .i64 V, .int .i64 M, .slice ao xs.length cap, .int .i64 L, .slice qo ys.length dap, .slice so sn sc, .slice tO tn tc] 32)).alloc (.cells #[.int .i64 0, .slice none 0 0] 24) := ⟨_, rfl⟩
 have bZ : Below w.heap.size w W := by rw [hW]; exact (below_alloc w _).alloc (by simp) _
 have B1 : Cel W w.heap.size [.int .i64 m, .int .i64 n, .int .i64 V, .int .i64 M, .slice ao xs.length cap, .int .i64 L, .slice qo ys.length dap, .slice so sn sc, .slice tO tn tc] 32 := by rw [hW]; exact (Cel.new w _ _).alloc _
 have B2 : Cel W (w.heap.size + 1) [.int .i64 0, .slice none 0 0] 24 := by rw [hW]; exact Cel.new2 w _ _ _
 have LI : Hid (∀ w0, w0 = W → Calls Tryz.prog 103 #[.agg #[.int .i64 n, .int .i64 V, .int .i64 M, .slice ao xs.length cap]] w0 fun e w' => ∃ v, e = .returned v ∧ w'.ownsRow w0.heap.size 83 1 v n (wv ((List.range n).map (numAt V xs))) ∧ Below w0.heap.size w0 w') := fun w0 h => by subst h; exact reflist_ok M n V ao xs cap w0 (hx.keep bZ) hf hik
 have lC : ((List.range n).map (numAt V xs)).length = n := by simp
 have fC : ∀ q, gt ((List.range n).map (numAt V xs)) q < 18446744073709551616 := by
  intro q
  by_cases c : q < n
  ·unfold gt
   rw [List.getD_eq_getElem?_getD, List.getElem?_map, List.getElem?_range c]
   show numAt V xs q < 18446744073709551616
   unfold numAt
   have h1 := numOf_lt V (fun k => bitAt xs (q * V + k))
   have h2 : 2 ^ V ≤ 2 ^ 64 := Nat.pow_le_pow_right (by decide) (by omega)
   omega
  ·rw [gt_out _ _ (by rw [lC]; omega)]; decide
 generalize (List.range n).map (numAt V xs) = CL at *
 clear a1 a2 a3 a4 a5 a6 a7 a8 hik
 go_enter Tryz.func90, Tryz.ntmps90
 go_wp2_with fail
 rw [← hW]
 refine (LI.out _ rfl).mono ?_
 rintro e w1 ⟨v1, rfl, own1, hb⟩
 obtain ⟨co, cc, rfl, hcc, -⟩ := Ap.owns_shape own1
 have hC := wd_own8 own1
 have hw1 := bZ.trans (hb.mono bZ.size)
 replace B1 := B1.kept hb
 replace B2 := B2.kept hb
 obtain ⟨b, hbd⟩ : ∃ b, b = w1.heap.size := ⟨_, rfl⟩
 have l1 := B1.lt
 have l2 := B2.lt
 have hcb : ∀ a, 0 < CL.length → co = some a → a.block < b := fun a h0 e => by
  obtain ⟨c, off, e2, hlt, _⟩ := hC h0
  rw [e2] at e
  cases e
  show c < b
  omega
 rw [← hbd] at l1 l2
 clear hb LI hW bZ W own1
 go_wp2
 go_loopw [3, 4, 6, 7, 8, 9, 10, 11, 12, 13] (fun ov av iv_ _ _ _ _ _ _ _ wr => ∃ (q A : Nat) (ot : List Bool) (oo : Option Addr) (oc : Nat), q ≤ n ∧ iv_ = .int .i64 q ∧ av = .int .i64 A ∧ A ≤ 62 * q ∧ ov = .slice oo ot.length oc ∧ ot.length ≤ m ∧ wr.ownsRow b 4 1 (.slice oo ot.length oc) ot.length (bvl ot) ∧ Hid (decG m L ys (CL.drop q) A ot = O) ∧ Cel wr w.heap.size [.int .i64 m, .int .i64 n, .int .i64 V, .int .i64 M, .slice ao xs.length cap, .int .i64 L, .slice qo ys.length dap, .slice so sn sc, .slice tO tn tc] 32 ∧ Cel wr (w.heap.size + 1) [.int .i64 0, .slice none 0 0] 24 ∧ Wd wr co CL ∧ b ≤ wr.heap.size ∧ Below w.heap.size w wr) (fun _ _ iv_ _ _ _ _ _ _ _ _ => n - (intOf iv_).toNat)
 case atStart => exact ⟨0, 0, [], none, 0, by omega, rfl, rfl, by omega, rfl, by simp, World.ownsRow_nil _ _ _ _, hO, B1, B2, hC, by omega, hw1⟩
 case round =>
  obtain ⟨q, A, ot, oo, oc, hq, rfl, rfl, hA, rfl, hol, hown, HO, X1, X2, XC, hbw, hwr⟩ := hrel
  clear B1 B2 hC hw1 hO hbd
  by_cases hlt : q < n
  ·have hlt2 : (q : Int) < (n : Int) := by omega
   obtain ⟨cb, co2, rfl, ce⟩ := XC.cellAt q (by omega)
   obtain ⟨v, hv⟩ : ∃ v, Hid (v = gt CL q) := ⟨_, rfl⟩
   have v64 : v < 18446744073709551616 := by rw [hv.out]; exact fC q
   rw [← hv.out] at ce
   obtain ⟨K, hK⟩ : ∃ K, Hid (K = asI v) := ⟨_, rfl⟩
   have eK : IntKind.i64.wrap (v : Int) = K := hK.out.symm
   have WD : Hid (∀ w0, Calls Tryz.prog 35 #[.int .i64 15, .int .i64 K] w0 fun e w' => e = .returned (.int .i64 (wdN 15 v)) ∧ Below w0.heap.size w0 w') := fun w0 => by
    have := Ow.rwidth_c 15 K w0
    rw [hK.out, asI_wd v v64] at this
    rw [hK.out]
    exact this
   have w62 := wd_le 15 (v : Int)
   have SL : Hid (∀ w0, Below w.heap.size w w0 → Calls Tryz.prog 104 #[.agg #[.int .i64 L, .slice qo ys.length dap], .int .i64 A, .int .i64 (wdN 15 v)] w0 fun e w' => e = .returned (.tuple #[.int .u64 (slcX L ys A (wdN 15 v)), .int .i64 (slcE L ys A (wdN 15 v))]) ∧ Below w0.heap.size w0 w') := fun w0 h => refslice_c L qo ys dap A (wdN 15 v) w0 (hy.keep h) hfy (by omega) (by omega) (by omega) (by omega)
   have BK : Hid (∀ w0, Calls Tryz.prog 105 #[.int .i64 15, .int .i64 K, .int .u64 (slcX L ys A (wdN 15 v))] w0 fun e w' => e = .returned (.tuple #[.int .u64 (bkX 15 v (slcX L ys A (wdN 15 v))), .bool (bkB 15 v (slcX L ys A (wdN 15 v)))]) ∧ Below w0.heap.size w0 w') := fun w0 => by
    have hs : slcX L ys A (wdN 15 v) < 18446744073709551616 := by
     unfold slcX
     split
     ·have h1 := numOf_lt (Int.toNat (wdN 15 v : Int)) (fun k => bitAt ys (Int.toNat (A : Int) + k))
      have h2 : 2 ^ (Int.toNat (wdN 15 v : Int)) ≤ 2 ^ 62 := Nat.pow_le_pow_right (by decide) (by omega)
      omega
     ·omega
    have := Ow.rblock_c 15 K (slcX L ys A (wdN 15 v)) hs w0
    rw [hK.out, asI_bkX v _ v64, asI_bkB v _ v64] at this
    rw [hK.out]
    exact this
   have HD : Hid ((if slcE L ys A (wdN 15 v) = 0 ∧ bkB 15 v (slcX L ys A (wdN 15 v)) = true then decG m L ys (CL.drop (q + 1)) (A + wdN 15 v) (addB m ot (bkX 15 v (slcX L ys A (wdN 15 v)))) else none) = O) := by
    have := HO.out
    rw [drop_gt CL q (by omega), ← hv.out, decG] at this
    exact this
   have bB : bkX 15 v (slcX L ys A (wdN 15 v)) < 32768 := by
    unfold bkX
    split
    ·omega
    ·have := blk_lt (15 : Int).toNat (v : Int).toNat (slcX L ys A (wdN 15 v))
     have e : (15 : Int).toNat = 15 := rfl
     rw [e] at this ⊢
     omega
   generalize bkX 15 v (slcX L ys A (wdN 15 v)) = bb at *
   generalize bkB 15 v (slcX L ys A (wdN 15 v)) = ok at *
   generalize slcX L ys A (wdN 15 v) = sx at *
   generalize slcE L ys A (wdN 15 v) = se at *
   generalize wdN 15 (v : Int) = wd at *
   clear HO
   have x0 := X1.cell 0 rfl
   have x5 := X1.cell 5 rfl
   have x6 := X1.cell 6 rfl
   go_wp2_with fail
   refine (WD.out _).mono ?_
   rintro e wa ⟨rfl, hb⟩
   replace X1 := X1.kept hb
   replace X2 := X2.kept hb
   replace XC := XC.keep hb
   replace hown := Ap.owns_below hown hb
   replace hwr := hwr.trans (hb.mono hwr.size)
   replace hbw := Nat.le_trans hbw hb.size
   clear hb x0 x5 x6 ce
   have x5 := X1.cell 5 rfl
   have x6 := X1.cell 6 rfl
   go_wp2_with fail
   refine (SL.out _ hwr).mono ?_
   rintro e wb ⟨rfl, hb⟩
   replace X1 := X1.kept hb
   replace X2 := X2.kept hb
   replace XC := XC.keep hb
   replace hown := Ap.owns_below hown hb
   replace hwr := hwr.trans (hb.mono hwr.size)
   replace hbw := Nat.le_trans hbw hb.size
   clear hb x5 x6
   go_wp2_with fail
   refine (BK.out _).mono ?_
   rintro e wc ⟨rfl, hb⟩
   replace X1 := X1.kept hb
   replace X2 := X2.kept hb
   replace XC := XC.keep hb
   replace hown := Ap.owns_below hown hb
   replace hwr := hwr.trans (hb.mono hwr.size)
   replace hbw := Nat.le_trans hbw hb.size
   clear hb WD SL BK
   by_cases hbad : se = 0 ∧ ok = true
   ·obtain ⟨rfl, rfl⟩ := hbad
    have HD2 : Hid (decG m L ys (CL.drop (q + 1)) (A + wd) (addB m ot bb) = O) := by
     have := HD.out
     rw [if_pos ⟨rfl, rfl⟩] at this
     exact this
    clear HD
    go_wp2
    go_loopw [3, 13] (fun ov jv wr => ∃ (t : Nat) (po : Option Addr) (pc : Nat), t ≤ 15 ∧ jv = .int .i64 t ∧ ov = .slice po (ot.length + t) pc ∧ ot.length + t ≤ m ∧ wr.ownsRow b 4 1 (.slice po (ot.length + t) pc) (ot.length + t) (bvl (ot ++ Bit.bits bb t)) ∧ Cel wr w.heap.size [.int .i64 m, .int .i64 n, .int .i64 V, .int .i64 M, .slice ao xs.length cap, .int .i64 L, .slice qo ys.length dap, .slice so sn sc, .slice tO tn tc] 32 ∧ Cel wr (w.heap.size + 1) [.int .i64 0, .slice none 0 0] 24 ∧ Wd wr (some ⟨cb, co2, none⟩) CL ∧ b ≤ wr.heap.size ∧ Below w.heap.size w wr) (fun _ jv _ => 15 - (intOf jv).toNat)
    case atStart => exact ⟨0, oo, oc, by omega, rfl, rfl, hol, by rw [show ot ++ Bit.bits bb 0 = ot by simp [Bit.bits]]; exact hown, X1, X2, XC, hbw, hwr⟩
    case round =>
     obtain ⟨t, po, pc, ht, rfl, rfl, htl, hown2, Y1, Y2, YC, hbw2, hwr2⟩ := hrel
     clear X1 X2 XC hown hwr hbw
     have y0 := Y1.cell 0 rfl
     by_cases hgo : t < 15 ∧ ot.length + t < m
     ·obtain ⟨g1, g2⟩ := hgo
      have g3 : ((ot.length + t : Nat) : Int) < (m : Int) := by omega
      have t64 : (t : Int) < 64 := by omega
      have bb0 : (0 : Int) ≤ (bb : Int) := by omega
      have T : Hid ((((bb : Int) / 2 ^ t).tmod 2 == 1) = bb.testBit t) := test_end bb t
      go_wp2_with (at_builtin; rw [T.out]; refine Ap.wpList_append_u rfl _ _ 82 rfl b 4 i0 (.bool false) 1 Tryz.underlying82 hi hz0 hz1 hz2 rfl _ (ot.length + t) (bvl (ot ++ Bit.bits bb t)) rfl (hown2.alloc _) (some ⟨wr.heap.size, 0, none⟩) 1 1 [.bool (bb.testBit t)] rfl rfl ?e1 ?e2 ?e3 ?e4 ?e5 ?_)
      case e1 => exact fun _ => ⟨_, rfl, fun j u hj => by
       match j, hj with
       | 0, hj => simp at hj; subst hj; simp [Addr.add]⟩
      case e2 => intro u hu; simp at hu; subst hu; rfl
      case e3 => unfold maxLen; omega
      case e4 => omega
      case e5 => simp; omega
      intro po2 pc2 w4 own4 hle4 hB4
      rw [bvl_one, List.append_assoc, ← bits_take] at own4
      have hA4 := below_alloc wr (.cells #[.bool (bb.testBit t)] 4)
      have Y1' := (Y1.kept hA4).keep hB4 l1
      have Y2' := (Y2.kept hA4).keep hB4 l2
      have hw4 := (hwr2.trans (hA4.mono hwr2.size)).trans (hB4.mono (by omega))
      have YC' := wd_base YC hcb hA4 hB4
      have hs4 : b ≤ w4.heap.size := by
       have h1 := hB4.size
       simp at h1
       omega
      have HOW : Hid (w4.ownsRow b 4 1 (.slice po2 (ot.length + t + 1) pc2) (ot.length + t + 1) (bvl (ot ++ Bit.bits bb (t + 1)))) := own4
      clear own4 hown2 Y1 Y2 YC hwr2 hbw2 hA4 hB4 y0
      go_wp2
      exact ⟨⟨t + 1, po2, pc2, by omega, by go_num, rfl, by omega, HOW.out, Y1', Y2', YC', hs4, hw4⟩, by simp only [intOf]; omega⟩
     ·have et : t = min 15 (m - ot.length) := by omega
      have eb : addB m ot bb = ot ++ Bit.bits bb t := by unfold addB; rw [← et]
      have el : (addB m ot bb).length = ot.length + t := by rw [eb, List.length_append, length_bits]
      have HOW : Hid (wr.ownsRow b 4 1 (.slice po (addB m ot bb).length pc) (addB m ot bb).length (bvl (addB m ot bb))) := by
       show wr.ownsRow b 4 1 (.slice po (addB m ot bb).length pc) (addB m ot bb).length (bvl (addB m ot bb))
       rw [el, eb]
       exact hown2
      have EL : Hid ((addB m ot bb).length = ot.length + t) := el
      have hA2 : A + wd ≤ 62 * (q + 1) := by omega
      clear hown2 eb el et
      by_cases g1 : t < 15
      ·have g2 : ¬ ((ot.length + t : Nat) : Int) < (m : Int) := by omega
       clear hgo
       go_wp2
       exact ⟨⟨q + 1, A + wd, addB m ot bb, po, pc, by omega, by go_num, by go_num, hA2, by rw [EL.out], by rw [EL.out]; exact htl, HOW.out, HD2, Y1, Y2, YC, hbw2, hwr2⟩, by simp only [intOf]; omega⟩
      ·have g2 : ¬ (t : Int) < 15 := by omega
       clear hgo
       go_wp2
       exact ⟨⟨q + 1, A + wd, addB m ot bb, po, pc, by omega, by go_num, by go_num, hA2, by rw [EL.out], by rw [EL.out]; exact htl, HOW.out, HD2, Y1, Y2, YC, hbw2, hwr2⟩, by simp only [intOf]; omega⟩
   ·have HN : Hid (O = none) := by
     have := HD.out
     rw [if_neg hbad] at this
     exact this.symm
    have y0 := X2.cell 0 rfl
    have y1 := X2.cell 1 rfl
    have f0 := X2.frozen 0
    have f1 := X2.frozen 1
    have hC2 := (X2.set 0 (.int .i64 0)).set 1 (.slice none 0 0)
    have HB := below_set8 (below_set8 hwr (w.heap.size + 1) 0 (.int .i64 0) (Nat.le_succ _)) (w.heap.size + 1) 1 (.slice none 0 0) (Nat.le_succ _)
    have k0 := hC2.cell 0 rfl
    have k1 := hC2.cell 1 rfl
    by_cases s0 : se = 0
    ·have o0 : ok = false := by cases ok <;> simp_all
     subst s0 o0
     clear hbad HD
     go_wp2
     exact bodyPost_ret (v := .agg #[.int .i64 0, .slice none 0 0]) (by simp [results, Tryz.results90, go_sem, k0, k1]) rfl ⟨none, 0, by rw [HN.out]; rfl, by rw [HN.out]; exact wd0' _ _, by rw [HN.out]; exact fun i => by unfold gt; simp [rwX], by rw [HN.out]; exact Nat.le_refl _, HB⟩
    ·have s1 : (se != 0) = true := by simp [s0]
     clear hbad HD
     go_wp2
     exact bodyPost_ret (v := .agg #[.int .i64 0, .slice none 0 0]) (by simp [results, Tryz.results90, go_sem, k0, k1]) rfl ⟨none, 0, by rw [HN.out]; rfl, by rw [HN.out]; exact wd0' _ _, by rw [HN.out]; exact fun i => by unfold gt; simp [rwX], by rw [HN.out]; exact Nat.le_refl _, HB⟩
  ·obtain rfl : q = n := by omega
   have hlt2 : ¬ (q : Int) < (q : Int) := by omega
   have ON : O = some ot := by
    have := HO.out
    rw [List.drop_eq_nil_of_le (by omega)] at this
    exact this.symm
   have FR : Hid (∀ w0 : World, Bl w0 oo ot → Calls Tryz.prog 37 #[.slice oo ot.length oc] w0 fun e w' => ∃ g, e = .returned (.tuple #[.agg #[.int .i64 ot.length, .slice (some ⟨g, 0, none⟩) (frL ot).length (frL ot).length], .int .i64 0]) ∧ w0.heap.size ≤ g ∧ Own w' g (frL ot) ∧ Below w0.heap.size w0 w') := fun w0 h => by
    refine (reffrom_ok oo ot oc _ w0 h (by omega) rfl).mono ?_
    rintro e w' ⟨g, rfl, hg, hOw, hb⟩
    rw [fromS_all] at hOw
    have e5 : (frL ot).length = (ot.length + 63) / 64 := length_rowOf _ _
    exact ⟨g, by rw [e5], hg, hOw, hb⟩
   have HBl := bl_own hown
   have hfit : Fit (frL ot) := fit_rowOf _ _
   obtain ⟨Z, hZ⟩ : ∃ Z, Hid (Z = frL ot) := ⟨_, rfl⟩
   have EN : Hid (rwN O = ot.length ∧ rwX O = Z) := by
    show _ ∧ _
    rw [ON, hZ.out]
    exact ⟨rfl, rfl⟩
   rw [← hZ.out] at FR hfit
   clear ON HO
   clear hown
   go_wp2_with fail
   refine (FR.out _ HBl).mono ?_
   rintro e w2 ⟨g, rfl, hg, hOw, hb⟩
   replace X2 := X2.kept hb
   replace hwr := hwr.trans (hb.mono hwr.size)
   have l3 := X2.lt
   have bA := below_alloc w2 (.cells #[.int .i64 ot.length, .slice (some ⟨g, 0, none⟩) Z.length Z.length] 24)
   replace X2 := X2.kept bA
   replace hwr := hwr.trans (bA.mono hwr.size)
   have hOw2 := hOw.keep bA
   have y0 := X2.cell 0 rfl
   have y1 := X2.cell 1 rfl
   have f0 := X2.frozen 0
   have f1 := X2.frozen 1
   have hC2 := (X2.set 0 (.int .i64 ot.length)).set 1 (.slice (some ⟨g, 0, none⟩) Z.length Z.length)
   have HB := below_set8 (below_set8 hwr (w.heap.size + 1) 0 (.int .i64 ot.length) (Nat.le_succ _)) (w.heap.size + 1) 1 (.slice (some ⟨g, 0, none⟩) Z.length Z.length) (Nat.le_succ _)
   have ng : g ≠ w.heap.size + 1 := by omega
   have HW := ((hOw2.set_other (a := ⟨w.heap.size + 1, 0, none⟩) ng (.int .i64 ot.length)).set_other (a := ⟨w.heap.size + 1, 1, none⟩) ng (.slice (some ⟨g, 0, none⟩) Z.length Z.length)).wd
   have k0 := hC2.cell 0 rfl
   have k1 := hC2.cell 1 rfl
   clear hb FR HBl bA l3 l1 l2 hg hbw
   go_wp2
   exact bodyPost_ret (v := .agg #[.int .i64 ot.length, .slice (some ⟨g, 0, none⟩) Z.length Z.length]) (by simp [results, Tryz.results90, go_sem, k0, k1]) rfl ⟨some ⟨g, 0, none⟩, Z.length, by rw [EN.out.1, EN.out.2], by rw [EN.out.2]; exact HW, by rw [EN.out.2]; exact hfit, by rw [EN.out.2]; exact Nat.le_refl _, HB⟩
end Go.Proofs.YtcaalcjcpddhaaaGreat
namespace Go.Proofs.YtcaalcjcpddhaaaGreat
open Go.RowKit
structure Only (g : Nat) (w w' : World) : Prop where
 os : w'.os = w.os
 tape : w'.tape = w.tape
 output : w'.output = w.output
 size : w'.heap.size = w.heap.size
 block : ∀ k, k ≠ g → w'.heap[k]? = w.heap[k]?
theorem Only.refl (g : Nat) (w : World) : Only g w w := ⟨rfl, rfl, rfl, rfl, fun _ _ => rfl⟩
theorem Only.trans {g : Nat} {a b c : World} (h : Only g a b) (k : Only g b c) : Only g a c := ⟨k.os.trans h.os, k.tape.trans h.tape, k.output.trans h.output, k.size.trans h.size, fun i hi => (k.block i hi).trans (h.block i hi)⟩
theorem Only.below {g base : Nat} {w w' : World} (h : Only g w w') (hb : base ≤ g) : Below base w w' := ⟨h.os, h.tape, h.output, by rw [h.size]; exact Nat.le_refl _, fun k hk => h.block k (by omega)⟩
theorem Only.set {g : Nat} {a w : World} (h : Only g a w) (i : Nat) (v : Value) : Only g a (w.setCell ⟨g, i, none⟩ v) :=
 ⟨h.os, h.tape, h.output, by rw [show (w.setCell ⟨g, i, none⟩ v).heap.size = w.heap.size by simp [World.setCell]]; exact h.size, fun k hk => (Below.heap_setCell w ⟨g, i, none⟩ v k hk).trans (h.block k hk)⟩
theorem Only.row (g : Nat) (w : World) (cs : Array Value) : Only g w (w.setRow g cs) := by
 refine ⟨rfl, rfl, rfl, ?_, fun k hk => ?_⟩
 ·simp [World.setRow]
 ·simp only [World.setRow, Array.getElem?_modify]
  rw [if_neg (by omega)]
theorem Only.cell {g : Nat} {w w' : World} (h : Only g w w') {p : Addr} (hp : p.block ≠ g) : w'.cell? p = w.cell? p := World.cell?_of_block (w := w) (h.block p.block hp)
theorem Only.cel {g b : Nat} {w w' : World} {cs : List Value} {T : TypeId} (h : Only g w w') (hc : Cel w b cs T) (hb : b ≠ g) : Cel w' b cs T := (h.block b hb).trans hc
theorem Only.wd {g : Nat} {w w' : World} {ao : Option Addr} {xs : List Nat} (h : Only g w w') (hx : Wd w ao xs) (hb : ∀ a, 0 < xs.length → ao = some a → a.block ≠ g) : Wd w' ao xs := by
 intro h0
 obtain ⟨b, off, e, hlt, hc⟩ := hx h0
 have hne := hb _ h0 e
 exact ⟨b, off, e, by rw [h.size]; exact hlt, fun i hi => (h.cell (p := ⟨b, off + i, none⟩) hne).trans (hc i hi)⟩
theorem Only.owns {g base e n : Nat} {w w' : World} {v : Value} {vs : List Value} (h : Only g w w') (ho : w.ownsRow base e 1 v n vs) (hg : g < base) : w'.ownsRow base e 1 v n vs := by
 obtain ⟨h1, h2 | ⟨b, cap, cur, e1, e2, hh, r⟩⟩ := ho
 ·exact ⟨h1, .inl h2⟩
 ·exact ⟨h1, .inr ⟨b, cap, cur, e1, e2, (h.block b (by omega)).trans hh, r⟩⟩
theorem Wd.apart {w : World} {ao : Option Addr} {xs : List Nat} {b : Nat} {cs : List Value} {T : TypeId} (hx : Wd w ao xs) (hc : Cel w b cs T) (hn : ∀ v ∈ cs, ∀ n, v ≠ .int .u64 n) : ∀ a, 0 < xs.length → ao = some a → a.block ≠ b := by
 intro a h0 ha he
 obtain ⟨b', off, e, hlt, hcc⟩ := hx h0
 rw [ha] at e
 obtain rfl := Option.some.inj e
 have he : b' = b := he
 subst he
 have h1 := hcc 0 h0
 unfold World.cell? at h1
 rw [show w.heap[({ block := b', off := off + 0, spot := none } : Addr).block]? = _ from hc] at h1
 have h2 : cs[off + 0]? = some (.int .u64 (Bit.gt xs 0)) := by simpa using h1
 exact hn _ (List.mem_of_getElem? h2) _ rfl
theorem store_cel {ops : Array Oper} {rest : List Oper} {d : Option Tmp} {ty T : TypeId} {ps : String} {af : Array Edge} {a : Act} {w : World} {Q : Exit → Act → World → Prop} {x y : Operand}
  (g : Nat) (old cs : List Value) (hx : a.eval x = .pointer (some ⟨g, 0, none⟩)) (hy : a.eval y = .agg cs.toArray) (hc : Cel w g old T) (lo : old.length = cs.length) (hi : (Tryz.prog.info? T).map (·.size) = some cs.length) (h1 : cs.toArray.all (·.oneCell') = true)
  (h : ∀ w1, Cel w1 g cs T → Only g w w1 → wpList Tryz.prog ops Q rest (a.put d undef) w1) :
  wpList Tryz.prog ops Q (⟨d, .store T x y, ty, ps, af, none⟩ :: rest) a w :=
 wpList_store_row rfl _ x y rfl g _ hx hy _ _ hc (by simpa using hi) (by simpa using lo) h1 (h _ (setRow_heap w g _ _ _ _ hc) (Only.row g w _))
theorem load_cel {ops : Array Oper} {rest : List Oper} {d : Option Tmp} {ty T : TypeId} {ps : String} {af : Array Edge} {a : Act} {w : World} {Q : Exit → Act → World → Prop} {x : Operand}
  (g : Nat) (cs : List Value) {fs : Array Field} (hx : a.eval x = .pointer (some ⟨g, 0, none⟩)) (hc : Cel w g cs T) (hu : Tryz.prog.underlying T = some (.struct fs)) (hi : (Tryz.prog.info? T).map (·.size) = some cs.length)
  (h : wpList Tryz.prog ops Q rest (a.put d (.agg cs.toArray)) w) :
  wpList Tryz.prog ops Q (⟨d, .load T x, ty, ps, af, none⟩ :: rest) a w :=
 wpList_load_row rfl _ x rfl g hx _ _ _ _ hc hu rfl (by simpa using hi) h
theorem result_cel {fn : Func} {p : Tmp} {T : TypeId} {w : World} {tmps : Array Value} {u : Tmp} (h : fn.results = #[.cell p T, .tmp u]) (g : Nat) (cs : List Value) {fs : Array Field} (hp : tmps.getD p undef = .pointer (some ⟨g, 0, none⟩)) (hc : Cel w g cs T) (hu : Tryz.prog.underlying T = some (.struct fs)) (hi : (Tryz.prog.info? T).map (·.size) = some cs.length) :
  (results fn tmps).run Tryz.prog w = .ok (.tuple #[.agg cs.toArray, tmps.getD u undef]) w := by
 have hp' : tmps[p]?.getD undef = .pointer (some ⟨g, 0, none⟩) := by simpa using hp
 have hl := run_loadVar_row (P := Tryz.prog) w g T T cs.toArray (0, 0) _ hc hu rfl (by simpa using hi)
 simp [results, h, hp', asAddr, hl]
theorem hide {p : Prop} (h : p) : Hid p := h
end Go.Proofs.YtcaalcjcpddhaaaGreat
