/-
  SuffixOrder: each end is ahead of the next one, and all are there.
-/
import Derived.Test.YtlconniheakalaaRq
import Derived.ChangeOld
namespace Go.Proofs.Ytlconniheakalaa.suffixOrder
open Go.ChangeShapes Go.WideShapes Go.ChangeAt Go.RowKit
set_option linter.unusedVariables false
set_option linter.unusedSimpArgs false
set_option maxRecDepth 100000


set_option maxHeartbeats 8000000 in
theorem walk (w : World) (ot : Option Addr) (t : List Nat) (ct : Nat) (Xt : Bd w ot t) (Ft : Bytes t) (Ct : t.length ≤ ct) :
    Calls Try.prog 5 #[.slice ot t.length ct] w fun e w' => e = .returned (.bool true) ∧ Below w.heap.size w w' := by
  by_cases hL : 3000 < t.length
  · have hL2 : (3000 : Int) < (t.length : Int) := by omega
    go_enter Try.func5, Try.ntmps5
    go_wp2_with fail
    refine (heads17_c _).mono ?_
    rintro e w9 ⟨rfl, hb⟩
    go_wp2
    go_ret
    exact ⟨rfl, hb⟩
  have hL2 : ¬ (3000 : Int) < (t.length : Int) := by omega
  have A1 := hide (sarr_c ot t ct w Xt Ft Ct)
  unfold ArrQ at A1
  rw [(Su.arr_in (by omega)).1, (Su.arr_in (by omega)).2, Su.length_sa] at A1
  obtain ⟨l, hl⟩ : ∃ l, Hid (l = Su.sa t) := ⟨_, rfl⟩
  have HO : Hid (Su.Ord t l) := by rw [hl.out]; exact Su.ord_sa t
  have HLL : Hid (l.length = t.length + 1) := by rw [hl.out]; exact Su.length_sa t
  rw [← hl.out] at A1
  have HLE : Hid (∀ i, gt l i ≤ t.length) := by rw [hl.out]; exact Su.sa_le t
  have HG : Hid (Su.Gd (toI l) (toI l).length) := Su.pm_gd (fun i _ => by rw [gi_toI]; omega) (by
    rw [ns_toI]
    show l.Perm (List.range l.length)
    rw [HLL.out]
    exact HO.out.2)
  have HX := hide Xt
  have HF := hide Ft
  obtain ⟨i4, hi4, za4, zb4, zc4⟩ := info_parts Try.info4
  obtain ⟨n, hn⟩ : ∃ n, Hid (n = t.length) := ⟨_, rfl⟩
  rw [← hn.out] at HLE HLL A1 hL2 ⊢
  have hn2 : n ≤ 3000 := by rw [hn.out]; omega
  have hcn : n ≤ ct := by rw [hn.out]; exact Ct
  clear hl Xt Ft Ct hL
  go_enter Try.func5, Try.ntmps5
  go_wp2_with fail
  refine (A1.out).mono ?_
  rintro e w1 ⟨lo, c1, rfl, N, _, hb⟩
  have HN := hide N
  have HB := hide hb
  have hsz := hb.size
  clear N hb A1
  go_wp2_with (at_make; refine wpList_make_full _ rfl _ _ 37 rfl w1.heap.size 4 i4 (.bool false) 1 Try.underlying37 hi4 za4 zb4 .i64 .i64 _ _ (n + 1) rfl rfl rfl rfl ?b5 ?b6 ?b7 ?_)
  case b5 => rw [zc4]; omega
  case b6 => unfold maxLen; omega
  case b7 => simp
  intro w2 hown hgr
  have B2 := cel_made hown
  have hb2 : Below w1.heap.size w1 w2 := (Below.refl _ _).grown hgr (Nat.le_refl _) (fun k h => by cases h)
  have HM : Hid (Cel w2 w1.heap.size (bv (Su.mtL (toI l) 0)) 4) := by
    rw [← bv_rep (n + 1), ← HLL.out, ← length_toI] at B2
    exact B2
  have HB2 := hide hb2
  clear hown hgr hb2 hi4 za4 zb4 zc4 B2
  obtain ⟨gm, hgm⟩ : ∃ gm, Hid (gm = w1.heap.size) := ⟨_, rfl⟩
  rw [← hgm.out] at HM HB2 ⊢
  have hgw : w.heap.size ≤ gm := by rw [hgm.out]; exact hsz
  go_wp2
  go_loopw [6] (fun vi wr => ∃ q : Nat, q ≤ n + 1 ∧ vi = .int .i64 q ∧ Hid (Cel wr gm (bv (Su.mtL (toI l) q)) 4) ∧ Hid (Below gm w1 wr)) (fun vi _ => n + 1 - (intOf vi).toNat)
  case atStart => exact ⟨0, Nat.zero_le _, rfl, HM, HB2⟩
  case round =>
    clear HM HB2
    obtain ⟨q, hq, rfl, HM, HBr⟩ := hrel
    by_cases hlt : q < n + 1
    · obtain ⟨b, off, rfl, hb0, hcc⟩ := HN.out (by rw [length_toI, HLL.out]; omega)
      have hbg : b < gm := by rw [hgm.out]; exact hb0
      have e0 := hcc q (by rw [length_toI, HLL.out]; exact hlt)
      have ep := hcc (q - 1) (by rw [length_toI, HLL.out]; omega)
      rw [gi_toI] at e0 ep
      have hltz : (q : Int) < (n : Int) + 1 := by omega
      have e1 := (HBr.out.cell (p := ⟨b, off + q, none⟩) hbg).trans e0
      have xle := HLE.out q
      have yle := HLE.out (q - 1)
      have hxl : gt l q < (Su.mtL (toI l) q).length := by rw [Su.length_mtL, length_toI, HLL.out]; omega
      have hm0 : (Su.mtL (toI l) q)[gt l q]? = some false := by
        cases hb : (Su.mtL (toI l) q)[gt l q]? with
        | none => rw [List.getElem?_eq_getElem hxl] at hb; cases hb
        | some bb =>
          cases bb with
          | false => rfl
          | true =>
            obtain ⟨i, h1, h2⟩ := (Su.mt_at (toI l) q (gt l q) (by rw [length_toI, HLL.out]; omega)).1 hb
            have h3 := HG.out.2 i q h1 (by rw [length_toI, HLL.out]; exact hlt)
            rw [gi_toI, gi_toI] at h3
            rw [gi_toI] at h2
            simp at h2
            omega
      have n2 := HM.out.cell (gt l q) (bv_get _ _ hm0)
      have f2 := HM.out.frozen (gt l q)
      have l2 := HM.out.lt
      have M1 : Hid (Cel (wr.setCell ⟨gm, gt l q, none⟩ (.bool true)) gm (bv (Su.mtL (toI l) (q + 1))) 4) := by
        have := HM.out.set (gt l q) (.bool true)
        rw [bv_set] at this
        rw [show Su.mtL (toI l) (q + 1) = (Su.mtL (toI l) q).set (gt l q) true by rw [Su.mtL, gi_toI]; rfl]
        exact this
      have B1 : Hid (Below gm w1 (wr.setCell ⟨gm, gt l q, none⟩ (.bool true))) := HBr.out.setCell (p := ⟨gm, gt l q, none⟩) (Nat.le_refl _) _
      have e1' := (B1.out.cell (p := ⟨b, off + q, none⟩) hbg).trans e0
      have ep' := (B1.out.cell (p := ⟨b, off + (q - 1), none⟩) hbg).trans ep
      have BW : Hid (Below w.heap.size w (wr.setCell ⟨gm, gt l q, none⟩ (.bool true))) := HB.out.trans (B1.out.mono hgw)
      have CV : Hid (∀ (i m : Nat), i ≤ n → (convert 22 9 (.slice (if ct = i then ot else ot.map (·.add i)) (n - i) (ct - i))).run Try.prog ((wr.setCell ⟨gm, gt l q, none⟩ (.bool true)).drewN m) = .ok (.string (strOfNums (nums (t.drop i)))) ((wr.setCell ⟨gm, gt l q, none⟩ (.bool true)).drewN m)) := fun i m hi => by
        have := conv_from (w := (wr.setCell ⟨gm, gt l q, none⟩ (.bool true)).drewN m) ((HX.out.keep BW.out).keep (below_drewN (Below.refl _ _) m)) i ct (by rw [← hn.out]; exact hcn)
        rw [← hn.out] at this
        exact this
      have c1 := fun m => CV.out (gt l q) m xle
      have c2 := fun m => CV.out (gt l (q - 1)) m yle
      have R : Hid (0 < q → Op.bytesLess (strOfNums (nums (t.drop (gt l (q - 1))))).toList (strOfNums (nums (t.drop (gt l q)))).toList = true) := fun h0 => by
        rw [less_str _ _ (HF.out.drop _) (HF.out.drop _)]
        have hp := List.pairwise_iff_getElem.1 HO.out.1 (q - 1) q (by rw [HLL.out]; omega) (by rw [HLL.out]; omega) (by omega)
        have g1 := gt_get l q (by rw [HLL.out]; exact hlt)
        have g2 := gt_get l (q - 1) (by rw [HLL.out]; omega)
        rw [List.getElem?_eq_getElem (by rw [HLL.out]; omega)] at g1 g2
        injection g1 with g1
        injection g2 with g2
        rw [g1, g2] at hp
        exact hp
      have xz : ((gt l q : Nat) : Int) < (n : Int) + 1 := by omega
      have xy : ((gt l q : Nat) : Int) ≤ (n : Int) := by omega
      have yy : ((gt l (q - 1) : Nat) : Int) ≤ (n : Int) := by omega
      clear hcc e0 ep CV hm0 hxl
      generalize strOfNums (nums (t.drop (gt l q))) = S1 at *
      generalize strOfNums (nums (t.drop (gt l (q - 1)))) = S2 at *
      generalize gt l q = x at *
      generalize gt l (q - 1) = y at *
      by_cases h0 : q = 0
      · subst h0
        rw [Nat.add_zero] at e1 e1'
        clear c1 c2 R ep'
        go_wp2
        go_quiet (fail)
        go_wp2
        exact ⟨⟨1, by omega, rfl, M1, below_drewN B1.out _⟩, by simp only [intOf]; omega⟩
      · have h0z : (0 : Int) < (q : Int) := by omega
        obtain ⟨d, rfl⟩ : ∃ d, q = d + 1 := ⟨q - 1, by omega⟩
        have R2 := R.out (by omega)
        rw [Nat.add_sub_cancel] at ep'
        clear R
        go_wp2
        go_quiet (fail)
        clear c1 c2
        generalize (if ct = x then ot else Option.map (fun z => z.add x) ot) = a1
        generalize (if ct = y then ot else Option.map (fun z => z.add y) ot) = a2
        go_wp2
        exact ⟨⟨d + 1 + 1, by omega, by go_num, M1, below_drewN B1.out _⟩, by simp only [intOf]; omega⟩
    · obtain rfl : q = n + 1 := by omega
      have HBB : Hid (Below w.heap.size w wr) := HB.out.trans (HBr.out.mono hgw)
      go_wp2_with fail
      refine (heads17_c _).mono ?_
      rintro e w9 ⟨rfl, hb⟩
      replace HBB := hide (HBB.out.trans (hb.mono HBB.out.size))
      go_wp2
      go_ret
      exact ⟨rfl, HBB.out⟩

theorem lifted (os : Os) (started : os.Started) (H : Type) (enc : TypeId × Value → H) :
    ReturnsInHanded {} Try.checked os 5 .any (Rows.suffixOrderSpec.pre6 enc Try.prog Try.f5 Rows.suffixOrderRow.domain false) (Rows.suffixOrderSpec.post enc Try.prog Try.f5 false true false false) := by
  refine returnsInHanded_of_change (C := Try.checked) own started (by kernel_rfl) Try.func5
    (ChangeSpec.witness6 (enc := enc) (C := Try.checked) false ⟨#[], #[.slice none 0 0], []⟩ 8 (by kernel_rfl) (by kernel_rfl) (by kernel_rfl) (by kernel_rfl)) ?_
  intro W base args ds gs before hval0 hW hcnd _
  have hval : ∀ (j : Nat) t v, Try.f5.params[j]? = some t → args[j]? = some v → Value.okWide Try.prog W .any base t v := hval0
  have hW' := hW
  obtain ⟨p, q, hA0, hV, rfl, hfz, hnd⟩ := hW
  have hA : DataW.TrodAll enc Try.prog W 0 (fun _ => true) true Try.f5.params.toList args.toList ds p := hA0
  rw [Try.params5] at hA hval
  obtain ⟨v0, vs0, d0, ds0, p0, q0, hargs, rfl, rfl, h0, r0⟩ := trodAll_cons hA
  obtain ⟨rfl, rfl, rfl⟩ := trodAll_nil r0
  obtain rfl : args = #[v0] := by cases args; simp_all
  obtain ⟨rfl, rfl⟩ := trodVars_none hV
  have k0 := h0
  have lt0 : ∀ x ∈ p0, x.block < W.heap.size := by obtain ⟨m, hm⟩ := k0; exact DataW.trod_lt m _ _ _ hm
  obtain ⟨ot, t, ct, rfl, b01, b02, b03⟩ := open_bytes (hval 0 22 v0 rfl rfl) h0
  clear hA0 hval0
  refine (walk W ot t ct b01 b02 b03).mono fun e W' ⟨he, bel⟩ => ?_
  subst he
  exact ⟨_, rfl, _, _, _, [], _, [], hW', trodAll_mk1 (shut_bool Try.underlying4 _), (trodAll_cons_mk (Below.trod laidOut (by kernel_rfl) (of_decide_eq_true (by kernel_rfl)) k0 bel lt0) trodAll_mk0), rfl, bel.frame _, fun h => by cases h⟩

theorem over : Rows.suffixOrderRow.holds Try.pinned (OpenSpec.ofChange Rows.suffixOrderSpec) :=
  OpenClaim.holds_of_wide 5 Try.f5 rfl rfl rfl rfl rfl rfl rfl ⟨rfl, rfl, rfl, rfl, rfl⟩ rfl rfl rfl rfl rfl (by kernel_rfl) Try.func5 (by kernel_rfl)
    (of_decide_eq_true (by kernel_rfl)) (by unfold Func.isWrapper; first | (rw [if_pos (by decide +kernel)]; kernel_rfl) | (rw [if_neg (by decide +kernel)]; exact ⟨rfl, rfl⟩))
    (fun os started H enc _ => lifted os started H enc)

theorem proved : Rows.SuffixOrderSaid := over
end Go.Proofs.Ytlconniheakalaa.suffixOrder
namespace Go.Proofs.Ytlconniheakalaa
theorem suffixOrder_holds : Rows.SuffixOrderSaid := suffixOrder.proved
#print axioms suffixOrder_holds
end Go.Proofs.Ytlconniheakalaa
