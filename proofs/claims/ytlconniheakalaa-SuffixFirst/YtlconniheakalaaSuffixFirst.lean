/-
  SuffixFirst: the empty end is first, and ends of one beginning stand together.
-/
import Derived.Test.YtlconniheakalaaRq
import Derived.Test.YtlconniheakalaaSd
import Derived.ChangeOld
import Derived.Deep.DeepCutAuto
namespace Go.Proofs.Ytlconniheakalaa.suffixFirst
open Go.ChangeShapes Go.WideShapes Go.ChangeAt Go.RowKit
set_option linter.unusedVariables false
set_option linter.unusedSimpArgs false
set_option maxRecDepth 100000

/-- The end at x begins with p. -/
theorem bp_take (t p : List Nat) (x : Nat) : Su.Bp t p x = decide ((t.drop x).take p.length = p) := by
  unfold Su.Bp
  rw [Bool.eq_iff_iff, decide_eq_true_iff, decide_eq_true_iff, List.prefix_iff_eq_take]
  exact eq_comm
theorem bp_short {t p : List Nat} {x : Nat} (hx : x ≤ t.length) (h : t.length < x + p.length) : Su.Bp t p x = false := by
  unfold Su.Bp
  refine decide_eq_false fun h2 => ?_
  have := h2.length_le
  rw [List.length_drop] at this
  omega
theorem rs_le (b : Nat → Bool) : ∀ q, Su.rs b q ≤ q
  | 0 => Nat.le_refl _
  | q + 1 => by
    have := rs_le b q
    rw [Su.rs]
    have := Bool.toNat_le (b q && (q == 0 || !b (q - 1)))
    omega
def lastb (b : Nat → Bool) (q : Nat) : Bool := decide (0 < q) && b (q - 1)
theorem rs_step (b : Nat → Bool) (q : Nat) : Su.rs b (q + 1) = Su.rs b q + (b q && !lastb b q).toNat := by
  rw [Su.rs]
  unfold lastb
  cases q with
  | zero => rfl
  | succ q => simp
theorem lastb_step (b : Nat → Bool) (q : Nat) : lastb b (q + 1) = b q := by
  unfold lastb
  simp
theorem ct_rest {b : Nat → Bool} {q : Nat} : ∀ {n : Nat}, q ≤ n → (∀ i, q ≤ i → i < n → b i = false) → Su.ct b n = Su.ct b q
  | 0, h, _ => by rw [show q = 0 by omega]
  | n + 1, h, h2 => by
    by_cases e : q = n + 1
    · rw [e]
    · rw [Su.ct, h2 n (by omega) (by omega), ct_rest (by omega) fun i a c => h2 i a (by omega)]
      rfl
/-- A part of a slice that reads as a list. -/
theorem bd_part {w : World} {ao : Option Addr} {t : List Nat} (h : Bd w ao t) (x k cap : Nat) (hc : t.length ≤ cap) (hk : x + k ≤ t.length) : Bd w (if cap = x then ao else ao.map (·.add x)) ((t.drop x).take k) := (h.from x cap hc).take k (by rw [List.length_drop]; omega)

set_option maxHeartbeats 8000000 in
theorem walk (w : World) (ot : Option Addr) (t : List Nat) (ct : Nat) (Xt : Bd w ot t) (Ft : Bytes t) (Ct : t.length ≤ ct) (op : Option Addr) (p : List Nat) (cp : Nat) (Xp : Bd w op p) (Fp : Bytes p) (Cp : p.length ≤ cp) :
    Calls Try.prog 3 #[.slice ot t.length ct, .slice op p.length cp] w fun e w' => e = .returned (.bool true) ∧ Below w.heap.size w w' := by
  by_cases hL : 600 < t.length
  · have hL2 : (600 : Int) < (t.length : Int) := by omega
    go_enter Try.func3, Try.ntmps3
    go_wp2_with fail
    refine (heads17_c _).mono ?_
    rintro e w9 ⟨rfl, hb⟩
    go_wp2
    go_ret
    exact ⟨rfl, hb⟩
  have hL2 : ¬ (600 : Int) < (t.length : Int) := by omega
  by_cases hM : 20 < p.length
  · have hM2 : (20 : Int) < (p.length : Int) := by omega
    go_enter Try.func3, Try.ntmps3
    go_wp2_with fail
    refine (heads17_c _).mono ?_
    rintro e w9 ⟨rfl, hb⟩
    go_wp2
    go_ret
    exact ⟨rfl, hb⟩
  have hM2 : ¬ (20 : Int) < (p.length : Int) := by omega
  have A1 := hide (sarr_c ot t ct w Xt Ft Ct)
  unfold ArrQ at A1
  rw [(Su.arr_in (by omega)).1, (Su.arr_in (by omega)).2, Su.length_sa] at A1
  obtain ⟨l, hl⟩ : ∃ l, Hid (l = Su.sa t) := ⟨_, rfl⟩
  have HO : Hid (Su.Ord t l) := by rw [hl.out]; exact Su.ord_sa t
  have HLL : Hid (l.length = t.length + 1) := by rw [hl.out]; exact Su.length_sa t
  rw [← hl.out] at A1
  have HLE : Hid (∀ i, gt l i ≤ t.length) := by rw [hl.out]; exact Su.sa_le t
  have HZ : Hid (gt l 0 = t.length) := by
    have := Su.so_at HO.out.2 HO.out.1 (p := t.length) (Nat.le_refl _)
    rw [Su.rk_end, gt_get l 0 (by rw [HLL.out]; omega)] at this
    injection this
  obtain ⟨B, hB⟩ : ∃ B : Nat → Bool, Hid (B = fun i => Su.Bp t p (gt l i)) := ⟨_, rfl⟩
  have HR : Hid (∀ q, q ≤ t.length + 1 → Su.rs B q ≤ 1) := fun q hq => by
    refine (Su.rs_one (n := t.length + 1) (fun i j k h1 h2 h3 h4 h5 => ?_) q hq).1
    rw [hB.out] at h4 h5 ⊢
    exact Su.so_conv p HO.out.1 h1 h2 (gt_get l i (by rw [HLL.out]; omega)) (gt_get l j (by rw [HLL.out]; omega)) (gt_get l k (by rw [HLL.out]; omega)) h4 h5
  have HC : Hid (Su.ct B (t.length + 1) = Su.ct (Su.Bp t p) (t.length + 1)) := by
    rw [hB.out]
    exact Su.ct_perm (Su.Bp t p) HO.out.2
  have CVa : Hid (∀ (w0 : World) (x : Nat), Below w.heap.size w w0 → x + p.length ≤ t.length → (convert 22 9 (.slice (if ct = x then ot else ot.map (·.add x)) p.length (ct - x))).run Try.prog w0 = .ok (.string (strOfNums (nums ((t.drop x).take p.length)))) w0) := fun w0 x h hx => by
    have := conv (ct - x) (bd_part (Xt.keep h) x p.length ct Ct hx)
    rw [List.length_take, List.length_drop, Nat.min_eq_left (by omega)] at this
    exact this
  have CVp : Hid (∀ (w0 : World), Below w.heap.size w w0 → (convert 22 9 (.slice op p.length cp)).run Try.prog w0 = .ok (.string (strOfNums (nums p))) w0) := fun w0 h => conv cp (Xp.keep h)
  have HE : Hid (∀ x, ((strOfNums (nums ((t.drop x).take p.length))).toList == (strOfNums (nums p)).toList) = Su.Bp t p x) := fun x => by
    rw [eq_str _ _ ((Ft.drop x).take _) Fp, bp_take]
  have HS : Hid (∀ x, x ≤ t.length → t.length < x + p.length → Su.Bp t p x = false) := fun x hx h => bp_short hx h
  obtain ⟨n, hn⟩ : ∃ n, Hid (n = t.length) := ⟨_, rfl⟩
  obtain ⟨m, hm⟩ : ∃ m, Hid (m = p.length) := ⟨_, rfl⟩
  rw [← hn.out] at HLE HLL A1 hL2 HZ HR HC HS CVa ⊢
  rw [← hm.out] at hM2 HS CVa CVp HE ⊢
  have hn2 : n ≤ 600 := by rw [hn.out]; omega
  have hm2 : m ≤ 20 := by rw [hm.out]; omega
  have hcn : n ≤ ct := by rw [hn.out]; exact Ct
  have hcm : m ≤ cp := by rw [hm.out]; exact Cp
  clear hl Xt Ft Ct hL hM Xp Fp Cp
  go_enter Try.func3, Try.ntmps3
  go_wp2_with fail
  refine (A1.out).mono ?_
  rintro e w1 ⟨lo, c1, rfl, N, _, hb⟩
  have HN := hide N
  have HB := hide hb
  clear N hb A1
  obtain ⟨b, off, rfl, hb0, hcc⟩ := HN.out (by rw [length_toI, HLL.out]; omega)
  have HCC : Hid (∀ i, i < n + 1 → w1.cell? ⟨b, off + i, none⟩ = some (.int .i64 (gt l i : Nat))) := fun i hi => by
    have := hcc i (by rw [length_toI, HLL.out]; exact hi)
    rw [gi_toI] at this
    exact this
  have e00 := HCC.out 0 (by omega)
  rw [HZ.out, Nat.add_zero] at e00
  clear hcc HN
  go_wp2
  go_loopw [7, 8, 9, 10] (fun v7 v8 v9 v10 wr => ∃ (q a r : Nat) (la : Bool), q ≤ n + 1 ∧ a ≤ q ∧ r ≤ q ∧ v7 = .int .i64 a ∧ v8 = .int .i64 r ∧ v9 = .bool la ∧ v10 = .int .i64 q ∧ Hid (a = Su.ct B q) ∧ Hid (r = Su.rs B q) ∧ Hid (la = lastb B q) ∧ Hid (Below w1.heap.size w1 wr)) (fun _ _ _ v10 _ => n + 1 - (intOf v10).toNat)
  case atStart => exact ⟨0, 0, 0, false, Nat.zero_le _, Nat.le_refl _, Nat.le_refl _, rfl, rfl, rfl, rfl, rfl, rfl, rfl, Below.refl _ _⟩
  case round =>
    clear e00
    obtain ⟨q, a, r, la, hq, ha, hr, rfl, rfl, rfl, rfl, HA, HRs, HLa, HBr⟩ := hrel
    have HBB : Hid (Below w.heap.size w wr) := HB.out.trans (HBr.out.mono HB.out.size)
    by_cases hlt : q < n + 1
    · have e1 := (HBr.out.cell (p := ⟨b, off + q, none⟩) hb0).trans (HCC.out q hlt)
      have hltz : (q : Int) < (n : Int) + 1 := by omega
      have xle := HLE.out q
      have CT : Hid (Su.ct B (q + 1) = a + (B q).toNat) := by rw [HA.out]; rfl
      have RT : Hid (Su.rs B (q + 1) = r + (B q && !la).toNat) := by rw [HRs.out, HLa.out]; exact rs_step B q
      have LT : Hid (lastb B (q + 1) = B q) := lastb_step B q
      have BQ : Hid (B q = Su.Bp t p (gt l q)) := congrFun hB.out q
      have ca := fun n0 => CVa.out (wr.drewN n0) (gt l q) (below_drewN HBB.out n0)
      have cq := fun n0 => CVp.out (wr.drewN n0) (below_drewN HBB.out n0)
      have EQ := HE.out (gt l q)
      have ES := HS.out (gt l q) xle
      rw [← BQ.out] at EQ ES
      clear HA HRs HLa BQ
      generalize strOfNums (nums p) = SP at *
      generalize strOfNums (nums ((t.drop (gt l q)).take m)) = SX at *
      generalize gt l q = x at *
      generalize B q = bq at *
      have xz : (x : Int) ≤ (n : Int) := by omega
      obtain ⟨a1, y, z, SL, hy, hz, HCV⟩ : ∃ (a1 : Option Addr) (y z : Nat), (∀ w0, (Instr.sliceAt 22 (.slice ot n ct) (some (.int .i64 (x : Int))) none none).run Try.prog w0 = .ok (.slice a1 y z) w0) ∧ Hid (y = n - x) ∧ Hid (z = ct - x) ∧ Hid (∀ n0, x + m ≤ n → (convert 22 9 (.slice a1 m z)).run Try.prog (wr.drewN n0) = .ok (.string SX) (wr.drewN n0)) := by
        refine ⟨if ct = x then ot else ot.map (·.add x), n - x, ct - x, fun w0 => ?_, rfl, rfl, fun n0 h => ca n0 h⟩
        rw [run_sliceAt_slice _ _ _ _ _ _ (by kernel_rfl), run_slice_l _ _ _ _ _ (by kernel_rfl) _ _ (by omega) (by omega)]
        simp [go_sem]
      clear ca
      by_cases hsh : x + m ≤ n
      · have hs2 : (m : Int) ≤ (y : Int) := by have := hy.out; omega
        have hs3 : (m : Int) ≤ (z : Int) := by have := hz.out; omega
        have ca := fun n0 => HCV.out n0 hsh
        clear ES HCV
        cases bq with
        | true =>
          cases la with
          | true =>
            go_wp2
            go_quiet (fail)
            clear ca cq
            go_wp2
            exact ⟨⟨q + 1, a + 1, r, true, by omega, by omega, by omega, by go_num, by go_num, rfl, by go_num, CT.out.symm, RT.out.symm, LT.out.symm, below_drewN HBr.out _⟩, by simp only [intOf]; omega⟩
          | false =>
            go_wp2
            go_quiet (fail)
            clear ca cq
            go_wp2
            exact ⟨⟨q + 1, a + 1, r + 1, true, by omega, by omega, by omega, by go_num, by go_num, rfl, by go_num, CT.out.symm, RT.out.symm, LT.out.symm, below_drewN HBr.out _⟩, by simp only [intOf]; omega⟩
        | false =>
          cases la with
          | true =>
            go_wp2
            go_quiet (fail)
            clear ca cq
            go_wp2
            exact ⟨⟨q + 1, a, r, false, by omega, by omega, by omega, by go_num, by go_num, rfl, by go_num, CT.out.symm, RT.out.symm, LT.out.symm, below_drewN HBr.out _⟩, by simp only [intOf]; omega⟩
          | false =>
            go_wp2
            go_quiet (fail)
            clear ca cq
            go_wp2
            exact ⟨⟨q + 1, a, r, false, by omega, by omega, by omega, by go_num, by go_num, rfl, by go_num, CT.out.symm, RT.out.symm, LT.out.symm, below_drewN HBr.out _⟩, by simp only [intOf]; omega⟩
      · have hd : decide (m ≤ y) = false := decide_eq_false (by have := hy.out; omega)
        obtain rfl : bq = false := ES (by omega)
        have ca := trivial
        clear EQ ES HCV hsh
        cases la with
        | true =>
          go_wp2
          go_quiet (fail)
          clear ca cq
          go_wp2
          exact ⟨⟨q + 1, a, r, false, by omega, by omega, by omega, by go_num, by go_num, rfl, by go_num, CT.out.symm, RT.out.symm, LT.out.symm, below_drewN HBr.out _⟩, by simp only [intOf]; omega⟩
        | false =>
          go_wp2
          go_quiet (fail)
          clear ca cq
          go_wp2
          exact ⟨⟨q + 1, a, r, false, by omega, by omega, by omega, by go_num, by go_num, rfl, by go_num, CT.out.symm, RT.out.symm, LT.out.symm, below_drewN HBr.out _⟩, by simp only [intOf]; omega⟩
    · obtain rfl : q = n + 1 := by omega
      have R1 : r ≤ 1 := by rw [HRs.out]; exact HR.out _ (Nat.le_refl _)
      have R2 : (r : Int) ≤ 1 := by omega
      clear HRs HLa hr
      go_wp2
      obtain ⟨wo, rfl⟩ : ∃ wo, wo = wr := ⟨_, rfl⟩
      go_loopw [13, 14] (fun v13 v14 wr => ∃ (q c : Nat), q ≤ n + 1 ∧ c ≤ q ∧ v13 = .int .i64 c ∧ v14 = .int .i64 q ∧ Hid (c = Su.ct (Su.Bp t p) q) ∧ Hid (Below w1.heap.size w1 wr)) (fun _ v14 _ => n + 1 - (intOf v14).toNat)
      case atStart => exact ⟨0, 0, Nat.zero_le _, Nat.le_refl _, rfl, rfl, rfl, HBr⟩
      case round =>
        clear HBr HBB
        obtain ⟨q, c, hq, hc, rfl, rfl, HCt, HBr⟩ := hrel
        have HBB : Hid (Below w.heap.size w wr) := HB.out.trans (HBr.out.mono HB.out.size)
        by_cases hlt : q + m ≤ n
        · have hltz : (q : Int) + (m : Int) ≤ (n : Int) := by omega
          have CT : Hid (Su.ct (Su.Bp t p) (q + 1) = c + (Su.Bp t p q).toNat) := by rw [HCt.out]; rfl
          have ca := fun n0 => CVa.out (wr.drewN n0) q (below_drewN HBB.out n0) hlt
          have cq := fun n0 => CVp.out (wr.drewN n0) (below_drewN HBB.out n0)
          have EQ := HE.out q
          clear HCt
          generalize strOfNums (nums p) = SP at *
          generalize strOfNums (nums ((t.drop q).take m)) = SX at *
          generalize Su.Bp t p q = bq at *
          obtain ⟨a1, SL, HCV⟩ : ∃ a1 : Option Addr, (∀ w0, (Instr.sliceAt 22 (.slice ot n ct) (some (.int .i64 (q : Int))) (some (.int .i64 ((q : Int) + (m : Int)))) none).run Try.prog w0 = .ok (.slice a1 m (ct - q)) w0) ∧ (∀ n0, (convert 22 9 (.slice a1 m (ct - q))).run Try.prog (wr.drewN n0) = .ok (.string SX) (wr.drewN n0)) := by
            refine ⟨if ct = q then ot else ot.map (·.add q), fun w0 => ?_, fun n0 => ca n0⟩
            rw [run_sliceAt_slice _ _ _ _ _ _ (by kernel_rfl), run_slice_lh _ _ _ _ _ (by kernel_rfl) _ _ _ _ (by omega) (by omega) (by omega), show ((q : Int) + (m : Int)).toNat = q + m by omega]
            simp [go_sem]
          clear ca
          cases bq with
          | true =>
            go_wp2
            go_quiet (fail)
            clear HCV cq SL
            go_wp2
            exact ⟨⟨q + 1, c + 1, by omega, by omega, by go_num, by go_num, CT.out.symm, below_drewN HBr.out _⟩, by simp only [intOf]; omega⟩
          | false =>
            go_wp2
            go_quiet (fail)
            clear HCV cq SL
            go_wp2
            exact ⟨⟨q + 1, c, by omega, by omega, rfl, by go_num, CT.out.symm, below_drewN HBr.out _⟩, by simp only [intOf]; omega⟩
        · have hltz : (n : Int) < (q : Int) + (m : Int) := by omega
          have EA : a = c := by
            rw [HA.out, HC.out, HCt.out]
            exact ct_rest hq fun i h1 h2 => HS.out i (by omega) (by omega)
          subst EA
          clear HA HCt
          go_wp2_with fail
          refine (heads17_c _).mono ?_
          rintro e w9 ⟨rfl, hb⟩
          replace HBB := hide (HBB.out.trans (hb.mono HBB.out.size))
          go_wp2
          go_ret
          exact ⟨rfl, HBB.out⟩

theorem lifted (os : Os) (started : os.Started) (H : Type) (enc : TypeId × Value → H) :
    ReturnsInHanded {} Try.checked os 3 .any (Rows.suffixFirstSpec.pre6 enc Try.prog Try.f3 Rows.suffixFirstRow.domain false) (Rows.suffixFirstSpec.post enc Try.prog Try.f3 false true false false) := by
  refine returnsInHanded_of_change (C := Try.checked) own started (by kernel_rfl) Try.func3
    (ChangeSpec.witness6 (enc := enc) (C := Try.checked) false ⟨#[], #[.slice none 0 0, .slice none 0 0], []⟩ 8 (by kernel_rfl) (by kernel_rfl) (by kernel_rfl) (by kernel_rfl)) ?_
  intro W base args ds gs before hval0 hW hcnd _
  have hval : ∀ (j : Nat) t v, Try.f3.params[j]? = some t → args[j]? = some v → Value.okWide Try.prog W .any base t v := hval0
  have hW' := hW
  obtain ⟨p, q, hA0, hV, rfl, hfz, hnd⟩ := hW
  have hA : DataW.TrodAll enc Try.prog W 0 (fun _ => true) true Try.f3.params.toList args.toList ds p := hA0
  rw [Try.params3] at hA hval
  obtain ⟨v0, vs0, d0, ds0, p0, q0, hargs, rfl, rfl, h0, r0⟩ := trodAll_cons hA
  obtain ⟨v1, vs1, d1, ds1, p1, q1, rfl, rfl, rfl, h1, r1⟩ := trodAll_cons r0
  obtain ⟨rfl, rfl, rfl⟩ := trodAll_nil r1
  obtain rfl : args = #[v0, v1] := by cases args; simp_all
  obtain ⟨rfl, rfl⟩ := trodVars_none hV
  have k0 := h0
  have lt0 : ∀ x ∈ p0, x.block < W.heap.size := by obtain ⟨m, hm⟩ := k0; exact DataW.trod_lt m _ _ _ hm
  obtain ⟨ot, t, ct, rfl, b01, b02, b03⟩ := open_bytes (hval 0 22 v0 rfl rfl) h0
  have k1 := h1
  have lt1 : ∀ x ∈ p1, x.block < W.heap.size := by obtain ⟨m, hm⟩ := k1; exact DataW.trod_lt m _ _ _ hm
  obtain ⟨op, p, cp, rfl, b11, b12, b13⟩ := open_bytes (hval 1 22 v1 rfl rfl) h1
  clear hA0 hval0
  refine (walk W ot t ct b01 b02 b03 op p cp b11 b12 b13).mono fun e W' ⟨he, bel⟩ => ?_
  subst he
  exact ⟨_, rfl, _, _, _, [], _, [], hW', trodAll_mk1 (shut_bool Try.underlying4 _), (trodAll_cons_mk (Below.trod laidOut (by kernel_rfl) (of_decide_eq_true (by kernel_rfl)) k0 bel lt0) (trodAll_cons_mk (Below.trod laidOut (by kernel_rfl) (of_decide_eq_true (by kernel_rfl)) k1 bel lt1) trodAll_mk0)), rfl, bel.frame _, fun h => by cases h⟩

theorem over : Rows.suffixFirstRow.holds Try.pinned (OpenSpec.ofChange Rows.suffixFirstSpec) :=
  OpenClaim.holds_of_wide 3 Try.f3 rfl rfl rfl rfl rfl rfl rfl ⟨rfl, rfl, rfl, rfl, rfl⟩ rfl rfl rfl rfl rfl (by kernel_rfl) Try.func3 (by kernel_rfl)
    (of_decide_eq_true (by kernel_rfl)) (by unfold Func.isWrapper; first | (rw [if_pos (by decide +kernel)]; kernel_rfl) | (rw [if_neg (by decide +kernel)]; exact ⟨rfl, rfl⟩))
    (fun os started H enc _ => lifted os started H enc)

theorem proved : Rows.SuffixFirstSaid := over
end Go.Proofs.Ytlconniheakalaa.suffixFirst
namespace Go.Proofs.Ytlconniheakalaa
theorem suffixFirst_holds : Rows.SuffixFirstSaid := suffixFirst.proved
#print axioms suffixFirst_holds
end Go.Proofs.Ytlconniheakalaa
