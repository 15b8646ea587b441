/-
  The contracts of the document's Name of whatever configuration, and Parse.
-/
import Derived.Test.YtadfnllfeoidhaaDoorCh
namespace Go.Proofs.YtadfnllfeoidhaaDoor
open Go.RowKit
set_option linter.unusedVariables false
set_option linter.unusedSimpArgs false
set_option maxRecDepth 100000

namespace Co
def nat (z : Zf) : Cf := (z.1.toNat, z.2.1.toNat, z.2.2.1.toNat, z.2.2.2.1.toNat, z.2.2.2.2.toNat)
theorem toI_nn (l : List Nat) (n : Int) (h : n ∈ toI l) : 0 ≤ n := by
  unfold toI at h
  obtain ⟨x, _, rfl⟩ := List.mem_map.1 h
  omega
theorem okZ_nn {z : Zf} (h : okZ z = true) : toZ (nat z) = z := by
  obtain ⟨s, i, l, k, m⟩ := z
  unfold okZ at h
  simp only [Bool.and_eq_true, decide_eq_true_eq] at h
  obtain ⟨h1, h2, h3, h4, h5, h6⟩ := h
  have hm : 0 ≤ m := toI_nn sam m (of_decide_eq_true h5)
  have hil : 0 ≤ i ∧ 0 ≤ l := by
    by_cases c : s = 4
    · rw [decide_eq_true c] at h6
      simp only [cond_true, Bool.and_eq_true, decide_eq_true_eq] at h6
      exact ⟨by omega, toI_nn lgs l (of_decide_eq_true h6.2.2)⟩
    · rw [decide_eq_false c] at h6
      simp only [cond_false, Bool.and_eq_true, decide_eq_true_eq] at h6
      omega
  unfold toZ nat
  refine Prod.ext ?_ (Prod.ext ?_ (Prod.ext ?_ (Prod.ext ?_ ?_))) <;> simp only <;> omega
/-- What whatever configuration is called. -/
def nmZ (z : Zf) : List Nat := bif okZ z then nm (nat z) else []
theorem nat_toZ (c : Cf) : nat (toZ c) = c := by
  obtain ⟨s, i, l, k, m⟩ := c
  unfold toZ nat
  refine Prod.ext ?_ (Prod.ext ?_ (Prod.ext ?_ (Prod.ext ?_ ?_))) <;> simp only <;> omega
/-- The one with that name. -/
def fnd (s : ByteArray) : Option Cf := all.find? fun c => (str (nm c)).toList == s.toList
def prZ (s : ByteArray) : Zf := match fnd s with
  | some c => toZ c
  | none => (0, 0, 0, 0, 0)
theorem all_ok : (all.all fun c => ok c) = true := by decide +kernel
theorem ok_all {c : Cf} (h : c ∈ all) : ok c = true := List.all_eq_true.1 all_ok c h
theorem fnd_at {s : ByteArray} {i : Nat} {c : Cf} (h : all[i]? = some c) (hn : ∀ j, j < i → ∀ d, all[j]? = some d → ((str (nm d)).toList == s.toList) = false) (he : ((str (nm c)).toList == s.toList) = true) : fnd s = some c := by
  unfold fnd
  rw [List.find?_eq_some_iff_getElem]
  obtain ⟨hi, e⟩ := List.getElem?_eq_some_iff.1 h
  refine ⟨he, i, hi, e, fun j hj => ?_⟩
  rw [hn j hj _ (List.getElem?_eq_getElem (by omega))]
  rfl
theorem fnd_none {s : ByteArray} (hn : ∀ (j : Nat), ∀ d, all[j]? = some d → ((str (nm d)).toList == s.toList) = false) : fnd s = none := by
  unfold fnd
  rw [List.find?_eq_none]
  intro c hc
  obtain ⟨j, hj⟩ := List.getElem?_of_mem hc
  rw [hn j c hj]
  decide
end Co
set_option maxHeartbeats 2000000 in
theorem rname_c (z1 z2 z3 z4 z5 : Int) (w : World) :
    Calls Tryd.prog 15 #[.agg #[.int .i64 z1, .int .i64 z2, .int .i64 z3, .int .i64 z4, .int .i64 z5]] w fun e w' => e = .returned (.string (Co.str (Co.nmZ (z1, z2, z3, z4, z5)))) ∧ Below w.heap.size w w' := by
  cases h : Co.okZ (z1, z2, z3, z4, z5) with
  | true =>
    have e := Co.okZ_nn h
    have h2 := Co.okZ_nat (Co.nat (z1, z2, z3, z4, z5))
    rw [e, h] at h2
    have := rname_n z1.toNat z2.toNat z3.toNat z4.toNat z5.toNat h2.symm w
    unfold Co.toZ Co.nat at e
    simp only [Prod.mk.injEq] at e
    obtain ⟨a1, a2, a3, a4, a5⟩ := e
    rw [a1, a2, a3, a4, a5] at this
    unfold Co.nmZ
    rw [h]
    exact this
  | false =>
    have RC := hide (fun w0 => rcheck_c z1 z2 z3 z4 z5 w0)
    rw [h] at RC
    have R : Hid (Co.nmZ (z1, z2, z3, z4, z5) = []) := by unfold Co.nmZ; rw [h]; exact (rfl : ([] : List Nat) = [])
    obtain ⟨W, hW⟩ : ∃ W, W = w.alloc (.cells #[.int .i64 z1, .int .i64 z2, .int .i64 z3, .int .i64 z4, .int .i64 z5] 23) := ⟨_, rfl⟩
    have HB0 : Hid (Below w.heap.size w W) := by rw [hW]; exact below_alloc w _
    have HC : Hid (Cel W w.heap.size [.int .i64 z1, .int .i64 z2, .int .i64 z3, .int .i64 z4, .int .i64 z5] 23) := by rw [hW]; exact Cel.new w _ _
    have HW := hide hW
    clear hW h
    go_enter Tryd.func15, Tryd.ntmps15
    go_wp2_with fail
    rw [← HW.out]
    refine (RC.out _).mono ?_
    rintro e w1 ⟨rfl, hb⟩
    have HB1 := hide (HB0.out.trans (hb.mono HB0.out.size))
    clear hb
    go_wp2
    go_ret
    rw [R.out]
    exact ⟨rfl, HB1.out⟩
theorem one5 (x1 x2 x3 x4 x5 : Int) : ([.int .i64 x1, .int .i64 x2, .int .i64 x3, .int .i64 x4, .int .i64 x5] : List Value).toArray.all (·.oneCell') = true := by simp [Value.oneCell']
theorem info_cfg : (Tryd.prog.info? 23).map (·.size) = some 5 := by kernel_rfl
set_option maxHeartbeats 4000000 in
theorem rparse_c (s : ByteArray) (w : World) :
    Calls Tryd.prog 13 #[.string s] w fun e w' => e = .returned (.tuple #[.agg (Co.cv (Co.prZ s)).toArray, .bool (Co.fnd s).isSome]) ∧ Below w.heap.size w w' := by
  have RA := hide rall_a
  have RN : Hid (∀ (i : Nat) c w0, Co.all[i]? = some c → Calls Tryd.prog 15 #[.agg #[.int .i64 (Co.toZ c).1, .int .i64 (Co.toZ c).2.1, .int .i64 (Co.toZ c).2.2.1, .int .i64 (Co.toZ c).2.2.2.1, .int .i64 (Co.toZ c).2.2.2.2]] w0 fun e w' => e = .returned (.string (Co.str (Co.nm c))) ∧ Below w0.heap.size w0 w') := fun i c w0 hc => by
    have := rname_c (Co.toZ c).1 (Co.toZ c).2.1 (Co.toZ c).2.2.1 (Co.toZ c).2.2.2.1 (Co.toZ c).2.2.2.2 w0
    have e : Co.nmZ (Co.toZ c) = Co.nm c := by
      unfold Co.nmZ
      rw [Co.okZ_nat, Co.ok_all (List.mem_of_getElem? hc), Co.nat_toZ]
      rfl
    rw [show ((Co.toZ c).1, (Co.toZ c).2.1, (Co.toZ c).2.2.1, (Co.toZ c).2.2.2.1, (Co.toZ c).2.2.2.2) = Co.toZ c from rfl, e] at this
    exact this
  obtain ⟨W, hW⟩ : ∃ W, W = w.alloc (.cells #[.int .i64 0, .int .i64 0, .int .i64 0, .int .i64 0, .int .i64 0] 23) := ⟨_, rfl⟩
  have HB0 : Hid (Below w.heap.size w W) := by rw [hW]; exact below_alloc w _
  have HC : Hid (Cel W w.heap.size [.int .i64 0, .int .i64 0, .int .i64 0, .int .i64 0, .int .i64 0] 23) := by rw [hW]; exact Cel.new w _ _
  have HW := hide hW
  clear hW
  obtain ⟨gb, hgb⟩ : ∃ gb, Hid (gb = w.heap.size) := ⟨_, rfl⟩
  have hgle : w.heap.size ≤ gb := by have := hgb.out; omega
  rw [← hgb.out] at HC
  go_enter Tryd.func13, Tryd.ntmps13
  go_wp2_with fail
  rw [← HW.out, ← hgb.out]
  refine (RA.out _).mono ?_
  rintro e w1 ⟨g, cap, rfl, hA, hcap, hg, hB⟩
  have HA := hide hA
  have HB1 := hide (HB0.out.trans (hB.mono HB0.out.size))
  have HC1 := hide (HC.out.kept hB)
  clear hA hB hg RA HC HB0
  go_wp2
  go_loopw [5] (fun vi wr => ∃ i : Nat, i ≤ 378 ∧ vi = .int .i64 (i : Nat) ∧ Hid (∀ (j : Nat), j < i → ∀ d, Co.all[j]? = some d → ((Co.str (Co.nm d)).toList == s.toList) = false) ∧ Hid (Below w1.heap.size w1 wr)) (fun vi _ => 378 - (intOf vi).toNat)
  case atStart => exact ⟨0, by omega, rfl, fun j h => absurd h (Nat.not_lt_zero _), Below.refl _ _⟩
  case round =>
    obtain ⟨i, hi, rfl, HN, HB⟩ := hrel
    have HBB := hide (HB1.out.trans (HB.out.mono HB1.out.size))
    by_cases hlt : i < 378
    · have hltz : (i : Int) < 378 := by omega
      obtain ⟨c, hc⟩ : ∃ c, Hid (Co.all[i]? = some c) := ⟨_, List.getElem?_eq_getElem (by rw [Co.all_len]; exact hlt)⟩
      have A2 := hide (HA.out.keep HB.out)
      have e1 := A2.out.2 i c hc.out 0 _ rfl
      have e2 := A2.out.2 i c hc.out 1 _ rfl
      have e3 := A2.out.2 i c hc.out 2 _ rfl
      have e4 := A2.out.2 i c hc.out 3 _ rfl
      have e5 := A2.out.2 i c hc.out 4 _ rfl
      simp only [Nat.add_zero] at e1
      have CN := hide (RN.out i c wr hc.out)
      have HC2 := hide (HC1.out.kept HB.out)
      obtain ⟨x1, hx1⟩ : ∃ x1, Hid ((Co.toZ c).1 = x1) := ⟨_, rfl⟩
      obtain ⟨x2, hx2⟩ : ∃ x2, Hid ((Co.toZ c).2.1 = x2) := ⟨_, rfl⟩
      obtain ⟨x3, hx3⟩ : ∃ x3, Hid ((Co.toZ c).2.2.1 = x3) := ⟨_, rfl⟩
      obtain ⟨x4, hx4⟩ : ∃ x4, Hid ((Co.toZ c).2.2.2.1 = x4) := ⟨_, rfl⟩
      obtain ⟨x5, hx5⟩ : ∃ x5, Hid ((Co.toZ c).2.2.2.2 = x5) := ⟨_, rfl⟩
      rw [hx1.out] at e1 CN
      rw [hx2.out] at e2 CN
      rw [hx3.out] at e3 CN
      rw [hx4.out] at e4 CN
      rw [hx5.out] at e5 CN
      have HCV : Hid ([.int .i64 x1, .int .i64 x2, .int .i64 x3, .int .i64 x4, .int .i64 x5] = Co.cv (Co.toZ c)) := by rw [← hx1.out, ← hx2.out, ← hx3.out, ← hx4.out, ← hx5.out]; exact (rfl : Co.cv (Co.toZ c) = _)
      cases he : ((Co.str (Co.nm c)).toList == s.toList) with
      | true =>
        have hf := Co.fnd_at hc.out HN.out he
        have R1 : Hid (Co.prZ s = Co.toZ c) := by unfold Co.prZ; rw [hf]; exact (rfl : Co.toZ c = _)
        have R2 : Hid ((Co.fnd s).isSome = true) := by rw [hf]; exact (rfl : true = true)
        clear hf
        go_wp2_with fail
        refine (CN.out).mono ?_
        rintro e w2 ⟨rfl, hb⟩
        have HE := hide he
        have A3 := hide (A2.out.keep hb)
        have e1 := A3.out.2 i c hc.out 0 _ rfl
        have e2 := A3.out.2 i c hc.out 1 _ rfl
        have e3 := A3.out.2 i c hc.out 2 _ rfl
        have e4 := A3.out.2 i c hc.out 3 _ rfl
        have e5 := A3.out.2 i c hc.out 4 _ rfl
        simp only [Nat.add_zero] at e1
        rw [hx1.out] at e1
        rw [hx2.out] at e2
        rw [hx3.out] at e3
        rw [hx4.out] at e4
        rw [hx5.out] at e5
        have HC3 := hide (HC2.out.kept hb)
        have HB3 := hide (HBB.out.trans (hb.mono HBB.out.size))
        clear hb CN A2 HC2 HBB HA
        have B3 := HC3.out
        go_wp2_with (refine store_cel gb [.int .i64 0, .int .i64 0, .int .i64 0, .int .i64 0, .int .i64 0] [.int .i64 x1, .int .i64 x2, .int .i64 x3, .int .i64 x4, .int .i64 x5] rfl rfl B3 rfl info_cfg (one5 _ _ _ _ _) ?_)
        intro w3 hc3 ho3
        have HB4 := HB3.out.trans (ho3.below hgle)
        clear B3
        go_wp2
        refine bodyPost_ret (result_cel rfl gb [.int .i64 x1, .int .i64 x2, .int .i64 x3, .int .i64 x4, .int .i64 x5] rfl hc3 Tryd.underlying23 info_cfg) rfl ?_
        rw [R1.out, R2.out, ← HCV.out]
        exact ⟨rfl, HB4⟩
      | false =>
        have HN2 : Hid (∀ (j : Nat), j < i + 1 → ∀ d, Co.all[j]? = some d → ((Co.str (Co.nm d)).toList == s.toList) = false) := fun j hj d hd => by
          by_cases q : j = i
          · subst q
            rw [hc.out] at hd
            injection hd with hd
            rw [← hd]
            exact he
          · exact HN.out j (by omega) d hd
        go_wp2_with fail
        refine (CN.out).mono ?_
        rintro e w2 ⟨rfl, hb⟩
        have HB3 := hide (HB.out.trans (hb.mono HB.out.size))
        clear hb CN A2 HC2 HBB
        go_wp2
        exact ⟨⟨i + 1, by omega, by go_num, HN2, HB3⟩, by simp only [intOf]; omega⟩
    · have hge : (378 : Int) ≤ (i : Int) := by omega
      have hf := Co.fnd_none (s := s) fun j d hd => HN.out j (by
        have := (List.getElem?_eq_some_iff.1 hd).1
        rw [Co.all_len] at this
        omega) d hd
      have R1 : Hid (Co.prZ s = (0, 0, 0, 0, 0)) := by unfold Co.prZ; rw [hf]; exact (rfl : ((0, 0, 0, 0, 0) : Co.Zf) = _)
      have R2 : Hid ((Co.fnd s).isSome = false) := by rw [hf]; exact (rfl : false = false)
      have HC3 := hide (HC1.out.kept HB.out)
      clear hf
      have B3 := HC3.out
      go_wp2_with (refine store_cel gb [.int .i64 0, .int .i64 0, .int .i64 0, .int .i64 0, .int .i64 0] [.int .i64 0, .int .i64 0, .int .i64 0, .int .i64 0, .int .i64 0] rfl rfl B3 rfl info_cfg (one5 _ _ _ _ _) ?_)
      intro w3 hc3 ho3
      have HB4 := HBB.out.trans (ho3.below hgle)
      clear B3
      go_wp2
      refine bodyPost_ret (result_cel rfl gb [.int .i64 0, .int .i64 0, .int .i64 0, .int .i64 0, .int .i64 0] rfl hc3 Tryd.underlying23 info_cfg) rfl ?_
      rw [R1.out, R2.out]
      exact ⟨rfl, HB4⟩
end Go.Proofs.YtadfnllfeoidhaaDoor
