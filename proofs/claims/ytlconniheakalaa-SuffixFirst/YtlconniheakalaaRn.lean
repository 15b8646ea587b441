/-
  The contracts of the document's Array of whatever text, and Check.
-/
import Derived.Test.YtlconniheakalaaRk
namespace Go.Proofs.Ytlconniheakalaa
open Go.RowKit
set_option linter.unusedVariables false
set_option linter.unusedSimpArgs false
set_option maxRecDepth 100000

namespace Su
noncomputable def arrL (t : List Nat) : List Nat := if t.length ≤ 8192 then sa t else []
def arrE (t : List Nat) : Int := if t.length ≤ 8192 then 0 else 4
theorem arr_in {t : List Nat} (h : t.length ≤ 8192) : arrL t = sa t ∧ arrE t = 0 := by
  unfold arrL arrE
  rw [if_pos h, if_pos h]
  exact ⟨rfl, rfl⟩
theorem arr_out {t : List Nat} (h : ¬ t.length ≤ 8192) : arrL t = [] ∧ arrE t = 4 := by
  unfold arrL arrE
  rw [if_neg h, if_neg h]
  exact ⟨rfl, rfl⟩
noncomputable def chk (t : List Nat) (l : List Int) : Bool := decide (t.length ≤ 8192) && decide (toI (sa t) = l)
end Su
/-- What an Array answers. -/
def ArrQ (t : List Nat) (w : World) (e : Ending) (w' : World) : Prop := ∃ bo dap, e = .returned (.tuple #[.slice bo (Su.arrL t).length dap, .int .i64 (Su.arrE t)]) ∧ Nd w' bo (toI (Su.arrL t)) ∧ (Su.arrL t).length ≤ dap ∧ Below w.heap.size w w'
set_option maxHeartbeats 2000000 in
theorem rarr_a (ao : Option Addr) (t : List Nat) (cap : Nat) (w : World) (hx : Bd w ao t) (hb : Bytes t) (hc : t.length ≤ cap) :
    Calls Try.prog 10 #[.slice ao t.length cap] w (ArrQ t w) := by
  by_cases h : t.length ≤ 8192
  · refine (rarr_c ao t cap w hx hb hc h).mono fun e w' H => ?_
    unfold ArrQ
    rw [(Su.arr_in h).1, (Su.arr_in h).2]
    exact H
  · have h2 : (8192 : Int) < (t.length : Int) := by omega
    have R := hide (Su.arr_out h)
    clear hx hb hc h
    go_enter Try.func10, Try.ntmps10
    go_wp2
    go_ret2
    unfold ArrQ
    rw [R.out.1, R.out.2]
    exact ⟨none, 0, rfl, nd0 _ _, Nat.zero_le _, Below.refl _ _⟩
set_option maxHeartbeats 2000000 in
theorem rchk_c (ao : Option Addr) (t : List Nat) (cap : Nat) (bo : Option Addr) (l : List Int) (dap : Nat) (w : World) (hx : Bd w ao t) (hb : Bytes t) (hc : t.length ≤ cap) (hy : Nd w bo l) :
    Calls Try.prog 17 #[.slice ao t.length cap, .slice bo l.length dap] w fun e w' => e = .returned (.bool (Su.chk t l)) ∧ Below w.heap.size w w' := by
  have C1 := hide (rarr_a ao t cap w hx hb hc)
  clear hx hb
  by_cases h : t.length ≤ 8192
  · unfold ArrQ at C1
    rw [(Su.arr_in h).1, (Su.arr_in h).2] at C1
    have CK : Hid (Su.chk t l = decide (toI (Su.sa t) = l)) := by
      show Su.chk t l = _
      unfold Su.chk
      rw [decide_eq_true h]
      rfl
    have LS := hide (Su.length_sa t)
    obtain ⟨m, hm⟩ : ∃ m, Hid (m = (Su.sa t).length) := ⟨_, rfl⟩
    have hm2 : m ≤ 8193 := by rw [hm.out, LS.out]; omega
    rw [← hm.out] at C1
    go_enter Try.func17, Try.ntmps17
    go_wp2_with fail
    refine (C1.out).mono ?_
    rintro e w1 ⟨ao1, c1, rfl, hN, hle, hB⟩
    have HN := hide hN
    have HY := hide (hy.keep hB)
    have HB := hide hB
    clear C1 hN hy hB hle
    by_cases h2 : m = l.length
    · have h2' : ((m : Int) != (l.length : Int)) = false := by simp; omega
      have H2 := hide h2
      have h3 : m ≤ l.length := by omega
      clear h2
      go_wp2
      go_loopw [7] (fun i wr => ∃ k : Nat, k ≤ m ∧ i = .int .i64 k ∧ Hid (∀ j, j < k → gi (toI (Su.sa t)) j = gi l j) ∧ Below w1.heap.size w1 wr) (fun i _ => m - (intOf i).toNat)
      case atStart => exact ⟨0, by omega, rfl, fun j hj => absurd hj (by omega), Below.refl _ _⟩
      case round =>
        obtain ⟨k, hk, rfl, H, hw⟩ := hrel
        have HBB : Hid (Below w.heap.size w wr) := HB.out.trans (hw.mono HB.out.size)
        by_cases hlt : k < m
        · obtain ⟨b, off, rfl, hb, hc⟩ := HN.out (by rw [length_toI, ← hm.out]; omega)
          obtain ⟨d, off2, rfl, hd, hc2⟩ := HY.out (by omega)
          have e1 := (hw.cell (p := ⟨b, off + k, none⟩) hb).trans (hc k (by rw [length_toI, ← hm.out]; exact hlt))
          have e2 := (hw.cell (p := ⟨d, off2 + k, none⟩) hd).trans (hc2 k (by omega))
          have hlt2 : k < l.length := by omega
          have hlt3 : (k : Int) < (l.length : Int) := by omega
          have hlt4 : (k : Int) < (m : Int) := by omega
          clear hc hc2
          by_cases hv : gi (toI (Su.sa t)) k = gi l k
          · have hne : (gi (toI (Su.sa t)) k != gi l k) = false := by simp [hv]
            have HN : Hid (∀ j, j < k + 1 → gi (toI (Su.sa t)) j = gi l j) := fun j hj => by
              by_cases e : j = k
              · subst e; exact hv
              · exact H.out j (by omega)
            clear hv HBB
            generalize gi (toI (Su.sa t)) k = x at *
            generalize gi l k = y at *
            go_wp2
            go_quiet (fail)
            go_wp2
            exact ⟨⟨k + 1, by omega, by go_num, HN, below_drewN hw _⟩, by simp only [intOf]; omega⟩
          · have hne : (gi (toI (Su.sa t)) k != gi l k) = true := by simp [hv]
            have R : Hid (Su.chk t l = false) := by
              rw [CK.out]
              refine decide_eq_false fun e => hv (by rw [e])
            generalize gi (toI (Su.sa t)) k = x at *
            generalize gi l k = y at *
            go_wp2
            go_quiet (fail)
            go_wp2
            go_ret
            rw [R.out]
            exact ⟨rfl, below_drewN HBB.out _⟩
        · have R : Hid (Su.chk t l = true) := by
            rw [CK.out]
            exact decide_eq_true (gi_ext (by rw [length_toI, ← hm.out]; exact H2.out) fun i hi => H.out i (by rw [length_toI, ← hm.out] at hi; omega))
          go_wp2
          go_ret
          rw [R.out]
          exact ⟨rfl, HBB.out⟩
    · have h2' : ((m : Int) != (l.length : Int)) = true := by simp; omega
      have R : Hid (Su.chk t l = false) := by
        rw [CK.out]
        refine decide_eq_false fun e => h2 ?_
        rw [hm.out, ← e, length_toI]
      go_wp2
      go_ret
      rw [R.out]
      exact ⟨rfl, HB.out⟩
  · unfold ArrQ at C1
    rw [(Su.arr_out h).1, (Su.arr_out h).2] at C1
    have CK : Hid (Su.chk t l = false) := by
      show Su.chk t l = _
      unfold Su.chk
      rw [decide_eq_false h]
      rfl
    go_enter Try.func17, Try.ntmps17
    go_wp2_with fail
    refine (C1.out).mono ?_
    rintro e w1 ⟨ao1, c1, rfl, hN, hle, hB⟩
    go_wp2
    go_ret
    rw [CK.out]
    exact ⟨rfl, hB⟩
end Go.Proofs.Ytlconniheakalaa
