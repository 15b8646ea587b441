/-
  The contract of the document's Inverse.
-/
import Derived.Test.YtlconniheakalaaRi
namespace Go.Proofs.Ytlconniheakalaa
open Go.RowKit
set_option linter.unusedVariables false
set_option linter.unusedSimpArgs false
set_option maxRecDepth 100000

namespace Su
/-- The first q numbers are places, no two the same. -/
def Gd (l : List Int) (q : Nat) : Prop := (∀ i, i < q → 0 ≤ gi l i ∧ gi l i < l.length) ∧ ∀ i j, i < j → j < q → gi l i ≠ gi l j
theorem gd_zero (l : List Int) : Gd l 0 := ⟨fun i h => absurd h (Nat.not_lt_zero _), fun i j _ h => absurd h (Nat.not_lt_zero _)⟩
theorem Gd.less {l : List Int} {q p : Nat} (h : Gd l q) (hp : p ≤ q) : Gd l p := ⟨fun i hi => h.1 i (by omega), fun i j a b => h.2 i j a (by omega)⟩
theorem Gd.more {l : List Int} {q : Nat} (h : Gd l q) (h1 : 0 ≤ gi l q) (h2 : gi l q < l.length) (h3 : ∀ i, i < q → gi l i ≠ gi l q) : Gd l (q + 1) := by
  refine ⟨fun i hi => ?_, fun i j a b => ?_⟩
  · by_cases e : i = q
    · subst e; exact ⟨h1, h2⟩
    · exact h.1 i (by omega)
  · by_cases e : j = q
    · subst e; exact h3 i a
    · exact h.2 i j a (by omega)
/-- Which places were met. -/
def mtL (l : List Int) : Nat → List Bool
  | 0 => List.replicate l.length false
  | q + 1 => (mtL l q).set (gi l q).toNat true
/-- Of each place the number that met it. -/
def otL (l : List Int) : Nat → List Nat
  | 0 => List.replicate l.length 0
  | q + 1 => (otL l q).set (gi l q).toNat q
theorem length_mtL (l : List Int) : ∀ q, (mtL l q).length = l.length
  | 0 => List.length_replicate
  | q + 1 => by rw [mtL, List.length_set, length_mtL l q]
theorem length_otL (l : List Int) : ∀ q, (otL l q).length = l.length
  | 0 => List.length_replicate
  | q + 1 => by rw [otL, List.length_set, length_otL l q]
theorem mt_at (l : List Int) : ∀ q p, p < l.length → ((mtL l q)[p]? = some true ↔ ∃ i, i < q ∧ (gi l i).toNat = p)
  | 0, p, hp => by
    rw [mtL, List.getElem?_replicate, if_pos hp]
    simp
  | q + 1, p, hp => by
    rw [mtL, List.getElem?_set, length_mtL]
    by_cases e : (gi l q).toNat = p
    · rw [if_pos e, if_pos (by omega)]
      exact ⟨fun _ => ⟨q, by omega, e⟩, fun _ => rfl⟩
    · rw [if_neg e, mt_at l q p hp]
      refine ⟨fun ⟨i, a, b⟩ => ⟨i, by omega, b⟩, fun ⟨i, a, b⟩ => ⟨i, ?_, b⟩⟩
      by_cases c : i = q
      · subst c; exact absurd b e
      · omega
theorem ot_at (l : List Int) : ∀ q i, Gd l q → q ≤ l.length → i < q → (otL l q)[(gi l i).toNat]? = some i
  | 0, i, _, _, h => absurd h (Nat.not_lt_zero _)
  | q + 1, i, g, hq, h => by
    rw [otL, List.getElem?_set, length_otL]
    by_cases e : i = q
    · subst e
      have := g.1 i h
      rw [if_pos rfl, if_pos (by omega)]
    · have h1 := g.1 i (by omega)
      have h2 := g.1 q (by omega)
      have h3 := g.2 i q (by omega) (by omega)
      rw [if_neg (by omega)]
      exact ot_at l q i (g.less (by omega)) (by omega) (by omega)
/-- The numbers as places. -/
def ns (l : List Int) : List Nat := l.map Int.toNat
theorem length_ns (l : List Int) : (ns l).length = l.length := by simp [ns]
theorem ns_at (l : List Int) {i : Nat} (h : i < l.length) : (ns l)[i]? = some (gi l i).toNat := by
  unfold ns
  rw [List.getElem?_map, gi_get l i h]
  rfl
theorem Gd.pm {l : List Int} (h : Gd l l.length) : Pm (ns l) := by
  refine pm_of ?_ fun x hx => ?_
  · unfold List.Nodup
    rw [List.pairwise_iff_getElem]
    intro i j hi hj hij e
    rw [length_ns] at hi hj
    have a := ns_at l hi
    have b := ns_at l hj
    rw [List.getElem?_eq_getElem (by rw [length_ns]; exact hi)] at a
    rw [List.getElem?_eq_getElem (by rw [length_ns]; exact hj)] at b
    injection a with a
    injection b with b
    have h1 := h.1 i hi
    have h2 := h.1 j hj
    have h3 := h.2 i j hij hj
    rw [a, b] at e
    omega
  · obtain ⟨i, hi⟩ := List.getElem?_of_mem hx
    have hl := (List.getElem?_eq_some_iff.1 hi).1
    rw [length_ns] at hl ⊢
    rw [ns_at l hl] at hi
    injection hi with hi
    have := h.1 i hl
    omega
theorem pm_gd {l : List Int} (h0 : ∀ i, i < l.length → 0 ≤ gi l i) (h : Pm (ns l)) : Gd l l.length := by
  refine ⟨fun i hi => ?_, fun i j hij hj e => ?_⟩
  · have := h.lt (List.mem_of_getElem? (ns_at l hi))
    rw [length_ns] at this
    have := h0 i hi
    omega
  · have hd := h.nodup
    unfold List.Nodup at hd
    rw [List.pairwise_iff_getElem] at hd
    refine hd i j (by rw [length_ns]; omega) (by rw [length_ns]; omega) hij ?_
    have a := ns_at l (show i < l.length by omega)
    have b := ns_at l hj
    rw [List.getElem?_eq_getElem (by rw [length_ns]; omega)] at a b
    injection a with a
    injection b with b
    rw [a, b, e]
theorem ot_inv {l : List Int} (h : Gd l l.length) : otL l l.length = inv (ns l) := by
  refine List.ext_getElem? fun p => ?_
  by_cases hp : p < l.length
  · have hm := h.pm.mem (x := p) (by rw [length_ns]; exact hp)
    obtain ⟨i, hi⟩ := List.getElem?_of_mem hm
    have hl := (List.getElem?_eq_some_iff.1 hi).1
    rw [length_ns] at hl
    rw [h.pm.inv_at hi]
    rw [ns_at l hl] at hi
    injection hi with hi
    have := ot_at l l.length i h (Nat.le_refl _) hl
    rwa [hi] at this
  · rw [List.getElem?_eq_none (by rw [length_otL]; omega), List.getElem?_eq_none (by rw [length_inv, length_ns]; omega)]
open Classical in
noncomputable def invE (l : List Int) : Int := if Gd l l.length then 0 else 2
open Classical in
noncomputable def invL (l : List Int) : List Nat := if Gd l l.length then inv (ns l) else []
theorem inv_yes {l : List Int} (h : Gd l l.length) : invE l = 0 ∧ invL l = inv (ns l) := by
  unfold invE invL
  rw [if_pos h, if_pos h]
  exact ⟨rfl, rfl⟩
theorem inv_no {l : List Int} {q : Nat} (hq : q ≤ l.length) (h : ¬ Gd l q) : invE l = 2 ∧ invL l = [] := by
  have h' : ¬ Gd l l.length := fun g => h (g.less hq)
  unfold invE invL
  rw [if_neg h', if_neg h']
  exact ⟨rfl, rfl⟩
end Su

theorem ns_toI (l : List Nat) : Su.ns (toI l) = l := by
  unfold Su.ns toI
  rw [List.map_map]
  exact (List.map_congr_left fun a _ => by simp).trans (List.map_id l)
theorem toI_ns {l : List Int} (h : ∀ i, i < l.length → 0 ≤ gi l i) : toI (Su.ns l) = l := by
  refine gi_ext (by rw [length_toI, Su.length_ns]) fun i hi => ?_
  rw [length_toI, Su.length_ns] at hi
  rw [gi_toI]
  have e := Su.ns_at l hi
  rw [gt_get _ i (by rw [Su.length_ns]; exact hi)] at e
  injection e with e
  rw [e]
  have := h i hi
  omega
set_option maxHeartbeats 4000000 in
theorem rinv_c (ao : Option Addr) (l : List Int) (cap : Nat) (w : World) (hx : Nd w ao l) (hl : l.length ≤ 1048576) :
    Calls Try.prog 12 #[.slice ao l.length cap] w fun e w' => ∃ bo dap, e = .returned (.tuple #[.slice bo (Su.invL l).length dap, .int .i64 (Su.invE l)]) ∧ Nd w' bo (toI (Su.invL l)) ∧ (Su.invL l).length ≤ dap ∧ Below w.heap.size w w' := by
  obtain ⟨i0, hi, hz0, hz1, hz2⟩ := info_parts Try.info3
  obtain ⟨i4, hi4, za4, zb4, zc4⟩ := info_parts Try.info4
  obtain ⟨n, hn⟩ : ∃ n, Hid (n = l.length) := ⟨_, rfl⟩
  have HX := hide hx
  have hn2 : n ≤ 1048576 := by rw [hn.out]; exact hl
  rw [← hn.out]
  clear hx hl
  go_enter Try.func12, Try.ntmps12
  go_wp2_with (at_make; refine wpList_make_full _ rfl _ _ 24 rfl w.heap.size 3 i0 (.int .i64 0) 1 Try.underlying24 hi hz0 hz1 .i64 .i64 _ _ n rfl rfl rfl rfl ?b2 ?b3 ?b4 ?_)
  case b2 => rw [hz2]; omega
  case b3 => unfold maxLen; omega
  case b4 => simp
  intro w1 hown hgr
  have B1 := cel_made hown
  have hb1 : Below w.heap.size w w1 := (Below.refl _ _).grown hgr (Nat.le_refl _) (fun k h => by cases h)
  rw [← iv_rep n] at B1
  have HL1 := hide B1
  have HB1 := hide hb1
  clear hown hgr hb1 hi hz0 hz1 hz2 B1
  obtain ⟨g1, hg1⟩ : ∃ g1, Hid (g1 = w.heap.size) := ⟨_, rfl⟩
  rw [← hg1.out] at HL1 ⊢
  go_wp2_with (at_make; refine wpList_make_full _ rfl _ _ 37 rfl w1.heap.size 4 i4 (.bool false) 1 Try.underlying37 hi4 za4 zb4 .i64 .i64 _ _ n rfl rfl rfl rfl ?b5 ?b6 ?b7 ?_)
  case b5 => rw [zc4]; omega
  case b6 => unfold maxLen; omega
  case b7 => simp
  intro w2 hown hgr
  have B2 := cel_made hown
  have hb2 : Below w1.heap.size w1 w2 := (Below.refl _ _).grown hgr (Nat.le_refl _) (fun k h => by cases h)
  rw [← bv_rep n] at B2
  have HL2 := hide B2
  have HA := hide (HL1.out.kept hb2)
  have HB2 := hide (HB1.out.trans (hb2.mono HB1.out.size))
  have hne : g1 ≠ w1.heap.size := by have := HL1.out.lt; omega
  have hgle : w.heap.size ≤ g1 := by have := hg1.out; omega
  have hgle2 : w.heap.size ≤ w1.heap.size := by have := HL1.out.lt; omega
  clear hown hgr hb2 hi4 za4 zb4 zc4 B2 HL1 HB1
  generalize w1.heap.size = g2 at *
  go_wp2
  go_loopw [6] (fun vi wr => ∃ q : Nat, q ≤ n ∧ vi = .int .i64 q ∧ Hid (Cel wr g1 (iv (Su.otL l q)) 3) ∧ Hid (Cel wr g2 (bv (Su.mtL l q)) 4) ∧ Hid (Su.Gd l q) ∧ Hid (Below w.heap.size w wr)) (fun vi _ => n - (intOf vi).toNat)
  case atStart => exact ⟨0, Nat.zero_le _, rfl, by rw [Su.otL, ← hn.out]; exact HA, by rw [Su.mtL, ← hn.out]; exact HL2, Su.gd_zero l, HB2⟩
  case round =>
    clear HA HL2 HB2
    obtain ⟨q, hq, rfl, HO, HM, HG, HB⟩ := hrel
    by_cases hlt : q < n
    · obtain ⟨b, off, rfl, hb0, hcc⟩ := HX.out (by rw [← hn.out]; omega)
      have e1 := (HB.out.cell (p := ⟨b, off + q, none⟩) hb0).trans (hcc q (by rw [← hn.out]; exact hlt))
      have hltz : (q : Int) < (n : Int) := by omega
      have hbn : b ≠ g1 ∧ b ≠ g2 := ⟨by omega, by omega⟩
      clear hcc
      by_cases h1 : gi l q < 0
      · have R := hide (Su.inv_no (l := l) (q := q + 1) (by rw [← hn.out]; omega) fun g => by have := g.1 q (by omega); omega)
        generalize gi l q = x at *
        go_wp2
        go_ret2
        rw [R.out.1, R.out.2]
        exact ⟨none, 0, rfl, nd0 _ _, Nat.zero_le _, HB.out⟩
      by_cases h2 : (n : Int) ≤ gi l q
      · have R := hide (Su.inv_no (l := l) (q := q + 1) (by rw [← hn.out]; omega) fun g => by have := g.1 q (by omega); rw [← hn.out] at this; omega)
        generalize gi l q = x at *
        go_wp2
        go_ret2
        rw [R.out.1, R.out.2]
        exact ⟨none, 0, rfl, nd0 _ _, Nat.zero_le _, HB.out⟩
      obtain ⟨x, hxx⟩ : ∃ x : Nat, gi l q = (x : Int) := ⟨(gi l q).toNat, by omega⟩
      have HXX := hide hxx
      have hxn : (x : Int) < (n : Int) := by omega
      have hm := Su.mt_at l q x (by rw [← hn.out]; omega)
      have hml : x < (Su.mtL l q).length := by rw [Su.length_mtL, ← hn.out]; omega
      have f2 := HM.out.frozen x
      have f1 := HO.out.frozen x
      have hol : x < (Su.otL l q).length := by rw [Su.length_otL, ← hn.out]; omega
      have n1 := HO.out.cell x (iv_get _ x hol)
      rw [hxx] at e1 h1 h2
      cases hb : (Su.mtL l q)[x]? with
      | none => rw [List.getElem?_eq_getElem hml] at hb; cases hb
      | some bb =>
        have n2 := HM.out.cell x (bv_get _ x hb)
        cases bb with
        | true =>
          obtain ⟨i, hi1, hi2⟩ := hm.1 hb
          have R := hide (Su.inv_no (l := l) (q := q + 1) (by rw [← hn.out]; omega) fun g => by
            have h3 := g.2 i q hi1 (by omega)
            have h4 := g.1 i (by omega)
            rw [HXX.out] at h3
            omega)
          clear hm hb hxx
          go_wp2
          go_ret2
          rw [R.out.1, R.out.2]
          exact ⟨none, 0, rfl, nd0 _ _, Nat.zero_le _, HB.out⟩
        | false =>
          have G1 : Hid (Su.Gd l (q + 1)) := HG.out.more (by rw [HXX.out]; omega) (by rw [HXX.out, ← hn.out]; omega) fun i hi1 e => by
            have := hm.2 ⟨i, hi1, by rw [e, HXX.out]; simp⟩
            rw [hb] at this
            cases this
          have e1' : (wr.setCell ⟨g2, x, none⟩ (.bool true)).cell? ⟨b, off + q, none⟩ = some (.int .i64 (x : Int)) := (World.cell?_of_block (w := wr) (a := ⟨b, off + q, none⟩) (Below.heap_setCell wr ⟨g2, x, none⟩ (.bool true) b hbn.2)).trans e1
          have O1 := HO.out.other (a := ⟨g2, x, none⟩) hne (.bool true)
          have n1' := O1.cell x (iv_get _ x hol)
          have f1' := O1.frozen x
          have M1 : Hid (Cel ((wr.setCell ⟨g2, x, none⟩ (.bool true)).setCell ⟨g1, x, none⟩ (.int .i64 (q : Nat))) g2 (bv (Su.mtL l (q + 1))) 4) := by
            have := HM.out.set x (.bool true)
            rw [bv_set] at this
            rw [show Su.mtL l (q + 1) = (Su.mtL l q).set x true by rw [Su.mtL, HXX.out]; rfl]
            exact this.other (a := ⟨g1, x, none⟩) (fun h => hne h.symm) _
          have O2 : Hid (Cel ((wr.setCell ⟨g2, x, none⟩ (.bool true)).setCell ⟨g1, x, none⟩ (.int .i64 (q : Nat))) g1 (iv (Su.otL l (q + 1))) 3) := by
            have := O1.set x (.int .i64 (q : Nat))
            rw [iv_set] at this
            rw [show Su.otL l (q + 1) = (Su.otL l q).set x q by rw [Su.otL, HXX.out]; rfl]
            exact this
          have B2 : Hid (Below w.heap.size w ((wr.setCell ⟨g2, x, none⟩ (.bool true)).setCell ⟨g1, x, none⟩ (.int .i64 (q : Nat)))) := (HB.out.setCell (p := ⟨g2, x, none⟩) hgle2 _).setCell (p := ⟨g1, x, none⟩) hgle _
          have l1 := HO.out.lt
          have l2 := HM.out.lt
          clear hm hb hxx O1
          go_wp2
          exact ⟨⟨q + 1, by omega, by go_num, O2, M1, G1, B2⟩, by simp only [intOf]; omega⟩
    · obtain rfl : q = n := by omega
      have R := hide (Su.inv_yes (l := l) (by rw [← hn.out]; exact HG.out))
      go_wp2
      go_ret2
      have hle : (Su.otL l l.length).length = q := by rw [Su.length_otL, hn.out]
      rw [R.out.1, R.out.2, ← Su.ot_inv (by rw [← hn.out]; exact HG.out), hle]
      refine ⟨some ⟨g1, 0, none⟩, q, rfl, nd_cel ?_, Nat.le_refl _, HB.out⟩
      rw [← hn.out]
      exact HO.out
end Go.Proofs.Ytlconniheakalaa
