/-
  The contract of the program's Inverse.
-/
import Derived.Test.YtlconniheakalaaRj
namespace Go.Proofs.Ytlconniheakalaa
open Go.RowKit
set_option linter.unusedVariables false
set_option linter.unusedSimpArgs false
set_option maxRecDepth 100000

/-- The values of a list of numbers. -/
def zv (l : List Int) : List Value := l.map (Value.int .i64)
theorem length_zv (l : List Int) : (zv l).length = l.length := by simp [zv]
theorem zv_get (l : List Int) (i : Nat) {x : Int} (h : l[i]? = some x) : (zv l)[i]? = some (.int .i64 x) := by
  unfold zv
  rw [List.getElem?_map, h]; rfl
theorem zv_set (l : List Int) (i : Nat) (v : Int) : (zv l).set i (.int .i64 v) = zv (l.set i v) := by
  unfold zv
  rw [List.map_set]
theorem zv_toI (l : List Nat) : zv (toI l) = iv l := by
  unfold zv toI iv
  rw [List.map_map]
  rfl
namespace Su
/-- The first k are nowhere yet, the others nought. -/
def fz (n k : Nat) : List Int := List.replicate k (-1) ++ List.replicate (n - k) 0
theorem fz_set {n k : Nat} (h : k < n) : (fz n k).set k (-1) = fz n (k + 1) := by
  unfold fz
  rw [List.set_append_right _ _ (by simp), List.length_replicate, Nat.sub_self, show n - k = (n - (k + 1)) + 1 by omega, List.replicate_succ, List.set_cons_zero, show k + 1 = k + 1 from rfl, List.replicate_succ', List.append_assoc]
  rfl
theorem fz_get {n k : Nat} (h : k < n) : (fz n k)[k]? = some 0 := by
  unfold fz
  rw [List.getElem?_append_right (by simp), List.length_replicate, Nat.sub_self, List.getElem?_replicate, if_pos (by omega)]
theorem fz_zero (n : Nat) : fz n 0 = toI (List.replicate n 0) := by simp [fz, toI]
theorem fz_all (n : Nat) : fz n n = List.replicate n (-1) := by simp [fz]
/-- Of each place the number that met it, or nowhere. -/
def azL (l : List Int) : Nat → List Int
  | 0 => List.replicate l.length (-1)
  | q + 1 => (azL l q).set (gi l q).toNat (q : Int)
theorem length_azL (l : List Int) : ∀ q, (azL l q).length = l.length
  | 0 => List.length_replicate
  | q + 1 => by rw [azL, List.length_set, length_azL l q]
theorem az_met (l : List Int) : ∀ q p, p < l.length → ((azL l q)[p]? = some (-1) ∧ ∀ i, i < q → (gi l i).toNat ≠ p) ∨ ∃ i, i < q ∧ (gi l i).toNat = p ∧ (azL l q)[p]? = some (i : Int)
  | 0, p, hp => .inl ⟨by rw [azL, List.getElem?_replicate, if_pos hp], fun i h => absurd h (Nat.not_lt_zero _)⟩
  | q + 1, p, hp => by
    rw [azL, List.getElem?_set, length_azL]
    by_cases e : (gi l q).toNat = p
    · rw [if_pos e, if_pos (by omega)]
      exact .inr ⟨q, by omega, e, rfl⟩
    · rw [if_neg e]
      rcases az_met l q p hp with ⟨h1, h2⟩ | ⟨i, h1, h2, h3⟩
      · refine .inl ⟨h1, fun i hi => ?_⟩
        by_cases c : i = q
        · subst c; exact e
        · exact h2 i (by omega)
      · exact .inr ⟨i, by omega, h2, h3⟩
theorem az_inv {l : List Int} (h : Gd l l.length) : azL l l.length = toI (inv (ns l)) := by
  refine List.ext_getElem? fun p => ?_
  by_cases hp : p < l.length
  · have hm := h.pm.mem (x := p) (by rw [length_ns]; exact hp)
    obtain ⟨i, hi⟩ := List.getElem?_of_mem hm
    have hl := (List.getElem?_eq_some_iff.1 hi).1
    rw [length_ns] at hl
    have e2 := h.pm.inv_at hi
    unfold toI
    rw [List.getElem?_map, e2]
    rw [ns_at l hl] at hi
    injection hi with hi
    rcases az_met l l.length p hp with ⟨_, h2⟩ | ⟨k, h1, h2, h3⟩
    · exact absurd hi (h2 i hl)
    · rw [h3]
      have g1 := h.1 i hl
      have g2 := h.1 k h1
      have : k = i := by
        by_cases c : k < i
        · have := h.2 k i c hl; omega
        · by_cases c2 : i < k
          · have := h.2 i k c2 h1; omega
          · omega
      rw [this]
      rfl
  · rw [List.getElem?_eq_none (by rw [length_azL]; omega), List.getElem?_eq_none (by rw [length_toI, length_inv, length_ns]; omega)]
end Su
set_option maxHeartbeats 4000000 in
theorem sinv_c (ao : Option Addr) (l : List Int) (cap : Nat) (w : World) (hx : Nd w ao l) (hl : l.length ≤ 1048576) :
    Calls Try.prog 11 #[.slice ao l.length cap] w fun e w' => ∃ bo dap, e = .returned (.tuple #[.slice bo (Su.invL l).length dap, .int .i64 (Su.invE l)]) ∧ Nd w' bo (toI (Su.invL l)) ∧ (Su.invL l).length ≤ dap ∧ Below w.heap.size w w' := by
  obtain ⟨i0, hi, hz0, hz1, hz2⟩ := info_parts Try.info3
  obtain ⟨n, hn⟩ : ∃ n, Hid (n = l.length) := ⟨_, rfl⟩
  have HX := hide hx
  have hn2 : n ≤ 1048576 := by rw [hn.out]; exact hl
  rw [← hn.out]
  clear hx hl
  go_enter Try.func11, Try.ntmps11
  go_wp2_with (at_make; refine wpList_make_full _ rfl _ _ 24 rfl w.heap.size 3 i0 (.int .i64 0) 1 Try.underlying24 hi hz0 hz1 .i64 .i64 _ _ n rfl rfl rfl rfl ?b2 ?b3 ?b4 ?_)
  case b2 => rw [hz2]; omega
  case b3 => unfold maxLen; omega
  case b4 => simp
  intro w1 hown hgr
  have B1 := cel_made hown
  have hb1 : Below w.heap.size w w1 := (Below.refl _ _).grown hgr (Nat.le_refl _) (fun k h => by cases h)
  rw [← iv_rep n, ← zv_toI, ← Su.fz_zero] at B1
  have HL1 := hide B1
  have HB1 := hide hb1
  clear hown hgr hb1 hi hz0 hz1 hz2 B1
  obtain ⟨g1, hg1⟩ : ∃ g1, Hid (g1 = w.heap.size) := ⟨_, rfl⟩
  rw [← hg1.out] at HL1 ⊢
  have hgle : w.heap.size ≤ g1 := by have := hg1.out; omega
  go_wp2
  go_loopw [13] (fun vi wr => ∃ q : Nat, q ≤ n ∧ vi = .int .i64 q ∧ Hid (Cel wr g1 (zv (Su.fz n q)) 3) ∧ Hid (Below w.heap.size w wr)) (fun vi _ => n - (intOf vi).toNat)
  case atStart => exact ⟨0, Nat.zero_le _, rfl, HL1, HB1⟩
  case round =>
    clear HL1 HB1
    obtain ⟨q, hq, rfl, HO, HB⟩ := hrel
    by_cases hlt : q < n
    · have hltz : (q : Int) < (n : Int) := by omega
      have n1 := HO.out.cell q (zv_get _ q (Su.fz_get hlt))
      have f1 := HO.out.frozen q
      have O1 : Hid (Cel (wr.setCell ⟨g1, q, none⟩ (.int .i64 (-1))) g1 (zv (Su.fz n (q + 1))) 3) := by
        have := HO.out.set q (.int .i64 (-1))
        rwa [zv_set, Su.fz_set hlt] at this
      have B1 : Hid (Below w.heap.size w (wr.setCell ⟨g1, q, none⟩ (.int .i64 (-1)))) := HB.out.trans (((Only.refl g1 wr).set q _).below hgle)
      go_wp2
      refine ⟨⟨q + 1, by omega, by go_num, O1, B1⟩, by simp only [intOf]; omega⟩
    · obtain ⟨w2, rfl⟩ : ∃ w2, w2 = wr := ⟨_, rfl⟩
      have HA : Hid (Cel w2 g1 (zv (Su.azL l 0)) 3) := by
        have := HO.out
        rw [show q = n by omega, Su.fz_all] at this
        rw [Su.azL, ← hn.out]
        exact this
      have HB2 := hide HB.out
      have hqz : (n : Int) ≤ (q : Int) := by omega
      clear HO HB
      go_wp2
      go_loopw [22] (fun vi wr => ∃ q : Nat, q ≤ n ∧ vi = .int .i64 q ∧ Hid (Cel wr g1 (zv (Su.azL l q)) 3) ∧ Hid (Su.Gd l q) ∧ Hid (Below w.heap.size w wr)) (fun vi _ => n - (intOf vi).toNat)
      case atStart => exact ⟨0, Nat.zero_le _, rfl, HA, Su.gd_zero l, HB2⟩
      case round =>
        clear HA HB2
        clear hq hlt hqz
        obtain ⟨q, hq, rfl, HO, HG, HB⟩ := hrel
        by_cases hlt : q < n
        · obtain ⟨b, off, rfl, hb0, hcc⟩ := HX.out (by rw [← hn.out]; omega)
          have e1 := (HB.out.cell (p := ⟨b, off + q, none⟩) hb0).trans (hcc q (by rw [← hn.out]; exact hlt))
          have hltz : (q : Int) < (n : Int) := by omega
          have hbn : b ≠ g1 := by omega
          clear hcc
          by_cases h1 : gi l q < 0
          · have R := hide (Su.inv_no (l := l) (q := q + 1) (by rw [← hn.out]; omega) fun g => by have := g.1 q (by omega); omega)
            generalize gi l q = x at *
            go_wp2
            go_ret2
            rw [R.out.1, R.out.2]
            exact ⟨none, 0, rfl, nd0 _ _, Nat.zero_le _, HB.out⟩
          by_cases h2 : (n : Int) ≤ gi l q
          · have R := hide (Su.inv_no (l := l) (q := q + 1) (by rw [← hn.out]; omega) fun g => by have := g.1 q (by omega); rw [← hn.out] at this; omega)
            generalize gi l q = x at *
            go_wp2
            go_ret2
            rw [R.out.1, R.out.2]
            exact ⟨none, 0, rfl, nd0 _ _, Nat.zero_le _, HB.out⟩
          obtain ⟨x, hxx⟩ : ∃ x : Nat, gi l q = (x : Int) := ⟨(gi l q).toNat, by omega⟩
          have HXX := hide hxx
          have hxn : (x : Int) < (n : Int) := by omega
          have hm := Su.az_met l q x (by rw [← hn.out]; omega)
          have f1 := HO.out.frozen x
          rw [hxx] at e1 h1 h2
          rcases hm with ⟨hm1, hm2⟩ | ⟨i, hi1, hi2, hi3⟩
          · have n1 := HO.out.cell x (zv_get _ x hm1)
            have G1 : Hid (Su.Gd l (q + 1)) := HG.out.more (by rw [HXX.out]; omega) (by rw [HXX.out, ← hn.out]; omega) fun i hi1 e => by
              have := hm2 i hi1
              rw [e, HXX.out] at this
              exact this rfl
            have O2 : Hid (Cel (wr.setCell ⟨g1, x, none⟩ (.int .i64 (q : Nat))) g1 (zv (Su.azL l (q + 1))) 3) := by
              have := HO.out.set x (.int .i64 (q : Nat))
              rw [zv_set] at this
              rw [show Su.azL l (q + 1) = (Su.azL l q).set x q by rw [Su.azL, HXX.out]; rfl]
              exact this
            have B2 : Hid (Below w.heap.size w (wr.setCell ⟨g1, x, none⟩ (.int .i64 (q : Nat)))) := HB.out.setCell (p := ⟨g1, x, none⟩) hgle _
            clear hm1 hm2 hxx
            go_wp2
            exact ⟨⟨q + 1, by omega, by go_num, O2, G1, B2⟩, by simp only [intOf]; omega⟩
          · have n1 := HO.out.cell x (zv_get _ x hi3)
            have hne : ((i : Int) != -1) = true := by simp
            have R := hide (Su.inv_no (l := l) (q := q + 1) (by rw [← hn.out]; omega) fun g => by
              have h3 := g.2 i q hi1 (by omega)
              have h4 := g.1 i (by omega)
              rw [HXX.out] at h3
              omega)
            clear hi2 hi3 hxx
            go_wp2
            go_ret2
            rw [R.out.1, R.out.2]
            exact ⟨none, 0, rfl, nd0 _ _, Nat.zero_le _, HB.out⟩
        · have hge : (n : Int) ≤ (q : Int) := by omega
          have hqn : Hid (q = n) := by have : q = n := by omega
                                       exact this
          have R := hide (Su.inv_yes (l := l) (by rw [← hn.out, ← hqn.out]; exact HG.out))
          go_wp2
          go_ret2
          rw [R.out.1, R.out.2, Su.length_inv, Su.length_ns, ← hn.out]
          refine ⟨some ⟨g1, 0, none⟩, n, rfl, nd_cel ?_, Nat.le_refl _, HB.out⟩
          rw [← zv_toI, ← Su.az_inv (by rw [← hn.out, ← hqn.out]; exact HG.out), ← hn.out, ← hqn.out]
          exact HO.out
end Go.Proofs.Ytlconniheakalaa
