/-
  Plain: turned texts, and back: what is turned is one text's alone.
-/
import Derived.Test.YtojjinjgmijgcaaSe
import Derived.Test.YtojjinjgmijgcaaRn
namespace Go.Proofs.Ytojjinjgmijgcaa
set_option linter.unusedVariables false
set_option linter.unusedSimpArgs false

namespace Su
theorem rw_le (t : List Nat) : rk t 0 ≤ t.length := rk_le (ord_sa t).2 (ord_sa t).1 (Nat.zero_le _)
noncomputable def La (t : List Nat) : List Nat := la t (sa t) (rk t 0)
def fs (t : List Nat) : List Nat := (List.range 257).map (first t)
theorem length_fs (t : List Nat) : (fs t).length = 257 := by simp [fs]
theorem gt_fs (t : List Nat) (c : Nat) (h : c < 257) : gt (fs t) c = first t c := gt_map _ _ _ h
theorem length_La (t : List Nat) : (La t).length = t.length := length_la _ _ _
theorem first_le (t : List Nat) (c : Nat) : first t c ≤ t.length + 1 := by
  unfold first
  have := ct_le (fun q => decide (sg t q < c)) t.length
  omega
theorem sg_lt {t : List Nat} (h : Bytes t) (i : Nat) : sg t i < 256 := gt_lt h i
theorem La_bytes {t : List Nat} (h : Bytes t) : Bytes (La t) := by
  intro x hx
  unfold La la at hx
  obtain ⟨j, _, rfl⟩ := List.mem_map.1 hx
  exact sg_lt h _
/-- What is so of signs, counted among the turned ones. -/
theorem ct_laP {t l : List Nat} {R : Nat} (hR : R ≤ t.length) (h0 : l.getD R 0 = 0) (hp : ∀ i, i ≤ t.length → i ≠ R → 0 < l.getD i 0) (P : Nat → Bool) : ∀ i, i ≤ t.length + 1 → ct (fun j => P (sg (la t l R) j)) (ix R i) = ct (fun k => decide (0 < l.getD k 0) && P (sg t (l.getD k 0 - 1))) i
  | 0, _ => by
    have : ix R 0 = 0 := by unfold ix; rw [if_pos (Nat.zero_le _)]
    rw [this]
    rfl
  | i + 1, hi => by
    have es : ct (fun k => decide (0 < l.getD k 0) && P (sg t (l.getD k 0 - 1))) (i + 1) = ct (fun k => decide (0 < l.getD k 0) && P (sg t (l.getD k 0 - 1))) i + (decide (0 < l.getD i 0) && P (sg t (l.getD i 0 - 1))).toNat := rfl
    rw [ix_succ, es]
    by_cases e : i = R
    · rw [if_pos e, ct_laP hR h0 hp P i (by omega), e, h0]
      simp
    · rw [if_neg e, ct, ct_laP hR h0 hp P i (by omega)]
      congr 1
      have h1 := (sg_la (t := t) (l := l) e (by omega)).resolve_right (by have := ix_lt hR (by omega) e; omega)
      rw [h1, decide_eq_true (hp i (by omega) e), Bool.true_and]
theorem ct_La (t : List Nat) (P : Nat → Bool) : ct (fun j => P (sg (La t) j)) t.length = ct (fun q => P (sg t q)) t.length := by
  have o := ord_sa t
  have h := ct_laP (rw_le t) (row_zero o.2 o.1) (fun i h1 h2 => not_row o.2 o.1 h1 h2) P (t.length + 1) (Nat.le_refl _)
  have e : ix (rk t 0) (t.length + 1) = t.length := by
    unfold ix
    rw [if_neg (by have := rw_le t; omega)]
    omega
  rw [e] at h
  unfold La
  rw [h, ct_perm (fun q => decide (0 < q) && P (sg t (q - 1))) o.2, ct_shift _ (by simp)]
  exact ct_congr fun i _ => by simp
theorem first_La (t : List Nat) : first (La t) = first t := by
  funext c
  unfold first
  rw [length_La, ct_La t fun x => decide (x < c)]
theorem ct_mono (b : Nat → Bool) : ∀ {i n : Nat}, i ≤ n → ct b i ≤ ct b n
  | i, 0, h => by rw [show i = 0 by omega]; exact Nat.le_refl _
  | i, n + 1, h => by
    by_cases e : i = n + 1
    · rw [e]; exact Nat.le_refl _
    · have := ct_mono b (show i ≤ n by omega)
      rw [ct]
      omega
theorem ct_two (a b : Nat → Bool) (h : ∀ i, a i = true → b i = false) : ∀ n, ct a n + ct b n ≤ n
  | 0 => Nat.le_refl _
  | n + 1 => by
    have := ct_two a b h n
    rw [ct, ct]
    cases e : a n with
    | true => rw [h n e]; simp; omega
    | false => have := Bool.toNat_le (b n); simp; omega
theorem stp_le {L : List Nat} {R i : Nat} (hR : R ≤ L.length) (hi : i ≤ L.length) : stp L R (first L) i ≤ L.length := by
  unfold stp
  by_cases e : i = R
  · rw [if_pos e]; exact Nat.zero_le _
  · rw [if_neg e]
    have hk := ix_lt hR hi e
    generalize ix R i = k at *
    unfold first
    have h1 := ct_two (fun q => decide (sg L q < sg L k)) (fun j => decide (sg L j = sg L k)) (fun i h => by
      have := of_decide_eq_true h
      exact decide_eq_false (by omega)) L.length
    have h2 := ct_mono (fun j => decide (sg L j = sg L k)) (show k + 1 ≤ L.length by omega)
    rw [ct, decide_eq_true rfl] at h2
    have : true.toNat = 1 := rfl
    omega
/-- The way back, sign by sign. -/
def bw (L : List Nat) (R : Nat) : Nat → Option (Nat × List Nat)
  | 0 => some (0, [])
  | j + 1 => match bw L R j with
    | none => none
    | some (a, s) => if a = R then none else some (stp L R (first L) a, sg L (ix R a) :: s)
theorem bw_stop {L : List Nat} {R j a : Nat} {s : List Nat} (h : bw L R j = some (a, s)) (e : a = R) : bw L R (j + 1) = none := by
  rw [bw, h]
  exact if_pos e
theorem bw_go {L : List Nat} {R j a : Nat} {s : List Nat} (h : bw L R j = some (a, s)) (e : a ≠ R) : bw L R (j + 1) = some (stp L R (first L) a, sg L (ix R a) :: s) := by
  rw [bw, h]
  exact if_neg e
theorem bw_none {L : List Nat} {R j : Nat} (h : bw L R j = none) : ∀ d, bw L R (j + d) = none
  | 0 => h
  | d + 1 => by rw [← Nat.add_assoc, bw, bw_none h d]
theorem bw_has {L : List Nat} {R : Nat} (hR : R ≤ L.length) : ∀ {j a s}, bw L R j = some (a, s) → a ≤ L.length ∧ s.length = j ∧ (Bytes L → Bytes s)
  | 0, a, s, h => by
    rw [bw] at h
    injection h with h
    injection h with h1 h2
    rw [← h1, ← h2]
    exact ⟨Nat.zero_le _, rfl, fun _ x hx => by cases hx⟩
  | j + 1, a, s, h => by
    cases e : bw L R j with
    | none => rw [bw, e] at h; cases h
    | some p =>
      obtain ⟨a0, s0⟩ := p
      obtain ⟨h1, h2, h3⟩ := bw_has hR e
      by_cases c : a0 = R
      · rw [bw_stop e c] at h; cases h
      · rw [bw_go e c] at h
        injection h with h
        injection h with h4 h5
        rw [← h4, ← h5]
        exact ⟨stp_le hR h1, by rw [List.length_cons, h2], fun hb x hx => by
          rcases List.mem_cons.1 hx with rfl | hx
          · exact sg_lt hb _
          · exact h3 hb x hx⟩
theorem bw_at (t : List Nat) : ∀ j, j ≤ t.length → bw (La t) (rk t 0) j = some (rk t (t.length - j), t.drop (t.length - j))
  | 0, _ => by
    rw [bw, Nat.sub_zero, rk_end, List.drop_length]
  | j + 1, h => by
    have o := ord_sa t
    obtain ⟨p, hp⟩ : ∃ p, t.length - j = p + 1 := ⟨t.length - j - 1, by omega⟩
    have hp2 : t.length - (j + 1) = p := by omega
    have hpl : p < t.length := by omega
    have ih := bw_at t j (by omega)
    rw [hp] at ih
    obtain ⟨h1, h2⟩ := la_at o.2 o.1 hpl
    rw [bw_go ih h1, first_La, hp2]
    have h3 := stp_at o.2 o.1 hpl
    show some (stp (la t (sa t) (rk t 0)) _ _ _, sg (la t (sa t) (rk t 0)) _ :: _) = _
    rw [h3, h2]
    congr 2
    unfold sg
    rw [List.getD_eq_getElem?_getD, List.getElem?_eq_getElem hpl]
    exact (List.drop_eq_getElem_cons hpl).symm
/-- This is that text, turned. -/
structure Tn (L : List Nat) (r : Int) (C : List Int) (t : List Nat) : Prop where
  n : t.length ≤ 8192
  b : Bytes t
  l : La t = L
  r : (rk t 0 : Int) = r
  c : toI (fs t) = C
theorem Tn.len {L : List Nat} {r : Int} {C : List Int} {t : List Nat} (h : Tn L r C t) : L.length = t.length := by rw [← h.l, length_La]
theorem Tn.bw {L : List Nat} {R : Nat} {C : List Int} {t : List Nat} (h : Tn L (R : Int) C t) (j : Nat) (hj : j ≤ L.length) : Su.bw L R j = some (rk t (t.length - j), t.drop (t.length - j)) := by
  have e : rk t 0 = R := by have := h.r; omega
  have := bw_at t j (by rw [← h.len]; exact hj)
  rw [h.l, e] at this
  exact this
theorem Tn.all {L : List Nat} {R : Nat} {C : List Int} {t : List Nat} (h : Tn L (R : Int) C t) : Su.bw L R L.length = some (rk t 0, t) := by
  have := h.bw L.length (Nat.le_refl _)
  rw [h.len, Nat.sub_self] at this
  rw [h.len]
  exact this
theorem Tn.one {L : List Nat} {r : Int} {C : List Int} {t u : List Nat} (h : Tn L r C t) (k : Tn L r C u) : t = u := by
  obtain ⟨R, rfl⟩ : ∃ R : Nat, r = (R : Int) := ⟨rk t 0, h.r.symm⟩
  have := h.all
  rw [k.all] at this
  injection this with this
  injection this with _ this
  exact this.symm
open Classical in
/-- The text of what is turned, if there is one. -/
noncomputable def backO (L : List Nat) (r : Int) (C : List Int) : Option (List Nat) := if h : ∃ t, Tn L r C t then some (Classical.choose h) else none
theorem back_yes {L : List Nat} {r : Int} {C : List Int} {t : List Nat} (h : Tn L r C t) : backO L r C = some t := by
  have hx : ∃ t, Tn L r C t := ⟨t, h⟩
  unfold backO
  rw [dif_pos hx]
  congr 1
  exact (Classical.choose_spec hx).one h
theorem back_no {L : List Nat} {r : Int} {C : List Int} (h : ∀ t, ¬ Tn L r C t) : backO L r C = none := by
  unfold backO
  rw [dif_neg fun ⟨t, ht⟩ => h t ht]
noncomputable def backE (L : List Nat) (r : Int) (C : List Int) : Int := if (backO L r C).isSome then 0 else 161
noncomputable def backT (L : List Nat) (r : Int) (C : List Int) : List Nat := (backO L r C).getD []
theorem back_ok {L : List Nat} {r : Int} {C : List Int} {t : List Nat} (h : Tn L r C t) : backE L r C = 0 ∧ backT L r C = t := by
  unfold backE backT
  rw [back_yes h]
  exact ⟨rfl, rfl⟩
theorem back_bad {L : List Nat} {r : Int} {C : List Int} (h : ∀ t, ¬ Tn L r C t) : backE L r C = 161 ∧ backT L r C = [] := by
  unfold backE backT
  rw [back_no h]
  exact ⟨rfl, rfl⟩
theorem back_or (L : List Nat) (r : Int) (C : List Int) : (∃ t, Tn L r C t) ∨ ∀ t, ¬ Tn L r C t := by
  by_cases h : ∃ t, Tn L r C t
  · exact .inl h
  · exact .inr fun t ht => h ⟨t, ht⟩
/-- What Make answers. -/
noncomputable def mkL (t : List Nat) : List Nat := if t.length ≤ 8192 then La t else []
noncomputable def mkR (t : List Nat) : Nat := if t.length ≤ 8192 then rk t 0 else 0
noncomputable def mkC (t : List Nat) : List Nat := if t.length ≤ 8192 then fs t else []
theorem mk_in {t : List Nat} (h : t.length ≤ 8192) : mkL t = La t ∧ mkR t = rk t 0 ∧ mkC t = fs t := by
  unfold mkL mkR mkC
  rw [if_pos h, if_pos h, if_pos h]
  exact ⟨rfl, rfl, rfl⟩
theorem mk_out {t : List Nat} (h : ¬ t.length ≤ 8192) : mkL t = [] ∧ mkR t = 0 ∧ mkC t = [] := by
  unfold mkL mkR mkC
  rw [if_neg h, if_neg h, if_neg h]
  exact ⟨rfl, rfl, rfl⟩
theorem tn_mk {t : List Nat} (h : t.length ≤ 8192) (hb : Bytes t) : Tn (La t) (rk t 0 : Nat) (toI (fs t)) t := ⟨h, hb, rfl, rfl, rfl⟩
/-- Runs. -/
def rn (L : List Nat) : Nat → Nat
  | 0 => 0
  | i + 1 => rn L i + (decide (i = 0) || decide (gt L i ≠ gt L (i - 1))).toNat
theorem rn_le (L : List Nat) : ∀ n, rn L n ≤ n
  | 0 => Nat.le_refl _
  | n + 1 => by
    have := rn_le L n
    rw [rn]
    have := Bool.toNat_le (decide (n = 0) || decide (gt L n ≠ gt L (n - 1)))
    omega
end Su
end Go.Proofs.Ytojjinjgmijgcaa
