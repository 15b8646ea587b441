/-
  Plain: what is gone through from behind, without coming to Row early, is a text's turned one.
-/
import Derived.Test.YtojjinjgmijgcaaBw1
namespace Go.Proofs.Ytojjinjgmijgcaa
set_option linter.unusedVariables false
set_option linter.unusedSimpArgs false

namespace Su
theorem ix_mono {R i j : Nat} (h : i < j) (hi : i ≠ R) (hj : j ≠ R) : ix R i < ix R j := by
  unfold ix
  split <;> split <;> omega
theorem first_ups (L : List Nat) {c d : Nat} (h : c < d) : ∀ n, ct (fun q => decide (sg L q < c)) n + ct (fun j => decide (sg L j = c)) n ≤ ct (fun q => decide (sg L q < d)) n
  | 0 => Nat.le_refl _
  | n + 1 => by
    have ih := first_ups L h n
    rw [ct, ct, ct]
    by_cases h1 : sg L n < c
    · rw [decide_eq_true h1, decide_eq_false (show ¬ sg L n = c by omega), decide_eq_true (show sg L n < d by omega)]
      simp only [Bool.toNat_true, Bool.toNat_false]
      omega
    · rw [decide_eq_false h1]
      by_cases h2 : sg L n = c
      · rw [decide_eq_true h2, decide_eq_true (show sg L n < d by omega)]
        simp only [Bool.toNat_true, Bool.toNat_false]
        omega
      · rw [decide_eq_false h2]
        simp only [Bool.toNat_true, Bool.toNat_false]
        omega
theorem first_up (L : List Nat) {c d : Nat} (h : c < d) : first L c + ct (fun j => decide (sg L j = c)) L.length ≤ first L d := by
  have := first_ups L h L.length
  unfold first
  omega
theorem ct_in (L : List Nat) {k l : Nat} (h : k < l) : ct (fun j => decide (sg L j = sg L k)) k + 1 ≤ ct (fun j => decide (sg L j = sg L k)) l := by
  have h2 := ct_mono (fun j => decide (sg L j = sg L k)) (show k + 1 ≤ l by omega)
  rw [ct, decide_eq_true rfl] at h2
  have : true.toNat = 1 := rfl
  omega
theorem stp_less {L : List Nat} {R i j : Nat} (hR : R ≤ L.length) (hi : i ≤ L.length) (hj : j ≤ L.length) (ni : i ≠ R) (nj : j ≠ R) (h : sg L (ix R i) < sg L (ix R j) ∨ sg L (ix R i) = sg L (ix R j) ∧ i < j) : stp L R (first L) i < stp L R (first L) j := by
  unfold stp
  rw [if_neg ni, if_neg nj]
  have h1 := ix_lt hR hi ni
  rcases h with h | ⟨h, hij⟩
  · have h2 := first_up L h
    have h3 := ct_in L h1
    omega
  · have h2 := ct_in L (ix_mono hij ni nj)
    rw [← h]
    omega
theorem stp_iff {L : List Nat} {R i j : Nat} (hR : R ≤ L.length) (hi : i ≤ L.length) (hj : j ≤ L.length) (ni : i ≠ R) (nj : j ≠ R) : stp L R (first L) i < stp L R (first L) j ↔ (sg L (ix R i) < sg L (ix R j) ∨ sg L (ix R i) = sg L (ix R j) ∧ i < j) := by
  refine ⟨fun h => ?_, stp_less hR hi hj ni nj⟩
  by_cases h1 : sg L (ix R i) < sg L (ix R j)
  · exact .inl h1
  · by_cases h2 : sg L (ix R j) < sg L (ix R i)
    · have := stp_less hR hj hi nj ni (.inl h2)
      omega
    · refine .inr ⟨by omega, ?_⟩
      by_cases h3 : j < i
      · have := stp_less hR hj hi nj ni (.inr ⟨by omega, h3⟩)
        omega
      · by_cases h4 : i = j
        · subst h4
          omega
        · omega
theorem stp_pos {L : List Nat} {R i : Nat} (ni : i ≠ R) : 0 < stp L R (first L) i := by
  unfold stp first
  rw [if_neg ni]
  omega
theorem stp_inj {L : List Nat} {R i j : Nat} (hR : R ≤ L.length) (hi : i ≤ L.length) (hj : j ≤ L.length) (ni : i ≠ R) (nj : j ≠ R) (h : stp L R (first L) i = stp L R (first L) j) : i = j := by
  have h1 := stp_iff hR hi hj ni nj
  have h2 := stp_iff hR hj hi nj ni
  rw [h] at h1 h2
  have e1 : ¬ (sg L (ix R i) < sg L (ix R j) ∨ sg L (ix R i) = sg L (ix R j) ∧ i < j) := fun x => Nat.lt_irrefl _ (h1.2 x)
  have e2 : ¬ (sg L (ix R j) < sg L (ix R i) ∨ sg L (ix R j) = sg L (ix R i) ∧ j < i) := fun x => Nat.lt_irrefl _ (h2.2 x)
  omega
/-- The places that are gone through. -/
def pp (L : List Nat) (R : Nat) : Nat → Nat
  | 0 => 0
  | j + 1 => stp L R (first L) (pp L R j)
theorem pp_le {L : List Nat} {R : Nat} (hR : R ≤ L.length) : ∀ j, pp L R j ≤ L.length
  | 0 => Nat.zero_le _
  | j + 1 => stp_le hR (pp_le hR j)
theorem bw_pp {L : List Nat} {R : Nat} : ∀ {n a : Nat} {s : List Nat}, bw L R n = some (a, s) → a = pp L R n ∧ s.length = n ∧ ∀ j, j < n → pp L R j ≠ R ∧ sg s (n - 1 - j) = sg L (ix R (pp L R j))
  | 0, a, s, h => by
    rw [bw] at h
    injection h with h
    injection h with h1 h2
    rw [← h1, ← h2]
    exact ⟨rfl, rfl, fun j hj => absurd hj (Nat.not_lt_zero _)⟩
  | n + 1, a, s, h => by
    cases e : bw L R n with
    | none => rw [bw, e] at h; cases h
    | some p =>
      obtain ⟨a0, s0⟩ := p
      obtain ⟨h1, h2, h3⟩ := bw_pp e
      by_cases c : a0 = R
      · rw [bw_stop e c] at h; cases h
      · rw [bw_go e c] at h
        injection h with h
        injection h with h4 h5
        subst h5
        refine ⟨by rw [← h4, h1]; rfl, by rw [List.length_cons, h2], fun j hj => ?_⟩
        by_cases ej : j = n
        · subst ej
          refine ⟨by rw [← h1]; exact c, ?_⟩
          rw [show j + 1 - 1 - j = 0 by omega, ← h1]
          rfl
        · obtain ⟨q1, q2⟩ := h3 j (by omega)
          refine ⟨q1, ?_⟩
          rw [← q2, show n + 1 - 1 - j = n - 1 - j + 1 by omega]
          rfl
theorem pp_apart {L : List Nat} {R n : Nat} (hR : R ≤ L.length) (hp : ∀ j, j < n → pp L R j ≠ R) : ∀ i j, i < j → j ≤ n → pp L R i ≠ pp L R j
  | 0, j + 1, _, hj => fun e => by
    have := stp_pos (L := L) (R := R) (hp j (by omega))
    rw [pp, pp] at e
    omega
  | i + 1, j + 1, h, hj => fun e => by
    rw [pp, pp] at e
    exact pp_apart hR hp i j (by omega) (by omega) (stp_inj hR (pp_le hR i) (pp_le hR j) (hp i (by omega)) (hp j (by omega)) e)
def ppl (L : List Nat) (R n : Nat) : List Nat := (List.range (n + 1)).map (pp L R)
theorem ppl_perm {L : List Nat} {R : Nat} (hR : R ≤ L.length) (hp : ∀ j, j < L.length → pp L R j ≠ R) : (ppl L R L.length).Perm (List.range (L.length + 1)) := by
  have hl : (ppl L R L.length).length = L.length + 1 := by simp [ppl]
  have hn : (ppl L R L.length).Nodup := by
    unfold ppl
    rw [List.Nodup, List.pairwise_map]
    refine List.Pairwise.imp_of_mem ?_ List.pairwise_lt_range
    intro a b ha hb hab
    exact pp_apart hR hp a b hab (by have := List.mem_range.1 hb; omega)
  have := pm_of hn (fun x hx => by
    rw [hl]
    obtain ⟨j, _, rfl⟩ := List.mem_map.1 hx
    have := pp_le hR j
    omega)
  unfold Pm at this
  rw [hl] at this
  exact this
theorem ppl_get {L : List Nat} {R n j : Nat} (h : j ≤ n) : (ppl L R n).getD j 0 = pp L R j := by
  unfold ppl
  rw [List.getD_eq_getElem?_getD, List.getElem?_map, List.getElem?_range (by omega)]
  rfl
theorem pp_all {L : List Nat} {R i : Nat} (hR : R ≤ L.length) (hp : ∀ j, j < L.length → pp L R j ≠ R) (hi : i ≤ L.length) : ∃ j, j ≤ L.length ∧ pp L R j = i := by
  have := (ppl_perm hR hp).mem_iff.2 (List.mem_range.2 (show i < L.length + 1 by omega))
  obtain ⟨j, hj, e⟩ := List.mem_map.1 this
  exact ⟨j, by have := List.mem_range.1 hj; omega, e⟩
theorem pp_last {L : List Nat} {R : Nat} (hR : R ≤ L.length) (hp : ∀ j, j < L.length → pp L R j ≠ R) : pp L R L.length = R := by
  obtain ⟨j, hj, e⟩ := pp_all hR hp hR
  by_cases c : j = L.length
  · rw [← c]; exact e
  · exact absurd e (hp j (by omega))
theorem pp_ord {L s : List Nat} {R : Nat} (hR : R ≤ L.length) (hs : s.length = L.length) (hp : ∀ j, j < L.length → pp L R j ≠ R ∧ sg s (L.length - 1 - j) = sg L (ix R (pp L R j))) : ∀ i j, i ≤ L.length → j ≤ L.length → (pp L R i < pp L R j ↔ ah s (L.length - i) (L.length - j) = true)
  | 0, 0, _, _ => by simp [ah_irr]
  | 0, j + 1, _, hj => by
    have h1 := stp_pos (L := L) (R := R) (hp j (by omega)).1
    have h2 := ah_end s (i := L.length - (j + 1)) (by omega)
    rw [hs] at h2
    rw [Nat.sub_zero, h2, pp, pp]
    exact ⟨fun _ => rfl, fun _ => h1⟩
  | i + 1, 0, hi, _ => by
    have : ah s (L.length - (i + 1)) (L.length - 0) = false := by
      unfold ah
      rw [Nat.sub_zero, ← hs, List.drop_length]
      exact lt_nil _
    rw [this]
    simp [pp]
  | i + 1, j + 1, hi, hj => by
    have ih := pp_ord hR hs hp i j (by omega) (by omega)
    have a1 := hp i (by omega)
    have a2 := hp j (by omega)
    have ac := ah_cons (t := s) (q := L.length - (i + 1)) (p := L.length - (j + 1)) (by omega) (by omega)
    rw [show L.length - (i + 1) + 1 = L.length - i by omega, show L.length - (j + 1) + 1 = L.length - j by omega] at ac
    rw [show L.length - 1 - i = L.length - (i + 1) by omega] at a1
    rw [show L.length - 1 - j = L.length - (j + 1) by omega] at a2
    rw [pp, pp, stp_iff hR (pp_le hR i) (pp_le hR j) a1.1 a2.1, ← a1.2, ← a2.2, ih, ac]
    simp
def rvl (n : Nat) : List Nat := (List.range (n + 1)).map fun i => n - i
theorem rvl_perm (n : Nat) : (rvl n).Perm (List.range (n + 1)) := by
  have hl : (rvl n).length = n + 1 := by simp [rvl]
  have hn : (rvl n).Nodup := by
    unfold rvl
    rw [List.Nodup, List.pairwise_map]
    refine List.Pairwise.imp_of_mem ?_ List.pairwise_lt_range
    intro a b ha hb hab
    have := List.mem_range.1 hb
    omega
  have := pm_of hn (fun x hx => by
    rw [hl]
    obtain ⟨j, _, rfl⟩ := List.mem_map.1 hx
    omega)
  unfold Pm at this
  rw [hl] at this
  exact this
theorem rvl_get {n i : Nat} (h : i ≤ n) : (rvl n).getD i 0 = n - i := by
  unfold rvl
  rw [List.getD_eq_getElem?_getD, List.getElem?_map, List.getElem?_range (by omega)]
  rfl
theorem rk_pp {L s : List Nat} {R : Nat} (hR : R ≤ L.length) (hs : s.length = L.length) (hp : ∀ j, j < L.length → pp L R j ≠ R ∧ sg s (L.length - 1 - j) = sg L (ix R (pp L R j))) {j : Nat} (hj : j ≤ L.length) : rk s (L.length - j) = pp L R j := by
  unfold rk
  rw [hs, ← ct_perm (fun q => ah s q (L.length - j)) (rvl_perm L.length)]
  rw [ct_congr (b := fun i => decide ((ppl L R L.length).getD i 0 < pp L R j)) (fun i hi => by
    rw [rvl_get (by omega), ppl_get (by omega)]
    have := pp_ord hR hs hp i j (by omega) hj
    by_cases c : pp L R i < pp L R j
    · rw [decide_eq_true c, this.1 c]
    · rw [decide_eq_false c]
      cases e : ah s (L.length - i) (L.length - j) with
      | false => rfl
      | true => exact absurd (this.2 e) c)]
  rw [ct_perm (fun v => decide (v < pp L R j)) (ppl_perm hR fun j h => (hp j h).1)]
  have := pp_le hR j
  exact ct_up (by omega) (fun i hi => decide_eq_true hi) (fun i h1 _ => decide_eq_false (by omega))
theorem sg_ext {x y : List Nat} (h : x.length = y.length) (hg : ∀ i, i < x.length → sg x i = sg y i) : x = y := by
  refine List.ext_getElem h fun i h1 h2 => ?_
  have := hg i h1
  unfold sg at this
  rw [List.getD_eq_getElem?_getD, List.getD_eq_getElem?_getD, List.getElem?_eq_getElem h1, List.getElem?_eq_getElem h2] at this
  exact this
/-- What is gone through to its end is turned. -/
theorem bw_tn {L : List Nat} {R a : Nat} {s : List Nat} (hb : Bytes L) (hl : L.length ≤ 8192) (hR : R ≤ L.length) (h : bw L R L.length = some (a, s)) : a = R ∧ Tn L (R : Int) (toI (fs L)) s := by
  obtain ⟨h1, hs, hp⟩ := bw_pp h
  have hlast := pp_last hR fun j h => (hp j h).1
  have hrk := fun (j : Nat) (hj : j ≤ L.length) => rk_pp hR hs hp hj
  have h0 : rk s 0 = R := by
    have := hrk L.length (Nat.le_refl _)
    rw [Nat.sub_self, hlast] at this
    exact this
  have hLa : La s = L := by
    refine sg_ext (by rw [length_La, hs]) fun k hk => ?_
    rw [length_La, hs] at hk
    obtain ⟨i, hi, ni, ei⟩ : ∃ i, i ≤ L.length ∧ i ≠ R ∧ ix R i = k := by
      by_cases c : k < R
      · exact ⟨k, by omega, by omega, by unfold ix; rw [if_pos (by omega)]⟩
      · exact ⟨k + 1, by omega, by omega, by unfold ix; rw [if_neg (by omega)]; omega⟩
    obtain ⟨j, hj, ej⟩ := pp_all hR (fun j h => (hp j h).1) hi
    have hjl : j < L.length := by
      by_cases c : j = L.length
      · rw [c, hlast] at ej
        exact absurd ej.symm ni
      · omega
    have o := ord_sa s
    have h2 := (la_at o.2 o.1 (p := L.length - 1 - j) (by omega)).2
    rw [show L.length - 1 - j + 1 = L.length - j by omega, hrk j hj, h0, ej, ei, (hp j hjl).2, ej, ei] at h2
    unfold La
    rw [h0]
    exact h2
  have hf : fs s = fs L := by
    unfold fs
    rw [← first_La s, hLa]
  exact ⟨by rw [h1, hlast], ⟨by omega, (bw_has hR h).2.2 hb, hLa, by rw [h0], by rw [hf]⟩⟩
/-- The steps of all places. -/
def sts (L : List Nat) (R : Nat) : List Nat := (List.range (L.length + 1)).map (stp L R (first L))
theorem length_sts (L : List Nat) (R : Nat) : (sts L R).length = L.length + 1 := by simp [sts]
theorem gt_sts (L : List Nat) (R i : Nat) (h : i ≤ L.length) : gt (sts L R) i = stp L R (first L) i := gt_map _ _ _ (by omega)
end Su
end Go.Proofs.Ytojjinjgmijgcaa
