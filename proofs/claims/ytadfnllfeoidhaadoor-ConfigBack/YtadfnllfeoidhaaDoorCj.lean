/-
  Plain: all that may be are there, each once, in their order; no two have one name.
-/
import Derived.Test.YtadfnllfeoidhaaDoorCi
namespace Go.Proofs.YtadfnllfeoidhaaDoor
set_option linter.unusedVariables false

namespace Co
/-- The place among all that there could be. -/
def key (c : Cf) : Nat := 9984 * c.1 + 2496 * c.2.1 + 192 * c.2.2.1 + 64 * c.2.2.2.1 + c.2.2.2.2
def risesB : List Nat → Bool
  | a :: b :: l => Nat.blt a b && risesB (b :: l)
  | _ => true
theorem all_rises : risesB (all.map key) = true := by decide +kernel
theorem rises_pw : ∀ (l : List Nat), risesB l = true → l.Pairwise (· < ·)
  | [], _ => List.Pairwise.nil
  | [a], _ => List.pairwise_singleton _ _
  | a :: b :: l, h => by
    unfold risesB at h
    rw [Bool.and_eq_true, Nat.blt_eq] at h
    have ih := rises_pw (b :: l) h.2
    refine List.pairwise_cons.2 ⟨fun x hx => ?_, ih⟩
    rcases List.mem_cons.1 hx with rfl | hx
    · exact h.1
    · exact Nat.lt_trans h.1 ((List.pairwise_cons.1 ih).1 x hx)
/-- In their order. -/
theorem all_pw : all.Pairwise fun c d => key c < key d := List.pairwise_map.1 (rises_pw _ all_rises)
theorem key_at {i j : Nat} {c d : Cf} (hi : all[i]? = some c) (hj : all[j]? = some d) : (i < j ↔ key c < key d) ∧ (i = j ↔ c = d) := by
  obtain ⟨h1, rfl⟩ := List.getElem?_eq_some_iff.1 hi
  obtain ⟨h2, rfl⟩ := List.getElem?_eq_some_iff.1 hj
  have pw := List.pairwise_iff_getElem.1 all_pw
  by_cases a : i < j
  · have := pw i j h1 h2 a
    exact ⟨⟨fun _ => this, fun _ => a⟩, ⟨fun e => absurd e (by omega), fun e => by rw [e] at this; omega⟩⟩
  · by_cases b : j < i
    · have := pw j i h2 h1 b
      exact ⟨⟨fun h => absurd h a, fun h => absurd h (by omega)⟩, ⟨fun e => absurd e (by omega), fun e => by rw [e] at this; omega⟩⟩
    · have : i = j := by omega
      subst this
      exact ⟨⟨fun h => absurd h a, fun h => absurd h (by omega)⟩, ⟨fun _ => rfl, fun _ => rfl⟩⟩
theorem mem_fr : ∀ (n a t : Nat), a ≤ t → t < a + n → ok (cat t) = true → cat t ∈ fr a n
  | 0, a, t, h1, h2, _ => absurd h2 (by omega)
  | n + 1, a, t, h1, h2, h3 => by
    unfold fr
    by_cases e : a = t
    · subst e
      rw [h3]
      exact List.mem_cons_self ..
    · have := mem_fr n (a + 1) t (by omega) (by omega) h3
      cases ok (cat a)
      · exact this
      · exact List.mem_cons_of_mem _ this
theorem ok_bounds {c : Cf} (h : ok c = true) : 1 ≤ c.1 ∧ c.1 ≤ 4 ∧ c.2.1 ≤ 3 ∧ c.2.2.1 ≤ 12 ∧ 1 ≤ c.2.2.2.1 ∧ c.2.2.2.1 ≤ 3 ∧ 1 ≤ c.2.2.2.2 ∧ c.2.2.2.2 ≤ 64 := by
  obtain ⟨s, i, l, k, m⟩ := c
  unfold ok at h
  simp only [Bool.and_eq_true, ble_dec, beq_dec, decide_eq_true_eq] at h
  obtain ⟨h1, h2, h3, h4, h5, h6⟩ := h
  have inm : ∀ (L : List Nat) (n lo hi : Nat), inB L n = true → (∀ y ∈ L, lo ≤ y ∧ y ≤ hi) → lo ≤ n ∧ n ≤ hi := fun L n lo hi h q => by
    unfold inB at h
    rw [List.any_eq_true] at h
    obtain ⟨x, hx, e⟩ := h
    rw [Nat.beq_eq] at e
    subst e
    exact q x hx
  have hm := inm sam m 1 64 h5 (by decide)
  have hil : i ≤ 3 ∧ l ≤ 12 := by
    by_cases c : s = 4
    · rw [decide_eq_true c] at h6
      simp only [cond_true, Bool.and_eq_true, decide_eq_true_eq] at h6
      exact ⟨h6.2.1, (inm lgs l 4 12 h6.2.2 (by decide)).2⟩
    · rw [decide_eq_false c] at h6
      simp only [cond_false, Bool.and_eq_true, decide_eq_true_eq] at h6
      omega
  exact ⟨h1, h2, hil.1, hil.2, h3, h4, hm.1, hm.2⟩
theorem mem_all {c : Cf} (h : ok c = true) : c ∈ all := by
  obtain ⟨b1, b2, b3, b4, b5, b6, b7, b8⟩ := ok_bounds h
  obtain ⟨s, i, l, k, m⟩ := c
  simp only at b1 b2 b3 b4 b5 b6 b7 b8
  have e := cat_at (s - 1) i l (k - 1) (m - 1) (by omega) (by omega) (by omega) (by omega)
  rw [show s - 1 + 1 = s by omega, show k - 1 + 1 = k by omega, show m - 1 + 1 = m by omega] at e
  rw [← e] at h ⊢
  rw [← fr_all]
  exact mem_fr 39936 0 _ (by omega) (by omega) h
theorem mem_az {z : Zf} : z ∈ az ↔ okZ z = true := by
  unfold az
  rw [List.mem_map]
  constructor
  · rintro ⟨c, hc, rfl⟩
    rw [okZ_nat]
    exact ok_all hc
  · intro h
    have e := okZ_nn h
    have h2 := okZ_nat (nat z)
    rw [e, h] at h2
    exact ⟨nat z, mem_all h2.symm, e⟩
/-- Names as numbers. -/
def nb : List Nat → Nat
  | [] => 0
  | a :: l => a + 1 + 257 * nb l
def apartB : List Nat → Bool
  | [] => true
  | a :: l => (l.all fun b => !(Nat.beq a b)) && apartB l
theorem all_apart : apartB (all.map fun c => nb (nm c)) = true := by decide +kernel
theorem apart_pw : ∀ (l : List Nat), apartB l = true → l.Pairwise (· ≠ ·)
  | [], _ => List.Pairwise.nil
  | a :: l, h => by
    unfold apartB at h
    rw [Bool.and_eq_true, List.all_eq_true] at h
    refine List.pairwise_cons.2 ⟨fun x hx e => ?_, apart_pw l h.2⟩
    have := h.1 x hx
    rw [e, show Nat.beq x x = true by rw [Nat.beq_eq]] at this
    cases this
theorem all_bytes : (all.all fun c => (nm c).all fun b => Nat.blt b 256) = true := by decide +kernel
theorem nm_bytes {c : Cf} (h : c ∈ all) : Bytes (nm c) := fun x hx => by
  have := List.all_eq_true.1 (List.all_eq_true.1 all_bytes c h) x hx
  rwa [Nat.blt_eq] at this
theorem nm_inj {c d : Cf} (hc : c ∈ all) (hd : d ∈ all) (h : nm c = nm d) : c = d := by
  obtain ⟨i, hi⟩ := List.getElem?_of_mem hc
  obtain ⟨j, hj⟩ := List.getElem?_of_mem hd
  have pw := List.pairwise_iff_getElem.1 (List.pairwise_map.1 (apart_pw _ all_apart))
  obtain ⟨h1, e1⟩ := List.getElem?_eq_some_iff.1 hi
  obtain ⟨h2, e2⟩ := List.getElem?_eq_some_iff.1 hj
  by_cases a : i < j
  · exact absurd (by rw [e1, e2, h]) (pw i j h1 h2 a)
  · by_cases b : j < i
    · exact absurd (by rw [e1, e2, h]) (pw j i h2 h1 b)
    · have : i = j := by omega
      subst this
      rw [← e1, ← e2]
theorem all_long : (all.all fun c => Nat.blt 0 (nm c).length) = true := by decide +kernel
theorem str_eq {c d : Cf} (hc : c ∈ all) (hd : d ∈ all) : ((str (nm c)).toList == (str (nm d)).toList) = decide (c = d) := by
  unfold str
  rw [eq_str _ _ (nm_bytes hc) (nm_bytes hd)]
  exact decide_eq_decide.2 ⟨fun h => nm_inj hc hd h, fun h => by rw [h]⟩
/-- Who is called by a name is found by it. -/
theorem fnd_nm {c : Cf} (hc : c ∈ all) : fnd (str (nm c)) = some c := by
  obtain ⟨i, hi⟩ := List.getElem?_of_mem hc
  refine fnd_at hi (fun j hj d hd => ?_) (by rw [str_eq hc hc]; simp)
  rw [str_eq (List.mem_of_getElem? hd) hc]
  refine decide_eq_false fun e => ?_
  have := (key_at hd hi).2.2 e
  omega
theorem fnd_nil : fnd (str []) = none := by
  refine fnd_none fun j d hd => ?_
  have hm := List.mem_of_getElem? hd
  unfold str
  rw [eq_str _ _ (nm_bytes hm) (fun x hx => by cases hx)]
  refine decide_eq_false fun e => ?_
  have := List.all_eq_true.1 all_long d hm
  rw [e] at this
  cases this
theorem fnd_some {s : ByteArray} {c : Cf} (h : fnd s = some c) : c ∈ all ∧ ((str (nm c)).toList == s.toList) = true := by
  unfold fnd at h
  exact ⟨List.mem_of_find?_eq_some h, by simpa using List.find?_some h⟩
theorem numI_at {i : Nat} {c : Cf} (h : all[i]? = some c) : numI (toZ c) = i := by
  have hm : toZ c ∈ az := mem_az.2 (by rw [okZ_nat]; exact ok_all (List.mem_of_getElem? h))
  unfold numI
  rw [if_pos hm]
  refine first_ix (fun j hj q => ?_) (by unfold az; rw [List.getElem?_map, h]; rfl)
  unfold az at q
  rw [List.getElem?_map] at q
  cases hd : all[j]? with
  | none => rw [hd] at q; cases q
  | some d =>
    rw [hd] at q
    injection q with q
    have : d = c := by rw [← nat_toZ d, ← nat_toZ c, q]
    have := (key_at hd h).2.2 this
    omega
end Co
end Go.Proofs.YtadfnllfeoidhaaDoor
