/-
  Plain: no lengths that fit cost less than the ones of the two least things, again and again.
-/
import Derived.Test.YtbkagloonlddfaaBit
namespace Go.Proofs.Ytbkagloonlddfaa.Hm

/-- The cost of weights and lengths. -/
def cost : List Nat → List Nat → Nat
  | w :: ws, l :: ls => w * l + cost ws ls
  | _, _ => 0
/-- How much of 2 to the power of M lengths need. -/
def kraft (M : Nat) : List Nat → Nat
  | [] => 0
  | l :: ls => 2 ^ (M - l) + kraft M ls
def Rises : List Nat → Prop
  | [] => True
  | w :: ws => (∀ x ∈ ws, w ≤ x) ∧ Rises ws
def ins (x : Nat) : List Nat → List Nat
  | [] => [x]
  | w :: ws => if x ≤ w then x :: w :: ws else w :: ins x ws
theorem length_ins (x : Nat) (ws : List Nat) : (ins x ws).length = ws.length + 1 := by
  induction ws with
  | nil => rfl
  | cons w ws ih =>
    unfold ins
    split
    · rfl
    · simp [ih]
theorem mem_ins {x y : Nat} {ws : List Nat} : y ∈ ins x ws ↔ y = x ∨ y ∈ ws := by
  induction ws with
  | nil => simp [ins]
  | cons w ws ih =>
    unfold ins
    split
    · simp
    · simp only [List.mem_cons, ih]
      constructor
      · rintro (h | h | h)
        · exact .inr (.inl h)
        · exact .inl h
        · exact .inr (.inr h)
      · rintro (h | h | h)
        · exact .inr (.inl h)
        · exact .inl h
        · exact .inr (.inr h)
theorem rises_ins (x : Nat) (ws : List Nat) (h : Rises ws) : Rises (ins x ws) := by
  induction ws with
  | nil => exact ⟨fun y hy => (List.not_mem_nil hy).elim, trivial⟩
  | cons w ws ih =>
    unfold ins
    split
    · rename_i c
      refine ⟨fun y hy => ?_, h⟩
      rcases List.mem_cons.1 hy with rfl | hy
      · exact c
      · exact Nat.le_trans c (h.1 y hy)
    · rename_i c
      refine ⟨fun y hy => ?_, ih h.2⟩
      rcases mem_ins.1 hy with rfl | hy
      · omega
      · exact h.1 y hy
/-- What the way of the two least costs. -/
def huff : Nat → List Nat → Nat
  | n + 1, a :: b :: r => (a + b) + huff n (ins (a + b) r)
  | _, _ => 0

theorem kraft_perm {M : Nat} {a b : List Nat} (h : a.Perm b) : kraft M a = kraft M b := by
  induction h with
  | nil => rfl
  | cons x _ ih => simp only [kraft, ih]
  | swap x y l => simp only [kraft]; omega
  | trans _ _ h1 h2 => exact h1.trans h2
theorem kraft_dvd {M m : Nat} (hm : m ≤ M) (ls : List Nat) (h : ∀ x ∈ ls, x ≤ m) : ∃ k, kraft M ls = k * 2 ^ (M - m) := by
  induction ls with
  | nil => exact ⟨0, by simp [kraft]⟩
  | cons l ls ih =>
    obtain ⟨k, hk⟩ := ih (fun x hx => h x (List.mem_cons_of_mem _ hx))
    have hl := h l List.mem_cons_self
    refine ⟨2 ^ (m - l) + k, ?_⟩
    rw [kraft, hk, Nat.add_mul, ← Nat.pow_add]
    congr 2
    omega
/-- The greatest length to the front weight. -/
theorem swap_max (ws : List Nat) : ∀ (w : Nat) (ls : List Nat) (l : Nat), ls.length = ws.length → (∀ x ∈ ws, w ≤ x) → ∃ m ls', (m :: ls').Perm (l :: ls) ∧ ls'.length = ls.length ∧ (∀ x ∈ ls', x ≤ m) ∧ w * m + cost ws ls' ≤ w * l + cost ws ls := by
  induction ws with
  | nil =>
    intro w ls l hl _
    obtain rfl := List.eq_nil_of_length_eq_zero hl
    exact ⟨l, [], List.Perm.refl _, rfl, fun x hx => (List.not_mem_nil hx).elim, Nat.le_refl _⟩
  | cons v ws ih =>
    intro w ls l hl hw
    match ls, hl with
    | k :: ls, hl =>
      have hv : w ≤ v := hw v List.mem_cons_self
      have hl' : ls.length = ws.length := by simpa using hl
      -- the greatest of l and the rest behind k, at w
      obtain ⟨m, ls', p, len, mx, c⟩ := ih w ls l hl' (fun x hx => hw x (List.mem_cons_of_mem _ hx))
      by_cases g : k ≤ m
      · refine ⟨m, k :: ls', ?_, by simp [len], ?_, ?_⟩
        · exact (List.Perm.swap k m ls').trans ((List.Perm.cons k p).trans (List.Perm.swap l k ls))
        · intro x hx
          rcases List.mem_cons.1 hx with rfl | hx
          · exact g
          · exact mx x hx
        · simp only [cost]
          omega
      · refine ⟨k, m :: ls', ?_, by simp [len], ?_, ?_⟩
        · exact (List.Perm.cons k p).trans (List.Perm.swap l k ls)
        · intro x hx
          rcases List.mem_cons.1 hx with rfl | hx
          · omega
          · have := mx x hx; omega
        · simp only [cost]
          have h1 : w * k + v * m ≤ w * m + v * k := by
            obtain ⟨d, rfl⟩ : ∃ d, v = w + d := ⟨v - w, by omega⟩
            obtain ⟨e, rfl⟩ : ∃ e, k = m + e := ⟨k - m, by omega⟩
            have : d * m ≤ d * (m + e) := Nat.mul_le_mul_left d (by omega)
            rw [Nat.add_mul, Nat.add_mul]
            omega
          omega
theorem cost_ins (x y : Nat) (ws : List Nat) : ∀ ls : List Nat, ls.length = ws.length → ∃ ls', ls'.Perm (y :: ls) ∧ ls'.length = ls.length + 1 ∧ cost (ins x ws) ls' = x * y + cost ws ls := by
  induction ws with
  | nil =>
    intro ls hl
    obtain rfl := List.eq_nil_of_length_eq_zero hl
    exact ⟨[y], List.Perm.refl _, rfl, rfl⟩
  | cons w ws ih =>
    intro ls hl
    match ls, hl with
    | l :: ls, hl =>
      unfold ins
      split
      · exact ⟨y :: l :: ls, List.Perm.refl _, rfl, rfl⟩
      · obtain ⟨ls', p, len, e⟩ := ih ls (by simpa using hl)
        refine ⟨l :: ls', (List.Perm.cons l p).trans (List.Perm.swap y l ls), by simp [len], ?_⟩
        simp only [cost, e]
        omega
/-- No lengths that fit cost less. -/
theorem best (M : Nat) : ∀ (n : Nat) (ws ls : List Nat), ws.length ≤ n → ls.length = ws.length → Rises ws → (∀ l ∈ ls, l ≤ M) → kraft M ls ≤ 2 ^ M → huff n ws ≤ cost ws ls := by
  intro n
  induction n with
  | zero =>
    intro ws ls h1 _ _ _ _
    unfold huff
    exact Nat.zero_le _
  | succ n ih =>
    intro ws ls h1 h2 hr hM hk
    match ws, ls, h2 with
    | [], _, _ => exact Nat.zero_le _
    | [_], _, _ => exact Nat.zero_le _
    | a :: b :: r, la :: lb :: lr, h2 =>
      have hlen : lr.length = r.length := by simpa using h2
      obtain ⟨m1, q1, p1, len1, mx1, c1⟩ := swap_max (b :: r) a (lb :: lr) la (by simp [hlen]) hr.1
      match q1, len1 with
      | l2 :: q1, len1 =>
        have len1' : q1.length = r.length := by simp at len1; omega
        obtain ⟨m2, q2, p2, len2, mx2, c2⟩ := swap_max r b q1 l2 len1' hr.2.1
        have hm21 : m2 ≤ m1 := mx1 m2 (p2.subset List.mem_cons_self)
        have P : (m1 :: m2 :: q2).Perm (la :: lb :: lr) := (List.Perm.cons m1 p2).trans p1
        have hM2 : m2 ≤ M := hM m2 (P.subset (by simp))
        have hM1 : m1 ≤ M := hM m1 (P.subset (by simp))
        have K : 2 ^ (M - m1) + (2 ^ (M - m2) + kraft M q2) ≤ 2 ^ M := by
          have := kraft_perm (M := M) P
          simp only [kraft] at this hk
          omega
        obtain ⟨k, hkk⟩ := kraft_dvd hM2 q2 mx2
        have e0 : 2 ^ M = 2 ^ m2 * 2 ^ (M - m2) := by rw [← Nat.pow_add]; congr 1; omega
        have pos1 : 0 < 2 ^ (M - m1) := Nat.two_pow_pos _
        have pos2 : 0 < 2 ^ (M - m2) := Nat.two_pow_pos _
        have k2 : k + 2 ≤ 2 ^ m2 := by
          refine Nat.lt_of_mul_lt_mul_right (a := 2 ^ (M - m2)) ?_
          rw [← e0, Nat.add_mul, Nat.one_mul, ← hkk]
          omega
        have m2p : 1 ≤ m2 := by
          rcases Nat.eq_zero_or_pos m2 with e | e
          · rw [e] at k2
            simp at k2
          · exact e
        obtain ⟨ls', p', len', ec⟩ := cost_ins (a + b) (m2 - 1) r q2 (by omega)
        have K2 : kraft M ls' ≤ 2 ^ M := by
          rw [kraft_perm p', kraft, hkk, e0]
          have e1 : 2 ^ (M - (m2 - 1)) = 2 * 2 ^ (M - m2) := by
            rw [show M - (m2 - 1) = (M - m2) + 1 by omega, Nat.pow_succ]; omega
          rw [e1, ← Nat.add_mul]
          exact Nat.mul_le_mul_right _ (by omega)
        have I := ih (ins (a + b) r) ls' (by rw [length_ins]; simp at h1; omega) (by rw [length_ins]; omega) (rises_ins _ _ hr.2.2) (fun l hl => by
          rcases List.mem_cons.1 (p'.subset hl) with rfl | hl
          · omega
          · exact hM l (P.subset (by simp [hl]))) K2
        rw [ec] at I
        have s1 : a * m2 ≤ a * m1 := Nat.mul_le_mul_left a hm21
        have s2 : (a + b) * (m2 - 1) + (a + b) = (a + b) * m2 := by
          obtain ⟨d, rfl⟩ : ∃ d, m2 = d + 1 := ⟨m2 - 1, by omega⟩
          rw [Nat.add_sub_cancel, Nat.mul_succ]
        have s3 : (a + b) * m2 = a * m2 + b * m2 := Nat.add_mul _ _ _
        show (a + b) + huff n (ins (a + b) r) ≤ _
        simp only [cost] at c1 c2 ⊢
        omega
end Go.Proofs.Ytbkagloonlddfaa.Hm
