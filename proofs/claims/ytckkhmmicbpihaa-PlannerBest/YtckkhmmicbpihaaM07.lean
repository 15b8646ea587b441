/-
  Plain: parts of a text by what its symbols are, their bits as rows, and how counts go down and up along codes. Plain: the nodes of codes, by length, then number. Plain: the two loops of Codes: what is next, and at which length. Plain: codes in the canonical order lie side by side; there are fewer nodes than symbols.
-/
import Derived.Test.YtckkhmmicbpihaaM04
import Derived.Test.YtckkhmmicbpihaaM05
namespace Go.Proofs.Ytckkhmmicbpihaa.Sh
open Num Bit
set_option linter.unusedVariables false

/-- How many of the first i symbols are such. -/
def cp (P : Nat → Bool) (t : List Nat) : Nat → Nat
  | 0 => 0
  | i + 1 => cp P t i + (P (gt t i)).toNat
/-- Their places. -/
def mem (P : Nat → Bool) (t : List Nat) (n : Nat) : List Nat := (List.range n).filter fun j => P (gt t j)
/-- A bit of each. -/
def row (P f : Nat → Bool) (t : List Nat) (n : Nat) : List Bool := (mem P t n).map fun j => f (gt t j)
/-- How many of the first i are b. -/
def ct (b : Bool) (l : List Bool) (i : Nat) : Nat := ((l.take i).filter (· == b)).length
theorem mem_succ (P : Nat → Bool) (t : List Nat) (n : Nat) : mem P t (n + 1) = mem P t n ++ if P (gt t n) then [n] else [] := by
  unfold mem
  rw [List.range_succ, List.filter_append]
  cases h : P (gt t n) <;> simp [h]
theorem length_mem (P : Nat → Bool) (t : List Nat) (n : Nat) : (mem P t n).length = cp P t n := by
  induction n with
  | zero => rfl
  | succ n ih =>
    rw [mem_succ, List.length_append, ih, cp]
    cases P (gt t n) <;> rfl
theorem cp_le (P : Nat → Bool) (t : List Nat) (i : Nat) : cp P t i ≤ i := by
  induction i with
  | zero => exact Nat.le_refl _
  | succ i ih => have := Bool.toNat_le (P (gt t i)); rw [cp]; omega
theorem cp_mono (P : Nat → Bool) (t : List Nat) (i d : Nat) : cp P t i ≤ cp P t (i + d) := by
  induction d with
  | zero => exact Nat.le_refl _
  | succ d ih => rw [show i + (d + 1) = i + d + 1 by omega, cp]; omega
theorem cp_congr {P Q : Nat → Bool} {t : List Nat} {i : Nat} (h : ∀ j, j < i → P (gt t j) = Q (gt t j)) : cp P t i = cp Q t i := by
  induction i with
  | zero => rfl
  | succ i ih => rw [cp, cp, ih fun j hj => h j (by omega), h i (by omega)]
theorem cp_all (t : List Nat) (i : Nat) (P : Nat → Bool) (h : ∀ j, j < i → P (gt t j) = true) : cp P t i = i := by
  induction i with
  | zero => rfl
  | succ i ih => rw [cp, ih fun j hj => h j (by omega), h i (by omega)]; rfl
theorem mem_take (P : Nat → Bool) (t : List Nat) (i d : Nat) : (mem P t (i + d)).take (cp P t i) = mem P t i := by
  induction d with
  | zero => rw [← length_mem]; exact List.take_length
  | succ d ih =>
    rw [show i + (d + 1) = i + d + 1 by omega, mem_succ, List.take_append_of_le_length (by rw [length_mem]; exact cp_mono _ _ _ _), ih]
theorem mem_at (P : Nat → Bool) (t : List Nat) (j n : Nat) (hj : j < n) (h : P (gt t j) = true) : (mem P t n)[cp P t j]? = some j := by
  have e := mem_take P t (j + 1) (n - (j + 1))
  rw [show j + 1 + (n - (j + 1)) = n by omega] at e
  have g : (mem P t (j + 1))[cp P t j]? = some j := by
    rw [mem_succ, h, if_pos rfl, ← length_mem, List.getElem?_append_right (Nat.le_refl _), Nat.sub_self]
    rfl
  rw [← e, List.getElem?_take_of_lt (by rw [cp, h]; simp)] at g
  exact g
theorem length_row (P f : Nat → Bool) (t : List Nat) (n : Nat) : (row P f t n).length = cp P t n := by
  unfold row
  rw [List.length_map, length_mem]
/-- The bit of symbol j, where it stands in the row. -/
theorem row_at (P f : Nat → Bool) (t : List Nat) (j n : Nat) (hj : j < n) (h : P (gt t j) = true) : (row P f t n)[cp P t j]? = some (f (gt t j)) := by
  unfold row
  rw [List.getElem?_map, mem_at P t j n hj h]
  rfl
/-- Counting in the row is counting symbols. -/
theorem row_ct (P f : Nat → Bool) (t : List Nat) (i n : Nat) (hi : i ≤ n) (b : Bool) : ct b (row P f t n) (cp P t i) = cp (fun c => P c && (f c == b)) t i := by
  have e := mem_take P t i (n - i)
  rw [show i + (n - i) = n by omega] at e
  unfold ct row
  rw [← List.map_take, e]
  clear e hi
  induction i with
  | zero => rfl
  | succ i ih =>
    rw [mem_succ, List.map_append, List.filter_append, List.length_append, ih, cp]
    cases h : P (gt t i)
    · rfl
    · cases h2 : (f (gt t i) == b) <;> simp [h2]
/-- The place in the row of the bit b that has k such ahead is where that symbol stands. -/
theorem row_up (P f : Nat → Bool) (t : List Nat) (j n : Nat) (hj : j < n) (h : P (gt t j) = true) : ct (f (gt t j)) (row P f t n) (cp P t j) = cp (fun c => P c && (f c == f (gt t j))) t j := row_ct P f t j n (by omega) _

section
variable (v k : Nat → Nat)
/-- The first L bits of a code. -/
def pre (L c : Nat) : Nat := k c / 2 ^ (v c - L)
/-- It begins so. -/
def bg (L x c : Nat) : Bool := decide (L ≤ v c) && decide (pre v k L c = x)
/-- It begins so, and goes on. -/
def st (L x c : Nat) : Bool := decide (L < v c) && decide (pre v k L c = x)
/-- The bit behind the first L. -/
def nb (L c : Nat) : Bool := decide (pre v k (L + 1) c % 2 = 1)
/-- No code is the beginning of another one. -/
def Apart : Prop := ∀ c d, 0 < v c → 0 < v d → v c ≤ v d → pre v k (v c) d = k c → c = d
theorem pre_half {L c : Nat} (h : L < v c) : pre v k (L + 1) c / 2 = pre v k L c := by
  unfold pre
  rw [Nat.div_div_eq_div_mul, ← Nat.pow_succ, show (v c - (L + 1)).succ = v c - L by omega]
theorem pre_succ {L c : Nat} (h : L < v c) : pre v k (L + 1) c = 2 * pre v k L c + (nb v k L c).toNat := by
  have := pre_half v k h
  unfold nb
  by_cases e : pre v k (L + 1) c % 2 = 1
  · rw [decide_eq_true e]; simp; omega
  · rw [decide_eq_false e]; simp; omega
theorem pre_all (c : Nat) : pre v k (v c) c = k c := by unfold pre; simp
theorem pre_zero {c : Nat} (h : k c < 2 ^ v c) : pre v k 0 c = 0 := by
  unfold pre
  exact Nat.div_eq_of_lt (by simpa using h)
/-- Those of a node whose next bit is b begin by one bit more. -/
theorem st_step (L x c : Nat) (b : Bool) : (st v k L x c && (nb v k L c == b)) = bg v k (L + 1) (2 * x + b.toNat) c := by
  unfold st bg
  by_cases h : L < v c
  · have e := pre_succ v k h
    rw [decide_eq_true h, decide_eq_true (show L + 1 ≤ v c by omega), Bool.true_and, Bool.true_and]
    by_cases g : pre v k L c = x
    · rw [decide_eq_true g, Bool.true_and, e, g]
      cases nb v k L c <;> cases b <;> simp <;> omega
    · rw [decide_eq_false g, Bool.false_and]
      refine (decide_eq_false fun z => g ?_).symm
      rw [e] at z
      have := Bool.toNat_le (nb v k L c)
      have := Bool.toNat_le b
      omega
  · rw [decide_eq_false h, decide_eq_false (show ¬ L + 1 ≤ v c by omega)]
    rfl
/-- What begins as a code that goes on goes on itself. -/
theorem bg_st (hA : Apart v k) {L c d : Nat} (hL : L < v c) (hd : 0 < v d) : bg v k L (pre v k L c) d = st v k L (pre v k L c) d := by
  unfold bg st
  by_cases h : L < v d
  · rw [decide_eq_true h, decide_eq_true (show L ≤ v d by omega)]
  · by_cases e : v d = L
    · rw [decide_eq_false h, decide_eq_true (show L ≤ v d by omega), Bool.true_and, Bool.false_and]
      refine decide_eq_false fun z => ?_
      subst e
      rw [pre_all] at z
      have := hA d c hd (by omega) (by omega) z.symm
      subst this
      omega
    · rw [decide_eq_false h, decide_eq_false (show ¬ L ≤ v d by omega)]
theorem bg_zero {c d : Nat} (hc : k c < 2 ^ v c) (hd : k d < 2 ^ v d) : bg v k 0 (pre v k 0 c) d = true := by
  unfold bg
  rw [pre_zero v k hc, pre_zero v k hd]
  simp
theorem bg_all (hA : Apart v k) {c d : Nat} (hc : 0 < v c) (hd : 0 < v d) : bg v k (v c) (k c) d = decide (d = c) := by
  unfold bg
  by_cases e : d = c
  · subst e
    rw [pre_all]
    simp
  · rw [decide_eq_false e]
    by_cases h : v c ≤ v d
    · rw [decide_eq_true h, Bool.true_and]
      exact decide_eq_false fun z => e (hA c d hc hd h z).symm
    · rw [decide_eq_false h, Bool.false_and]
/-- How many of the first i symbols begin as c does, by its first L bits. -/
def cc (t : List Nat) (c L i : Nat) : Nat := cp (bg v k L (pre v k L c)) t i
theorem cc_zero {t : List Nat} {c i : Nat} (hc : k c < 2 ^ v c) (h : ∀ j, j < i → k (gt t j) < 2 ^ v (gt t j)) : cc v k t c 0 i = i := cp_all _ _ _ fun j hj => bg_zero v k hc (h j hj)
theorem cc_all (hA : Apart v k) {t : List Nat} {c i : Nat} (hc : 0 < v c) (h : ∀ j, j < i → 0 < v (gt t j)) : cc v k t c (v c) i = cp (fun d => decide (d = c)) t i := by
  unfold cc
  rw [pre_all]
  exact cp_congr fun j hj => bg_all v k hA hc (h j hj)
theorem cc_st (hA : Apart v k) {t : List Nat} {c L i : Nat} (hL : L < v c) (h : ∀ j, j < i → 0 < v (gt t j)) : cc v k t c L i = cp (st v k L (pre v k L c)) t i := cp_congr fun j hj => bg_st v k hA hL (h j hj)
/-- The row of a node. -/
def nrow (t : List Nat) (L x : Nat) : List Bool := row (st v k L x) (nb v k L) t t.length
/-- Down by one bit. -/
theorem cc_down (hA : Apart v k) {t : List Nat} {c L i : Nat} (hL : L < v c) (hi : i ≤ t.length) (h : ∀ j, j < t.length → 0 < v (gt t j)) : ct (nb v k L c) (nrow v k t L (pre v k L c)) (cc v k t c L i) = cc v k t c (L + 1) i := by
  rw [cc_st v k hA hL fun j hj => h j (by omega)]
  unfold nrow
  rw [row_ct _ _ _ _ _ hi]
  unfold cc
  rw [pre_succ v k hL]
  exact cp_congr fun j _ => st_step v k L _ _ _
/-- The bit that is met on the way down to symbol j. -/
theorem cc_bit (hA : Apart v k) {t : List Nat} {j L : Nat} (hj : j < t.length) (hL : L < v (gt t j)) (h : ∀ j, j < t.length → 0 < v (gt t j)) : (nrow v k t L (pre v k L (gt t j)))[cc v k t (gt t j) L j]? = some (nb v k L (gt t j)) := by
  rw [cc_st v k hA hL fun i hi => h i (by omega)]
  unfold nrow
  exact row_at _ _ _ _ _ hj (by unfold st; simp [hL])
end
end Go.Proofs.Ytckkhmmicbpihaa.Sh

namespace Go.Proofs.Ytckkhmmicbpihaa.Sh
open Num Bit
set_option linter.unusedVariables false

section
variable (v k : Nat → Nat)
/-- Some symbol's code begins so, and goes on. -/
def isN (L x : Nat) : Bool := (List.range 256).any (st v k L x)
/-- The nodes of length L from number a on. -/
def lvF (L a : Nat) : List Nat := (List.range' a (2 ^ L - a)).filter (isN v k L)
/-- All nodes. -/
def nds : List (Nat × Nat) := (List.range 40).flatMap fun L => (lvF v k L 0).map fun x => (L, x)
theorem isN_iff (L x : Nat) : isN v k L x = true ↔ ∃ c, c < 256 ∧ L < v c ∧ pre v k L c = x := by
  unfold isN st
  simp
theorem lvF_none (L a : Nat) (h : ∀ c, c < 256 → L < v c → pre v k L c < a) : lvF v k L a = [] := by
  unfold lvF
  rw [List.filter_eq_nil_iff]
  intro x hx g
  obtain ⟨c, h1, h2, h3⟩ := (isN_iff v k L x).1 g
  have := h c h1 h2
  rw [List.mem_range'_1] at hx
  omega
theorem lvF_skip (L a d : Nat) (hd : a + d ≤ 2 ^ L) (h : ∀ x, a ≤ x → x < a + d → isN v k L x = false) : lvF v k L a = lvF v k L (a + d) := by
  unfold lvF
  rw [show 2 ^ L - a = d + (2 ^ L - (a + d)) by omega, ← List.range'_append_1, List.filter_append, List.filter_eq_nil_iff.2 (fun x hx => by
    rw [List.mem_range'_1] at hx
    rw [h x hx.1 hx.2]
    decide)]
  rfl
theorem lvF_some (L a b : Nat) (hab : a ≤ b) (hb : b < 2 ^ L) (h : ∀ c, c < 256 → L < v c → a ≤ pre v k L c → b ≤ pre v k L c) (hn : isN v k L b = true) : lvF v k L a = b :: lvF v k L (b + 1) := by
  have e := lvF_skip v k L a (b - a) (by omega) (fun x h1 h2 => by
    refine Bool.eq_false_iff.2 fun g => ?_
    obtain ⟨c, c1, c2, c3⟩ := (isN_iff v k L x).1 g
    have := h c c1 c2 (by omega)
    omega)
  rw [e, show a + (b - a) = b by omega]
  unfold lvF
  rw [show 2 ^ L - b = (2 ^ L - (b + 1)) + 1 by omega, List.range'_succ, List.filter_cons, hn, if_pos rfl]
theorem mem_nds (L x : Nat) (hk : ∀ c, k c < 2 ^ v c) : (L, x) ∈ nds v k ↔ L < 40 ∧ isN v k L x = true := by
  unfold nds lvF
  rw [List.mem_flatMap]
  constructor
  · rintro ⟨M, hM, h⟩
    obtain ⟨y, hy, e⟩ := List.mem_map.1 h
    obtain ⟨rfl, rfl⟩ := Prod.mk.inj e
    exact ⟨List.mem_range.1 hM, (List.mem_filter.1 hy).2⟩
  · rintro ⟨h1, h2⟩
    refine ⟨L, List.mem_range.2 h1, List.mem_map.2 ⟨x, List.mem_filter.2 ⟨?_, h2⟩, rfl⟩⟩
    obtain ⟨c, _, c2, rfl⟩ := (isN_iff v k L x).1 h2
    rw [List.mem_range'_1]
    refine ⟨Nat.zero_le _, ?_⟩
    unfold pre
    rw [Nat.div_lt_iff_lt_mul (Nat.two_pow_pos _)]
    have e : 2 ^ v c = 2 ^ L * 2 ^ (v c - L) := by rw [← Nat.pow_add, show L + (v c - L) = v c by omega]
    have := hk c
    simp only [Nat.sub_zero, Nat.zero_add]
    omega
theorem nodup_nds : (nds v k).Nodup := by
  unfold nds List.Nodup
  rw [List.pairwise_flatMap]
  refine ⟨fun L _ => ?_, ?_⟩
  · rw [List.pairwise_map]
    unfold lvF
    exact (List.Pairwise.filter _ List.nodup_range').imp fun h e => h (Prod.mk.inj e).2
  · refine List.Pairwise.imp (fun {a b} hne => ?_) (show List.Pairwise (fun a b => a ≠ b) (List.range 40) from List.nodup_range)
    intro p h1 q h2 e
    obtain ⟨y, _, rfl⟩ := List.mem_map.1 h1
    obtain ⟨z, _, rfl⟩ := List.mem_map.1 h2
    exact hne (Prod.mk.inj e).1
end
end Go.Proofs.Ytckkhmmicbpihaa.Sh

namespace Go.Proofs.Ytckkhmmicbpihaa.Ht
open Hr

/-- What has come when symbol q is asked for length n. -/
def come (l : Nat → Nat) (n q c : Nat) : Bool := decide (l c < n) || (decide (l c = n) && decide (c < q))
theorem come_iff {l : Nat → Nat} {n q c : Nat} : come l n q c = true ↔ l c < n ∨ (l c = n ∧ c < q) := by
  unfold come
  simp only [Bool.or_eq_true, Bool.and_eq_true, decide_eq_true_eq]
theorem need_cong {l : Nat → Nat} {P Q : Nat → Bool} : ∀ k, (∀ c, c < k → P c = Q c) → need l P k = need l Q k
  | 0, _ => rfl
  | k + 1, h => by
    unfold need
    rw [need_cong k (fun c hc => h c (by omega)), h k (by omega)]
/-- Exactly one more. -/
theorem need_one {l : Nat → Nat} {P Q : Nat → Bool} {a : Nat} (h : ∀ c, c ≠ a → P c = Q c) (hp : P a = false) (hq : Q a = true) (hl : 0 < l a) : ∀ k, a < k → need l Q k = need l P k + 2 ^ (40 - l a)
  | 0, h0 => absurd h0 (Nat.not_lt_zero _)
  | k + 1, h0 => by
    unfold need
    by_cases e : a = k
    · subst e
      rw [need_cong a (fun c hc => (h c (by omega)).symm), if_pos ⟨hl, hq⟩, if_neg (by rw [hp]; simp)]
      rfl
    · rw [need_one h hp hq hl k (by omega), h k (fun e2 => e e2.symm)]
      omega
theorem come_ahead (l : Nat → Nat) (q : Nat) : come l (l q) q = Hr.ahead l q := rfl
theorem come_same (l : Nat → Nat) (n q k : Nat) (h : l q ≠ n) : need l (come l n (q + 1)) k = need l (come l n q) k :=
  need_cong k fun c _ => by
    rw [Bool.eq_iff_iff, come_iff, come_iff]
    constructor
    · rintro (e | ⟨e1, e2⟩)
      · exact .inl e
      · refine .inr ⟨e1, ?_⟩
        by_cases g : c = q
        · subst g; exact absurd e1 h
        · omega
    · rintro (e | ⟨e1, e2⟩)
      · exact .inl e
      · exact .inr ⟨e1, by omega⟩
theorem come_one (l : Nat → Nat) (q k : Nat) (hl : 0 < l q) (hk : q < k) : need l (come l (l q) (q + 1)) k = need l (come l (l q) q) k + 2 ^ (40 - l q) := by
  refine need_one (fun c hc => ?_) ?_ ?_ hl k hk
  · rw [Bool.eq_iff_iff, come_iff, come_iff]
    omega
  · refine Bool.eq_false_iff.2 fun e => ?_
    have := come_iff.1 e
    omega
  · exact come_iff.2 (by omega)
theorem come_over (l : Nat → Nat) (n k : Nat) : need l (come l (n + 1) 0) k = need l (come l n k) k :=
  need_cong k fun c hc => by
    rw [Bool.eq_iff_iff, come_iff, come_iff]
    omega
theorem come_start (l : Nat → Nat) (k : Nat) : need l (come l 1 0) k = 0 := by
  induction k with
  | zero => rfl
  | succ k ih =>
    unfold need
    rw [ih, if_neg]
    rintro ⟨h1, h2⟩
    have := come_iff.1 h2
    omega
/-- next, and its length, at symbol q and length n. -/
structure At (l : Nat → Nat) (k n q nx at_ : Nat) : Prop where
  le : at_ ≤ n
  le40 : at_ ≤ 40
  sum : nx * 2 ^ (40 - at_) = need l (come l n q) k
theorem At.start (l : Nat → Nat) (k : Nat) : At l k 1 0 0 0 := ⟨Nat.zero_le _, by omega, by rw [come_start, Nat.zero_mul]⟩
theorem At.same {l : Nat → Nat} {k n q nx a : Nat} (h : At l k n q nx a) (hq : l q ≠ n) : At l k n (q + 1) nx a := ⟨h.le, h.le40, by rw [come_same l n q k hq]; exact h.sum⟩
theorem At.over {l : Nat → Nat} {k n nx a : Nat} (h : At l k n k nx a) : At l k (n + 1) 0 nx a := ⟨by have := h.le; omega, h.le40, by rw [come_over]; exact h.sum⟩
/-- The code of q is what is next. -/
theorem At.code {l : Nat → Nat} {k q nx a : Nat} (h : At l k (l q) q nx a) (h40 : l q ≤ 40) : nx * 2 ^ (l q - a) = code l k q := by
  have e := code_eq l k q h40
  have := h.sum
  rw [come_ahead, e, show 40 - a = (l q - a) + (40 - l q) by have := h.le; omega, Nat.pow_add, ← Nat.mul_assoc] at this
  exact Nat.mul_right_cancel (Nat.two_pow_pos _) this
theorem At.put {l : Nat → Nat} {k q nx a : Nat} (h : At l k (l q) q nx a) (hl : 0 < l q) (h40 : l q ≤ 40) (hk : q < k) : At l k (l q) (q + 1) (nx * 2 ^ (l q - a) + 1) (l q) := by
  refine ⟨Nat.le_refl _, h40, ?_⟩
  rw [come_one l q k hl hk, h.code h40, Nat.add_mul, Nat.one_mul, come_ahead, code_eq l k q h40]
end Go.Proofs.Ytckkhmmicbpihaa.Ht

namespace Go.Proofs.Ytckkhmmicbpihaa.Sh
open Num Bit Hr
set_option linter.unusedVariables false

theorem least {p : Nat → Prop} : ∀ n, p n → ∃ m, p m ∧ ∀ j, j < m → ¬ p j := by
  intro n
  induction n using Nat.strongRecOn with
  | ind n ih =>
    intro h
    by_cases g : ∃ j, j < n ∧ p j
    · obtain ⟨j, h1, h2⟩ := g
      exact ih j h1 h2
    · exact ⟨n, h, fun j hj hp => g ⟨j, hj, hp⟩⟩
theorem inj_le {α : Type} : ∀ (l : List α) (m : List Nat) (f : α → Nat), l.Nodup → (∀ a, a ∈ l → ∀ b, b ∈ l → f a = f b → a = b) → (∀ a, a ∈ l → f a ∈ m) → l.length ≤ m.length
  | [], _, _, _, _, _ => Nat.zero_le _
  | a :: l, m, f, hn, hi, hm => by
    have ha := hm a (List.mem_cons_self ..)
    have hn' := List.nodup_cons.1 hn
    have ih := inj_le l (m.erase (f a)) f hn'.2 (fun b hb d hd e => hi b (List.mem_cons_of_mem _ hb) d (List.mem_cons_of_mem _ hd) e) (fun b hb => by
      refine (List.mem_erase_of_ne fun e => ?_).2 (hm b (List.mem_cons_of_mem _ hb))
      exact hn'.1 (hi b (List.mem_cons_of_mem _ hb) a (List.mem_cons_self ..) e ▸ hb))
    rw [List.length_erase_of_mem ha] at ih
    have := List.length_pos_of_mem ha
    rw [List.length_cons]
    omega
theorem need_sub {l : Nat → Nat} {P Q : Nat → Bool} : ∀ k, (∀ c, c < k → 0 < l c → P c = true → Q c = true) → need l P k ≤ need l Q k
  | 0, _ => Nat.le_refl _
  | k + 1, h => by
    have ih := need_sub (l := l) k fun c hc => h c (by omega)
    have tp := Nat.two_pow_pos (40 - l k)
    unfold need
    by_cases c : 0 < l k ∧ P k = true
    · rw [if_pos c, if_pos ⟨c.1, h k (by omega) c.1 c.2⟩]; omega
    · rw [if_neg c]
      split <;> omega
theorem key_lt {a b c d k : Nat} (hc : c < k) (hd : d < k) (h : a * k + c ≤ b * k + d) : a < b ∨ (a = b ∧ c ≤ d) := by
  rcases Nat.lt_trichotomy a b with e | e | e
  · exact .inl e
  · subst e; exact .inr ⟨rfl, by omega⟩
  · have := Nat.mul_le_mul_right k (show b + 1 ≤ a from e)
    rw [Nat.add_mul] at this
    omega
/-- If each of these ends at y or ahead of it, they need no more than y. -/
theorem need_to (l : Nat → Nat) (k y : Nat) (D : Nat → Bool) (h40 : ∀ c, c < k → l c ≤ 40) (h : ∀ c, c < k → 0 < l c → D c = true → need l (Hr.ahead l c) k + 2 ^ (40 - l c) ≤ y) : need l D k ≤ y := by
  by_cases g : ∃ c, c < k ∧ 0 < l c ∧ D c = true
  · obtain ⟨c0, hc0⟩ := g
    have kb : ∀ c, c < k → l c * k + c ≤ 41 * k := fun c hc => by
      have := Nat.mul_le_mul_right k (h40 c hc)
      omega
    obtain ⟨n, ⟨m, hm, em⟩, hmin⟩ := least (p := fun n => ∃ c, (c < k ∧ 0 < l c ∧ D c = true) ∧ l c * k + c + n = 41 * k) (41 * k - (l c0 * k + c0)) ⟨c0, hc0, by have := kb c0 hc0.1; omega⟩
    have hm0 : Hr.ahead l m m = false := Bool.eq_false_iff.2 fun e => by have := ahead_iff.1 e; omega
    refine Nat.le_trans ?_ (h m hm.1 hm.2.1 hm.2.2)
    rw [← Ht.need_one (P := Hr.ahead l m) (Q := fun c => Hr.ahead l m c || decide (c = m)) (a := m) (fun c hc => by simp [hc]) hm0 (by simp) hm.2.1 k hm.1]
    refine need_sub k fun c c1 c2 c3 => ?_
    by_cases e : c = m
    · simp [e]
    · have := kb c c1
      have hle : l c * k + c ≤ l m * k + m := by
        refine Nat.le_of_not_lt fun z => hmin (41 * k - (l c * k + c)) (by omega) ⟨c, ⟨c1, c2, c3⟩, by omega⟩
      have := key_lt c1 hm.1 hle
      rw [ahead_iff.2 (show l c < l m ∨ (l c = l m ∧ c < m) by omega)]
      rfl
  · have : need l D k ≤ need l (fun _ => false) k := need_sub k fun c c1 c2 c3 => absurd ⟨c, c1, c2, c3⟩ g
    have z : ∀ k, need l (fun _ => false) k = 0 := fun k => by
      induction k with
      | zero => rfl
      | succ k ih => unfold need; rw [ih]; simp
    rw [z] at this
    omega
/-- Each place is some code's. -/
theorem cover (l : Nat → Nat) (k y : Nat) (h40 : ∀ c, c < k → l c ≤ 40) (hy : y < need l (fun _ => true) k) : ∃ c, c < k ∧ 0 < l c ∧ need l (Hr.ahead l c) k ≤ y ∧ y < need l (Hr.ahead l c) k + 2 ^ (40 - l c) := by
  refine Classical.byContradiction fun g => ?_
  have no : ∀ c, c < k → 0 < l c → y < need l (Hr.ahead l c) k ∨ need l (Hr.ahead l c) k + 2 ^ (40 - l c) ≤ y := fun c c1 c2 => by
    by_cases e : y < need l (Hr.ahead l c) k
    · exact .inl e
    · by_cases f : need l (Hr.ahead l c) k + 2 ^ (40 - l c) ≤ y
      · exact .inr f
      · exact absurd ⟨c, c1, c2, by omega, by omega⟩ g
  by_cases b : ∃ c, c < k ∧ 0 < l c ∧ y < need l (Hr.ahead l c) k
  · obtain ⟨b, hb⟩ := b
    obtain ⟨n, ⟨m, hm, em⟩, hmin⟩ := least (p := fun n => ∃ c, (c < k ∧ 0 < l c ∧ y < need l (Hr.ahead l c) k) ∧ l c * k + c = n) (l b * k + b) ⟨b, hb, rfl⟩
    have : need l (Hr.ahead l m) k ≤ y := need_to l k y _ h40 fun c c1 c2 c3 => by
      rcases no c c1 c2 with e | e
      · refine absurd ⟨c, ⟨c1, c2, e⟩, rfl⟩ (hmin (l c * k + c) ?_)
        have a := ahead_iff.1 c3
        rw [← em]
        refine Nat.lt_of_not_le fun z => ?_
        have := key_lt hm.1 c1 z
        omega
      · exact e
    omega
  · have : need l (fun _ => true) k ≤ y := need_to l k y _ h40 fun c c1 c2 _ => by
      rcases no c c1 c2 with e | e
      · exact absurd ⟨c, c1, c2, e⟩ b
      · exact e
    omega
/-- An odd number times a power of two says both. -/
theorem odd_pow : ∀ (m n x y : Nat), (2 * x + 1) * 2 ^ m = (2 * y + 1) * 2 ^ n → m = n ∧ x = y
  | 0, 0, x, y, h => by simp at h; omega
  | 0, n + 1, x, y, h => by rw [Nat.pow_succ, ← Nat.mul_assoc] at h; omega
  | m + 1, 0, x, y, h => by rw [Nat.pow_succ, ← Nat.mul_assoc] at h; omega
  | m + 1, n + 1, x, y, h => by
    rw [Nat.pow_succ, ← Nat.mul_assoc, Nat.pow_succ, ← Nat.mul_assoc] at h
    have := odd_pow m n x y (by omega)
    omega
section
variable (l : Nat → Nat)
theorem apart_code (h40 : ∀ c, l c ≤ 40) (hout : ∀ c, 256 ≤ c → l c = 0) : Apart l (code l 256) := fun c d hc hd hle e => by
  refine Classical.byContradiction fun hne => ?_
  have c1 : c < 256 := Nat.lt_of_not_le fun z => by have := hout c z; omega
  have d1 : d < 256 := Nat.lt_of_not_le fun z => by have := hout d z; omega
  exact (apart l 256 hc hd (h40 d) c1 d1 hne hle).1 e
/-- Which symbol a node's middle belongs to. -/
theorem node_mid (h40 : ∀ c, l c ≤ 40) (hout : ∀ c, 256 ≤ c → l c = 0) (hs : need l (fun _ => true) 256 = 2 ^ 40) (L x : Nat) (hn : isN l (code l 256) L x = true) : ∃ c, c < 256 ∧ L < l c ∧ code l 256 c = (2 * x + 1) * 2 ^ (l c - (L + 1)) := by
  obtain ⟨c0, z1, z2, z3⟩ := (isN_iff l _ L x).1 hn
  have b0 := code_lt l 256 (show 0 < l c0 by omega) (h40 c0) z1 (by omega)
  have hL := h40 c0
  have p1 : 2 ^ l c0 = 2 ^ L * 2 ^ (l c0 - L) := by rw [← Nat.pow_add, show L + (l c0 - L) = l c0 by omega]
  have hx : x < 2 ^ L := by
    rw [← z3]
    unfold pre
    rw [Nat.div_lt_iff_lt_mul (Nat.two_pow_pos _), ← p1]
    exact b0
  have p2 : 2 ^ 40 = 2 ^ L * 2 * 2 ^ (39 - L) := by rw [← Nat.pow_succ, ← Nat.pow_add, show L + 1 + (39 - L) = 40 by omega]
  have hy : (2 * x + 1) * 2 ^ (39 - L) < 2 ^ 40 := by
    rw [p2]
    exact Nat.mul_lt_mul_of_pos_right (by omega) (Nat.two_pow_pos _)
  obtain ⟨c, c1, c2, c3, c4⟩ := cover l 256 _ (fun c _ => h40 c) (by rw [hs]; exact hy)
  have e := code_eq l 256 c (h40 c)
  rw [e] at c3 c4
  have hq : (2 * x + 1) * 2 ^ (39 - L) / 2 ^ (40 - l c) = code l 256 c := by
    refine Nat.div_eq_of_lt_le c3 (Nat.lt_of_lt_of_eq c4 ?_)
    rw [Nat.add_mul, Nat.one_mul]
  by_cases g : L < l c
  · refine ⟨c, c1, g, ?_⟩
    rw [← hq, show 39 - L = (l c - (L + 1)) + (40 - l c) by have := h40 c; omega, Nat.pow_add, ← Nat.mul_assoc, Nat.mul_div_cancel _ (Nat.two_pow_pos _)]
  · refine absurd (apart_code l h40 hout c c0 c2 (by omega) (by omega) ?_) (fun e => by subst e; omega)
    rw [← hq]
    unfold pre at z3 ⊢
    have q1 : code l 256 c0 / 2 ^ (l c0 - l c) = x / 2 ^ (L - l c) := by
      rw [← z3, Nat.div_div_eq_div_mul, ← Nat.pow_add, show l c0 - L + (L - l c) = l c0 - l c by omega]
    rw [q1, show 40 - l c = (39 - L) + 1 + (L - l c) by omega, Nat.pow_add, Nat.pow_succ, Nat.mul_assoc, ← Nat.div_div_eq_div_mul, Nat.mul_div_cancel _ (Nat.two_pow_pos _), ← Nat.div_div_eq_div_mul, show (2 * x + 1) / 2 = x by omega]
/-- There are fewer nodes than 256. -/
theorem nds_few (h40 : ∀ c, l c ≤ 40) (hout : ∀ c, 256 ≤ c → l c = 0) (hs : need l (fun _ => true) 256 = 2 ^ 40) : (nds l (code l 256)).length ≤ 255 := by
  have hk : ∀ c, code l 256 c < 2 ^ l c ∨ l c = 0 := fun c => by
    by_cases z : l c = 0
    · exact .inr z
    · exact .inl (code_lt l 256 (by omega) (h40 c) (Nat.lt_of_not_le fun g => z (hout c g)) (by omega))
  obtain ⟨a, a1, a2, a3, a4⟩ := cover l 256 0 (fun c _ => h40 c) (by rw [hs]; decide)
  have a0 : code l 256 a = 0 := by
    have e := code_eq l 256 a (h40 a)
    have := Nat.two_pow_pos (40 - l a)
    rw [e] at a3
    rcases Nat.eq_zero_or_pos (code l 256 a) with z | z
    · exact z
    · have := Nat.mul_pos z this
      omega
  have hex : ∀ p : Nat × Nat, ∃ c, p ∈ nds l (code l 256) → c < 256 ∧ p.1 < l c ∧ code l 256 c = (2 * p.2 + 1) * 2 ^ (l c - (p.1 + 1)) := fun p => by
    by_cases h : p ∈ nds l (code l 256)
    · have hn : isN l (code l 256) p.1 p.2 = true := by
        unfold nds lvF at h
        obtain ⟨M, _, h⟩ := List.mem_flatMap.1 h
        obtain ⟨y, hy, e⟩ := List.mem_map.1 h
        subst e
        exact (List.mem_filter.1 hy).2
      obtain ⟨c, hc⟩ := node_mid l h40 hout hs _ _ hn
      exact ⟨c, fun _ => hc⟩
    · exact ⟨0, fun g => absurd g h⟩
  obtain ⟨f, hf⟩ := Classical.axiomOfChoice hex
  have := inj_le (nds l (code l 256)) ((List.range 256).erase a) f (nodup_nds l _) (fun p hp q hq e => by
    obtain ⟨_, g1, g2⟩ := hf p hp
    obtain ⟨_, g3, g4⟩ := hf q hq
    rw [e] at g1 g2
    rw [g2] at g4
    have := odd_pow _ _ _ _ g4
    exact Prod.ext (by omega) this.2) (fun p hp => by
    obtain ⟨g0, g1, g2⟩ := hf p hp
    refine (List.mem_erase_of_ne fun e => ?_).2 (List.mem_range.2 g0)
    rw [e, a0] at g2
    have := Nat.mul_pos (show 0 < 2 * p.2 + 1 by omega) (Nat.two_pow_pos (l a - (p.1 + 1)))
    omega)
  rw [List.length_erase_of_mem (List.mem_range.2 a1), List.length_range] at this
  omega
end
end Go.Proofs.Ytckkhmmicbpihaa.Sh
