/-
  The contracts of the word functions and of the document's answers: for every word and numbers each call returns what the plain functions of YtckkhmmicbpihaaNum say, and leaves the world as it was. Plain: what rows need. Plain: the order of a text's ends; a row that is sorted is one alone; beginnings of twice the length.
-/
import Derived.Test.YtckkhmmicbpihaaRows
import Derived.Test.YtckkhmmicbpihaaM00
import Derived.WalkKit
import Derived.WalkSpells
import Derived.WalkLawsBesides
namespace Go.Proofs.Ytckkhmmicbpihaa
open Go.RowKit Num

theorem u64_wf (x : Int) (h : (Lit.int .u64 x).wf = true) : 0 ≤ x ∧ x < 18446744073709551616 := by
  simp only [Lit.wf, IntKind.min, IntKind.max, IntKind.signed, IntKind.bits, Bool.and_eq_true] at h
  simp at h
  omega

theorem i64_wfW (x : Int) (h : (Lit.int .i64 x).wf = true) : -9223372036854775808 ≤ x ∧ x ≤ 9223372036854775807 := by
  simp only [Lit.wf, IntKind.min, IntKind.max, IntKind.signed, IntKind.bits, Bool.and_eq_true, decide_eq_true_eq] at h
  simp at h
  omega

set_option maxRecDepth 100000 in
theorem len64_c (x : Int) (h0 : 0 ≤ x) (h1 : x < 18446744073709551616) (w : World) :
    Calls Try.prog 70 #[.int .u64 x] w fun e w' => e = .returned (.int .i64 (lenI x)) ∧ w' = w := by
  have hs := Lib.len8tab_size
  go_enter Try.func70, Try.ntmps70
  go_wp2
  all_goals (go_ret; refine ⟨congrArg Ending.returned (congrArg (Value.int IntKind.i64) ?_), rfl⟩)
  · exact len_end x (x / 4294967296 / 65536 / 256) 56 56 rfl (by omega) (by omega) (by omega) _
  · exact len_end x (x / 4294967296 / 65536) 48 48 rfl (by omega) (by omega) (by omega) _
  · exact len_end x (x / 4294967296 / 256) 40 40 rfl (by omega) (by omega) (by omega) _
  · exact len_end x (x / 4294967296) 32 32 rfl (by omega) (by omega) (by omega) _
  · exact len_end x (x / 65536 / 256) 24 24 rfl (by omega) (by omega) (by omega) _
  · exact len_end x (x / 65536) 16 16 rfl (by omega) (by omega) (by omega) _
  · exact len_end x (x / 256) 8 8 rfl (by omega) (by omega) (by omega) _
  · exact len_end0 x _

theorem len_c (x : Int) (h0 : 0 ≤ x) (h1 : x < 18446744073709551616) (w : World) :
    Calls Try.prog 50 #[.int .u64 x] w fun e w' => e = .returned (.int .i64 (lenI x)) ∧ w' = w := by
  go_enter Try.func50, Try.ntmps50
  go_wp2_with (go_at_call 70; refine (len64_c _ ?_ ?_ _).mono ?_; exact h0; exact h1; rintro e w' ⟨rfl, rfl⟩)
  go_ret
  exact ⟨rfl, rfl⟩

theorem reflen_c (x : Int) (h0 : 0 ≤ x) (h1 : x < 18446744073709551616) (w : World) :
    Calls Try.prog 30 #[.int .u64 x] w fun e w' => e = .returned (.int .i64 (lenI x)) ∧ w' = w := by
  go_enter Try.func30, Try.ntmps30
  go_wp2
  go_loop [3] (fun i => ∃ p : Nat, p ≤ 64 ∧ i = .int .i64 p ∧ Hid (x.toNat < 2 ^ p))
    (fun i => (intOf i).toNat)
  case atStart => exact ⟨64, by omega, rfl, show x.toNat < 2 ^ 64 by omega⟩
  case round =>
    obtain ⟨p, hp, rfl, H⟩ := hrel
    go_wp2
    · have hlt : 0 < p := by assumption
      have ht : ((x / 2 ^ (p - 1)).tmod 2 == 1) = true := by assumption
      rw [bit_tmod x (p - 1) h0] at ht
      simp only [beq_iff_eq] at ht
      have g := H.out
      have l := len_eq x.toNat (p - 1) (by rw [show p - 1 + 1 = p by omega]; exact g) (by omega)
      go_ret
      refine ⟨congrArg Ending.returned (congrArg (Value.int IntKind.i64) ?_), rfl⟩
      unfold lenI
      omega
    · have hlt : 0 < p := by assumption
      have ht : ((x / 2 ^ (p - 1)).tmod 2 == 1) = false := by assumption
      rw [bit_tmod x (p - 1) h0] at ht
      simp only [beq_eq_false_iff_ne, ne_eq] at ht
      have g := H.out
      have l := len_down x.toNat (p - 1) (by rw [show p - 1 + 1 = p by omega]; exact g) (by omega)
      go_round
      case rel => exact ⟨p - 1, by omega, by go_num, l⟩
      case measure => simp only [intOf]; omega
    · have hlt : ¬ 0 < p := by assumption
      have g : x.toNat < 2 ^ p := H.out
      have l := len_le x.toNat p g
      go_ret
      refine ⟨congrArg Ending.returned (congrArg (Value.int IntKind.i64) ?_), rfl⟩
      unfold lenI
      omega
end Go.Proofs.Ytckkhmmicbpihaa

namespace Go.Proofs.Ytckkhmmicbpihaa.Pn
set_option linter.unusedVariables false

/-- Divided, rounded up. -/
def up (n b : Nat) : Nat := (n + b - 1) / b
/-- How many lowest bits a row by places keeps apart. -/
def fw (n m : Nat) : Nat := if 0 < m then Go.bitLen (n / m) - 1 else 0
def fano (n m : Nat) : Nat := m * fw n m + m + n / 2 ^ fw n m + 1 + 64
def row (k : Int) (n m : Nat) : Nat := if k = 1 then n + 32 * (n / 512 + 1) + 16 * up n 64 else if k = 2 then 17 * up n 15 + 64 * max 1 (up (up n 15) 8) else if k = 3 then fano n m else 0
def rowI (k n m : Int) : Nat := if 0 ≤ n ∧ n ≤ 1048576 ∧ 0 ≤ m ∧ m ≤ n then row k n.toNat m.toNat else 0
theorem up_le (n b : Nat) (hb : 0 < b) : up n b ≤ n := by
  unfold up
  rw [Nat.div_le_iff_le_mul_add_pred hb]
  have : n ≤ b * n := Nat.le_mul_of_pos_left n hb
  omega
theorem fw_le {n m : Nat} (hn : n ≤ 1048576) : fw n m ≤ 20 := by
  unfold fw
  split
  · have h1 : n / m ≤ n := Nat.div_le_self _ _
    have e : (2 : Nat) ^ 21 = 2097152 := by decide
    have := Num.len_le (n / m) 21 (by omega)
    omega
  · omega
theorem fano_le {n m : Nat} (hn : n ≤ 1048576) (hm : m ≤ n) : fano n m ≤ 22 * n + 65 := by
  unfold fano
  have h1 := Nat.mul_le_mul_left m (fw_le (n := n) (m := m) hn)
  have h2 : n / 2 ^ fw n m ≤ n := Nat.div_le_self _ _
  omega
end Go.Proofs.Ytckkhmmicbpihaa.Pn

namespace Go.Proofs.Ytckkhmmicbpihaa.Su
set_option linter.unusedVariables false

/-- One list of numbers is ahead of another. -/
def lt : List Nat → List Nat → Bool
  | [], [] => false
  | [], _ :: _ => true
  | _ :: _, [] => false
  | a :: x, b :: y => decide (a < b) || (decide (a = b) && lt x y)
theorem lt_irr : ∀ x, lt x x = false
  | [] => rfl
  | a :: x => by simp [lt, lt_irr x]
theorem lt_nil (x : List Nat) : lt x [] = false := by cases x <;> rfl
theorem lt_tr : ∀ x y z, lt x y = true → lt y z = true → lt x z = true
  | [], [], _, h, _ => by simp [lt] at h
  | [], _ :: _, [], _, h => by simp [lt] at h
  | [], _ :: _, _ :: _, _, _ => rfl
  | _ :: _, [], _, h, _ => by simp [lt] at h
  | _ :: _, _ :: _, [], _, h => by simp [lt] at h
  | a :: x, b :: y, c :: z, h1, h2 => by
    simp only [lt, Bool.or_eq_true, Bool.and_eq_true, decide_eq_true_eq] at *
    rcases h1 with h1 | ⟨rfl, h1⟩
    · rcases h2 with h2 | ⟨rfl, h2⟩
      · exact .inl (by omega)
      · exact .inl h1
    · rcases h2 with h2 | ⟨rfl, h2⟩
      · exact .inl h2
      · exact .inr ⟨rfl, lt_tr x y z h1 h2⟩
theorem lt_tri : ∀ x y, lt x y = false → lt y x = false → x = y
  | [], [], _, _ => rfl
  | [], _ :: _, h, _ => by simp [lt] at h
  | _ :: _, [], _, h => by simp [lt] at h
  | a :: x, b :: y, h1, h2 => by
    simp only [lt, Bool.or_eq_false_iff, Bool.and_eq_false_iff, decide_eq_false_iff_not] at *
    obtain rfl : a = b := by omega
    rw [lt_tri x y (h1.2.resolve_left (by simp)) (h2.2.resolve_left (by simp))]
theorem lt_asym {x y : List Nat} (h : lt x y = true) : lt y x = false := Bool.eq_false_iff.2 fun h2 => by
  have := lt_tr x y x h h2
  rw [lt_irr] at this
  cases this
theorem lt_ne {x y : List Nat} (h : lt x y = true) : x ≠ y := fun e => by
  rw [e, lt_irr] at h
  cases h
/-- Beginnings of a and b signs: those of a signs decide, then the b behind them. -/
theorem lt_take : ∀ (a b : Nat) (x y : List Nat), lt (x.take (a + b)) (y.take (a + b)) = (lt (x.take a) (y.take a) || (decide (x.take a = y.take a) && lt ((x.drop a).take b) ((y.drop a).take b)))
  | 0, b, x, y => by simp [lt]
  | a + 1, b, [], [] => by simp [lt]
  | a + 1, b, [], c :: y => by simp [lt, show a + 1 + b = (a + b) + 1 by omega]
  | a + 1, b, c :: x, [] => by simp [lt, show a + 1 + b = (a + b) + 1 by omega]
  | a + 1, b, c :: x, d :: y => by
    rw [show a + 1 + b = (a + b) + 1 by omega]
    simp only [List.take_succ_cons, List.drop_succ_cons, lt, lt_take a b x y]
    by_cases e : c = d
    · subst e
      simp [List.cons.injEq]
    · simp [e]
theorem eq_take (a b : Nat) (x y : List Nat) : x.take (a + b) = y.take (a + b) ↔ x.take a = y.take a ∧ (x.drop a).take b = (y.drop a).take b := by
  rw [List.take_add, List.take_add]
  constructor
  · intro h
    have h1 := congrArg (List.take a) h
    by_cases hx : a ≤ x.length
    · by_cases hy : a ≤ y.length
      · rw [List.take_left' (by rw [List.length_take]; omega), List.take_left' (by rw [List.length_take]; omega)] at h1
        refine ⟨h1, ?_⟩
        rw [h1] at h
        exact List.append_cancel_left h
      · have e : y.drop a = [] := List.drop_eq_nil_of_le (by omega)
        rw [e, List.take_nil, List.append_nil] at h
        have hl := congrArg List.length h
        simp only [List.length_append, List.length_take, List.length_drop] at hl
        have hz : (x.drop a).take b = [] := List.eq_nil_of_length_eq_zero (by rw [List.length_take, List.length_drop]; omega)
        rw [hz, List.append_nil] at h
        exact ⟨h, by rw [hz, e, List.take_nil]⟩
    · have e : x.drop a = [] := List.drop_eq_nil_of_le (by omega)
      rw [e, List.take_nil, List.append_nil] at h
      have hl := congrArg List.length h
      simp only [List.length_append, List.length_take, List.length_drop] at hl
      have hz : (y.drop a).take b = [] := List.eq_nil_of_length_eq_zero (by rw [List.length_take, List.length_drop]; omega)
      rw [hz, List.append_nil] at h
      exact ⟨h, by rw [hz, e, List.take_nil]⟩
  · rintro ⟨h1, h2⟩
    rw [h1, h2]
/-- The end at i is ahead of that at j. -/
def ah (t : List Nat) (i j : Nat) : Bool := lt (t.drop i) (t.drop j)
theorem ah_irr (t : List Nat) (i : Nat) : ah t i i = false := lt_irr _
theorem ah_tr {t : List Nat} {i j k : Nat} (h1 : ah t i j = true) (h2 : ah t j k = true) : ah t i k = true := lt_tr _ _ _ h1 h2
theorem drop_inj {t : List Nat} {i j : Nat} (hi : i ≤ t.length) (hj : j ≤ t.length) (h : t.drop i = t.drop j) : i = j := by
  have := congrArg List.length h
  rw [List.length_drop, List.length_drop] at this
  omega
theorem ah_tri {t : List Nat} {i j : Nat} (hi : i ≤ t.length) (hj : j ≤ t.length) (hne : i ≠ j) : ah t i j = true ∨ ah t j i = true := by
  cases h1 : ah t i j with
  | true => exact .inl rfl
  | false =>
    cases h2 : ah t j i with
    | true => exact .inr rfl
    | false => exact absurd (drop_inj hi hj (lt_tri _ _ h1 h2)) hne
theorem ah_end (t : List Nat) {i : Nat} (hi : i < t.length) : ah t t.length i = true := by
  unfold ah
  rw [List.drop_length, List.drop_eq_getElem_cons hi]
  rfl
/-- A row of places, each end ahead of the next ones. -/
def So (t : List Nat) (l : List Nat) : Prop := l.Pairwise fun i j => ah t i j = true
/-- Two rows of the same places that are in order are one. -/
theorem so_one {t : List Nat} : ∀ {l m : List Nat}, So t l → So t m → l.Perm m → l = m
  | [], m, _, _, h => h.nil_eq
  | a :: l, m, hl, hm, h => by
    match m, hm, h with
    | [], hm, h => exact absurd h.symm.nil_eq (by simp)
    | b :: m, hm, h =>
      have hl' := List.pairwise_cons.1 hl
      have hm' := List.pairwise_cons.1 hm
      have e : a = b := by
        by_cases e : a = b
        · exact e
        · have h1 : b ∈ l := by
            have := h.mem_iff.2 (List.mem_cons_self (a := b) (l := m))
            rcases List.mem_cons.1 this with q | q
            · exact absurd q.symm e
            · exact q
          have h2 : a ∈ m := by
            have := h.mem_iff.1 (List.mem_cons_self (a := a) (l := l))
            rcases List.mem_cons.1 this with q | q
            · exact absurd q e
            · exact q
          have := ah_tr (hl'.1 b h1) (hm'.1 a h2)
          rw [ah_irr] at this
          cases this
      subst e
      rw [so_one hl'.2 hm'.2 ((List.perm_cons a).1 h)]
/-- A place put into such a row, where it is due. -/
theorem so_ins {t : List Nat} {l : List Nat} {p i : Nat} (hl : So t l) (hp : p ≤ l.length) (h1 : ∀ j, j < p → ∀ x, l[j]? = some x → ah t x i = true) (h2 : ∀ j, p ≤ j → ∀ x, l[j]? = some x → ah t i x = true) : So t (l.take p ++ i :: l.drop p) := by
  unfold So
  rw [List.pairwise_append]
  refine ⟨hl.sublist (List.take_sublist _ _), List.pairwise_cons.2 ⟨fun y hy => ?_, hl.sublist (List.drop_sublist _ _)⟩, fun x hx y hy => ?_⟩
  · obtain ⟨k, hk⟩ := List.getElem?_of_mem hy
    rw [List.getElem?_drop] at hk
    exact h2 _ (by omega) y hk
  · obtain ⟨k, hk⟩ := List.getElem?_of_mem hx
    have hkp : k < p := by
      have := (List.getElem?_eq_some_iff.1 hk).1
      rw [List.length_take] at this
      omega
    rw [List.getElem?_take_of_lt hkp] at hk
    have hxi := h1 k hkp x hk
    rcases List.mem_cons.1 hy with rfl | hy
    · exact hxi
    · obtain ⟨q, hq⟩ := List.getElem?_of_mem hy
      rw [List.getElem?_drop] at hq
      exact ah_tr hxi (h2 _ (by omega) y hq)
theorem perm_ins {l : List Nat} {p i : Nat} : (l.take p ++ i :: l.drop p).Perm (i :: l) := by
  have := List.perm_middle (a := i) (l₁ := l.take p) (l₂ := l.drop p)
  rwa [List.take_append_drop] at this
/-- In such a row, what is ahead of an end stands first. -/
theorem so_cut {t : List Nat} {l : List Nat} (hl : So t l) {i j x y : Nat} (hij : i ≤ j) (hx : l[i]? = some x) (hy : l[j]? = some y) (z : Nat) (h : ah t y z = true) : ah t x z = true := by
  by_cases e : i = j
  · subst e
    rw [hx] at hy
    injection hy with hy
    rw [hy]
    exact h
  · obtain ⟨hi, rfl⟩ := List.getElem?_eq_some_iff.1 hx
    obtain ⟨hj, rfl⟩ := List.getElem?_eq_some_iff.1 hy
    exact ah_tr (List.pairwise_iff_getElem.1 hl i j hi hj (by omega)) h
end Go.Proofs.Ytckkhmmicbpihaa.Su
