/-
  Plain arithmetic of 64-bit words, with no Go in sight: the word-parallel count of ones that math/bits makes is the number of ones; places, counts and lengths of bits hang together as the document says. The contracts of the word functions and of the document's answers: for every word and numbers each call returns what the plain functions of YtcaalcjcpddhaaaGreatNum say, and leaves the world as it was.
-/
import Derived.Laws.BitsAllLaws
import Derived.Laws.MathBits
import Derived.Lib.Tables
import Derived.RowKit
import Derived.Laws.BitsLemmas
import Derived.Test.YtcaalcjcpddhaaaGreatRows
import Derived.WalkKit
import Derived.WalkSpells
import Derived.WalkLawsBesides
set_option linter.unusedVariables false
set_option linter.unusedSimpArgs false
set_option maxRecDepth 100000
namespace Go.Proofs.YtcaalcjcpddhaaaGreat
theorem yq0 {α : Type} {xs : List α} {i : Nat} (h : i < xs.toArray.size) : xs.toArray[i] = xs[i]'(by simpa using h) := rfl
theorem yq1 {α : Type} {a : α} {ls : List α} {h : 0 < (a :: ls).length} : (a :: ls)[0] = a := rfl
theorem yq2 {α : Type} {a : α} {ls : List α} {i : Nat} {h : i + 1 < (a :: ls).length} : (a :: ls)[i + 1] = ls[i]'(Nat.lt_of_succ_lt_succ h) := rfl
theorem yq3 {α : Type} (l : List α) (i : Nat) (a : α) : l.toArray.setIfInBounds i a = (l.set i a).toArray := List.setIfInBounds_toArray ..
theorem yq4 {α : Type} {a b : α} {l : List α} : (a :: l).set 0 b = b :: l := rfl
theorem yq5 {α : Type} {a b : α} {l : List α} {n : Nat} : (a :: l).set (n + 1) b = a :: l.set n b := rfl
end Go.Proofs.YtcaalcjcpddhaaaGreat
namespace Go.Proofs.YtcaalcjcpddhaaaGreat.Num
def cnt (x : Nat) : Nat → Nat
 | 0 => 0
 | n + 1 => cnt x n + x / 2 ^ n % 2
theorem cnt_le (x n : Nat) : cnt x n ≤ n := by
 induction n with
 | zero => exact Nat.le_refl _
 | succ n ih => simp only [cnt]; omega
theorem cnt_split (x m n : Nat) : cnt x (m + n) = cnt x m + cnt (x / 2 ^ m) n := by
 induction n with
 | zero => simp [cnt]
 | succ n ih =>
  rw [← Nat.add_assoc]
  simp only [cnt]
  rw [ih, Nat.pow_add, Nat.div_div_eq_div_mul]
  omega
theorem cnt_small (x m n : Nat) (hx : x < 2 ^ m) (h : m ≤ n) : cnt x n = cnt x m := by
 obtain ⟨k, rfl⟩ : ∃ k, n = m + k := ⟨n - m, by omega⟩
 rw [cnt_split, Nat.div_eq_of_lt hx]
 have z : ∀ k, cnt 0 k = 0 := by
  intro k
  induction k with
  | zero => rfl
  | succ k ih => simp [cnt, ih]
 rw [z]
 omega
/-! ### the count by halves -/
def maskI (n : Int) : Int := ((2 ^ (min n.toNat 64) - 1 : Nat) : Int)
def popI (x : Int) : Int := (cnt x.toNat 64 : Int)
def rankI (x n : Int) : Int := (cnt x.toNat (min n.toNat 64) : Int)
def lenI (x : Int) : Int := (Go.bitLen x.toNat : Int)
theorem two_pow_lt (m : Nat) (h : m < 64) : (2 : Nat) ^ m < 18446744073709551616 := Nat.pow_lt_pow_right (by decide) h
theorem mask_bounds (n : Int) : 0 ≤ maskI n ∧ maskI n < 18446744073709551616 := by
 unfold maskI
 have h : (2 : Nat) ^ (min n.toNat 64) ≤ 2 ^ 64 := Nat.pow_le_pow_right (by decide) (Nat.min_le_right _ _)
 have p := Nat.two_pow_pos (min n.toNat 64)
 omega
theorem bit_rem (x : Int) (i : Nat) (h1 : 0 ≤ x) : x / 2 ^ i % 2 = ((x.toNat / 2 ^ i % 2 : Nat) : Int) := by
 rw [Int.natCast_emod, Int.natCast_ediv, Int.toNat_of_nonneg h1]
 simp
/-! ### Select -/
/-! ### Len -/
theorem len_le (x : Nat) (m : Nat) (h : x < 2 ^ m) : Go.bitLen x ≤ m := by
 by_cases c : x = 0
 ·subst c; exact Nat.zero_le _
 ·have g := (Go.bitLen_spec x).2 c
  have := Nat.lt_of_le_of_lt g h
  have := (Nat.pow_lt_pow_iff_right (by decide : 1 < 2)).1 this
  omega
theorem len_eq (x i : Nat) (h : x < 2 ^ (i + 1)) (hb : x / 2 ^ i % 2 = 1) : Go.bitLen x = i + 1 := by
 have p := Nat.two_pow_pos i
 have l := len_le x (i + 1) h
 have g : 2 ^ i ≤ x := by
  by_cases c : 2 ^ i ≤ x
  ·exact c
  ·rw [Nat.div_eq_of_lt (by omega)] at hb
   omega
 have s := (Go.bitLen_spec x).1
 have := (Nat.pow_lt_pow_iff_right (by decide : 1 < 2)).1 (Nat.lt_of_le_of_lt g s)
 omega
theorem len_down (x i : Nat) (h : x < 2 ^ (i + 1)) (hb : ¬ x / 2 ^ i % 2 = 1) : x < 2 ^ i := by
 have p := Nat.two_pow_pos i
 by_cases c : x < 2 ^ i
 ·exact c
 ·exfalso
  have e : 2 ^ (i + 1) = 2 ^ i * 2 := Nat.pow_succ ..
  have d : x / 2 ^ i = 1 := by
   apply Nat.div_eq_of_lt_le
   ·omega
   ·omega
  omega
theorem tab_all : ∀ n : Fin 256, ((Lib.len8tab[n.val]?).getD 0).toNat = Go.bitLen n.val := by decide +kernel
theorem tab_at (n : Nat) (h : n < Lib.len8tab.size) : Lib.len8tab[n].toNat = Go.bitLen n := by
 have h' : n < 256 := by rw [Lib.len8tab_size] at h; exact h
 have := tab_all ⟨n, h'⟩
 simpa [h] using this
theorem len_fold (x y s : Nat) (hy : y = x / 2 ^ s) (h : 1 ≤ y) : Go.bitLen x = s + Go.bitLen y := by
 subst hy
 exact Go.bitLen_shift x s (by omega)
/-! ### the count by halves, as the walk spells it -/
theorem wraps_i64 (n : Int) (h0 : 0 ≤ n) (h1 : n < 2 ^ 63) : IntKind.i64.wrap n = n := by rw [IntKind.wrap_i64]; omega
theorem len_end (x y : Int) (c : Int) (s : Nat) (hc : c = (s : Int)) (hs : s ≤ 56) (hy : y.toNat = x.toNat / 2 ^ s) (h1 : 1 ≤ y.toNat) (hb : y.toNat < Lib.len8tab.size) :
  Go.RowKit.wrap64 (c + Go.RowKit.wrap64 ((Lib.len8tab[y.toNat].toNat : Nat) : Int)) = lenI x := by
 have h8 : y.toNat < 256 := by rw [Lib.len8tab_size] at hb; exact hb
 have l := Go.bitLen_le8 y.toNat h8
 unfold lenI
 rw [tab_at y.toNat hb, len_fold x.toNat y.toNat s hy h1, hc]
 unfold Go.RowKit.wrap64
 omega
theorem len_end0 (x : Int) (hb : x.toNat < Lib.len8tab.size) :
  Go.RowKit.wrap64 (Go.RowKit.wrap64 ((Lib.len8tab[x.toNat].toNat : Nat) : Int)) = lenI x := by
 have h8 : x.toNat < 256 := by rw [Lib.len8tab_size] at hb; exact hb
 have l := Go.bitLen_le8 x.toNat h8
 unfold lenI
 rw [tab_at x.toNat hb]
 unfold Go.RowKit.wrap64
 omega
theorem bit_tmod (x : Int) (i : Nat) (h0 : 0 ≤ x) : (x / 2 ^ i).tmod 2 = ((x.toNat / 2 ^ i % 2 : Nat) : Int) := by
 rw [Int.tmod_eq_emod_of_nonneg (Int.ediv_nonneg h0 (Int.pow_nonneg (by decide))), bit_rem x i h0]
theorem mask_grow (p : Nat) (h : p < 64) : bits .or .u64 (maskI (p : Int)) (IntKind.u64.wrap (2 ^ p)) = maskI ((p + 1 : Nat) : Int) := by
 have l := two_pow_lt p h
 have b := mask_bounds (p : Int)
 have q := Nat.two_pow_pos p
 have e : IntKind.u64.wrap ((2 : Int) ^ p) = ((2 ^ p : Nat) : Int) := by
  rw [IntKind.wrap_u64, show (2 : Int) ^ p = ((2 ^ p : Nat) : Int) by simp]
  generalize (2 : Nat) ^ p = y at *
  omega
 rw [e, u64_or _ _ b.1 b.2 (by omega) (by omega)]
 unfold maskI
 rw [show min ((p : Int)).toNat 64 = p by omega, show min (((p + 1 : Nat) : Int)).toNat 64 = p + 1 by omega]
 rw [Int.toNat_natCast, Int.toNat_natCast, Nat.or_comm, nat_join p _ _ (Nat.mod_self _) (by omega), Nat.pow_succ]
 congr 1
 omega
theorem mask_here (n : Int) (p : Nat) (h : p = 0 ∨ (p : Int) ≤ n) (hn : n ≤ (p : Int) ∨ 64 ≤ p) (hp : p ≤ 64) : maskI (p : Int) = maskI n := by
 unfold maskI
 rw [show min ((p : Int)).toNat 64 = min n.toNat 64 by omega]
theorem rank_here (x n : Int) (p : Nat) (h : p = 0 ∨ (p : Int) ≤ n) (hn : n ≤ (p : Int) ∨ 64 ≤ p) (hp : p ≤ 64) : ((cnt x.toNat p : Nat) : Int) = rankI x n := by
 unfold rankI
 rw [show min n.toNat 64 = p by omega]
/-! ### what the statements ask -/
theorem shr_nat (x : Int) (p : Nat) (h0 : 0 ≤ x) : x / 2 ^ p = ((x.toNat / 2 ^ p : Nat) : Int) := by
 rw [Int.natCast_ediv, Int.toNat_of_nonneg h0]
 simp
theorem parts (x : Int) (p : Nat) (h0 : 0 ≤ x) (h1 : x < 18446744073709551616) (hp : p < 64) : rankI x (p : Int) + popI (x / 2 ^ p) = popI x := by
 unfold rankI popI
 rw [shr_nat x p h0, show min ((p : Int)).toNat 64 = p by omega, Int.toNat_natCast]
 have s := cnt_split x.toNat p (64 - p)
 rw [show p + (64 - p) = 64 by omega] at s
 have l : x.toNat / 2 ^ p < 2 ^ (64 - p) := by
  rw [Nat.div_lt_iff_lt_mul (Nat.two_pow_pos p), ← Nat.pow_add, show 64 - p + p = 64 by omega]
  omega
 have t := cnt_small (x.toNat / 2 ^ p) (64 - p) 64 l (by omega)
 omega
theorem long (x : Int) (h0 : 0 ≤ x) (h1 : x < 18446744073709551616) (hx : x ≠ 0) : ∃ p : Nat, lenI x = (p : Int) ∧ 1 ≤ p ∧ p ≤ 64 ∧ x / 2 ^ (p - 1) = 1 ∧ bits .andNot .u64 x (maskI (p : Int)) = 0 := by
 have hn : x.toNat ≠ 0 := by omega
 have s := Go.bitLen_spec x.toNat
 have l := len_le x.toNat 64 (by omega)
 have g := s.2 hn
 have h1' : 1 ≤ Go.bitLen x.toNat := by
  by_cases c : 1 ≤ Go.bitLen x.toNat
  ·exact c
  ·rw [show Go.bitLen x.toNat = 0 by omega] at s
   have := s.1
   omega
 refine ⟨Go.bitLen x.toNat, rfl, h1', l, ?_, ?_⟩
 ·rw [shr_nat x _ h0]
  have e : 2 ^ Go.bitLen x.toNat = 2 ^ (Go.bitLen x.toNat - 1) * 2 := by rw [← Nat.pow_succ]; congr 1; omega
  have d : x.toNat / 2 ^ (Go.bitLen x.toNat - 1) = 1 := by
   apply Nat.div_eq_of_lt_le
   ·omega
   ·have := s.1
    omega
  rw [d]
  rfl
 ·rw [u64_andNot x _ h0 h1 (mask_bounds _).1 (mask_bounds _).2]
  unfold maskI
  rw [Int.toNat_natCast, show min ((Go.bitLen x.toNat : Int)).toNat 64 = Go.bitLen x.toNat by omega]
  rw [show (0 : Int) = ((0 : Nat) : Int) from rfl]
  congr 1
  apply Nat.eq_of_testBit_eq
  intro i
  have hm : 2 ^ Go.bitLen x.toNat - 1 < 2 ^ 64 := by
   have := Nat.pow_le_pow_right (show 0 < 2 by decide) l
   have := Nat.two_pow_pos (Go.bitLen x.toNat)
   omega
  rw [Nat.testBit_and, show 18446744073709551615 - (2 ^ Go.bitLen x.toNat - 1) = 2 ^ 64 - ((2 ^ Go.bitLen x.toNat - 1) + 1) by omega, Nat.testBit_two_pow_sub_succ hm, Nat.testBit_two_pow_sub_one]
  by_cases c : i < Go.bitLen x.toNat
  ·simp [c]
  ·have z : x.toNat.testBit i = false := Nat.testBit_lt_two_pow (Nat.lt_of_lt_of_le s.1 (Nat.pow_le_pow_right (by decide) (by omega)))
   simp [z]
end Go.Proofs.YtcaalcjcpddhaaaGreat.Num
namespace Go.Proofs.YtcaalcjcpddhaaaGreat
open Go.RowKit Num
theorem u64_wf (x : Int) (h : (Lit.int .u64 x).wf = true) : 0 ≤ x ∧ x < 18446744073709551616 := by
 simp only [Lit.wf, IntKind.min, IntKind.max, IntKind.signed, IntKind.bits, Bool.and_eq_true] at h
 simp at h
 omega
theorem i64_wf (x : Int) (h : (Lit.int .i64 x).wf = true) : -9223372036854775808 ≤ x ∧ x ≤ 9223372036854775807 := by
 simp only [Lit.wf, IntKind.min, IntKind.max, IntKind.signed, IntKind.bits, Bool.and_eq_true, decide_eq_true_eq] at h
 simp at h
 omega
set_option maxRecDepth 100000 in
theorem len64_c (x : Int) (h0 : 0 ≤ x) (h1 : x < 18446744073709551616) (w : World) :
  Calls Tryz.prog 73 #[.int .u64 x] w fun e w' => e = .returned (.int .i64 (lenI x)) ∧ w' = w := by
 have hs := Lib.len8tab_size
 go_enter Tryz.func73, Tryz.ntmps73
 go_wp2
 all_goals (go_ret; refine ⟨congrArg Ending.returned (congrArg (Value.int IntKind.i64) ?_), rfl⟩)
 ·exact len_end x (x / 4294967296 / 65536 / 256) 56 56 rfl (by omega) (by omega) (by omega) _
 ·exact len_end x (x / 4294967296 / 65536) 48 48 rfl (by omega) (by omega) (by omega) _
 ·exact len_end x (x / 4294967296 / 256) 40 40 rfl (by omega) (by omega) (by omega) _
 ·exact len_end x (x / 4294967296) 32 32 rfl (by omega) (by omega) (by omega) _
 ·exact len_end x (x / 65536 / 256) 24 24 rfl (by omega) (by omega) (by omega) _
 ·exact len_end x (x / 65536) 16 16 rfl (by omega) (by omega) (by omega) _
 ·exact len_end x (x / 256) 8 8 rfl (by omega) (by omega) (by omega) _
 ·exact len_end0 x _
theorem refmask_c (n : Int) (_h0 : -9223372036854775808 ≤ n) (_h1 : n ≤ 9223372036854775807) (w : World) :
  Calls Tryz.prog 46 #[.int .i64 n] w fun e w' => e = .returned (.int .u64 (maskI n)) ∧ w' = w := by
 go_enter Tryz.func46, Tryz.ntmps46
 go_wp2
 go_loop [3, 4] (fun b i => ∃ p : Nat, p ≤ 64 ∧ i = .int .i64 p ∧ b = .int .u64 (maskI p) ∧ Hid (p = 0 ∨ (p : Int) ≤ n))
  (fun _ i => 64 - (intOf i).toNat)
 case atStart => exact ⟨0, by omega, rfl, rfl, Or.inl rfl⟩
 case round =>
  obtain ⟨p, hp, rfl, rfl, H⟩ := hrel
  go_wp2
  ·have hlt : (p : Int) < 64 := by assumption
   have hn : (p : Int) < n := by assumption
   have g := mask_grow p (by omega)
   go_round
   case rel => exact ⟨p + 1, by omega, by go_num, by rw [g], Or.inr (by omega)⟩
   case measure => simp only [intOf]; omega
  ·have hn : n ≤ (p : Int) := by assumption
   go_ret
   exact ⟨congrArg Ending.returned (congrArg (Value.int IntKind.u64) (mask_here n p H.out (Or.inl hn) hp)), rfl⟩
  ·have hn : (64 : Int) ≤ (p : Int) := by assumption
   go_ret
   exact ⟨congrArg Ending.returned (congrArg (Value.int IntKind.u64) (mask_here n p H.out (Or.inr (by omega)) hp)), rfl⟩
theorem refrank_c (x n : Int) (h0 : 0 ≤ x) (_h1 : x < 18446744073709551616) (_h2 : -9223372036854775808 ≤ n) (_h3 : n ≤ 9223372036854775807) (w : World) :
  Calls Tryz.prog 61 #[.int .u64 x, .int .i64 n] w fun e w' => e = .returned (.int .i64 (rankI x n)) ∧ w' = w := by
 go_enter Tryz.func61, Tryz.ntmps61
 go_wp2
 go_loop [5, 6] (fun b i => ∃ p c : Nat, p ≤ 64 ∧ c ≤ p ∧ i = .int .i64 p ∧ b = .int .i64 c ∧ Hid (c = cnt x.toNat p ∧ (p = 0 ∨ (p : Int) ≤ n)))
  (fun _ i => 64 - (intOf i).toNat)
 case atStart => exact ⟨0, 0, by omega, by omega, rfl, rfl, ⟨rfl, Or.inl rfl⟩⟩
 case round =>
  obtain ⟨p, c, hp, hc, rfl, rfl, H⟩ := hrel
  go_wp2
  ·have hlt : (p : Int) < 64 := by assumption
   have hn : (p : Int) < n := by assumption
   have ht : ((x / 2 ^ p).tmod 2 == 1) = true := by assumption
   rw [bit_tmod x p h0] at ht
   simp only [beq_iff_eq] at ht
   obtain ⟨g1, g2⟩ := H.out
   go_round
   case rel =>
    refine ⟨p + 1, c + 1, by omega, by omega, by go_num, by go_num, ?_, Or.inr (by omega)⟩
    simp only [cnt]
    omega
   case measure => simp only [intOf]; omega
  ·have hlt : (p : Int) < 64 := by assumption
   have hn : (p : Int) < n := by assumption
   have ht : ((x / 2 ^ p).tmod 2 == 1) = false := by assumption
   rw [bit_tmod x p h0] at ht
   simp only [beq_eq_false_iff_ne, ne_eq] at ht
   obtain ⟨g1, g2⟩ := H.out
   go_round
   case rel =>
    refine ⟨p + 1, c, by omega, by omega, by go_num, rfl, ?_, Or.inr (by omega)⟩
    simp only [cnt]
    omega
   case measure => simp only [intOf]; omega
  ·have hn : n ≤ (p : Int) := by assumption
   obtain ⟨g1, g2⟩ := H.out
   go_ret
   refine ⟨congrArg Ending.returned (congrArg (Value.int IntKind.i64) ?_), rfl⟩
   rw [g1]
   exact rank_here x n p g2 (Or.inl hn) hp
  ·have hn : (64 : Int) ≤ (p : Int) := by assumption
   obtain ⟨g1, g2⟩ := H.out
   go_ret
   refine ⟨congrArg Ending.returned (congrArg (Value.int IntKind.i64) ?_), rfl⟩
   rw [g1]
   exact rank_here x n p g2 (Or.inr (by omega)) hp
theorem reflen_c (x : Int) (h0 : 0 ≤ x) (h1 : x < 18446744073709551616) (w : World) :
  Calls Tryz.prog 63 #[.int .u64 x] w fun e w' => e = .returned (.int .i64 (lenI x)) ∧ w' = w := by
 go_enter Tryz.func63, Tryz.ntmps63
 go_wp2
 go_loop [3] (fun i => ∃ p : Nat, p ≤ 64 ∧ i = .int .i64 p ∧ Hid (x.toNat < 2 ^ p))
  (fun i => (intOf i).toNat)
 case atStart => exact ⟨64, by omega, rfl, show x.toNat < 2 ^ 64 by omega⟩
 case round =>
  obtain ⟨p, hp, rfl, H⟩ := hrel
  go_wp2
  ·have hlt : 0 < p := by assumption
   have ht : ((x / 2 ^ (p - 1)).tmod 2 == 1) = true := by assumption
   rw [bit_tmod x (p - 1) h0] at ht
   simp only [beq_iff_eq] at ht
   have g := H.out
   have l := len_eq x.toNat (p - 1) (by rw [show p - 1 + 1 = p by omega]; exact g) (by omega)
   go_ret
   refine ⟨congrArg Ending.returned (congrArg (Value.int IntKind.i64) ?_), rfl⟩
   unfold lenI
   omega
  ·have hlt : 0 < p := by assumption
   have ht : ((x / 2 ^ (p - 1)).tmod 2 == 1) = false := by assumption
   rw [bit_tmod x (p - 1) h0] at ht
   simp only [beq_eq_false_iff_ne, ne_eq] at ht
   have g := H.out
   have l := len_down x.toNat (p - 1) (by rw [show p - 1 + 1 = p by omega]; exact g) (by omega)
   go_round
   case rel => exact ⟨p - 1, by omega, by go_num, l⟩
   case measure => simp only [intOf]; omega
  ·have hlt : ¬ 0 < p := by assumption
   have g : x.toNat < 2 ^ p := H.out
   have l := len_le x.toNat p g
   go_ret
   refine ⟨congrArg Ending.returned (congrArg (Value.int IntKind.i64) ?_), rfl⟩
   unfold lenI
   omega
end Go.Proofs.YtcaalcjcpddhaaaGreat
