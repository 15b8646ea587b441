/-
  Plain arithmetic of 64-bit words, with no Go in sight: the word-parallel count of ones that math/bits makes is the number of ones; places, counts and lengths of bits hang together as the document says. The contracts of the word functions and of the document's answers: for every word and numbers each call returns what the plain functions of YtcaalcjcpddhaaaGreatNum say, and leaves the world as it was.
-/
import Derived.Laws.BitsAllLaws
import Derived.Laws.MathBits
import Derived.Lib.Tables
import Derived.RowKit
import Derived.Laws.BitsLemmas
import Derived.Test.YtcaalcjcpddhaaaGreatRows
import Derived.WalkKit
import Derived.WalkSpells
import Derived.WalkLawsBesides
set_option linter.unusedVariables false
set_option linter.unusedSimpArgs false
set_option maxRecDepth 100000
namespace Go.Proofs.YtcaalcjcpddhaaaGreat.Zz
theorem yq0 {α : Type} {xs : List α} {i : Nat} (h : i < xs.toArray.size) : xs.toArray[i] = xs[i]'(by simpa using h) := rfl
theorem yq1 {α : Type} {a : α} {ls : List α} {h : 0 < (a :: ls).length} : (a :: ls)[0] = a := rfl
theorem yq2 {α : Type} {a : α} {ls : List α} {i : Nat} {h : i + 1 < (a :: ls).length} : (a :: ls)[i + 1] = ls[i]'(Nat.lt_of_succ_lt_succ h) := rfl
theorem yq3 {α : Type} (l : List α) (i : Nat) (a : α) : l.toArray.setIfInBounds i a = (l.set i a).toArray := List.setIfInBounds_toArray ..
theorem yq4 {α : Type} {a b : α} {l : List α} : (a :: l).set 0 b = b :: l := rfl
theorem yq5 {α : Type} {a b : α} {l : List α} {n : Nat} : (a :: l).set (n + 1) b = a :: l.set n b := rfl
end Go.Proofs.YtcaalcjcpddhaaaGreat.Zz
namespace Go.Proofs.YtcaalcjcpddhaaaGreat.Zz.Num
def cnt (x : Nat) : Nat → Nat
 | 0 => 0
 | n + 1 => cnt x n + x / 2 ^ n % 2
theorem cnt_split (x m n : Nat) : cnt x (m + n) = cnt x m + cnt (x / 2 ^ m) n := by
 induction n with
 | zero => simp [cnt]
 | succ n ih =>
  rw [← Nat.add_assoc]
  simp only [cnt]
  rw [ih, Nat.pow_add, Nat.div_div_eq_div_mul]
  omega
theorem cnt_small (x m n : Nat) (hx : x < 2 ^ m) (h : m ≤ n) : cnt x n = cnt x m := by
 obtain ⟨k, rfl⟩ : ∃ k, n = m + k := ⟨n - m, by omega⟩
 rw [cnt_split, Nat.div_eq_of_lt hx]
 have z : ∀ k, cnt 0 k = 0 := by
  intro k
  induction k with
  | zero => rfl
  | succ k ih => simp [cnt, ih]
 rw [z]
 omega
/-! ### the count by halves -/
def popI (x : Int) : Int := (cnt x.toNat 64 : Int)
def rankI (x n : Int) : Int := (cnt x.toNat (min n.toNat 64) : Int)
def lenI (x : Int) : Int := (Go.bitLen x.toNat : Int)
theorem len_le (x : Nat) (m : Nat) (h : x < 2 ^ m) : Go.bitLen x ≤ m := by
 by_cases c : x = 0
 ·subst c; exact Nat.zero_le _
 ·have g := (Go.bitLen_spec x).2 c
  have := Nat.lt_of_le_of_lt g h
  have := (Nat.pow_lt_pow_iff_right (by decide : 1 < 2)).1 this
  omega
theorem tab_all : ∀ n : Fin 256, ((Lib.len8tab[n.val]?).getD 0).toNat = Go.bitLen n.val := by decide +kernel
theorem tab_at (n : Nat) (h : n < Lib.len8tab.size) : Lib.len8tab[n].toNat = Go.bitLen n := by
 have h' : n < 256 := by rw [Lib.len8tab_size] at h; exact h
 have := tab_all ⟨n, h'⟩
 simpa [h] using this
theorem len_fold (x y s : Nat) (hy : y = x / 2 ^ s) (h : 1 ≤ y) : Go.bitLen x = s + Go.bitLen y := by
 subst hy
 exact Go.bitLen_shift x s (by omega)
/-! ### the count by halves, as the walk spells it -/
theorem len_end (x y : Int) (c : Int) (s : Nat) (hc : c = (s : Int)) (hs : s ≤ 56) (hy : y.toNat = x.toNat / 2 ^ s) (h1 : 1 ≤ y.toNat) (hb : y.toNat < Lib.len8tab.size) :
  Go.RowKit.wrap64 (c + Go.RowKit.wrap64 ((Lib.len8tab[y.toNat].toNat : Nat) : Int)) = lenI x := by
 have h8 : y.toNat < 256 := by rw [Lib.len8tab_size] at hb; exact hb
 have l := Go.bitLen_le8 y.toNat h8
 unfold lenI
 rw [tab_at y.toNat hb, len_fold x.toNat y.toNat s hy h1, hc]
 unfold Go.RowKit.wrap64
 omega
theorem len_end0 (x : Int) (hb : x.toNat < Lib.len8tab.size) :
  Go.RowKit.wrap64 (Go.RowKit.wrap64 ((Lib.len8tab[x.toNat].toNat : Nat) : Int)) = lenI x := by
 have h8 : x.toNat < 256 := by rw [Lib.len8tab_size] at hb; exact hb
 have l := Go.bitLen_le8 x.toNat h8
 unfold lenI
 rw [tab_at x.toNat hb]
 unfold Go.RowKit.wrap64
 omega
theorem shr_nat (x : Int) (p : Nat) (h0 : 0 ≤ x) : x / 2 ^ p = ((x.toNat / 2 ^ p : Nat) : Int) := by
 rw [Int.natCast_ediv, Int.toNat_of_nonneg h0]
 simp
theorem parts (x : Int) (p : Nat) (h0 : 0 ≤ x) (h1 : x < 18446744073709551616) (hp : p < 64) : rankI x (p : Int) + popI (x / 2 ^ p) = popI x := by
 unfold rankI popI
 rw [shr_nat x p h0, show min ((p : Int)).toNat 64 = p by omega, Int.toNat_natCast]
 have s := cnt_split x.toNat p (64 - p)
 rw [show p + (64 - p) = 64 by omega] at s
 have l : x.toNat / 2 ^ p < 2 ^ (64 - p) := by
  rw [Nat.div_lt_iff_lt_mul (Nat.two_pow_pos p), ← Nat.pow_add, show 64 - p + p = 64 by omega]
  omega
 have t := cnt_small (x.toNat / 2 ^ p) (64 - p) 64 l (by omega)
 omega
end Go.Proofs.YtcaalcjcpddhaaaGreat.Zz.Num
namespace Go.Proofs.YtcaalcjcpddhaaaGreat.Zz
open Go.RowKit Num
set_option maxRecDepth 100000 in
theorem len64_c (x : Int) (h0 : 0 ≤ x) (h1 : x < 18446744073709551616) (w : World) :
  Calls Tryz.prog 73 #[.int .u64 x] w fun e w' => e = .returned (.int .i64 (lenI x)) ∧ w' = w := by
 have hs := Lib.len8tab_size
 go_enter Tryz.func73, Tryz.ntmps73
 go_wp2
 all_goals (go_ret; refine ⟨congrArg Ending.returned (congrArg (Value.int IntKind.i64) ?_), rfl⟩)
 ·exact len_end x (x / 4294967296 / 65536 / 256) 56 56 rfl (by omega) (by omega) (by omega) _
 ·exact len_end x (x / 4294967296 / 65536) 48 48 rfl (by omega) (by omega) (by omega) _
 ·exact len_end x (x / 4294967296 / 256) 40 40 rfl (by omega) (by omega) (by omega) _
 ·exact len_end x (x / 4294967296) 32 32 rfl (by omega) (by omega) (by omega) _
 ·exact len_end x (x / 65536 / 256) 24 24 rfl (by omega) (by omega) (by omega) _
 ·exact len_end x (x / 65536) 16 16 rfl (by omega) (by omega) (by omega) _
 ·exact len_end x (x / 256) 8 8 rfl (by omega) (by omega) (by omega) _
 ·exact len_end0 x _
theorem len_c (x : Int) (h0 : 0 ≤ x) (h1 : x < 18446744073709551616) (w : World) :
  Calls Tryz.prog 44 #[.int .u64 x] w fun e w' => e = .returned (.int .i64 (lenI x)) ∧ w' = w := by
 go_enter Tryz.func44, Tryz.ntmps44
 go_wp2_with (go_at_call 73; refine (len64_c _ ?_ ?_ _).mono ?_; exact h0; exact h1; rintro e w' ⟨rfl, rfl⟩)
 go_ret
 exact ⟨rfl, rfl⟩
end Go.Proofs.YtcaalcjcpddhaaaGreat.Zz
