/-
  Plain: floats by the whole numbers that they stand for: what is written is read as it was, sums, differences, products, order, conversions. Plain: a whole number below 2 to the power of 53 that is written as a float is read as it was. Plain: what the operations on floats give, of words that stand for whole numbers. Plain: the order of a text's ends; a row that is sorted is one alone; beginnings of twice the length. Memory of layers 17 and 18: bytes and numbers in slices, blocks of one's own, what stays of them, arguments opened, bytes as a string. Plain: quarter turns as pairs of whole numbers: marks, products, sums, agreements, what is let through. Complex numbers in memory that stand for pairs of whole numbers: sums, products, comparisons, a sign turned. Plain: the order of ends is one alone, and there is one; bytes as a string, compared. Plain: names of beginnings, twice as long each time; rows that have each number once, and their inverses. Rows of numbers of the call's own; the contracts of the document's Numbers and Inverse. A region that draws its order and ends in a store over a cell that it has read: 'x.f = append(x.f, ..)'. What is held of the world (S) is asked behind every operation but the last ones (numbers ns: the stores), each of which waits for each operation that is taken first. The contracts of the program's Turn, Mark, Sum, and of a sign turned. An append to a row of the call's own, of elements of whatever size: where the new row lies, and what stays. The contract of the program's marks: slices of complex numbers that stand for pairs. The contract of the program's agreement. The contract of the program's Corr. The contract of the program's Filter. The contracts of the package phase, all together. The contracts of the law's own 'is' and 'same'. What must come at any rate.
-/
import Derived.Laws.ComplexArith
import Derived.Test.YtbpmbdgimolkcaaRows
import Derived.Laws.BitsAllLaws
import Derived.Laws.BitsLemmas
import Derived.WalkKit
import Derived.WalkSpells
import Derived.WalkLawsBesides
import Derived.WalkSmall
import Derived.ProofKit
import Derived.OpenShut
import Derived.OwnWalk
import Derived.Lib.SmallJoins
import Derived.Lib.SlBytesConst
import Derived.Laws.BytesArg
import Derived.Laws.Rows
import Derived.Laws.Tables
import Derived.Deep.AppendLies
import Derived.Deep.Strs
import Derived.BigQuiet
import Derived.Laws.OwnMore
import Derived.OrdersHeld
import Derived.Deep.RegionHeld3
namespace Go.Proofs.Ytbpmbdgimolkcaa
set_option linter.unusedVariables false
set_option linter.unusedSimpArgs false

namespace Fp
open Ieee
/-- A scale that is finer than any number's last place. -/
def KK : Nat := 3000
theorem KK_le : 2200 ≤ KK := by decide
def sv (s : Bool) (m : Nat) : Int := bif s then -(m : Int) else (m : Int)
/-- A datum stands for the whole number n; its place is no less than -c. -/
def Va (c : Nat) (d : Datum) (n : Int) : Prop := ∃ s m e, d = .number s m e ∧ -(c : Int) ≤ e ∧ sv s m * 2 ^ (e + KK).toNat = n * 2 ^ KK
theorem two_pos (k : Nat) : (0 : Int) < 2 ^ k := Int.pow_pos (by decide)
theorem two_ne (k : Nat) : (2 : Int) ^ k ≠ 0 := Int.ne_of_gt (two_pos k)
theorem sv_cast (s : Bool) (m k : Nat) : sv s (m * 2 ^ k) = sv s m * 2 ^ k := by
  cases s <;> simp [sv, Int.natCast_mul, Int.natCast_pow, Int.neg_mul]
theorem signed_sv (s : Bool) (m k : Nat) : signed s m k = sv s m * 2 ^ k := by
  rw [← sv_cast]
  unfold signed sv
  rw [Nat.shiftLeft_eq]
  cases s <;> rfl
theorem Va.mk {c : Nat} {s : Bool} {m : Nat} {e n : Int} (hc : c ≤ KK) (he : -(c : Int) ≤ e) (h : sv s m * 2 ^ e.toNat = n * 2 ^ (-e).toNat) : Va c (.number s m e) n := by
  refine ⟨s, m, e, rfl, he, ?_⟩
  by_cases q : 0 ≤ e
  · rw [show (e + KK).toNat = e.toNat + KK by omega, Int.pow_add, ← Int.mul_assoc, h, show (-e).toNat = 0 by omega]
    simp
  · rw [show e.toNat = 0 by omega] at h
    simp only [Int.pow_zero, Int.mul_one] at h
    rw [h, Int.mul_assoc, ← Int.pow_add, show (-e).toNat + (e + KK).toNat = KK by omega]
theorem Va.less {c d : Nat} {x : Datum} {n : Int} (h : Va c x n) (hd : c ≤ d) : Va d x n := by
  obtain ⟨s, m, e, h1, h2, h3⟩ := h
  exact ⟨s, m, e, h1, by omega, h3⟩
theorem Va.sum {c : Nat} {x y : Datum} {n k : Int} (hc : c ≤ KK) (hx : Va c x n) (hy : Va c y k) : ∃ z, x.sum y = some z ∧ Va c z (n + k) := by
  obtain ⟨s, m, i, rfl, hi, h1⟩ := hx
  obtain ⟨t, l, j, rfl, hj, h2⟩ := hy
  refine ⟨_, rfl, _, _, _, rfl, ?_, ?_⟩
  · omega
  · generalize hb : min i j = b
    have e1 : (i - b).toNat + (b + KK).toNat = (i + KK).toNat := by omega
    have e2 : (j - b).toNat + (b + KK).toNat = (j + KK).toNat := by omega
    generalize ht : signed s m (i - b).toNat + signed t l (j - b).toNat = T
    have hT : T * 2 ^ (b + KK).toNat = (n + k) * 2 ^ KK := by
      rw [← ht, signed_sv, signed_sv, Int.add_mul, Int.mul_assoc, Int.mul_assoc, ← Int.pow_add, ← Int.pow_add, e1, e2, h1, h2, Int.add_mul]
    rw [← hT]
    congr 1
    unfold sv
    by_cases h0 : T = 0
    · subst h0
      simp
    · rw [if_neg h0]
      by_cases h3 : T < 0
      · simp only [h3, decide_true, cond_true]
        omega
      · simp only [h3, decide_false, cond_false]
        omega
theorem Va.opp {c : Nat} {x : Datum} {n : Int} (h : Va c x n) : Va c x.opposite (-n) := by
  obtain ⟨s, m, i, rfl, hi, h1⟩ := h
  refine ⟨_, _, _, rfl, hi, ?_⟩
  rw [Int.neg_mul, ← h1, ← Int.neg_mul]
  congr 1
  unfold sv
  cases s <;> simp
theorem Va.prod {c : Nat} {x y : Datum} {n k : Int} (hc : c + c ≤ KK) (hx : Va c x n) (hy : Va c y k) : ∃ z, x.product y = some z ∧ Va (c + c) z (n * k) := by
  obtain ⟨s, m, i, rfl, hi, h1⟩ := hx
  obtain ⟨t, l, j, rfl, hj, h2⟩ := hy
  refine ⟨_, rfl, _, _, _, rfl, ?_, ?_⟩
  · omega
  · have e : sv (s ^^ t) (m * l) = sv s m * sv t l := by
      unfold sv
      cases s <;> cases t <;> simp [Int.natCast_mul, Int.neg_mul, Int.mul_neg]
    rw [e]
    refine Int.eq_of_mul_eq_mul_right (two_ne KK) ?_
    have h3 : (i + j + KK).toNat + KK = (i + KK).toNat + (j + KK).toNat := by omega
    rw [Int.mul_assoc, ← Int.pow_add, h3, Int.pow_add]
    have h4 : sv s m * sv t l * (2 ^ (i + KK).toNat * 2 ^ (j + KK).toNat) = (sv s m * 2 ^ (i + KK).toNat) * (sv t l * 2 ^ (j + KK).toNat) := by
      simp only [Int.mul_comm, Int.mul_left_comm, Int.mul_assoc]
    rw [h4, h1, h2]
    simp only [Int.mul_comm, Int.mul_left_comm, Int.mul_assoc]
end Fp
end Go.Proofs.Ytbpmbdgimolkcaa

namespace Go.Proofs.Ytbpmbdgimolkcaa
set_option linter.unusedVariables false
set_option linter.unusedSimpArgs false

namespace Fp
open Ieee
theorem cut_exact (s : Bool) (q v N : Nat) (h : N = q * 2 ^ v) (hq : 0 < q) : Toward.even.cut s N v = q := by
  have hv : v ≤ N.log2 := by
    have h0 : N ≠ 0 := by rw [h]; exact Nat.mul_ne_zero (by omega) (Nat.pos_iff_ne_zero.1 (Nat.two_pow_pos v))
    rw [Nat.le_log2 h0, h]
    exact Nat.le_mul_of_pos_left _ hq
  unfold Toward.cut
  rw [show min v (N.log2 + 2) = v by omega, Nat.one_shiftLeft]
  simp only []
  rw [h, Nat.mul_div_cancel _ (Nat.two_pow_pos v), Nat.mul_mod_left]
  have := Nat.two_pow_pos v
  have e1 : decide (2 ^ v < 2 * 0) = false := decide_eq_false (by omega)
  have e2 : ((2 ^ v == 2 * 0) : Bool) = false := by simp
  rw [e1, e2]
  rfl
theorem log_bounds {m : Nat} (h : m ≠ 0) : 2 ^ m.log2 ≤ m ∧ m < 2 ^ (m.log2 + 1) := ⟨(Nat.le_log2 h).1 (Nat.le_refl _), Nat.lt_log2_self⟩
/-- Two numbers of one value have one length. -/
theorem log_same {m a x k : Nat} (hm : m ≠ 0) (ha : a ≠ 0) (h : m * 2 ^ x = a * 2 ^ k) : m.log2 + x = a.log2 + k := by
  obtain ⟨h1, h2⟩ := log_bounds hm
  obtain ⟨h3, h4⟩ := log_bounds ha
  have key : ∀ {p q : Nat}, 2 ^ p < 2 ^ (q + 1) → p ≤ q := fun {p q} hh => by
    have := (Nat.pow_lt_pow_iff_right (a := 2) (by decide)).1 hh
    omega
  have u1 : 2 ^ (m.log2 + x) ≤ m * 2 ^ x := by rw [Nat.pow_add]; exact Nat.mul_le_mul_right _ h1
  have u2 : m * 2 ^ x < 2 ^ (m.log2 + x + 1) := by
    rw [show m.log2 + x + 1 = (m.log2 + 1) + x by omega, Nat.pow_add]
    exact Nat.mul_lt_mul_of_pos_right h2 (Nat.two_pow_pos x)
  have u3 : 2 ^ (a.log2 + k) ≤ a * 2 ^ k := by rw [Nat.pow_add]; exact Nat.mul_le_mul_right _ h3
  have u4 : a * 2 ^ k < 2 ^ (a.log2 + k + 1) := by
    rw [show a.log2 + k + 1 = (a.log2 + 1) + k by omega, Nat.pow_add]
    exact Nat.mul_lt_mul_of_pos_right h4 (Nat.two_pow_pos k)
  have := key (Nat.lt_of_le_of_lt u1 (h ▸ u4))
  have := key (Nat.lt_of_le_of_lt u3 (h ▸ u2))
  omega
theorem read_word (s : Bool) (q j : Nat) (hj : j ≤ 1074) (h1 : 4503599627370496 ≤ q) (h2 : q < 9007199254740992) : double.read (double.word s (min (j * double.binade + q) double.infRung)) = .number s q (-1074 + (j : Nat)) := by
  have eb : double.binade = 4503599627370496 := by decide +kernel
  have ei : double.infRung = 9218868437227405312 := by decide +kernel
  have ew : double.signWeight = 9223372036854775808 := by decide +kernel
  have el : double.leastPlace = -1074 := by decide +kernel
  rw [eb, ei]
  generalize hR : j * 4503599627370496 + q = R
  rw [show min R 9218868437227405312 = R by omega]
  unfold Format.read Format.word
  rw [ew, eb, ei, el]
  simp only []
  have e1 : (if s = true then 9223372036854775808 + R else R) % 9223372036854775808 = R := by cases s <;> simp <;> omega
  have e2 : ((if s = true then 9223372036854775808 + R else R) / 9223372036854775808 % 2 == 1) = s := by
    cases s
    · simp; omega
    · simp; omega
  rw [e1, e2, if_neg (by omega), if_pos (by omega)]
  congr 1
  · omega
  · omega
/-- A word that stands for the whole number n. -/
def Fl (b : Nat) (n : Int) : Prop := Va 1100 (double.read b) n
theorem write_back {c : Nat} {d : Datum} {n : Int} (hc : c ≤ KK) (h : Va c d n) (h1 : -9007199254740992 < n) (h2 : n < 9007199254740992) : Fl (double.write d) n := by
  obtain ⟨s, m, e, rfl, he, hv⟩ := h
  have hK : 1100 ≤ KK := by decide
  show Va 1100 (double.read (double.nearest s m e)) n
  unfold Format.nearest
  by_cases hm : m = 0
  · subst hm
    have h0 : n = 0 := by
      have : n * 2 ^ KK = 0 := by rw [← hv]; cases s <;> simp [sv]
      rcases Int.mul_eq_zero.1 this with q | q
      · exact q
      · exact absurd q (two_ne KK)
    subst h0
    rw [if_pos rfl]
    have : double.read (double.word s 0) = .number s 0 (-1074) := by cases s <;> decide +kernel
    rw [this]
    exact Va.mk hK (by omega) (by rw [show sv s 0 = 0 by cases s <;> rfl, Int.zero_mul, Int.zero_mul])
  · rw [if_neg hm]
    obtain ⟨a, ha⟩ : ∃ a, a = n.natAbs := ⟨_, rfl⟩
    have hx : -(KK : Int) ≤ e := by omega
    have hpos : (0 : Int) < (m : Int) * 2 ^ (e + KK).toNat := Int.mul_pos (by omega) (two_pos _)
    have hsn : sv s a = n := by
      cases s
      · have q : (0 : Int) < n * 2 ^ KK := by rw [← hv]; exact hpos
        have : 0 < n := Int.pos_of_mul_pos_left q (two_pos KK)
        simp only [sv, cond_false]; omega
      · have q : (0 : Int) < -n * 2 ^ KK := by
          rw [Int.neg_mul, ← hv]
          simp only [sv, cond_true, Int.neg_mul, Int.neg_neg]
          exact hpos
        have : 0 < -n := Int.pos_of_mul_pos_left q (two_pos KK)
        simp only [sv, cond_true]; omega
    have hma : m * 2 ^ (e + KK).toNat = a * 2 ^ KK := by
      have : ((m * 2 ^ (e + KK).toNat : Nat) : Int) = ((a * 2 ^ KK : Nat) : Int) := by
        rw [← hsn] at hv
        simp only [Int.natCast_mul, Int.natCast_pow]
        cases s
        · simpa [sv] using hv
        · simp only [sv, cond_true, Int.neg_mul] at hv
          have := congrArg (fun z : Int => -z) hv
          simpa using this
      exact Int.ofNat.inj this
    have ha0 : a ≠ 0 := by
      intro q
      rw [q, Nat.zero_mul] at hma
      rcases Nat.mul_eq_zero.1 hma with r | r
      · exact hm r
      · exact absurd r (Nat.pos_iff_ne_zero.1 (Nat.two_pow_pos _))
    have hlog := log_same hm ha0 hma
    have hl52 : a.log2 ≤ 52 := by
      have hlt : a < 9007199254740992 := by omega
      have := (log_bounds ha0).1
      by_cases q : a.log2 ≤ 52
      · exact q
      · have := Nat.pow_le_pow_right (n := 2) (by decide) (show 53 ≤ a.log2 by omega)
        omega
    have ef : double.fractionBits = 52 := rfl
    have el : double.leastPlace = -1074 := by decide +kernel
    rw [ef, el]
    simp only []
    generalize hL : m.log2 = L at *
    generalize hA : a.log2 = l at *
    have hlast : max (e + (L : Int) - ((52 : Nat) : Int)) (-1074) = (l : Int) - 52 := by omega
    rw [hlast]
    have hqv : m * 2 ^ (e - ((l : Int) - 52)).toNat = a * 2 ^ (52 - l) * 2 ^ (((l : Int) - 52) - e).toNat := by
      refine Nat.eq_of_mul_eq_mul_right (Nat.two_pow_pos KK) ?_
      have e1 : (e - ((l : Int) - 52)).toNat + KK = (e + KK).toNat + ((52 - l) + (((l : Int) - 52) - e).toNat) := by omega
      rw [Nat.mul_assoc, ← Nat.pow_add, e1, Nat.pow_add, ← Nat.mul_assoc, hma, Nat.pow_add]
      simp only [Nat.mul_comm, Nat.mul_left_comm, Nat.mul_assoc]
    have hq1 : 4503599627370496 ≤ a * 2 ^ (52 - l) := by
      have := Nat.mul_le_mul_right (2 ^ (52 - l)) (hA ▸ (log_bounds ha0).1)
      rw [← Nat.pow_add, show l + (52 - l) = 52 by omega] at this
      exact this
    have hq2 : a * 2 ^ (52 - l) < 9007199254740992 := by
      have := Nat.mul_lt_mul_of_pos_right (hA ▸ (log_bounds ha0).2) (Nat.two_pow_pos (52 - l))
      rw [← Nat.pow_add, show l + 1 + (52 - l) = 53 by omega] at this
      exact this
    rw [Nat.shiftLeft_eq, cut_exact s (a * 2 ^ (52 - l)) _ _ hqv (by omega)]
    rw [read_word s _ _ (by omega) hq1 hq2]
    refine Va.mk hK (by omega) ?_
    rw [sv_cast, hsn, show (-1074 + ((((l : Int) - 52 - -1074).toNat : Nat) : Int)).toNat = 0 by omega, show (-(-1074 + ((((l : Int) - 52 - -1074).toNat : Nat) : Int))).toNat = 52 - l by omega]
    simp
end Fp
end Go.Proofs.Ytbpmbdgimolkcaa

namespace Go.Proofs.Ytbpmbdgimolkcaa
set_option linter.unusedVariables false
set_option linter.unusedSimpArgs false

namespace Fp
open Ieee
theorem fl_add {x y : Nat} {n k : Int} (hx : Fl x n) (hy : Fl y k) (h1 : -9007199254740992 < n + k) (h2 : n + k < 9007199254740992) : ∃ r, floatBits .add .f64 x y = some r ∧ Fl r (n + k) := by
  obtain ⟨z, hz, hv⟩ := Va.sum (by decide) hx hy
  refine ⟨double.write z, ?_, write_back (by decide) hv h1 h2⟩
  show ((double.read x).sum (double.read y)).map double.write = _
  rw [hz]
  rfl
theorem fl_sub {x y : Nat} {n k : Int} (hx : Fl x n) (hy : Fl y k) (h1 : -9007199254740992 < n - k) (h2 : n - k < 9007199254740992) : ∃ r, floatBits .sub .f64 x y = some r ∧ Fl r (n - k) := by
  obtain ⟨z, hz, hv⟩ := Va.sum (by decide) hx (Va.opp hy)
  rw [← Int.sub_eq_add_neg] at hv
  refine ⟨double.write z, ?_, write_back (by decide) hv h1 h2⟩
  show ((double.read x).sum (double.read y).opposite).map double.write = _
  rw [hz]
  rfl
theorem fl_mul {x y : Nat} {n k : Int} (hx : Fl x n) (hy : Fl y k) (h1 : -9007199254740992 < n * k) (h2 : n * k < 9007199254740992) : ∃ r, floatBits .mul .f64 x y = some r ∧ Fl r (n * k) := by
  obtain ⟨z, hz, hv⟩ := Va.prod (by decide) hx hy
  refine ⟨double.write z, ?_, write_back (by decide) hv h1 h2⟩
  show ((double.read x).product (double.read y)).map double.write = _
  rw [hz]
  rfl
theorem fl_int (n : Int) (h1 : -9007199254740992 < n) (h2 : n < 9007199254740992) : Fl (floatOfInt .f64 n) n := by
  refine write_back (c := 0) (d := .number (n < 0) n.natAbs 0) (by decide) (Va.mk (by decide) (by decide) ?_) h1 h2
  show _ * (2 : Int) ^ 0 = n * 2 ^ 0
  simp only [Int.pow_zero, Int.mul_one]
  unfold sv
  by_cases h : n < 0
  · rw [decide_eq_true h]; simp only [cond_true]; omega
  · rw [decide_eq_false h]; simp only [cond_false]; omega
theorem c_lt {a b : Int} (h : a < b) : compare a b = .lt := by simp [compare, compareOfLessAndEq, h]
theorem c_eq {a b : Int} (h : a = b) : compare a b = .eq := by simp [compare, compareOfLessAndEq, h]
theorem c_gt {a b : Int} (h : b < a) : compare a b = .gt := by simp only [compare, compareOfLessAndEq]; rw [if_neg (by omega), if_neg (by omega)]
theorem eq_c {a b : Int} (h : compare a b = .eq) : a = b := by
  rcases Int.lt_trichotomy a b with q | q | q
  · rw [c_lt q] at h; cases h
  · exact q
  · rw [c_gt q] at h; cases h
theorem cmp_scale (a b : Int) (k : Nat) : compare (a * 2 ^ k) (b * 2 ^ k) = compare a b := by
  rcases Int.lt_trichotomy a b with h | h | h
  · rw [c_lt h, c_lt (Int.mul_lt_mul_of_pos_right h (two_pos k))]
  · subst h; simp
  · rw [c_gt h, c_gt (Int.mul_lt_mul_of_pos_right h (two_pos k))]
theorem va_order {c : Nat} {x y : Datum} {n k : Int} (hc : c ≤ KK) (hx : Va c x n) (hy : Va c y k) : x.order y = some (compare n k) := by
  obtain ⟨s, m, i, rfl, hi, h1⟩ := hx
  obtain ⟨t, l, j, rfl, hj, h2⟩ := hy
  show some (compare (signed s m (i - min i j).toNat) (signed t l (j - min i j).toNat)) = _
  generalize hb : min i j = b
  have e1 : (i - b).toNat + (b + KK).toNat = (i + KK).toNat := by omega
  have e2 : (j - b).toNat + (b + KK).toNat = (j + KK).toNat := by omega
  congr 1
  rw [← cmp_scale _ _ (b + KK).toNat, signed_sv, signed_sv, Int.mul_assoc, Int.mul_assoc, ← Int.pow_add, ← Int.pow_add, e1, e2, h1, h2, cmp_scale]
theorem fl_order {x y : Nat} {n k : Int} (hx : Fl x n) (hy : Fl y k) : FloatKind.f64.format.order x y = some (compare n k) := va_order (by decide) hx hy
theorem fl_eq {x y : Nat} {n k : Int} (hx : Fl x n) (hy : Fl y k) : (FloatKind.f64.format.order x y == some .eq) = decide (n = k) := by
  rw [fl_order hx hy]
  rcases Int.lt_trichotomy n k with h | h | h
  · rw [c_lt h, decide_eq_false (by omega)]; rfl
  · rw [c_eq h, decide_eq_true h]; rfl
  · rw [c_gt h, decide_eq_false (by omega)]; rfl
theorem fl_lt {x y : Nat} {n k : Int} (hx : Fl x n) (hy : Fl y k) : (FloatKind.f64.format.order x y == some .lt) = decide (n < k) := by
  rw [fl_order hx hy]
  rcases Int.lt_trichotomy n k with h | h | h
  · rw [c_lt h, decide_eq_true h]; rfl
  · rw [c_eq h, decide_eq_false (by omega)]; rfl
  · rw [c_gt h, decide_eq_false (by omega)]; rfl
theorem fl_gt {x y : Nat} {n k : Int} (hx : Fl x n) (hy : Fl y k) : (FloatKind.f64.format.order x y == some .gt) = decide (k < n) := by
  rw [fl_order hx hy]
  rcases Int.lt_trichotomy n k with h | h | h
  · rw [c_lt h, decide_eq_false (by omega)]; rfl
  · rw [c_eq h, decide_eq_false (by omega)]; rfl
  · rw [c_gt h, decide_eq_true h]; rfl
/-- What is equal to a whole number stands for it. -/
theorem fl_of_eq {x y : Nat} {k : Int} (hy : Fl y k) (h : (FloatKind.f64.format.order x y == some .eq) = true) (hp : ∃ s m i, double.read x = .number s m i ∧ -1100 ≤ i) : Fl x k := by
  obtain ⟨s, m, i, hx, hi⟩ := hp
  obtain ⟨t, l, j, hj0, hj, h2⟩ := hy
  have h0 : (double.read x).order (double.read y) = some .eq := by have := beq_iff_eq.1 h; exact this
  rw [hx, hj0] at h0
  have h1 : compare (signed s m (i - min i j).toNat) (signed t l (j - min i j).toNat) = .eq := Option.some.inj h0
  have h3 := eq_c h1
  have hK : 1100 ≤ KK := by decide
  refine ⟨s, m, i, hx, by omega, ?_⟩
  generalize hb : min i j = b at h3
  have e1 : (i - b).toNat + (b + KK).toNat = (i + KK).toNat := by omega
  have e2 : (j - b).toNat + (b + KK).toNat = (j + KK).toNat := by omega
  rw [signed_sv, signed_sv] at h3
  have := congrArg (fun z : Int => z * 2 ^ (b + KK).toNat) h3
  simp only [Int.mul_assoc, ← Int.pow_add] at this
  rw [e1, e2] at this
  rw [this, h2]
theorem cut_zero (s : Bool) (q v N : Nat) (h : N = q * 2 ^ v) : Toward.zero.cut s N v = q := by
  unfold Toward.cut
  by_cases hq : q = 0
  · subst hq
    rw [Nat.zero_mul] at h
    subst h
    simp
  · have hv : v ≤ N.log2 := by
      have h0 : N ≠ 0 := by rw [h]; exact Nat.mul_ne_zero hq (Nat.pos_iff_ne_zero.1 (Nat.two_pow_pos v))
      rw [Nat.le_log2 h0, h]
      exact Nat.le_mul_of_pos_left _ (by omega)
    rw [show min v (N.log2 + 2) = v by omega, Nat.one_shiftLeft]
    simp only []
    rw [h, Nat.mul_div_cancel _ (Nat.two_pow_pos v)]
    rfl
theorem va_int {c : Nat} {x : Datum} {n : Int} (hc : c ≤ KK) (hx : Va c x n) : x.toInt .zero = some n := by
  obtain ⟨s, m, i, rfl, hi, h1⟩ := hx
  unfold Datum.toInt Datum.integral
  simp only []
  have hsn : sv s n.natAbs = n ∨ m = 0 := by
    by_cases hm : m = 0
    · exact .inr hm
    · left
      have hpos : (0 : Int) < (m : Int) * 2 ^ (i + KK).toNat := Int.mul_pos (by omega) (two_pos _)
      cases s
      · have q : (0 : Int) < n * 2 ^ KK := by rw [← h1]; exact hpos
        have : 0 < n := Int.pos_of_mul_pos_left q (two_pos KK)
        simp only [sv, cond_false]; omega
      · have q : (0 : Int) < -n * 2 ^ KK := by
          rw [Int.neg_mul, ← h1]
          simp only [sv, cond_true, Int.neg_mul, Int.neg_neg]
          exact hpos
        have : 0 < -n := Int.pos_of_mul_pos_left q (two_pos KK)
        simp only [sv, cond_true]; omega
  rcases hsn with hsn | hm
  · have hma : m * 2 ^ (i + KK).toNat = n.natAbs * 2 ^ KK := by
      have : ((m * 2 ^ (i + KK).toNat : Nat) : Int) = ((n.natAbs * 2 ^ KK : Nat) : Int) := by
        rw [← hsn] at h1
        simp only [Int.natCast_mul, Int.natCast_pow]
        generalize n.natAbs = a at *
        cases s
        · simpa [sv] using h1
        · simp only [sv, cond_true, Int.neg_mul] at h1
          have := congrArg (fun z : Int => -z) h1
          simpa using this
      exact Int.ofNat.inj this
    have hcut : m <<< i.toNat = n.natAbs * 2 ^ (-i).toNat := by
      rw [Nat.shiftLeft_eq]
      refine Nat.eq_of_mul_eq_mul_right (Nat.two_pow_pos KK) ?_
      have e1 : i.toNat + KK = (i + KK).toNat + (-i).toNat := by omega
      rw [Nat.mul_assoc, ← Nat.pow_add, e1, Nat.pow_add, ← Nat.mul_assoc, hma]
      simp only [Nat.mul_comm, Nat.mul_left_comm, Nat.mul_assoc]
    rw [cut_zero s _ _ _ hcut, signed_sv, hsn]
    simp
  · subst hm
    have h0 : n = 0 := by
      have : n * 2 ^ KK = 0 := by rw [← h1, show sv s 0 = 0 by cases s <;> rfl, Int.zero_mul]
      rcases Int.mul_eq_zero.1 this with q | q
      · exact q
      · exact absurd q (two_ne KK)
    subst h0
    rw [cut_zero s 0 _ _ (by rw [Nat.zero_shiftLeft, Nat.zero_mul]), signed_sv, show sv s 0 = 0 by cases s <;> rfl, Int.zero_mul]
theorem fl_toInt {x : Nat} {n : Int} (hx : Fl x n) (h1 : -9223372036854775808 ≤ n) (h2 : n ≤ 9223372036854775807) : floatToIntVal .f64 x .i64 = some n := by
  unfold floatToIntVal
  rw [show (FloatKind.f64.decode x).toInt .zero = some n from va_int (by decide) hx]
  simp only []
  rw [if_pos ⟨h1, h2⟩]
end Fp
end Go.Proofs.Ytbpmbdgimolkcaa

namespace Go.Proofs.Ytbpmbdgimolkcaa.Su
set_option linter.unusedVariables false

/-- One list of numbers is ahead of another. -/
def lt : List Nat → List Nat → Bool
  | [], [] => false
  | [], _ :: _ => true
  | _ :: _, [] => false
  | a :: x, b :: y => decide (a < b) || (decide (a = b) && lt x y)
theorem lt_irr : ∀ x, lt x x = false
  | [] => rfl
  | a :: x => by simp [lt, lt_irr x]
theorem lt_nil (x : List Nat) : lt x [] = false := by cases x <;> rfl
theorem lt_tr : ∀ x y z, lt x y = true → lt y z = true → lt x z = true
  | [], [], _, h, _ => by simp [lt] at h
  | [], _ :: _, [], _, h => by simp [lt] at h
  | [], _ :: _, _ :: _, _, _ => rfl
  | _ :: _, [], _, h, _ => by simp [lt] at h
  | _ :: _, _ :: _, [], _, h => by simp [lt] at h
  | a :: x, b :: y, c :: z, h1, h2 => by
    simp only [lt, Bool.or_eq_true, Bool.and_eq_true, decide_eq_true_eq] at *
    rcases h1 with h1 | ⟨rfl, h1⟩
    · rcases h2 with h2 | ⟨rfl, h2⟩
      · exact .inl (by omega)
      · exact .inl h1
    · rcases h2 with h2 | ⟨rfl, h2⟩
      · exact .inl h2
      · exact .inr ⟨rfl, lt_tr x y z h1 h2⟩
theorem lt_tri : ∀ x y, lt x y = false → lt y x = false → x = y
  | [], [], _, _ => rfl
  | [], _ :: _, h, _ => by simp [lt] at h
  | _ :: _, [], _, h => by simp [lt] at h
  | a :: x, b :: y, h1, h2 => by
    simp only [lt, Bool.or_eq_false_iff, Bool.and_eq_false_iff, decide_eq_false_iff_not] at *
    obtain rfl : a = b := by omega
    rw [lt_tri x y (h1.2.resolve_left (by simp)) (h2.2.resolve_left (by simp))]
theorem lt_asym {x y : List Nat} (h : lt x y = true) : lt y x = false := Bool.eq_false_iff.2 fun h2 => by
  have := lt_tr x y x h h2
  rw [lt_irr] at this
  cases this
theorem lt_ne {x y : List Nat} (h : lt x y = true) : x ≠ y := fun e => by
  rw [e, lt_irr] at h
  cases h
/-- Beginnings of a and b signs: those of a signs decide, then the b behind them. -/
theorem lt_take : ∀ (a b : Nat) (x y : List Nat), lt (x.take (a + b)) (y.take (a + b)) = (lt (x.take a) (y.take a) || (decide (x.take a = y.take a) && lt ((x.drop a).take b) ((y.drop a).take b)))
  | 0, b, x, y => by simp [lt]
  | a + 1, b, [], [] => by simp [lt]
  | a + 1, b, [], c :: y => by simp [lt, show a + 1 + b = (a + b) + 1 by omega]
  | a + 1, b, c :: x, [] => by simp [lt, show a + 1 + b = (a + b) + 1 by omega]
  | a + 1, b, c :: x, d :: y => by
    rw [show a + 1 + b = (a + b) + 1 by omega]
    simp only [List.take_succ_cons, List.drop_succ_cons, lt, lt_take a b x y]
    by_cases e : c = d
    · subst e
      simp [List.cons.injEq]
    · simp [e]
theorem eq_take (a b : Nat) (x y : List Nat) : x.take (a + b) = y.take (a + b) ↔ x.take a = y.take a ∧ (x.drop a).take b = (y.drop a).take b := by
  rw [List.take_add, List.take_add]
  constructor
  · intro h
    have h1 := congrArg (List.take a) h
    by_cases hx : a ≤ x.length
    · by_cases hy : a ≤ y.length
      · rw [List.take_left' (by rw [List.length_take]; omega), List.take_left' (by rw [List.length_take]; omega)] at h1
        refine ⟨h1, ?_⟩
        rw [h1] at h
        exact List.append_cancel_left h
      · have e : y.drop a = [] := List.drop_eq_nil_of_le (by omega)
        rw [e, List.take_nil, List.append_nil] at h
        have hl := congrArg List.length h
        simp only [List.length_append, List.length_take, List.length_drop] at hl
        have hz : (x.drop a).take b = [] := List.eq_nil_of_length_eq_zero (by rw [List.length_take, List.length_drop]; omega)
        rw [hz, List.append_nil] at h
        exact ⟨h, by rw [hz, e, List.take_nil]⟩
    · have e : x.drop a = [] := List.drop_eq_nil_of_le (by omega)
      rw [e, List.take_nil, List.append_nil] at h
      have hl := congrArg List.length h
      simp only [List.length_append, List.length_take, List.length_drop] at hl
      have hz : (y.drop a).take b = [] := List.eq_nil_of_length_eq_zero (by rw [List.length_take, List.length_drop]; omega)
      rw [hz, List.append_nil] at h
      exact ⟨h, by rw [hz, e, List.take_nil]⟩
  · rintro ⟨h1, h2⟩
    rw [h1, h2]
/-- The end at i is ahead of that at j. -/
def ah (t : List Nat) (i j : Nat) : Bool := lt (t.drop i) (t.drop j)
theorem ah_irr (t : List Nat) (i : Nat) : ah t i i = false := lt_irr _
theorem ah_tr {t : List Nat} {i j k : Nat} (h1 : ah t i j = true) (h2 : ah t j k = true) : ah t i k = true := lt_tr _ _ _ h1 h2
theorem drop_inj {t : List Nat} {i j : Nat} (hi : i ≤ t.length) (hj : j ≤ t.length) (h : t.drop i = t.drop j) : i = j := by
  have := congrArg List.length h
  rw [List.length_drop, List.length_drop] at this
  omega
theorem ah_tri {t : List Nat} {i j : Nat} (hi : i ≤ t.length) (hj : j ≤ t.length) (hne : i ≠ j) : ah t i j = true ∨ ah t j i = true := by
  cases h1 : ah t i j with
  | true => exact .inl rfl
  | false =>
    cases h2 : ah t j i with
    | true => exact .inr rfl
    | false => exact absurd (drop_inj hi hj (lt_tri _ _ h1 h2)) hne
theorem ah_end (t : List Nat) {i : Nat} (hi : i < t.length) : ah t t.length i = true := by
  unfold ah
  rw [List.drop_length, List.drop_eq_getElem_cons hi]
  rfl
/-- A row of places, each end ahead of the next ones. -/
def So (t : List Nat) (l : List Nat) : Prop := l.Pairwise fun i j => ah t i j = true
/-- Two rows of the same places that are in order are one. -/
theorem so_one {t : List Nat} : ∀ {l m : List Nat}, So t l → So t m → l.Perm m → l = m
  | [], m, _, _, h => h.nil_eq
  | a :: l, m, hl, hm, h => by
    match m, hm, h with
    | [], hm, h => exact absurd h.symm.nil_eq (by simp)
    | b :: m, hm, h =>
      have hl' := List.pairwise_cons.1 hl
      have hm' := List.pairwise_cons.1 hm
      have e : a = b := by
        by_cases e : a = b
        · exact e
        · have h1 : b ∈ l := by
            have := h.mem_iff.2 (List.mem_cons_self (a := b) (l := m))
            rcases List.mem_cons.1 this with q | q
            · exact absurd q.symm e
            · exact q
          have h2 : a ∈ m := by
            have := h.mem_iff.1 (List.mem_cons_self (a := a) (l := l))
            rcases List.mem_cons.1 this with q | q
            · exact absurd q e
            · exact q
          have := ah_tr (hl'.1 b h1) (hm'.1 a h2)
          rw [ah_irr] at this
          cases this
      subst e
      rw [so_one hl'.2 hm'.2 ((List.perm_cons a).1 h)]
/-- A place put into such a row, where it is due. -/
theorem so_ins {t : List Nat} {l : List Nat} {p i : Nat} (hl : So t l) (hp : p ≤ l.length) (h1 : ∀ j, j < p → ∀ x, l[j]? = some x → ah t x i = true) (h2 : ∀ j, p ≤ j → ∀ x, l[j]? = some x → ah t i x = true) : So t (l.take p ++ i :: l.drop p) := by
  unfold So
  rw [List.pairwise_append]
  refine ⟨hl.sublist (List.take_sublist _ _), List.pairwise_cons.2 ⟨fun y hy => ?_, hl.sublist (List.drop_sublist _ _)⟩, fun x hx y hy => ?_⟩
  · obtain ⟨k, hk⟩ := List.getElem?_of_mem hy
    rw [List.getElem?_drop] at hk
    exact h2 _ (by omega) y hk
  · obtain ⟨k, hk⟩ := List.getElem?_of_mem hx
    have hkp : k < p := by
      have := (List.getElem?_eq_some_iff.1 hk).1
      rw [List.length_take] at this
      omega
    rw [List.getElem?_take_of_lt hkp] at hk
    have hxi := h1 k hkp x hk
    rcases List.mem_cons.1 hy with rfl | hy
    · exact hxi
    · obtain ⟨q, hq⟩ := List.getElem?_of_mem hy
      rw [List.getElem?_drop] at hq
      exact ah_tr hxi (h2 _ (by omega) y hq)
theorem perm_ins {l : List Nat} {p i : Nat} : (l.take p ++ i :: l.drop p).Perm (i :: l) := by
  have := List.perm_middle (a := i) (l₁ := l.take p) (l₂ := l.drop p)
  rwa [List.take_append_drop] at this
/-- In such a row, what is ahead of an end stands first. -/
theorem so_cut {t : List Nat} {l : List Nat} (hl : So t l) {i j x y : Nat} (hij : i ≤ j) (hx : l[i]? = some x) (hy : l[j]? = some y) (z : Nat) (h : ah t y z = true) : ah t x z = true := by
  by_cases e : i = j
  · subst e
    rw [hx] at hy
    injection hy with hy
    rw [hy]
    exact h
  · obtain ⟨hi, rfl⟩ := List.getElem?_eq_some_iff.1 hx
    obtain ⟨hj, rfl⟩ := List.getElem?_eq_some_iff.1 hy
    exact ah_tr (List.pairwise_iff_getElem.1 hl i j hi hj (by omega)) h
end Go.Proofs.Ytbpmbdgimolkcaa.Su

namespace Go.Proofs.Ytbpmbdgimolkcaa
open Go.ChangeShapes Go.WideShapes Go.ChangeAt Go.RowKit Go.Joins Go.Deep
set_option linter.unusedVariables false
set_option linter.unusedSimpArgs false
set_option maxRecDepth 100000

theorem hide {p : Prop} (h : p) : Hid p := h
theorem ret_bool {a b : Bool} (h : a = b) : Ending.returned (.bool a) = .returned (.bool b) := by rw [h]
theorem ret_int {k : IntKind} {a b : Int} (h : a = b) : Ending.returned (.int k a) = .returned (.int k b) := by rw [h]
theorem ret_pair {a b c d : Value} (h : a = b) (h2 : c = d) : Ending.returned (.tuple #[a, c]) = .returned (.tuple #[b, d]) := by rw [h, h2]
def Bytes (l : List Nat) : Prop := ∀ x ∈ l, x < 256
theorem u8_wf (x : Int) (h : (Lit.int .u8 x).wf = true) : 0 ≤ x ∧ x < 256 := by
  simp only [Lit.wf, IntKind.min, IntKind.max, IntKind.signed, IntKind.bits, Bool.and_eq_true] at h
  simp at h
  omega
theorem i64_wf (x : Int) (h : (Lit.int .i64 x).wf = true) : -9223372036854775808 ≤ x ∧ x ≤ 9223372036854775807 := by
  simp only [Lit.wf, IntKind.min, IntKind.max, IntKind.signed, IntKind.bits, Bool.and_eq_true, decide_eq_true_eq] at h
  simp at h
  omega

def gt (xs : List Nat) (i : Nat) : Nat := xs.getD i 0
theorem gt_out (xs : List Nat) (i : Nat) (h : xs.length ≤ i) : gt xs i = 0 := by
  unfold gt
  rw [List.getD_eq_getElem?_getD, List.getElem?_eq_none h]; rfl
theorem gt_get (xs : List Nat) (i : Nat) (h : i < xs.length) : xs[i]? = some (gt xs i) := by
  unfold gt
  rw [List.getD_eq_getElem?_getD, List.getElem?_eq_getElem h]; rfl
theorem gt_lt {xs : List Nat} (h : Bytes xs) (i : Nat) : gt xs i < 256 := by
  by_cases c : i < xs.length
  · exact h _ (List.mem_of_getElem? (gt_get xs i c))
  · rw [gt_out xs i (by omega)]; decide
theorem bytes_of {xs : List Nat} (h : ∀ i, i < xs.length → gt xs i < 256) : Bytes xs := by
  intro x hx
  obtain ⟨i, hi, rfl⟩ := List.getElem_of_mem hx
  have := h i hi
  have e := gt_get xs i hi
  rw [List.getElem?_eq_getElem hi] at e
  simp only [Option.some.injEq] at e
  omega

/-- A slice of bytes that reads as a list. -/
def Bd (w : World) (ao : Option Addr) (xs : List Nat) : Prop :=
  0 < xs.length → ∃ b off, ao = some ⟨b, off, none⟩ ∧ b < w.heap.size ∧ ∀ i, i < xs.length → w.cell? ⟨b, off + i, none⟩ = some (.int .u8 (gt xs i))
theorem Bd.keep {w w' : World} {ao : Option Addr} {xs : List Nat} (h : Bd w ao xs) (hb : Below w.heap.size w w') : Bd w' ao xs := by
  intro hi
  obtain ⟨b, off, e, hlt, hc⟩ := h hi
  exact ⟨b, off, e, Nat.lt_of_lt_of_le hlt hb.size, fun i hi => (hb.cell (p := ⟨b, off + i, none⟩) hlt).trans (hc i hi)⟩
theorem bd0 (w : World) (ao : Option Addr) : Bd w ao [] := fun h => absurd h (by simp)
theorem Bd.take {w : World} {ao : Option Addr} {xs : List Nat} (h : Bd w ao xs) (n : Nat) (hn : n ≤ xs.length) : Bd w ao (xs.take n) := by
  intro h0
  obtain ⟨b, off, e, hlt, hc⟩ := h (by simp at h0; omega)
  refine ⟨b, off, e, hlt, fun i hi => ?_⟩
  have hi2 : i < n := by simp at hi; omega
  rw [hc i (by omega)]
  unfold gt
  rw [List.getD_eq_getElem?_getD, List.getD_eq_getElem?_getD, List.getElem?_take_of_lt hi2]
theorem below_alloc (w : World) (o : Obj) : Below w.heap.size w (w.alloc o) := (Below.refl _ _).alloc (Nat.le_refl _) _

theorem own : ownKnob Try.prog.godebug = none := by kernel_rfl
theorem laidOut : laidOutB Try.prog = true := by kernel_rfl
theorem Try.cells5 : Try.prog.cellsOf 5 = 1 := by kernel_rfl
theorem Try.info5 : (Try.prog.info? 5).map (fun i => (i.zero, i.size, i.bytes)) = some (some (.int .u8 0), 1, 1) := by kernel_rfl

theorem cell_lt {w : World} {b o : Nat} {s : Option Nat} {v : Value} (h : w.cell? ⟨b, o, s⟩ = some v) : b < w.heap.size ∧ s = none := by
  unfold World.cell? at h
  simp only at h
  split at h
  · rename_i hh
    refine ⟨(Array.getElem?_eq_some_iff.1 hh).1, ?_⟩
    cases s with
    | none => rfl
    | some x => simp at h
  · simp at h

theorem bd_of (w : World) (a : Addr) (len : Nat) (zs : List Int) (hl : len ≤ zs.length) (hc : ∀ i, i < zs.length → w.cell? (a.add i) = some (.int .u8 (zs.getD i 0))) (hw : ∀ n ∈ zs, (Lit.int .u8 n).wf = true) :
    ∃ xs : List Nat, xs.length = len ∧ Bd w (some a) xs ∧ Bytes xs := by
  have hb : ∀ i, i < zs.length → 0 ≤ zs.getD i 0 ∧ zs.getD i 0 < 256 := by
    intro i hi
    have : zs.getD i 0 = zs[i] := by rw [List.getD_eq_getElem?_getD, List.getElem?_eq_getElem hi]; rfl
    rw [this]
    exact u8_wf _ (hw _ (List.getElem_mem hi))
  have hg : ∀ i, i < len → (gt ((zs.take len).map Int.toNat) i : Int) = zs.getD i 0 := by
    intro i hi
    have h := hb i (by omega)
    unfold gt
    rw [List.getD_eq_getElem?_getD, List.getElem?_map, List.getElem?_take_of_lt hi, List.getElem?_eq_getElem (by omega : i < zs.length)]
    rw [List.getD_eq_getElem?_getD, List.getElem?_eq_getElem (by omega : i < zs.length)] at h ⊢
    simp only [Option.map_some, Option.getD_some] at h ⊢
    omega
  have hlen : ((zs.take len).map Int.toNat).length = len := by simp; omega
  refine ⟨(zs.take len).map Int.toNat, hlen, ?_, ?_⟩
  · intro h0
    obtain ⟨b, off, s⟩ := a
    have h00 : 0 < zs.length := by simp at h0; omega
    have c0 := hc 0 h00
    have k := cell_lt (show w.cell? ⟨b, off, s⟩ = _ from c0)
    obtain ⟨k1, rfl⟩ := k
    refine ⟨b, off, rfl, k1, fun i hi => ?_⟩
    have hi2 : i < len := by simp at hi; omega
    have ci := hc i (by omega)
    rw [hg i hi2, ← ci]
    unfold Addr.add
    split
    · subst_vars; rfl
    · rfl
  · refine bytes_of fun i hi => ?_
    rw [hlen] at hi
    have h := hb i (by omega)
    have e := hg i hi
    omega

theorem open_bytes {H : Type} {enc : TypeId × Value → H} {W : World} {base : Nat} {v : Value} {d : DataW H} {p : List MemPlace} (hv : Value.okWide Try.prog W .any base 22 v) (h : DataW.Trod enc Try.prog W 0 (fun _ => true) true 22 v d p) :
    ∃ ao xs cap, v = .slice ao xs.length cap ∧ Bd W ao xs ∧ Bytes xs ∧ xs.length ≤ cap := by
  obtain ⟨a0, len, cap, rfl⟩ := okWide_slice Try.underlying22 hv
  obtain ⟨fuel, hf⟩ := h
  have hf2 : DataW.trod enc Try.prog W 0 (fun _ => true) true fuel 22 [.slice a0 len cap] = some (d, p) := by simpa [Value.cells] using hf
  rcases open_ints Try.underlying22 Try.underlying5 Try.cells5 hf2 with ⟨hcs, _⟩ | ⟨x, l, cp, zs, hcs, _, hl, hm, hz, _, hcell, hwz⟩
  · simp at hcs
    obtain ⟨rfl, rfl, rfl⟩ := hcs
    exact ⟨none, [], 0, rfl, bd0 _ _, (by intro x hx; cases hx), by simp⟩
  · simp at hcs
    obtain ⟨rfl, rfl, rfl⟩ := hcs
    have hz2 : zs.length = cap := by simpa using hz
    obtain ⟨xs, hx1, hx2, hx3⟩ := bd_of W x len zs (by omega) hcell hwz
    subst hx1
    exact ⟨some x, xs, cap, rfl, hx2, hx3, hl⟩

/-- The values of a list of bytes. -/
def yv (l : List Nat) : List Value := l.map fun b : Nat => Value.int .u8 (b : Int)
theorem length_yv (l : List Nat) : (yv l).length = l.length := by simp [yv]
theorem one_yv (l : List Nat) : ∀ u ∈ yv l, u.oneCell' = true := by
  intro u hu
  obtain ⟨a, _, rfl⟩ := List.mem_map.1 hu
  rfl
theorem yv_get (l : List Nat) (i : Nat) (h : i < l.length) : (yv l)[i]? = some (.int .u8 (gt l i)) := by
  unfold yv
  rw [List.getElem?_map, gt_get l i h]; rfl
theorem owns_below {w w' : World} {base e n : Nat} {v : Value} {vs : List Value} (h : w.ownsRow base e 1 v n vs) (hb : Below w.heap.size w w') : w'.ownsRow base e 1 v n vs := by
  obtain ⟨h1, h2 | ⟨g, cap, cur, e1, e2, hh, r⟩⟩ := h
  · exact ⟨h1, .inl h2⟩
  · exact ⟨h1, .inr ⟨g, cap, cur, e1, e2, (hb.block g ((Array.getElem?_eq_some_iff.1 hh).1)).trans hh, r⟩⟩
theorem owns_shape {w : World} {base e n : Nat} {v : Value} {vs : List Value} (h : w.ownsRow base e 1 v n vs) : ∃ ao cap, v = .slice ao n cap ∧ n ≤ cap ∧ (∀ k, v.ownBlock = some k → base ≤ k ∧ k < w.heap.size) := by
  have hl := h.lt
  obtain ⟨h1, ⟨rfl, rfl⟩ | ⟨g, cap, cur, rfl, e2, hh, r, _⟩⟩ := h
  · exact ⟨none, 0, rfl, Nat.le_refl _, hl⟩
  · exact ⟨some ⟨g, 0, none⟩, cap, rfl, r, hl⟩
/-- Where the bytes of a slice that reads as a list lie, in the form that append asks for. -/
theorem Bd.src {w : World} {ao : Option Addr} {l : List Nat} (h : Bd w ao l) (m : Nat) (hm : l.length = m) : 0 < m → ∃ ad, ao = some ad ∧ ∀ j u, (yv l)[j]? = some u → w.cell? (ad.add j) = some u := by
  intro h0
  obtain ⟨b, off, e, _, hc⟩ := h (by omega)
  refine ⟨_, e, fun j u hj => ?_⟩
  have hjl : j < l.length := by
    rw [← length_yv l]
    exact (List.getElem?_eq_some_iff.1 hj).1
  rw [yv_get l j hjl] at hj
  simp only [Option.some.injEq] at hj
  subst hj
  rw [← hc j hjl]
  unfold Addr.add
  split
  · subst_vars; rfl
  · rfl
theorem bd_own {w : World} {base n c : Nat} {ao : Option Addr} {l : List Nat} (h : w.ownsRow base 5 1 (.slice ao n c) n (yv l)) : Bd w ao l := by
  intro h0
  have hlen : (yv l).length = n * 1 := h.1
  rw [length_yv] at hlen
  have hk := fun k hk => h.lt k hk
  have hc := fun g hg => h.cells (g := g) hg
  obtain ⟨_, ⟨e, e2⟩ | ⟨g, cap, cur, e, _⟩⟩ := h
  · omega
  · simp only [Value.slice.injEq] at e
    obtain ⟨rfl, _, rfl⟩ := e
    refine ⟨g, 0, rfl, (hk g rfl).2, fun i hi => ?_⟩
    rw [← hc g rfl i _ (yv_get l i hi)]
    unfold Addr.add
    split
    · subst_vars; rfl
    · simp


/-- Numbers. -/
def gi (l : List Int) (i : Nat) : Int := l.getD i 0
theorem gi_get (l : List Int) (i : Nat) (h : i < l.length) : l[i]? = some (gi l i) := by
  unfold gi
  rw [List.getD_eq_getElem?_getD, List.getElem?_eq_getElem h]; rfl
theorem gi_ext {l m : List Int} (h : l.length = m.length) (hg : ∀ i, i < l.length → gi l i = gi m i) : l = m := by
  refine List.ext_getElem? fun i => ?_
  by_cases c : i < l.length
  · rw [gi_get l i c, gi_get m i (by omega), hg i c]
  · rw [List.getElem?_eq_none (by omega), List.getElem?_eq_none (by omega)]
/-- A slice of ints that reads as a list. -/
def Nd (w : World) (ao : Option Addr) (l : List Int) : Prop :=
  0 < l.length → ∃ b off, ao = some ⟨b, off, none⟩ ∧ b < w.heap.size ∧ ∀ i, i < l.length → w.cell? ⟨b, off + i, none⟩ = some (.int .i64 (gi l i))
theorem Nd.keep {w w' : World} {ao : Option Addr} {l : List Int} (h : Nd w ao l) (hb : Below w.heap.size w w') : Nd w' ao l := by
  intro hi
  obtain ⟨b, off, e, hlt, hc⟩ := h hi
  exact ⟨b, off, e, Nat.lt_of_lt_of_le hlt hb.size, fun i hi => (hb.cell (p := ⟨b, off + i, none⟩) hlt).trans (hc i hi)⟩
theorem nd0 (w : World) (ao : Option Addr) : Nd w ao [] := fun h => absurd h (by simp)
def FitI (l : List Int) : Prop := ∀ i, -9223372036854775808 ≤ gi l i ∧ gi l i ≤ 9223372036854775807

theorem Try.cells3 : Try.prog.cellsOf 3 = 1 := by kernel_rfl
theorem Try.cells32 : Try.prog.cellsOf 32 = 1 := by kernel_rfl
theorem Try.info3 : (Try.prog.info? 3).map (fun i => (i.zero, i.size, i.bytes)) = some (some (.int .i64 0), 1, 8) := by kernel_rfl
theorem nd_of (w : World) (a : Addr) (len : Nat) (zs : List Int) (hl : len ≤ zs.length) (hc : ∀ i, i < zs.length → w.cell? (a.add i) = some (.int .i64 (zs.getD i 0))) (hw : ∀ n ∈ zs, (Lit.int .i64 n).wf = true) :
    ∃ l : List Int, l.length = len ∧ Nd w (some a) l ∧ FitI l := by
  have hlen : (zs.take len).length = len := by simp; omega
  have hg : ∀ i, i < len → gi (zs.take len) i = zs.getD i 0 := by
    intro i hi
    unfold gi
    rw [List.getD_eq_getElem?_getD, List.getD_eq_getElem?_getD, List.getElem?_take_of_lt hi]
  refine ⟨zs.take len, hlen, ?_, ?_⟩
  · intro h0
    obtain ⟨b, off, s⟩ := a
    have c0 := hc 0 (by omega)
    obtain ⟨k1, rfl⟩ := cell_lt (show w.cell? ⟨b, off, s⟩ = _ from c0)
    refine ⟨b, off, rfl, k1, fun i hi => ?_⟩
    have ci := hc i (by omega)
    rw [hg i (by omega), ← ci]
    unfold Addr.add
    split
    · subst_vars; rfl
    · rfl
  · intro i
    by_cases c : i < len
    · rw [hg i c]
      have : zs.getD i 0 = zs[i] := by rw [List.getD_eq_getElem?_getD, List.getElem?_eq_getElem (by omega)]; rfl
      rw [this]
      exact i64_wf _ (hw _ (List.getElem_mem (by omega)))
    · unfold gi
      rw [List.getD_eq_getElem?_getD, List.getElem?_eq_none (by omega)]
      decide
theorem open_is {H : Type} {enc : TypeId × Value → H} {W : World} {n : Nat} {c : Value} {y : DataW H × List MemPlace} (h : DataW.trod enc Try.prog W 0 (fun _ => true) true n 32 [c] = some y) :
    ∃ ao l cap, c = .slice ao (List.length l) cap ∧ Nd W ao l ∧ FitI l ∧ l.length ≤ cap := by
  rcases open_ints Try.underlying32 Try.underlying3 Try.cells3 h with ⟨hcs, _⟩ | ⟨x, l, cp, zs, hcs, _, hl, hm, hz, _, hcell, hwz⟩
  · simp at hcs
    subst hcs
    exact ⟨none, [], 0, rfl, nd0 _ _, fun i => by unfold gi; simp, by simp⟩
  · simp at hcs
    subst hcs
    have hz2 : zs.length = cp := by simpa using hz
    obtain ⟨xs, hx1, hx2, hx3⟩ := nd_of W x l zs (by omega) hcell hwz
    subst hx1
    exact ⟨some x, xs, cp, rfl, hx2, hx3, hl⟩
theorem open_isl {H : Type} {enc : TypeId × Value → H} {W : World} {base : Nat} {v : Value} {d : DataW H} {p : List MemPlace} (hv : Value.okWide Try.prog W .any base 32 v) (h : DataW.Trod enc Try.prog W 0 (fun _ => true) true 32 v d p) :
    ∃ ao l cap, v = .slice ao (List.length l) cap ∧ Nd W ao l ∧ FitI l ∧ l.length ≤ cap := by
  obtain ⟨a0, len, cap, rfl⟩ := okWide_slice Try.underlying32 hv
  obtain ⟨fuel, hf⟩ := h
  have hf2 : DataW.trod enc Try.prog W 0 (fun _ => true) true fuel 32 [.slice a0 len cap] = some (d, p) := by simpa [Value.cells] using hf
  exact open_is hf2
/-- Block b holds just these cells, and may be written. -/
def Cel (w : World) (b : Nat) (cs : List Value) (T : TypeId) : Prop := w.heap[b]? = some (.cells cs.toArray T (0, 0))
theorem Cel.lt {w : World} {b : Nat} {cs : List Value} {T : TypeId} (h : Cel w b cs T) : b < w.heap.size := (Array.getElem?_eq_some_iff.1 h).1
theorem Cel.cell {w : World} {b : Nat} {cs : List Value} {T : TypeId} (h : Cel w b cs T) (i : Nat) {v : Value} (hv : cs[i]? = some v) : w.cell? ⟨b, i, none⟩ = some v := by
  unfold World.cell?
  rw [show w.heap[({ block := b, off := i, spot := none } : Addr).block]? = _ from h]
  simpa using hv
theorem Cel.frozen {w : World} {b : Nat} {cs : List Value} {T : TypeId} (h : Cel w b cs T) (i : Nat) : w.frozen? ⟨b, i, none⟩ = false := by
  unfold World.frozen?
  rw [show w.heap[({ block := b, off := i, spot := none } : Addr).block]? = _ from h]
  simp
theorem Cel.set {w : World} {b : Nat} {cs : List Value} {T : TypeId} (h : Cel w b cs T) (i : Nat) (v : Value) : Cel (w.setCell ⟨b, i, none⟩ v) b (cs.set i v) T := by
  unfold Cel at h ⊢
  simp only [World.setCell, Array.getElem?_modify]
  rw [if_pos trivial, h]
  simp
theorem Cel.other {w : World} {b : Nat} {cs : List Value} {T : TypeId} (h : Cel w b cs T) {a : Addr} (ha : b ≠ a.block) (v : Value) : Cel (w.setCell a v) b cs T := (Below.heap_setCell w a v b ha).trans h
theorem Cel.keep {w w' : World} {b base : Nat} {cs : List Value} {T : TypeId} (h : Cel w b cs T) (hb : Below base w w') (hlt : b < base) : Cel w' b cs T := (hb.block b hlt).trans h
theorem Cel.kept {w w' : World} {b : Nat} {cs : List Value} {T : TypeId} (h : Cel w b cs T) (hb : Below w.heap.size w w') : Cel w' b cs T := h.keep hb h.lt
theorem Cel.drew {w : World} {b : Nat} {cs : List Value} {T : TypeId} (h : Cel w b cs T) : Cel w.drew b cs T := h
theorem Cel.new (w : World) (cs : List Value) (T : TypeId) : Cel (w.alloc (.cells cs.toArray T)) w.heap.size cs T := by
  show (w.heap.push (.cells cs.toArray T))[w.heap.size]? = _
  simp
theorem Cel.new2 (w : World) (o : Obj) (cs : List Value) (T : TypeId) : Cel ((w.alloc o).alloc (.cells cs.toArray T)) (w.heap.size + 1) cs T := by
  have := Cel.new (w.alloc o) cs T
  simpa using this
theorem Cel.alloc {w : World} {b : Nat} {cs : List Value} {T : TypeId} (h : Cel w b cs T) (o : Obj) : Cel (w.alloc o) b cs T := h.kept ((Below.refl _ _).alloc (Nat.le_refl _) _)
/-- Nothing but block g is changed. -/
structure Only (g : Nat) (w w' : World) : Prop where
  os : w'.os = w.os
  tape : w'.tape = w.tape
  output : w'.output = w.output
  size : w'.heap.size = w.heap.size
  block : ∀ k, k ≠ g → w'.heap[k]? = w.heap[k]?
theorem Only.refl (g : Nat) (w : World) : Only g w w := ⟨rfl, rfl, rfl, rfl, fun _ _ => rfl⟩
theorem Only.trans {g : Nat} {a b c : World} (h : Only g a b) (k : Only g b c) : Only g a c := ⟨k.os.trans h.os, k.tape.trans h.tape, k.output.trans h.output, k.size.trans h.size, fun i hi => (k.block i hi).trans (h.block i hi)⟩
theorem Only.below {g base : Nat} {w w' : World} (h : Only g w w') (hb : base ≤ g) : Below base w w' := ⟨h.os, h.tape, h.output, by rw [h.size]; exact Nat.le_refl _, fun k hk => h.block k (by omega)⟩
theorem Only.set {g : Nat} {a w : World} (h : Only g a w) (i : Nat) (v : Value) : Only g a (w.setCell ⟨g, i, none⟩ v) :=
  ⟨h.os, h.tape, h.output, by rw [show (w.setCell ⟨g, i, none⟩ v).heap.size = w.heap.size by simp [World.setCell]]; exact h.size, fun k hk => (Below.heap_setCell w ⟨g, i, none⟩ v k hk).trans (h.block k hk)⟩
theorem Only.row (g : Nat) (w : World) (cs : Array Value) : Only g w (w.setRow g cs) := by
  refine ⟨rfl, rfl, rfl, ?_, fun k hk => ?_⟩
  · simp [World.setRow]
  · simp only [World.setRow, Array.getElem?_modify]
    rw [if_neg (by omega)]
theorem Only.cell {g : Nat} {w w' : World} (h : Only g w w') {p : Addr} (hp : p.block ≠ g) : w'.cell? p = w.cell? p := World.cell?_of_block (w := w) (h.block p.block hp)
theorem Only.cel {g b : Nat} {w w' : World} {cs : List Value} {T : TypeId} (h : Only g w w') (hc : Cel w b cs T) (hb : b ≠ g) : Cel w' b cs T := (h.block b hb).trans hc
theorem Only.owns {g base e n : Nat} {w w' : World} {v : Value} {vs : List Value} (h : Only g w w') (ho : w.ownsRow base e 1 v n vs) (hg : g < base) : w'.ownsRow base e 1 v n vs := by
  obtain ⟨h1, h2 | ⟨b, cap, cur, e1, e2, hh, r⟩⟩ := ho
  · exact ⟨h1, .inl h2⟩
  · exact ⟨h1, .inr ⟨b, cap, cur, e1, e2, (h.block b (by omega)).trans hh, r⟩⟩

theorem store_cel {ops : Array Oper} {rest : List Oper} {d : Option Tmp} {ty T : TypeId} {ps : String} {af : Array Edge} {a : Act} {w : World} {Q : Exit → Act → World → Prop} {x y : Operand}
    (g : Nat) (old cs : List Value) (hx : a.eval x = .pointer (some ⟨g, 0, none⟩)) (hy : a.eval y = .agg cs.toArray) (hc : Cel w g old T) (lo : old.length = cs.length) (hi : (Try.prog.info? T).map (·.size) = some cs.length) (h1 : cs.toArray.all (·.oneCell') = true)
    (h : ∀ w1, Cel w1 g cs T → Only g w w1 → wpList Try.prog ops Q rest (a.put d undef) w1) :
    wpList Try.prog ops Q (⟨d, .store T x y, ty, ps, af, none⟩ :: rest) a w :=
  wpList_store_row rfl _ x y rfl g _ hx hy _ _ hc (by simpa using hi) (by simpa using lo) h1 (h _ (setRow_heap w g _ _ _ _ hc) (Only.row g w _))
theorem load_cel {ops : Array Oper} {rest : List Oper} {d : Option Tmp} {ty T : TypeId} {ps : String} {af : Array Edge} {a : Act} {w : World} {Q : Exit → Act → World → Prop} {x : Operand}
    (g : Nat) (cs : List Value) {fs : Array Field} (hx : a.eval x = .pointer (some ⟨g, 0, none⟩)) (hc : Cel w g cs T) (hu : Try.prog.underlying T = some (.struct fs)) (hi : (Try.prog.info? T).map (·.size) = some cs.length)
    (h : wpList Try.prog ops Q rest (a.put d (.agg cs.toArray)) w) :
    wpList Try.prog ops Q (⟨d, .load T x, ty, ps, af, none⟩ :: rest) a w :=
  wpList_load_row rfl _ x rfl g hx _ _ _ _ hc hu rfl (by simpa using hi) h
theorem result_cel {fn : Func} {p : Tmp} {T : TypeId} {w : World} {tmps : Array Value} {u : Tmp} (h : fn.results = #[.cell p T, .tmp u]) (g : Nat) (cs : List Value) {fs : Array Field} (hp : tmps.getD p undef = .pointer (some ⟨g, 0, none⟩)) (hc : Cel w g cs T) (hu : Try.prog.underlying T = some (.struct fs)) (hi : (Try.prog.info? T).map (·.size) = some cs.length) :
    (results fn tmps).run Try.prog w = .ok (.tuple #[.agg cs.toArray, tmps.getD u undef]) w := by
  have hp' : tmps[p]?.getD undef = .pointer (some ⟨g, 0, none⟩) := by simpa using hp
  have hl := run_loadVar_row (P := Try.prog) w g T T cs.toArray (0, 0) _ hc hu rfl (by simpa using hi)
  simp [results, h, hp', asAddr, hl]
theorem result_cel1 {fn : Func} {p : Tmp} {T : TypeId} {w : World} {tmps : Array Value} (h : fn.results = #[.cell p T]) (g : Nat) (cs : List Value) {fs : Array Field} (hp : tmps.getD p undef = .pointer (some ⟨g, 0, none⟩)) (hc : Cel w g cs T) (hu : Try.prog.underlying T = some (.struct fs)) (hi : (Try.prog.info? T).map (·.size) = some cs.length) :
    (results fn tmps).run Try.prog w = .ok (.agg cs.toArray) w := by
  have hp' : tmps[p]?.getD undef = .pointer (some ⟨g, 0, none⟩) := by simpa using hp
  have hl := run_loadVar_row (P := Try.prog) w g T T cs.toArray (0, 0) _ hc hu rfl (by simpa using hi)
  simp [results, h, hp', asAddr, hl]
namespace Ap
theorem owns_below {w w' : World} {base e n : Nat} {v : Value} {vs : List Value} (h : w.ownsRow base e 1 v n vs) (hb : Below w.heap.size w w') : w'.ownsRow base e 1 v n vs := by
  obtain ⟨h1, h2 | ⟨g, cap, cur, e1, e2, hh, r⟩⟩ := h
  · exact ⟨h1, .inl h2⟩
  · exact ⟨h1, .inr ⟨g, cap, cur, e1, e2, (hb.block g ((Array.getElem?_eq_some_iff.1 hh).1)).trans hh, r⟩⟩
theorem owns_shape {w : World} {base e n : Nat} {v : Value} {vs : List Value} (h : w.ownsRow base e 1 v n vs) : ∃ ao cap, v = .slice ao n cap ∧ n ≤ cap ∧ (∀ k, v.ownBlock = some k → base ≤ k ∧ k < w.heap.size) := by
  have hl := h.lt
  obtain ⟨h1, ⟨rfl, rfl⟩ | ⟨g, cap, cur, rfl, e2, hh, r, _⟩⟩ := h
  · exact ⟨none, 0, rfl, Nat.le_refl _, hl⟩
  · exact ⟨some ⟨g, 0, none⟩, cap, rfl, r, hl⟩
theorem run_append_zero (w : World) (base : Nat) (t ty e : TypeId) (i : TypeInfo) (size : Nat) (ht : Try.prog.underlying t = some (.slice e)) (hi : Try.prog.info? e = some i)
    (v : Value) (n : Nat) (vs : List Value) (hown : w.ownsRow base e size v n vs) (xa : Option Addr) (c : Nat) :
    (Builtin.append_ #[t, t] ty #[v, .slice xa 0 c]).run Try.prog w = .ok v w := by
  have hc := fun ad : Addr => run_firstCells_some (P := Try.prog) w i.size 0 ad 0 c [] (by simp) (by simp)
  rcases hown.2 with ⟨rfl, rfl⟩ | ⟨g, cap, cur, rfl, _, _, hnc, _⟩
  · cases xa with
    | none => simp [Builtin.append_, run_underlying ht, sizeOf, typeInfo, hi, Builtin.lenOf, Builtin.firstCells]
    | some ad => simp [Builtin.append_, run_underlying ht, sizeOf, typeInfo, hi, Builtin.lenOf, hc]
  · cases xa with
    | none => simp [Builtin.append_, run_underlying ht, sizeOf, typeInfo, hi, Builtin.lenOf, Builtin.firstCells, hnc, storeCells]
    | some ad => simp [Builtin.append_, run_underlying ht, sizeOf, typeInfo, hi, Builtin.lenOf, hc, hnc, storeCells]

theorem step_append_u {ops : Array Oper} {o : Oper} {a : Act} {w : World} {K : Act → World → Prop} {Q : Exit → Act → World → Prop} {E : Prop} (hgd : o.guard = none) (s x : Operand) (t : TypeId)
    (ho : o.op = .call { callee := .builtin .append, args := #[s, x], argTypes := #[t, t] })
    (base : Nat) (e : TypeId) (i : TypeInfo) (z : Value) (bytes : Nat) (ht : Try.prog.underlying t = some (.slice e)) (hi : Try.prog.info? e = some i) (hz : i.zero = some z)
    (hsize : i.size = 1) (hby : i.bytes = bytes) (hzs : z.cells.size = 1)
    (v : Value) (n : Nat) (vs : List Value) (hs : a.eval s = v) (hown : w.ownsRow base e 1 v n vs)
    (xa : Option Addr) (m c : Nat) (news : List Value) (hx : a.eval x = .slice xa m c) (hl : news.length = m) (hsrc : 0 < m → ∃ ad, xa = some ad ∧ ∀ j u, news[j]? = some u → w.cell? (ad.add j) = some u) (h1 : ∀ u ∈ news, u.oneCell' = true)
    (h63 : n + m ≤ maxLen) (hbytes : (n + m) * bytes ≤ 140737488355328) (hbase : base ≤ w.heap.size)
    (h : ∀ ao cap w', w'.ownsRow base e 1 (.slice ao (n + m) cap) (n + m) (vs ++ news) → n + m ≤ cap → Below base w w' → (∀ k, (Value.slice ao (n + m) cap).ownBlock = some k → (v.ownBlock = some k ∨ k = w.heap.size) ∧ k < w'.heap.size) → (∀ k, k < w.heap.size → v.ownBlock ≠ some k → w'.heap[k]? = w.heap[k]?) → w.heap.size ≤ w'.heap.size → K (a.put o.dst (.slice ao (n + m) cap)) w') :
    if Region.wanted o (yielded ops a.tmps) = true then Oper.wp Try.prog o a w K Q else E := by
  have hw : Region.wanted o (yielded ops a.tmps) = true := by simp [Region.wanted, hgd]
  rw [if_pos hw]
  by_cases hm : m = 0
  · subst hm
    have hn : news = [] := List.eq_nil_of_length_eq_zero hl
    subst hn
    have hr := run_append_zero w base t o.type e i 1 ht hi v n vs hown xa c
    obtain ⟨ao, cap, rfl, hc, hk⟩ := owns_shape hown
    unfold Oper.wp execOp
    simp only [ho, resolve, invoke, builtin, Sem.run_bind, Sem.run_pure, Result.andThen_ok, List.map_toArray, List.map_cons, List.map_nil, hs, hx, hr]
    refine h ao cap w (by simpa using hown) hc (Below.refl _ _) (fun k e => ⟨.inl e, (hk k e).2⟩) (fun _ _ _ => rfl) (Nat.le_refl _)
  · obtain ⟨ad, rfl, hn⟩ := hsrc (by omega)
    refine wp_append_lies w s x t ho base e i z 1 bytes ht hi hz hsize hby hzs (by decide) v n vs hs hown ad m c news hx (by omega) hn h1 (by omega) h63 hbytes hbase w.heap.size rfl ?_
    intro g cap w' o1 o2 o3 o4
    refine h (some ⟨g, 0, none⟩) cap w' o1 ?_ ?_ ?_ ?_ o2.size
    · obtain ⟨_, h | ⟨g', cap', cur, e', _, hh, hle, _⟩⟩ := o1
      · simp at h
      · simp only [Value.slice.injEq] at e'
        omega
    · exact (Below.refl _ _).grown o2 hbase (fun k hk => (hown.lt k hk).1)
    · intro k hk
      simp only [Value.ownBlock, Option.some.injEq] at hk
      subst hk
      exact ⟨o3, o4⟩
    · intro k hk hne
      exact o2.block k hk (fun q => hne q.symm)

/-- An append to a row of the call's own, out of whatever source (nothing among them). -/
theorem wpList_append_u {ops : Array Oper} {rest : List Oper} {o : Oper} {a : Act} {w : World} {Q : Exit → Act → World → Prop} (hgd : o.guard = none) (s x : Operand) (t : TypeId)
    (ho : o.op = .call { callee := .builtin .append, args := #[s, x], argTypes := #[t, t] })
    (base : Nat) (e : TypeId) (i : TypeInfo) (z : Value) (bytes : Nat) (ht : Try.prog.underlying t = some (.slice e)) (hi : Try.prog.info? e = some i) (hz : i.zero = some z)
    (hsize : i.size = 1) (hby : i.bytes = bytes) (hzs : z.cells.size = 1)
    (v : Value) (n : Nat) (vs : List Value) (hs : a.eval s = v) (hown : w.ownsRow base e 1 v n vs)
    (xa : Option Addr) (m c : Nat) (news : List Value) (hx : a.eval x = .slice xa m c) (hl : news.length = m) (hsrc : 0 < m → ∃ ad, xa = some ad ∧ ∀ j u, news[j]? = some u → w.cell? (ad.add j) = some u) (h1 : ∀ u ∈ news, u.oneCell' = true)
    (h63 : n + m ≤ maxLen) (hbytes : (n + m) * bytes ≤ 140737488355328) (hbase : base ≤ w.heap.size)
    (h : ∀ ao cap w', w'.ownsRow base e 1 (.slice ao (n + m) cap) (n + m) (vs ++ news) → n + m ≤ cap → Below base w w' → wpList Try.prog ops Q rest (a.put o.dst (.slice ao (n + m) cap)) w') : wpList Try.prog ops Q (o :: rest) a w :=
  wpList_plain hgd fun K hK => by
    have hw : Region.wanted o (yielded ops a.tmps) = true := by simp [Region.wanted, hgd]
    have := step_append_u (ops := ops) (o := o) (a := a) (w := w) (K := K) (Q := Q) (E := True) hgd s x t ho base e i z bytes ht hi hz hsize hby hzs v n vs hs hown xa m c news hx hl hsrc h1 h63 hbytes hbase (fun ao cap w' h1 h2 h3 _ _ _ => hK _ _ (h ao cap w' h1 h2 h3))
    rw [if_pos hw] at this
    exact this

theorem owns_alloc {w : World} {base e n : Nat} {v : Value} {vs : List Value} (h : w.ownsRow base e 1 v n vs) (o : Obj) : (w.alloc o).ownsRow base e 1 v n vs := h.alloc o
/-- Two rows that lie in blocks of their own. -/
def Apart (u v : Value) : Prop := ∀ k, u.ownBlock = some k → v.ownBlock ≠ some k
theorem Apart.symm {u v : Value} (h : Apart u v) : Apart v u := fun k hk hu => h k hu hk
theorem apart_nil (v : Value) : Apart v (.slice none 0 0) := fun k _ h => by cases h
/-- A row stays where another one grows. -/
theorem owns_other {w w' : World} {base e n : Nat} {v u : Value} {vs : List Value} (h : w.ownsRow base e 1 v n vs) (hkeep : ∀ k, k < w.heap.size → u.ownBlock ≠ some k → w'.heap[k]? = w.heap[k]?) (ha : Apart v u) : w'.ownsRow base e 1 v n vs := by
  have hl := h.lt
  obtain ⟨h1, h2 | ⟨g, cap, cur, e1, e2, hh, r⟩⟩ := h
  · exact ⟨h1, .inl h2⟩
  · subst e1
    exact ⟨h1, .inr ⟨g, cap, cur, rfl, e2, (hkeep g (hl g rfl).2 (ha g rfl)).trans hh, r⟩⟩
theorem apart_new {w w' : World} {base e n : Nat} {v u u' : Value} {vs : List Value} (h : w.ownsRow base e 1 v n vs) (hn : ∀ k, u'.ownBlock = some k → (u.ownBlock = some k ∨ k = w.heap.size) ∧ k < w'.heap.size) (ha : Apart v u) : Apart v u' := by
  intro k hk hu
  rcases (hn k hu).1 with c | c
  · exact ha k hk c
  · have := (h.lt k hk).2
    omega
/-- As wpList_append_u, and it tells what stays. -/
theorem wpList_append_x {ops : Array Oper} {rest : List Oper} {o : Oper} {a : Act} {w : World} {Q : Exit → Act → World → Prop} (hgd : o.guard = none) (s x : Operand) (t : TypeId)
    (ho : o.op = .call { callee := .builtin .append, args := #[s, x], argTypes := #[t, t] })
    (base : Nat) (e : TypeId) (i : TypeInfo) (z : Value) (bytes : Nat) (ht : Try.prog.underlying t = some (.slice e)) (hi : Try.prog.info? e = some i) (hz : i.zero = some z)
    (hsize : i.size = 1) (hby : i.bytes = bytes) (hzs : z.cells.size = 1)
    (v : Value) (n : Nat) (vs : List Value) (hs : a.eval s = v) (hown : w.ownsRow base e 1 v n vs)
    (xa : Option Addr) (m c : Nat) (news : List Value) (hx : a.eval x = .slice xa m c) (hl : news.length = m) (hsrc : 0 < m → ∃ ad, xa = some ad ∧ ∀ j u, news[j]? = some u → w.cell? (ad.add j) = some u) (h1 : ∀ u ∈ news, u.oneCell' = true)
    (h63 : n + m ≤ maxLen) (hbytes : (n + m) * bytes ≤ 140737488355328) (hbase : base ≤ w.heap.size)
    (h : ∀ ao cap w', w'.ownsRow base e 1 (.slice ao (n + m) cap) (n + m) (vs ++ news) → n + m ≤ cap → Below base w w' → (∀ k, (Value.slice ao (n + m) cap).ownBlock = some k → (v.ownBlock = some k ∨ k = w.heap.size) ∧ k < w'.heap.size) → (∀ k, k < w.heap.size → v.ownBlock ≠ some k → w'.heap[k]? = w.heap[k]?) → w.heap.size ≤ w'.heap.size → wpList Try.prog ops Q rest (a.put o.dst (.slice ao (n + m) cap)) w') : wpList Try.prog ops Q (o :: rest) a w :=
  wpList_plain hgd fun K hK => by
    have hw : Region.wanted o (yielded ops a.tmps) = true := by simp [Region.wanted, hgd]
    have := step_append_u (ops := ops) (o := o) (a := a) (w := w) (K := K) (Q := Q) (E := True) hgd s x t ho base e i z bytes ht hi hz hsize hby hzs v n vs hs hown xa m c news hx hl hsrc h1 h63 hbytes hbase (fun ao cap w' h1 h2 h3 h4 h5 h6 => hK _ _ (h ao cap w' h1 h2 h3 h4 h5 h6))
    rw [if_pos hw] at this
    exact this
end Ap
end Go.Proofs.Ytbpmbdgimolkcaa

namespace Go.Proofs.Ytbpmbdgimolkcaa
set_option linter.unusedVariables false
set_option linter.unusedSimpArgs false

namespace Ph
abbrev P := Int × Int
def mk (c : Nat) : P := if c % 4 = 0 then (1, 0) else if c % 4 = 1 then (0, 1) else if c % 4 = 2 then (-1, 0) else (0, -1)
def mul (a b : P) : P := (a.1 * b.1 - a.2 * b.2, a.1 * b.2 + a.2 * b.1)
def cj (a : P) : P := (a.1, -a.2)
def add (a b : P) : P := (a.1 + b.1, a.2 + b.2)
/-- The sum of the first n. -/
def su (f : Nat → P) : Nat → P
  | 0 => (0, 0)
  | n + 1 => add (su f n) (f n)
def sm (t : List Nat) (n : Nat) : P := su (fun i => mk (gt t i)) n
def ag (t p : List Nat) (j n : Nat) : P := su (fun k => mul (mk (gt t (j + k))) (cj (mk (gt p k)))) n
/-- One of the four. -/
def U (u : P) : Prop := u = (1, 0) ∨ u = (0, 1) ∨ u = (-1, 0) ∨ u = (0, -1)
theorem mk_U (c : Nat) : U (mk c) := by
  unfold mk U
  split
  · exact .inl rfl
  · split
    · exact .inr (.inl rfl)
    · split
      · exact .inr (.inr (.inl rfl))
      · exact .inr (.inr (.inr rfl))
theorem mul_U {a b : P} (ha : U a) (hb : U b) : U (mul a b) := by
  rcases ha with rfl | rfl | rfl | rfl <;> rcases hb with rfl | rfl | rfl | rfl <;> (unfold U mul; decide)
theorem cj_U {a : P} (ha : U a) : U (cj a) := by
  rcases ha with rfl | rfl | rfl | rfl <;> (unfold U cj; decide)
theorem su_congr {f g : Nat → P} : ∀ n, (∀ i, i < n → f i = g i) → su f n = su g n
  | 0, _ => rfl
  | n + 1, h => by rw [su, su, su_congr n (fun i hi => h i (by omega)), h n (by omega)]
/-- No greater than n. -/
def Bo (s : P) (n : Nat) : Prop := -(n : Int) ≤ s.1 ∧ s.1 ≤ n ∧ -(n : Int) ≤ s.2 ∧ s.2 ≤ n ∧ s.1 * s.1 + s.2 * s.2 ≤ (n : Int) * n
theorem su_bound {f : Nat → P} : ∀ n : Nat, (∀ i, i < n → U (f i)) → Bo (su f n) n
  | 0, _ => by unfold Bo su; simp
  | n + 1, h => by
    obtain ⟨h1, h2, h3, h4, h5⟩ := su_bound n fun i hi => h i (by omega)
    unfold Bo
    rw [su]
    unfold add
    generalize su f n = s at *
    obtain ⟨a, b⟩ := s
    simp only at h1 h2 h3 h4 h5 ⊢
    have e : ((n + 1 : Nat) : Int) * ((n + 1 : Nat) : Int) = (n : Int) * n + 2 * n + 1 := by
      simp only [Int.natCast_add, Int.natCast_one, Int.add_mul, Int.mul_add, Int.one_mul, Int.mul_one]
      omega
    rw [e]
    have sq : ∀ x y : Int, (x + y) * (x + y) = x * x + 2 * (x * y) + y * y := fun x y => by
      rw [Int.add_mul, Int.mul_add, Int.mul_add, Int.mul_comm y x]; omega
    rcases h n (by omega) with q | q | q | q <;> rw [q] <;> simp only [sq] <;> (refine ⟨by omega, by omega, by omega, by omega, ?_⟩) <;> simp only [Int.mul_zero, Int.mul_one, Int.mul_neg, Int.neg_mul, Int.neg_neg] <;> omega
/-- The sum is all of them just if each is 1. -/
theorem su_full {f : Nat → P} : ∀ n : Nat, (∀ i, i < n → U (f i)) → (su f n = ((n : Int), 0) ↔ ∀ i, i < n → f i = (1, 0))
  | 0, _ => ⟨fun _ i hi => absurd hi (Nat.not_lt_zero _), fun _ => rfl⟩
  | n + 1, h => by
    have ih := su_full n fun i hi => h i (by omega)
    obtain ⟨h1, h2, h3, h4, h5⟩ := su_bound n fun i hi => h i (by omega)
    constructor
    · intro hs
      rw [su] at hs
      unfold add at hs
      rw [Prod.mk.injEq] at hs
      obtain ⟨q1, q2⟩ := hs
      have hn := h n (by omega)
      have e1 : f n = (1, 0) := by
        rcases hn with q | q | q | q
        · exact q
        all_goals (rw [q] at q1; simp only at q1; omega)
      rw [e1] at q1 q2
      simp only at q1 q2
      have hs2 : su f n = ((n : Int), 0) := Prod.ext (by simp only; omega) (by simp only; omega)
      intro i hi
      by_cases c : i = n
      · rw [c]; exact e1
      · exact ih.1 hs2 i (by omega)
    · intro ha
      rw [su, ih.2 fun i hi => ha i (by omega), ha n (by omega)]
      unfold add
      exact Prod.ext (by simp only; omega) rfl
theorem mul_one_iff (a b : Nat) : mul (mk a) (cj (mk b)) = (1, 0) ↔ a % 4 = b % 4 := by
  unfold mk mul cj
  have ha : a % 4 < 4 := Nat.mod_lt _ (by decide)
  have hb : b % 4 < 4 := Nat.mod_lt _ (by decide)
  have ka : a % 4 = 0 ∨ a % 4 = 1 ∨ a % 4 = 2 ∨ a % 4 = 3 := by omega
  have kb : b % 4 = 0 ∨ b % 4 = 1 ∨ b % 4 = 2 ∨ b % 4 = 3 := by omega
  rcases ka with q | q | q | q <;> rcases kb with r | r | r | r <;> rw [q, r] <;> decide
def alike (t p : List Nat) (j : Nat) : Bool := (List.range p.length).all fun k => gt t (j + k) % 4 == gt p k % 4
theorem alike_iff {t p : List Nat} {j : Nat} : alike t p j = true ↔ ∀ k, k < p.length → gt t (j + k) % 4 = gt p k % 4 := by
  unfold alike
  rw [List.all_eq_true]
  exact ⟨fun h k hk => by have := h k (List.mem_range.2 hk); simpa using this, fun h k hk => by have := h k (List.mem_range.1 hk); simpa using this⟩
theorem ag_U (t p : List Nat) (j : Nat) : ∀ k : Nat, U (mul (mk (gt t (j + k))) (cj (mk (gt p k)))) := fun k => mul_U (mk_U _) (cj_U (mk_U _))
theorem ag_full (t p : List Nat) (j : Nat) : ag t p j p.length = ((p.length : Int), 0) ↔ alike t p j = true := by
  unfold ag
  rw [su_full _ fun k _ => ag_U t p j k, alike_iff]
  exact ⟨fun h k hk => (mul_one_iff _ _).1 (h k hk), fun h k hk => (mul_one_iff _ _).2 (h k hk)⟩
theorem ag_self (p : List Nat) : ag p p 0 p.length = ((p.length : Int), 0) := (ag_full p p 0).2 (alike_iff.2 fun k _ => by rw [Nat.zero_add])
theorem ag_bound (t p : List Nat) (j n : Nat) : Bo (ag t p j n) n := su_bound (f := fun k => mul (mk (gt t (j + k))) (cj (mk (gt p k)))) n fun k _ => ag_U t p j k
theorem sm_bound (t : List Nat) (n : Nat) : Bo (sm t n) n := su_bound (f := fun i => mk (gt t i)) n fun k _ => mk_U _
/-- How many places there are. -/
def pl (t p : List Nat) : Nat := t.length + 1 - p.length
def corr (t p : List Nat) : List P := (List.range (pl t p)).map fun j => ag t p j p.length
theorem corr_len (t p : List Nat) : (corr t p).length = pl t p := by unfold corr; simp
def fil (t p : List Nat) (n : Nat) : List Nat := (List.range n).filter (alike t p)
theorem fil_next (t p : List Nat) (n : Nat) : fil t p (n + 1) = if alike t p n = true then fil t p n ++ [n] else fil t p n := by
  unfold fil
  rw [List.range_succ, List.filter_append]
  by_cases h : alike t p n = true
  · rw [if_pos h]; simp [h]
  · rw [if_neg h]; simp [h]
/-- Turns. -/
theorem mul_one (z : P) : mul z (1, 0) = z := by unfold mul; exact Prod.ext (by simp) (by simp)
theorem mul_assoc (a b c : P) : mul (mul a b) c = mul a (mul b c) := by
  unfold mul
  refine Prod.ext ?_ ?_
  · simp only [Int.sub_mul, Int.mul_sub, Int.add_mul, Int.mul_add, Int.mul_assoc]; omega
  · simp only [Int.sub_mul, Int.mul_sub, Int.add_mul, Int.mul_add, Int.mul_assoc]; omega
theorem turn_next (c : Nat) (z : P) : mul z (mk (c + 4)) = mul z (mk c) := by unfold mk; rw [show (c + 4) % 4 = c % 4 by omega]
theorem turn_three (z : P) : mul (mul z (mk 1)) (mk 3) = z := by
  rw [mul_assoc]
  exact mul_one z
theorem mul_add (a b c : P) : mul (add a b) c = add (mul a c) (mul b c) := by
  unfold mul add
  refine Prod.ext ?_ ?_
  · simp only [Int.add_mul]; omega
  · simp only [Int.add_mul]; omega
theorem mk_next (c : Nat) (hc : c < 256) : mk ((c + 1) % 256) = mul (mk c) (mk 1) := by
  have ha : c % 4 = 0 ∨ c % 4 = 1 ∨ c % 4 = 2 ∨ c % 4 = 3 := by omega
  have hb : ((c + 1) % 256) % 4 = (c % 4 + 1) % 4 := by omega
  unfold mk
  rw [hb]
  rcases ha with q | q | q | q <;> rw [q] <;> decide
theorem su_turn {f g : Nat → P} {u : P} : ∀ n, (∀ i, i < n → g i = mul (f i) u) → su g n = mul (su f n) u
  | 0, _ => by unfold su mul; exact Prod.ext (by simp) (by simp)
  | n + 1, h => by rw [su, su, mul_add, su_turn n (fun i hi => h i (by omega)), h n (by omega)]
end Ph
end Go.Proofs.Ytbpmbdgimolkcaa

namespace Go.Proofs.Ytbpmbdgimolkcaa
set_option linter.unusedVariables false
set_option linter.unusedSimpArgs false

open Fp
/-- Two words that stand for a pair. -/
def Fz (a b : Nat) (z : Ph.P) : Prop := Fl a z.1 ∧ Fl b z.2
theorem fl_ex {op : BinOp} {x y : Nat} {n : Int} (h : ∃ r, floatBits op .f64 x y = some r ∧ Fl r n) : ∃ r, floatBits op .f64 x y = some r ∧ Fl r n := h
theorem cadd {a b c d : Nat} {z u : Ph.P} (hz : Fz a b z) (hu : Fz c d u) (h1 : -9007199254740992 < z.1 + u.1) (h2 : z.1 + u.1 < 9007199254740992) (h3 : -9007199254740992 < z.2 + u.2) (h4 : z.2 + u.2 < 9007199254740992) :
    ∃ re im, (∀ t w, (binOp .add t (.complex .f64 a b) (.complex .f64 c d)).run Try.prog w = .ok (.complex .f64 re im) w) ∧ Fz re im (Ph.add z u) := by
  obtain ⟨re, e1, f1⟩ := fl_add hz.1 hu.1 h1 h2
  obtain ⟨im, e2, f2⟩ := fl_add hz.2 hu.2 h3 h4
  refine ⟨re, im, fun t w => run_complex_sum w .add (.inl rfl) t .f64 a b c d re im ?_, f1, f2⟩
  unfold cSumBits
  rw [e1, e2]
  rfl
theorem cmul {a b c d : Nat} {z u : Ph.P} (hz : Fz a b z) (hu : Fz c d u) (hU : Ph.U u) (h1 : -1000000000 ≤ z.1) (h2 : z.1 ≤ 1000000000) (h3 : -1000000000 ≤ z.2) (h4 : z.2 ≤ 1000000000) :
    ∃ re im, (∀ t w, (binOp .mul t (.complex .f64 a b) (.complex .f64 c d)).run Try.prog w = .ok (.complex .f64 re im) w) ∧ Fz re im (Ph.mul z u) := by
  have key : ∀ x : Int, -1000000000 ≤ x → x ≤ 1000000000 → (-1000000000 ≤ x * u.1 ∧ x * u.1 ≤ 1000000000) ∧ (-1000000000 ≤ x * u.2 ∧ x * u.2 ≤ 1000000000) := fun x q1 q2 => by
    rcases hU with rfl | rfl | rfl | rfl <;> simp only [Int.mul_zero, Int.mul_one, Int.mul_neg] <;> omega
  obtain ⟨⟨p1, p2⟩, p3, p4⟩ := key z.1 h1 h2
  obtain ⟨⟨q1, q2⟩, q3, q4⟩ := key z.2 h3 h4
  obtain ⟨ac, e1, f1⟩ := fl_mul hz.1 hu.1 (by omega) (by omega)
  obtain ⟨bd, e2, f2⟩ := fl_mul hz.2 hu.2 (by omega) (by omega)
  obtain ⟨re, e3, f3⟩ := fl_sub f1 f2 (by omega) (by omega)
  obtain ⟨ad, e4, f4⟩ := fl_mul hz.1 hu.2 (by omega) (by omega)
  obtain ⟨bc, e5, f5⟩ := fl_mul hz.2 hu.1 (by omega) (by omega)
  obtain ⟨im, e6, f6⟩ := fl_add f4 f5 (by omega) (by omega)
  refine ⟨re, im, fun t w => run_complex_mul w t a b c d re im ?_, f3, f6⟩
  unfold cMulBits
  simp only [e1, e2, e3, e4, e5, e6, Option.bind_some]
theorem ceq {a b c d : Nat} {z u : Ph.P} (hz : Fz a b z) (hu : Fz c d u) : (FloatKind.f64.format.order a c == some .eq) = decide (z.1 = u.1) ∧ (FloatKind.f64.format.order b d == some .eq) = decide (z.2 = u.2) := ⟨fl_eq hz.1 hu.1, fl_eq hz.2 hu.2⟩
theorem read_neg (b : Nat) {s : Bool} {m : Nat} {e : Int} (h : Ieee.double.read b = .number s m e) : Ieee.double.read (b ^^^ 9223372036854775808) = .number (!s) m e := by
  have ew : Ieee.double.signWeight = 9223372036854775808 := by decide +kernel
  have e1 : (b ^^^ 9223372036854775808) % 9223372036854775808 = b % 9223372036854775808 := by
    have := Nat.xor_mod_two_pow (a := b) (b := 9223372036854775808) (n := 63)
    rw [show (2 : Nat) ^ 63 = 9223372036854775808 by decide] at this
    rw [this]
    simp
  have e2 : ((b ^^^ 9223372036854775808) / 9223372036854775808 % 2 == 1) = !(b / 9223372036854775808 % 2 == 1) := by
    have := Nat.xor_div_two_pow (a := b) (b := 9223372036854775808) (n := 63)
    rw [show (2 : Nat) ^ 63 = 9223372036854775808 by decide] at this
    rw [this]
    generalize b / 9223372036854775808 = q
    have h2 := Nat.xor_mod_two_pow (a := q) (b := 1) (n := 1)
    simp only [Nat.pow_one] at h2
    rw [show (9223372036854775808 : Nat) / 9223372036854775808 = 1 by decide, h2]
    have : q % 2 = 0 ∨ q % 2 = 1 := by omega
    rcases this with r | r <;> rw [r] <;> decide
  unfold Ieee.Format.read at h ⊢
  rw [ew] at h ⊢
  simp only [] at h ⊢
  rw [e1, e2]
  split at h
  · injection h with h1 h2 h3
    subst h1 h2 h3
    rename_i c
    rw [if_pos c]
  · split at h
    · injection h with h1 h2 h3
      subst h1 h2 h3
      rename_i c c2
      rw [if_neg c, if_pos c2]
    · split at h <;> cases h
theorem fl_neg {b : Nat} {n : Int} (h : Fl b n) : Fl (Op.negFloat .f64 b) (-n) := by
  obtain ⟨s, m, e, h1, h2, h3⟩ := h
  have := read_neg b h1
  refine ⟨!s, m, e, this, h2, ?_⟩
  rw [Int.neg_mul, ← h3, ← Int.neg_mul]
  congr 1
  unfold sv
  cases s <;> simp
theorem fl0 : Fl 0 0 := ⟨false, 0, -1074, by decide +kernel, by decide, by rw [show sv false 0 = 0 from rfl, Int.zero_mul, Int.zero_mul]⟩
theorem fl_c {b : Nat} {n : Int} {s : Bool} {m : Nat} {e : Int} (h : Ieee.double.read b = .number s m e) (he : -1100 ≤ e) (hv : sv s m * 2 ^ e.toNat = n * 2 ^ (-e).toNat) : Fl b n := by
  unfold Fl
  rw [h]
  exact Va.mk (by decide) (by omega) hv
theorem fl1 : Fl 4607182418800017408 1 := fl_c (s := false) (m := 4503599627370496) (e := -52) (by decide +kernel) (by decide) (by decide)
theorem fl2 : Fl 4611686018427387904 2 := fl_c (s := false) (m := 4503599627370496) (e := -51) (by decide +kernel) (by decide) (by decide)
theorem flm1 : Fl 13830554455654793216 (-1) := fl_c (s := true) (m := 4503599627370496) (e := -52) (by decide +kernel) (by decide) (by decide)
end Go.Proofs.Ytbpmbdgimolkcaa

namespace Go.Proofs.Ytbpmbdgimolkcaa
set_option linter.unusedVariables false
set_option linter.unusedSimpArgs false

namespace Su
/-- The places from p on, their ends in order. -/
def Op (t : List Nat) (p : Nat) (l : List Nat) : Prop := So t l ∧ l.Nodup ∧ l.length = t.length + 1 - p ∧ ∀ x, x ∈ l ↔ p ≤ x ∧ x ≤ t.length
theorem op_end (t : List Nat) : Op t t.length [t.length] := ⟨List.pairwise_singleton _ _, by simp, by simp, fun x => by simp; omega⟩
theorem Op.ins {t l : List Nat} {i p : Nat} (h : Op t (i + 1) l) (hi : i < t.length) (hp : p ≤ l.length) (h1 : ∀ j, j < p → ah t (gt l j) i = true) (h2 : ∀ j, p ≤ j → j < l.length → ah t (gt l j) i = false) : Op t i (l.take p ++ i :: l.drop p) := by
  obtain ⟨a, b, c, d⟩ := h
  have hmem : ∀ j, j < l.length → i + 1 ≤ gt l j ∧ gt l j ≤ t.length := fun j hj => (d _).1 (List.mem_of_getElem? (gt_get l j hj))
  refine ⟨so_ins a hp (fun j hj x hx => ?_) (fun j hj x hx => ?_), ?_, ?_, fun x => ?_⟩
  · have hl : j < l.length := by omega
    rw [gt_get l j hl] at hx
    injection hx with hx
    rw [← hx]
    exact h1 j hj
  · have hl := (List.getElem?_eq_some_iff.1 hx).1
    have e := gt_get l j hl
    rw [e] at hx
    injection hx with hx
    rw [← hx]
    have hm := hmem j hl
    rcases ah_tri (t := t) (i := i) (j := gt l j) (by omega) hm.2 (by omega) with q | q
    · exact q
    · rw [h2 j hj hl] at q; cases q
  · rw [perm_ins.nodup_iff]
    exact List.nodup_cons.2 ⟨fun q => by have := (d i).1 q; omega, b⟩
  · rw [perm_ins.length_eq, List.length_cons, c]; omega
  · rw [perm_ins.mem_iff, List.mem_cons, d]; omega
/-- The order of all ends. -/
def Ord (t l : List Nat) : Prop := So t l ∧ l.Perm (List.range (t.length + 1))
theorem Op.ord {t l : List Nat} (h : Op t 0 l) : Ord t l := ⟨h.1, (List.perm_ext_iff_of_nodup h.2.1 List.nodup_range).2 fun a => by rw [h.2.2.2 a, List.mem_range]; omega⟩
theorem Ord.one {t l m : List Nat} (h : Ord t l) (k : Ord t m) : l = m := so_one h.1 k.1 (h.2.trans k.2.symm)
theorem op_next {t l : List Nat} {i : Nat} (h : Op t (i + 1) l) (hi : i < t.length) : ∃ m, Op t i m := by
  have key : ∀ n, n ≤ l.length → ∃ p, p ≤ n ∧ (∀ j, j < p → ah t (gt l j) i = true) ∧ (∀ j, p ≤ j → j < n → ah t (gt l j) i = false) := by
    intro n
    induction n with
    | zero => intro _; exact ⟨0, Nat.le_refl _, fun j hj => absurd hj (by omega), fun j _ hj => absurd hj (by omega)⟩
    | succ n ih =>
      intro hn
      obtain ⟨p, h1, h2, h3⟩ := ih (by omega)
      cases c : ah t (gt l n) i with
      | false => exact ⟨p, by omega, h2, fun j hj hj2 => by
          by_cases e : j = n
          · rw [e]; exact c
          · exact h3 j hj (by omega)⟩
      | true =>
        refine ⟨n + 1, Nat.le_refl _, fun j hj => ?_, fun j h4 h5 => absurd h5 (by omega)⟩
        exact so_cut h.1 (i := j) (j := n) (by omega) (gt_get l j (by omega)) (gt_get l n (by omega)) i c
  obtain ⟨p, h1, h2, h3⟩ := key l.length (Nat.le_refl _)
  exact ⟨_, h.ins hi h1 h2 h3⟩
theorem op_all (t : List Nat) : ∀ d, d ≤ t.length → ∃ l, Op t (t.length - d) l
  | 0, _ => ⟨_, op_end t⟩
  | d + 1, h => by
    obtain ⟨l, hl⟩ := op_all t d (by omega)
    rw [show t.length - d = (t.length - (d + 1)) + 1 by omega] at hl
    exact op_next hl (by omega)
theorem ord_ex (t : List Nat) : ∃ l, Ord t l := by
  obtain ⟨l, hl⟩ := op_all t t.length (Nat.le_refl _)
  rw [Nat.sub_self] at hl
  exact ⟨l, hl.ord⟩
/-- The order of a text's ends. -/
noncomputable def sa (t : List Nat) : List Nat := Classical.choose (ord_ex t)
theorem ord_sa (t : List Nat) : Ord t (sa t) := Classical.choose_spec (ord_ex t)
theorem Ord.eq {t l : List Nat} (h : Ord t l) : l = sa t := h.one (ord_sa t)
theorem length_sa (t : List Nat) : (sa t).length = t.length + 1 := by rw [(ord_sa t).2.length_eq, List.length_range]
theorem sa_le (t : List Nat) (i : Nat) : gt (sa t) i ≤ t.length := by
  by_cases c : i < (sa t).length
  · have := (ord_sa t).2.mem_iff.1 (List.mem_of_getElem? (gt_get _ i c))
    have := List.mem_range.1 this
    omega
  · rw [gt_out _ _ (by omega)]; omega
end Su

/-- Bytes as a string. -/
def nums (t : List Nat) : List Int := t.map fun (y : Nat) => (y : Int)
theorem str_list (t : List Nat) : (strOfNums (nums t)).toList = t.map fun y => UInt8.ofNat y := by
  rw [ByteArray.toList_eq, strOfNums_data]
  unfold nums
  rw [List.map_map]
  rfl
theorem u8_lt {a b : Nat} (ha : a < 256) (hb : b < 256) : (UInt8.ofNat a < UInt8.ofNat b) = (a < b) := by
  rw [UInt8.lt_iff_toNat_lt, UInt8.toNat_ofNat', UInt8.toNat_ofNat', Nat.mod_eq_of_lt (by omega), Nat.mod_eq_of_lt (by omega)]
theorem u8_eq {a b : Nat} (ha : a < 256) (hb : b < 256) : (UInt8.ofNat a = UInt8.ofNat b) = (a = b) := by
  rw [← UInt8.toNat_inj, UInt8.toNat_ofNat', UInt8.toNat_ofNat', Nat.mod_eq_of_lt (by omega), Nat.mod_eq_of_lt (by omega)]
theorem str_less : ∀ (x y : List Nat), Bytes x → Bytes y → Op.bytesLess (x.map fun y => UInt8.ofNat y) (y.map fun y => UInt8.ofNat y) = Su.lt x y
  | [], [], _, _ => rfl
  | [], _ :: _, _, _ => rfl
  | _ :: _, [], _, _ => rfl
  | a :: x, b :: y, hx, hy => by
    have ha := hx a (List.mem_cons_self ..)
    have hb := hy b (List.mem_cons_self ..)
    have ih := str_less x y (fun z hz => hx z (List.mem_cons_of_mem _ hz)) (fun z hz => hy z (List.mem_cons_of_mem _ hz))
    show (decide (UInt8.ofNat a < UInt8.ofNat b) || ((UInt8.ofNat a == UInt8.ofNat b) && _)) = _
    rw [ih, Su.lt]
    congr 1
    · simp only [u8_lt ha hb]
    · congr 1
      show decide (UInt8.ofNat a = UInt8.ofNat b) = _
      simp only [u8_eq ha hb]
theorem less_str (x y : List Nat) (hx : Bytes x) (hy : Bytes y) : Op.bytesLess (strOfNums (nums x)).toList (strOfNums (nums y)).toList = Su.lt x y := by
  rw [str_list, str_list, str_less x y hx hy]
theorem str_inj : ∀ (x y : List Nat), Bytes x → Bytes y → ((x.map fun y => UInt8.ofNat y) = (y.map fun y => UInt8.ofNat y) ↔ x = y)
  | [], [], _, _ => by simp
  | [], _ :: _, _, _ => by simp
  | _ :: _, [], _, _ => by simp
  | a :: x, b :: y, hx, hy => by
    have ih := str_inj x y (fun z hz => hx z (List.mem_cons_of_mem _ hz)) (fun z hz => hy z (List.mem_cons_of_mem _ hz))
    rw [List.map_cons, List.map_cons, List.cons.injEq, List.cons.injEq, ih, u8_eq (hx a (List.mem_cons_self ..)) (hy b (List.mem_cons_self ..))]
theorem eq_str (x y : List Nat) (hx : Bytes x) (hy : Bytes y) : ((strOfNums (nums x)).toList == (strOfNums (nums y)).toList) = decide (x = y) := by
  rw [str_list, str_list, Bool.eq_iff_iff, beq_iff_eq, decide_eq_true_iff, str_inj x y hx hy]
theorem Bytes.drop {t : List Nat} (h : Bytes t) (i : Nat) : Bytes (t.drop i) := fun x hx => h x (List.mem_of_mem_drop hx)
theorem Bytes.take {t : List Nat} (h : Bytes t) (i : Nat) : Bytes (t.take i) := fun x hx => h x (List.mem_of_mem_take hx)
theorem gt_drop (t : List Nat) (i j : Nat) : gt (t.drop i) j = gt t (i + j) := by
  unfold gt
  rw [List.getD_eq_getElem?_getD, List.getD_eq_getElem?_getD, List.getElem?_drop]
theorem conv {w : World} {ao : Option Addr} {t : List Nat} (cap : Nat) (h : Bd w ao t) : (convert 22 9 (.slice ao t.length cap)).run Try.prog w = .ok (.string (strOfNums (nums t))) w := by
  by_cases h0 : 0 < t.length
  · obtain ⟨b, off, rfl, _, hc⟩ := h h0
    refine run_convert_bytes_arg w 22 5 Try.underlying22 Try.underlying5 b off t.length cap (nums t) (by simp [nums]) (fun i hi => ?_) 9 Try.underlying9
    rw [hc i hi]
    have : (nums t).getD i 0 = ((gt t i : Nat) : Int) := by
      unfold nums gt
      rw [List.getD_eq_getElem?_getD, List.getD_eq_getElem?_getD, List.getElem?_map, List.getElem?_eq_getElem hi]
      rfl
    rw [this]
  · obtain rfl : t = [] := List.eq_nil_of_length_eq_zero (by omega)
    cases ao with
    | none => exact run_convert_bytes_nil w 22 5 Try.underlying22 Try.underlying5 0 cap 9 Try.underlying9
    | some a => exact run_convert_bytes_back w 22 9 5 a cap [] Try.underlying22 Try.underlying5 Try.underlying9 (fun j hj => absurd hj (by simp))
end Go.Proofs.Ytbpmbdgimolkcaa

namespace Go.Proofs.Ytbpmbdgimolkcaa.Su
set_option linter.unusedVariables false

/-- The first w signs of the end at i. -/
def bg (t : List Nat) (w i : Nat) : List Nat := (t.drop i).take w
/-- Names tell the order of beginnings of w signs. -/
def Nm (t : List Nat) (w : Nat) (f : Nat → Nat) : Prop := ∀ i j, i ≤ t.length → j ≤ t.length → (f i < f j ↔ lt (bg t w i) (bg t w j) = true)
theorem Nm.eq {t : List Nat} {w : Nat} {f : Nat → Nat} (h : Nm t w f) {i j : Nat} (hi : i ≤ t.length) (hj : j ≤ t.length) : f i = f j ↔ bg t w i = bg t w j := by
  constructor
  · intro e
    refine lt_tri _ _ (Bool.eq_false_iff.2 fun q => ?_) (Bool.eq_false_iff.2 fun q => ?_)
    · have := (h i j hi hj).2 q; omega
    · have := (h j i hj hi).2 q; omega
  · intro e
    have h1 : ¬ f i < f j := fun q => by
      have := (h i j hi hj).1 q
      rw [e, lt_irr] at this
      cases this
    have h2 : ¬ f j < f i := fun q => by
      have := (h j i hj hi).1 q
      rw [e, lt_irr] at this
      cases this
    omega
theorem bg_add (t : List Nat) (w i : Nat) : ((t.drop i).drop w) = t.drop (min (i + w) t.length) := by
  rw [List.drop_drop]
  by_cases h : i + w ≤ t.length
  · rw [Nat.min_eq_left h]
  · rw [Nat.min_eq_right (by omega), List.drop_length, List.drop_eq_nil_of_le (by omega)]
/-- Beginnings twice as long go by pairs of names. -/
theorem lt_twice {t : List Nat} {w : Nat} {f : Nat → Nat} (h : Nm t w f) {i j : Nat} (hi : i ≤ t.length) (hj : j ≤ t.length) : lt (bg t (w + w) i) (bg t (w + w) j) = true ↔ f i < f j ∨ f i = f j ∧ f (min (i + w) t.length) < f (min (j + w) t.length) := by
  unfold bg
  rw [lt_take, bg_add, bg_add, Bool.or_eq_true, Bool.and_eq_true, decide_eq_true_eq]
  have e := h.eq hi hj
  have l1 := h i j hi hj
  have l2 := h (min (i + w) t.length) (min (j + w) t.length) (Nat.min_le_right _ _) (Nat.min_le_right _ _)
  unfold bg at e l1 l2
  rw [← l1, ← e, ← l2]
theorem eq_twice {t : List Nat} {w : Nat} {f : Nat → Nat} (h : Nm t w f) {i j : Nat} (hi : i ≤ t.length) (hj : j ≤ t.length) : bg t (w + w) i = bg t (w + w) j ↔ f i = f j ∧ f (min (i + w) t.length) = f (min (j + w) t.length) := by
  unfold bg
  rw [eq_take, bg_add, bg_add]
  have e := h.eq hi hj
  have e2 := h.eq (i := min (i + w) t.length) (j := min (j + w) t.length) (Nat.min_le_right _ _) (Nat.min_le_right _ _)
  unfold bg at e e2
  rw [← e, ← e2]
/-- Names that go by the pairs are names of beginnings twice as long. -/
theorem Nm.twice {t : List Nat} {w : Nat} {f g : Nat → Nat} (h : Nm t w f) (hg : ∀ i j, i ≤ t.length → j ≤ t.length → (g i < g j ↔ f i < f j ∨ f i = f j ∧ f (min (i + w) t.length) < f (min (j + w) t.length))) : Nm t (w + w) g := fun i j hi hj => (hg i j hi hj).trans (lt_twice h hi hj).symm
theorem lt_apart (w : Nat) (x y : List Nat) (h : x.take w ≠ y.take w) : lt x y = lt (x.take w) (y.take w) := by
  have e := lt_take w (x.length + y.length) x y
  rw [List.take_of_length_le (by omega), List.take_of_length_le (by omega), decide_eq_false h] at e
  simpa using e
/-- If no two names are the same, they tell the order of the ends. -/
theorem Nm.all {t : List Nat} {w : Nat} {f : Nat → Nat} (h : Nm t w f) (hf : ∀ i j, i ≤ t.length → j ≤ t.length → f i = f j → i = j) {i j : Nat} (hi : i ≤ t.length) (hj : j ≤ t.length) : f i < f j ↔ ah t i j = true := by
  by_cases e : i = j
  · subst e
    rw [ah_irr]
    simp
  · have q := lt_apart w (t.drop i) (t.drop j) fun q => e (hf i j hi hj ((h.eq hi hj).2 q))
    rw [h i j hi hj]
    unfold ah
    rw [q]
    exact Iff.rfl
/-- Long enough, all beginnings are the ends. -/
theorem Nm.long {t : List Nat} {w : Nat} {f : Nat → Nat} (h : Nm t w f) (hw : t.length ≤ w) : ∀ i j, i ≤ t.length → j ≤ t.length → f i = f j → i = j := fun i j hi hj e => by
  have := (h.eq hi hj).1 e
  unfold bg at this
  rw [List.take_of_length_le (by rw [List.length_drop]; omega), List.take_of_length_le (by rw [List.length_drop]; omega)] at this
  exact drop_inj hi hj this
/-- Beginnings of one sign: the sign, and nothing behind the text. -/
theorem nm_one {t : List Nat} {f : Nat → Nat} (h0 : f t.length = 0) (h : ∀ i, (hi : i < t.length) → f i = t[i] + 1) : Nm t 1 f := fun i j hi hj => by
  have b : ∀ k, (hk : k < t.length) → bg t 1 k = [t[k]] := fun k hk => by
    unfold bg
    rw [List.drop_eq_getElem_cons hk]
    rfl
  have e : bg t 1 t.length = [] := by unfold bg; rw [List.drop_length]; rfl
  by_cases h1 : i < t.length
  · by_cases h2 : j < t.length
    · rw [b i h1, b j h2, h i h1, h j h2]
      simp [lt]
    · obtain rfl : j = t.length := by omega
      rw [e, lt_nil, h0]
      simp
  · obtain rfl : i = t.length := by omega
    by_cases h2 : j < t.length
    · rw [b j h2, e, h0, h j h2]
      simp [lt]
    · obtain rfl : j = t.length := by omega
      rw [lt_irr]
      simp
/-- Each of 0 to its length less one once. -/
def Pm (l : List Nat) : Prop := l.Perm (List.range l.length)
theorem pig : ∀ (n : Nat) (l : List Nat), l.Nodup → (∀ x ∈ l, x < n) → l.length ≤ n
  | 0, l, _, h => by
    cases l with
    | nil => exact Nat.le_refl _
    | cons a l => exact absurd (h a (List.mem_cons_self ..)) (Nat.not_lt_zero _)
  | n + 1, l, hn, h => by
    by_cases hm : n ∈ l
    · have h1 := pig n (l.erase n) (hn.erase n) fun x hx => by
        obtain ⟨h2, h3⟩ := (hn.mem_erase_iff).1 hx
        have := h x h3
        omega
      rw [List.length_erase_of_mem hm] at h1
      omega
    · have := pig n l hn fun x hx => by
        have := h x hx
        have : x ≠ n := fun e => hm (e ▸ hx)
        omega
      omega
theorem pm_of {l : List Nat} (hn : l.Nodup) (hl : ∀ x ∈ l, x < l.length) : Pm l := by
  refine (List.perm_ext_iff_of_nodup hn List.nodup_range).2 fun a => ⟨fun h => List.mem_range.2 (hl a h), fun h => ?_⟩
  have ha := List.mem_range.1 h
  by_cases hm : a ∈ l
  · exact hm
  · have := pig l.length (a :: l) (List.nodup_cons.2 ⟨hm, hn⟩) fun x hx => by
      rcases List.mem_cons.1 hx with rfl | hx
      · exact ha
      · exact hl x hx
    rw [List.length_cons] at this
    omega
theorem Pm.lt {l : List Nat} (h : Pm l) {x : Nat} (hx : x ∈ l) : x < l.length := List.mem_range.1 (h.mem_iff.1 hx)
theorem Pm.nodup {l : List Nat} (h : Pm l) : l.Nodup := h.nodup_iff.2 List.nodup_range
theorem Pm.mem {l : List Nat} (h : Pm l) {x : Nat} (hx : x < l.length) : x ∈ l := h.mem_iff.2 (List.mem_range.2 hx)
/-- Of each number its place. -/
def inv (l : List Nat) : List Nat := (List.range l.length).map fun x => l.idxOf x
theorem length_inv (l : List Nat) : (inv l).length = l.length := by simp [inv]
theorem get_inv (l : List Nat) {x : Nat} (hx : x < l.length) : (inv l)[x]? = some (l.idxOf x) := by
  unfold inv
  rw [List.getElem?_map, List.getElem?_range hx]
  rfl
theorem Pm.inv_at {l : List Nat} (h : Pm l) {i x : Nat} (hx : l[i]? = some x) : (inv l)[x]? = some i := by
  obtain ⟨hi, e⟩ := List.getElem?_eq_some_iff.1 hx
  have hm : x ∈ l := List.mem_of_getElem? hx
  rw [get_inv l (h.lt hm)]
  have h1 : l.idxOf x < l.length := List.idxOf_lt_length_of_mem hm
  have h2 : l[l.idxOf x] = x := List.getElem_idxOf h1
  have : l.idxOf x = i := (List.getElem_inj h.nodup).1 (h2.trans e.symm)
  rw [this]
theorem Pm.inv {l : List Nat} (h : Pm l) : Pm (Su.inv l) := by
  refine pm_of ?_ fun x hx => ?_
  · refine List.pairwise_iff_getElem.2 fun i j hi hj hij e0 => ?_
    have e1 := List.getElem?_eq_getElem hi
    have e2 := List.getElem?_eq_getElem hj
    rw [length_inv] at hi hj
    rw [get_inv l hi] at e1
    rw [get_inv l hj] at e2
    rw [e0, ← e2] at e1
    injection e1 with e
    clear e2 e0
    have h1 : l.idxOf i < l.length := List.idxOf_lt_length_of_mem (h.mem (by omega))
    have h2 : l.idxOf j < l.length := List.idxOf_lt_length_of_mem (h.mem hj)
    have e1 : l[l.idxOf i] = i := List.getElem_idxOf h1
    have e2 : l[l.idxOf j] = j := List.getElem_idxOf h2
    have : l[l.idxOf i]? = l[l.idxOf j]? := by rw [e]
    rw [List.getElem?_eq_getElem h1, List.getElem?_eq_getElem h2, e1, e2] at this
    injection this with this
    omega
  · unfold Su.inv at hx
    obtain ⟨y, hy, rfl⟩ := List.mem_map.1 hx
    rw [length_inv]
    exact List.idxOf_lt_length_of_mem (h.mem (List.mem_range.1 hy))
theorem Pm.back {l : List Nat} (h : Pm l) : Su.inv (Su.inv l) = l := by
  refine List.ext_getElem? fun x => ?_
  by_cases hx : x < l.length
  · have e := h.inv_at (List.getElem?_eq_getElem hx)
    rw [h.inv.inv_at e, List.getElem?_eq_getElem hx]
  · rw [List.getElem?_eq_none (by rw [length_inv, length_inv]; omega), List.getElem?_eq_none (by omega)]
end Go.Proofs.Ytbpmbdgimolkcaa.Su

namespace Go.Proofs.Ytbpmbdgimolkcaa
open Go.RowKit
set_option linter.unusedVariables false
set_option linter.unusedSimpArgs false
set_option maxRecDepth 100000

/-- Places as numbers. -/
def toI (l : List Nat) : List Int := l.map fun x : Nat => (x : Int)
theorem length_toI (l : List Nat) : (toI l).length = l.length := by simp [toI]
theorem gi_toI (l : List Nat) (i : Nat) : gi (toI l) i = (gt l i : Int) := by
  unfold gi toI gt
  rw [List.getD_eq_getElem?_getD, List.getD_eq_getElem?_getD, List.getElem?_map]
  cases l[i]? <;> rfl
theorem toI_inj {l m : List Nat} (h : toI l = toI m) : l = m := by
  have hl : l.length = m.length := by rw [← length_toI, h, length_toI]
  refine List.ext_getElem? fun i => ?_
  by_cases c : i < l.length
  · have e : gi (toI l) i = gi (toI m) i := by rw [h]
    rw [gi_toI, gi_toI] at e
    rw [gt_get l i c, gt_get m i (by omega)]
    congr 1
    omega
  · rw [List.getElem?_eq_none (by omega), List.getElem?_eq_none (by omega)]
/-- The values of a list of places. -/
def iv (l : List Nat) : List Value := l.map fun x : Nat => Value.int .i64 (x : Int)
theorem length_iv (l : List Nat) : (iv l).length = l.length := by simp [iv]
theorem iv_get (l : List Nat) (i : Nat) (h : i < l.length) : (iv l)[i]? = some (.int .i64 (gt l i)) := by
  unfold iv
  rw [List.getElem?_map, gt_get l i h]; rfl
theorem iv_set (l : List Nat) (i v : Nat) : (iv l).set i (.int .i64 (v : Int)) = iv (l.set i v) := by
  unfold iv
  rw [List.map_set]
theorem nd_own {w : World} {base n c : Nat} {ao : Option Addr} {l : List Nat} (h : w.ownsRow base 3 1 (.slice ao n c) n (iv l)) : Nd w ao (toI l) := by
  intro h0
  rw [length_toI] at h0
  have hlen : (iv l).length = n * 1 := h.1
  rw [length_iv] at hlen
  have hk := fun k hk => h.lt k hk
  have hc := fun g hg => h.cells (g := g) hg
  obtain ⟨_, ⟨e, e2⟩ | ⟨g, cap, cur, e, _⟩⟩ := h
  · omega
  · simp only [Value.slice.injEq] at e
    obtain ⟨rfl, _, rfl⟩ := e
    refine ⟨g, 0, rfl, (hk g rfl).2, fun i hi => ?_⟩
    rw [length_toI] at hi
    rw [gi_toI, ← hc g rfl i _ (iv_get l i hi)]
    unfold Addr.add
    split
    · subst_vars; rfl
    · simp
theorem nd_cel {w : World} {g : Nat} {l : List Nat} (h : Cel w g (iv l) 3) : Nd w (some ⟨g, 0, none⟩) (toI l) := by
  intro h0
  rw [length_toI] at h0
  refine ⟨g, 0, rfl, h.lt, fun i hi => ?_⟩
  rw [length_toI] at hi
  rw [gi_toI, Nat.zero_add]
  exact h.cell i (iv_get l i hi)

def bv (l : List Bool) : List Value := l.map Value.bool
theorem length_bv (l : List Bool) : (bv l).length = l.length := by simp [bv]
theorem bv_set (l : List Bool) (i : Nat) (b : Bool) : (bv l).set i (.bool b) = bv (l.set i b) := by
  unfold bv
  rw [List.map_set]
theorem bv_get (l : List Bool) (i : Nat) {b : Bool} (h : l[i]? = some b) : (bv l)[i]? = some (.bool b) := by
  unfold bv
  rw [List.getElem?_map, h]; rfl
theorem Try.info4 : (Try.prog.info? 4).map (fun i => (i.zero, i.size, i.bytes)) = some (some (.bool false), 1, 1) := by kernel_rfl
theorem cel_made {w : World} {base g n : Nat} {E : TypeId} {z : Value} (h : w.ownsRow base E 1 (.slice (some ⟨g, 0, none⟩) n n) n (madeCells #[z] n).toList) : Cel w g (List.replicate n z) E := by
  obtain ⟨_, h | ⟨g', cap, cur, e, _, hh, _, _, hs, ht⟩⟩ := h
  · simp at h
  · simp only [Value.slice.injEq, Option.some.injEq, Addr.mk.injEq] at e
    obtain ⟨⟨rfl, _, _⟩, _, rfl⟩ := e
    unfold Cel
    rw [hh]
    rw [toList_madeCells_one] at ht
    have e3 : cur.toList.take (n * 1) = cur.toList := List.take_of_length_le (by simp; omega)
    rw [e3] at ht
    rw [← ht]
theorem iv_rep (n : Nat) : iv (List.replicate n 0) = List.replicate n (.int .i64 0) := by unfold iv; rw [List.map_replicate]; rfl
theorem bv_rep (n : Nat) : bv (List.replicate n false) = List.replicate n (.bool false) := by unfold bv; rw [List.map_replicate]

namespace Su
theorem list_ext {xs ys : List Nat} (hl : xs.length = ys.length) (h : ∀ i, i < xs.length → gt xs i = gt ys i) : xs = ys := by
  refine List.ext_getElem? fun i => ?_
  by_cases c : i < xs.length
  · rw [gt_get xs i c, gt_get ys i (by omega), h i c]
  · rw [List.getElem?_eq_none (by omega), List.getElem?_eq_none (by omega)]
theorem gt_set (ys : List Nat) (j i v : Nat) (hj : j < ys.length) : gt (ys.set j v) i = if j = i then v else gt ys i := by
  unfold gt
  rw [List.getD_eq_getElem?_getD, List.getD_eq_getElem?_getD, List.getElem?_set]
  by_cases c : j = i
  · subst c; simp [hj]
  · simp [c]
theorem gt_map (f : Nat → Nat) (n i : Nat) (h : i < n) : gt ((List.range n).map f) i = f i := by
  unfold gt
  rw [List.getD_eq_getElem?_getD, List.getElem?_map, List.getElem?_range h]; rfl
theorem gt_app (l m : List Nat) (i : Nat) : gt (l ++ m) i = if i < l.length then gt l i else gt m (i - l.length) := by
  unfold gt
  rw [List.getD_eq_getElem?_getD, List.getD_eq_getElem?_getD, List.getD_eq_getElem?_getD]
  by_cases c : i < l.length
  · rw [if_pos c, List.getElem?_append_left c]
  · rw [if_neg c, List.getElem?_append_right (by omega)]
theorem gt_take (l : List Nat) (p i : Nat) (h : i < p) : gt (l.take p) i = gt l i := by
  unfold gt
  rw [List.getD_eq_getElem?_getD, List.getD_eq_getElem?_getD, List.getElem?_take_of_lt h]
end Su
theorem iv_app (l m : List Nat) : iv l ++ iv m = iv (l ++ m) := by simp [iv]
set_option maxHeartbeats 2000000 in
theorem rnum_c (ao : Option Addr) (l : List Int) (cap : Nat) (bo : Option Addr) (m : List Int) (dap : Nat) (w : World) (hx : Nd w ao l) (hy : Nd w bo m) (hl : l.length ≤ 1048576) :
    Calls Try.prog 14 #[.slice ao l.length cap, .slice bo m.length dap] w fun e w' => e = .returned (.bool (decide (l = m))) ∧ Below w.heap.size w w' := by
  by_cases h2 : l.length = m.length
  · have h2' : ((l.length : Int) != (m.length : Int)) = false := by simp [h2]
    have H2 : Hid (l.length = m.length) := h2
    have h3 : l.length ≤ m.length := by omega
    clear h2
    go_enter Try.func14, Try.ntmps14
    go_wp2
    go_loopw [5] (fun i wr => ∃ k : Nat, k ≤ l.length ∧ i = .int .i64 k ∧ Hid (∀ j, j < k → gi l j = gi m j) ∧ Below w.heap.size w wr) (fun i _ => l.length - (intOf i).toNat)
    case atStart => exact ⟨0, by omega, rfl, fun j hj => absurd hj (by omega), Below.refl _ _⟩
    case round =>
      obtain ⟨k, hk, rfl, H, hw⟩ := hrel
      by_cases hlt : k < l.length
      · obtain ⟨b, off, rfl, hb, hc⟩ := hx (by omega)
        obtain ⟨d, off2, rfl, hd, hc2⟩ := hy (by omega)
        have e1 := (hw.cell (p := ⟨b, off + k, none⟩) hb).trans (hc k hlt)
        have e2 := (hw.cell (p := ⟨d, off2 + k, none⟩) hd).trans (hc2 k (by omega))
        have hlt2 : k < m.length := by omega
        have hlt3 : (k : Int) < (l.length : Int) := by omega
        have hlt4 : (k : Int) < (m.length : Int) := by omega
        clear hc hc2
        by_cases hv : gi l k = gi m k
        · have hne : (gi l k != gi m k) = false := by simp [hv]
          go_wp2
          go_quiet (fail)
          go_wp2
          refine ⟨⟨k + 1, by omega, by go_num, ?_, below_drewN hw _⟩, by simp only [intOf]; omega⟩
          intro j hj
          by_cases e : j = k
          · subst e; exact hv
          · exact H.out j (by omega)
        · have hne : (gi l k != gi m k) = true := by simp [hv]
          have R : Hid (decide (l = m) = false) := by
            show decide (l = m) = false
            simp only [decide_eq_false_iff_not]
            intro e; subst e; exact hv rfl
          go_wp2
          go_quiet (fail)
          go_wp2
          go_ret
          rw [R.out]
          exact ⟨rfl, below_drewN hw _⟩
      · have R : Hid (decide (l = m) = true) := by
          show decide (l = m) = true
          simp only [decide_eq_true_eq]
          exact gi_ext H2.out (fun i hi => H.out i (by omega))
        go_wp2
        go_ret
        rw [R.out]
        exact ⟨rfl, hw⟩
  · have h2' : ((l.length : Int) != (m.length : Int)) = true := by simp; omega
    have R : Hid (decide (l = m) = false) := by
      show decide (l = m) = false
      simp only [decide_eq_false_iff_not]
      intro e; subst e; exact h2 rfl
    go_enter Try.func14, Try.ntmps14
    go_wp2
    go_ret
    rw [R.out]
    exact ⟨rfl, Below.refl _ _⟩
end Go.Proofs.Ytbpmbdgimolkcaa

namespace Go.Proofs.Ytbpmbdgimolkcaa
open Go

section
variable {P : Program} {ops : Array Oper} {Q : Exit → Act → World → Prop} {md : Region.Mode} {S : World → Prop} {ns : List Nat}

def AnyG (P : Program) (md : Region.Mode) (ops : Array Oper) (Q : Exit → Act → World → Prop) (S : World → Prop) (ns : List Nat) : Nat → Array Bool → Act → World → Prop
  | 0, l, a, w => Region.ready md ops l = [] ∧ Q .normal a w
  | f + 1, l, a, w => (Region.ready md ops l = [] → Q .normal a w) ∧ ∀ i ∈ Region.ready md ops l, wpOp P ops Q i (fun a' w' => (i ∉ ns → S w → S w') ∧ AnyG P md ops Q S ns f (l.setIfInBounds i true) a' w') a w

theorem AnyG.any : ∀ f l a w, AnyG P md ops Q S ns f l a w → wpAny P md ops Q f l a w
  | 0, _, _, _, h => h
  | f + 1, _, _, _, h => ⟨h.1, fun i hi => wpOp_mono (fun a' w' h' => AnyG.any f _ a' w' h'.2) (h.2 i hi)⟩

/-- Operation n waits for operation i (or there is no such operation). -/
def waits (md : Region.Mode) (ops : Array Oper) (n i : Nat) : Bool :=
  match ops[n]? with
  | some o => o.after.any fun e => Region.binds md e && e.on == i
  | none => true

theorem waits_not {n i : Nat} {l : Array Bool} (hw : waits md ops n i = true) (hi : l.getD i true = false) : n ∉ Region.ready md ops l := by
  intro hn
  obtain ⟨_, o, ho, hall⟩ := mem_ready.1 hn
  unfold waits at hw
  rw [ho] at hw
  obtain ⟨e, he, hb⟩ := Array.any_eq_true'.1 hw
  simp only [Bool.and_eq_true, beq_iff_eq] at hb
  have h1 := hall e he hb.1
  rw [hb.2] at h1
  rcases Nat.lt_or_ge i l.size with h' | h'
  · simp [h'] at hi h1; rw [hi] at h1; cases h1
  · simp [Array.getElem?_eq_none h'] at h1

theorem AnyG.first {i : Nat} {oi : Oper} {v : Value} (hi : ops[i]? = some oi) (hsel : Region.noSelect ops = true) (hQ : ∀ c a w, Q (.panic c) (a.put oi.dst v) w → Q (.panic c) a w) (hw : ns.all (fun n => waits md ops n i) = true) :
    ∀ f l a w, (∀ j oj, ops[j]? = some oj → j ≠ i → l.getD j true = false → (∀ e ∈ oj.after, Region.binds md e = true → e.on ≠ i) → oi.apart ops oj = true) →
      i ∈ Region.ready md ops l → YieldsIf P ops S oi v a → S w → AnyG P md ops Q S ns f (l.setIfInBounds i true) (a.put oi.dst v) w → AnyG P md ops Q S ns (f + 1) l a w := by
  intro f
  induction f with
  | zero =>
    intro l a w _ hr hy hS H
    refine ⟨fun h => absurd hr (by rw [h]; simp), fun j hj => ?_⟩
    by_cases c : j = i
    · subst c; exact hy.wpOp hi hS ⟨fun _ h => h, H⟩
    · have h1 := ready_mono hj c
      rw [H.1] at h1
      exact absurd h1 (by simp)
  | succ f ih =>
    intro l a w hfree hr hy hS H
    refine ⟨fun h => absurd hr (by rw [h]; simp), fun j hj => ?_⟩
    by_cases c : j = i
    · subst c; exact hy.wpOp hi hS ⟨fun _ h => h, H⟩
    have hun := (mem_ready.1 hr).1
    have hjn : j ∉ ns := fun e => waits_not (List.all_eq_true.1 hw j e) hun hj
    obtain ⟨hjun, oj, hoj, hall⟩ := mem_ready.1 hj
    have hnot : ∀ e ∈ oj.after, Region.binds md e = true → e.on ≠ i := by
      intro e he hb heq
      have h1 := hall e he hb
      rw [heq] at h1
      rcases Nat.lt_or_ge i l.size with h' | h'
      · simp [h'] at hun h1; rw [hun] at h1; cases h1
      · simp [Array.getElem?_eq_none h'] at h1
    have h2 := wpOp_putIf hoj (hfree j oj hoj c hjun hnot) (fun cs b => Region.noSelect_spec hsel i oi cs b hi) (fun cs b => Region.noSelect_spec hsel j oj cs b hoj) hQ hy (H.2 j (ready_mono hj c))
    refine wpOp_mono (fun a' w' h3 => ⟨h3.2.1, ih (l.setIfInBounds j true) a' w' ?_ (ready_mono hr (Ne.symm c)) h3.1 (h3.2.1 hjn hS) ?_⟩) h2
    · intro k ok hk hki hku hno
      refine hfree k ok hk hki ?_ hno
      by_cases e : j = k
      · subst e; exact hjun
      · rw [getD_set_ne true e] at hku; exact hku
    · rw [Array.setIfInBounds_comm _ _ c]
      exact h3.2.2

/-- The same for an operation that yields its value whatever the world is: nothing need wait for it. -/
theorem AnyG.firstW {i : Nat} {oi : Oper} {v : Value} (hi : ops[i]? = some oi) (hsel : Region.noSelect ops = true) (hQ : ∀ c a w, Q (.panic c) (a.put oi.dst v) w → Q (.panic c) a w) :
    ∀ f l a w, (∀ j oj, ops[j]? = some oj → j ≠ i → l.getD j true = false → (∀ e ∈ oj.after, Region.binds md e = true → e.on ≠ i) → oi.apart ops oj = true) →
      i ∈ Region.ready md ops l → YieldsIf P ops (fun _ => True) oi v a → AnyG P md ops Q S ns f (l.setIfInBounds i true) (a.put oi.dst v) w → AnyG P md ops Q S ns (f + 1) l a w := by
  intro f
  induction f with
  | zero =>
    intro l a w _ hr hy H
    refine ⟨fun h => absurd hr (by rw [h]; simp), fun j hj => ?_⟩
    by_cases c : j = i
    · subst c; exact hy.wpOp hi trivial ⟨fun _ h => h, H⟩
    · have h1 := ready_mono hj c
      rw [H.1] at h1
      exact absurd h1 (by simp)
  | succ f ih =>
    intro l a w hfree hr hy H
    refine ⟨fun h => absurd hr (by rw [h]; simp), fun j hj => ?_⟩
    by_cases c : j = i
    · subst c; exact hy.wpOp hi trivial ⟨fun _ h => h, H⟩
    have hun := (mem_ready.1 hr).1
    obtain ⟨hjun, oj, hoj, hall⟩ := mem_ready.1 hj
    have hnot : ∀ e ∈ oj.after, Region.binds md e = true → e.on ≠ i := by
      intro e he hb heq
      have h1 := hall e he hb
      rw [heq] at h1
      rcases Nat.lt_or_ge i l.size with h' | h'
      · simp [h'] at hun h1; rw [hun] at h1; cases h1
      · simp [Array.getElem?_eq_none h'] at h1
    have h2 := wpOp_putIf hoj (hfree j oj hoj c hjun hnot) (fun cs b => Region.noSelect_spec hsel i oi cs b hi) (fun cs b => Region.noSelect_spec hsel j oj cs b hoj) hQ hy (H.2 j (ready_mono hj c))
    refine wpOp_mono (fun a' w' h3 => ⟨h3.2.1, ih (l.setIfInBounds j true) a' w' ?_ (ready_mono hr (Ne.symm c)) h3.1 ?_⟩) h2
    · intro k ok hk hki hku hno
      refine hfree k ok hk hki ?_ hno
      by_cases e : j = k
      · subst e; exact hjun
      · rw [getD_set_ne true e] at hku; exact hku
    · rw [Array.setIfInBounds_comm _ _ c]
      exact h3.2.2
/-- Take number i first, whatever the world is. -/
theorem AnyG.takeW (i : Nat) {oi : Oper} {v : Value} {f : Nat} {l : Array Bool} {a : Act} {w : World} (hi : ops[i]? = some oi) (hs : Region.noSelect ops = true) (hf : Region.free md ops l i = true) (hr : (Region.ready md ops l).contains i = true)
    (hQ : ∀ c a w, Q (.panic c) (a.put oi.dst v) w → Q (.panic c) a w) (hy : ∀ w0, (execOp a.eval oi).run P w0 = .ok (.value v) w0) (hwn : Region.wanted oi (yielded ops a.tmps) = true)
    (h : AnyG P md ops Q S ns f (l.setIfInBounds i true) (a.put oi.dst v) w) : AnyG P md ops Q S ns (f + 1) l a w :=
  AnyG.firstW hi hs hQ f l a w (Region.free_spec hi hf) (by simpa using hr) (.inl ⟨hwn, fun w0 _ => hy w0⟩) h

/-- Take number i first. -/
theorem AnyG.take (i : Nat) {oi : Oper} {v : Value} {f : Nat} {l : Array Bool} {a : Act} {w : World} (hi : ops[i]? = some oi) (hs : Region.noSelect ops = true) (hf : Region.free md ops l i = true) (hr : (Region.ready md ops l).contains i = true) (hw : ns.all (fun n => waits md ops n i) = true)
    (hQ : ∀ c a w, Q (.panic c) (a.put oi.dst v) w → Q (.panic c) a w) (hS : S w) (hy : ∀ w0, S w0 → (execOp a.eval oi).run P w0 = .ok (.value v) w0) (hwn : Region.wanted oi (yielded ops a.tmps) = true)
    (h : AnyG P md ops Q S ns f (l.setIfInBounds i true) (a.put oi.dst v) w) : AnyG P md ops Q S ns (f + 1) l a w :=
  AnyG.first hi hs hQ hw f l a w (Region.free_spec hi hf) (by simpa using hr) (.inl ⟨hwn, hy⟩) hS h

/-- Number i alone may come up. -/
theorem AnyG.one (i : Nat) {o : Oper} {f : Nat} {l : Array Bool} {a : Act} {w : World} (hr : Region.ready md ops l = [i]) (ho : ops[i]? = some o)
    (h : ∀ K : Act → World → Prop, Shut (∀ a' w', (i ∉ ns → S w') → AnyG P md ops Q S ns f (l.setIfInBounds i true) a' w' → K a' w') → if Region.wanted o (yielded ops a.tmps) = true then Oper.wp P o a w K Q else K (a.put o.dst undef) w) :
    AnyG P md ops Q S ns (f + 1) l a w := by
  refine ⟨fun h0 => absurd (hr.symm.trans h0) (by simp), fun j hj => ?_⟩
  rw [hr] at hj
  obtain rfl := List.mem_singleton.1 hj
  exact wpOp_step ho (fun K hK => h K (fun a' w' hS hW => hK a' w' ⟨fun n _ => hS n, hW⟩))

/-- Numbers i and j may come up. -/
theorem AnyG.two (i j : Nat) {o p : Oper} {f : Nat} {l : Array Bool} {a : Act} {w : World} (hr : Region.ready md ops l = [i, j]) (ho : ops[i]? = some o) (hp : ops[j]? = some p)
    (h : ∀ K : Act → World → Prop, Shut (∀ a' w', (i ∉ ns → S w') → AnyG P md ops Q S ns f (l.setIfInBounds i true) a' w' → K a' w') → if Region.wanted o (yielded ops a.tmps) = true then Oper.wp P o a w K Q else K (a.put o.dst undef) w)
    (h2 : ∀ K : Act → World → Prop, Shut (∀ a' w', (j ∉ ns → S w') → AnyG P md ops Q S ns f (l.setIfInBounds j true) a' w' → K a' w') → if Region.wanted p (yielded ops a.tmps) = true then Oper.wp P p a w K Q else K (a.put p.dst undef) w) :
    AnyG P md ops Q S ns (f + 1) l a w := by
  refine ⟨fun h0 => absurd (hr.symm.trans h0) (by simp), fun k hk => ?_⟩
  rw [hr] at hk
  rcases List.mem_cons.1 hk with rfl | hk
  · exact wpOp_step ho (fun K hK => h K (fun a' w' hS hW => hK a' w' ⟨fun n _ => hS n, hW⟩))
  · obtain rfl := List.mem_singleton.1 hk
    exact wpOp_step hp (fun K hK => h2 K (fun a' w' hS hW => hK a' w' ⟨fun n _ => hS n, hW⟩))

theorem AnyG.done {l : Array Bool} {a : Act} {w : World} (hr : Region.ready md ops l = []) (h : Q .normal a w) : ∀ f, AnyG P md ops Q S ns f l a w
  | 0 => ⟨hr, h⟩
  | _ + 1 => ⟨fun _ => h, by rw [hr]; simp⟩

/-- The beginning. -/
theorem region_g (ns : List Nat) (S : World → Prop) {id : Nat} {a : Act} {w : World} (hm : P.follows .mixedOrders = true) (h : AnyG P .any ops Q S ns ops.size (Array.replicate ops.size false) a w.drew) : (Code.region id ops true).wp P Q a w :=
  wp_region_any hm (AnyG.any _ _ _ _ h)
end
end Go.Proofs.Ytbpmbdgimolkcaa

namespace Go.Proofs.Ytbpmbdgimolkcaa
open Go.RowKit
set_option linter.unusedVariables false
set_option linter.unusedSimpArgs false
set_option maxRecDepth 100000
open Fp
/-- The word of what is taken from nought. -/
def fop (b : Nat) : Nat := (floatBits .sub .f64 0 b).getD 0
theorem fl_opp {b : Nat} {n : Int} (h : Fl b n) (hl : -9007199254740992 < n ∧ n < 9007199254740992 := by omega) : Fl (fop b) (-n) ∧ floatBits .sub .f64 0 b = some (fop b) ∧ ∀ t w, (binOp .sub t (.float .f64 0) (.float .f64 b)).run Try.prog w = .ok (.float .f64 (fop b)) w := by
  obtain ⟨r, e, hr⟩ := fl_sub fl0 h (by omega) (by omega)
  have q : fop b = r := by unfold fop; rw [e]; rfl
  rw [Int.zero_sub] at hr
  exact ⟨by rw [q]; exact hr, by rw [q]; exact e, fun t w => by rw [q]; exact run_float_arith w .sub t .f64 0 b r e⟩
theorem i64_and3 (n : Int) : bits .and .i64 n 3 = n % 4 := by
  have h3 : (BitVec.ofInt 64 3).toNat = 2 ^ 2 - 1 := by decide
  have key : (BitVec.ofInt 64 n &&& BitVec.ofInt 64 3).toNat = (n % ((2 ^ 64 : Nat) : Int)).toNat % 2 ^ 2 := by
    rw [BitVec.toNat_and, BitVec.toNat_ofInt, h3, Nat.and_two_pow_sub_one_eq_mod]
  show IntKind.i64.wrap ((BitVec.ofInt 64 n &&& BitVec.ofInt 64 3).toNat : Nat) = n % 4
  rw [key, IntKind.wrap_i64]
  omega
theorem pconj_c (a b : Nat) (z : Ph.P) (w : World) (hz : Fz a b z) (h2 : -1000000 ≤ z.2 ∧ z.2 ≤ 1000000) :
    Calls Try.prog 18 #[.complex .f64 a b] w fun e w' => ∃ x y, e = .returned (.complex .f64 x y) ∧ Fz x y (Ph.cj z) ∧ w' = w := by
  obtain ⟨HQ, _, hop⟩ := fl_opp hz.2
  have HZ := hide hz.1
  clear hz
  go_enter Try.func18, Try.ntmps18
  go_wp2_with (simp only [hop])
  go_ret
  exact ⟨_, _, rfl, ⟨HZ.out, HQ⟩, rfl⟩
set_option maxHeartbeats 2000000 in
theorem kturn_c (a b : Nat) (z : Ph.P) (n : Int) (w : World) (hz : Fz a b z) (h1 : -1000000 ≤ z.1 ∧ z.1 ≤ 1000000) (h2 : -1000000 ≤ z.2 ∧ z.2 ≤ 1000000) (hn : -9223372036854775808 ≤ n ∧ n ≤ 9223372036854775807) :
    Calls Try.prog 9 #[.complex .f64 a b, .int .i64 n] w fun e w' => ∃ x y, e = .returned (.complex .f64 x y) ∧ Fz x y (Ph.mul z (Ph.mk (n % 4).toNat)) ∧ Below w.heap.size w w' := by
  obtain ⟨HA, ea, opa⟩ := fl_opp hz.1
  obtain ⟨HB, eb, opb⟩ := fl_opp hz.2
  have ops : ∀ t w, (binOp .sub t (.complex .f64 0 0) (.complex .f64 a b)).run Try.prog w = .ok (.complex .f64 (fop a) (fop b)) w := fun t w => by
    refine run_complex_sum w .sub (.inr rfl) t .f64 0 0 a b _ _ ?_
    unfold cSumBits
    rw [ea, eb]
    rfl
  have HZ := hide hz
  have hand := i64_and3 n
  have R : n % 4 = 0 ∨ n % 4 = 1 ∨ n % 4 = 2 ∨ n % 4 = 3 := by omega
  clear h1 h2 hz
  rcases R with R | R | R | R
  all_goals rw [R] at hand
  all_goals rw [R]
  · have Q : Ph.mul z (Ph.mk (0 : Int).toNat) = z := by simp [Ph.mul, Ph.mk]
    rw [Q]
    clear Q R
    go_enter Try.func9, Try.ntmps9
    go_wp2_with (first | simp only [hand] | simp only [opa] | simp only [opb] | simp only [ops])
    go_ret
    exact ⟨_, _, rfl, HZ.out, Below.refl _ _⟩
  · have Q : Ph.mul z (Ph.mk (1 : Int).toNat) = (-z.2, z.1) := by simp [Ph.mul, Ph.mk]
    rw [Q]
    clear Q R
    go_enter Try.func9, Try.ntmps9
    go_wp2_with (first | simp only [hand] | simp only [opa] | simp only [opb] | simp only [ops])
    go_ret
    exact ⟨_, _, rfl, ⟨HB, HZ.out.1⟩, Below.refl _ _⟩
  · have Q : Ph.mul z (Ph.mk (2 : Int).toNat) = (-z.1, -z.2) := by simp [Ph.mul, Ph.mk]
    rw [Q]
    clear Q R
    go_enter Try.func9, Try.ntmps9
    go_wp2_with (first | simp only [hand] | simp only [opa] | simp only [opb] | simp only [ops])
    go_ret
    exact ⟨_, _, rfl, ⟨HA, HB⟩, Below.refl _ _⟩
  · have Q : Ph.mul z (Ph.mk (3 : Int).toNat) = (z.2, -z.1) := by simp [Ph.mul, Ph.mk]
    rw [Q]
    clear Q R
    go_enter Try.func9, Try.ntmps9
    go_wp2_with (first | simp only [hand] | simp only [opa] | simp only [opb] | simp only [ops])
    go_ret
    exact ⟨_, _, rfl, ⟨HZ.out.2, HA⟩, Below.refl _ _⟩
theorem kmark_c (c : Nat) (hc : c < 256) (w : World) : Calls Try.prog 12 #[.int .u8 (c : Nat)] w fun e w' => ∃ a b, e = .returned (.complex .f64 a b) ∧ Fz a b (Ph.mk c) ∧ Below w.heap.size w w' := by
  have HC : Hid (∀ w, Calls Try.prog 9 #[.complex .f64 4607182418800017408 0, .int .i64 (c : Nat)] w fun e w' => ∃ x y, e = .returned (.complex .f64 x y) ∧ Fz x y (Ph.mk c) ∧ Below w.heap.size w w') := fun w => by
    refine (kturn_c 4607182418800017408 0 (1, 0) c w ⟨fl1, fl0⟩ (by decide) (by decide) (by omega)).mono ?_
    rintro e w' ⟨x, y, rfl, hf, hB⟩
    refine ⟨x, y, rfl, ?_, hB⟩
    have : Ph.mul (1, 0) (Ph.mk ((c : Int) % 4).toNat) = Ph.mk c := by
      have q : ((c : Int) % 4).toNat = c % 4 := by omega
      rw [q]
      unfold Ph.mul Ph.mk
      have : c % 4 = 0 ∨ c % 4 = 1 ∨ c % 4 = 2 ∨ c % 4 = 3 := by omega
      rcases this with q | q | q | q <;> simp [q]
    rwa [this] at hf
  go_enter Try.func12, Try.ntmps12
  go_wp2_with fail
  refine (HC.out _).mono ?_
  rintro e w1 ⟨x, y, rfl, hf, hB⟩
  have HF := hide hf
  have HB := hide hB
  clear hf hB HC
  go_wp2_with fail
  go_ret
  exact ⟨x, y, rfl, HF.out, HB.out⟩
theorem Ph.sm_bd (t : List Nat) (n : Nat) : -(n : Int) ≤ (Ph.sm t n).1 ∧ (Ph.sm t n).1 ≤ n ∧ -(n : Int) ≤ (Ph.sm t n).2 ∧ (Ph.sm t n).2 ≤ n := by
  obtain ⟨h1, h2, h3, h4, _⟩ := Ph.su_bound (f := fun i => Ph.mk (gt t i)) n fun i _ => Ph.mk_U _
  exact ⟨h1, h2, h3, h4⟩
theorem Ph.U_bd {u : Ph.P} (h : Ph.U u) : (-1 ≤ u.1 ∧ u.1 ≤ 1) ∧ -1 ≤ u.2 ∧ u.2 ≤ 1 := by
  rcases h with rfl | rfl | rfl | rfl <;> decide
set_option maxHeartbeats 2000000 in
theorem ksum_c (ao : Option Addr) (t : List Nat) (cap : Nat) (w : World) (hx : Bd w ao t) (hB : Bytes t) (hl : t.length ≤ 1000) (hc : t.length ≤ cap) :
    Calls Try.prog 8 #[.slice ao t.length cap] w fun e w' => ∃ x y, e = .returned (.complex .f64 x y) ∧ Fz x y (Ph.sm t t.length) ∧ Below w.heap.size w w' := by
  have KM := hide kmark_c
  have HX := hide hx
  have HY := hide hB
  clear hx hB
  go_enter Try.func8, Try.ntmps8
  go_wp2
  go_loopw [3, 8] (fun v3 v8 wr => ∃ (k x y : Nat), k ≤ t.length ∧ v3 = .complex .f64 x y ∧ v8 = .int .i64 (k : Nat) ∧ Hid (Fz x y (Ph.sm t k)) ∧ Hid (Below w.heap.size w wr)) (fun _ v8 _ => t.length - (intOf v8).toNat)
  case atStart => exact ⟨0, 0, 0, Nat.zero_le _, rfl, rfl, ⟨fl0, fl0⟩, Below.refl _ _⟩
  case round =>
    obtain ⟨k, x, y, hk, rfl, rfl, HV, HW⟩ := hrel
    by_cases hlt : k < t.length
    · have hltz : (k : Int) < (t.length : Int) := by omega
      obtain ⟨b, off, rfl, hb, hcl⟩ := HX.out (by omega)
      have c1 := (HW.out.cell (p := ⟨b, off + k, none⟩) hb).trans (hcl k hlt)
      have g1 : gt t k < 256 := gt_lt HY.out k
      have s1 := Ph.sm_bd t k
      have u1 := Ph.U_bd (Ph.mk_U (gt t k))
      have SQ : Hid (Ph.sm t (k + 1) = Ph.add (Ph.sm t k) (Ph.mk (gt t k))) := rfl
      have HK : Hid (∀ c d, Fz c d (Ph.mk (gt t k)) → ∃ re im, (∀ ty w, (binOp .add ty (.complex .f64 x y) (.complex .f64 c d)).run Try.prog w = .ok (.complex .f64 re im) w) ∧ Hid (Fz re im (Ph.sm t (k + 1)))) := fun c d hf => by
        obtain ⟨re, im, hop, hf2⟩ := cadd HV.out hf (by omega) (by omega) (by omega) (by omega)
        exact ⟨re, im, hop, by rw [SQ.out]; exact hf2⟩
      clear s1 u1 SQ HV hcl hb
      have KC : Hid (∀ w, Calls Try.prog 12 #[.int .u8 (gt t k : Nat)] w fun e w' => ∃ a b, e = .returned (.complex .f64 a b) ∧ Fz a b (Ph.mk (gt t k)) ∧ Below w.heap.size w w') := fun w => KM.out _ g1 w
      generalize gt t k = g at *
      go_wp2_with fail
      refine (KC.out _).mono ?_
      rintro e w1 ⟨c, d, rfl, hf, hB⟩
      obtain ⟨re, im, hop, HV2⟩ := HK.out c d hf
      have HW2 := hide (HW.out.trans (hB.mono HW.out.size))
      clear hf hB KC HK HW c1
      go_wp2_with (simp only [hop])
      exact ⟨⟨k + 1, re, im, by omega, rfl, by go_num, HV2, HW2⟩, by simp only [intOf]; omega⟩
    · obtain rfl : k = t.length := by omega
      go_wp2
      go_ret
      exact ⟨x, y, rfl, HV.out, HW.out⟩
end Go.Proofs.Ytbpmbdgimolkcaa

namespace Go.Proofs.Ytbpmbdgimolkcaa
open Go.RowKit Go.Deep
set_option linter.unusedVariables false
set_option maxRecDepth 100000
namespace Ag

theorem wp_append {o : Oper} {a : Act} {w : World} {K : Act → World → Prop} {Q : Exit → Act → World → Prop} (s x : Operand) (t : TypeId)
    (ho : o.op = .call { callee := .builtin .append, args := #[s, x], argTypes := #[t, t] })
    (base : Nat) (e : TypeId) (i : TypeInfo) (z : Value) (size bytes : Nat) (ht : Try.prog.underlying t = some (.slice e)) (hi : Try.prog.info? e = some i) (hz : i.zero = some z)
    (hsize : i.size = size) (hby : i.bytes = bytes) (hzs : z.cells.size = size) (hsz : 0 < size)
    (v : Value) (n : Nat) (vs : List Value) (hs : a.eval s = v) (hown : w.ownsRow base e size v n vs)
    (ad : Addr) (m c : Nat) (news : List Value) (hx : a.eval x = .slice (some ad) m c) (hl : news.length = m * size) (hm : 0 < m) (hsrc : ∀ j u, news[j]? = some u → w.cell? (ad.add j) = some u) (h1 : ∀ u ∈ news, u.oneCell' = true)
    (h63 : n + m ≤ maxLen) (hbytes : (n + m) * bytes ≤ 140737488355328) (hbase : base ≤ w.heap.size)
    (h : ∀ g cap w', w'.ownsRow base e size (.slice (some ⟨g, 0, none⟩) (n + m) cap) (n + m) (vs ++ news) → Below base w w' → (v.ownBlock = some g ∨ g = w.heap.size) → g < w'.heap.size → (∀ k, k < w.heap.size → v.ownBlock ≠ some k → w'.heap[k]? = w.heap[k]?) → w.heap.size ≤ w'.heap.size → K (a.put o.dst (.slice (some ⟨g, 0, none⟩) (n + m) cap)) w') :
    Oper.wp Try.prog o a w K Q := by
  refine wp_append_lies w s x t ho base e i z size bytes ht hi hz hsize hby hzs hsz v n vs hs hown ad m c news hx hl hsrc h1 hm h63 hbytes hbase w.heap.size rfl ?_
  intro g cap w' o1 o2 o3 o4
  refine h g cap w' o1 ?_ o3 o4 ?_ o2.size
  · exact (Below.refl _ _).grown o2 hbase (fun k hk => (hown.lt k hk).1)
  · intro k hk hne
    exact o2.block k hk (fun q => hne q.symm)
theorem wpList_append {ops : Array Oper} {rest : List Oper} {o : Oper} {a : Act} {w : World} {Q : Exit → Act → World → Prop} (hgd : o.guard = none) (s x : Operand) (t : TypeId)
    (ho : o.op = .call { callee := .builtin .append, args := #[s, x], argTypes := #[t, t] })
    (base : Nat) (e : TypeId) (i : TypeInfo) (z : Value) (size bytes : Nat) (ht : Try.prog.underlying t = some (.slice e)) (hi : Try.prog.info? e = some i) (hz : i.zero = some z)
    (hsize : i.size = size) (hby : i.bytes = bytes) (hzs : z.cells.size = size) (hsz : 0 < size)
    (v : Value) (n : Nat) (vs : List Value) (hs : a.eval s = v) (hown : w.ownsRow base e size v n vs)
    (ad : Addr) (m c : Nat) (news : List Value) (hx : a.eval x = .slice (some ad) m c) (hl : news.length = m * size) (hm : 0 < m) (hsrc : ∀ j u, news[j]? = some u → w.cell? (ad.add j) = some u) (h1 : ∀ u ∈ news, u.oneCell' = true)
    (h63 : n + m ≤ maxLen) (hbytes : (n + m) * bytes ≤ 140737488355328) (hbase : base ≤ w.heap.size)
    (h : ∀ g cap w', w'.ownsRow base e size (.slice (some ⟨g, 0, none⟩) (n + m) cap) (n + m) (vs ++ news) → Below base w w' → (v.ownBlock = some g ∨ g = w.heap.size) → g < w'.heap.size → (∀ k, k < w.heap.size → v.ownBlock ≠ some k → w'.heap[k]? = w.heap[k]?) → w.heap.size ≤ w'.heap.size → wpList Try.prog ops Q rest (a.put o.dst (.slice (some ⟨g, 0, none⟩) (n + m) cap)) w') :
    wpList Try.prog ops Q (o :: rest) a w :=
  wpList_plain hgd fun K hK => wp_append s x t ho base e i z size bytes ht hi hz hsize hby hzs hsz v n vs hs hown ad m c news hx hl hm hsrc h1 h63 hbytes hbase fun g cap w' a1 a2 a3 a4 a5 a6 => hK _ _ (h g cap w' a1 a2 a3 a4 a5 a6)
theorem owns_of {w w' : World} {base e size n : Nat} {v : Value} {vs : List Value} (h : w.ownsRow base e size v n vs) (hb : ∀ k, v.ownBlock = some k → w'.heap[k]? = w.heap[k]?) : w'.ownsRow base e size v n vs := by
  obtain ⟨h1, h | ⟨g, cap, cur, rfl, a1, a2, a3⟩⟩ := h
  · exact ⟨h1, .inl h⟩
  · exact ⟨h1, .inr ⟨g, cap, cur, rfl, a1, (hb g rfl).trans a2, a3⟩⟩
theorem owns_keep {w w' : World} {base e size n : Nat} {v : Value} {vs : List Value} (h : w.ownsRow base e size v n vs) (hb : Below w.heap.size w w') : w'.ownsRow base e size v n vs := owns_of h fun k hk => hb.block k (h.lt k hk).2
theorem owns_cells {w : World} {base e size n g cap : Nat} {vs : List Value} (h : w.ownsRow base e size (.slice (some ⟨g, 0, none⟩) n cap) n vs) : g < w.heap.size ∧ ∀ j u, vs[j]? = some u → w.cell? ⟨g, j, none⟩ = some u := by
  obtain ⟨h1, ⟨h, _⟩ | ⟨g', cap', cur, e1, e2, hh, r1, r2, r3, r4⟩⟩ := h
  · cases h
  · simp only [Value.slice.injEq, Option.some.injEq, Addr.mk.injEq] at e1
    obtain ⟨⟨rfl, _, _⟩, _, rfl⟩ := e1
    refine ⟨(Array.getElem?_eq_some_iff.1 hh).1, fun j u hu => ?_⟩
    unfold World.cell?
    rw [show w.heap[({ block := g, off := j, spot := none } : Addr).block]? = _ from hh]
    rw [← r4] at hu
    have hj : j < n * size := by
      have := (List.getElem?_eq_some_iff.1 hu).1
      rw [List.length_take] at this
      omega
    rw [List.getElem?_take_of_lt hj] at hu
    simpa using hu
theorem owns_frozen {w : World} {base e size n g cap : Nat} {vs : List Value} (h : w.ownsRow base e size (.slice (some ⟨g, 0, none⟩) n cap) n vs) (j : Nat) : w.frozen? ⟨g, j, none⟩ = false := by
  obtain ⟨h1, ⟨h, _⟩ | ⟨g', cap', cur, e1, e2, hh, r1, r2, r3, r4⟩⟩ := h
  · cases h
  · simp only [Value.slice.injEq, Option.some.injEq, Addr.mk.injEq] at e1
    obtain ⟨⟨rfl, _, _⟩, _, rfl⟩ := e1
    unfold World.frozen?
    rw [show w.heap[({ block := g, off := j, spot := none } : Addr).block]? = _ from hh]
    simp
end Ag
end Go.Proofs.Ytbpmbdgimolkcaa

namespace Go.Proofs.Ytbpmbdgimolkcaa
open Go.RowKit
set_option linter.unusedVariables false
set_option linter.unusedSimpArgs false
set_option maxRecDepth 100000
open Fp
/-- A slice of complex numbers that reads as a list of pairs. -/
def Cz (w : World) (ao : Option Addr) (zs : List Ph.P) : Prop :=
  0 < zs.length → ∃ b off, ao = some ⟨b, off, none⟩ ∧ b < w.heap.size ∧ ∀ i z, zs[i]? = some z → ∃ x y, w.cell? ⟨b, off + i, none⟩ = some (.complex .f64 x y) ∧ Fz x y z
theorem Cz.keep {w w' : World} {ao : Option Addr} {zs : List Ph.P} (h : Cz w ao zs) (hb : Below w.heap.size w w') : Cz w' ao zs := by
  intro hi
  obtain ⟨b, off, e, hlt, hc⟩ := h hi
  refine ⟨b, off, e, Nat.lt_of_lt_of_le hlt hb.size, fun i z hz => ?_⟩
  obtain ⟨x, y, h1, h2⟩ := hc i z hz
  exact ⟨x, y, (hb.cell (p := ⟨b, off + i, none⟩) hlt).trans h1, h2⟩
/-- A slice of n complex numbers whose i-th stands for f i. -/
def Cf (w : World) (ao : Option Addr) (n : Nat) (f : Nat → Ph.P) : Prop :=
  0 < n → ∃ b off, ao = some ⟨b, off, none⟩ ∧ b < w.heap.size ∧ ∀ i, i < n → ∃ x y, w.cell? ⟨b, off + i, none⟩ = some (.complex .f64 x y) ∧ Fz x y (f i)
theorem Cf.keep {w w' : World} {ao : Option Addr} {n : Nat} {f : Nat → Ph.P} (h : Cf w ao n f) (hb : Below w.heap.size w w') : Cf w' ao n f := by
  intro hi
  obtain ⟨b, off, e, hlt, hc⟩ := h hi
  refine ⟨b, off, e, Nat.lt_of_lt_of_le hlt hb.size, fun i hz => ?_⟩
  obtain ⟨x, y, h1, h2⟩ := hc i hz
  exact ⟨x, y, (hb.cell (p := ⟨b, off + i, none⟩) hlt).trans h1, h2⟩
theorem Cf.drop {w : World} {ao A : Option Addr} {n c j : Nat} {f : Nat → Ph.P} (h : Cf w ao n f) (hc : n ≤ c) (hA : A = if c = j then ao else ao.map (·.add j)) : Cf w A (n - j) fun i => f (j + i) := by
  intro h0
  obtain ⟨b, off, rfl, hlt, hcl⟩ := h (by omega)
  rw [if_neg (by omega)] at hA
  refine ⟨b, off + j, ?_, hlt, fun i hi => ?_⟩
  · rw [hA]
    simp only [Option.map_some]
    congr 1
    unfold Addr.add
    split
    · subst_vars; rfl
    · rfl
  · obtain ⟨x, y, h1, h2⟩ := hcl (j + i) (by omega)
    exact ⟨x, y, by rw [Nat.add_assoc]; exact h1, h2⟩
theorem Cf.cz {w : World} {ao : Option Addr} {n : Nat} {f : Nat → Ph.P} (h : Cf w ao n f) : Cz w ao ((List.range n).map f) := by
  intro h0
  rw [List.length_map, List.length_range] at h0
  obtain ⟨b, off, e, hlt, hc⟩ := h h0
  refine ⟨b, off, e, hlt, fun i z hz => ?_⟩
  rw [List.getElem?_map] at hz
  by_cases c : i < n
  · rw [List.getElem?_range c] at hz
    simp only [Option.map_some, Option.some.injEq] at hz
    subst hz
    exact hc i c
  · rw [List.getElem?_eq_none (by simpa using c)] at hz
    simp at hz
/-- n values of which the first k stand for f. -/
def RK (n : Nat) (cs : List Value) (f : Nat → Ph.P) (k : Nat) : Prop := cs.length = n ∧ ∀ i, i < k → ∃ x y, cs[i]? = some (Value.complex .f64 x y) ∧ Fz x y (f i)
theorem RK.nil (n : Nat) (v : Value) (f : Nat → Ph.P) : RK n (List.replicate n v) f 0 := ⟨List.length_replicate, fun i h => absurd h (Nat.not_lt_zero _)⟩
theorem RK.more {n : Nat} {cs : List Value} {f : Nat → Ph.P} {k x y : Nat} (h : RK n cs f k) (hk : k < n) (hf : Fz x y (f k)) : RK n (cs.set k (Value.complex .f64 x y)) f (k + 1) := by
  refine ⟨by rw [List.length_set]; exact h.1, fun i hi => ?_⟩
  by_cases c : i = k
  · subst c
    exact ⟨x, y, List.getElem?_set_self (by rw [h.1]; exact hk), hf⟩
  · rw [List.getElem?_set_ne (fun q => c q.symm)]
    exact h.2 i (by omega)
theorem RK.cf {w : World} {g n : Nat} {cs : List Value} {T : TypeId} {f : Nat → Ph.P} (h : RK n cs f n) (hc : Cel w g cs T) : Cf w (some ⟨g, 0, none⟩) n f := by
  intro _
  refine ⟨g, 0, rfl, hc.lt, fun i hi => ?_⟩
  obtain ⟨x, y, e, hf⟩ := h.2 i hi
  exact ⟨x, y, by rw [Nat.zero_add]; exact hc.cell i e, hf⟩
theorem Try.cells27 : Try.prog.cellsOf 27 = 1 := by kernel_rfl
theorem Try.infoz : (Try.prog.info? 27).map (fun i => (i.zero, i.size, i.bytes)) = some (some (.complex .f64 0 0), 1, 16) := by kernel_rfl
theorem store_complex {w : World} {a : Addr} {u : Value} (x y : Nat) (m : Mode) (hc : w.cell? a = some u) (hf : w.frozen? a = false) : (store a (.complex .f64 x y) m).run Try.prog w = .ok () (w.setCell a (.complex .f64 x y)) := by
  rw [run_store _ w a _ m rfl, hc]
  simp [hf]
set_option maxHeartbeats 4000000 in
theorem kmarks_c (ao : Option Addr) (t : List Nat) (cap : Nat) (w : World) (hx : Bd w ao t) (hB : Bytes t) (hl : t.length ≤ 1000) (hc : t.length ≤ cap) :
    Calls Try.prog 15 #[.slice ao t.length cap] w fun e w' => ∃ o, e = .returned (.slice o t.length t.length) ∧ Cf w' o t.length (fun i => Ph.mk (gt t i)) ∧ Below w.heap.size w w' := by
  have KM := hide kmark_c
  have HX := hide hx
  have HY := hide hB
  obtain ⟨i0, hi, hz0, hz1, hz2⟩ := info_parts Try.infoz
  obtain ⟨n, hn⟩ : ∃ n, Hid (n = t.length) := ⟨_, rfl⟩
  obtain ⟨wb, hwb⟩ : ∃ wb, Hid (wb = w) := ⟨_, rfl⟩
  obtain ⟨f, hf⟩ : ∃ f, Hid (f = fun i => Ph.mk (gt t i)) := ⟨_, rfl⟩
  rw [← hn.out] at hl hc
  rw [← hn.out, ← hf.out]
  clear hx hB
  go_enter Try.func15, Try.ntmps15
  go_wp2_with (at_make; refine wpList_make_full _ rfl _ _ 24 rfl w.heap.size 27 i0 (.complex .f64 0 0) 1 Try.underlying24 hi hz0 hz1 .i64 .i64 _ _ n rfl rfl rfl rfl ?b2 ?b3 ?b4 ?_)
  case b2 => rw [hz2]; omega
  case b3 => unfold maxLen; omega
  case b4 => simp
  intro w1 hown hgr
  have B1 := cel_made hown
  have hb1 : Below w.heap.size w w1 := (Below.refl _ _).grown hgr (Nat.le_refl _) (fun k h => by cases h)
  have HL1 := hide B1
  have HB1 := hide hb1
  clear hown hgr hb1 hi hz0 hz1 hz2 B1
  obtain ⟨g, hg⟩ : ∃ g, Hid (g = w.heap.size) := ⟨_, rfl⟩
  rw [← hg.out] at HL1 ⊢
  have hgle : w.heap.size ≤ g := by have := hg.out; omega
  go_wp2
  go_loopw [11] (fun v11 wr => ∃ (k : Nat) (cs : List Value), k ≤ n ∧ v11 = .int .i64 (k : Nat) ∧ Hid (RK n cs f k) ∧ Hid (Cel wr g cs 27) ∧ Hid (Below w.heap.size w wr)) (fun v11 _ => n - (intOf v11).toNat)
  case atStart => exact ⟨0, _, Nat.zero_le _, rfl, RK.nil _ _ _, HL1, HB1⟩
  case round =>
    obtain ⟨k, cs, hk, rfl, HR, HC, HW⟩ := hrel
    by_cases hlt : k < n
    · have hltz : (k : Int) < (n : Int) := by omega
      obtain ⟨b, off, rfl, hb, hcl⟩ := HX.out (by have := hn.out; omega)
      have c1 := (HW.out.cell (p := ⟨b, off + k, none⟩) hb).trans (hcl k (by have := hn.out; omega))
      have g1 : gt t k < 256 := gt_lt HY.out k
      have KC : Hid (∀ w, Calls Try.prog 12 #[.int .u8 (gt t k : Nat)] w fun e w' => ∃ a b, e = .returned (.complex .f64 a b) ∧ Fz a b (f k) ∧ Below w.heap.size w w') := fun w => by
        rw [hf.out]
        exact KM.out _ g1 w
      clear hcl hb
      generalize gt t k = q at *
      go_wp2_with fail
      refine (KC.out _).mono ?_
      rintro e w2 ⟨x, y, rfl, hfz, hB⟩
      have HC2 := hide (HC.out.kept hB)
      have HR2 := hide (HR.out.more hlt hfz)
      have HW2 := hide (HW.out.trans (hB.mono HW.out.size))
      have fr := HC2.out.frozen k
      have ge : ∃ u, w2.cell? ⟨g, k, none⟩ = some u := by
        obtain ⟨u, hu⟩ : ∃ u, cs[k]? = some u := ⟨_, List.getElem?_eq_getElem (by rw [HR.out.1]; exact hlt)⟩
        exact ⟨u, HC2.out.cell k hu⟩
      obtain ⟨u, hu⟩ := ge
      have HC3 := hide (HC2.out.set k (.complex .f64 x y))
      have HW3 : Hid (Below w.heap.size w (w2.setCell ⟨g, k, none⟩ (.complex .f64 x y))) := HW2.out.trans (((Only.refl g w2).set k _).below hgle)
      clear hB hfz KC HC HR HW c1 HC2 HW2
      have hst := fun m => store_complex x y m hu fr
      go_wp2_with (simp only [hst])
      exact ⟨⟨k + 1, _, by omega, by go_num, HR2, HC3, HW3⟩, by simp only [intOf]; omega⟩
    · obtain rfl : k = n := by omega
      go_wp2
      go_ret
      exact ⟨_, rfl, HR.out.cf HC.out, HW.out⟩
theorem Ph.ag_bd (t p : List Nat) (j n : Nat) : -(n : Int) ≤ (Ph.ag t p j n).1 ∧ (Ph.ag t p j n).1 ≤ n ∧ -(n : Int) ≤ (Ph.ag t p j n).2 ∧ (Ph.ag t p j n).2 ≤ n := by
  obtain ⟨h1, h2, h3, h4, _⟩ := Ph.su_bound (f := fun k => Ph.mul (Ph.mk (gt t (j + k))) (Ph.cj (Ph.mk (gt p k)))) n fun i _ => Ph.mul_U (Ph.mk_U _) (Ph.cj_U (Ph.mk_U _))
  exact ⟨h1, h2, h3, h4⟩
end Go.Proofs.Ytbpmbdgimolkcaa

namespace Go.Proofs.Ytbpmbdgimolkcaa
open Go.RowKit
set_option linter.unusedVariables false
set_option linter.unusedSimpArgs false
set_option maxRecDepth 100000
open Fp
set_option maxHeartbeats 4000000 in
theorem kagree_c (ao : Option Addr) (n cap : Nat) (f : Nat → Ph.P) (bo : Option Addr) (m dap : Nat) (h : Nat → Ph.P) (w : World) (hx : Cf w ao n f) (hy : Cf w bo m h) (hmn : m ≤ n) (hm : m ≤ 1000) (hn : n ≤ 1000) (hc : n ≤ cap) (hd : m ≤ dap) (hf : ∀ i, Ph.U (f i)) (hh : ∀ i, Ph.U (h i)) :
    Calls Try.prog 16 #[.slice ao n cap, .slice bo m dap] w fun e w' => ∃ x y, e = .returned (.complex .f64 x y) ∧ Fz x y (Ph.su (fun k => Ph.mul (f k) (Ph.cj (h k))) m) ∧ Below w.heap.size w w' := by
  have KJ := hide pconj_c
  have HX := hide hx
  have HY := hide hy
  obtain ⟨F, hF⟩ : ∃ F, Hid (F = fun k => Ph.mul (f k) (Ph.cj (h k))) := ⟨_, rfl⟩
  rw [← hF.out]
  clear hx hy
  go_enter Try.func16, Try.ntmps16
  go_wp2
  go_loopw [5, 10] (fun v5 v10 wr => ∃ (k x y : Nat), k ≤ m ∧ v5 = .complex .f64 x y ∧ v10 = .int .i64 (k : Nat) ∧ Hid (Fz x y (Ph.su F k)) ∧ Hid (Below w.heap.size w wr)) (fun _ v10 _ => m - (intOf v10).toNat)
  case atStart => exact ⟨0, 0, 0, Nat.zero_le _, rfl, rfl, ⟨fl0, fl0⟩, Below.refl _ _⟩
  case round =>
    obtain ⟨k, x, y, hk, rfl, rfl, HV, HW⟩ := hrel
    by_cases hlt : k < m
    · have hltz : (k : Int) < (m : Int) := by omega
      have hltt : (k : Int) < (n : Int) := by omega
      obtain ⟨b, off, rfl, hb, hcl⟩ := HX.out (by omega)
      obtain ⟨b2, of2, rfl, hb2, hcl2⟩ := HY.out (by omega)
      obtain ⟨a1, d1, c1, c1f⟩ := hcl k (by omega)
      obtain ⟨a2, d2, c2, c2f⟩ := hcl2 k (by omega)
      have c2w := (HW.out.cell (p := ⟨b2, of2 + k, none⟩) hb2).trans c2
      have u2 : -1000000 ≤ (h k).2 ∧ (h k).2 ≤ 1000000 := by have := (Ph.U_bd (hh k)).2; omega
      obtain ⟨s1, s2, s3, s4, _⟩ := Ph.su_bound (f := F) k fun i _ => by rw [hF.out]; exact Ph.mul_U (hf i) (Ph.cj_U (hh i))
      have u0 := Ph.U_bd (hf k)
      have u1 := Ph.U_bd (Ph.mul_U (hf k) (Ph.cj_U (hh k)))
      have SQ : Hid (Ph.su F (k + 1) = Ph.add (Ph.su F k) (Ph.mul (f k) (Ph.cj (h k)))) := by show _ = _; rw [Ph.su, hF.out]
      have HK : Hid (∀ a3 b3, Fz a3 b3 (Ph.cj (h k)) → ∃ re im re2 im2, (∀ ty w, (binOp .mul ty (.complex .f64 a1 d1) (.complex .f64 a3 b3)).run Try.prog w = .ok (.complex .f64 re im) w) ∧ (∀ ty w, (binOp .add ty (.complex .f64 x y) (.complex .f64 re im)).run Try.prog w = .ok (.complex .f64 re2 im2) w) ∧ Hid (Fz re2 im2 (Ph.su F (k + 1)))) := fun a3 b3 hf3 => by
        obtain ⟨re, im, hop, hf2⟩ := cmul c1f hf3 (Ph.cj_U (hh k)) (by omega) (by omega) (by omega) (by omega)
        obtain ⟨re2, im2, hop2, hf4⟩ := cadd HV.out hf2 (by omega) (by omega) (by omega) (by omega)
        exact ⟨re, im, re2, im2, hop, hop2, by rw [SQ.out]; exact hf4⟩
      clear s1 s2 s3 s4 u0 u1 SQ HV hcl hcl2
      go_wp2
      refine region_g [] (fun w' => Below w.heap.size w w') (by kernel_rfl) ?_
      have hS : (fun w' => Below w.heap.size w w') wr.drew := HW.out.drew
      refine AnyG.take 0 (v := ?vv1) rfl (by kernel_rfl) (by kernel_rfl) (by kernel_rfl) (by kernel_rfl) (fun _ _ _ h => h) hS ?hy1 (by rfl) ?rest1
      case hy1 =>
        intro w0 h0
        go_simp
        try with_reducible rfl
      simp only [Act.put, List.getElem_toArray, List.getElem_cons_zero, List.getElem_cons_succ, List.setIfInBounds_toArray, List.set_cons_zero, List.set_cons_succ]
      refine AnyG.take 1 (v := ?vv2) rfl (by kernel_rfl) (by kernel_rfl) (by kernel_rfl) (by kernel_rfl) (fun _ _ _ h => h) hS ?hy2 (by rfl) ?rest2
      case hy2 =>
        intro w0 h0
        go_simp
        try with_reducible rfl
      simp only [Act.put, List.getElem_toArray, List.getElem_cons_zero, List.getElem_cons_succ, List.setIfInBounds_toArray, List.set_cons_zero, List.set_cons_succ]
      refine AnyG.take 2 (v := ?vv3) rfl (by kernel_rfl) (by kernel_rfl) (by kernel_rfl) (by kernel_rfl) (fun _ _ _ h => h) hS ?hy3 (by rfl) ?rest3
      case hy3 =>
        intro w0 h0
        go_simp
        try with_reducible rfl
      simp only [Act.put, List.getElem_toArray, List.getElem_cons_zero, List.getElem_cons_succ, List.setIfInBounds_toArray, List.set_cons_zero, List.set_cons_succ]
      refine AnyG.take 3 (v := ?vv4) rfl (by kernel_rfl) (by kernel_rfl) (by kernel_rfl) (by kernel_rfl) (fun _ _ _ h => h) hS ?hy4 (by rfl) ?rest4
      case hy4 =>
        intro w0 h0
        have q := hltz
        have q2 := hltt
        go_simp
        try with_reducible rfl
      simp only [Act.put, List.getElem_toArray, List.getElem_cons_zero, List.getElem_cons_succ, List.setIfInBounds_toArray, List.set_cons_zero, List.set_cons_succ]
      refine AnyG.take 4 (v := ?vv5) rfl (by kernel_rfl) (by kernel_rfl) (by kernel_rfl) (by kernel_rfl) (fun _ _ _ h => h) hS ?hy5 (by rfl) ?rest5
      case hy5 =>
        intro w0 h0
        have e1 := (h0.cell (p := ⟨b, off + k, none⟩) hb).trans c1
        go_simp
        try with_reducible rfl
      simp only [Act.put, List.getElem_toArray, List.getElem_cons_zero, List.getElem_cons_succ, List.setIfInBounds_toArray, List.set_cons_zero, List.set_cons_succ]
      refine AnyG.take 5 (v := ?vv6) rfl (by kernel_rfl) (by kernel_rfl) (by kernel_rfl) (by kernel_rfl) (fun _ _ _ h => h) hS ?hy6 (by rfl) ?rest6
      case hy6 =>
        intro w0 h0
        go_simp
        try with_reducible rfl
      simp only [Act.put, List.getElem_toArray, List.getElem_cons_zero, List.getElem_cons_succ, List.setIfInBounds_toArray, List.set_cons_zero, List.set_cons_succ]
      refine AnyG.one 6 (by kernel_rfl) rfl ?_
      intro K hK
      go_simp
      refine (KJ.out _ _ _ _ c2f u2).mono ?_
      rintro e w1 ⟨x3, y3, rfl, hf3, rfl⟩
      obtain ⟨re, im, re2, im2, hop, hop2, HV2⟩ := HK.out _ _ hf3
      refine hK.out _ _ (fun _ => hS) ?_
      clear hK K
      try simp only [Act.put, List.getElem_toArray, List.getElem_cons_zero, List.getElem_cons_succ, List.setIfInBounds_toArray, List.set_cons_zero, List.set_cons_succ]
      refine AnyG.take 7 (v := ?vv7) rfl (by kernel_rfl) (by kernel_rfl) (by kernel_rfl) (by kernel_rfl) (fun _ _ _ h => h) hS ?hy7 (by rfl) ?rest7
      case hy7 =>
        intro w0 h0
        have q := hop
        go_simp
        try with_reducible rfl
      simp only [Act.put, List.getElem_toArray, List.getElem_cons_zero, List.getElem_cons_succ, List.setIfInBounds_toArray, List.set_cons_zero, List.set_cons_succ]
      refine AnyG.take 8 (v := ?vv8) rfl (by kernel_rfl) (by kernel_rfl) (by kernel_rfl) (by kernel_rfl) (fun _ _ _ h => h) hS ?hy8 (by rfl) ?rest8
      case hy8 =>
        intro w0 h0
        have q := hop2
        go_simp
        try with_reducible rfl
      simp only [Act.put, List.getElem_toArray, List.getElem_cons_zero, List.getElem_cons_succ, List.setIfInBounds_toArray, List.set_cons_zero, List.set_cons_succ]
      refine AnyG.take 9 (v := ?vv9) rfl (by kernel_rfl) (by kernel_rfl) (by kernel_rfl) (by kernel_rfl) (fun _ _ _ h => h) hS ?hy9 (by rfl) ?rest9
      case hy9 =>
        intro w0 h0
        go_simp
        try with_reducible rfl
      simp only [Act.put, List.getElem_toArray, List.getElem_cons_zero, List.getElem_cons_succ, List.setIfInBounds_toArray, List.set_cons_zero, List.set_cons_succ]
      refine AnyG.done (by kernel_rfl) ?_ _
      have HW2 := hide hS
      clear hS HW HK c1 c2 c2w c1f c2f u2 hf3 hop hop2
      go_wp2
      exact ⟨⟨k + 1, re2, im2, by omega, rfl, by go_num, HV2, HW2⟩, by simp only [intOf]; omega⟩
    · obtain rfl : k = m := by omega
      go_wp2
      go_ret
      exact ⟨x, y, rfl, HV.out, HW.out⟩
end Go.Proofs.Ytbpmbdgimolkcaa

namespace Go.Proofs.Ytbpmbdgimolkcaa
open Go.RowKit
set_option linter.unusedVariables false
set_option linter.unusedSimpArgs false
set_option maxRecDepth 100000
open Fp
set_option maxHeartbeats 4000000 in
theorem kcorr_c (ao : Option Addr) (t : List Nat) (cap : Nat) (bo : Option Addr) (p : List Nat) (dap : Nat) (w : World) (hx : Bd w ao t) (hB : Bytes t) (hl : t.length ≤ 1000) (hc : t.length ≤ cap) (hy : Bd w bo p) (hB2 : Bytes p) (hl2 : p.length ≤ 1000) (hc2 : p.length ≤ dap) :
    Calls Try.prog 7 #[.slice ao t.length cap, .slice bo p.length dap] w fun e w' => ∃ o c, e = .returned (.slice o (Ph.pl t p) c) ∧ Cz w' o (Ph.corr t p) ∧ Below w.heap.size w w' := by
  have HL : Hid (Ph.pl t p = t.length + 1 - p.length) := rfl
  by_cases hlong : t.length < p.length
  · have hlz : (t.length : Int) < (p.length : Int) := by omega
    have h0 : Ph.pl t p = 0 := by have := HL.out; omega
    have HZ : Hid (Cz w none (Ph.corr t p)) := fun hi => by rw [Ph.corr_len, h0] at hi; exact absurd hi (Nat.lt_irrefl _)
    rw [h0]
    clear hx hy hB hB2 h0
    go_enter Try.func7, Try.ntmps7
    go_wp2
    go_ret
    exact ⟨none, 0, rfl, HZ.out, Below.refl _ _⟩
  have hlz : ¬ (t.length : Int) < (p.length : Int) := by omega
  obtain ⟨i0, hi, hz0, hz1, hz2⟩ := info_parts Try.infoz
  have pl1 : Ph.pl t p ≤ 1001 := by have := HL.out; omega
  have HM1 := hide (kmarks_c ao t cap w hx hB hl hc)
  have HM2 : Hid (∀ w1, Below w.heap.size w w1 → Calls Try.prog 15 #[.slice bo p.length dap] w1 fun e w' => ∃ o, e = .returned (.slice o p.length p.length) ∧ Cf w' o p.length (fun i => Ph.mk (gt p i)) ∧ Below w1.heap.size w1 w') := fun w1 hb => kmarks_c bo p dap w1 (hy.keep hb) hB2 hl2 hc2
  have hplz : (t.length : Int) - (p.length : Int) + 1 = (Ph.pl t p : Int) := by have := HL.out; omega
  have hwr1 : IntKind.i64.wrap ((t.length : Int) - (p.length : Int)) = (t.length : Int) - (p.length : Int) := by simp [IntKind.wrap, IntKind.bits, IntKind.signed]; omega
  have hwr2 : IntKind.i64.wrap ((t.length : Int) - (p.length : Int) + 1) = (Ph.pl t p : Int) := by rw [hplz]; simp [IntKind.wrap, IntKind.bits, IntKind.signed]; omega
  obtain ⟨n, hn⟩ : ∃ n, Hid (n = Ph.pl t p) := ⟨_, rfl⟩
  rw [← hn.out] at pl1 hplz hwr2 HL ⊢
  clear hx hy hB hB2
  go_enter Try.func7, Try.ntmps7
  go_wp2_with fail
  refine HM1.out.mono ?_
  rintro e w1 ⟨o1, rfl, hf1, hB1⟩
  have HM3 := hide (HM2.out w1 hB1)
  have HF1 := hide hf1
  have HB1 := hide hB1
  clear hf1 hB1 HM1 HM2
  go_wp2_with fail
  refine HM3.out.mono ?_
  rintro e w2 ⟨o2, rfl, hf2, hB2⟩
  have HF2 := hide hf2
  have HF1 := hide (HF1.out.keep hB2)
  have HB2 := hide (HB1.out.trans (hB2.mono HB1.out.size))
  clear hf2 hB2 HM3 HB1
  go_wp2_with (first | simp only [hwr1] | simp only [hwr2] | (at_make; refine wpList_make_full _ rfl _ _ 24 rfl w2.heap.size 27 i0 (.complex .f64 0 0) 1 Try.underlying24 hi hz0 hz1 .i64 .i64 _ _ n rfl rfl rfl rfl ?b2 ?b3 ?b4 ?_))
  case b2 => rw [hz2]; omega
  case b3 => unfold maxLen; omega
  case b4 => simp
  intro w3 hown hgr
  rw [Nat.mul_one] at hown
  have B1 := cel_made hown
  have hb1 : Below w2.heap.size w2 w3 := (Below.refl _ _).grown hgr (Nat.le_refl _) (fun k h => by cases h)
  have HL1 := hide B1
  have HB3 := hide hb1
  clear hown hgr hb1 hi hz0 hz1 hz2 B1 hwr1 hwr2
  obtain ⟨g, hg⟩ : ∃ g, Hid (g = w2.heap.size) := ⟨_, rfl⟩
  rw [← hg.out] at HL1 ⊢
  have hgle : w2.heap.size ≤ g := by have := hg.out; omega
  go_wp2
  go_loopw [27] (fun v27 wr => ∃ (j : Nat) (cs : List Value), j ≤ n ∧ v27 = .int .i64 (j : Nat) ∧ Hid (RK n cs (fun j => Ph.ag t p j p.length) j) ∧ Hid (Cel wr g cs 27) ∧ Hid (Below w2.heap.size w2 wr)) (fun v27 _ => n - (intOf v27).toNat)
  case atStart => exact ⟨0, _, Nat.zero_le _, rfl, RK.nil _ _ _, HL1, HB3⟩
  case round =>
    obtain ⟨j, cs, hj, rfl, HR, HC, HW⟩ := hrel
    by_cases hlt : j < n
    · have hltz : (j : Int) < (n : Int) := by omega
      have hjt : j ≤ t.length := by have := HL.out; omega
      have hjm : p.length ≤ t.length - j := by have := HL.out; omega
      obtain ⟨A, y, SL, hA, hy⟩ : ∃ (A : Option Addr) (y : Nat), (∀ w0, (Instr.sliceAt 24 (.slice o1 t.length t.length) (some (.int .i64 (j : Nat))) none none).run Try.prog w0 = .ok (.slice A y y) w0) ∧ Hid (A = if t.length = j then o1 else o1.map (·.add j)) ∧ Hid (y = t.length - j) := by
        refine ⟨if t.length = j then o1 else o1.map (·.add j), t.length - j, fun w0 => ?_, rfl, rfl⟩
        rw [run_sliceAt_slice _ _ _ _ _ _ (by kernel_rfl), run_slice_l _ _ _ _ _ (by kernel_rfl) _ _ (by omega) (by omega)]
        simp [go_sem]
      have KA : Hid (∀ w0, Below w2.heap.size w2 w0 → Calls Try.prog 16 #[.slice A y y, .slice o2 p.length p.length] w0 fun e w' => ∃ x y, e = .returned (.complex .f64 x y) ∧ Fz x y (Ph.ag t p j p.length) ∧ Below w0.heap.size w0 w') := fun w0 hb => by
        rw [hy.out]
        exact kagree_c A (t.length - j) (t.length - j) (fun i => Ph.mk (gt t (j + i))) o2 p.length p.length (fun i => Ph.mk (gt p i)) w0 ((HF1.out.drop (Nat.le_refl _) hA.out).keep hb |> fun q => q) (HF2.out.keep hb) hjm hl2 (by omega) (Nat.le_refl _) (Nat.le_refl _) (fun i => Ph.mk_U _) (fun i => Ph.mk_U _)
      clear hA hy hjm hjt
      go_wp2_with (first | simp only [SL] | fail)
      refine (KA.out _ HW.out).mono ?_
      rintro e w4 ⟨x, z, rfl, hfz, hB⟩
      have HC2 := hide (HC.out.kept hB)
      have HR2 := hide (HR.out.more hlt hfz)
      have HW2 := hide (HW.out.trans (hB.mono HW.out.size))
      have fr := HC2.out.frozen j
      obtain ⟨u, hu⟩ : ∃ u, w4.cell? ⟨g, j, none⟩ = some u := by
        obtain ⟨u, hu⟩ : ∃ u, cs[j]? = some u := ⟨_, List.getElem?_eq_getElem (by rw [HR.out.1]; exact hlt)⟩
        exact ⟨u, HC2.out.cell j hu⟩
      have HC3 := hide (HC2.out.set j (.complex .f64 x z))
      have HW3 : Hid (Below w2.heap.size w2 (w4.setCell ⟨g, j, none⟩ (.complex .f64 x z))) := HW2.out.trans (((Only.refl g w4).set j _).below (by have := HW2.out.size; omega))
      have hst := fun m => store_complex x z m hu fr
      clear hB hfz KA HC HR HW HC2 HW2
      go_wp2_with (simp only [hst])
      exact ⟨⟨j + 1, _, by omega, by go_num, HR2, HC3, HW3⟩, by simp only [intOf]; omega⟩
    · obtain rfl : j = n := by omega
      have HZ : Hid (Cz wr (some ⟨g, 0, none⟩) (Ph.corr t p)) := by
        have := (HR.out.cf HC.out).cz
        rw [hn.out] at this
        exact this
      go_wp2
      go_ret
      exact ⟨_, _, rfl, HZ.out, HB2.out.trans (HW.out.mono HB2.out.size)⟩
end Go.Proofs.Ytbpmbdgimolkcaa

namespace Go.Proofs.Ytbpmbdgimolkcaa
open Go.RowKit
set_option linter.unusedVariables false
set_option linter.unusedSimpArgs false
set_option maxRecDepth 100000
open Fp
theorem Ph.corr_at (t p : List Nat) (j : Nat) (h : j < Ph.pl t p) : (Ph.corr t p)[j]? = some (Ph.ag t p j p.length) := by
  unfold Ph.corr
  rw [List.getElem?_map, List.getElem?_range h]
  rfl
theorem Ph.fil_no_more (t p : List Nat) (n : Nat) : (Ph.fil t p n).length ≤ n := by
  have := List.length_filter_le (Ph.alike t p) (List.range n)
  rw [List.length_range] at this
  exact this
set_option maxHeartbeats 4000000 in
theorem kfil_c (ao : Option Addr) (t : List Nat) (cap : Nat) (bo : Option Addr) (p : List Nat) (dap : Nat) (w : World) (hx : Bd w ao t) (hB : Bytes t) (hl : t.length ≤ 1000) (hc : t.length ≤ cap) (hy : Bd w bo p) (hB2 : Bytes p) (hl2 : p.length ≤ 1000) (hc2 : p.length ≤ dap) :
    Calls Try.prog 10 #[.slice ao t.length cap, .slice bo p.length dap] w fun e w' => ∃ o c, e = .returned (.slice o (Ph.fil t p (Ph.pl t p)).length c) ∧ Nd w' o (toI (Ph.fil t p (Ph.pl t p))) ∧ Below w.heap.size w w' := by
  have KC := hide (kcorr_c ao t cap bo p dap w hx hB hl hc hy hB2 hl2 hc2)
  obtain ⟨i0, hi, hz0, hz1, hz2⟩ := info_parts (show (Try.prog.info? 3).map (fun i => (i.zero, i.size, i.bytes)) = some (some (.int .i64 0), 1, 8) by kernel_rfl)
  have HI := hide (And.intro hi (And.intro hz0 (And.intro hz1 hz2)))
  have pl1 : Ph.pl t p ≤ 1001 := by unfold Ph.pl; omega
  have HF := hide (fl_int (p.length : Nat) (by omega) (by omega))
  clear hx hy hB hB2 hi hz0 hz1 hz2
  go_enter Try.func10, Try.ntmps10
  go_wp2_with fail
  refine KC.out.mono ?_
  rintro e w1 ⟨oc, cc, rfl, hZ, hB1⟩
  have HZ := hide hZ
  have HB1 := hide hB1
  clear hZ hB1 KC
  go_wp2_with fail
  go_loopw [6, 17] (fun v5 v12 wr => ∃ (j : Nat) (o : Option Addr) (c : Nat), j ≤ Ph.pl t p ∧ v5 = .slice o (Ph.fil t p j).length c ∧ v12 = .int .i64 (j : Nat) ∧ Hid (wr.ownsRow w1.heap.size 3 1 (.slice o (Ph.fil t p j).length c) (Ph.fil t p j).length (iv (Ph.fil t p j))) ∧ Hid (Below w1.heap.size w1 wr)) (fun _ v12 _ => Ph.pl t p - (intOf v12).toNat)
  case atStart => exact ⟨0, none, 0, Nat.zero_le _, rfl, rfl, ⟨rfl, .inl ⟨rfl, rfl⟩⟩, Below.refl _ _⟩
  case round =>
    obtain ⟨j, o, c, hj, rfl, rfl, HO, HW⟩ := hrel
    by_cases hlt : j < Ph.pl t p
    · have hjz : (j : Int) < (Ph.pl t p : Int) := by omega
      obtain ⟨b, off, rfl, hb, hcl⟩ := HZ.out (by rw [Ph.corr_len]; omega)
      obtain ⟨x, y, c1, hf⟩ := hcl j _ (Ph.corr_at t p j hlt)
      have c2 := (HW.out.cell (p := ⟨b, off + j, none⟩) hb).trans c1
      have q1 := fl_eq hf.1 HF.out
      have q2 := fl_eq hf.2 fl0
      have hfl := Ph.fil_no_more t p j
      have AF := Ph.ag_full t p j
      clear hcl hf c1 hb
      by_cases ha : Ph.alike t p j = true
      · have e1 := AF.2 ha
        have HN : Hid (Ph.fil t p (j + 1) = Ph.fil t p j ++ [j]) := by show _ = _; rw [Ph.fil_next, if_pos ha]
        rw [e1] at q1 q2
        rw [decide_eq_true rfl] at q1 q2
        clear e1 AF ha
        obtain ⟨hi, hz0, hz1, hz2⟩ := HI.out
        have hsz := HW.out.size
        go_wp2_with (at_builtin; refine Ag.wpList_append (by rfl) _ _ _ (by rfl) w1.heap.size 3 i0 (.int .i64 0) 1 8 Try.underlying32 hi hz0 hz1 hz2 rfl (by decide) (.slice o (Ph.fil t p j).length c) (Ph.fil t p j).length (iv (Ph.fil t p j)) (by rfl) (HO.out.alloc _) ⟨wr.heap.size, 0, none⟩ 1 1 [.int .i64 (j : Nat)] (by rfl) rfl (by decide) ?c1 ?c2 ?c3 ?c4 ?c5 ?_)
        case c1 =>
          intro i u hu
          have := (Cel.new wr [.int .i64 (j : Nat)] 3).cell i hu
          match i, hu with
          | 0, _ => exact this
        case c2 => intro u hu; simp only [List.mem_singleton] at hu; subst hu; rfl
        case c3 => unfold maxLen; omega
        case c4 => omega
        case c5 => simp; omega
        intro g cap2 w5 o1 o2 _ _ _ _
        have HB5 := hide (HW.out.alloc hsz (.cells #[.int .i64 (j : Nat)] 3) |>.trans o2)
        have HO2 : Hid (w5.ownsRow w1.heap.size 3 1 (.slice (some ⟨g, 0, none⟩) (Ph.fil t p (j + 1)).length cap2) (Ph.fil t p (j + 1)).length (iv (Ph.fil t p (j + 1)))) := by
          show World.ownsRow _ _ _ _ _ _ _
          rw [HN.out, List.length_append, ← iv_app]
          exact o1
        have HLN : Hid ((Ph.fil t p (j + 1)).length = (Ph.fil t p j).length + 1) := by show _ = _; rw [HN.out, List.length_append]; rfl
        clear o1 o2 hsz hi hz0 hz1 hz2 HW HO c2 q1 q2 HN
        go_wp2
        exact ⟨⟨j + 1, _, _, by omega, by rw [HLN.out], by go_num, HO2, HB5⟩, by simp only [intOf]; omega⟩
      · have HN : Hid (Ph.fil t p (j + 1) = Ph.fil t p j) := by show _ = _; rw [Ph.fil_next, if_neg ha]
        have hne : ¬ (Ph.ag t p j p.length = ((p.length : Int), 0)) := fun q => ha (AF.1 q)
        clear AF ha
        generalize Ph.ag t p j p.length = u at *
        obtain ⟨u1, u2⟩ := u
        simp only at q1 q2
        by_cases h1 : u1 = (p.length : Int)
        · have h2 : ¬ u2 = 0 := fun q => hne (by rw [h1, q])
          rw [decide_eq_true h1] at q1
          rw [decide_eq_false h2] at q2
          clear h1 h2 hne
          go_wp2
          exact ⟨⟨j + 1, _, _, by omega, by rw [HN.out], by go_num, by rw [HN.out]; exact HO, HW⟩, by simp only [intOf]; omega⟩
        · rw [decide_eq_false h1] at q1
          clear h1 hne q2
          go_wp2
          exact ⟨⟨j + 1, _, _, by omega, by rw [HN.out], by go_num, by rw [HN.out]; exact HO, HW⟩, by simp only [intOf]; omega⟩
    · obtain rfl : j = Ph.pl t p := by omega
      go_wp2
      go_ret
      exact ⟨o, c, rfl, nd_own HO.out, HB1.out.trans (HW.out.mono HB1.out.size)⟩
end Go.Proofs.Ytbpmbdgimolkcaa



namespace Go.Proofs.Ytbpmbdgimolkcaa
open Go.RowKit
set_option linter.unusedVariables false
set_option linter.unusedSimpArgs false
set_option maxRecDepth 100000
open Fp
set_option maxHeartbeats 2000000 in
theorem his_c (a b : Nat) (z u : Ph.P) (w : World) (hz : Fz a b z) (h1 : -1000000 ≤ u.1 ∧ u.1 ≤ 1000000) (h2 : -1000000 ≤ u.2 ∧ u.2 ≤ 1000000) :
    Calls Try.prog 17 #[.complex .f64 a b, .agg #[.int .i64 u.1, .int .i64 u.2]] w fun e w' => e = .returned (.bool (decide (z = u))) ∧ Below w.heap.size w w' := by
  obtain ⟨x, y⟩ := u
  simp only at h1 h2 ⊢
  have q1 := fl_eq hz.1 (fl_int x (by omega) (by omega))
  have q2 := fl_eq hz.2 (fl_int y (by omega) (by omega))
  have HB := hide (below_alloc w (.cells #[.int .i64 x, .int .i64 y] 37))
  have HC : Hid (Cel (w.alloc (.cells #[.int .i64 x, .int .i64 y] 37)) w.heap.size [.int .i64 x, .int .i64 y] 37) := Cel.new w _ _
  have c0 := HC.out.cell 0 rfl
  have c1 := HC.out.cell 1 rfl
  by_cases e1 : z.1 = x
  · rw [decide_eq_true e1] at q1
    by_cases e2 : z.2 = y
    · rw [decide_eq_true e2] at q2
      have R : Hid (decide (z = (x, y)) = true) := decide_eq_true (Prod.ext e1 e2)
      clear e1 e2 hz
      go_enter Try.func17, Try.ntmps17
      go_wp2
      go_ret
      rw [R.out]
      exact ⟨rfl, HB.out⟩
    · rw [decide_eq_false e2] at q2
      have R : Hid (decide (z = (x, y)) = false) := decide_eq_false fun q => e2 (by rw [q])
      clear e1 e2 hz
      go_enter Try.func17, Try.ntmps17
      go_wp2
      go_ret
      rw [R.out]
      exact ⟨rfl, HB.out⟩
  · rw [decide_eq_false e1] at q1
    have R : Hid (decide (z = (x, y)) = false) := decide_eq_false fun q => e1 (by rw [q])
    clear e1 hz
    go_enter Try.func17, Try.ntmps17
    go_wp2
    go_ret
    rw [R.out]
    exact ⟨rfl, HB.out⟩
/-- A slice of pairs that reads as a list. -/
def Pz (w : World) (ao : Option Addr) (us : List Ph.P) : Prop :=
  0 < us.length → ∃ b off, ao = some ⟨b, off, none⟩ ∧ b < w.heap.size ∧ ∀ i u, us[i]? = some u → w.cell? ⟨b, off + i * 2, none⟩ = some (.int .i64 (u.1 : Int)) ∧ w.cell? ⟨b, off + i * 2 + 1, none⟩ = some (.int .i64 (u.2 : Int))
set_option maxHeartbeats 4000000 in
theorem hsame_c (ao : Option Addr) (zs : List Ph.P) (cap : Nat) (bo : Option Addr) (dap : Nat) (w : World) (hx : Cz w ao zs) (hy : Pz w bo zs) (hl : zs.length ≤ 1000) (hb : ∀ z ∈ zs, (-1000000 ≤ z.1 ∧ z.1 ≤ 1000000) ∧ -1000000 ≤ z.2 ∧ z.2 ≤ 1000000) :
    Calls Try.prog 13 #[.slice ao zs.length cap, .slice bo zs.length dap] w fun e w' => e = .returned (.bool true) ∧ Below w.heap.size w w' := by
  go_enter Try.func13, Try.ntmps13
  go_wp2
  go_loopw [5] (fun vi wr => ∃ k : Nat, k ≤ zs.length ∧ vi = .int .i64 (k : Nat) ∧ Hid (Below w.heap.size w wr)) (fun vi _ => zs.length - (intOf vi).toNat)
  case atStart => exact ⟨0, by omega, rfl, Below.refl _ _⟩
  case round =>
    obtain ⟨k, hk, rfl, HB⟩ := hrel
    by_cases hlt : k < zs.length
    · obtain ⟨b, off, rfl, hb1, hc⟩ := hx (by omega)
      obtain ⟨b2, of2, rfl, hb2, hc2⟩ := hy (by omega)
      obtain ⟨z, hz⟩ : ∃ z, zs[k]? = some z := ⟨_, List.getElem?_eq_getElem hlt⟩
      obtain ⟨x, y, c1, hf⟩ := hc k z hz
      obtain ⟨c2, c3⟩ := hc2 k z hz
      obtain ⟨z1, z2⟩ := hb z (List.mem_of_getElem? hz)
      have HI : Hid (∀ w0, Calls Try.prog 17 #[.complex .f64 x y, .agg #[.int .i64 z.1, .int .i64 z.2]] w0 fun e w' => e = .returned (.bool true) ∧ Below w0.heap.size w0 w') := fun w0 => by
        have := his_c x y z z w0 hf z1 z2
        rwa [decide_eq_true rfl] at this
      have c1 := (HB.out.cell (p := ⟨b, off + k, none⟩) hb1).trans c1
      have c2 := (HB.out.cell (p := ⟨b2, of2 + k * 2, none⟩) hb2).trans c2
      have c3 := (HB.out.cell (p := ⟨b2, of2 + k * 2 + 1, none⟩) hb2).trans c3
      have hltz : (k : Int) < (zs.length : Int) := by omega
      clear hc hc2 hx hy hf z1 z2 hz hb
      go_wp2
      refine region_g [] (fun w' => w'.cell? ⟨b, off + k, none⟩ = some (.complex .f64 x y) ∧ w'.cell? ⟨b2, of2 + k * 2, none⟩ = some (.int .i64 (z.1 : Int)) ∧ w'.cell? ⟨b2, of2 + k * 2 + 1, none⟩ = some (.int .i64 (z.2 : Int)) ∧ Below w.heap.size w w') (by kernel_rfl) ?_
      have hS : (fun w' => w'.cell? ⟨b, off + k, none⟩ = some (.complex .f64 x y) ∧ w'.cell? ⟨b2, of2 + k * 2, none⟩ = some (.int .i64 (z.1 : Int)) ∧ w'.cell? ⟨b2, of2 + k * 2 + 1, none⟩ = some (.int .i64 (z.2 : Int)) ∧ Below w.heap.size w w') wr.drew := ⟨c1, c2, c3, HB.out.drew⟩
      clear c1 c2 c3
      generalize wr.drew = V at *
      refine AnyG.take 0 (v := ?vv1) rfl (by kernel_rfl) (by kernel_rfl) (by kernel_rfl) (by kernel_rfl) (fun _ _ _ h => h) hS ?hy1 (by rfl) ?rest1
      case hy1 =>
        intro w0 h0
        go_simp
        try with_reducible rfl
      simp only [Act.put, List.getElem_toArray, List.getElem_cons_zero, List.getElem_cons_succ, List.setIfInBounds_toArray, List.set_cons_zero, List.set_cons_succ]
      refine AnyG.take 1 (v := ?vv2) rfl (by kernel_rfl) (by kernel_rfl) (by kernel_rfl) (by kernel_rfl) (fun _ _ _ h => h) hS ?hy2 (by rfl) ?rest2
      case hy2 =>
        intro w0 h0
        go_simp
        try with_reducible rfl
      simp only [Act.put, List.getElem_toArray, List.getElem_cons_zero, List.getElem_cons_succ, List.setIfInBounds_toArray, List.set_cons_zero, List.set_cons_succ]
      refine AnyG.take 2 (v := ?vv3) rfl (by kernel_rfl) (by kernel_rfl) (by kernel_rfl) (by kernel_rfl) (fun _ _ _ h => h) hS ?hy3 (by rfl) ?rest3
      case hy3 =>
        intro w0 h0
        go_simp
        try with_reducible rfl
      simp only [Act.put, List.getElem_toArray, List.getElem_cons_zero, List.getElem_cons_succ, List.setIfInBounds_toArray, List.set_cons_zero, List.set_cons_succ]
      refine AnyG.take 3 (v := ?vv4) rfl (by kernel_rfl) (by kernel_rfl) (by kernel_rfl) (by kernel_rfl) (fun _ _ _ h => h) hS ?hy4 (by rfl) ?rest4
      case hy4 =>
        intro w0 h0
        have c0 := h0.1
        go_simp
        try with_reducible rfl
      simp only [Act.put, List.getElem_toArray, List.getElem_cons_zero, List.getElem_cons_succ, List.setIfInBounds_toArray, List.set_cons_zero, List.set_cons_succ]
      refine AnyG.take 4 (v := ?vv5) rfl (by kernel_rfl) (by kernel_rfl) (by kernel_rfl) (by kernel_rfl) (fun _ _ _ h => h) hS ?hy5 (by rfl) ?rest5
      case hy5 =>
        intro w0 h0
        go_simp
        try with_reducible rfl
      simp only [Act.put, List.getElem_toArray, List.getElem_cons_zero, List.getElem_cons_succ, List.setIfInBounds_toArray, List.set_cons_zero, List.set_cons_succ]
      refine AnyG.take 5 (v := ?vv6) rfl (by kernel_rfl) (by kernel_rfl) (by kernel_rfl) (by kernel_rfl) (fun _ _ _ h => h) hS ?hy6 (by rfl) ?rest6
      case hy6 =>
        intro w0 h0
        go_simp
        try with_reducible rfl
      simp only [Act.put, List.getElem_toArray, List.getElem_cons_zero, List.getElem_cons_succ, List.setIfInBounds_toArray, List.set_cons_zero, List.set_cons_succ]
      refine AnyG.take 6 (v := ?vv7) rfl (by kernel_rfl) (by kernel_rfl) (by kernel_rfl) (by kernel_rfl) (fun _ _ _ h => h) hS ?hy7 (by rfl) ?rest7
      case hy7 =>
        intro w0 h0
        go_simp
        try with_reducible rfl
      simp only [Act.put, List.getElem_toArray, List.getElem_cons_zero, List.getElem_cons_succ, List.setIfInBounds_toArray, List.set_cons_zero, List.set_cons_succ]
      refine AnyG.take 7 (v := ?vv8) rfl (by kernel_rfl) (by kernel_rfl) (by kernel_rfl) (by kernel_rfl) (fun _ _ _ h => h) hS ?hy8 (by rfl) ?rest8
      case hy8 =>
        intro w0 h0
        have c0 := h0.2.1
        have c9 := h0.2.2.1
        go_simp
        try with_reducible rfl
      simp only [Act.put, List.getElem_toArray, List.getElem_cons_zero, List.getElem_cons_succ, List.setIfInBounds_toArray, List.set_cons_zero, List.set_cons_succ]
      refine AnyG.one 8 (by kernel_rfl) rfl ?_
      intro K hK
      go_simp
      refine (HI.out _).mono ?_
      rintro e w2 ⟨rfl, hb⟩
      have hS2 : (fun w' => w'.cell? ⟨b, off + k, none⟩ = some (.complex .f64 x y) ∧ w'.cell? ⟨b2, of2 + k * 2, none⟩ = some (.int .i64 (z.1 : Int)) ∧ w'.cell? ⟨b2, of2 + k * 2 + 1, none⟩ = some (.int .i64 (z.2 : Int)) ∧ Below w.heap.size w w') w2 := ⟨(hb.cell (p := ⟨b, off + k, none⟩) (cell_lt hS.1).1).trans hS.1, (hb.cell (p := ⟨b2, of2 + k * 2, none⟩) (cell_lt hS.2.1).1).trans hS.2.1, (hb.cell (p := ⟨b2, of2 + k * 2 + 1, none⟩) (cell_lt hS.2.1).1).trans hS.2.2.1, hS.2.2.2.trans (hb.mono hS.2.2.2.size)⟩
      clear hb hS
      refine hK.out _ _ (fun _ => hS2) ?_
      clear hK K
      try simp only [Act.put, List.getElem_toArray, List.getElem_cons_zero, List.getElem_cons_succ, List.setIfInBounds_toArray, List.set_cons_zero, List.set_cons_succ]
      refine AnyG.take 9 (v := ?vv9) rfl (by kernel_rfl) (by kernel_rfl) (by kernel_rfl) (by kernel_rfl) (fun _ _ _ h => h) hS2 ?hy9 (by rfl) ?rest9
      case hy9 =>
        intro w0 h0
        go_simp
        try with_reducible rfl
      simp only [Act.put, List.getElem_toArray, List.getElem_cons_zero, List.getElem_cons_succ, List.setIfInBounds_toArray, List.set_cons_zero, List.set_cons_succ]
      refine AnyG.done (by kernel_rfl) ?_ _
      go_wp2
      exact ⟨⟨k + 1, by omega, by go_num, hS2.2.2.2⟩, by simp only [intOf]; omega⟩
    · have hltz : ¬ (k : Int) < (zs.length : Int) := by omega
      go_wp2
      go_ret
      exact ⟨rfl, HB.out⟩
end Go.Proofs.Ytbpmbdgimolkcaa

namespace Go.Proofs.Ytbpmbdgimolkcaa
open Go.RowKit
set_option linter.unusedVariables false
set_option linter.unusedSimpArgs false
set_option maxRecDepth 100000
open Fp
theorem size_al (w : World) (o : Obj) : (w.alloc o).heap.size = w.heap.size + 1 := by simp
theorem bd_new (w : World) (l : List Nat) : Bd (w.alloc (.cells (yv l).toArray 5)) (some ⟨w.heap.size, 0, none⟩) l := by
  intro _
  refine ⟨w.heap.size, 0, rfl, by simp, fun i hi => ?_⟩
  rw [Nat.zero_add]
  exact (Cel.new w (yv l) 5).cell i (yv_get l i hi)
theorem nd_new (w : World) (l : List Nat) : Nd (w.alloc (.cells (iv l).toArray 3)) (some ⟨w.heap.size, 0, none⟩) (toI l) := nd_cel (Cel.new w (iv l) 3)
theorem bd_123 (w : World) : Bd (w.alloc (.cells #[.int .u8 1, .int .u8 2, .int .u8 3] 5)) (some ⟨w.heap.size, 0, none⟩) [1, 2, 3] := bd_new w [1, 2, 3]
theorem bd_2 (w : World) : Bd (w.alloc (.cells #[.int .u8 2] 5)) (some ⟨w.heap.size, 0, none⟩) [2] := bd_new w [2]
theorem bd_001 (w : World) : Bd (w.alloc (.cells #[.int .u8 0, .int .u8 0, .int .u8 1] 5)) (some ⟨w.heap.size, 0, none⟩) [0, 0, 1] := bd_new w [0, 0, 1]
theorem bd_126 (w : World) : Bd (w.alloc (.cells #[.int .u8 1, .int .u8 2, .int .u8 6] 5)) (some ⟨w.heap.size, 0, none⟩) [1, 2, 6] := bd_new w [1, 2, 6]
theorem nd_12 (w : World) : Nd (w.alloc (.cells #[.int .i64 1, .int .i64 2] 3)) (some ⟨w.heap.size, 0, none⟩) (toI [1, 2]) := nd_new w [1, 2]
theorem pz_new (w : World) : Pz (w.alloc (.cells #[.int .i64 0, .int .i64 (-1), .int .i64 1, .int .i64 0, .int .i64 0, .int .i64 1] 37)) (some ⟨w.heap.size, 0, none⟩) [(0, -1), (1, 0), (0, 1)] := by
  intro _
  have H : Cel (w.alloc (.cells #[.int .i64 0, .int .i64 (-1), .int .i64 1, .int .i64 0, .int .i64 0, .int .i64 1] 37)) w.heap.size [.int .i64 0, .int .i64 (-1), .int .i64 1, .int .i64 0, .int .i64 0, .int .i64 1] 37 := Cel.new w _ _
  refine ⟨w.heap.size, 0, rfl, by simp, fun i u hu => ?_⟩
  match i, hu with
  | 0, hu => injection hu with hu; subst hu; exact ⟨H.cell 0 rfl, H.cell 1 rfl⟩
  | 1, hu => injection hu with hu; subst hu; exact ⟨H.cell 2 rfl, H.cell 3 rfl⟩
  | 2, hu => injection hu with hu; subst hu; exact ⟨H.cell 4 rfl, H.cell 5 rfl⟩
set_option maxHeartbeats 4000000 in
theorem heads23_c (w : World) : Calls Try.prog 6 #[] w fun e w' => e = .returned (.bool true) ∧ Below w.heap.size w w' := by
  have KC : Hid (∀ (w0 : World) a b, Bd w0 (some a) [1, 2, 3] → Bd w0 (some b) [2] → Calls Try.prog 7 #[.slice (some a) 3 3, .slice (some b) 1 1] w0 fun e w' => ∃ o c, e = .returned (.slice o 3 c) ∧ Cz w' o [(0, -1), (1, 0), (0, 1)] ∧ Below w0.heap.size w0 w') := fun w0 a b hx hy => by
    have := kcorr_c (some a) [1, 2, 3] 3 (some b) [2] 1 w0 hx (by unfold Bytes; decide) (by decide) (by decide) hy (by unfold Bytes; decide) (by decide) (by decide)
    rw [show Ph.corr [1, 2, 3] [2] = [(0, -1), (1, 0), (0, 1)] by decide] at this
    exact this
  have KM : Hid (∀ w0, Calls Try.prog 12 #[.int .u8 3] w0 fun e w' => ∃ a b, e = .returned (.complex .f64 a b) ∧ Fz a b (0, -1) ∧ Below w0.heap.size w0 w') := fun w0 => by
    have := kmark_c 3 (by decide) w0
    rw [show Ph.mk 3 = (0, -1) by decide] at this
    exact this
  have KT : Hid (∀ w0, Calls Try.prog 9 #[.complex .f64 4611686018427387904 4607182418800017408, .int .i64 1] w0 fun e w' => ∃ a b, e = .returned (.complex .f64 a b) ∧ Fz a b (-1, 2) ∧ Below w0.heap.size w0 w') := fun w0 => by
    have := kturn_c _ _ (2, 1) 1 w0 ⟨fl2, fl1⟩ (by decide) (by decide) (by decide)
    rw [show Ph.mul (2, 1) (Ph.mk ((1 : Int) % 4).toNat) = (-1, 2) by decide] at this
    exact this
  have KS : Hid (∀ (w0 : World) a, Bd w0 (some a) [0, 0, 1] → Calls Try.prog 8 #[.slice (some a) 3 3] w0 fun e w' => ∃ x y, e = .returned (.complex .f64 x y) ∧ Fz x y (2, 1) ∧ Below w0.heap.size w0 w') := fun w0 a hx => by
    have := ksum_c (some a) [0, 0, 1] 3 w0 hx (by unfold Bytes; decide) (by decide) (by decide)
    rw [show Ph.sm [0, 0, 1] [0, 0, 1].length = (2, 1) by decide] at this
    exact this
  have KH : Hid (∀ (w0 : World) o c b, Cz w0 o [(0, -1), (1, 0), (0, 1)] → Pz w0 b [(0, -1), (1, 0), (0, 1)] → Calls Try.prog 13 #[.slice o 3 c, .slice b 3 3] w0 fun e w' => e = .returned (.bool true) ∧ Below w0.heap.size w0 w') := fun w0 o c b hx hy => hsame_c o [(0, -1), (1, 0), (0, 1)] c b 3 w0 hx hy (by decide) (by decide)
  have KF : Hid (∀ (w0 : World) a b, Bd w0 (some a) [1, 2, 6] → Bd w0 (some b) [2] → Calls Try.prog 10 #[.slice (some a) 3 3, .slice (some b) 1 1] w0 fun e w' => ∃ o c, e = .returned (.slice o 2 c) ∧ Nd w' o (toI [1, 2]) ∧ Below w0.heap.size w0 w') := fun w0 a b hx hy => by
    have := kfil_c (some a) [1, 2, 6] 3 (some b) [2] 1 w0 hx (by unfold Bytes; decide) (by decide) (by decide) hy (by unfold Bytes; decide) (by decide) (by decide)
    rw [show Ph.fil [1, 2, 6] [2] (Ph.pl [1, 2, 6] [2]) = [1, 2] by decide] at this
    exact this
  have KN : Hid (∀ (w0 : World) o c b, Nd w0 o (toI [1, 2]) → Nd w0 b (toI [1, 2]) → Calls Try.prog 14 #[.slice o 2 c, .slice b 2 2] w0 fun e w' => e = .returned (.bool true) ∧ Below w0.heap.size w0 w') := fun w0 o c b hx hy => by
    have := rnum_c o (toI [1, 2]) c b (toI [1, 2]) 2 w0 hx hy (by decide)
    rw [decide_eq_true rfl] at this
    exact this
  go_enter Try.func6, Try.ntmps6
  have X1 := bd_123 w
  have X2 := bd_2 (w.alloc (.cells #[.int .u8 1, .int .u8 2, .int .u8 3] 5))
  rw [size_al] at X2
  have X1' := hide (X1.keep (below_alloc _ (.cells #[.int .u8 2] 5)))
  have X2' := hide X2
  have B0 := hide ((below_alloc w (.cells #[.int .u8 1, .int .u8 2, .int .u8 3] 5)).alloc (below_alloc w (.cells #[.int .u8 1, .int .u8 2, .int .u8 3] 5)).size (.cells #[.int .u8 2] 5))
  clear X1 X2
  go_wp2_with fail
  refine (KC.out _ _ _ X1'.out X2'.out).mono ?_
  rintro e w1 ⟨o, c, rfl, hZ, hb⟩
  have HZ := hide hZ
  have B1 := hide (B0.out.trans (hb.mono B0.out.size))
  clear hZ hb B0 X1' X2' KC
  go_wp2_with fail
  refine (KM.out _).mono ?_
  rintro e w2 ⟨a1, b1, rfl, hf, hb⟩
  obtain ⟨q1, q2⟩ := ceq hf (show Fz 0 13830554455654793216 (0, -1) from ⟨fl0, flm1⟩)
  rw [decide_eq_true rfl] at q1 q2
  have HZ2 := hide (HZ.out.keep hb)
  have B2 := hide (B1.out.trans (hb.mono B1.out.size))
  clear hb hf HZ B1 KM
  go_wp2_with fail
  refine (KT.out _).mono ?_
  rintro e w3 ⟨a2, b2, rfl, hf, hb⟩
  obtain ⟨q3, q4⟩ := ceq hf (show Fz 13830554455654793216 4611686018427387904 (-1, 2) from ⟨flm1, fl2⟩)
  rw [decide_eq_true rfl] at q3 q4
  have HZ3 := hide (HZ2.out.keep hb)
  have B3 := hide (B2.out.trans (hb.mono B2.out.size))
  clear hb hf HZ2 B2 KT q1 q2
  have X3 := hide (bd_001 w3)
  have B3' := hide (B3.out.alloc B3.out.size (.cells #[.int .u8 0, .int .u8 0, .int .u8 1] 5))
  have HZ3' := hide (HZ3.out.keep (below_alloc w3 (.cells #[.int .u8 0, .int .u8 0, .int .u8 1] 5)))
  go_wp2_with fail
  refine (KS.out _ _ X3.out).mono ?_
  rintro e w4 ⟨a3, b3, rfl, hf, hb⟩
  obtain ⟨q1, q2⟩ := ceq hf (show Fz 4611686018427387904 4607182418800017408 (2, 1) from ⟨fl2, fl1⟩)
  rw [decide_eq_true rfl] at q1 q2
  have HZ4 := hide (HZ3'.out.keep hb)
  have B4 := hide (B3'.out.trans (hb.mono B3'.out.size))
  clear hb hf HZ3 HZ3' B3 B3' X3 KS q3 q4
  have X4 := hide (pz_new w4)
  have B4' := hide (B4.out.alloc B4.out.size (.cells #[.int .i64 0, .int .i64 (-1), .int .i64 1, .int .i64 0, .int .i64 0, .int .i64 1] 37))
  have HZ4' := hide (HZ4.out.keep (below_alloc w4 (.cells #[.int .i64 0, .int .i64 (-1), .int .i64 1, .int .i64 0, .int .i64 0, .int .i64 1] 37)))
  go_wp2_with fail
  refine (KH.out _ _ _ _ HZ4'.out X4.out).mono ?_
  rintro e w5 ⟨rfl, hb⟩
  have B5 := hide (B4'.out.trans (hb.mono B4'.out.size))
  clear hb HZ4 HZ4' B4 B4' X4 KH q1 q2
  have X1 := bd_126 w5
  have X2 := bd_2 (w5.alloc (.cells #[.int .u8 1, .int .u8 2, .int .u8 6] 5))
  rw [size_al] at X2
  have X1' := hide (X1.keep (below_alloc _ (.cells #[.int .u8 2] 5)))
  have X2' := hide X2
  have B0 := B5.out.alloc B5.out.size (.cells #[.int .u8 1, .int .u8 2, .int .u8 6] 5)
  have B5' := hide (B0.alloc B0.size (.cells #[.int .u8 2] 5))
  clear X1 X2 B0
  go_wp2_with fail
  refine (KF.out _ _ _ X1'.out X2'.out).mono ?_
  rintro e w6 ⟨o2, c2, rfl, hN, hb⟩
  have B6 := hide (B5'.out.trans (hb.mono B5'.out.size))
  have HN := hide (hN.keep (below_alloc w6 (.cells #[.int .i64 1, .int .i64 2] 3)))
  have X6 := hide (nd_12 w6)
  have B6' := hide (B6.out.alloc B6.out.size (.cells #[.int .i64 1, .int .i64 2] 3))
  clear hb hN B5 B5' X1' X2' KF
  go_wp2_with fail
  refine (KN.out _ _ _ _ HN.out X6.out).mono ?_
  rintro e w7 ⟨rfl, hb⟩
  have B7 := hide (B6'.out.trans (hb.mono B6'.out.size))
  clear hb HN X6 B6 B6' KN
  go_wp2
  go_ret
  exact ⟨rfl, B7.out⟩
end Go.Proofs.Ytbpmbdgimolkcaa
