/-
  Plain arithmetic of the gamma and the delta code: how long they are, their bits, what is read. Nothing of the program is in here.
-/
import Derived.Test.YtmdmjbpehbjgpaaBit4
namespace Go.Proofs.Ytmdmjbpehbjgpaa
open Num
namespace Bit

def bl (x : Nat) : Nat := Go.bitLen x

theorem bl_high (x : Nat) : x < 2 ^ bl x := (Go.bitLen_spec x).1
theorem bl_low (x : Nat) (h : x ≠ 0) : 2 ^ (bl x - 1) ≤ x := (Go.bitLen_spec x).2 h
theorem bl_pos (x : Nat) (h : x ≠ 0) : 1 ≤ bl x := by
  have := bl_high x
  rcases Nat.eq_zero_or_pos (bl x) with e | e
  · rw [e] at this; simp at this; omega
  · exact e
theorem bl_le (x n : Nat) (h : x < 2 ^ n) : bl x ≤ n := by
  by_cases h0 : x = 0
  · subst h0; exact Nat.le_trans (by decide : bl 0 ≤ 0) (Nat.zero_le _)
  · have l := bl_low x h0
    have p := bl_pos x h0
    have := (Nat.pow_lt_pow_iff_right (by decide : 1 < 2)).1 (Nat.lt_of_le_of_lt l h)
    omega
theorem bl64 (x : Nat) (h : x < 18446744073709551616) : bl x ≤ 64 := bl_le x 64 h
theorem bl_mono (x y : Nat) (h : x ≤ y) : bl x ≤ bl y := bl_le x _ (Nat.lt_of_le_of_lt h (bl_high y))
theorem bl_eq (x n : Nat) (h1 : 2 ^ n ≤ x) (h2 : x < 2 ^ (n + 1)) : bl x = n + 1 := by
  have a := bl_le x (n + 1) h2
  have b := (Nat.pow_lt_pow_iff_right (by decide : 1 < 2)).1 (Nat.lt_of_le_of_lt h1 (bl_high x))
  omega
theorem lenI_nat (x : Nat) : lenI (x : Int) = (bl x : Int) := rfl

def gL (x : Nat) : Nat := 2 * bl x - 1
def gF (x j : Nat) : Bool := if j < bl x then decide (j = bl x - 1) else x.testBit (j - bl x)
def cL (d : Bool) (x : Nat) : Nat := if x = 0 then 0 else if d then gL (bl x) + (bl x - 1) else gL x
def cF (d : Bool) (x j : Nat) : Bool := if d then (if j < gL (bl x) then gF (bl x) j else x.testBit (j - gL (bl x))) else gF x j
def cR (d : Bool) (x : Nat) : List Nat := rowOf (cL d x) (cF d x)

theorem gL_le (x : Nat) (h : x < 18446744073709551616) : gL x ≤ 127 := by have := bl64 x h; unfold gL; omega
theorem bl_small (n : Nat) (h : n ≤ 64) : bl n ≤ 7 := bl_le n 7 (by omega)
theorem cLd_le (x : Nat) (h : x < 18446744073709551616) : cL true x ≤ 76 := by
  have a := bl64 x h
  have b := bl_small _ a
  unfold cL gL
  split
  · omega
  · simp only [if_true]; omega
theorem cLg_le (x : Nat) (h : x < 18446744073709551616) : cL false x ≤ 127 := by
  have := gL_le x h
  unfold cL
  split
  · omega
  · simp; omega
theorem cL_le (d : Bool) (x : Nat) (h : x < 18446744073709551616) : cL d x ≤ 127 := by
  cases d
  · exact cLg_le x h
  · exact Nat.le_trans (cLd_le x h) (by decide)
theorem cL_pos (d : Bool) (x : Nat) (h : x ≠ 0) : 1 ≤ cL d x := by
  have p := bl_pos x h
  have q := bl_pos (bl x) (by omega)
  unfold cL gL
  rw [if_neg h]
  cases d <;> simp <;> omega
theorem chk_cR (d : Bool) (x : Nat) (h : x < 18446744073709551616) : chk (cL d x : Int) (cR d x) = true := chk_rowOf _ _ (Nat.le_trans (cL_le d x h) (by decide))
theorem fit_cR (d : Bool) (x : Nat) : Fit (cR d x) := fit_rowOf _ _
theorem length_cR (d : Bool) (x : Nat) : (cR d x).length = (cL d x + 63) / 64 := length_rowOf _ _
theorem length_cR_le (d : Bool) (x : Nat) (h : x < 18446744073709551616) : (cR d x).length ≤ 2 := by
  rw [length_cR]; have := cL_le d x h; omega

/-! ### order -/
theorem cL_mono (d : Bool) (x y : Nat) (h : x ≤ y) : cL d x ≤ cL d y := by
  by_cases hx : x = 0
  · subst hx; simp [cL]
  · have hy : y ≠ 0 := by omega
    have a := bl_mono x y h
    have b := bl_mono _ _ a
    unfold cL gL
    rw [if_neg hx, if_neg hy]
    cases d <;> simp <;> omega
theorem long_order : ∀ n : Fin 65, 6 ≤ n.val → 2 * bl n.val - 1 ≤ n.val := by decide +kernel
theorem cL_order (x : Nat) (h : x < 18446744073709551616) (h32 : 32 ≤ x) : cL true x ≤ cL false x := by
  have a := bl64 x h
  have b : 6 ≤ bl x := by
    have := bl_mono 32 x h32
    have e : bl 32 = 6 := by decide +kernel
    omega
  have c := long_order ⟨bl x, by omega⟩ b
  simp only at c
  have h0 : x ≠ 0 := by omega
  unfold cL gL
  simp only [if_neg h0, if_true, Bool.false_eq_true, if_false]
  omega

/-! ### what is put -/
def pE (d : Bool) (N : Int) (xs : List Nat) (x : Nat) : Int := if x = 0 then 2 else joinE N xs (cL d x) (cR d x)
def pN (d : Bool) (N : Int) (xs : List Nat) (x : Nat) : Int := if x = 0 then N else joinN N xs (cL d x) (cR d x)
def pL (d : Bool) (N : Int) (xs : List Nat) (x : Nat) : List Nat := if x = 0 then xs else joinL N xs (cL d x) (cR d x)

theorem first_row (n : Nat) (h0 : 1 ≤ n) (h1 : n ≤ 64) : appL 0 [] (2 ^ (n - 1)) (n : Int) = rowOf n (fun j => decide (j = n - 1)) ∧ appN 0 [] (n : Int) = n ∧ appE 0 [] (n : Int) = 0 := by
  have c0 : chk 0 [] = true := by decide
  have e : appE 0 [] (n : Int) = 0 := by unfold appE; rw [if_neg]; rw [c0]; simp; omega
  refine ⟨?_, ?_, e⟩
  · unfold appL
    rw [if_pos e]
    have en : ((0 : Int) + (n : Int)).toNat = n := by omega
    rw [en]
    refine rowOf_congr _ _ _ fun i hi => ?_
    simp [Nat.testBit_two_pow, eq_comm]
  · unfold appN; rw [if_pos e]; omega

theorem rest_row (m n x : Nat) (f : Nat → Bool) (hn : n ≤ 64) (hm : m ≤ 1000) :
    appL (m : Int) (rowOf m f) x (n : Int) = rowOf (m + n) (fun j => if j < m then f j else x.testBit (j - m)) ∧ appN (m : Int) (rowOf m f) (n : Int) = ((m + n : Nat) : Int) ∧ appE (m : Int) (rowOf m f) (n : Int) = 0 := by
  have c0 : chk (m : Int) (rowOf m f) = true := chk_rowOf m f (by omega)
  have e : appE (m : Int) (rowOf m f) (n : Int) = 0 := by unfold appE; rw [if_neg]; rw [c0]; simp; omega
  refine ⟨?_, ?_, e⟩
  · unfold appL
    rw [if_pos e]
    have en : ((m : Int) + (n : Int)).toNat = m + n := by omega
    rw [en]
    refine rowOf_congr _ _ _ fun i hi => ?_
    simp only [Int.toNat_natCast]
    split
    · rename_i h; rw [bitAt_rowOf]; simp [h]
    · rfl
  · unfold appN; rw [if_pos e]; omega

theorem gam_row (x : Nat) (hx : x ≠ 0) : rowOf (bl x + (bl x - 1)) (fun j => if j < bl x then decide (j = bl x - 1) else x.testBit (j - bl x)) = cR false x ∧ bl x + (bl x - 1) = cL false x := by
  have p := bl_pos x hx
  have e : bl x + (bl x - 1) = cL false x := by unfold cL gL; rw [if_neg hx]; simp; omega
  refine ⟨?_, e⟩
  unfold cR
  rw [← e]
  refine rowOf_congr _ _ _ fun i _ => ?_
  simp [cF, gF]

theorem del_row (x : Nat) (hx : x ≠ 0) : rowOf (cL false (bl x) + (bl x - 1)) (fun j => if j < cL false (bl x) then cF false (bl x) j else x.testBit (j - cL false (bl x))) = cR true x ∧ cL false (bl x) + (bl x - 1) = cL true x := by
  have p := bl_pos x hx
  have g : cL false (bl x) = gL (bl x) := by unfold cL; rw [if_neg (by omega)]; simp
  have e : cL false (bl x) + (bl x - 1) = cL true x := by rw [g]; unfold cL; rw [if_neg hx]; simp
  refine ⟨?_, e⟩
  unfold cR
  rw [← e]
  refine rowOf_congr _ _ _ fun i _ => ?_
  rw [g]
  simp [cF]

/-! ### what is read -/
/-- How many noughts stand from a place on, of k bits. -/
def zr (xs : List Nat) : Nat → Nat → Nat
  | _, 0 => 0
  | a, k + 1 => if bitAt xs a then 0 else zr xs (a + 1) k + 1

theorem zr_spec (xs : List Nat) : ∀ k a, zr xs a k ≤ k ∧ (∀ j, j < zr xs a k → bitAt xs (a + j) = false) ∧ (zr xs a k < k → bitAt xs (a + zr xs a k) = true) := by
  intro k
  induction k with
  | zero => intro a; simp [zr]
  | succ k ih =>
    intro a
    simp only [zr]
    by_cases h : bitAt xs a = true
    · simp [h]
    · rw [if_neg h]
      obtain ⟨i1, i2, i3⟩ := ih (a + 1)
      refine ⟨by omega, fun j hj => ?_, fun hz => ?_⟩
      · cases j with
        | zero => simpa using h
        | succ j => have := i2 j (by omega); rw [show a + (j + 1) = a + 1 + j by omega]; exact this
      · have := i3 (by omega); rw [show a + (zr xs (a + 1) k + 1) = a + 1 + zr xs (a + 1) k by omega]; exact this

theorem zr_eq (xs : List Nat) (a k z : Nat) (h1 : ∀ j, j < z → bitAt xs (a + j) = false) (h2 : bitAt xs (a + z) = true) (hz : z < k) : zr xs a k = z := by
  obtain ⟨s1, s2, s3⟩ := zr_spec xs k a
  rcases Nat.lt_trichotomy (zr xs a k) z with h | h | h
  · have := s3 (by omega); rw [h1 _ h] at this; simp at this
  · exact h
  · have := s2 z h; rw [h2] at this; simp at this

/-- With k noughts read, what is to come. -/
theorem zr_shift (xs : List Nat) (a K k : Nat) (hk : k ≤ K) (h : ∀ j, j < k → bitAt xs (a + j) = false) : zr xs a K = k + zr xs (a + k) (K - k) := by
  induction k with
  | zero => simp
  | succ k ih =>
    rw [ih (by omega) (fun j hj => h j (by omega))]
    have e : K - k = (K - (k + 1)) + 1 := by omega
    rw [e, zr, h k (by omega)]
    simp only [Bool.false_eq_true, if_false]
    rw [show a + k + 1 = a + (k + 1) by omega]
    omega

def cm (N : Int) (xs : List Nat) (a n : Nat) : Nat × Int × Int :=
  if N < (a : Int) + n then (0, 0, 160) else (2 ^ n + numOf n (fun k => bitAt xs (a + k)), (a : Int) + n, 0)
def gz (N : Int) (xs : List Nat) (i : Int) : Nat := zr xs i.toNat (min 64 (N - i).toNat)
def rdG (N : Int) (xs : List Nat) (i : Int) : Nat × Int × Int :=
  if chk N xs = false then (0, 0, 2) else if i < 0 ∨ N < i then (0, 0, 3) else
    if gz N xs i = 64 then (0, 0, 161) else if N - i ≤ gz N xs i then (0, 0, 160) else cm N xs (i.toNat + gz N xs i + 1) (gz N xs i)
def rdD (N : Int) (xs : List Nat) (i : Int) : Nat × Int × Int :=
  if (rdG N xs i).2.2 ≠ 0 then (0, 0, (rdG N xs i).2.2) else if 64 < (rdG N xs i).1 then (0, 0, 161) else cm N xs (rdG N xs i).2.1.toNat ((rdG N xs i).1 - 1)
def rd (d : Bool) (N : Int) (xs : List Nat) (i : Int) : Nat × Int × Int := if d then rdD N xs i else rdG N xs i

theorem cm_cases (N : Int) (xs : List Nat) (a n : Nat) : (N < (a : Int) + n ∧ cm N xs a n = (0, 0, 160)) ∨ ((a : Int) + n ≤ N ∧ cm N xs a n = (2 ^ n + numOf n (fun k => bitAt xs (a + k)), (a : Int) + n, 0)) := by
  unfold cm
  split
  · exact .inl ⟨by omega, rfl⟩
  · exact .inr ⟨by omega, rfl⟩

theorem pow_num (n : Nat) (f : Nat → Bool) : 2 ^ n ≤ 2 ^ n + numOf n f ∧ 2 ^ n + numOf n f < 2 ^ (n + 1) := by
  have := numOf_lt n f
  rw [Nat.pow_succ]; omega

theorem bl_num (n : Nat) (f : Nat → Bool) : bl (2 ^ n + numOf n f) = n + 1 := bl_eq _ n (pow_num n f).1 (pow_num n f).2
theorem test_num (n : Nat) (f : Nat → Bool) (j : Nat) (hj : j < n) : (2 ^ n + numOf n f).testBit j = f j := by
  have e : 2 ^ n + numOf n f = 2 ^ n ||| numOf n f := by
    have := Nat.two_pow_add_eq_or_of_lt (numOf_lt n f) 1
    simpa using this
  rw [e, Nat.testBit_or, Nat.testBit_two_pow, testBit_numOf]
  simp [hj]; omega
theorem num_of (x n : Nat) (h1 : 2 ^ n ≤ x) (h2 : x < 2 ^ (n + 1)) : x = 2 ^ n + numOf n (fun k => x.testBit k) := by
  have e := eq_numOf (n + 1) x (fun k => x.testBit k) (fun k => by
    by_cases hk : k < n + 1
    · simp [hk]
    · have : x.testBit k = false := Nat.testBit_lt_two_pow (Nat.lt_of_lt_of_le h2 (Nat.pow_le_pow_right (by decide) (by omega)))
      simp [hk, this])
  have t : x.testBit n = true := by
    by_cases t : x.testBit n = true
    · exact t
    · exfalso
      simp only [numOf, t] at e
      have := numOf_lt n (fun k => x.testBit k)
      simp only [Bool.false_eq_true, if_false] at e
      omega
  simp only [numOf, t, if_true] at e
  omega

/-- What a gamma code reads as. -/
theorem rdG_code (N : Int) (xs : List Nat) (a x : Nat) (hc : chk N xs = true) (hx : x ≠ 0) (h64 : x < 18446744073709551616) (hN : (a : Int) + gL x ≤ N) (hb : ∀ j, j < gL x → bitAt xs (a + j) = gF x j) :
    rdG N xs (a : Int) = (x, (a : Int) + gL x, 0) := by
  have p := bl_pos x hx
  have q := bl64 x h64
  have eg : gL x = bl x - 1 + 1 + (bl x - 1) := by unfold gL; omega
  have ez : gz N xs (a : Int) = bl x - 1 := by
    unfold gz
    refine zr_eq _ _ _ _ (fun j hj => ?_) ?_ (by rw [Nat.lt_min]; constructor <;> omega)
    · rw [Int.toNat_natCast, hb j (by omega)]
      unfold gF; rw [if_pos (by omega)]; simp; omega
    · rw [Int.toNat_natCast, hb _ (by omega)]
      unfold gF; rw [if_pos (by omega)]; simp
  unfold rdG
  rw [if_neg (by rw [hc]; simp), if_neg (by omega), ez, if_neg (by omega), if_neg (by omega)]
  unfold cm
  rw [if_neg (by omega)]
  have en : x = 2 ^ (bl x - 1) + numOf (bl x - 1) (fun k => bitAt xs (((a : Int)).toNat + (bl x - 1) + 1 + k)) := by
    have := num_of x (bl x - 1) (bl_low x hx) (by rw [show bl x - 1 + 1 = bl x by omega]; exact bl_high x)
    rw [this]
    have e2 : bl (2 ^ (bl x - 1) + numOf (bl x - 1) fun k => x.testBit k) = bl x := by rw [← this]
    rw [e2]
    congr 1
    refine numOf_congr _ _ _ fun k hk => ?_
    have hb2 := hb (bl x + k) (by omega)
    rw [Int.toNat_natCast, show a + (bl x - 1) + 1 + k = a + (bl x + k) by omega, hb2]
    unfold gF
    rw [if_neg (by omega), show bl x + k - bl x = k by omega]
  rw [← en]
  refine Prod.ext rfl (Prod.ext ?_ rfl)
  simp only
  omega

theorem cm_code (N : Int) (xs : List Nat) (a x : Nat) (hx : x ≠ 0) (hN : (a : Int) + (bl x - 1 : Nat) ≤ N) (hb : ∀ j, j < bl x - 1 → bitAt xs (a + j) = x.testBit j) :
    cm N xs a (bl x - 1) = (x, (a : Int) + (bl x - 1 : Nat), 0) := by
  have p := bl_pos x hx
  unfold cm
  rw [if_neg (by omega)]
  have this := num_of x (bl x - 1) (bl_low x hx) (by rw [show bl x - 1 + 1 = bl x by omega]; exact bl_high x)
  have e3 : numOf (bl x - 1) (fun k => bitAt xs (a + k)) = numOf (bl x - 1) (fun k => x.testBit k) := numOf_congr _ _ _ fun k hk => hb k hk
  rw [e3, ← this]

/-- What a code reads as. -/
theorem rd_code (d : Bool) (N : Int) (xs : List Nat) (a x : Nat) (hc : chk N xs = true) (hx : x ≠ 0) (h64 : x < 18446744073709551616) (hN : (a : Int) + cL d x ≤ N) (hb : ∀ j, j < cL d x → bitAt xs (a + j) = cF d x j) :
    rd d N xs (a : Int) = (x, (a : Int) + cL d x, 0) := by
  cases d with
  | false =>
    have e : cL false x = gL x := by unfold cL; rw [if_neg hx]; simp
    rw [e] at hN hb ⊢
    exact rdG_code N xs a x hc hx h64 hN (fun j hj => by rw [hb j hj]; simp [cF])
  | true =>
    have e : cL true x = gL (bl x) + (bl x - 1) := by unfold cL; rw [if_neg hx]; simp
    have p := bl_pos x hx
    have q := bl64 x h64
    rw [e] at hN hb ⊢
    have g := rdG_code N xs a (bl x) hc (by omega) (by omega) (by omega) (fun j hj => by rw [hb j (by omega)]; simp [cF, hj])
    simp only [rd, if_true]
    unfold rdD
    rw [g]
    simp only [ne_eq, not_true_eq_false, if_false]
    rw [if_neg (by omega)]
    have ea : ((a : Int) + (gL (bl x) : Nat)).toNat = a + gL (bl x) := by omega
    rw [ea, cm_code N xs (a + gL (bl x)) x hx (by omega) (fun j hj => by
      have := hb (gL (bl x) + j) (by omega)
      rw [Nat.add_assoc, this]
      simp only [cF, if_true]
      rw [if_neg (by omega), show gL (bl x) + j - gL (bl x) = j by omega])]
    refine Prod.ext rfl (Prod.ext ?_ rfl)
    simp only
    omega

theorem rdG_once (N : Int) (xs : List Nat) (i : Int) (x : Nat) (nx : Int) (h : rdG N xs i = (x, nx, 0)) :
    chk N xs = true ∧ 0 ≤ i ∧ x ≠ 0 ∧ x < 18446744073709551616 ∧ nx = i + gL x ∧ nx ≤ N ∧ ∀ j, j < gL x → bitAt xs (i.toNat + j) = gF x j := by
  unfold rdG at h
  split at h
  · simp at h
  rename_i hc
  split at h
  · simp at h
  rename_i hi
  split at h
  · simp at h
  rename_i h64
  split at h
  · simp at h
  rename_i hs
  obtain ⟨s1, s2, s3⟩ := zr_spec xs (min 64 (N - i).toNat) i.toNat
  change gz N xs i ≤ _ at s1
  change ∀ j, j < gz N xs i → _ at s2
  change gz N xs i < _ → bitAt xs (i.toNat + gz N xs i) = true at s3
  revert h s1 s2 s3 h64 hs
  generalize gz N xs i = z
  intro h64 hs h s1 s2 s3
  have zlt : z < min 64 (N - i).toNat := by omega
  have s4 := s3 zlt
  rcases cm_cases N xs (i.toNat + z + 1) z with ⟨c1, c2⟩ | ⟨c1, c2⟩
  · rw [c2] at h; simp at h
  · rw [c2] at h
    obtain ⟨rfl, h2⟩ := Prod.mk.inj h
    obtain ⟨rfl, -⟩ := Prod.mk.inj h2
    have eb := bl_num z (fun k => bitAt xs (i.toNat + z + 1 + k))
    have pn := pow_num z (fun k => bitAt xs (i.toNat + z + 1 + k))
    have pp := Nat.two_pow_pos z
    have p64 : 2 ^ (z + 1) ≤ 2 ^ 64 := Nat.pow_le_pow_right (by decide) (by omega)
    refine ⟨by simpa using hc, by omega, by omega, by omega, ?_, by omega, fun j hj => ?_⟩
    · unfold gL; rw [eb]; omega
    · unfold gL at hj
      rw [eb] at hj
      unfold gF
      rw [eb]
      by_cases hjz : j < z + 1
      · rw [if_pos hjz]
        by_cases he : j = z
        · subst he; rw [s4]; simp
        · rw [s2 j (by omega)]; simp; omega
      · rw [if_neg hjz, test_num z _ _ (by omega)]
        congr 1
        omega

theorem rd_once (d : Bool) (N : Int) (xs : List Nat) (i : Int) (x : Nat) (nx : Int) (h : rd d N xs i = (x, nx, 0)) :
    chk N xs = true ∧ 0 ≤ i ∧ x ≠ 0 ∧ x < 18446744073709551616 ∧ nx = i + cL d x ∧ nx ≤ N ∧ ∀ j, j < cL d x → bitAt xs (i.toNat + j) = cF d x j := by
  cases d with
  | false =>
    obtain ⟨h1, h2, h3, h4, h5, h6, h7⟩ := rdG_once N xs i x nx (by simpa [rd] using h)
    have e : cL false x = gL x := by unfold cL; rw [if_neg h3]; simp
    rw [e]
    exact ⟨h1, h2, h3, h4, h5, h6, fun j hj => by rw [h7 j hj]; simp [cF]⟩
  | true =>
    simp only [rd, if_true] at h
    unfold rdD at h
    split at h
    · rename_i h0; exfalso; obtain ⟨-, h2⟩ := Prod.mk.inj h; obtain ⟨-, h3⟩ := Prod.mk.inj h2; exact h0 h3
    rename_i h0
    split at h
    · simp at h
    rename_i hn
    obtain ⟨n, m, hg⟩ : ∃ n m, rdG N xs i = (n, m, 0) := ⟨(rdG N xs i).1, (rdG N xs i).2.1, Prod.ext rfl (Prod.ext rfl (by simpa using h0))⟩
    rw [hg] at h hn
    obtain ⟨h1, h2, h3, h4, h5, h6, h7⟩ := rdG_once N xs i n m hg
    simp only at h hn
    have em : m.toNat = i.toNat + gL n := by omega
    rw [em] at h
    rcases cm_cases N xs (i.toNat + gL n) (n - 1) with ⟨c1, c2⟩ | ⟨c1, c2⟩
    · rw [c2] at h; simp at h
    · rw [c2] at h
      obtain ⟨rfl, h8⟩ := Prod.mk.inj h
      obtain ⟨rfl, -⟩ := Prod.mk.inj h8
      have eb := bl_num (n - 1) (fun k => bitAt xs (i.toNat + gL n + k))
      have pn := pow_num (n - 1) (fun k => bitAt xs (i.toNat + gL n + k))
      have pp := Nat.two_pow_pos (n - 1)
      have p64 : 2 ^ (n - 1 + 1) ≤ 2 ^ 64 := Nat.pow_le_pow_right (by decide) (by omega)
      have en : n - 1 + 1 = n := by omega
      rw [en] at eb
      have e : cL true (2 ^ (n - 1) + numOf (n - 1) fun k => bitAt xs (i.toNat + gL n + k)) = gL n + (n - 1) := by unfold cL; rw [if_neg (by omega), eb]; simp
      refine ⟨h1, h2, by omega, by omega, by rw [e]; omega, by omega, fun j hj => ?_⟩
      rw [e] at hj
      simp only [cF, if_true]
      rw [eb]
      by_cases hjz : j < gL n
      · rw [if_pos hjz, h7 j hjz]
      · rw [if_neg hjz, test_num (n - 1) _ _ (by omega)]
        congr 1
        omega

theorem cm_err (N : Int) (xs : List Nat) (a n : Nat) (h : (cm N xs a n).2.2 ≠ 0) : (cm N xs a n).1 = 0 ∧ (cm N xs a n).2.1 = 0 := by
  rcases cm_cases N xs a n with ⟨c1, c2⟩ | ⟨c1, c2⟩
  · rw [c2]; simp
  · rw [c2] at h; simp at h
theorem rdG_err (N : Int) (xs : List Nat) (i : Int) (h : (rdG N xs i).2.2 ≠ 0) : (rdG N xs i).1 = 0 ∧ (rdG N xs i).2.1 = 0 := by
  unfold rdG at h ⊢
  split at h
  · rename_i h1; rw [if_pos h1]; simp
  rename_i h1; rw [if_neg h1]
  split at h
  · rename_i h1; rw [if_pos h1]; simp
  rename_i h1; rw [if_neg h1]
  split at h
  · rename_i h1; rw [if_pos h1]; simp
  rename_i h1; rw [if_neg h1]
  split at h
  · rename_i h1; rw [if_pos h1]; simp
  rename_i h1; rw [if_neg h1]
  exact cm_err _ _ _ _ h
theorem rd_err (d : Bool) (N : Int) (xs : List Nat) (i : Int) (h : (rd d N xs i).2.2 ≠ 0) : (rd d N xs i).1 = 0 ∧ (rd d N xs i).2.1 = 0 := by
  cases d with
  | false => simp only [rd, Bool.false_eq_true, if_false] at h ⊢; exact rdG_err N xs i h
  | true =>
    simp only [rd, if_true] at h ⊢
    unfold rdD at h ⊢
    split at h
    · rename_i h1; rw [if_pos h1]; simp
    rename_i h1; rw [if_neg h1]
    split at h
    · rename_i h1; rw [if_pos h1]; simp
    rename_i h1; rw [if_neg h1]
    exact cm_err _ _ _ _ h

end Bit
end Go.Proofs.Ytmdmjbpehbjgpaa
