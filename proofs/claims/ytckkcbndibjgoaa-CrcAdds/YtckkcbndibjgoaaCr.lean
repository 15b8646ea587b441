/-
  Plain arithmetic of the checksum: the step of a bit, of a byte, of a list of bytes; it is linear over exclusive or, and each step can be undone. Nothing of the program is in here.
-/
import Derived.RowKit
namespace Go.Proofs.Ytckkcbndibjgoaa
namespace Crc

/-- One bit. -/
def hv (c : Nat) : Nat := if c % 2 = 1 then c / 2 ^^^ 3988292384 else c / 2
def hvN : Nat → Nat → Nat
  | 0, c => c
  | n + 1, c => hvN n (hv c)
/-- One byte. -/
def by_ (c b : Nat) : Nat := hvN 8 (c ^^^ b)
/-- All bytes. -/
def all (c : Nat) (l : List Nat) : Nat := l.foldl by_ c
def sumL (l : List Nat) : Nat := all 4294967295 l ^^^ 4294967295
def moreL (s : Nat) (l : List Nat) : Nat := all (s ^^^ 4294967295) l ^^^ 4294967295

theorem hv_bit (c i : Nat) : (hv c).testBit i = (c.testBit (i + 1)).xor (c.testBit 0 && Nat.testBit 3988292384 i) := by
  unfold hv
  have h0 : c.testBit 0 = decide (c % 2 = 1) := by rw [Nat.testBit_zero]
  have h1 : (c / 2).testBit i = c.testBit (i + 1) := by rw [Nat.testBit_succ]
  split
  · rename_i h; rw [Nat.testBit_xor, h1, h0]; simp [h]
  · rename_i h; rw [h1, h0]; simp [h]
theorem hv_xor (a b : Nat) : hv (a ^^^ b) = hv a ^^^ hv b := by
  refine Nat.eq_of_testBit_eq fun i => ?_
  rw [Nat.testBit_xor, hv_bit, hv_bit, hv_bit, Nat.testBit_xor, Nat.testBit_xor]
  cases a.testBit (i + 1) <;> cases b.testBit (i + 1) <;> cases a.testBit 0 <;> cases b.testBit 0 <;> cases Nat.testBit 3988292384 i <;> rfl
theorem hvN_xor (n : Nat) : ∀ a b, hvN n (a ^^^ b) = hvN n a ^^^ hvN n b := by
  induction n with
  | zero => intro a b; rfl
  | succ n ih => intro a b; simp only [hvN]; rw [hv_xor, ih]
theorem hv_lt (c : Nat) (h : c < 4294967296) : hv c < 4294967296 := by
  unfold hv
  split
  · exact Nat.xor_lt_two_pow (n := 32) (by omega) (by decide)
  · omega
theorem hvN_lt (n : Nat) : ∀ c, c < 4294967296 → hvN n c < 4294967296 := by
  induction n with
  | zero => intro c h; exact h
  | succ n ih => intro c h; exact ih _ (hv_lt c h)
theorem hv_zero (c : Nat) (h : c < 4294967296) (h0 : hv c = 0) : c = 0 := by
  unfold hv at h0
  split at h0
  · exfalso
    have hb : (c / 2 ^^^ 3988292384).testBit 31 = true := by
      rw [Nat.testBit_xor, Nat.testBit_lt_two_pow (show c / 2 < 2 ^ 31 by omega)]
      decide
    rw [h0] at hb
    simp at hb
  · omega
theorem hvN_zero (n : Nat) : ∀ c, c < 4294967296 → hvN n c = 0 → c = 0 := by
  induction n with
  | zero => intro c _ h; exact h
  | succ n ih => intro c h h0; exact hv_zero c h (ih _ (hv_lt c h) h0)
theorem xor_zero (a b : Nat) (h : a ^^^ b = 0) : a = b := by
  refine Nat.eq_of_testBit_eq fun i => ?_
  have := congrArg (fun n => Nat.testBit n i) h
  simp only [Nat.testBit_xor, Nat.zero_testBit] at this
  revert this
  cases a.testBit i <;> cases b.testBit i <;> simp
theorem hvN_inj (n a b : Nat) (ha : a < 4294967296) (hb : b < 4294967296) (h : hvN n a = hvN n b) : a = b := by
  refine xor_zero a b (hvN_zero n _ (Nat.xor_lt_two_pow (n := 32) ha hb) ?_)
  rw [hvN_xor, h, Nat.xor_self]

theorem by_lt (c b : Nat) (hc : c < 4294967296) (hb : b < 256) : by_ c b < 4294967296 := hvN_lt 8 _ (Nat.xor_lt_two_pow (n := 32) hc (by omega))
theorem by_xor (a b c d : Nat) : by_ (a ^^^ b) (c ^^^ d) = by_ a c ^^^ by_ b d := by
  unfold by_
  rw [← hvN_xor]
  congr 1
  rw [Nat.xor_assoc, Nat.xor_assoc]
  congr 1
  rw [← Nat.xor_assoc, ← Nat.xor_assoc, Nat.xor_comm b c]
theorem xor_left_inj (a b c : Nat) (h : c ^^^ a = c ^^^ b) : a = b := by
  have := congrArg (fun z => c ^^^ z) h
  simpa [← Nat.xor_assoc] using this
theorem by_state (a b x : Nat) (ha : a < 4294967296) (hb : b < 4294967296) (hx : x < 256) (h : by_ a x = by_ b x) : a = b := by
  have := hvN_inj 8 _ _ (Nat.xor_lt_two_pow (n := 32) ha (by omega)) (Nat.xor_lt_two_pow (n := 32) hb (by omega)) h
  rw [Nat.xor_comm a, Nat.xor_comm b] at this
  exact xor_left_inj _ _ _ this
theorem by_byte (a x y : Nat) (ha : a < 4294967296) (hx : x < 256) (hy : y < 256) (h : by_ a x = by_ a y) : x = y :=
  xor_left_inj _ _ _ (hvN_inj 8 _ _ (Nat.xor_lt_two_pow (n := 32) ha (by omega)) (Nat.xor_lt_two_pow (n := 32) ha (by omega)) h)

def Bytes (l : List Nat) : Prop := ∀ x ∈ l, x < 256

theorem all_append (c : Nat) (l m : List Nat) : all c (l ++ m) = all (all c l) m := by simp [all]
theorem all_lt (l : List Nat) : ∀ c, c < 4294967296 → Bytes l → all c l < 4294967296 := by
  induction l with
  | nil => intro c h _; exact h
  | cons x l ih => intro c h hb; exact ih _ (by_lt c x h (hb x (List.mem_cons_self ..))) (fun y hy => hb y (List.mem_cons_of_mem _ hy))
theorem all_state (l : List Nat) : ∀ a b, a < 4294967296 → b < 4294967296 → Bytes l → all a l = all b l → a = b := by
  induction l with
  | nil => intro a b _ _ _ h; exact h
  | cons x l ih =>
    intro a b ha hb hl h
    have hx := hl x (List.mem_cons_self ..)
    exact by_state a b x ha hb hx (ih _ _ (by_lt a x ha hx) (by_lt b x hb hx) (fun y hy => hl y (List.mem_cons_of_mem _ hy)) h)

/-- P5.2: pieces. -/
theorem pieces (a b : List Nat) : moreL (sumL a) b = sumL (a ++ b) := by
  unfold moreL sumL
  rw [Nat.xor_assoc, Nat.xor_self, Nat.xor_zero, all_append]

/-- P5.2: one byte that is another. -/
theorem turns (l m : List Nat) (x y : Nat) (hl : Bytes l) (hm : Bytes m) (hx : x < 256) (hy : y < 256) (h : x ≠ y) : sumL (l ++ x :: m) ≠ sumL (l ++ y :: m) := by
  intro e
  unfold sumL at e
  have e1 : all 4294967295 (l ++ x :: m) = all 4294967295 (l ++ y :: m) := by
    rw [Nat.xor_comm, Nat.xor_comm (all _ (l ++ y :: m))] at e
    exact xor_left_inj _ _ _ e
  rw [all_append, all_append] at e1
  have s := all_lt l 4294967295 (by decide) hl
  exact h (by_byte _ x y s hx hy (all_state m _ _ (by_lt _ x s hx) (by_lt _ y s hy) hm e1))

def xorL : List Nat → List Nat → List Nat → List Nat
  | x :: a, y :: b, z :: c => (x ^^^ y ^^^ z) :: xorL a b c
  | _, _, _ => []
theorem all_three (a : List Nat) : ∀ b c s t u, a.length = b.length → a.length = c.length → all (s ^^^ t ^^^ u) (xorL a b c) = all s a ^^^ all t b ^^^ all u c := by
  induction a with
  | nil =>
    intro b c s t u hb hc
    obtain rfl : b = [] := List.eq_nil_of_length_eq_zero hb.symm
    obtain rfl : c = [] := List.eq_nil_of_length_eq_zero hc.symm
    rfl
  | cons x a ih =>
    intro b c s t u hb hc
    match b, c, hb, hc with
    | y :: b, z :: c, hb, hc =>
      simp only [List.length_cons, Nat.add_right_cancel_iff] at hb hc
      have := ih b c (by_ s x) (by_ t y) (by_ u z) hb hc
      rw [← by_xor, ← by_xor] at this
      exact this
/-- P5.1: three texts of one length. -/
theorem adds (a b c : List Nat) (hb : a.length = b.length) (hc : a.length = c.length) : sumL (xorL a b c) = sumL a ^^^ sumL b ^^^ sumL c := by
  have h := all_three a b c 4294967295 4294967295 4294967295 hb hc
  have e : (4294967295 ^^^ 4294967295 ^^^ 4294967295 : Nat) = 4294967295 := by decide
  rw [e] at h
  unfold sumL
  rw [h]
  generalize all 4294967295 a = p
  generalize all 4294967295 b = q
  generalize all 4294967295 c = r
  refine Nat.eq_of_testBit_eq fun i => ?_
  simp only [Nat.testBit_xor]
  cases p.testBit i <;> cases q.testBit i <;> cases r.testBit i <;> cases Nat.testBit 4294967295 i <;> rfl

theorem head : sumL [49, 50, 51, 52, 53, 54, 55, 56, 57] = 3421780262 := by decide +kernel
theorem head0 : sumL [] = 0 := by decide
end Crc
end Go.Proofs.Ytckkcbndibjgoaa
