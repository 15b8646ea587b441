/-
  Three texts of one length, and all three put together by exclusive or: the plain part.
-/
import Derived.Test.YtckkcbndibjgoaaHc
import Derived.Deep.DeepCutAuto
import Derived.Deep.CutBlock
import Derived.Deep.RegionHeld3
import Derived.BigRegion
import Derived.RegionTactic
namespace Go.Proofs.Ytckkcbndibjgoaa
open Go.RowKit Crc
set_option linter.unusedVariables false
set_option linter.unusedSimpArgs false

def xr (a b c : List Nat) (i : Nat) : Nat := gt a i ^^^ gt b i ^^^ gt c i
def xs (a b c : List Nat) (n : Nat) : List Nat := (List.range n).map (xr a b c)
theorem xs_succ (a b c : List Nat) (n : Nat) : xs a b c (n + 1) = xs a b c n ++ [xr a b c n] := by
  unfold xs
  rw [List.range_succ, List.map_append]; rfl
theorem length_xs (a b c : List Nat) (n : Nat) : (xs a b c n).length = n := by simp [xs]
theorem yv_snoc (l : List Nat) (v : Nat) : yv l ++ [.int .u8 v] = yv (l ++ [v]) := by simp [yv]
theorem xr_lt (a b c : List Nat) (ha : Bytes a) (hb : Bytes b) (hc : Bytes c) (i : Nat) : xr a b c i < 256 :=
  Nat.xor_lt_two_pow (n := 8) (Nat.xor_lt_two_pow (n := 8) (gt_lt ha i) (gt_lt hb i)) (gt_lt hc i)
theorem bytes_xs (a b c : List Nat) (ha : Bytes a) (hb : Bytes b) (hc : Bytes c) (n : Nat) : Bytes (xs a b c n) := by
  intro x hx
  obtain ⟨i, _, rfl⟩ := List.mem_map.1 hx
  exact xr_lt a b c ha hb hc i
theorem all_xs (a b c : List Nat) (n : Nat) (ha : n ≤ a.length) (hb : n ≤ b.length) (hc : n ≤ c.length) :
    all 4294967295 (xs a b c n) = all 4294967295 (a.take n) ^^^ all 4294967295 (b.take n) ^^^ all 4294967295 (c.take n) := by
  induction n with
  | zero => simp [xs, all]
  | succ n ih =>
    rw [xs_succ, all_append, all_take _ a n (by omega), all_take _ b n (by omega), all_take _ c n (by omega), ih (by omega) (by omega) (by omega), ← by_xor, ← by_xor]
    rfl
theorem sum_xs (a b c : List Nat) (n : Nat) (ha : n ≤ a.length) (hb : n ≤ b.length) (hc : n ≤ c.length) :
    sumL (xs a b c n) = sumL (a.take n) ^^^ sumL (b.take n) ^^^ sumL (c.take n) := by
  unfold sumL
  rw [all_xs a b c n ha hb hc]
  generalize all 4294967295 (a.take n) = p
  generalize all 4294967295 (b.take n) = q
  generalize all 4294967295 (c.take n) = r
  refine Nat.eq_of_testBit_eq fun i => ?_
  simp only [Nat.testBit_xor]
  cases p.testBit i <;> cases q.testBit i <;> cases r.testBit i <;> cases Nat.testBit 4294967295 i <;> rfl
theorem sumL_lt (l : List Nat) (h : Bytes l) : sumL l < 4294967296 := xor_lt _ _ (all_lt l _ (by decide) h) (by decide)
theorem bytes_take {a : List Nat} (h : Bytes a) (n : Nat) : Bytes (a.take n) := fun x hx => h x (List.mem_of_mem_take hx)
end Go.Proofs.Ytckkcbndibjgoaa
