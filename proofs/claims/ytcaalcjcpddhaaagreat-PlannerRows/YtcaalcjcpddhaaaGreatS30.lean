/-
  The contracts of the calls of package bits that only read: Check, Get, Ones, Slice, and small of the law. The contract of Same, the law that two rows are one. The contracts of Get and Slice. The contracts of the document's answers that only read: Words, Check, At, Get. The contracts of the document's Slice and Ones. Blocks of cells that may be written, whole: what they hold, what a store makes of them, what stays; numbers in memory. The contracts of the document's Numbers and Same.
-/
import Derived.Test.YtcaalcjcpddhaaaGreatS29
import Derived.Deep.QuietTactic
import Derived.BigQuiet
import Derived.Deep.DrawnRows
import Derived.Deep.RegionHeld3
set_option maxRecDepth 100000
set_option linter.unusedVariables false
set_option linter.unusedSimpArgs false
namespace Go.Proofs.YtcaalcjcpddhaaaGreat
open Go.RowKit Num Bit
end Go.Proofs.YtcaalcjcpddhaaaGreat
namespace Go.Proofs.YtcaalcjcpddhaaaGreat
open Go.RowKit Num Bit
theorem same_end {xs ys : List Nat} (hl : xs.length = ys.length) (k : Nat) (hk : ¬ k < xs.length) (h : ∀ j, j < k → gt xs j = gt ys j) : xs = ys :=
 list_ext xs ys hl fun i hi => h i (by omega)
theorem same_c (N : Int) (ao : Option Addr) (xs : List Nat) (cap : Nat) (M : Int) (bo : Option Addr) (ys : List Nat) (dap : Nat) (w : World) (hx : Wd w ao xs) (hy : Wd w bo ys) (hl : xs.length ≤ 1048576) :
  Calls Tryz.prog 94 #[.agg #[.int .i64 N, .slice ao xs.length cap], .agg #[.int .i64 M, .slice bo ys.length dap]] w fun e w' => e = .returned (.bool (decide (N = M) && decide (xs = ys))) ∧ Below w.heap.size w w' := by
 by_cases h1 : N = M
 ·subst h1
  by_cases h2 : xs.length = ys.length
  ·have h1' : (N != N) = false := by simp
   have h2' : ((xs.length : Int) != (ys.length : Int)) = false := by simp [h2]
   have H2 : Hid (xs.length = ys.length) := h2
   have h3 : xs.length ≤ ys.length := by omega
   clear h2
   go_enter Tryz.func94, Tryz.ntmps94
   go_wp2
   go_loopw [5] (fun i wr => ∃ k : Nat, k ≤ xs.length ∧ i = .int .i64 k ∧ Hid (∀ j, j < k → gt xs j = gt ys j) ∧ wr.cell? ⟨w.heap.size, 1, none⟩ = some (.slice ao xs.length cap) ∧ wr.cell? ⟨w.heap.size + 1, 1, none⟩ = some (.slice bo ys.length dap) ∧ Below w.heap.size w wr) (fun i _ => xs.length - (intOf i).toNat)
   case atStart => exact ⟨0, by omega, rfl, fun j hj => absurd hj (by omega), by simp, by simp, ((Below.refl _ _).alloc (Nat.le_refl _) _).alloc (by simp) _⟩
   case round =>
    obtain ⟨k, hk, rfl, H, c1, d1, hw⟩ := hrel
    by_cases hlt : k < xs.length
    ·obtain ⟨b, off, rfl, hb, hc⟩ := hx (by omega)
     obtain ⟨d, off2, rfl, hd, hc2⟩ := hy (by omega)
     have e1 := (hw.cell (p := ⟨b, off + k, none⟩) hb).trans (hc k hlt)
     have e2 := (hw.cell (p := ⟨d, off2 + k, none⟩) hd).trans (hc2 k (by omega))
     have hlt2 : k < ys.length := by omega
     have hlt3 : (k : Int) < (xs.length : Int) := by omega
     have hlt4 : (k : Int) < (ys.length : Int) := by omega
     clear hc hc2
     go_wp2
     go_quiet (fail)
     go_wp2
     ·have hne : ((gt xs k : Int) != (gt ys k : Int)) = true := by assumption
      go_ret
      refine ⟨ret_bool ?_, below_drewN hw _⟩
      have : ¬ xs = ys := fun e => by subst e; simp at hne
      simp [this]
     ·have heq : ((gt xs k : Int) != (gt ys k : Int)) = false := by assumption
      refine ⟨⟨k + 1, by omega, by go_num, ?_, c1, d1, below_drewN hw _⟩, by simp only [intOf]; omega⟩
      intro j hj
      by_cases e : j = k
      ·subst e; have h2 : (gt xs j : Int) = (gt ys j : Int) := by simpa using heq
       omega
      ·exact H.out j (by omega)
    ·go_wp2
     go_ret
     exact ⟨ret_bool (by simp [same_end H2.out k hlt H.out]), by assumption⟩
  ·have h1' : (N != N) = false := by simp
   have h2' : ((xs.length : Int) != (ys.length : Int)) = true := by simp; omega
   have R : Hid (false = (decide (N = N) && decide (xs = ys))) := by
    have : ¬ xs = ys := fun e => h2 (by rw [e])
    simp [this, Hid]
   clear h2
   go_enter Tryz.func94, Tryz.ntmps94
   go_wp2
   go_ret
   exact ⟨ret_bool R.out, ((Below.refl _ _).alloc (Nat.le_refl _) _).alloc (by simp) _⟩
 ·have h1' : (N != M) = true := by simpa using h1
  have R : Hid (false = (decide (N = M) && decide (xs = ys))) := by simp [h1, Hid]
  clear h1
  go_enter Tryz.func94, Tryz.ntmps94
  go_wp2
  go_ret
  exact ⟨ret_bool R.out, ((Below.refl _ _).alloc (Nat.le_refl _) _).alloc (by simp) _⟩
end Go.Proofs.YtcaalcjcpddhaaaGreat
namespace Go.Proofs.YtcaalcjcpddhaaaGreat
open Go.RowKit Num Bit
end Go.Proofs.YtcaalcjcpddhaaaGreat
namespace Go.Proofs.YtcaalcjcpddhaaaGreat
open Go.RowKit Num Bit
theorem refwords_c (n : Int) (h0 : 0 ≤ n) (h1 : n ≤ 2097152) (w : World) :
  Calls Tryz.prog 45 #[.int .i64 n] w fun e w' => e = .returned (.int .i64 ((n + 63) / 64)) ∧ w' = w := by
 go_enter Tryz.func45, Tryz.ntmps45
 go_wp2
 go_ret
 exact ⟨rfl, rfl⟩
theorem andnot_mask (x k : Nat) (hx : x < 18446744073709551616) (hk : k ≤ 64) : (bits .andNot .u64 (x : Int) (maskI k) == 0) = decide (x < 2 ^ k) := by
 unfold maskI
 rw [show min (k : Int).toNat 64 = k by omega]
 have hp := Nat.pow_le_pow_right (n := 2) (j := 64) (by decide) hk
 rw [show (2 : Nat) ^ 64 = 18446744073709551616 from rfl] at hp
 have hq := Nat.two_pow_pos k
 rw [u64_andNot_nat _ _ hx (by omega), Bool.eq_iff_iff, beq_iff_eq, decide_eq_true_eq]
 have e : 18446744073709551615 - (2 ^ k - 1) = 18446744073709551616 - 2 ^ k := by omega
 rw [e]
 have tb : ∀ i, (x &&& (18446744073709551616 - 2 ^ k)).testBit i = (x.testBit i && decide (k ≤ i)) := by
  intro i
  rw [Nat.testBit_and]
  by_cases hi : i < 64
  ·congr 1
   have h := Nat.testBit_two_pow_sub_succ (n := 64) (x := 2 ^ k - 1) (by rw [show (2 : Nat) ^ 64 = 18446744073709551616 from rfl]; omega) i
   rw [show 2 ^ k - 1 + 1 = 2 ^ k by omega, show (2 : Nat) ^ 64 = 18446744073709551616 from rfl] at h
   rw [h, Nat.testBit_two_pow_sub_one]
   by_cases c : i < k
   ·simp [c, show ¬ k ≤ i by omega]
   ·simp [hi, c, show k ≤ i by omega]
  ·rw [test_big x i hx (by omega)]; simp
 constructor
 ·intro h
  have h0 : x &&& (18446744073709551616 - 2 ^ k) = 0 := by omega
  refine Nat.lt_pow_two_of_testBit _ fun i hi => ?_
  have h1 := tb i
  rw [h0, Nat.zero_testBit] at h1
  simpa [hi] using h1.symm
 ·intro h
  have h0 : x &&& (18446744073709551616 - 2 ^ k) = 0 := by
   refine Nat.eq_of_testBit_eq fun i => ?_
   rw [tb i, Nat.zero_testBit]
   by_cases c : k ≤ i
   ·rw [Nat.testBit_lt_two_pow (Nat.lt_of_lt_of_le h (Nat.pow_le_pow_right (by decide) c))]; rfl
   ·simp [c]
  rw [h0]; rfl
theorem refchk_end (N : Int) (xs : List Nat) (hf : Fit xs) (h1 : 0 ≤ N) (h2 : N ≤ 1048576) (h3 : (xs.length : Int) = (N + 63) / 64) (h4 : ¬ N % 64 = 0) :
  (bits .andNot .u64 (gt xs (xs.length - 1) : Int) (maskI (N % 64)) == 0) = chk N xs := by
 have e : N % 64 = (((N % 64).toNat : Nat) : Int) := by omega
 rw [e, andnot_mask _ _ (hf _) (by omega)]
 unfold chk
 rw [decide_eq_decide]
 constructor
 ·intro h; exact ⟨h1, h2, h3, .inr (by simpa using h)⟩
 ·rintro ⟨_, _, _, h | h⟩
  ·exact absurd h h4
  ·simpa using h
theorem refcheck_c (N : Int) (ao : Option Addr) (xs : List Nat) (cap : Nat) (w : World) (hx : Wd w ao xs) (hf : Fit xs) :
  Calls Tryz.prog 21 #[.agg #[.int .i64 N, .slice ao xs.length cap]] w fun e w' => e = .returned (.bool (chk N xs)) ∧ Below w.heap.size w w' := by
 by_cases h1 : N < 0
 ·have hd : decide (N < 0) = true := by simpa using h1
  have r : false = chk N xs := by unfold chk; rw [eq_comm, decide_eq_false_iff_not]; omega
  have R : Hid (false = chk N xs) := r
  clear r hx
  go_enter Tryz.func21, Tryz.ntmps21
  go_wp2
  go_quiet (fail)
  go_wp2
  go_ret
  exact ⟨ret_bool R.out, below_drewN ((Below.refl _ _).alloc (Nat.le_refl _) _) _⟩
 have hd : decide (N < 0) = false := by simpa using h1
 by_cases h2 : N > 1048576
 ·have hd2 : decide (1048576 < N) = true := by simpa using h2
  have r : false = chk N xs := by unfold chk; rw [eq_comm, decide_eq_false_iff_not]; omega
  have R : Hid (false = chk N xs) := r
  clear r hx
  go_enter Tryz.func21, Tryz.ntmps21
  go_wp2
  go_quiet (fail)
  go_wp2
  go_ret
  exact ⟨ret_bool R.out, below_drewN ((Below.refl _ _).alloc (Nat.le_refl _) _) _⟩
 have hd2 : decide (1048576 < N) = false := by simpa using h2
 by_cases h3 : (xs.length : Int) = (N + 63) / 64
 ·have h3' : ((xs.length : Int) != (N + 63) / 64) = false := by simpa using h3
  by_cases h4 : N % 64 = 0
  ·have h4' : (N % 64 == 0) = true := by simpa using h4
   have h4'' : N.tmod 64 = 0 := by rw [Int.tmod_eq_emod_of_nonneg (by omega)]; exact h4
   have r : true = chk N xs := by unfold chk; rw [eq_comm, decide_eq_true_eq]; omega
   have R : Hid (true = chk N xs) := r
   clear r hx h3 h4
   go_enter Tryz.func21, Tryz.ntmps21
   go_wp2
   go_quiet ((go_at_call 45; exact Calls.quiet_of_same (refwords_c _ (by omega) (by omega) _)))
   go_wp2
   go_quiet (fail)
   go_wp2
   go_ret
   exact ⟨ret_bool R.out, below_drewN (below_drewN ((Below.refl _ _).alloc (Nat.le_refl _) _) _) _⟩
  ·have h4' : (N % 64 == 0) = false := by simpa using h4
   have hl : 1 ≤ xs.length := by omega
   have hl2 : xs.length ≤ 16384 := by omega
   have hl3 : (1 : Int) ≤ (xs.length : Int) := by omega
   obtain ⟨b, off, rfl, hb, hc⟩ := hx hl
   have R : Hid ((bits .andNot .u64 (gt xs (xs.length - 1) : Int) (maskI (N % 64)) == 0) = chk N xs) := refchk_end N xs hf (by omega) (by omega) h3 h4
   have hc1 := hc (xs.length - 1) (by omega)
   have ht : N.tmod 64 = N % 64 := Int.tmod_eq_emod_of_nonneg (by omega)
   have hs : IntKind.i64.wrap ((xs.length : Int) - 1) = (xs.length : Int) - 1 := wraps_i64 _ (by omega) (by omega)
   have hn : ((xs.length : Int) - 1).toNat = xs.length - 1 := by omega
   have HM : Hid (∀ w0 : World, Calls Tryz.prog 46 #[.int .i64 (N % 64)] w0 fun e w' => e = .returned (.int .u64 (maskI (N % 64))) ∧ w' = w0) := fun w0 => refmask_c (N % 64) (by omega) (by omega) w0
   have hix : (xs.length : Int) - 1 < (xs.length : Int) := by omega
   have hix0 : (0 : Int) ≤ (xs.length : Int) - 1 := by omega
   clear hx h3 h4 hc
   go_enter Tryz.func21, Tryz.ntmps21
   go_wp2
   go_quiet ((go_at_call 45; exact Calls.quiet_of_same (refwords_c _ (by omega) (by omega) _)))
   go_wp2
   go_region_held3 (fun w' => w'.cell? ⟨w.heap.size, 0, none⟩ = some (.int .i64 N) ∧ w'.cell? ⟨w.heap.size, 1, none⟩ = some (.slice (some ⟨b, off, none⟩) xs.length cap) ∧ w'.cell? ⟨b, off + (xs.length - 1), none⟩ = some (.int .u64 (gt xs (xs.length - 1)))) (go_keep) (first | (go_at_call 46; refine (HM.out _).mono ?_; rintro e w2 ⟨rfl, rfl⟩))
   go_wp2
   go_ret
   exact ⟨ret_bool R.out, below_drewN ((Below.refl _ _).alloc (Nat.le_refl _) _) _⟩
 ·have h3' : ((xs.length : Int) != (N + 63) / 64) = true := by simpa using h3
  have r : false = chk N xs := by unfold chk; rw [eq_comm, decide_eq_false_iff_not]; omega
  have R : Hid (false = chk N xs) := r
  clear r hx
  go_enter Tryz.func21, Tryz.ntmps21
  go_wp2
  go_quiet ((go_at_call 45; exact Calls.quiet_of_same (refwords_c _ (by omega) (by omega) _)))
  go_wp2
  go_ret
  exact ⟨ret_bool R.out, below_drewN ((Below.refl _ _).alloc (Nat.le_refl _) _) _⟩
theorem at_end (xs : List Nat) (i : Nat) : (((gt xs (i / 64) : Int) / 2 ^ (i % 64)).tmod 2 == 1) = bitAt xs i := by
 rw [bit_tmod _ _ (Int.natCast_nonneg _)]
 unfold bitAt
 rw [bit_test, Int.toNat_natCast, Bool.eq_iff_iff, beq_iff_eq, decide_eq_true_eq]
 omega
theorem at_c (N : Int) (ao : Option Addr) (xs : List Nat) (cap : Nat) (i : Nat) (w : World) (hx : Wd w ao xs) (hi : i / 64 < xs.length) (hi2 : i ≤ 1048576) :
  Calls Tryz.prog 22 #[.agg #[.int .i64 N, .slice ao xs.length cap], .int .i64 i] w fun e w' => e = .returned (.bool (bitAt xs i)) ∧ Below w.heap.size w w' := by
 obtain ⟨b, off, rfl, hb, hc⟩ := hx (by omega)
 have hl : (i : Int) / 64 < (xs.length : Int) := by omega
 have hcj := hc (i / 64) hi
 have R : Hid ((((gt xs (i / 64) : Int) / 2 ^ (i % 64)).tmod 2 == 1) = bitAt xs i) := at_end xs i
 clear hx hc
 go_enter Tryz.func22, Tryz.ntmps22
 go_wp2
 go_ret
 exact ⟨ret_bool R.out, below_alloc w _⟩
end Go.Proofs.YtcaalcjcpddhaaaGreat
namespace Go.Proofs.YtcaalcjcpddhaaaGreat
open Go.RowKit Num Bit
theorem at_i (N : Int) (ao : Option Addr) (xs : List Nat) (cap : Nat) (i : Nat) (P : Int) (w : World) (hP : P = (i : Int)) (hx : Wd w ao xs) (hi : i / 64 < xs.length) (hi2 : i ≤ 1048576) :
  Calls Tryz.prog 22 #[.agg #[.int .i64 N, .slice ao xs.length cap], .int .i64 P] w fun e w' => e = .returned (.bool (bitAt xs i)) ∧ Below w.heap.size w w' := by
 subst hP
 exact at_c N ao xs cap i w hx hi hi2
theorem or_num (q : Nat) (f : Nat → Bool) (hq : q < 64) (hf : f q = true) : bits .or .u64 (Bit.numOf q f : Int) (IntKind.u64.wrap (2 ^ q)) = ((Bit.numOf (q + 1) f : Nat) : Int) := by
 have l := numOf_lt q f
 have l2 := two_pow_lt q hq
 rw [shl_one q hq, u64_or_nat _ _ (by omega) l2]
 congr 1
 simp only [Bit.numOf, hf, if_true]
 have e := Nat.two_pow_add_eq_or_of_lt l 1
 rw [Nat.mul_one] at e
 rw [Nat.or_comm, ← e, Nat.add_comm]
theorem refslice_ok (ao : Option Addr) (xs : List Nat) (cap : Nat) (N : Int) (m n : Nat) (w : World) (hx : Wd w ao xs) (hf : Fit xs) (hk : chk N xs = true) (hn : n ≤ 64) (hm : (m : Int) + n ≤ N) :
  Calls Tryz.prog 104 #[.agg #[.int .i64 N, .slice ao xs.length cap], .int .i64 m, .int .i64 n] w fun e w' => e = .returned (.tuple #[.int .u64 (Bit.numOf n (fun k => bitAt xs (m + k)) : Nat), .int .i64 0]) ∧ Below w.heap.size w w' := by
 obtain ⟨hc0, hc1, hc2, _⟩ := chk_out N xs hk
 have K : ∀ o, Wd (w.alloc o) ao xs := fun o => hx.keep (below_alloc w o)
 have HL : Hid ((xs.length : Int) = (N + 63) / 64) := hc2
 have d1 : decide ((n : Int) < 0) = false := by simp
 have d2 : decide (64 < (n : Int)) = false := by simp; omega
 have d3 : decide ((m : Int) < 0) = false := by simp
 have d4 : decide (N < (m : Int)) = false := by simp; omega
 have d5 : decide (N - (m : Int) < (n : Int)) = false := by simp; omega
 have h5 : (n : Int) ≤ N - m := by omega
 have h6 : (m : Int) ≤ N := by omega
 clear hc2
 go_enter Tryz.func104, Tryz.ntmps104
 go_wp2_with fail
 refine (refcheck_c _ _ _ _ _ (K _) hf).mono ?_
 rintro e w1 ⟨rfl, hb⟩
 have KK := box_cells hb
 clear hb
 obtain ⟨c0, c1, hz, hw⟩ := KK
 go_wp2
 go_loopw [8, 9] (fun x k wr => ∃ q : Nat, q ≤ n ∧ k = .int .i64 q ∧ x = .int .u64 (Bit.numOf q (fun k => bitAt xs (m + k)) : Nat) ∧ (wr.cell? ⟨w.heap.size, 0, none⟩ = some (.int .i64 N) ∧ wr.cell? ⟨w.heap.size, 1, none⟩ = some (.slice ao xs.length cap)) ∧ w.heap.size < wr.heap.size ∧ Below w.heap.size w wr) (fun _ k _ => n - (intOf k).toNat)
 case atStart => exact ⟨0, Nat.zero_le _, rfl, rfl, ⟨c0, c1⟩, hz, hw⟩
 case round =>
  obtain ⟨q, hq, rfl, rfl, ⟨r0, r1⟩, hz2, hwr⟩ := hrel
  by_cases hlt : q < n
  ·have hlt2 : (q : Int) < (n : Int) := by omega
   go_wp2_with fail
   refine (at_i _ _ _ _ (m + q) _ _ (by omega) (hx.keep hwr) (by have := HL.out; omega) (by omega)).mono ?_
   rintro e w2 ⟨rfl, hb⟩
   have s0 := (hb.cell (p := ⟨w.heap.size, 0, none⟩) hz2).trans r0
   have s1 := (hb.cell (p := ⟨w.heap.size, 1, none⟩) hz2).trans r1
   have hz3 : w.heap.size < w2.heap.size := Nat.lt_of_lt_of_le hz2 hb.size
   have hw2 := hwr.trans (hb.mono hwr.size)
   clear hb r0 r1 hwr hz2
   cases hb : bitAt xs (m + q) with
   | true =>
    have R : Hid (bits .or .u64 (Bit.numOf q (fun k => bitAt xs (m + k)) : Int) (IntKind.u64.wrap (2 ^ q)) = ((Bit.numOf (q + 1) (fun k => bitAt xs (m + k)) : Nat) : Int)) := or_num q _ (by omega) hb
    go_wp2
    refine ⟨⟨q + 1, by omega, by go_num, ?_, ⟨s0, s1⟩, hz3, hw2⟩, by simp only [intOf]; omega⟩
    rw [← R.out]
   | false =>
    have R : Hid ((Bit.numOf q (fun k => bitAt xs (m + k)) : Nat) = Bit.numOf (q + 1) (fun k => bitAt xs (m + k))) := by unfold Hid; simp [Bit.numOf, hb]
    go_wp2
    refine ⟨⟨q + 1, by omega, by go_num, ?_, ⟨s0, s1⟩, hz3, hw2⟩, by simp only [intOf]; omega⟩
    rw [← R.out]
  ·have hq2 : q = n := by omega
   have R : Hid ((Bit.numOf q (fun k => bitAt xs (m + k)) : Nat) = Bit.numOf n (fun k => bitAt xs (m + k))) := by rw [hq2]; rfl
   clear hq2
   go_wp2
   go_ret2
   exact ⟨ret_pair (congrArg (fun x : Nat => Value.int IntKind.u64 (x : Int)) R.out) rfl, hwr⟩
theorem refslice_c (N : Int) (ao : Option Addr) (xs : List Nat) (cap : Nat) (i n : Int) (w : World) (hx : Wd w ao xs) (hf : Fit xs) (_hi : -9223372036854775808 ≤ i) (_hi2 : i ≤ 9223372036854775807) (_hn : -9223372036854775808 ≤ n) (_hn2 : n ≤ 9223372036854775807) :
  Calls Tryz.prog 104 #[.agg #[.int .i64 N, .slice ao xs.length cap], .int .i64 i, .int .i64 n] w fun e w' => e = .returned (.tuple #[.int .u64 (slcX N xs i n), .int .i64 (slcE N xs i n)]) ∧ Below w.heap.size w w' := by
 have K : ∀ o, Wd (w.alloc o) ao xs := fun o => hx.keep (below_alloc w o)
 by_cases hE : slcE N xs i n = 0
 ·have hk : chk N xs = true := by unfold slcE at hE; cases h : chk N xs with | true => rfl | false => simp [h] at hE
  have hi : 0 ≤ n ∧ n ≤ 64 ∧ 0 ≤ i ∧ i ≤ N - n := by
   unfold slcE at hE
   by_cases h : chk N xs = false ∨ n < 0 ∨ 64 < n
   ·rw [if_pos h] at hE; omega
   ·rw [if_neg h] at hE
    by_cases h2 : i < 0 ∨ N - n < i
    ·rw [if_pos h2] at hE; omega
    ·simp [hk] at h; omega
  obtain ⟨hn0, hn1, hi0, hi1⟩ := hi
  obtain ⟨m, rfl⟩ := Int.eq_ofNat_of_zero_le hi0
  obtain ⟨k, rfl⟩ := Int.eq_ofNat_of_zero_le hn0
  refine (refslice_ok ao xs cap N m k w hx hf hk (by omega) (by omega)).mono ?_
  rintro e w' ⟨rfl, hb⟩
  refine ⟨ret_pair ?_ (congrArg (Value.int IntKind.i64) hE.symm), hb⟩
  rw [slcX, if_pos hE, Int.toNat_natCast, Int.toNat_natCast]
 ·have R : Hid (0 = ((slcX N xs i n : Nat) : Int)) := by unfold slcX Hid; rw [if_neg hE]; rfl
  cases hk : chk N xs with
  | false =>
   have RE : Hid (2 = slcE N xs i n) := by unfold slcE Hid; rw [if_pos (.inl hk)]
   clear hE
   go_enter Tryz.func104, Tryz.ntmps104
   go_wp2_with (go_at_call 21; refine (refcheck_c _ _ _ _ _ (K _) hf).mono ?_; rintro e w' ⟨rfl, hb⟩; obtain ⟨c0, c1, hz, hw⟩ := box_cells hb; clear hb)
   go_ret2
   exact ⟨ret_pair (congrArg (Value.int IntKind.u64) R.out) (congrArg (Value.int IntKind.i64) RE.out), by assumption⟩
  | true =>
   obtain ⟨hc0, hc1, _, _⟩ := chk_out N xs hk
   by_cases hn : n < 0
   ·have RE : Hid (2 = slcE N xs i n) := by unfold slcE Hid; rw [if_pos (.inr (.inl hn))]
    clear hE
    go_enter Tryz.func104, Tryz.ntmps104
    go_wp2_with (go_at_call 21; refine (refcheck_c _ _ _ _ _ (K _) hf).mono ?_; rintro e w' ⟨rfl, hb⟩; obtain ⟨c0, c1, hz, hw⟩ := box_cells hb; clear hb)
    go_ret2
    exact ⟨ret_pair (congrArg (Value.int IntKind.u64) R.out) (congrArg (Value.int IntKind.i64) RE.out), by assumption⟩
   ·by_cases hn2 : 64 < n
    ·have RE : Hid (2 = slcE N xs i n) := by unfold slcE Hid; rw [if_pos (.inr (.inr hn2))]
     clear hE
     go_enter Tryz.func104, Tryz.ntmps104
     go_wp2_with (go_at_call 21; refine (refcheck_c _ _ _ _ _ (K _) hf).mono ?_; rintro e w' ⟨rfl, hb⟩; obtain ⟨c0, c1, hz, hw⟩ := box_cells hb; clear hb)
     go_ret2
     exact ⟨ret_pair (congrArg (Value.int IntKind.u64) R.out) (congrArg (Value.int IntKind.i64) RE.out), by assumption⟩
    ·have hcond : i < 0 ∨ N - n < i := by
      unfold slcE at hE
      rw [if_neg (by simp [hk]; omega)] at hE
      by_cases h2 : i < 0 ∨ N - n < i
      ·exact h2
      ·rw [if_neg h2] at hE; exact absurd rfl hE
     have RE : Hid (3 = slcE N xs i n) := by unfold slcE Hid; rw [if_neg (by simp [hk]; omega), if_pos hcond]
     clear hE
     by_cases h3 : i < 0
     ·clear hcond
      go_enter Tryz.func104, Tryz.ntmps104
      go_wp2_with (go_at_call 21; refine (refcheck_c _ _ _ _ _ (K _) hf).mono ?_; rintro e w' ⟨rfl, hb⟩; obtain ⟨c0, c1, hz, hw⟩ := box_cells hb; clear hb)
      go_ret2
      exact ⟨ret_pair (congrArg (Value.int IntKind.u64) R.out) (congrArg (Value.int IntKind.i64) RE.out), by assumption⟩
     ·have d3 : decide (i < 0) = false := by simpa using h3
      by_cases h4 : N < i
      ·clear hcond
       go_enter Tryz.func104, Tryz.ntmps104
       go_wp2_with (go_at_call 21; refine (refcheck_c _ _ _ _ _ (K _) hf).mono ?_; rintro e w' ⟨rfl, hb⟩; obtain ⟨c0, c1, hz, hw⟩ := box_cells hb; clear hb)
       go_ret2
       exact ⟨ret_pair (congrArg (Value.int IntKind.u64) R.out) (congrArg (Value.int IntKind.i64) RE.out), by assumption⟩
      ·have d4 : decide (N < i) = false := by simpa using h4
       have h5 : N - i < n := by omega
       clear hcond
       go_enter Tryz.func104, Tryz.ntmps104
       go_wp2_with (go_at_call 21; refine (refcheck_c _ _ _ _ _ (K _) hf).mono ?_; rintro e w' ⟨rfl, hb⟩; obtain ⟨c0, c1, hz, hw⟩ := box_cells hb; clear hb)
       go_ret2
       exact ⟨ret_pair (congrArg (Value.int IntKind.u64) R.out) (congrArg (Value.int IntKind.i64) RE.out), by assumption⟩
theorem refones_c (N : Int) (ao : Option Addr) (xs : List Nat) (cap : Nat) (n : Int) (w : World) (hx : Wd w ao xs) (hf : Fit xs) :
  Calls Tryz.prog 8 #[.agg #[.int .i64 N, .slice ao xs.length cap], .int .i64 n] w fun e w' => e = .returned (.int .i64 (onesI N xs n)) ∧ Below w.heap.size w w' := by
 go_enter Tryz.func8, Tryz.ntmps8
 go_wp2
 go_loopw [5, 6] (fun c i wr => ∃ k t : Nat, i = .int .i64 k ∧ c = .int .i64 t ∧ t ≤ k ∧ Hid (k = 0 ∨ ((k : Int) ≤ n ∧ (k : Int) ≤ N ∧ chk N xs = true)) ∧ k ≤ 1048576 ∧ Hid (t = cntB xs k) ∧ (wr.cell? ⟨w.heap.size, 0, none⟩ = some (.int .i64 N) ∧ wr.cell? ⟨w.heap.size, 1, none⟩ = some (.slice ao xs.length cap)) ∧ w.heap.size < wr.heap.size ∧ Below w.heap.size w wr) (fun _ i _ => 1048577 - (intOf i).toNat)
 case atStart => exact ⟨0, 0, rfl, rfl, Nat.le_refl _, .inl rfl, by omega, rfl, ⟨by simp, by simp⟩, by simp, below_alloc w _⟩
 case round =>
  obtain ⟨k, t, rfl, rfl, ht, HK, hk2, HT, ⟨r0, r1⟩, hz, hwr⟩ := hrel
  by_cases c1 : (k : Int) < n
  ·by_cases c2 : (k : Int) < N
   ·cases hk : chk N xs with
    | true =>
     obtain ⟨hc0, hc1, hc2, _⟩ := chk_out N xs hk
     have H1 : Hid (k / 64 < xs.length) := by unfold Hid; omega
     clear hc2
     go_wp2_with fail
     refine (refcheck_c _ _ _ _ _ (hx.keep hwr) hf).mono ?_
     rintro e w1 ⟨rfl, hb⟩
     have s0 := (hb.cell (p := ⟨w.heap.size, 0, none⟩) hz).trans r0
     have s1 := (hb.cell (p := ⟨w.heap.size, 1, none⟩) hz).trans r1
     have hz1 : w.heap.size < w1.heap.size := Nat.lt_of_lt_of_le hz hb.size
     have hw1 := hwr.trans (hb.mono hwr.size)
     clear hb r0 r1 hz hwr
     go_wp2_with fail
     refine (at_c _ _ _ _ _ _ (hx.keep hw1) H1.out hk2).mono ?_
     rintro e w2 ⟨rfl, hb⟩
     have q0 := (hb.cell (p := ⟨w.heap.size, 0, none⟩) hz1).trans s0
     have q1 := (hb.cell (p := ⟨w.heap.size, 1, none⟩) hz1).trans s1
     have hz2 : w.heap.size < w2.heap.size := Nat.lt_of_lt_of_le hz1 hb.size
     have hw2 := hw1.trans (hb.mono hw1.size)
     clear hb s0 s1 hz1 hw1
     cases hb : bitAt xs k with
     | true =>
      have R : Hid (t + 1 = cntB xs (k + 1)) := by unfold Hid; simp only [cntB, hb]; rw [HT.out]; rfl
      go_wp2
      exact ⟨⟨k + 1, t + 1, by go_num, by go_num, by omega, .inr ⟨by omega, by omega, by first | trivial | exact hk⟩, by omega, R, ⟨q0, q1⟩, hz2, hw2⟩, by simp only [intOf]; omega⟩
     | false =>
      have R : Hid (t = cntB xs (k + 1)) := by unfold Hid; simp only [cntB, hb]; rw [HT.out]; rfl
      go_wp2
      exact ⟨⟨k + 1, t, by go_num, rfl, by omega, .inr ⟨by omega, by omega, by first | trivial | exact hk⟩, by omega, R, ⟨q0, q1⟩, hz2, hw2⟩, by simp only [intOf]; omega⟩
    | false =>
     have R : Hid ((t : Int) = onesI N xs n) := by
      unfold onesI Hid
      rw [hk]
      have := HT.out
      rcases HK.out with h | ⟨_, _, h⟩
      ·subst h; simp [this, cntB]
      ·rw [hk] at h; cases h
     go_wp2_with fail
     refine (refcheck_c _ _ _ _ _ (hx.keep hwr) hf).mono ?_
     rintro e w1 ⟨rfl, hb⟩
     have hw1 := hwr.trans (hb.mono hwr.size)
     clear hb
     go_wp2
     go_ret
     exact ⟨ret_int R.out, hw1⟩
   ·have R : Hid ((t : Int) = onesI N xs n) := by
     unfold onesI Hid
     have := HT.out
     rcases HK.out with h | ⟨h1, h2, h3⟩
     ·subst h
      split
      ·rw [show (min n N).toNat = 0 by omega, this]
      ·simp [this, cntB]
     ·rw [h3, show (min n N).toNat = k by omega, this]; rfl
    go_wp2
    go_ret
    exact ⟨ret_int R.out, hwr⟩
  ·have c1' : decide ((k : Int) < n) = false := by simpa using c1
   have R : Hid ((t : Int) = onesI N xs n) := by
    unfold onesI Hid
    have := HT.out
    rcases HK.out with h | ⟨h1, h2, h3⟩
    ·subst h
     split
     ·rw [show (min n N).toNat = 0 by omega, this]
     ·simp [this, cntB]
    ·rw [h3, show (min n N).toNat = k by omega, this]; rfl
   go_wp2
   go_ret
   exact ⟨ret_int R.out, hwr⟩
end Go.Proofs.YtcaalcjcpddhaaaGreat
namespace Go.Proofs.YtcaalcjcpddhaaaGreat
open Go.RowKit
def Cel (w : World) (b : Nat) (cs : List Value) (T : TypeId) : Prop := w.heap[b]? = some (.cells cs.toArray T (0, 0))
theorem Cel.lt {w : World} {b : Nat} {cs : List Value} {T : TypeId} (h : Cel w b cs T) : b < w.heap.size := (Array.getElem?_eq_some_iff.1 h).1
theorem Cel.cell {w : World} {b : Nat} {cs : List Value} {T : TypeId} (h : Cel w b cs T) (i : Nat) {v : Value} (hv : cs[i]? = some v) : w.cell? ⟨b, i, none⟩ = some v := by
 unfold World.cell?
 rw [show w.heap[({ block := b, off := i, spot := none } : Addr).block]? = _ from h]
 simpa using hv
theorem Cel.frozen {w : World} {b : Nat} {cs : List Value} {T : TypeId} (h : Cel w b cs T) (i : Nat) : w.frozen? ⟨b, i, none⟩ = false := by
 unfold World.frozen?
 rw [show w.heap[({ block := b, off := i, spot := none } : Addr).block]? = _ from h]
 simp
theorem Cel.set {w : World} {b : Nat} {cs : List Value} {T : TypeId} (h : Cel w b cs T) (i : Nat) (v : Value) : Cel (w.setCell ⟨b, i, none⟩ v) b (cs.set i v) T := by
 unfold Cel at h ⊢
 simp only [World.setCell, Array.getElem?_modify]
 rw [if_pos trivial, h]
 simp
theorem Cel.other {w : World} {b : Nat} {cs : List Value} {T : TypeId} (h : Cel w b cs T) {a : Addr} (ha : b ≠ a.block) (v : Value) : Cel (w.setCell a v) b cs T := (Below.heap_setCell w a v b ha).trans h
theorem Cel.keep {w w' : World} {b base : Nat} {cs : List Value} {T : TypeId} (h : Cel w b cs T) (hb : Below base w w') (hlt : b < base) : Cel w' b cs T := (hb.block b hlt).trans h
theorem Cel.kept {w w' : World} {b : Nat} {cs : List Value} {T : TypeId} (h : Cel w b cs T) (hb : Below w.heap.size w w') : Cel w' b cs T := h.keep hb h.lt
theorem Cel.drew {w : World} {b : Nat} {cs : List Value} {T : TypeId} (h : Cel w b cs T) : Cel w.drew b cs T := h
theorem Cel.new (w : World) (cs : List Value) (T : TypeId) : Cel (w.alloc (.cells cs.toArray T)) w.heap.size cs T := by
 show (w.heap.push (.cells cs.toArray T))[w.heap.size]? = _
 simp
theorem Cel.new2 (w : World) (o : Obj) (cs : List Value) (T : TypeId) : Cel ((w.alloc o).alloc (.cells cs.toArray T)) (w.heap.size + 1) cs T := by
 have := Cel.new (w.alloc o) cs T
 simpa using this
theorem Cel.alloc {w : World} {b : Nat} {cs : List Value} {T : TypeId} (h : Cel w b cs T) (o : Obj) : Cel (w.alloc o) b cs T := h.kept ((Below.refl _ _).alloc (Nat.le_refl _) _)
end Go.Proofs.YtcaalcjcpddhaaaGreat
namespace Go.Proofs.YtcaalcjcpddhaaaGreat
open Go.RowKit Num Bit
set_option maxHeartbeats 2000000 in
theorem rnum_c (ao : Option Addr) (l : List Int) (cap : Nat) (bo : Option Addr) (m : List Int) (dap : Nat) (w : World) (hx : Nd w ao l) (hy : Nd w bo m) (hl : l.length ≤ 1048576) :
  Calls Tryz.prog 95 #[.slice ao l.length cap, .slice bo m.length dap] w fun e w' => e = .returned (.bool (decide (l = m))) ∧ Below w.heap.size w w' := by
 by_cases h2 : l.length = m.length
 ·have h2' : ((l.length : Int) != (m.length : Int)) = false := by simp [h2]
  have H2 : Hid (l.length = m.length) := h2
  have h3 : l.length ≤ m.length := by omega
  clear h2
  go_enter Tryz.func95, Tryz.ntmps95
  go_wp2
  go_loopw [5] (fun i wr => ∃ k : Nat, k ≤ l.length ∧ i = .int .i64 k ∧ Hid (∀ j, j < k → gi l j = gi m j) ∧ Below w.heap.size w wr) (fun i _ => l.length - (intOf i).toNat)
  case atStart => exact ⟨0, by omega, rfl, fun j hj => absurd hj (by omega), Below.refl _ _⟩
  case round =>
   obtain ⟨k, hk, rfl, H, hw⟩ := hrel
   by_cases hlt : k < l.length
   ·obtain ⟨b, off, rfl, hb, hc⟩ := hx (by omega)
    obtain ⟨d, off2, rfl, hd, hc2⟩ := hy (by omega)
    have e1 := (hw.cell (p := ⟨b, off + k, none⟩) hb).trans (hc k hlt)
    have e2 := (hw.cell (p := ⟨d, off2 + k, none⟩) hd).trans (hc2 k (by omega))
    have hlt2 : k < m.length := by omega
    have hlt3 : (k : Int) < (l.length : Int) := by omega
    have hlt4 : (k : Int) < (m.length : Int) := by omega
    clear hc hc2
    by_cases hv : gi l k = gi m k
    ·have hne : (gi l k != gi m k) = false := by simp [hv]
     go_wp2
     go_quiet (fail)
     go_wp2
     refine ⟨⟨k + 1, by omega, by go_num, ?_, below_drewN hw _⟩, by simp only [intOf]; omega⟩
     intro j hj
     by_cases e : j = k
     ·subst e; exact hv
     ·exact H.out j (by omega)
    ·have hne : (gi l k != gi m k) = true := by simp [hv]
     have R : Hid (decide (l = m) = false) := by
      show decide (l = m) = false
      simp only [decide_eq_false_iff_not]
      intro e; subst e; exact hv rfl
     go_wp2
     go_quiet (fail)
     go_wp2
     go_ret
     rw [R.out]
     exact ⟨rfl, below_drewN hw _⟩
   ·have R : Hid (decide (l = m) = true) := by
     show decide (l = m) = true
     simp only [decide_eq_true_eq]
     exact gi_ext H2.out (fun i hi => H.out i (by omega))
    go_wp2
    go_ret
    rw [R.out]
    exact ⟨rfl, hw⟩
 ·have h2' : ((l.length : Int) != (m.length : Int)) = true := by simp; omega
  have R : Hid (decide (l = m) = false) := by
   show decide (l = m) = false
   simp only [decide_eq_false_iff_not]
   intro e; subst e; exact h2 rfl
  go_enter Tryz.func95, Tryz.ntmps95
  go_wp2
  go_ret
  rw [R.out]
  exact ⟨rfl, Below.refl _ _⟩
set_option maxHeartbeats 4000000 in
theorem rsame_c (N : Int) (ao : Option Addr) (xs : List Nat) (cap : Nat) (so : Option Addr) (su : List Int) (sc : Nat) (tO : Option Addr) (sb : List Int) (tc : Nat) (M : Int) (bo : Option Addr) (ys : List Nat) (dap : Nat) (po : Option Addr) (pu : List Int) (pc : Nat) (qo : Option Addr) (qb : List Int) (qc : Nat) (w : World)
  (hx : Wd w ao xs) (hy : Wd w bo ys) (hl : xs.length ≤ 1048576) (s1 : Nd w so su) (s2 : Nd w po pu) (sl : su.length ≤ 1048576) (t1 : Nd w tO sb) (t2 : Nd w qo qb) (tl : sb.length ≤ 1048576) :
  Calls Tryz.prog 72 #[.agg #[.int .i64 N, .slice ao xs.length cap, .slice so su.length sc, .slice tO sb.length tc], .agg #[.int .i64 M, .slice bo ys.length dap, .slice po pu.length pc, .slice qo qb.length qc]] w fun e w' => e = .returned (.bool ((decide (N = M) && decide (xs = ys)) && (decide (su = pu) && decide (sb = qb)))) ∧ Below w.heap.size w w' := by
 obtain ⟨W, hW⟩ : ∃ W, W = (w.alloc (.cells #[.int .i64 N, .slice ao xs.length cap, .slice so su.length sc, .slice tO sb.length tc] 28)).alloc (.cells #[.int .i64 M, .slice bo ys.length dap, .slice po pu.length pc, .slice qo qb.length qc] 28) := ⟨_, rfl⟩
 have bW : Below w.heap.size w W := by rw [hW]; exact (below_alloc w _).alloc (by simp) _
 have B1 : Cel W w.heap.size [.int .i64 N, .slice ao xs.length cap, .slice so su.length sc, .slice tO sb.length tc] 28 := by rw [hW]; exact (Cel.new w _ _).alloc _
 have B2 : Cel W (w.heap.size + 1) [.int .i64 M, .slice bo ys.length dap, .slice po pu.length pc, .slice qo qb.length qc] 28 := by rw [hW]; exact Cel.new2 w _ _ _
 have C1 : Hid (∀ w0, w0 = W → Calls Tryz.prog 94 #[.agg #[.int .i64 N, .slice ao xs.length cap], .agg #[.int .i64 M, .slice bo ys.length dap]] w0 fun e w' => e = .returned (.bool (decide (N = M) && decide (xs = ys))) ∧ Below w0.heap.size w0 w') := fun w0 h => by subst h; exact same_c N ao xs cap M bo ys dap w0 (hx.keep bW) (hy.keep bW) hl
 have C2 : Hid (∀ w0, Below w.heap.size w w0 → Calls Tryz.prog 95 #[.slice so su.length sc, .slice po pu.length pc] w0 fun e w' => e = .returned (.bool (decide (su = pu))) ∧ Below w0.heap.size w0 w') := fun w0 h => rnum_c so su sc po pu pc w0 (s1.keep h) (s2.keep h) sl
 have C3 : Hid (∀ w0, Below w.heap.size w w0 → Calls Tryz.prog 95 #[.slice tO sb.length tc, .slice qo qb.length qc] w0 fun e w' => e = .returned (.bool (decide (sb = qb))) ∧ Below w0.heap.size w0 w') := fun w0 h => rnum_c tO sb tc qo qb qc w0 (t1.keep h) (t2.keep h) tl
 generalize (decide (N = M) && decide (xs = ys)) = b1 at *
 generalize decide (su = pu) = b2 at *
 generalize decide (sb = qb) = b3 at *
 go_enter Tryz.func72, Tryz.ntmps72
 go_wp2_with fail
 rw [← hW]
 refine (C1.out _ rfl).mono ?_
 rintro e w1 ⟨rfl, hb⟩
 have b1w := bW.trans (hb.mono bW.size)
 have c0 := (B1.kept hb).cell 0 rfl
 have d0 := (B2.kept hb).cell 0 rfl
 have c1 := (B1.kept hb).cell 1 rfl
 have d1 := (B2.kept hb).cell 1 rfl
 have c2 := (B1.kept hb).cell 2 rfl
 have d2 := (B2.kept hb).cell 2 rfl
 have c3 := (B1.kept hb).cell 3 rfl
 have d3 := (B2.kept hb).cell 3 rfl
 cases b1 with
 | false =>
  go_wp2
  go_ret
  exact ⟨rfl, b1w⟩
 | true =>
  go_wp2_with fail
  refine (C2.out _ b1w).mono ?_
  rintro e w2 ⟨rfl, hb2⟩
  have b2w := b1w.trans (hb2.mono b1w.size)
  have c0' := ((B1.kept hb).kept hb2).cell 0 rfl
  have d0' := ((B2.kept hb).kept hb2).cell 0 rfl
  have c1' := ((B1.kept hb).kept hb2).cell 1 rfl
  have d1' := ((B2.kept hb).kept hb2).cell 1 rfl
  have c2' := ((B1.kept hb).kept hb2).cell 2 rfl
  have d2' := ((B2.kept hb).kept hb2).cell 2 rfl
  have c3' := ((B1.kept hb).kept hb2).cell 3 rfl
  have d3' := ((B2.kept hb).kept hb2).cell 3 rfl
  cases b2 with
  | false =>
   go_wp2
   go_ret
   exact ⟨rfl, b2w⟩
  | true =>
   go_wp2_with fail
   refine (C3.out _ b2w).mono ?_
   rintro e w3 ⟨rfl, hb3⟩
   have b3w := b2w.trans (hb3.mono b2w.size)
   go_wp2
   go_ret
   exact ⟨by cases b3 <;> rfl, b3w⟩
end Go.Proofs.YtcaalcjcpddhaaaGreat
