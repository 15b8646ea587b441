/-
  The contracts of the document's Slice and Ones. errors.As at the target of package ints (a struct of a number and a text): an error of that very type is found, and the target holds it; numberOf answers its number. Plain arithmetic of rows of bits, more: what is laid over words (put), words that are copied, and the rows that append and join make. Plain arithmetic of rows of numbers: what may be, what is got, put, listed and made; bits that are laid over words. The contracts of package ints that tell why something may not be, and of what only reads: wide, narrow, mayBe, place, puttable, numberOf, Check, Get. The contracts of the document's answers on rows of numbers that only read: Check, fits, Width, Get. Rows that calls make: words that are copied, a row as it is, a longer one, bits that are laid over words, a new row. Plain arithmetic of rows of bits, more: joined rows. The contract of From. The contracts of the document's New, put and From. The contracts of package ints that write: lay (bits laid over words of the call's own), asItIs (a row in words of its own).
-/
import Derived.Test.YtmphbnmcbonmmaaGreatDoorM00
import Derived.WalkKit
import Derived.LaidEql
import Derived.Stop.Asserts
import Derived.RowKitTokens
import Derived.WalkSmall
import Derived.Laws.CopyOwn
import Derived.OwnWalk
import Derived.Deep.RegionHeld3
import Derived.RegionTactic
import Derived.BigRegion
namespace Go.Proofs.YtmphbnmcbonmmaaGreatDoor
open Go.RowKit Num Bit

theorem at_i (N : Int) (ao : Option Addr) (xs : List Nat) (cap : Nat) (i : Nat) (P : Int) (w : World) (hP : P = (i : Int)) (hx : Wd w ao xs) (hi : i / 64 < xs.length) (hi2 : i ≤ 1048576) :
    Calls Tryz.prog 44 #[.agg #[.int .i64 N, .slice ao xs.length cap], .int .i64 P] w fun e w' => e = .returned (.bool (bitAt xs i)) ∧ Below w.heap.size w w' := by
  subst hP
  exact at_c N ao xs cap i w hx hi hi2

theorem or_num (q : Nat) (f : Nat → Bool) (hq : q < 64) (hf : f q = true) : bits .or .u64 (Bit.numOf q f : Int) (IntKind.u64.wrap (2 ^ q)) = ((Bit.numOf (q + 1) f : Nat) : Int) := by
  have l := numOf_lt q f
  have l2 := two_pow_lt q hq
  rw [shl_one q hq, u64_or_nat _ _ (by omega) l2]
  congr 1
  simp only [Bit.numOf, hf, if_true]
  have e := Nat.two_pow_add_eq_or_of_lt l 1
  rw [Nat.mul_one] at e
  rw [Nat.or_comm, ← e, Nat.add_comm]

theorem refslice_ok (ao : Option Addr) (xs : List Nat) (cap : Nat) (N : Int) (m n : Nat) (w : World) (hx : Wd w ao xs) (hf : Fit xs) (hk : chk N xs = true) (hn : n ≤ 64) (hm : (m : Int) + n ≤ N) :
    Calls Tryz.prog 89 #[.agg #[.int .i64 N, .slice ao xs.length cap], .int .i64 m, .int .i64 n] w fun e w' => e = .returned (.tuple #[.int .u64 (Bit.numOf n (fun k => bitAt xs (m + k)) : Nat), .int .i64 0]) ∧ Below w.heap.size w w' := by
  obtain ⟨hc0, hc1, hc2, _⟩ := chk_out N xs hk
  have K : ∀ o, Wd (w.alloc o) ao xs := fun o => hx.keep (below_alloc w o)
  have HL : Hid ((xs.length : Int) = (N + 63) / 64) := hc2
  have d1 : decide ((n : Int) < 0) = false := by simp
  have d2 : decide (64 < (n : Int)) = false := by simp; omega
  have d3 : decide ((m : Int) < 0) = false := by simp
  have d4 : decide (N < (m : Int)) = false := by simp; omega
  have d5 : decide (N - (m : Int) < (n : Int)) = false := by simp; omega
  have h5 : (n : Int) ≤ N - m := by omega
  have h6 : (m : Int) ≤ N := by omega
  clear hc2
  go_enter Tryz.func89, Tryz.ntmps89
  go_wp2_with fail
  refine (refcheck_c _ _ _ _ _ (K _) hf).mono ?_
  rintro e w1 ⟨rfl, hb⟩
  have KK := box_cells hb
  clear hb
  obtain ⟨c0, c1, hz, hw⟩ := KK
  go_wp2
  go_loopw [8, 9] (fun x k wr => ∃ q : Nat, q ≤ n ∧ k = .int .i64 q ∧ x = .int .u64 (Bit.numOf q (fun k => bitAt xs (m + k)) : Nat) ∧ (wr.cell? ⟨w.heap.size, 0, none⟩ = some (.int .i64 N) ∧ wr.cell? ⟨w.heap.size, 1, none⟩ = some (.slice ao xs.length cap)) ∧ w.heap.size < wr.heap.size ∧ Below w.heap.size w wr) (fun _ k _ => n - (intOf k).toNat)
  case atStart => exact ⟨0, Nat.zero_le _, rfl, rfl, ⟨c0, c1⟩, hz, hw⟩
  case round =>
    obtain ⟨q, hq, rfl, rfl, ⟨r0, r1⟩, hz2, hwr⟩ := hrel
    by_cases hlt : q < n
    · have hlt2 : (q : Int) < (n : Int) := by omega
      go_wp2_with fail
      refine (at_i _ _ _ _ (m + q) _ _ (by omega) (hx.keep hwr) (by have := HL.out; omega) (by omega)).mono ?_
      rintro e w2 ⟨rfl, hb⟩
      have s0 := (hb.cell (p := ⟨w.heap.size, 0, none⟩) hz2).trans r0
      have s1 := (hb.cell (p := ⟨w.heap.size, 1, none⟩) hz2).trans r1
      have hz3 : w.heap.size < w2.heap.size := Nat.lt_of_lt_of_le hz2 hb.size
      have hw2 := hwr.trans (hb.mono hwr.size)
      clear hb r0 r1 hwr hz2
      cases hb : bitAt xs (m + q) with
      | true =>
        have R : Hid (bits .or .u64 (Bit.numOf q (fun k => bitAt xs (m + k)) : Int) (IntKind.u64.wrap (2 ^ q)) = ((Bit.numOf (q + 1) (fun k => bitAt xs (m + k)) : Nat) : Int)) := or_num q _ (by omega) hb
        go_wp2
        refine ⟨⟨q + 1, by omega, by go_num, ?_, ⟨s0, s1⟩, hz3, hw2⟩, by simp only [intOf]; omega⟩
        rw [← R.out]
      | false =>
        have R : Hid ((Bit.numOf q (fun k => bitAt xs (m + k)) : Nat) = Bit.numOf (q + 1) (fun k => bitAt xs (m + k))) := by unfold Hid; simp [Bit.numOf, hb]
        go_wp2
        refine ⟨⟨q + 1, by omega, by go_num, ?_, ⟨s0, s1⟩, hz3, hw2⟩, by simp only [intOf]; omega⟩
        rw [← R.out]
    · have hq2 : q = n := by omega
      have R : Hid ((Bit.numOf q (fun k => bitAt xs (m + k)) : Nat) = Bit.numOf n (fun k => bitAt xs (m + k))) := by rw [hq2]; rfl
      clear hq2
      go_wp2
      go_ret2
      exact ⟨ret_pair (congrArg (fun x : Nat => Value.int IntKind.u64 (x : Int)) R.out) rfl, hwr⟩

theorem refslice_c (N : Int) (ao : Option Addr) (xs : List Nat) (cap : Nat) (i n : Int) (w : World) (hx : Wd w ao xs) (hf : Fit xs) (_hi : -9223372036854775808 ≤ i) (_hi2 : i ≤ 9223372036854775807) (_hn : -9223372036854775808 ≤ n) (_hn2 : n ≤ 9223372036854775807) :
    Calls Tryz.prog 89 #[.agg #[.int .i64 N, .slice ao xs.length cap], .int .i64 i, .int .i64 n] w fun e w' => e = .returned (.tuple #[.int .u64 (slcX N xs i n), .int .i64 (slcE N xs i n)]) ∧ Below w.heap.size w w' := by
  have K : ∀ o, Wd (w.alloc o) ao xs := fun o => hx.keep (below_alloc w o)
  by_cases hE : slcE N xs i n = 0
  · have hk : chk N xs = true := by unfold slcE at hE; cases h : chk N xs with | true => rfl | false => simp [h] at hE
    have hi : 0 ≤ n ∧ n ≤ 64 ∧ 0 ≤ i ∧ i ≤ N - n := by
      unfold slcE at hE
      by_cases h : chk N xs = false ∨ n < 0 ∨ 64 < n
      · rw [if_pos h] at hE; omega
      · rw [if_neg h] at hE
        by_cases h2 : i < 0 ∨ N - n < i
        · rw [if_pos h2] at hE; omega
        · simp [hk] at h; omega
    obtain ⟨hn0, hn1, hi0, hi1⟩ := hi
    obtain ⟨m, rfl⟩ := Int.eq_ofNat_of_zero_le hi0
    obtain ⟨k, rfl⟩ := Int.eq_ofNat_of_zero_le hn0
    refine (refslice_ok ao xs cap N m k w hx hf hk (by omega) (by omega)).mono ?_
    rintro e w' ⟨rfl, hb⟩
    refine ⟨ret_pair ?_ (congrArg (Value.int IntKind.i64) hE.symm), hb⟩
    rw [slcX, if_pos hE, Int.toNat_natCast, Int.toNat_natCast]
  · have R : Hid (0 = ((slcX N xs i n : Nat) : Int)) := by unfold slcX Hid; rw [if_neg hE]; rfl
    cases hk : chk N xs with
    | false =>
      have RE : Hid (2 = slcE N xs i n) := by unfold slcE Hid; rw [if_pos (.inl hk)]
      clear hE
      go_enter Tryz.func89, Tryz.ntmps89
      go_wp2_with (go_at_call 28; refine (refcheck_c _ _ _ _ _ (K _) hf).mono ?_; rintro e w' ⟨rfl, hb⟩; obtain ⟨c0, c1, hz, hw⟩ := box_cells hb; clear hb)
      go_ret2
      exact ⟨ret_pair (congrArg (Value.int IntKind.u64) R.out) (congrArg (Value.int IntKind.i64) RE.out), by assumption⟩
    | true =>
      obtain ⟨hc0, hc1, _, _⟩ := chk_out N xs hk
      by_cases hn : n < 0
      · have RE : Hid (2 = slcE N xs i n) := by unfold slcE Hid; rw [if_pos (.inr (.inl hn))]
        clear hE
        go_enter Tryz.func89, Tryz.ntmps89
        go_wp2_with (go_at_call 28; refine (refcheck_c _ _ _ _ _ (K _) hf).mono ?_; rintro e w' ⟨rfl, hb⟩; obtain ⟨c0, c1, hz, hw⟩ := box_cells hb; clear hb)
        go_ret2
        exact ⟨ret_pair (congrArg (Value.int IntKind.u64) R.out) (congrArg (Value.int IntKind.i64) RE.out), by assumption⟩
      · by_cases hn2 : 64 < n
        · have RE : Hid (2 = slcE N xs i n) := by unfold slcE Hid; rw [if_pos (.inr (.inr hn2))]
          clear hE
          go_enter Tryz.func89, Tryz.ntmps89
          go_wp2_with (go_at_call 28; refine (refcheck_c _ _ _ _ _ (K _) hf).mono ?_; rintro e w' ⟨rfl, hb⟩; obtain ⟨c0, c1, hz, hw⟩ := box_cells hb; clear hb)
          go_ret2
          exact ⟨ret_pair (congrArg (Value.int IntKind.u64) R.out) (congrArg (Value.int IntKind.i64) RE.out), by assumption⟩
        · have hcond : i < 0 ∨ N - n < i := by
            unfold slcE at hE
            rw [if_neg (by simp [hk]; omega)] at hE
            by_cases h2 : i < 0 ∨ N - n < i
            · exact h2
            · rw [if_neg h2] at hE; exact absurd rfl hE
          have RE : Hid (3 = slcE N xs i n) := by unfold slcE Hid; rw [if_neg (by simp [hk]; omega), if_pos hcond]
          clear hE
          by_cases h3 : i < 0
          · clear hcond
            go_enter Tryz.func89, Tryz.ntmps89
            go_wp2_with (go_at_call 28; refine (refcheck_c _ _ _ _ _ (K _) hf).mono ?_; rintro e w' ⟨rfl, hb⟩; obtain ⟨c0, c1, hz, hw⟩ := box_cells hb; clear hb)
            go_ret2
            exact ⟨ret_pair (congrArg (Value.int IntKind.u64) R.out) (congrArg (Value.int IntKind.i64) RE.out), by assumption⟩
          · have d3 : decide (i < 0) = false := by simpa using h3
            by_cases h4 : N < i
            · clear hcond
              go_enter Tryz.func89, Tryz.ntmps89
              go_wp2_with (go_at_call 28; refine (refcheck_c _ _ _ _ _ (K _) hf).mono ?_; rintro e w' ⟨rfl, hb⟩; obtain ⟨c0, c1, hz, hw⟩ := box_cells hb; clear hb)
              go_ret2
              exact ⟨ret_pair (congrArg (Value.int IntKind.u64) R.out) (congrArg (Value.int IntKind.i64) RE.out), by assumption⟩
            · have d4 : decide (N < i) = false := by simpa using h4
              have h5 : N - i < n := by omega
              clear hcond
              go_enter Tryz.func89, Tryz.ntmps89
              go_wp2_with (go_at_call 28; refine (refcheck_c _ _ _ _ _ (K _) hf).mono ?_; rintro e w' ⟨rfl, hb⟩; obtain ⟨c0, c1, hz, hw⟩ := box_cells hb; clear hb)
              go_ret2
              exact ⟨ret_pair (congrArg (Value.int IntKind.u64) R.out) (congrArg (Value.int IntKind.i64) RE.out), by assumption⟩

theorem refones_c (N : Int) (ao : Option Addr) (xs : List Nat) (cap : Nat) (n : Int) (w : World) (hx : Wd w ao xs) (hf : Fit xs) :
    Calls Tryz.prog 42 #[.agg #[.int .i64 N, .slice ao xs.length cap], .int .i64 n] w fun e w' => e = .returned (.int .i64 (onesI N xs n)) ∧ Below w.heap.size w w' := by
  go_enter Tryz.func42, Tryz.ntmps42
  go_wp2
  go_loopw [5, 6] (fun c i wr => ∃ k t : Nat, i = .int .i64 k ∧ c = .int .i64 t ∧ t ≤ k ∧ Hid (k = 0 ∨ ((k : Int) ≤ n ∧ (k : Int) ≤ N ∧ chk N xs = true)) ∧ k ≤ 1048576 ∧ Hid (t = cntB xs k) ∧ (wr.cell? ⟨w.heap.size, 0, none⟩ = some (.int .i64 N) ∧ wr.cell? ⟨w.heap.size, 1, none⟩ = some (.slice ao xs.length cap)) ∧ w.heap.size < wr.heap.size ∧ Below w.heap.size w wr) (fun _ i _ => 1048577 - (intOf i).toNat)
  case atStart => exact ⟨0, 0, rfl, rfl, Nat.le_refl _, .inl rfl, by omega, rfl, ⟨by simp, by simp⟩, by simp, below_alloc w _⟩
  case round =>
    obtain ⟨k, t, rfl, rfl, ht, HK, hk2, HT, ⟨r0, r1⟩, hz, hwr⟩ := hrel
    by_cases c1 : (k : Int) < n
    · by_cases c2 : (k : Int) < N
      · cases hk : chk N xs with
        | true =>
          obtain ⟨hc0, hc1, hc2, _⟩ := chk_out N xs hk
          have H1 : Hid (k / 64 < xs.length) := by unfold Hid; omega
          clear hc2
          go_wp2_with fail
          refine (refcheck_c _ _ _ _ _ (hx.keep hwr) hf).mono ?_
          rintro e w1 ⟨rfl, hb⟩
          have s0 := (hb.cell (p := ⟨w.heap.size, 0, none⟩) hz).trans r0
          have s1 := (hb.cell (p := ⟨w.heap.size, 1, none⟩) hz).trans r1
          have hz1 : w.heap.size < w1.heap.size := Nat.lt_of_lt_of_le hz hb.size
          have hw1 := hwr.trans (hb.mono hwr.size)
          clear hb r0 r1 hz hwr
          go_wp2_with fail
          refine (at_c _ _ _ _ _ _ (hx.keep hw1) H1.out hk2).mono ?_
          rintro e w2 ⟨rfl, hb⟩
          have q0 := (hb.cell (p := ⟨w.heap.size, 0, none⟩) hz1).trans s0
          have q1 := (hb.cell (p := ⟨w.heap.size, 1, none⟩) hz1).trans s1
          have hz2 : w.heap.size < w2.heap.size := Nat.lt_of_lt_of_le hz1 hb.size
          have hw2 := hw1.trans (hb.mono hw1.size)
          clear hb s0 s1 hz1 hw1
          cases hb : bitAt xs k with
          | true =>
            have R : Hid (t + 1 = cntB xs (k + 1)) := by unfold Hid; simp only [cntB, hb]; rw [HT.out]; rfl
            go_wp2
            exact ⟨⟨k + 1, t + 1, by go_num, by go_num, by omega, .inr ⟨by omega, by omega, by first | trivial | exact hk⟩, by omega, R, ⟨q0, q1⟩, hz2, hw2⟩, by simp only [intOf]; omega⟩
          | false =>
            have R : Hid (t = cntB xs (k + 1)) := by unfold Hid; simp only [cntB, hb]; rw [HT.out]; rfl
            go_wp2
            exact ⟨⟨k + 1, t, by go_num, rfl, by omega, .inr ⟨by omega, by omega, by first | trivial | exact hk⟩, by omega, R, ⟨q0, q1⟩, hz2, hw2⟩, by simp only [intOf]; omega⟩
        | false =>
          have R : Hid ((t : Int) = onesI N xs n) := by
            unfold onesI Hid
            rw [hk]
            have := HT.out
            rcases HK.out with h | ⟨_, _, h⟩
            · subst h; simp [this, cntB]
            · rw [hk] at h; cases h
          go_wp2_with fail
          refine (refcheck_c _ _ _ _ _ (hx.keep hwr) hf).mono ?_
          rintro e w1 ⟨rfl, hb⟩
          have hw1 := hwr.trans (hb.mono hwr.size)
          clear hb
          go_wp2
          go_ret
          exact ⟨ret_int R.out, hw1⟩
      · have R : Hid ((t : Int) = onesI N xs n) := by
          unfold onesI Hid
          have := HT.out
          rcases HK.out with h | ⟨h1, h2, h3⟩
          · subst h
            split
            · rw [show (min n N).toNat = 0 by omega, this]
            · simp [this, cntB]
          · rw [h3, show (min n N).toNat = k by omega, this]; rfl
        go_wp2
        go_ret
        exact ⟨ret_int R.out, hwr⟩
    · have c1' : decide ((k : Int) < n) = false := by simpa using c1
      have R : Hid ((t : Int) = onesI N xs n) := by
        unfold onesI Hid
        have := HT.out
        rcases HK.out with h | ⟨h1, h2, h3⟩
        · subst h
          split
          · rw [show (min n N).toNat = 0 by omega, this]
          · simp [this, cntB]
        · rw [h3, show (min n N).toNat = k by omega, this]; rfl
      go_wp2
      go_ret
      exact ⟨ret_int R.out, hwr⟩
end Go.Proofs.YtmphbnmcbonmmaaGreatDoor

namespace Go.Proofs.YtmphbnmcbonmmaaGreatDoor
open Go.RowKit Go.Extern.Stop Go.Stop Go.Extern

/-- The variable errors.errorType, as the program's text lays it. -/
def ET (w : World) : Prop := w.cell? ⟨0, 0, none⟩ = some (.iface 153 (.agg #[.pointer (some ⟨1, 118, none⟩)]))
theorem ET.lt {w : World} (h : ET w) : 0 < w.heap.size := by
  rcases Nat.eq_zero_or_pos w.heap.size with h0 | h1
  · simp [ET, World.cell?, h0] at h
  · exact h1
theorem ET.keep {w w' : World} (h : ET w) (hb : Below w.heap.size w w') : ET w' := (hb.cell (p := ⟨0, 0, none⟩) h.lt).trans h

end Go.Proofs.YtmphbnmcbonmmaaGreatDoor

namespace Go.Proofs.YtmphbnmcbonmmaaGreatDoor
open Num
namespace Bit

def cp (xs : List Nat) (n : Nat) : List Nat := xs.take n ++ List.replicate (n - xs.length) 0

theorem length_cp (xs : List Nat) (n : Nat) : (cp xs n).length = n := by simp [cp]; omega

theorem cp_self (xs : List Nat) : cp xs xs.length = xs := by simp [cp]

theorem gt_cp (xs : List Nat) (n i : Nat) (h : i < n) : gt (cp xs n) i = gt xs i := by
  unfold gt cp
  rw [List.getD_eq_getElem?_getD, List.getD_eq_getElem?_getD]
  by_cases hi : i < xs.length
  · rw [List.getElem?_append_left (by simp; omega), List.getElem?_take_of_lt h]
  · rw [List.getElem?_append_right (by simp; omega), List.getElem?_replicate, List.getElem?_eq_none (l := xs) (by omega)]
    split <;> rfl

theorem fit_cp (xs : List Nat) (hf : Fit xs) (n : Nat) : Fit (cp xs n) := by
  intro i
  by_cases h : i < n
  · rw [gt_cp xs n i h]; exact hf i
  · rw [gt_out _ _ (by rw [length_cp]; omega)]; decide

/-- What put makes of the words. -/
def putL (ys : List Nat) (p x : Nat) : List Nat :=
  let a := if x * 2 ^ (p % 64) % 18446744073709551616 = 0 then ys else ys.set (p / 64) (gt ys (p / 64) ||| x * 2 ^ (p % 64) % 18446744073709551616)
  if x / 2 ^ (64 - p % 64) = 0 then a else a.set (p / 64 + 1) (gt a (p / 64 + 1) ||| x / 2 ^ (64 - p % 64))

theorem length_putL (ys : List Nat) (p x : Nat) : (putL ys p x).length = ys.length := by
  unfold putL
  simp only
  split <;> split <;> simp

def Room (ys : List Nat) (p x : Nat) : Prop := (x * 2 ^ (p % 64) % 18446744073709551616 ≠ 0 → p / 64 < ys.length) ∧ (x / 2 ^ (64 - p % 64) ≠ 0 → p / 64 + 1 < ys.length)

theorem gt_putL (ys : List Nat) (p x : Nat) (h : Room ys p x) (j : Nat) :
    gt (putL ys p x) j = gt ys j ||| (if j = p / 64 then x * 2 ^ (p % 64) % 18446744073709551616 else if j = p / 64 + 1 then x / 2 ^ (64 - p % 64) else 0) := by
  obtain ⟨h1, h2⟩ := h
  unfold putL
  simp only
  by_cases c1 : x * 2 ^ (p % 64) % 18446744073709551616 = 0
  · rw [if_pos c1]
    by_cases c2 : x / 2 ^ (64 - p % 64) = 0
    · rw [if_pos c2, c1, c2]; split <;> (try split) <;> simp
    · rw [if_neg c2, gt_set _ _ _ _ (h2 c2), c1]
      by_cases e : j = p / 64
      · rw [if_pos e, if_neg (by omega)]; simp
      · rw [if_neg e]
        by_cases e2 : j = p / 64 + 1
        · rw [if_pos e2, if_pos e2.symm, e2]
        · rw [if_neg e2, if_neg (fun q => e2 q.symm)]; simp
  · rw [if_neg c1]
    have hl := h1 c1
    by_cases c2 : x / 2 ^ (64 - p % 64) = 0
    · rw [if_pos c2, gt_set _ _ _ _ hl, c2]
      by_cases e : j = p / 64
      · rw [if_pos e, if_pos e.symm, e]
      · rw [if_neg e, if_neg (fun q => e q.symm)]; split <;> simp
    · rw [if_neg c2, gt_set _ _ _ _ (by rw [List.length_set]; exact h2 c2), gt_set _ _ _ _ hl, gt_set _ _ _ _ hl]
      by_cases e : j = p / 64
      · rw [if_pos e, if_neg (by omega), if_pos e.symm, e]
      · rw [if_neg e, if_neg (show ¬ p / 64 = j from fun q => e q.symm), if_neg (show ¬ p / 64 = p / 64 + 1 by omega)]
        by_cases e2 : j = p / 64 + 1
        · rw [if_pos e2, if_pos e2.symm, e2]
        · rw [if_neg e2, if_neg (fun q => e2 q.symm)]; simp

theorem fit_putL (ys : List Nat) (hf : Fit ys) (p x : Nat) (hx : x < 18446744073709551616) (h : Room ys p x) : Fit (putL ys p x) := by
  intro j
  rw [gt_putL ys p x h j]
  refine or_lt _ _ (hf j) ?_
  split
  · exact Nat.mod_lt _ (by decide)
  · split
    · exact Nat.lt_of_le_of_lt (Nat.div_le_self _ _) hx
    · decide

theorem bitAt_putL (ys : List Nat) (p x : Nat) (hx : x < 18446744073709551616) (h : Room ys p x) (i : Nat) : bitAt (putL ys p x) i = (bitAt ys i || (decide (p ≤ i) && x.testBit (i - p))) := by
  unfold bitAt
  rw [gt_putL ys p x h, Nat.testBit_or]
  congr 1
  have hm : i % 64 < 64 := Nat.mod_lt _ (by decide)
  by_cases e : i / 64 = p / 64
  · rw [if_pos e, test_shl _ _ _ hm]
    by_cases c : p ≤ i
    · rw [show decide (p % 64 ≤ i % 64) = true by simp; omega, show decide (p ≤ i) = true by simpa using c, show i % 64 - p % 64 = i - p by omega]
    · rw [show decide (p % 64 ≤ i % 64) = false by simp; omega, show decide (p ≤ i) = false by simpa using c]; rfl
  · rw [if_neg e]
    by_cases e2 : i / 64 = p / 64 + 1
    · rw [if_pos e2, test_shr, show decide (p ≤ i) = true by simp; omega, show 64 - p % 64 + i % 64 = i - p by omega]; rfl
    · rw [if_neg e2, Nat.zero_testBit]
      by_cases c : p ≤ i
      · rw [test_big x _ hx (by omega)]; simp
      · simp [c]

theorem room_of (ys : List Nat) (p x m : Nat) (hx : x < 2 ^ m) (hm : m ≤ 64) (hl : p + m ≤ 64 * ys.length) : Room ys p x := by
  have hp : 0 < 2 ^ (64 - p % 64) := Nat.pow_pos (by decide)
  constructor
  · intro h
    by_cases c : m = 0
    · subst c
      have : x = 0 := by simpa using hx
      subst this; simp at h
    · omega
  · intro h
    by_cases c : m ≤ 64 - p % 64
    · have : x < 2 ^ (64 - p % 64) := Nat.lt_of_lt_of_le hx (Nat.pow_le_pow_right (by decide) c)
      exact absurd (Nat.div_eq_of_lt this) h
    · omega

/-- Append: the bits of the row, then those of the number. -/
theorem append_row (N : Int) (xs : List Nat) (hf : Fit xs) (hk : chk N xs = true) (x : Nat) (n : Nat) (hn : n ≤ 64) (k : Nat) (hkk : k = (N.toNat + n + 63) / 64) :
    putL (cp xs k) N.toNat (x % 2 ^ n) = rowOf (N.toNat + n) (fun j => if j < N.toNat then bitAt xs j else x.testBit (j - N.toNat)) := by
  obtain ⟨h0, h1, hl, _⟩ := chk_out N xs hk
  have hlt : x % 2 ^ n < 2 ^ n := Nat.mod_lt _ (Nat.pow_pos (by decide))
  have hlt2 : x % 2 ^ n < 18446744073709551616 := Nat.lt_of_lt_of_le hlt (Nat.pow_le_pow_right (n := 2) (j := 64) (by decide) hn)
  have hr : Room (cp xs k) N.toNat (x % 2 ^ n) := room_of _ _ _ n hlt hn (by rw [length_cp]; omega)
  refine eq_rowOf _ _ _ (fit_putL _ (fit_cp xs hf k) _ _ hlt2 hr) (by rw [length_putL, length_cp]; exact hkk) fun i hi => ?_
  rw [length_putL, length_cp] at hi
  rw [bitAt_putL _ _ _ hlt2 hr, Nat.testBit_mod_two_pow]
  have hb : bitAt (cp xs k) i = bitAt xs i := by unfold bitAt; rw [gt_cp xs k _ (by omega)]
  rw [hb]
  by_cases c : i < N.toNat
  · rw [if_pos c]; simp [show ¬ N.toNat ≤ i by omega, show i < N.toNat + n by omega]
  · rw [if_neg c, chk_high N xs hk i (by omega)]
    by_cases c2 : i < N.toNat + n
    · simp [c2, show N.toNat ≤ i by omega, show i - N.toNat < n by omega]
    · simp [c2, show ¬ i - N.toNat < n by omega]
end Bit
end Go.Proofs.YtmphbnmcbonmmaaGreatDoor

namespace Go.Proofs.YtmphbnmcbonmmaaGreatDoor
open Num
namespace Bit
set_option linter.unusedVariables false

theorem len_fit (x m : Nat) : Go.bitLen x ≤ m ↔ x < 2 ^ m := by
  constructor
  · intro h
    by_cases hx : x = 0
    · subst hx; exact Nat.two_pow_pos m
    · refine Nat.lt_of_not_le fun hc => ?_
      have h1 : ¬ x < 2 ^ Go.bitLen x := fun h2 => by
        have := Nat.pow_le_pow_right (n := 2) (by decide) h
        omega
      have key : ∀ d, x < 2 ^ (Go.bitLen x + d) → False := by
        intro d
        induction d with
        | zero => exact h1
        | succ d ih =>
          intro h2
          by_cases hb : x / 2 ^ (Go.bitLen x + d) % 2 = 1
          · have := len_eq x (Go.bitLen x + d) h2 hb
            omega
          · exact ih (len_down x _ h2 hb)
      refine key x ?_
      exact Nat.lt_of_lt_of_le (Nat.lt_two_pow_self (n := x)) (Nat.pow_le_pow_right (by decide) (by omega))
  · exact len_le x m

theorem lenI_fit (x m : Nat) : lenI (x : Int) ≤ (m : Int) ↔ x < 2 ^ m := by
  unfold lenI
  rw [Int.toNat_natCast, ← len_fit]
  omega

def ichk (N W M : Int) (xs : List Nat) : Bool := decide (1 ≤ W ∧ W ≤ 64 ∧ 0 ≤ N ∧ N * W = M) && chk M xs

theorem ichk_out (N W M : Int) (xs : List Nat) (h : ichk N W M xs = true) : 1 ≤ W ∧ W ≤ 64 ∧ 0 ≤ N ∧ N * W = M ∧ chk M xs = true ∧ 0 ≤ M ∧ M ≤ 1048576 ∧ N ≤ M := by
  unfold ichk at h
  rw [Bool.and_eq_true, decide_eq_true_eq] at h
  obtain ⟨⟨a, b, c, d⟩, e⟩ := h
  obtain ⟨f, g, _, _⟩ := chk_out M xs e
  refine ⟨a, b, c, d, e, f, g, ?_⟩
  have := Int.mul_le_mul_of_nonneg_left a c
  omega

def numAt (W : Nat) (xs : List Nat) (i : Nat) : Nat := numOf W (fun k => bitAt xs (i * W + k))
def igE (N W M : Int) (xs : List Nat) (i : Int) : Int := if ichk N W M xs = false then 2 else if i < 0 ∨ N ≤ i then 3 else 0
def igX (N W M : Int) (xs : List Nat) (i : Int) : Nat := if igE N W M xs i = 0 then numAt W.toNat xs i.toNat else 0
def ipE (N W M : Int) (xs : List Nat) (i : Int) (v : Nat) : Int := if igE N W M xs i = 0 then (if W < lenI v then 2 else 0) else igE N W M xs i
def ipL (N W M : Int) (xs : List Nat) (i : Int) (v : Nat) : List Nat := if ipE N W M xs i v = 0 then rowOf M.toNat (fun j => if i.toNat * W.toNat ≤ j ∧ j < i.toNat * W.toNat + W.toNat then v.testBit (j - i.toNat * W.toNat) else bitAt xs j) else xs
def ilL (N W M : Int) (xs : List Nat) : List Nat := if ichk N W M xs = true then (List.range N.toNat).map (numAt W.toNat xs) else []
def imE (W : Int) (l : List Nat) : Int := if W < 1 ∨ 64 < W ∨ 1048576 < (l.length : Int) * W ∨ ¬ (∀ j, j < l.length → lenI (gt l j) ≤ W) then 2 else 0
def imN (W : Int) (l : List Nat) : Int := if imE W l = 0 then (l.length : Int) else 0
def imW (W : Int) (l : List Nat) : Int := if imE W l = 0 then W else 0
def imM (W : Int) (l : List Nat) : Int := if imE W l = 0 then (l.length : Int) * W else 0
def mkS (l : List Nat) (W k : Nat) : List Nat := rowOf (l.length * W) (fun j => decide (j < k * W) && (gt l (j / W)).testBit (j % W))
def imL (W : Int) (l : List Nat) : List Nat := if imE W l = 0 then mkS l W.toNat l.length else []
def wm (l : List Nat) : Nat → Nat
  | 0 => 1
  | k + 1 => max (wm l k) (Go.bitLen (gt l k))

theorem igE_zero (N W M : Int) (xs : List Nat) (i : Int) (hE : igE N W M xs i = 0) : ichk N W M xs = true ∧ 0 ≤ i ∧ i < N := by
  unfold igE at hE
  cases h : ichk N W M xs with
  | false => rw [if_pos h] at hE; omega
  | true =>
    rw [if_neg (by simp [h])] at hE
    by_cases c : i < 0 ∨ N ≤ i
    · rw [if_pos c] at hE; omega
    · exact ⟨rfl, by omega, by omega⟩
theorem igE_of (N W M : Int) (xs : List Nat) (i : Int) (hk : ichk N W M xs = true) (h0 : 0 ≤ i) (h1 : i < N) : igE N W M xs i = 0 := by
  unfold igE
  rw [if_neg (by simp [hk]), if_neg (by omega)]
theorem ipE_zero (N W M : Int) (xs : List Nat) (i : Int) (v : Nat) (hE : ipE N W M xs i v = 0) : igE N W M xs i = 0 ∧ lenI v ≤ W := by
  unfold ipE at hE
  by_cases c : igE N W M xs i = 0
  · rw [if_pos c] at hE
    by_cases d : W < lenI v
    · rw [if_pos d] at hE; omega
    · exact ⟨c, by omega⟩
  · rw [if_neg c] at hE; exact absurd hE c
theorem get_place (N W M i : Int) (a1 : 1 ≤ W) (a2 : W ≤ 64) (a3 : 0 ≤ N) (a4 : N * W = M) (a7 : M ≤ 1048576) (i0 : 0 ≤ i) (i1 : i < N) : 0 ≤ i * W ∧ i * W + W ≤ M ∧ i * W ≤ M - W ∧ i * W ≤ 1048576 := by
  have h1 := Int.mul_nonneg i0 (show 0 ≤ W by omega)
  have h2 := Int.mul_le_mul_of_nonneg_right (show i + 1 ≤ N by omega) (show 0 ≤ W by omega)
  rw [Int.add_mul, Int.one_mul] at h2
  omega
theorem get_slice (N W M : Int) (xs : List Nat) (i : Int) (hk : ichk N W M xs = true) (i0 : 0 ≤ i) (i1 : i < N) : slcX M xs (i * W) W = igX N W M xs i ∧ slcE M xs (i * W) W = igE N W M xs i := by
  obtain ⟨a1, a2, a3, a4, a5, a6, a7, a8⟩ := ichk_out N W M xs hk
  obtain ⟨q1, q2, q3, q4⟩ := get_place N W M i a1 a2 a3 a4 a7 i0 i1
  have e := igE_of N W M xs i hk i0 i1
  have e2 : slcE M xs (i * W) W = 0 := by
    unfold slcE
    rw [if_neg (by simp [a5]; omega), if_neg (by omega)]
  refine ⟨?_, by rw [e, e2]⟩
  unfold slcX igX numAt
  rw [if_pos e, if_pos e2, Int.toNat_mul i0 (by omega)]

theorem wm_pos (l : List Nat) (k : Nat) : 1 ≤ wm l k := by
  induction k with
  | zero => exact Nat.le_refl _
  | succ k ih => simp only [wm]; omega
theorem wm_ge (l : List Nat) (k j : Nat) (h : j < k) : Go.bitLen (gt l j) ≤ wm l k := by
  induction k with
  | zero => omega
  | succ k ih =>
    simp only [wm]
    by_cases e : j = k
    · subst e; omega
    · have := ih (by omega); omega
theorem wm_le (l : List Nat) (hf : Fit l) (k : Nat) : wm l k ≤ 64 := by
  induction k with
  | zero => simp only [wm]; omega
  | succ k ih =>
    simp only [wm]
    have : Go.bitLen (gt l k) ≤ 64 := len_le _ _ (by rw [show (2 : Nat) ^ 64 = 18446744073709551616 from rfl]; exact hf k)
    omega
theorem wm_at (l : List Nat) (k : Nat) : wm l k = 1 ∨ ∃ j, j < k ∧ wm l k = Go.bitLen (gt l j) := by
  induction k with
  | zero => exact .inl rfl
  | succ k ih =>
    simp only [wm]
    by_cases c : Go.bitLen (gt l k) ≤ wm l k
    · rw [Nat.max_eq_left c]
      rcases ih with h | ⟨j, h1, h2⟩
      · exact .inl h
      · exact .inr ⟨j, by omega, h2⟩
    · rw [Nat.max_eq_right (by omega)]
      exact .inr ⟨k, by omega, rfl⟩

/-! What lay makes of the words. -/
theorem test_not (m r : Nat) (hm : m < 18446744073709551616) (hr : r < 64) : (18446744073709551615 - m).testBit r = !m.testBit r := by
  have h := Nat.testBit_two_pow_sub_succ (n := 64) (x := m) (by rw [show (2 : Nat) ^ 64 = 18446744073709551616 from rfl]; exact hm) r
  rw [show (2 : Nat) ^ 64 - (m + 1) = 18446744073709551615 - m by rw [show (2 : Nat) ^ 64 = 18446744073709551616 from rfl]; omega] at h
  rw [h]; simp [hr]

def lay1 (ys : List Nat) (p W v : Nat) : List Nat := ys.set (p / 64) ((gt ys (p / 64) &&& (18446744073709551615 - (2 ^ W - 1) * 2 ^ (p % 64) % 18446744073709551616)) ||| v * 2 ^ (p % 64) % 18446744073709551616)
def layL (ys : List Nat) (p W v : Nat) : List Nat :=
  if 64 - p % 64 < W then (lay1 ys p W v).set (p / 64 + 1) ((gt ys (p / 64 + 1) &&& (18446744073709551615 - (2 ^ W - 1) / 2 ^ (64 - p % 64))) ||| v / 2 ^ (64 - p % 64)) else lay1 ys p W v

theorem length_lay1 (ys : List Nat) (p W v : Nat) : (lay1 ys p W v).length = ys.length := by simp [lay1]
theorem length_layL (ys : List Nat) (p W v : Nat) : (layL ys p W v).length = ys.length := by
  unfold layL; split <;> simp [lay1]

theorem bitAt_layL (ys : List Nat) (p W v : Nat) (hW : 1 ≤ W) (hW2 : W ≤ 64) (hv : v < 2 ^ W) (hl : p + W ≤ 64 * ys.length) (i : Nat) :
    bitAt (layL ys p W v) i = if p ≤ i ∧ i < p + W then v.testBit (i - p) else bitAt ys i := by
  have hp : p / 64 < ys.length := by omega
  have hm : (2 : Nat) ^ W - 1 < 18446744073709551616 := by
    have := Nat.pow_le_pow_right (n := 2) (j := 64) (by decide) hW2
    rw [show (2 : Nat) ^ 64 = 18446744073709551616 from rfl] at this
    omega
  have hv0 : ∀ j, W ≤ j → v.testBit j = false := fun j hj => Nat.testBit_lt_two_pow (Nat.lt_of_lt_of_le hv (Nat.pow_le_pow_right (by decide) hj))
  have first : ∀ r, r < 64 → ((gt ys (p / 64) &&& (18446744073709551615 - (2 ^ W - 1) * 2 ^ (p % 64) % 18446744073709551616)) ||| v * 2 ^ (p % 64) % 18446744073709551616).testBit r = if p % 64 ≤ r ∧ r < p % 64 + W then v.testBit (r - p % 64) else (gt ys (p / 64)).testBit r := by
    intro r hr
    rw [Nat.testBit_or, Nat.testBit_and, test_not _ _ (Nat.mod_lt _ (by decide)) hr, test_shl _ _ _ hr, test_shl _ _ _ hr, Nat.testBit_two_pow_sub_one]
    by_cases c : p % 64 ≤ r
    · by_cases c2 : r < p % 64 + W
      · rw [if_pos ⟨c, c2⟩]; simp [c, show r - p % 64 < W by omega]
      · rw [if_neg (by omega), hv0 (r - p % 64) (by omega)]; simp [show ¬ r - p % 64 < W by omega]
    · rw [if_neg (by omega)]; simp [c]
  have second : ∀ r, r < 64 → ((gt ys (p / 64 + 1) &&& (18446744073709551615 - (2 ^ W - 1) / 2 ^ (64 - p % 64))) ||| v / 2 ^ (64 - p % 64)).testBit r = if r + (64 - p % 64) < W then v.testBit (r + (64 - p % 64)) else (gt ys (p / 64 + 1)).testBit r := by
    intro r hr
    rw [Nat.testBit_or, Nat.testBit_and, test_not _ _ (Nat.lt_of_le_of_lt (Nat.div_le_self _ _) hm) hr, test_shr, test_shr, Nat.testBit_two_pow_sub_one]
    by_cases c : r + (64 - p % 64) < W
    · rw [if_pos c, Nat.add_comm r (64 - p % 64)]; simp [show 64 - p % 64 + r < W by omega]
    · rw [if_neg c, hv0 (64 - p % 64 + r) (by omega)]; simp [show ¬ 64 - p % 64 + r < W by omega]
  have at1 : ∀ zs : List Nat, (∀ j, j ≠ p / 64 → gt zs j = gt ys j) → gt zs (p / 64) = ((gt ys (p / 64) &&& (18446744073709551615 - (2 ^ W - 1) * 2 ^ (p % 64) % 18446744073709551616)) ||| v * 2 ^ (p % 64) % 18446744073709551616) → (p % 64 + W ≤ 64 ∨ i / 64 ≠ p / 64 + 1) → bitAt zs i = if p ≤ i ∧ i < p + W then v.testBit (i - p) else bitAt ys i := by
    intro zs h1 h2 h3
    unfold bitAt
    by_cases e : i / 64 = p / 64
    · rw [e, h2, first _ (by omega)]
      by_cases c : p ≤ i ∧ i < p + W
      · rw [if_pos (by omega), if_pos c]; congr 1; omega
      · rw [if_neg (by omega), if_neg c]
    · rw [h1 _ e, if_neg (by omega)]
  have g1 : ∀ j, gt (lay1 ys p W v) j = if p / 64 = j then ((gt ys (p / 64) &&& (18446744073709551615 - (2 ^ W - 1) * 2 ^ (p % 64) % 18446744073709551616)) ||| v * 2 ^ (p % 64) % 18446744073709551616) else gt ys j := fun j => gt_set ys _ _ _ hp
  unfold layL
  by_cases c : 64 - p % 64 < W
  · rw [if_pos c]
    have hp1 : p / 64 + 1 < ys.length := by omega
    have g2 : ∀ j, gt ((lay1 ys p W v).set (p / 64 + 1) ((gt ys (p / 64 + 1) &&& (18446744073709551615 - (2 ^ W - 1) / 2 ^ (64 - p % 64))) ||| v / 2 ^ (64 - p % 64))) j = if p / 64 + 1 = j then ((gt ys (p / 64 + 1) &&& (18446744073709551615 - (2 ^ W - 1) / 2 ^ (64 - p % 64))) ||| v / 2 ^ (64 - p % 64)) else gt (lay1 ys p W v) j := fun j => gt_set _ _ _ _ (by rw [length_lay1]; exact hp1)
    by_cases e : i / 64 = p / 64 + 1
    · unfold bitAt
      rw [g2, if_pos e.symm, second _ (by omega)]
      by_cases d : p ≤ i ∧ i < p + W
      · rw [if_pos (by omega), if_pos d]; congr 1; omega
      · rw [if_neg (by omega), if_neg d, e]
    · refine Eq.trans ?_ (at1 (lay1 ys p W v) (fun j hj => by rw [g1, if_neg (by omega)]) (by rw [g1, if_pos rfl]) (.inr e))
      unfold bitAt
      rw [g2, if_neg (by omega)]
  · rw [if_neg c]
    exact at1 (lay1 ys p W v) (fun j hj => by rw [g1, if_neg (by omega)]) (by rw [g1, if_pos rfl]) (.inl (by omega))

theorem fit_layL (ys : List Nat) (hf : Fit ys) (p W v : Nat) (hv : v < 18446744073709551616) : Fit (layL ys p W v) := by
  have h1 : Fit (lay1 ys p W v) := fit_set ys hf _ _ (or_lt _ _ (Nat.lt_of_le_of_lt Nat.and_le_left (hf _)) (Nat.mod_lt _ (by decide)))
  unfold layL
  split
  · exact fit_set _ h1 _ _ (or_lt _ _ (Nat.lt_of_le_of_lt Nat.and_le_left (hf _)) (Nat.lt_of_le_of_lt (Nat.div_le_self _ _) hv))
  · exact h1

theorem length_mkS (l : List Nat) (W k : Nat) : (mkS l W k).length = (l.length * W + 63) / 64 := length_rowOf _ _
theorem fit_mkS (l : List Nat) (W k : Nat) : Fit (mkS l W k) := fit_rowOf _ _
theorem mkS_zero (l : List Nat) (W : Nat) : rowOf (l.length * W) (fun _ => false) = mkS l W 0 := rowOf_congr _ _ _ fun i _ => by simp
theorem mul_next (n W k : Nat) (h : k < n) : k * W + W ≤ n * W := by
  have := Nat.mul_le_mul_right W (show k + 1 ≤ n by omega)
  rw [Nat.add_mul, Nat.one_mul] at this
  exact this
theorem mkS_step (l : List Nat) (W k : Nat) (hW : 1 ≤ W) (hW2 : W ≤ 64) (hk : k < l.length) (hv : gt l k < 2 ^ W) (hv2 : gt l k < 18446744073709551616) : layL (mkS l W k) (k * W) W (gt l k) = mkS l W (k + 1) := by
  have hn := mul_next l.length W k hk
  refine eq_rowOf _ _ _ (fit_layL _ (fit_mkS _ _ _) _ _ _ hv2) (by rw [length_layL, length_mkS]) fun i _ => ?_
  rw [bitAt_layL _ _ _ _ hW hW2 hv (by rw [length_mkS]; omega) i]
  unfold mkS
  rw [bitAt_rowOf, Nat.add_mul, Nat.one_mul]
  by_cases c : k * W ≤ i ∧ i < k * W + W
  · rw [if_pos c]
    have e1 : i / W = k := by
      rw [Nat.div_eq_iff (by omega)]; rw [Nat.mul_comm] at c; constructor <;> (try rw [Nat.mul_comm]) <;> omega
    have e2 : i % W = i - k * W := by
      have := Nat.div_add_mod i W
      rw [e1, Nat.mul_comm] at this
      omega
    rw [e1, e2]
    simp [c.2, show i < l.length * W by omega]
  · rw [if_neg c]
    by_cases d : i < k * W
    · simp [d, show i < k * W + W by omega]
    · simp [d, show ¬ i < k * W + W by omega]
end Bit
end Go.Proofs.YtmphbnmcbonmmaaGreatDoor

namespace Go.Proofs.YtmphbnmcbonmmaaGreatDoor
open Go.RowKit Num Bit
set_option maxRecDepth 100000
set_option linter.unusedVariables false

theorem wide_ok (W : Int) (h0 : 1 ≤ W) (h1 : W ≤ 64) (w : World) :
    Calls Tryz.prog 97 #[.int .i64 W] w fun e w' => e = .returned .nilIface ∧ w' = w := by
  go_enter Tryz.func97, Tryz.ntmps97
  go_wp2
  go_ret
  exact ⟨rfl, rfl⟩
theorem wide_bad (W : Int) (h : W < 1 ∨ 64 < W) (w : World) :
    Calls Tryz.prog 97 #[.int .i64 W] w fun e w' => (∃ s, e = .returned (.iface 134 (.agg #[.int .i64 2, .string s]))) ∧ w' = w := by
  rcases h with h | h
  · go_enter Tryz.func97, Tryz.ntmps97
    go_wp2
    go_ret
    exact ⟨⟨_, rfl⟩, rfl⟩
  · have h' : ¬ W < 1 := by omega
    go_enter Tryz.func97, Tryz.ntmps97
    go_wp2
    go_ret
    exact ⟨⟨_, rfl⟩, rfl⟩
theorem narrow_ok (v W : Int) (h0 : 0 ≤ v) (h1 : v < 18446744073709551616) (h : lenI v ≤ W) (w : World) :
    Calls Tryz.prog 98 #[.int .u64 v, .int .i64 W] w fun e w' => e = .returned .nilIface ∧ w' = w := by
  go_enter Tryz.func98, Tryz.ntmps98
  go_wp2_with (go_at_call 103; refine (len_c _ ?_ ?_ _).mono ?_; exact h0; exact h1; rintro e w' ⟨rfl, rfl⟩)
  go_ret
  exact ⟨rfl, rfl⟩
theorem narrow_bad (v W : Int) (h0 : 0 ≤ v) (h1 : v < 18446744073709551616) (h : W < lenI v) (w : World) :
    Calls Tryz.prog 98 #[.int .u64 v, .int .i64 W] w fun e w' => (∃ s, e = .returned (.iface 134 (.agg #[.int .i64 2, .string s]))) ∧ w' = w := by
  go_enter Tryz.func98, Tryz.ntmps98
  go_wp2_with (go_at_call 103; refine (len_c _ ?_ ?_ _).mono ?_; exact h0; exact h1; rintro e w' ⟨rfl, rfl⟩)
  go_ret
  exact ⟨⟨_, rfl⟩, rfl⟩

/-- A box of four cells. -/
def Box4 (w : World) (b : Nat) (p q r s : Value) : Prop := b < w.heap.size ∧ w.cell? ⟨b, 0, none⟩ = some p ∧ w.cell? ⟨b, 1, none⟩ = some q ∧ w.cell? ⟨b, 2, none⟩ = some r ∧ w.cell? ⟨b, 3, none⟩ = some s
theorem Box4.keep {w w' : World} {b : Nat} {p q r s : Value} (h : Box4 w b p q r s) (hb : Below w.heap.size w w') : Box4 w' b p q r s :=
  ⟨Nat.lt_of_lt_of_le h.1 hb.size, (hb.cell (p := ⟨b, 0, none⟩) h.1).trans h.2.1, (hb.cell (p := ⟨b, 1, none⟩) h.1).trans h.2.2.1, (hb.cell (p := ⟨b, 2, none⟩) h.1).trans h.2.2.2.1, (hb.cell (p := ⟨b, 3, none⟩) h.1).trans h.2.2.2.2⟩
theorem Box4.new {w w' : World} {p q r s : Value} {T : TypeId} (hb : Below (w.alloc (.cells #[p, q, r, s] T)).heap.size (w.alloc (.cells #[p, q, r, s] T)) w') : Box4 w' w.heap.size p q r s ∧ Below w.heap.size w w' := by
  have hz : (w.alloc (.cells #[p, q, r, s] T)).heap.size = w.heap.size + 1 := by simp
  refine ⟨⟨?_, ?_, ?_, ?_, ?_⟩, ?_⟩
  · have := hb.size; omega
  · rw [hb.cell (p := ⟨w.heap.size, 0, none⟩) (by simp)]; simp
  · rw [hb.cell (p := ⟨w.heap.size, 1, none⟩) (by simp)]; simp
  · rw [hb.cell (p := ⟨w.heap.size, 2, none⟩) (by simp)]; simp
  · rw [hb.cell (p := ⟨w.heap.size, 3, none⟩) (by simp)]; simp
  · exact (below_alloc w _).trans (hb.mono (by omega))

theorem mayBe_ok (N W M : Int) (ao : Option Addr) (xs : List Nat) (cap : Nat) (w : World) (hx : Wd w ao xs) (hk : ichk N W M xs = true) :
    Calls Tryz.prog 92 #[.agg #[.int .i64 N, .int .i64 W, .int .i64 M, .slice ao xs.length cap]] w fun e w' => e = .returned .nilIface ∧ Below w.heap.size w w' := by
  have K : ∀ o, Wd (w.alloc o) ao xs := fun o => hx.keep (below_alloc w o)
  obtain ⟨a1, a2, a3, a4, a5, a6, a7, a8⟩ := ichk_out N W M xs hk
  have d1 : (N * W != M) = false := by simpa using a4
  have hm : 0 ≤ N * W := by omega
  have hm2 : N * W ≤ 1048576 := by omega
  clear a4 hk
  go_enter Tryz.func92, Tryz.ntmps92
  go_wp2_with (first | (go_at_call 97; refine (wide_ok _ ?_ ?_ _).mono ?_; exact a1; exact a2; rintro e w' ⟨rfl, rfl⟩) | (go_at_call 23; refine (check_c _ _ _ _ _ (K _)).mono ?_; rintro e w' ⟨rfl, hb⟩; have KK := Box4.new hb; clear hb; obtain ⟨⟨hz, c0, c1, c2, c3⟩, hw⟩ := KK))
  go_ret
  exact ⟨rfl, by assumption⟩

theorem mayBe_bad (N W M : Int) (ao : Option Addr) (xs : List Nat) (cap : Nat) (w : World) (hx : Wd w ao xs) (hk : ichk N W M xs = false) :
    Calls Tryz.prog 92 #[.agg #[.int .i64 N, .int .i64 W, .int .i64 M, .slice ao xs.length cap]] w fun e w' => (∃ s, e = .returned (.iface 134 (.agg #[.int .i64 2, .string s]))) ∧ Below w.heap.size w w' := by
  have K : ∀ o, Wd (w.alloc o) ao xs := fun o => hx.keep (below_alloc w o)
  by_cases c : W < 1 ∨ 64 < W
  · clear hk
    go_enter Tryz.func92, Tryz.ntmps92
    go_wp2_with (go_at_call 97; refine (wide_bad _ ?_ _).mono ?_; exact c; rintro e w' ⟨⟨s, rfl⟩, rfl⟩)
    go_ret
    exact ⟨⟨_, rfl⟩, below_alloc w _⟩
  have a1 : 1 ≤ W := by omega
  have a2 : W ≤ 64 := by omega
  clear c
  cases hc : chk M xs with
  | false =>
    clear hk
    go_enter Tryz.func92, Tryz.ntmps92
    go_wp2_with (first | (go_at_call 97; refine (wide_ok _ ?_ ?_ _).mono ?_; exact a1; exact a2; rintro e w' ⟨rfl, rfl⟩) | (go_at_call 23; refine (check_c _ _ _ _ _ (K _)).mono ?_; rintro e w' ⟨rfl, hb⟩; have KK := Box4.new hb; clear hb; obtain ⟨⟨hz, c0, c1, c2, c3⟩, hw⟩ := KK))
    go_ret
    exact ⟨⟨_, rfl⟩, by assumption⟩
  | true =>
    obtain ⟨m0, m1, _, _⟩ := chk_out M xs hc
    by_cases n0 : N < 0
    · clear hk
      go_enter Tryz.func92, Tryz.ntmps92
      go_wp2_with (first | (go_at_call 97; refine (wide_ok _ ?_ ?_ _).mono ?_; exact a1; exact a2; rintro e w' ⟨rfl, rfl⟩) | (go_at_call 23; refine (check_c _ _ _ _ _ (K _)).mono ?_; rintro e w' ⟨rfl, hb⟩; have KK := Box4.new hb; clear hb; obtain ⟨⟨hz, c0, c1, c2, c3⟩, hw⟩ := KK))
      go_ret
      exact ⟨⟨_, rfl⟩, by assumption⟩
    have n0' : 0 ≤ N := by omega
    by_cases n1 : M < N
    · clear hk n0
      go_enter Tryz.func92, Tryz.ntmps92
      go_wp2_with (first | (go_at_call 97; refine (wide_ok _ ?_ ?_ _).mono ?_; exact a1; exact a2; rintro e w' ⟨rfl, rfl⟩) | (go_at_call 23; refine (check_c _ _ _ _ _ (K _)).mono ?_; rintro e w' ⟨rfl, hb⟩; have KK := Box4.new hb; clear hb; obtain ⟨⟨hz, c0, c1, c2, c3⟩, hw⟩ := KK))
      go_ret
      exact ⟨⟨_, rfl⟩, by assumption⟩
    have n2 : ¬ N * W = M := fun e => by unfold ichk at hk; rw [hc, show decide (1 ≤ W ∧ W ≤ 64 ∧ 0 ≤ N ∧ N * W = M) = true by simp; omega] at hk; cases hk
    have n3 : (N * W != M) = true := by simpa using n2
    have b1 : 0 ≤ N * W := Int.mul_nonneg n0' (by omega)
    have b2 : N * W ≤ 1048576 * 64 := Int.mul_le_mul (by omega) a2 (by omega) (by omega)
    clear hk n0 n2
    go_enter Tryz.func92, Tryz.ntmps92
    go_wp2_with (first | (go_at_call 97; refine (wide_ok _ ?_ ?_ _).mono ?_; exact a1; exact a2; rintro e w' ⟨rfl, rfl⟩) | (go_at_call 23; refine (check_c _ _ _ _ _ (K _)).mono ?_; rintro e w' ⟨rfl, hb⟩; have KK := Box4.new hb; clear hb; obtain ⟨⟨hz, c0, c1, c2, c3⟩, hw⟩ := KK))
    go_ret
    exact ⟨⟨_, rfl⟩, by assumption⟩

theorem icheck_c (N W M : Int) (ao : Option Addr) (xs : List Nat) (cap : Nat) (w : World) (hx : Wd w ao xs) :
    Calls Tryz.prog 78 #[.agg #[.int .i64 N, .int .i64 W, .int .i64 M, .slice ao xs.length cap]] w fun e w' => e = .returned (.bool (ichk N W M xs)) ∧ Below w.heap.size w w' := by
  have K : ∀ o, Wd (w.alloc o) ao xs := fun o => hx.keep (below_alloc w o)
  cases hk : ichk N W M xs with
  | true =>
    go_enter Tryz.func78, Tryz.ntmps78
    go_wp2_with (go_at_call 92; refine (mayBe_ok _ _ _ _ _ _ _ (K _) hk).mono ?_; rintro e w' ⟨rfl, hb⟩; have KK := Box4.new hb; clear hb; obtain ⟨⟨hz, c0, c1, c2, c3⟩, hw⟩ := KK)
    go_ret
    exact ⟨rfl, by assumption⟩
  | false =>
    go_enter Tryz.func78, Tryz.ntmps78
    go_wp2_with (go_at_call 92; refine (mayBe_bad _ _ _ _ _ _ _ (K _) hk).mono ?_; rintro e w' ⟨⟨s, rfl⟩, hb⟩; have KK := Box4.new hb; clear hb; obtain ⟨⟨hz, c0, c1, c2, c3⟩, hw⟩ := KK)
    go_ret
    exact ⟨rfl, by assumption⟩

theorem place_ok (N W M : Int) (ao : Option Addr) (xs : List Nat) (cap : Nat) (i : Int) (w : World) (hx : Wd w ao xs) (hE : igE N W M xs i = 0) :
    Calls Tryz.prog 93 #[.agg #[.int .i64 N, .int .i64 W, .int .i64 M, .slice ao xs.length cap], .int .i64 i] w fun e w' => e = .returned .nilIface ∧ Below w.heap.size w w' := by
  have K : ∀ o, Wd (w.alloc o) ao xs := fun o => hx.keep (below_alloc w o)
  obtain ⟨hk, i0, i1⟩ := igE_zero N W M xs i hE
  clear hE
  go_enter Tryz.func93, Tryz.ntmps93
  go_wp2_with (go_at_call 92; refine (mayBe_ok _ _ _ _ _ _ _ (K _) hk).mono ?_; rintro e w' ⟨rfl, hb⟩; have KK := Box4.new hb; clear hb; obtain ⟨⟨hz, c0, c1, c2, c3⟩, hw⟩ := KK)
  go_ret
  exact ⟨rfl, by assumption⟩

theorem place_bad (N W M : Int) (ao : Option Addr) (xs : List Nat) (cap : Nat) (i : Int) (w : World) (hx : Wd w ao xs) (hE : igE N W M xs i ≠ 0) :
    Calls Tryz.prog 93 #[.agg #[.int .i64 N, .int .i64 W, .int .i64 M, .slice ao xs.length cap], .int .i64 i] w fun e w' => (∃ s, e = .returned (.iface 134 (.agg #[.int .i64 (igE N W M xs i), .string s]))) ∧ Below w.heap.size w w' := by
  have K : ∀ o, Wd (w.alloc o) ao xs := fun o => hx.keep (below_alloc w o)
  cases hk : ichk N W M xs with
  | false =>
    have R : igE N W M xs i = 2 := by unfold igE; rw [if_pos hk]
    rw [R]
    clear hE R
    go_enter Tryz.func93, Tryz.ntmps93
    go_wp2_with (go_at_call 92; refine (mayBe_bad _ _ _ _ _ _ _ (K _) hk).mono ?_; rintro e w' ⟨⟨s, rfl⟩, hb⟩; have KK := Box4.new hb; clear hb; obtain ⟨⟨hz, c0, c1, c2, c3⟩, hw⟩ := KK)
    go_ret
    exact ⟨⟨_, rfl⟩, by assumption⟩
  | true =>
    have hc : i < 0 ∨ N ≤ i := by
      unfold igE at hE
      rw [if_neg (by simp [hk])] at hE
      by_cases h : i < 0 ∨ N ≤ i
      · exact h
      · rw [if_neg h] at hE; exact absurd rfl hE
    have R : igE N W M xs i = 3 := by unfold igE; rw [if_neg (by simp [hk]), if_pos hc]
    rw [R]
    clear hE R
    by_cases i0 : i < 0
    · clear hc
      go_enter Tryz.func93, Tryz.ntmps93
      go_wp2_with (go_at_call 92; refine (mayBe_ok _ _ _ _ _ _ _ (K _) hk).mono ?_; rintro e w' ⟨rfl, hb⟩; have KK := Box4.new hb; clear hb; obtain ⟨⟨hz, c0, c1, c2, c3⟩, hw⟩ := KK)
      go_ret
      exact ⟨⟨_, rfl⟩, by assumption⟩
    · have i1 : N ≤ i := by omega
      clear hc
      go_enter Tryz.func93, Tryz.ntmps93
      go_wp2_with (go_at_call 92; refine (mayBe_ok _ _ _ _ _ _ _ (K _) hk).mono ?_; rintro e w' ⟨rfl, hb⟩; have KK := Box4.new hb; clear hb; obtain ⟨⟨hz, c0, c1, c2, c3⟩, hw⟩ := KK)
      go_ret
      exact ⟨⟨_, rfl⟩, by assumption⟩

theorem iget_ok (N W M : Int) (ao : Option Addr) (xs : List Nat) (cap : Nat) (i : Int) (w : World) (hx : Wd w ao xs) (hf : Fit xs) (hE : igE N W M xs i = 0) :
    Calls Tryz.prog 79 #[.agg #[.int .i64 N, .int .i64 W, .int .i64 M, .slice ao xs.length cap], .int .i64 i] w fun e w' => e = .returned (.tuple #[.int .u64 (igX N W M xs i), .int .i64 (igE N W M xs i)]) ∧ Below w.heap.size w w' := by
  have K : ∀ o, Wd (w.alloc o) ao xs := fun o => hx.keep (below_alloc w o)
  obtain ⟨hk, i0, i1⟩ := igE_zero N W M xs i hE
  obtain ⟨a1, a2, a3, a4, a5, a6, a7, a8⟩ := ichk_out N W M xs hk
  obtain ⟨q1, q2, q3, q4⟩ := get_place N W M i a1 a2 a3 a4 a7 i0 i1
  have R : Hid (slcX M xs (i * W) W = igX N W M xs i ∧ slcE M xs (i * W) W = igE N W M xs i) := get_slice N W M xs i hk i0 i1
  clear a4 q3
  go_enter Tryz.func79, Tryz.ntmps79
  go_wp2_with fail
  refine (place_ok _ _ _ _ _ _ _ _ (K _) hE).mono ?_
  rintro e w1 ⟨rfl, hb⟩
  have KK := Box4.new hb
  clear hb K
  obtain ⟨⟨hz, c0, c1, c2, c3⟩, hw⟩ := KK
  go_wp2_with fail
  refine (slice_c _ _ _ _ _ _ _ (hx.keep hw) hf (by omega) (by omega) (by omega) (by omega)).mono ?_
  rintro e w2 ⟨rfl, hb⟩
  have hw2 := hw.trans (hb.mono hw.size)
  clear hb
  go_wp2
  go_ret2
  exact ⟨ret_pair (congrArg (Value.int IntKind.u64) (congrArg Int.ofNat R.out.1)) (congrArg (Value.int IntKind.i64) R.out.2), hw2⟩

end Go.Proofs.YtmphbnmcbonmmaaGreatDoor

namespace Go.Proofs.YtmphbnmcbonmmaaGreatDoor
open Go.RowKit Num Bit
set_option maxRecDepth 100000
set_option linter.unusedVariables false

theorem reffits_c (v W : Int) (h0 : 0 ≤ v) (h1 : v < 18446744073709551616) (w : World) :
    Calls Tryz.prog 65 #[.int .u64 v, .int .i64 W] w fun e w' => e = .returned (.bool (decide (lenI v ≤ W))) ∧ w' = w := by
  go_enter Tryz.func65, Tryz.ntmps65
  go_wp2_with (go_at_call 64; refine (reflen_c _ ?_ ?_ _).mono ?_; exact h0; exact h1; rintro e w' ⟨rfl, rfl⟩)
  go_ret
  exact ⟨rfl, rfl⟩

theorem irefcheck_c (N W M : Int) (ao : Option Addr) (xs : List Nat) (cap : Nat) (w : World) (hx : Wd w ao xs) (hf : Fit xs) :
    Calls Tryz.prog 70 #[.agg #[.int .i64 N, .int .i64 W, .int .i64 M, .slice ao xs.length cap]] w fun e w' => e = .returned (.bool (ichk N W M xs)) ∧ Below w.heap.size w w' := by
  have K : ∀ o, Wd (w.alloc o) ao xs := fun o => hx.keep (below_alloc w o)
  by_cases a1 : 1 ≤ W
  case neg =>
    have d1 : decide (1 ≤ W) = false := by simpa using a1
    have R : Hid (false = ichk N W M xs) := by unfold Hid ichk; rw [show decide (1 ≤ W ∧ W ≤ 64 ∧ 0 ≤ N ∧ N * W = M) = false by simp; omega]; rfl
    go_enter Tryz.func70, Tryz.ntmps70
    go_wp2
    go_ret
    exact ⟨ret_bool R.out, below_alloc w _⟩
  by_cases a2 : W ≤ 64
  case neg =>
    have d2 : decide (W ≤ 64) = false := by simpa using a2
    have R : Hid (false = ichk N W M xs) := by unfold Hid ichk; rw [show decide (1 ≤ W ∧ W ≤ 64 ∧ 0 ≤ N ∧ N * W = M) = false by simp; omega]; rfl
    go_enter Tryz.func70, Tryz.ntmps70
    go_wp2
    go_ret
    exact ⟨ret_bool R.out, below_alloc w _⟩
  by_cases a3 : 0 ≤ N
  case neg =>
    have d3 : decide (0 ≤ N) = false := by simpa using a3
    have R : Hid (false = ichk N W M xs) := by unfold Hid ichk; rw [show decide (1 ≤ W ∧ W ≤ 64 ∧ 0 ≤ N ∧ N * W = M) = false by simp; omega]; rfl
    go_enter Tryz.func70, Tryz.ntmps70
    go_wp2
    go_ret
    exact ⟨ret_bool R.out, below_alloc w _⟩
  by_cases a4 : N ≤ 1048576
  case neg =>
    have d4 : decide (N ≤ 1048576) = false := by simpa using a4
    have R : Hid (false = ichk N W M xs) := by
      unfold Hid
      cases h : ichk N W M xs with
      | false => rfl
      | true => obtain ⟨_, _, _, _, _, _, b7, b8⟩ := ichk_out N W M xs h; omega
    go_enter Tryz.func70, Tryz.ntmps70
    go_wp2
    go_ret
    exact ⟨ret_bool R.out, below_alloc w _⟩
  have b1 : 0 ≤ N * W := Int.mul_nonneg a3 (by omega)
  have b2 : N * W ≤ 1048576 * 64 := Int.mul_le_mul a4 a2 (by omega) (by omega)
  cases hc : chk M xs with
  | false =>
    have R : Hid (false = ichk N W M xs) := by unfold Hid ichk; rw [hc, Bool.and_false]
    go_enter Tryz.func70, Tryz.ntmps70
    go_wp2_with (go_at_call 28; refine (refcheck_c _ _ _ _ _ (K _) hf).mono ?_; rintro e w' ⟨rfl, hb⟩; have KK := Box4.new hb; clear hb; obtain ⟨⟨hz, c0, c1, c2, c3⟩, hw⟩ := KK)
    go_ret
    exact ⟨ret_bool R.out, by assumption⟩
  | true =>
    have R : Hid ((M == N * W) = ichk N W M xs) := by
      unfold Hid ichk
      rw [hc, Bool.and_true, Bool.eq_iff_iff, beq_iff_eq, decide_eq_true_eq]
      omega
    go_enter Tryz.func70, Tryz.ntmps70
    go_wp2_with (go_at_call 28; refine (refcheck_c _ _ _ _ _ (K _) hf).mono ?_; rintro e w' ⟨rfl, hb⟩; have KK := Box4.new hb; clear hb; obtain ⟨⟨hz, c0, c1, c2, c3⟩, hw⟩ := KK)
    go_ret
    exact ⟨ret_bool R.out, by assumption⟩

theorem irefget_c (N W M : Int) (ao : Option Addr) (xs : List Nat) (cap : Nat) (i : Int) (w : World) (hx : Wd w ao xs) (hf : Fit xs) :
    Calls Tryz.prog 101 #[.agg #[.int .i64 N, .int .i64 W, .int .i64 M, .slice ao xs.length cap], .int .i64 i] w fun e w' => e = .returned (.tuple #[.int .u64 (igX N W M xs i), .int .i64 (igE N W M xs i)]) ∧ Below w.heap.size w w' := by
  have K : ∀ o, Wd (w.alloc o) ao xs := fun o => hx.keep (below_alloc w o)
  by_cases hE : igE N W M xs i = 0
  · obtain ⟨hk, i0, i1⟩ := igE_zero N W M xs i hE
    obtain ⟨a1, a2, a3, a4, a5, a6, a7, a8⟩ := ichk_out N W M xs hk
    obtain ⟨q1, q2, q3, q4⟩ := get_place N W M i a1 a2 a3 a4 a7 i0 i1
    have R : Hid (slcX M xs (i * W) W = igX N W M xs i ∧ slcE M xs (i * W) W = igE N W M xs i) := get_slice N W M xs i hk i0 i1
    clear a4 q3 hE
    go_enter Tryz.func101, Tryz.ntmps101
    go_wp2_with fail
    refine (irefcheck_c _ _ _ _ _ _ _ (K _) hf).mono ?_
    rintro e w1 ⟨rfl, hb⟩
    have KK := Box4.new hb
    clear hb K
    obtain ⟨⟨hz, c0, c1, c2, c3⟩, hw⟩ := KK
    go_wp2_with fail
    refine (refslice_c _ _ _ _ _ _ _ (hx.keep hw) hf (by omega) (by omega) (by omega) (by omega)).mono ?_
    rintro e w2 ⟨rfl, hb⟩
    have hw2 := hw.trans (hb.mono hw.size)
    clear hb
    go_wp2
    go_ret2
    exact ⟨ret_pair (congrArg (Value.int IntKind.u64) (congrArg Int.ofNat R.out.1)) (congrArg (Value.int IntKind.i64) R.out.2), hw2⟩
  · have R : Hid (0 = ((igX N W M xs i : Nat) : Int)) := by unfold igX Hid; rw [if_neg hE]; rfl
    cases hk : ichk N W M xs with
    | false =>
      have RE : Hid (2 = igE N W M xs i) := by unfold igE Hid; rw [if_pos hk]
      clear hE
      go_enter Tryz.func101, Tryz.ntmps101
      go_wp2_with (go_at_call 70; refine (irefcheck_c _ _ _ _ _ _ _ (K _) hf).mono ?_; rintro e w' ⟨rfl, hb⟩; have KK := Box4.new hb; clear hb; obtain ⟨⟨hz, c0, c1, c2, c3⟩, hw⟩ := KK)
      go_ret2
      exact ⟨ret_pair (congrArg (Value.int IntKind.u64) R.out) (congrArg (Value.int IntKind.i64) RE.out), by assumption⟩
    | true =>
      have hc : i < 0 ∨ N ≤ i := by
        unfold igE at hE
        rw [if_neg (by simp [hk])] at hE
        by_cases h : i < 0 ∨ N ≤ i
        · exact h
        · rw [if_neg h] at hE; exact absurd rfl hE
      have RE : Hid (3 = igE N W M xs i) := by unfold igE Hid; rw [if_neg (by simp [hk]), if_pos hc]
      clear hE
      by_cases i0 : i < 0
      · clear hc
        go_enter Tryz.func101, Tryz.ntmps101
        go_wp2_with (go_at_call 70; refine (irefcheck_c _ _ _ _ _ _ _ (K _) hf).mono ?_; rintro e w' ⟨rfl, hb⟩; have KK := Box4.new hb; clear hb; obtain ⟨⟨hz, c0, c1, c2, c3⟩, hw⟩ := KK)
        go_ret2
        exact ⟨ret_pair (congrArg (Value.int IntKind.u64) R.out) (congrArg (Value.int IntKind.i64) RE.out), by assumption⟩
      · have i1 : N ≤ i := by omega
        clear hc
        go_enter Tryz.func101, Tryz.ntmps101
        go_wp2_with (go_at_call 70; refine (irefcheck_c _ _ _ _ _ _ _ (K _) hf).mono ?_; rintro e w' ⟨rfl, hb⟩; have KK := Box4.new hb; clear hb; obtain ⟨⟨hz, c0, c1, c2, c3⟩, hw⟩ := KK)
        go_ret2
        exact ⟨ret_pair (congrArg (Value.int IntKind.u64) R.out) (congrArg (Value.int IntKind.i64) RE.out), by assumption⟩
end Go.Proofs.YtmphbnmcbonmmaaGreatDoor

namespace Go.Proofs.YtmphbnmcbonmmaaGreatDoor
open Go.RowKit Num Bit
set_option maxRecDepth 100000

theorem Tryz.info51 : (Tryz.prog.info? 51).map (fun i => (i.zero, i.size, i.bytes)) = some (some (.int .u64 0), 1, 8) := by kernel_rfl
theorem Tryz.size51 : (Tryz.prog.info? 51).map (·.size) = some 1 := by kernel_rfl

def wv (ys : List Nat) : List Value := ys.map fun y => Value.int .u64 (y : Nat)
def Own (w : World) (g : Nat) (ys : List Nat) : Prop := w.heap[g]? = some (.cells (wv ys).toArray 51 (0, 0))


theorem own_made {w : World} {base g n : Nat} (h : w.ownsRow base 51 1 (.slice (some ⟨g, 0, none⟩) n n) n (madeCells #[.int .u64 0] n).toList) : w.heap[g]? = some (.cells (wv (List.replicate n 0)).toArray 51 (0, 0)) := by
  obtain ⟨_, h | ⟨g', cap, cur, e, _, hh, _, _, hs, ht⟩⟩ := h
  · simp at h
  · simp only [Value.slice.injEq, Option.some.injEq, Addr.mk.injEq] at e
    obtain ⟨⟨rfl, _, _⟩, _, rfl⟩ := e
    rw [hh]
    have e2 : (madeCells #[.int .u64 0] n).toList = wv (List.replicate n 0) := by
      rw [toList_madeCells_one (.int .u64 0) n, wv, List.map_replicate]
      rfl
    rw [e2] at ht
    have e3 : cur.toList.take (n * 1) = cur.toList := List.take_of_length_le (by simp; omega)
    rw [e3] at ht
    rw [← ht]

theorem splice_cp (xs : List Nat) (n : Nat) : splice (wv (List.replicate n 0)) 0 (wv (xs.take n)) = wv (cp xs n) := by
  unfold splice wv cp
  rw [List.take_zero, List.nil_append, List.map_append, Nat.zero_add, List.length_map, List.length_take, ← List.map_drop, List.drop_replicate]
  congr 3
  omega

theorem Own.set_other {w : World} {g : Nat} {ys : List Nat} (h : Own w g ys) {a : Addr} (ha : g ≠ a.block) (v : Value) : Own (w.setCell a v) g ys :=
  (Below.heap_setCell w a v g ha).trans h

theorem size_set (w : World) (a : Addr) (v : Value) : (w.setCell a v).heap.size = w.heap.size := by simp [World.setCell]


theorem box2_cells {w W w' : World} {a b c d : Value} {T U : TypeId} (hW : W = (w.alloc (.cells #[a, b] T)).alloc (.cells #[c, d] U)) (hb : Below W.heap.size W w') :
    (w'.cell? ⟨w.heap.size, 0, none⟩ = some a ∧ w'.cell? ⟨w.heap.size, 1, none⟩ = some b) ∧ (w'.cell? ⟨w.heap.size + 1, 0, none⟩ = some c ∧ w'.cell? ⟨w.heap.size + 1, 1, none⟩ = some d) ∧
    (w'.frozen? ⟨w.heap.size + 1, 0, none⟩ = false ∧ w'.frozen? ⟨w.heap.size + 1, 1, none⟩ = false) ∧ w.heap.size + 1 < w'.heap.size ∧ Below w.heap.size w w' := by
  have hz : W.heap.size = w.heap.size + 2 := by rw [hW]; simp
  refine ⟨⟨?_, ?_⟩, ⟨?_, ?_⟩, ⟨?_, ?_⟩, ?_, ?_⟩
  · rw [hb.cell (p := ⟨w.heap.size, 0, none⟩) (by simp [hz]), hW]; simp
  · rw [hb.cell (p := ⟨w.heap.size, 1, none⟩) (by simp [hz]), hW]; simp
  · rw [hb.cell (p := ⟨w.heap.size + 1, 0, none⟩) (by simp [hz]), hW]; simp
  · rw [hb.cell (p := ⟨w.heap.size + 1, 1, none⟩) (by simp [hz]), hW]; simp
  · rw [hb.frozen (p := ⟨w.heap.size + 1, 0, none⟩) (by simp [hz]), hW]; simp
  · rw [hb.frozen (p := ⟨w.heap.size + 1, 1, none⟩) (by simp [hz]), hW]; simp
  · have := hb.size; omega
  · have h0 : Below w.heap.size w W := by rw [hW]; exact ((below_alloc w _).alloc (by simp) _)
    exact h0.trans (hb.mono (by omega))

/-- A world in which block g alone has turned. -/
structure Turned (g : Nat) (w w' : World) : Prop where
  os : w'.os = w.os
  tape : w'.tape = w.tape
  output : w'.output = w.output
  size : w'.heap.size = w.heap.size
  block : ∀ k, k ≠ g → w'.heap[k]? = w.heap[k]?

theorem Turned.refl (g : Nat) (w : World) : Turned g w w := ⟨rfl, rfl, rfl, rfl, fun _ _ => rfl⟩
theorem Turned.set {g : Nat} {a w : World} (h : Turned g a w) (off : Nat) (v : Value) : Turned g a (w.setCell ⟨g, off, none⟩ v) :=
  ⟨h.os, h.tape, h.output, (size_set _ _ _).trans h.size, fun k hk => (Below.heap_setCell _ _ _ _ hk).trans (h.block k hk)⟩
theorem Turned.cell {g : Nat} {w w' : World} (h : Turned g w w') {p : Addr} (hp : p.block ≠ g) : w'.cell? p = w.cell? p := World.cell?_of_block (w := w) (h.block p.block hp)
theorem Turned.frozen {g : Nat} {w w' : World} (h : Turned g w w') {p : Addr} (hp : p.block ≠ g) : w'.frozen? p = w.frozen? p := World.frozen?_of_block (w := w) (h.block p.block hp)
theorem Turned.below {g B : Nat} {w w' : World} (h : Turned g w w') (hB : B ≤ g) : Below B w w' :=
  ⟨h.os, h.tape, h.output, by rw [h.size]; exact Nat.le_refl _, fun k hk => h.block k (by omega)⟩

theorem length_wv (ys : List Nat) : (wv ys).length = ys.length := by simp [wv]
theorem Own.cell {w : World} {g : Nat} {ys : List Nat} (h : Own w g ys) (j : Nat) (hj : j < ys.length) : w.cell? ⟨g, j, none⟩ = some (.int .u64 (gt ys j)) := by
  unfold World.cell?
  rw [show w.heap[({ block := g, off := j, spot := none } : Addr).block]? = _ from h]
  show (wv ys).toArray[j]? = _
  rw [List.getElem?_toArray, wv, List.getElem?_map, gt_get ys j hj]
  rfl
theorem Own.frozen {w : World} {g : Nat} {ys : List Nat} (h : Own w g ys) (j : Nat) : w.frozen? ⟨g, j, none⟩ = false := by
  unfold World.frozen?
  rw [show w.heap[({ block := g, off := j, spot := none } : Addr).block]? = _ from h]
  simp
theorem Own.lt {w : World} {g : Nat} {ys : List Nat} (h : Own w g ys) : g < w.heap.size := (Array.getElem?_eq_some_iff.1 h).1
theorem Own.set {w : World} {g : Nat} {ys : List Nat} (h : Own w g ys) (j v : Nat) : Own (w.setCell ⟨g, j, none⟩ (.int .u64 v)) g (ys.set j v) := by
  unfold Own at *
  simp only [World.setCell, Array.getElem?_modify]
  rw [if_pos trivial, h]
  simp [wv, List.map_set]
theorem Own.wd {w : World} {g : Nat} {ys : List Nat} (h : Own w g ys) : Wd w (some ⟨g, 0, none⟩) ys :=
  fun _ => ⟨g, 0, rfl, h.lt, fun i hi => by rw [Nat.zero_add]; exact h.cell i hi⟩
theorem Own.keep {w w' : World} {g : Nat} {ys : List Nat} (h : Own w g ys) (hb : Below w.heap.size w w') : Own w' g ys := (hb.block g h.lt).trans h

theorem bne0 (a : Nat) : ((a : Int) != 0) = decide (a ≠ 0) := by
  rw [Bool.eq_iff_iff, bne_iff_ne, decide_eq_true_eq]; omega

theorem turn_cell {g : Nat} {w w' : World} {o : Obj} (hT : Turned g (w.alloc o).drew w') {b j : Nat} (hb : b < w.heap.size) (hg : b ≠ g) {v : Value} (h : w.cell? ⟨b, j, none⟩ = some v) : w'.cell? ⟨b, j, none⟩ = some v :=
  (hT.cell (p := ⟨b, j, none⟩) hg).trans (((below_alloc w o).drew.cell (p := ⟨b, j, none⟩) hb).trans h)
theorem turn_frozen {g : Nat} {w w' : World} {o : Obj} (hT : Turned g (w.alloc o).drew w') {b j : Nat} (hb : b < w.heap.size) (hg : b ≠ g) {v : Bool} (h : w.frozen? ⟨b, j, none⟩ = v) : w'.frozen? ⟨b, j, none⟩ = v :=
  (hT.frozen (p := ⟨b, j, none⟩) hg).trans (((below_alloc w o).drew.frozen (p := ⟨b, j, none⟩) hb).trans h)
theorem turn_box {g : Nat} {w w' : World} {a b : Value} {T : TypeId} (hT : Turned g (w.alloc (.cells #[a, b] T)).drew w') (hg : w.heap.size ≠ g) : w'.cell? ⟨w.heap.size, 0, none⟩ = some a ∧ w'.cell? ⟨w.heap.size, 1, none⟩ = some b :=
  ⟨(hT.cell (p := ⟨w.heap.size, 0, none⟩) hg).trans (by simp), (hT.cell (p := ⟨w.heap.size, 1, none⟩) hg).trans (by simp)⟩

theorem box_frozen {w w' : World} {a b : Value} {T : TypeId} (hb : Below (w.alloc (.cells #[a, b] T)).heap.size (w.alloc (.cells #[a, b] T)) w') :
    w'.frozen? ⟨w.heap.size, 0, none⟩ = false ∧ w'.frozen? ⟨w.heap.size, 1, none⟩ = false := by
  refine ⟨?_, ?_⟩
  · rw [hb.frozen (p := ⟨w.heap.size, 0, none⟩) (by simp)]; simp
  · rw [hb.frozen (p := ⟨w.heap.size, 1, none⟩) (by simp)]; simp

theorem new_ok (n : Int) (k : Nat) (w : World) (h0 : 0 ≤ n) (h1 : n ≤ 1048576) (hk : (n + 63) / 64 = (k : Int)) :
    Calls Tryz.prog 81 #[.int .i64 n] w fun e w' => ∃ g, e = .returned (.tuple #[.agg #[.int .i64 n, .slice (some ⟨g, 0, none⟩) k k], .int .i64 0]) ∧ w.heap.size ≤ g ∧ g < w'.heap.size ∧ Own w' g (List.replicate k 0) ∧ Below w.heap.size w w' := by
  obtain ⟨i0, hi, hz0, hz1, hz2⟩ := info_parts Tryz.info51
  have hk2 : k ≤ 1048576 := by omega
  go_enter Tryz.func81, Tryz.ntmps81
  go_wp2_with (first | (go_at_call 53; refine (need_c _ ?_ ?_ _).mono ?_; (omega); (omega); rintro e w' ⟨rfl, rfl⟩) | (at_make; refine wpList_make_full _ rfl _ _ 22 rfl (w.heap.size + 1) 51 i0 (.int .u64 0) 1 Tryz.underlying22 hi hz0 hz1 .i64 .i64 _ _ k rfl rfl rfl rfl ?b2 ?b3 ?b4 ?_))
  case b2 => rw [hz2]; omega
  case b3 => unfold maxLen; omega
  case b4 => simp
  intro w1 hown hgr
  have hb1 : Below (w.alloc (.cells #[.int .i64 0, .slice none 0 0] 24)).heap.size (w.alloc (.cells #[.int .i64 0, .slice none 0 0] 24)) w1 := (Below.refl _ _).grown hgr (Nat.le_refl _) (fun k h => by cases h)
  have hO : Own w1 (w.heap.size + 1) (List.replicate k 0) := own_made hown
  obtain ⟨k0, k1, hz, hw⟩ := box_cells hb1
  obtain ⟨k2, k3⟩ := box_frozen hb1
  have hlt := hO.lt
  clear hown hgr hi hz0 hz1 hz2 hb1
  go_wp2
  refine bodyPost_ret (v := .tuple #[.agg #[.int .i64 n, .slice (some ⟨w.heap.size + 1, 0, none⟩) k k], .int .i64 0]) (by simp [results, Tryz.results81, go_sem, k0, k1]) rfl ⟨w.heap.size + 1, rfl, by omega, ?_, ?_, ?_⟩
  · rw [size_set, size_set]; exact hlt
  · exact (hO.set_other (by simp) _).set_other (by simp) _
  · exact (hw.setCell (by simp) _).setCell (by simp) _

theorem new_bad (n : Int) (w : World) (h : n < 0 ∨ 1048576 < n) :
    Calls Tryz.prog 81 #[.int .i64 n] w fun e w' => e = .returned (.tuple #[.agg #[.int .i64 0, .slice none 0 0], .int .i64 2]) ∧ Below w.heap.size w w' := by
  rcases h with h | h
  · go_enter Tryz.func81, Tryz.ntmps81
    go_wp2
    exact bodyPost_ret (v := .tuple #[.agg #[.int .i64 0, .slice none 0 0], .int .i64 2]) (by simp [results, Tryz.results81, go_sem]) rfl ⟨rfl, below_alloc w _⟩
  · have h' : ¬ n < 0 := by omega
    go_enter Tryz.func81, Tryz.ntmps81
    go_wp2
    exact bodyPost_ret (v := .tuple #[.agg #[.int .i64 0, .slice none 0 0], .int .i64 2]) (by simp [results, Tryz.results81, go_sem]) rfl ⟨rfl, below_alloc w _⟩

/-- What a call that makes a row leaves: the words lie in memory of its own, and nothing old has turned. -/
def Out (w w' : World) (ao : Option Addr) (ys : List Nat) (cap : Nat) : Prop := Wd w' ao ys ∧ Fit ys ∧ ys.length ≤ cap ∧ Below w.heap.size w w'

theorem rep_row (n k : Nat) (hk : k = (n + 63) / 64) : List.replicate k 0 = rowOf n (fun _ => false) := by
  refine eq_rowOf n _ _ ?_ (by simp; exact hk) ?_
  · intro i
    unfold gt
    rw [List.getD_eq_getElem?_getD, List.getElem?_replicate]
    split <;> simp
  · intro i _
    unfold bitAt gt
    rw [List.getD_eq_getElem?_getD, List.getElem?_replicate]
    split <;> simp

theorem new_c (n : Int) (w : World) :
    Calls Tryz.prog 81 #[.int .i64 n] w fun e w' => ∃ ao cap, e = .returned (.tuple #[.agg #[.int .i64 (newN n), .slice ao (newL n).length cap], .int .i64 (newE n)]) ∧ Out w w' ao (newL n) cap := by
  by_cases h : n < 0 ∨ 1048576 < n
  · refine (new_bad n w h).mono ?_
    rintro e w' ⟨rfl, hb⟩
    have h1 : newE n = 2 := by unfold newE; rw [if_pos h]
    have h2 : newN n = 0 := by unfold newN; rw [h1]; rfl
    have h3 : newL n = [] := by unfold newL; rw [h1]; rfl
    rw [h1, h2, h3]
    exact ⟨none, 0, rfl, fun h => absurd h (by simp), fun i => by unfold gt; simp, by simp, hb⟩
  · obtain ⟨m, rfl⟩ := Int.eq_ofNat_of_zero_le (show 0 ≤ n by omega)
    refine (new_ok m ((m + 63) / 64) w (by omega) (by omega) (by omega)).mono ?_
    rintro e w' ⟨g, rfl, hg, hlt, hO, hb⟩
    have h1 : newE m = 0 := by unfold newE; rw [if_neg h]
    have h2 : newN m = m := by unfold newN; rw [h1]; rfl
    have h3 : newL m = List.replicate ((m + 63) / 64) 0 := by unfold newL; rw [h1, rep_row m _ rfl]; rfl
    rw [h1, h2, h3]
    refine ⟨some ⟨g, 0, none⟩, (m + 63) / 64, by simp, hO.wd, ?_, by simp, hb⟩
    rw [rep_row m _ rfl]; exact fit_rowOf _ _

end Go.Proofs.YtmphbnmcbonmmaaGreatDoor

namespace Go.Proofs.YtmphbnmcbonmmaaGreatDoor
open Num
namespace Bit

/-- The words while the first q words of the second row are laid behind the first. -/
def joinS (xs ys : List Nat) (m k : Nat) : Nat → List Nat
  | 0 => cp xs k
  | q + 1 => putL (joinS xs ys m k q) (m + q * 64) (gt ys q)

theorem length_joinS (xs ys : List Nat) (m k q : Nat) : (joinS xs ys m k q).length = k := by
  induction q with
  | zero => exact length_cp xs k
  | succ q ih => simp only [joinS]; rw [length_putL, ih]

theorem word_lt (M : Nat) (ys : List Nat) (hf : Fit ys) (hk : chk (M : Int) ys = true) (q : Nat) : gt ys q < 2 ^ (min 64 (M - 64 * q)) := by
  refine Nat.lt_pow_two_of_testBit _ fun i hi => ?_
  by_cases h : i < 64
  · have e := chk_high M ys hk (64 * q + i) (by omega)
    unfold bitAt at e
    rw [show (64 * q + i) / 64 = q by omega, show (64 * q + i) % 64 = i by omega] at e
    exact e
  · exact test_big _ _ (hf q) (by omega)

theorem room_joinS (xs ys : List Nat) (m M k : Nat) (hf : Fit ys) (hk : chk (M : Int) ys = true) (hkk : k = (m + M + 63) / 64) (q : Nat) (hq : q < ys.length) : Room (joinS xs ys m k q) (m + q * 64) (gt ys q) := by
  obtain ⟨_, _, hl, _⟩ := chk_out M ys hk
  exact room_of _ _ _ _ (word_lt M ys hf hk q) (by omega) (by rw [length_joinS]; omega)

theorem joinS_bits (xs ys : List Nat) (m M k : Nat) (hfx : Fit xs) (hf : Fit ys) (hk : chk (M : Int) ys = true) (hkk : k = (m + M + 63) / 64) (q : Nat) (hq : q ≤ ys.length) :
    Fit (joinS xs ys m k q) ∧ ∀ i, bitAt (joinS xs ys m k q) i = (bitAt (cp xs k) i || (decide (m ≤ i ∧ i < m + q * 64) && bitAt ys (i - m))) := by
  induction q with
  | zero =>
    refine ⟨fit_cp xs hfx k, fun i => ?_⟩
    simp only [joinS]
    rw [show decide (m ≤ i ∧ i < m + 0 * 64) = false by simp]
    simp
  | succ q ih =>
    obtain ⟨i1, i2⟩ := ih (by omega)
    have hr := room_joinS xs ys m M k hf hk hkk q (by omega)
    refine ⟨fit_putL _ i1 _ _ (hf q) hr, fun i => ?_⟩
    simp only [joinS]
    rw [bitAt_putL _ _ _ (hf q) hr, i2 i, Bool.or_assoc]
    congr 1
    by_cases c1 : m + q * 64 ≤ i
    · rw [show decide (m ≤ i ∧ i < m + q * 64) = false by simp; omega, show decide (m + q * 64 ≤ i) = true by simpa using c1]
      by_cases c2 : i < m + (q + 1) * 64
      · rw [show decide (m ≤ i ∧ i < m + (q + 1) * 64) = true by simp; omega]
        unfold bitAt
        rw [show (i - m) / 64 = q by omega, show (i - m) % 64 = i - (m + q * 64) by omega]
        simp
      · rw [show decide (m ≤ i ∧ i < m + (q + 1) * 64) = false by simp; omega, test_big _ _ (hf q) (by omega)]
        simp
    · rw [show decide (m + q * 64 ≤ i) = false by simpa using c1]
      by_cases c2 : m ≤ i
      · rw [show decide (m ≤ i ∧ i < m + q * 64) = true by simp; omega, show decide (m ≤ i ∧ i < m + (q + 1) * 64) = true by simp; omega]
        simp
      · rw [show decide (m ≤ i ∧ i < m + q * 64) = false by simp; omega, show decide (m ≤ i ∧ i < m + (q + 1) * 64) = false by simp; omega]
        simp

theorem join_row (m M k : Nat) (xs ys : List Nat) (hfx : Fit xs) (hf : Fit ys) (hkx : chk (m : Int) xs = true) (hk : chk (M : Int) ys = true) (hkk : k = (m + M + 63) / 64) :
    joinS xs ys m k ys.length = rowOf (m + M) (fun j => if j < m then bitAt xs j else bitAt ys (j - m)) := by
  obtain ⟨_, _, hlx, _⟩ := chk_out m xs hkx
  obtain ⟨_, _, hl, _⟩ := chk_out M ys hk
  obtain ⟨h1, h2⟩ := joinS_bits xs ys m M k hfx hf hk hkk ys.length (Nat.le_refl _)
  refine eq_rowOf _ _ _ h1 (by rw [length_joinS]; exact hkk) fun i hi => ?_
  rw [length_joinS] at hi
  rw [h2 i]
  have hb : bitAt (cp xs k) i = bitAt xs i := by unfold bitAt; rw [gt_cp xs k _ (by omega)]
  rw [hb]
  by_cases c : i < m
  · rw [if_pos c, show decide (m ≤ i ∧ i < m + ys.length * 64) = false by simp; omega, show decide (i < m + M) = true by simp; omega]
    simp
  · rw [if_neg c, chk_high m xs hkx i (by omega)]
    by_cases c2 : i < m + M
    · rw [show decide (m ≤ i ∧ i < m + ys.length * 64) = true by simp; omega, show decide (i < m + M) = true by simpa using c2]
      simp
    · rw [chk_high M ys hk (i - m) (by omega)]
      simp
end Bit
end Go.Proofs.YtmphbnmcbonmmaaGreatDoor

namespace Go.Proofs.YtmphbnmcbonmmaaGreatDoor
open Go.RowKit Num Bit
set_option maxRecDepth 100000

def bt (l : List Bool) (i : Nat) : Bool := l.getD i false
/-- A slice of bools that reads as a list. -/
def Bl (w : World) (ao : Option Addr) (l : List Bool) : Prop :=
  0 < l.length → ∃ b off, ao = some ⟨b, off, none⟩ ∧ b < w.heap.size ∧ ∀ i, i < l.length → w.cell? ⟨b, off + i, none⟩ = some (.bool (bt l i))
theorem Bl.keep {w w' : World} {ao : Option Addr} {l : List Bool} (h : Bl w ao l) (hb : Below w.heap.size w w') : Bl w' ao l := by
  intro hi
  obtain ⟨b, off, e, hlt, hc⟩ := h hi
  exact ⟨b, off, e, Nat.lt_of_lt_of_le hlt hb.size, fun i hi => (hb.cell (p := ⟨b, off + i, none⟩) hlt).trans (hc i hi)⟩

def fromS (l : List Bool) (q : Nat) : List Nat := rowOf l.length (fun j => decide (j < q) && bt l j)

theorem length_fromS (l : List Bool) (q : Nat) : (fromS l q).length = (l.length + 63) / 64 := length_rowOf _ _

theorem fit_fromS (l : List Bool) (q : Nat) : Fit (fromS l q) := fit_rowOf _ _

theorem from_step (l : List Bool) (q : Nat) (hq : q < l.length) (hl : l.length ≤ 1048576) (hb : bt l q = true) : (fromS l q).set (q / 64) (gt (fromS l q) (q / 64) ||| 2 ^ (q % 64)) = fromS l (q + 1) := by
  have e := set_row_true l.length (fromS l q) (fit_rowOf _ _) (chk_rowOf _ _ hl) q (by omega)
  rw [e, Int.toNat_natCast]
  refine rowOf_congr _ _ _ fun i hi => ?_
  unfold fromS
  rw [bitAt_rowOf]
  by_cases c : i = q
  · subst c; simp [hb]
  · rw [if_neg c]
    by_cases c2 : i < q
    · simp [hi, c2, show i < q + 1 by omega]
    · simp [c2, show ¬ i < q + 1 by omega]

theorem from_skip (l : List Bool) (q : Nat) (hb : bt l q = false) : fromS l q = fromS l (q + 1) := by
  refine rowOf_congr _ _ _ fun i _ => ?_
  by_cases c : i = q
  · subst c; simp [hb]
  · by_cases c2 : i < q
    · simp [c2, show i < q + 1 by omega]
    · simp [c2, show ¬ i < q + 1 by omega]

def frL (l : List Bool) : List Nat := rowOf l.length (bt l)

theorem fromS_all (l : List Bool) : fromS l l.length = frL l := rowOf_congr _ _ _ fun i hi => by simp [hi]

end Go.Proofs.YtmphbnmcbonmmaaGreatDoor

namespace Go.Proofs.YtmphbnmcbonmmaaGreatDoor
open Go.RowKit Num Bit
set_option maxRecDepth 100000

theorem refnew_ok (n : Int) (k : Nat) (w : World) (h0 : 0 ≤ n) (h1 : n ≤ 1048576) (hk : (n + 63) / 64 = (k : Int)) :
    Calls Tryz.prog 66 #[.int .i64 n] w fun e w' => ∃ g, e = .returned (.tuple #[.agg #[.int .i64 n, .slice (some ⟨g, 0, none⟩) k k], .int .i64 0]) ∧ w.heap.size ≤ g ∧ g < w'.heap.size ∧ Own w' g (List.replicate k 0) ∧ Below w.heap.size w w' := by
  obtain ⟨i0, hi, hz0, hz1, hz2⟩ := info_parts Tryz.info51
  have hk2 : k ≤ 1048576 := by omega
  go_enter Tryz.func66, Tryz.ntmps66
  go_wp2_with (first | (go_at_call 60; refine (refwords_c _ ?_ ?_ _).mono ?_; (omega); (omega); rintro e w' ⟨rfl, rfl⟩) | (at_make; refine wpList_make_full _ rfl _ _ 22 rfl (w.heap.size + 1) 51 i0 (.int .u64 0) 1 Tryz.underlying22 hi hz0 hz1 .i64 .i64 _ _ k rfl rfl rfl rfl ?b2 ?b3 ?b4 ?_))
  case b2 => rw [hz2]; omega
  case b3 => unfold maxLen; omega
  case b4 => simp
  intro w1 hown hgr
  have hb1 : Below (w.alloc (.cells #[.int .i64 0, .slice none 0 0] 24)).heap.size (w.alloc (.cells #[.int .i64 0, .slice none 0 0] 24)) w1 := (Below.refl _ _).grown hgr (Nat.le_refl _) (fun k h => by cases h)
  have hO : Own w1 (w.heap.size + 1) (List.replicate k 0) := own_made hown
  obtain ⟨k0, k1, hz, hw⟩ := box_cells hb1
  obtain ⟨k2, k3⟩ := box_frozen hb1
  have hlt := hO.lt
  clear hown hgr hi hz0 hz1 hz2 hb1
  go_wp2
  refine bodyPost_ret (v := .tuple #[.agg #[.int .i64 n, .slice (some ⟨w.heap.size + 1, 0, none⟩) k k], .int .i64 0]) (by simp [results, Tryz.results66, go_sem, k0, k1]) rfl ⟨w.heap.size + 1, rfl, by omega, ?_, ?_, ?_⟩
  · rw [size_set, size_set]; exact hlt
  · exact (hO.set_other (by simp) _).set_other (by simp) _
  · exact (hw.setCell (by simp) _).setCell (by simp) _

theorem refnew_bad (n : Int) (w : World) (h : n < 0 ∨ 1048576 < n) :
    Calls Tryz.prog 66 #[.int .i64 n] w fun e w' => e = .returned (.tuple #[.agg #[.int .i64 0, .slice none 0 0], .int .i64 2]) ∧ Below w.heap.size w w' := by
  rcases h with h | h
  · go_enter Tryz.func66, Tryz.ntmps66
    go_wp2
    exact bodyPost_ret (v := .tuple #[.agg #[.int .i64 0, .slice none 0 0], .int .i64 2]) (by simp [results, Tryz.results66, go_sem]) rfl ⟨rfl, below_alloc w _⟩
  · have h' : ¬ n < 0 := by omega
    go_enter Tryz.func66, Tryz.ntmps66
    go_wp2
    exact bodyPost_ret (v := .tuple #[.agg #[.int .i64 0, .slice none 0 0], .int .i64 2]) (by simp [results, Tryz.results66, go_sem]) rfl ⟨rfl, below_alloc w _⟩

theorem refnew_c (n : Int) (w : World) :
    Calls Tryz.prog 66 #[.int .i64 n] w fun e w' => ∃ ao cap, e = .returned (.tuple #[.agg #[.int .i64 (newN n), .slice ao (newL n).length cap], .int .i64 (newE n)]) ∧ Out w w' ao (newL n) cap := by
  by_cases h : n < 0 ∨ 1048576 < n
  · refine (refnew_bad n w h).mono ?_
    rintro e w' ⟨rfl, hb⟩
    have h1 : newE n = 2 := by unfold newE; rw [if_pos h]
    have h2 : newN n = 0 := by unfold newN; rw [h1]; rfl
    have h3 : newL n = [] := by unfold newL; rw [h1]; rfl
    rw [h1, h2, h3]
    exact ⟨none, 0, rfl, fun h => absurd h (by simp), fun i => by unfold gt; simp, by simp, hb⟩
  · obtain ⟨m, rfl⟩ := Int.eq_ofNat_of_zero_le (show 0 ≤ n by omega)
    refine (refnew_ok m ((m + 63) / 64) w (by omega) (by omega) (by omega)).mono ?_
    rintro e w' ⟨g, rfl, hg, hlt, hO, hb⟩
    have h1 : newE m = 0 := by unfold newE; rw [if_neg h]
    have h2 : newN m = m := by unfold newN; rw [h1]; rfl
    have h3 : newL m = List.replicate ((m + 63) / 64) 0 := by unfold newL; rw [h1, rep_row m _ rfl]; rfl
    rw [h1, h2, h3]
    refine ⟨some ⟨g, 0, none⟩, (m + 63) / 64, by simp, hO.wd, ?_, by simp, hb⟩
    rw [rep_row m _ rfl]; exact fit_rowOf _ _

/-- What the document's put makes of the words. -/
def rputL (ys : List Nat) (p : Nat) (x : Bool) : List Nat :=
  if x then ys.set (p / 64) ((gt ys (p / 64) &&& (18446744073709551615 - 2 ^ (p % 64))) ||| 2 ^ (p % 64)) else ys.set (p / 64) (gt ys (p / 64) &&& (18446744073709551615 - 2 ^ (p % 64)))

theorem refput_c (ys : List Nat) (g cap p : Nat) (x : Bool) (w : World) (hO : Own w g ys) (hp : p ≤ 2097152) (hf : Fit ys) (h1 : p / 64 < ys.length) :
    Calls Tryz.prog 67 #[.slice (some ⟨g, 0, none⟩) ys.length cap, .int .i64 p, .bool x] w fun e w' => e = .returned (.tuple #[]) ∧ Own w' g (rputL ys p x) ∧ Turned g w w' := by
  have l1' : (p : Int) / 64 < (ys.length : Int) := by omega
  have e1 := hO.cell (p / 64) h1
  have f1 := hO.frozen (p / 64)
  have SO : Hid (IntKind.u64.wrap ((2 : Int) ^ (p % 64)) = ((2 ^ (p % 64) : Nat) : Int)) := shl_one _ (by omega)
  have SP : Hid (2 ^ (p % 64) < 18446744073709551616) := two_pow_lt _ (by omega)
  have SA : Hid (gt ys (p / 64) &&& (18446744073709551615 - 2 ^ (p % 64)) < 18446744073709551616) := Nat.lt_of_le_of_lt Nat.and_le_left (hf _)
  cases x with
  | false =>
    go_enter Tryz.func67, Tryz.ntmps67
    go_wp2
    go_end0
    rw [SO.out, u64_andNot_nat _ _ (hf _) SP.out]
    exact ⟨rfl, hO.set _ _, (Turned.refl _ _).set _ _⟩
  | true =>
    go_enter Tryz.func67, Tryz.ntmps67
    go_wp2
    go_end0
    rw [SO.out, u64_andNot_nat _ _ (hf _) SP.out, u64_or_nat _ _ SA.out SP.out]
    refine ⟨rfl, ?_, ((Turned.refl _ _).set _ _).set _ _⟩
    have h := (hO.set (p / 64) (gt ys (p / 64) &&& (18446744073709551615 - 2 ^ (p % 64)))).set (p / 64) ((gt ys (p / 64) &&& (18446744073709551615 - 2 ^ (p % 64))) ||| 2 ^ (p % 64))
    rw [List.set_set] at h
    exact h

theorem rput_row (N : Int) (xs : List Nat) (hf : Fit xs) (hk : chk N xs = true) (n : Nat) (hn : (n : Int) < N) (x : Bool) :
    rputL xs n x = rowOf N.toNat (fun j => if j = n then x else bitAt xs j) := by
  cases x with
  | false => exact set_row_false N xs hf hk n hn
  | true =>
    have e := set_row_true N xs hf hk n hn
    rw [← e]
    unfold rputL
    rw [if_pos rfl]
    congr 1
    refine eq_of_bits _ _ (or_lt _ _ (Nat.lt_of_le_of_lt Nat.and_le_left (hf _)) (two_pow_lt _ (by omega))) (or_lt _ _ (hf _) (two_pow_lt _ (by omega))) fun k hk64 => ?_
    rw [Nat.testBit_or, Nat.testBit_or, Nat.testBit_and, test_not_pow _ _ (by omega) hk64, Nat.testBit_two_pow]
    by_cases c : n % 64 = k <;> simp [c]

theorem refput_l (ys : List Nat) (l g cap p : Nat) (x : Bool) (w : World) (hl : ys.length = l) (hO : Own w g ys) (hp : p ≤ 2097152) (hf : Fit ys) (h1 : p / 64 < l) :
    Calls Tryz.prog 67 #[.slice (some ⟨g, 0, none⟩) l cap, .int .i64 p, .bool x] w fun e w' => e = .returned (.tuple #[]) ∧ Own w' g (rputL ys p x) ∧ Turned g w w' := by
  subst hl
  exact refput_c ys g cap p x w hO hp hf h1

theorem from_put (l : List Bool) (q : Nat) (hq : q < l.length) (hl : l.length ≤ 1048576) : rputL (fromS l q) q (bt l q) = fromS l (q + 1) := by
  have e := rput_row l.length (fromS l q) (fit_rowOf _ _) (chk_rowOf _ _ hl) q (by omega) (bt l q)
  rw [e, Int.toNat_natCast]
  refine rowOf_congr _ _ _ fun i hi => ?_
  unfold fromS
  rw [bitAt_rowOf]
  by_cases c : i = q
  · subst c; simp
  · rw [if_neg c]
    by_cases c2 : i < q
    · simp [hi, c2, show i < q + 1 by omega]
    · simp [c2, show ¬ i < q + 1 by omega]

theorem reffrom_ok (ao : Option Addr) (l : List Bool) (cap k : Nat) (w : World) (hx : Bl w ao l) (hl : l.length ≤ 1048576) (hk : k = (l.length + 63) / 64) :
    Calls Tryz.prog 34 #[.slice ao l.length cap] w fun e w' => ∃ g, e = .returned (.tuple #[.agg #[.int .i64 l.length, .slice (some ⟨g, 0, none⟩) k k], .int .i64 0]) ∧ w.heap.size ≤ g ∧ Own w' g (fromS l l.length) ∧ Below w.heap.size w w' := by
  have HK : Hid (k = (l.length + 63) / 64) := hk
  have hk1 : ((l.length : Int) + 63) / 64 = (k : Int) := by omega
  have HK1 : Hid (((l.length : Int) + 63) / 64 = (k : Int)) := hk1
  clear hk hk1
  go_enter Tryz.func34, Tryz.ntmps34
  go_wp2_with fail
  refine (refnew_ok _ k _ (Int.natCast_nonneg _) (by omega) HK1.out).mono ?_
  rintro e w1 ⟨g, rfl, hg1, hg2, hO, hb⟩
  have KK := box_cells hb
  have KF := box_frozen hb
  have hg0 : w.heap.size + 1 ≤ g := by simpa using hg1
  clear hb hg1
  obtain ⟨k0, k1, hz, hw⟩ := KK
  obtain ⟨k2, k3⟩ := KF
  go_wp2
  go_loopw [6] (fun i wr => ∃ q : Nat, q ≤ l.length ∧ i = .int .i64 q ∧ Own wr g (fromS l q) ∧ (wr.cell? ⟨w1.heap.size, 0, none⟩ = some (.int .i64 l.length) ∧ wr.cell? ⟨w1.heap.size, 1, none⟩ = some (.slice (some ⟨g, 0, none⟩) k k)) ∧ (wr.cell? ⟨w.heap.size, 0, none⟩ = some (.int .i64 0) ∧ wr.cell? ⟨w.heap.size, 1, none⟩ = some (.slice none 0 0) ∧ wr.frozen? ⟨w.heap.size, 0, none⟩ = false ∧ wr.frozen? ⟨w.heap.size, 1, none⟩ = false) ∧ Below w.heap.size w wr) (fun i _ => l.length - (intOf i).toNat)
  case atStart =>
    have hb := below_alloc w1 (.cells #[.int .i64 l.length, .slice (some ⟨g, 0, none⟩) k k] 24)
    refine ⟨0, Nat.zero_le _, rfl, ?_, ⟨by simp, by simp⟩, ⟨(hb.cell (p := ⟨w.heap.size, 0, none⟩) hz).trans k0, (hb.cell (p := ⟨w.heap.size, 1, none⟩) hz).trans k1, (hb.frozen (p := ⟨w.heap.size, 0, none⟩) hz).trans k2, (hb.frozen (p := ⟨w.heap.size, 1, none⟩) hz).trans k3⟩, hw.trans (hb.mono (by omega))⟩
    have e1 : fromS l 0 = List.replicate k 0 := by
      rw [rep_row l.length k HK.out]
      exact rowOf_congr _ _ _ fun i _ => by simp
    rw [e1]
    exact hO.keep hb
  case round =>
    obtain ⟨q, hq, rfl, hOr, ⟨r0, r1⟩, ⟨r3, r4, r5, r6⟩, hwr⟩ := hrel
    by_cases hlt : q < l.length
    · obtain ⟨b, off, rfl, hb, hc⟩ := hx (by omega)
      have e1 := (hwr.cell (p := ⟨b, off + q, none⟩) hb).trans (hc q hlt)
      have hlt3 : (q : Int) < (l.length : Int) := by omega
      have HQ : Hid (q / 64 < k) := by have := HK.out; unfold Hid; omega
      have FS : Hid (rputL (fromS l q) q (bt l q) = fromS l (q + 1)) := from_put l q hlt hl
      have HLN : Hid ((fromS l q).length = k) := by unfold Hid; rw [length_fromS]; exact HK.out.symm
      clear hc
      go_wp2
      go_region_held3 (fun w' => w'.cell? ⟨w1.heap.size, 1, none⟩ = some (.slice (some ⟨g, 0, none⟩) k k) ∧ w'.cell? ⟨b, off + q, none⟩ = some (.bool (bt l q))) (first | go_keep | (refine ⟨?_, ?_⟩ <;> assumption))
        (first | (go_at_call 67; refine (refput_l (fromS l q) k g k q (bt l q) _ HLN.out ?_ (by omega) (fit_fromS l q) HQ.out).mono ?_; (exact hOr); rintro e w4 ⟨rfl, hO4, hT⟩; have q0 := (hT.cell (p := ⟨w1.heap.size, 0, none⟩) (show w1.heap.size ≠ g by omega)).trans r0; have q1 : w4.cell? ⟨w1.heap.size, 1, none⟩ = some (.slice (some ⟨g, 0, none⟩) k k) := (hT.cell (p := ⟨w1.heap.size, 1, none⟩) (show w1.heap.size ≠ g by omega)).trans r1; have q2 : w4.cell? ⟨b, off + q, none⟩ = some (.bool (bt l q)) := (hT.cell (p := ⟨b, off + q, none⟩) (show b ≠ g by omega)).trans e1; have q3 := (hT.cell (p := ⟨w.heap.size, 0, none⟩) (show w.heap.size ≠ g by omega)).trans r3; have q4 := (hT.cell (p := ⟨w.heap.size, 1, none⟩) (show w.heap.size ≠ g by omega)).trans r4; have q5 := (hT.frozen (p := ⟨w.heap.size, 0, none⟩) (show w.heap.size ≠ g by omega)).trans r5; have q6 := (hT.frozen (p := ⟨w.heap.size, 1, none⟩) (show w.heap.size ≠ g by omega)).trans r6; have hw4 := hwr.trans (Below.trans (Below.drew (Below.refl _ _)) (hT.below (B := w.heap.size) (by omega))); clear hT))
      go_wp2
      rw [FS.out] at hO4
      exact ⟨⟨q + 1, by omega, by go_num, hO4, ⟨q0, q1⟩, ⟨q3, q4, q5, q6⟩, hw4⟩, by simp only [intOf]; omega⟩
    · have hq2 : q = l.length := by omega
      rw [hq2] at hOr
      clear hq2
      go_wp2
      refine bodyPost_ret (v := .tuple #[.agg #[.int .i64 l.length, .slice (some ⟨g, 0, none⟩) k k], .int .i64 0]) (by simp [results, Tryz.results34, go_sem, r3, r4]) rfl ⟨g, rfl, by omega, ?_, ?_⟩
      · exact (hOr.set_other (by simp; omega) _).set_other (by simp; omega) _
      · exact (hwr.setCell (by simp) _).setCell (by simp) _

theorem reffrom_c (ao : Option Addr) (l : List Bool) (cap : Nat) (w : World) (hx : Bl w ao l) (hl : l.length ≤ 1048576) :
    Calls Tryz.prog 34 #[.slice ao l.length cap] w fun e w' => ∃ bo dap, e = .returned (.tuple #[.agg #[.int .i64 l.length, .slice bo (frL l).length dap], .int .i64 0]) ∧ Out w w' bo (frL l) dap := by
  refine (reffrom_ok ao l cap _ w hx hl rfl).mono ?_
  rintro e w' ⟨g, rfl, _, hO, hb⟩
  rw [fromS_all] at hO
  have e5 : (frL l).length = (l.length + 63) / 64 := length_rowOf _ _
  exact ⟨some ⟨g, 0, none⟩, (l.length + 63) / 64, by rw [e5], hO.wd, fit_rowOf _ _, by omega, hb⟩
end Go.Proofs.YtmphbnmcbonmmaaGreatDoor

namespace Go.Proofs.YtmphbnmcbonmmaaGreatDoor
open Go.RowKit Num Bit
set_option maxRecDepth 100000
set_option linter.unusedVariables false

theorem Turned.drew {g : Nat} {a w : World} (h : Turned g a w) : Turned g a w.drew := ⟨h.os, h.tape, h.output, h.size, h.block⟩
theorem Own.drew {w : World} {g : Nat} {ys : List Nat} (h : Own w g ys) : Own w.drew g ys := h
theorem mask_n (W m : Nat) (hm : maskI (W : Int) = (m : Int)) (w : World) :
    Calls Tryz.prog 80 #[.int .i64 W] w fun e w' => e = .returned (.int .u64 (m : Int)) ∧ w' = w := by
  have h := mask_c (W : Int) w
  rw [hm] at h
  exact h
theorem mask_is (W : Nat) (h : W ≤ 64) : maskI (W : Int) = ((2 ^ W - 1 : Nat) : Int) := by
  unfold maskI
  rw [Int.toNat_natCast, Nat.min_eq_left h]

set_option maxHeartbeats 2000000 in
theorem lay_c (ys : List Nat) (l g cap p W v : Nat) (w : World) (hl : ys.length = l) (hO : Own w g ys) (hf : Fit ys) (hW : 1 ≤ W) (hW2 : W ≤ 64) (hv : v < 18446744073709551616) (hp : p + W ≤ 64 * ys.length) (hpb : p ≤ 1048576) :
    Calls Tryz.prog 85 #[.slice (some ⟨g, 0, none⟩) l cap, .int .i64 p, .int .i64 W, .int .u64 v] w fun e w' => e = .returned (.tuple #[]) ∧ Own w' g (layL ys p W v) ∧ Turned g w w' := by
  subst hl
  obtain ⟨m, hm⟩ : ∃ m : Nat, m = 2 ^ W - 1 := ⟨_, rfl⟩
  have hmm : Hid (maskI (W : Int) = (m : Int)) := by rw [hm]; exact mask_is W hW2
  have hmb : Hid (m < 18446744073709551616) := by
    have := Nat.pow_le_pow_right (n := 2) (j := 64) (by decide) hW2
    rw [show (2 : Nat) ^ 64 = 18446744073709551616 from rfl] at this
    unfold Hid; omega
  have h1 : p / 64 < ys.length := by omega
  have l1' : (p : Int) / 64 < (ys.length : Int) := by omega
  have e1 := hO.cell (p / 64) h1
  have f1 := hO.frozen (p / 64)
  have A1 : Hid (bits .andNot .u64 (gt ys (p / 64) : Int) ((m * 2 ^ (p % 64) % 18446744073709551616 : Nat) : Int) = ((gt ys (p / 64) &&& (18446744073709551615 - m * 2 ^ (p % 64) % 18446744073709551616) : Nat) : Int)) := u64_andNot_nat _ _ (hf _) (Nat.mod_lt _ (by decide))
  have A2 : Hid (bits .or .u64 ((gt ys (p / 64) &&& (18446744073709551615 - m * 2 ^ (p % 64) % 18446744073709551616) : Nat) : Int) ((v * 2 ^ (p % 64) % 18446744073709551616 : Nat) : Int) = (((gt ys (p / 64) &&& (18446744073709551615 - m * 2 ^ (p % 64) % 18446744073709551616)) ||| v * 2 ^ (p % 64) % 18446744073709551616 : Nat) : Int)) := u64_or_nat _ _ (Nat.lt_of_le_of_lt Nat.and_le_left (hf _)) (Nat.mod_lt _ (by decide))
  have HM : Hid (m = 2 ^ W - 1) := hm
  clear hm
  by_cases c : 64 - p % 64 < W
  · have c' : (64 : Int) - (p : Int) % 64 < (W : Int) := by omega
    have h2 : p / 64 + 1 < ys.length := by omega
    have l2' : (p : Int) / 64 + 1 < (ys.length : Int) := by omega
    have e2 := hO.cell (p / 64 + 1) h2
    have f2 := hO.frozen (p / 64 + 1)
    have B1 : Hid (bits .andNot .u64 (gt ys (p / 64 + 1) : Int) ((m / 2 ^ (64 - p % 64) : Nat) : Int) = ((gt ys (p / 64 + 1) &&& (18446744073709551615 - m / 2 ^ (64 - p % 64)) : Nat) : Int)) := u64_andNot_nat _ _ (hf _) (Nat.lt_of_le_of_lt (Nat.div_le_self _ _) hmb.out)
    have B2 : Hid (bits .or .u64 ((gt ys (p / 64 + 1) &&& (18446744073709551615 - m / 2 ^ (64 - p % 64)) : Nat) : Int) ((v / 2 ^ (64 - p % 64) : Nat) : Int) = (((gt ys (p / 64 + 1) &&& (18446744073709551615 - m / 2 ^ (64 - p % 64))) ||| v / 2 ^ (64 - p % 64) : Nat) : Int)) := u64_or_nat _ _ (Nat.lt_of_le_of_lt Nat.and_le_left (hf _)) (Nat.lt_of_le_of_lt (Nat.div_le_self _ _) hv)
    have R : Hid (layL ys p W v = ((ys.set (p / 64) ((gt ys (p / 64) &&& (18446744073709551615 - m * 2 ^ (p % 64) % 18446744073709551616)) ||| v * 2 ^ (p % 64) % 18446744073709551616)).set (p / 64 + 1) ((gt ys (p / 64 + 1) &&& (18446744073709551615 - m / 2 ^ (64 - p % 64))) ||| v / 2 ^ (64 - p % 64)))) := by
      unfold Hid layL lay1; rw [if_pos c, HM.out]
    clear c
    go_enter Tryz.func85, Tryz.ntmps85
    go_wp2_with (go_at_call 80; refine (mask_n _ _ hmm.out _).mono ?_; rintro e w' ⟨rfl, rfl⟩)
    go_region
    go_wp2
    go_region
    go_wp2
    go_end0
    rw [R.out, shl_nat, shl_nat, A1.out, A2.out, shr_cast, shr_cast, B1.out, B2.out]
    exact ⟨rfl, ((hO.set _ _).set _ _).drew.drew, (((Turned.refl _ _).set _ _).set _ _).drew.drew⟩
  · have c' : ¬ (64 : Int) - (p : Int) % 64 < (W : Int) := by omega
    have R : Hid (layL ys p W v = (ys.set (p / 64) ((gt ys (p / 64) &&& (18446744073709551615 - m * 2 ^ (p % 64) % 18446744073709551616)) ||| v * 2 ^ (p % 64) % 18446744073709551616))) := by
      unfold Hid layL lay1; rw [if_neg c, HM.out]
    clear c
    go_enter Tryz.func85, Tryz.ntmps85
    go_wp2_with (go_at_call 80; refine (mask_n _ _ hmm.out _).mono ?_; rintro e w' ⟨rfl, rfl⟩)
    go_region
    go_wp2
    go_end0
    rw [R.out, shl_nat, shl_nat, A1.out, A2.out]
    exact ⟨rfl, (hO.set _ _).drew, ((Turned.refl _ _).set _ _).drew⟩

theorem box4_two {w W w' : World} {a b c d p q r s : Value} {T U : TypeId} (hW : W = (w.alloc (.cells #[a, b, c, d] T)).alloc (.cells #[p, q, r, s] U)) (hb : Below W.heap.size W w') :
    (w'.cell? ⟨w.heap.size, 0, none⟩ = some a ∧ w'.cell? ⟨w.heap.size, 1, none⟩ = some b ∧ w'.cell? ⟨w.heap.size, 2, none⟩ = some c ∧ w'.cell? ⟨w.heap.size, 3, none⟩ = some d) ∧
    (w'.cell? ⟨w.heap.size + 1, 0, none⟩ = some p ∧ w'.cell? ⟨w.heap.size + 1, 1, none⟩ = some q ∧ w'.cell? ⟨w.heap.size + 1, 2, none⟩ = some r ∧ w'.cell? ⟨w.heap.size + 1, 3, none⟩ = some s) ∧
    (w'.frozen? ⟨w.heap.size + 1, 0, none⟩ = false ∧ w'.frozen? ⟨w.heap.size + 1, 1, none⟩ = false ∧ w'.frozen? ⟨w.heap.size + 1, 2, none⟩ = false ∧ w'.frozen? ⟨w.heap.size + 1, 3, none⟩ = false) ∧ w'.frozen? ⟨w.heap.size, 3, none⟩ = false ∧ w.heap.size + 1 < w'.heap.size ∧ Below w.heap.size w w' := by
  have hz : W.heap.size = w.heap.size + 2 := by rw [hW]; simp
  have C : ∀ (b' o : Nat) (v : Value), b' < w.heap.size + 2 → W.cell? ⟨b', o, none⟩ = some v → w'.cell? ⟨b', o, none⟩ = some v := fun b' o v hb' h => (hb.cell (p := ⟨b', o, none⟩) (by rw [hz]; exact hb')).trans h
  have F : ∀ (b' o : Nat), b' < w.heap.size + 2 → W.frozen? ⟨b', o, none⟩ = false → w'.frozen? ⟨b', o, none⟩ = false := fun b' o hb' h => (hb.frozen (p := ⟨b', o, none⟩) (by rw [hz]; exact hb')).trans h
  refine ⟨⟨?_, ?_, ?_, ?_⟩, ⟨?_, ?_, ?_, ?_⟩, ⟨?_, ?_, ?_, ?_⟩, ?_, ?_, ?_⟩
  · exact C _ _ _ (by omega) (by rw [hW]; simp)
  · exact C _ _ _ (by omega) (by rw [hW]; simp)
  · exact C _ _ _ (by omega) (by rw [hW]; simp)
  · exact C _ _ _ (by omega) (by rw [hW]; simp)
  · exact C _ _ _ (by omega) (by rw [hW]; simp)
  · exact C _ _ _ (by omega) (by rw [hW]; simp)
  · exact C _ _ _ (by omega) (by rw [hW]; simp)
  · exact C _ _ _ (by omega) (by rw [hW]; simp)
  · exact F _ _ (by omega) (by rw [hW]; simp)
  · exact F _ _ (by omega) (by rw [hW]; simp)
  · exact F _ _ (by omega) (by rw [hW]; simp)
  · exact F _ _ (by omega) (by rw [hW]; simp)
  · exact F _ _ (by omega) (by rw [hW]; simp)
  · have := hb.size; omega
  · have h0 : Below w.heap.size w W := by rw [hW]; exact ((below_alloc w _).alloc (by simp) _)
    exact h0.trans (hb.mono (by omega))

theorem splice_all (xs : List Nat) : splice (wv (List.replicate xs.length 0)) 0 (wv xs) = wv xs := by
  have h := splice_cp xs xs.length
  rw [List.take_length, cp_self] at h
  exact h

end Go.Proofs.YtmphbnmcbonmmaaGreatDoor
