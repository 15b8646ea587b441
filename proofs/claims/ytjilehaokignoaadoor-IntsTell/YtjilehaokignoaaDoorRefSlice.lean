/-
  The contracts of the document's Slice and Ones.
-/
import Derived.Test.YtjilehaokignoaaDoorRefRead
namespace Go.Proofs.YtjilehaokignoaaDoor
open Go.RowKit Num Bit

theorem at_i (N : Int) (ao : Option Addr) (xs : List Nat) (cap : Nat) (i : Nat) (P : Int) (w : World) (hP : P = (i : Int)) (hx : Wd w ao xs) (hi : i / 64 < xs.length) (hi2 : i ≤ 1048576) :
    Calls Tryd.prog 46 #[.agg #[.int .i64 N, .slice ao xs.length cap], .int .i64 P] w fun e w' => e = .returned (.bool (bitAt xs i)) ∧ Below w.heap.size w w' := by
  subst hP
  exact at_c N ao xs cap i w hx hi hi2

theorem or_num (q : Nat) (f : Nat → Bool) (hq : q < 64) (hf : f q = true) : bits .or .u64 (Bit.numOf q f : Int) (IntKind.u64.wrap (2 ^ q)) = ((Bit.numOf (q + 1) f : Nat) : Int) := by
  have l := numOf_lt q f
  have l2 := two_pow_lt q hq
  rw [shl_one q hq, u64_or_nat _ _ (by omega) l2]
  congr 1
  simp only [Bit.numOf, hf, if_true]
  have e := Nat.two_pow_add_eq_or_of_lt l 1
  rw [Nat.mul_one] at e
  rw [Nat.or_comm, ← e, Nat.add_comm]

theorem refslice_ok (ao : Option Addr) (xs : List Nat) (cap : Nat) (N : Int) (m n : Nat) (w : World) (hx : Wd w ao xs) (hf : Fit xs) (hk : chk N xs = true) (hn : n ≤ 64) (hm : (m : Int) + n ≤ N) :
    Calls Tryd.prog 32 #[.agg #[.int .i64 N, .slice ao xs.length cap], .int .i64 m, .int .i64 n] w fun e w' => e = .returned (.tuple #[.int .u64 (Bit.numOf n (fun k => bitAt xs (m + k)) : Nat), .int .i64 0]) ∧ Below w.heap.size w w' := by
  obtain ⟨hc0, hc1, hc2, _⟩ := chk_out N xs hk
  have K : ∀ o, Wd (w.alloc o) ao xs := fun o => hx.keep (below_alloc w o)
  have HL : Hid ((xs.length : Int) = (N + 63) / 64) := hc2
  have d1 : decide ((n : Int) < 0) = false := by simp
  have d2 : decide (64 < (n : Int)) = false := by simp; omega
  have d3 : decide ((m : Int) < 0) = false := by simp
  have d4 : decide (N < (m : Int)) = false := by simp; omega
  have d5 : decide (N - (m : Int) < (n : Int)) = false := by simp; omega
  have h5 : (n : Int) ≤ N - m := by omega
  have h6 : (m : Int) ≤ N := by omega
  clear hc2
  go_enter Tryd.func32, Tryd.ntmps32
  go_wp2_with fail
  refine (refcheck_c _ _ _ _ _ (K _) hf).mono ?_
  rintro e w1 ⟨rfl, hb⟩
  have KK := box_cells hb
  clear hb
  obtain ⟨c0, c1, hz, hw⟩ := KK
  go_wp2
  go_loopw [8, 9] (fun x k wr => ∃ q : Nat, q ≤ n ∧ k = .int .i64 q ∧ x = .int .u64 (Bit.numOf q (fun k => bitAt xs (m + k)) : Nat) ∧ (wr.cell? ⟨w.heap.size, 0, none⟩ = some (.int .i64 N) ∧ wr.cell? ⟨w.heap.size, 1, none⟩ = some (.slice ao xs.length cap)) ∧ w.heap.size < wr.heap.size ∧ Below w.heap.size w wr) (fun _ k _ => n - (intOf k).toNat)
  case atStart => exact ⟨0, Nat.zero_le _, rfl, rfl, ⟨c0, c1⟩, hz, hw⟩
  case round =>
    obtain ⟨q, hq, rfl, rfl, ⟨r0, r1⟩, hz2, hwr⟩ := hrel
    by_cases hlt : q < n
    · have hlt2 : (q : Int) < (n : Int) := by omega
      go_wp2_with fail
      refine (at_i _ _ _ _ (m + q) _ _ (by omega) (hx.keep hwr) (by have := HL.out; omega) (by omega)).mono ?_
      rintro e w2 ⟨rfl, hb⟩
      have s0 := (hb.cell (p := ⟨w.heap.size, 0, none⟩) hz2).trans r0
      have s1 := (hb.cell (p := ⟨w.heap.size, 1, none⟩) hz2).trans r1
      have hz3 : w.heap.size < w2.heap.size := Nat.lt_of_lt_of_le hz2 hb.size
      have hw2 := hwr.trans (hb.mono hwr.size)
      clear hb r0 r1 hwr hz2
      cases hb : bitAt xs (m + q) with
      | true =>
        have R : Hid (bits .or .u64 (Bit.numOf q (fun k => bitAt xs (m + k)) : Int) (IntKind.u64.wrap (2 ^ q)) = ((Bit.numOf (q + 1) (fun k => bitAt xs (m + k)) : Nat) : Int)) := or_num q _ (by omega) hb
        go_wp2
        refine ⟨⟨q + 1, by omega, by go_num, ?_, ⟨s0, s1⟩, hz3, hw2⟩, by simp only [intOf]; omega⟩
        rw [← R.out]
      | false =>
        have R : Hid ((Bit.numOf q (fun k => bitAt xs (m + k)) : Nat) = Bit.numOf (q + 1) (fun k => bitAt xs (m + k))) := by unfold Hid; simp [Bit.numOf, hb]
        go_wp2
        refine ⟨⟨q + 1, by omega, by go_num, ?_, ⟨s0, s1⟩, hz3, hw2⟩, by simp only [intOf]; omega⟩
        rw [← R.out]
    · have hq2 : q = n := by omega
      have R : Hid ((Bit.numOf q (fun k => bitAt xs (m + k)) : Nat) = Bit.numOf n (fun k => bitAt xs (m + k))) := by rw [hq2]; rfl
      clear hq2
      go_wp2
      go_ret2
      exact ⟨ret_pair (congrArg (fun x : Nat => Value.int IntKind.u64 (x : Int)) R.out) rfl, hwr⟩

theorem refslice_c (N : Int) (ao : Option Addr) (xs : List Nat) (cap : Nat) (i n : Int) (w : World) (hx : Wd w ao xs) (hf : Fit xs) (_hi : -9223372036854775808 ≤ i) (_hi2 : i ≤ 9223372036854775807) (_hn : -9223372036854775808 ≤ n) (_hn2 : n ≤ 9223372036854775807) :
    Calls Tryd.prog 32 #[.agg #[.int .i64 N, .slice ao xs.length cap], .int .i64 i, .int .i64 n] w fun e w' => e = .returned (.tuple #[.int .u64 (slcX N xs i n), .int .i64 (slcE N xs i n)]) ∧ Below w.heap.size w w' := by
  have K : ∀ o, Wd (w.alloc o) ao xs := fun o => hx.keep (below_alloc w o)
  by_cases hE : slcE N xs i n = 0
  · have hk : chk N xs = true := by unfold slcE at hE; cases h : chk N xs with | true => rfl | false => simp [h] at hE
    have hi : 0 ≤ n ∧ n ≤ 64 ∧ 0 ≤ i ∧ i ≤ N - n := by
      unfold slcE at hE
      by_cases h : chk N xs = false ∨ n < 0 ∨ 64 < n
      · rw [if_pos h] at hE; omega
      · rw [if_neg h] at hE
        by_cases h2 : i < 0 ∨ N - n < i
        · rw [if_pos h2] at hE; omega
        · simp [hk] at h; omega
    obtain ⟨hn0, hn1, hi0, hi1⟩ := hi
    obtain ⟨m, rfl⟩ := Int.eq_ofNat_of_zero_le hi0
    obtain ⟨k, rfl⟩ := Int.eq_ofNat_of_zero_le hn0
    refine (refslice_ok ao xs cap N m k w hx hf hk (by omega) (by omega)).mono ?_
    rintro e w' ⟨rfl, hb⟩
    refine ⟨ret_pair ?_ (congrArg (Value.int IntKind.i64) hE.symm), hb⟩
    rw [slcX, if_pos hE, Int.toNat_natCast, Int.toNat_natCast]
  · have R : Hid (0 = ((slcX N xs i n : Nat) : Int)) := by unfold slcX Hid; rw [if_neg hE]; rfl
    cases hk : chk N xs with
    | false =>
      have RE : Hid (2 = slcE N xs i n) := by unfold slcE Hid; rw [if_pos (.inl hk)]
      clear hE
      go_enter Tryd.func32, Tryd.ntmps32
      go_wp2_with (go_at_call 38; refine (refcheck_c _ _ _ _ _ (K _) hf).mono ?_; rintro e w' ⟨rfl, hb⟩; obtain ⟨c0, c1, hz, hw⟩ := box_cells hb; clear hb)
      go_ret2
      exact ⟨ret_pair (congrArg (Value.int IntKind.u64) R.out) (congrArg (Value.int IntKind.i64) RE.out), by assumption⟩
    | true =>
      obtain ⟨hc0, hc1, _, _⟩ := chk_out N xs hk
      by_cases hn : n < 0
      · have RE : Hid (2 = slcE N xs i n) := by unfold slcE Hid; rw [if_pos (.inr (.inl hn))]
        clear hE
        go_enter Tryd.func32, Tryd.ntmps32
        go_wp2_with (go_at_call 38; refine (refcheck_c _ _ _ _ _ (K _) hf).mono ?_; rintro e w' ⟨rfl, hb⟩; obtain ⟨c0, c1, hz, hw⟩ := box_cells hb; clear hb)
        go_ret2
        exact ⟨ret_pair (congrArg (Value.int IntKind.u64) R.out) (congrArg (Value.int IntKind.i64) RE.out), by assumption⟩
      · by_cases hn2 : 64 < n
        · have RE : Hid (2 = slcE N xs i n) := by unfold slcE Hid; rw [if_pos (.inr (.inr hn2))]
          clear hE
          go_enter Tryd.func32, Tryd.ntmps32
          go_wp2_with (go_at_call 38; refine (refcheck_c _ _ _ _ _ (K _) hf).mono ?_; rintro e w' ⟨rfl, hb⟩; obtain ⟨c0, c1, hz, hw⟩ := box_cells hb; clear hb)
          go_ret2
          exact ⟨ret_pair (congrArg (Value.int IntKind.u64) R.out) (congrArg (Value.int IntKind.i64) RE.out), by assumption⟩
        · have hcond : i < 0 ∨ N - n < i := by
            unfold slcE at hE
            rw [if_neg (by simp [hk]; omega)] at hE
            by_cases h2 : i < 0 ∨ N - n < i
            · exact h2
            · rw [if_neg h2] at hE; exact absurd rfl hE
          have RE : Hid (3 = slcE N xs i n) := by unfold slcE Hid; rw [if_neg (by simp [hk]; omega), if_pos hcond]
          clear hE
          by_cases h3 : i < 0
          · clear hcond
            go_enter Tryd.func32, Tryd.ntmps32
            go_wp2_with (go_at_call 38; refine (refcheck_c _ _ _ _ _ (K _) hf).mono ?_; rintro e w' ⟨rfl, hb⟩; obtain ⟨c0, c1, hz, hw⟩ := box_cells hb; clear hb)
            go_ret2
            exact ⟨ret_pair (congrArg (Value.int IntKind.u64) R.out) (congrArg (Value.int IntKind.i64) RE.out), by assumption⟩
          · have d3 : decide (i < 0) = false := by simpa using h3
            by_cases h4 : N < i
            · clear hcond
              go_enter Tryd.func32, Tryd.ntmps32
              go_wp2_with (go_at_call 38; refine (refcheck_c _ _ _ _ _ (K _) hf).mono ?_; rintro e w' ⟨rfl, hb⟩; obtain ⟨c0, c1, hz, hw⟩ := box_cells hb; clear hb)
              go_ret2
              exact ⟨ret_pair (congrArg (Value.int IntKind.u64) R.out) (congrArg (Value.int IntKind.i64) RE.out), by assumption⟩
            · have d4 : decide (N < i) = false := by simpa using h4
              have h5 : N - i < n := by omega
              clear hcond
              go_enter Tryd.func32, Tryd.ntmps32
              go_wp2_with (go_at_call 38; refine (refcheck_c _ _ _ _ _ (K _) hf).mono ?_; rintro e w' ⟨rfl, hb⟩; obtain ⟨c0, c1, hz, hw⟩ := box_cells hb; clear hb)
              go_ret2
              exact ⟨ret_pair (congrArg (Value.int IntKind.u64) R.out) (congrArg (Value.int IntKind.i64) RE.out), by assumption⟩

end Go.Proofs.YtjilehaokignoaaDoor
