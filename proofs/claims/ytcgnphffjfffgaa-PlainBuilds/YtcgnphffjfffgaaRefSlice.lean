/-
  The contracts of the document's Slice and Ones.
-/
import Derived.Test.YtcgnphffjfffgaaRefRead
namespace Go.Proofs.Ytcgnphffjfffgaa
open Go.RowKit Num Bit

theorem at_i (N : Int) (ao : Option Addr) (xs : List Nat) (cap : Nat) (i : Nat) (P : Int) (w : World) (hP : P = (i : Int)) (hx : Wd w ao xs) (hi : i / 64 < xs.length) (hi2 : i ≤ 1048576) :
    Calls Try.prog 40 #[.agg #[.int .i64 N, .slice ao xs.length cap], .int .i64 P] w fun e w' => e = .returned (.bool (bitAt xs i)) ∧ Below w.heap.size w w' := by
  subst hP
  exact at_c N ao xs cap i w hx hi hi2

theorem or_num (q : Nat) (f : Nat → Bool) (hq : q < 64) (hf : f q = true) : bits .or .u64 (Bit.numOf q f : Int) (IntKind.u64.wrap (2 ^ q)) = ((Bit.numOf (q + 1) f : Nat) : Int) := by
  have l := numOf_lt q f
  have l2 := two_pow_lt q hq
  rw [shl_one q hq, u64_or_nat _ _ (by omega) l2]
  congr 1
  simp only [Bit.numOf, hf, if_true]
  have e := Nat.two_pow_add_eq_or_of_lt l 1
  rw [Nat.mul_one] at e
  rw [Nat.or_comm, ← e, Nat.add_comm]

theorem refones_c (N : Int) (ao : Option Addr) (xs : List Nat) (cap : Nat) (n : Int) (w : World) (hx : Wd w ao xs) (hf : Fit xs) :
    Calls Try.prog 35 #[.agg #[.int .i64 N, .slice ao xs.length cap], .int .i64 n] w fun e w' => e = .returned (.int .i64 (onesI N xs n)) ∧ Below w.heap.size w w' := by
  go_enter Try.func35, Try.ntmps35
  go_wp2
  go_loopw [5, 6] (fun c i wr => ∃ k t : Nat, i = .int .i64 k ∧ c = .int .i64 t ∧ t ≤ k ∧ Hid (k = 0 ∨ ((k : Int) ≤ n ∧ (k : Int) ≤ N ∧ chk N xs = true)) ∧ k ≤ 1048576 ∧ Hid (t = cntB xs k) ∧ (wr.cell? ⟨w.heap.size, 0, none⟩ = some (.int .i64 N) ∧ wr.cell? ⟨w.heap.size, 1, none⟩ = some (.slice ao xs.length cap)) ∧ w.heap.size < wr.heap.size ∧ Below w.heap.size w wr) (fun _ i _ => 1048577 - (intOf i).toNat)
  case atStart => exact ⟨0, 0, rfl, rfl, Nat.le_refl _, .inl rfl, by omega, rfl, ⟨by simp, by simp⟩, by simp, below_alloc w _⟩
  case round =>
    obtain ⟨k, t, rfl, rfl, ht, HK, hk2, HT, ⟨r0, r1⟩, hz, hwr⟩ := hrel
    by_cases c1 : (k : Int) < n
    · by_cases c2 : (k : Int) < N
      · cases hk : chk N xs with
        | true =>
          obtain ⟨hc0, hc1, hc2, _⟩ := chk_out N xs hk
          have H1 : Hid (k / 64 < xs.length) := by unfold Hid; omega
          clear hc2
          go_wp2_with fail
          refine (refcheck_c _ _ _ _ _ (hx.keep hwr) hf).mono ?_
          rintro e w1 ⟨rfl, hb⟩
          have s0 := (hb.cell (p := ⟨w.heap.size, 0, none⟩) hz).trans r0
          have s1 := (hb.cell (p := ⟨w.heap.size, 1, none⟩) hz).trans r1
          have hz1 : w.heap.size < w1.heap.size := Nat.lt_of_lt_of_le hz hb.size
          have hw1 := hwr.trans (hb.mono hwr.size)
          clear hb r0 r1 hz hwr
          go_wp2_with fail
          refine (at_c _ _ _ _ _ _ (hx.keep hw1) H1.out hk2).mono ?_
          rintro e w2 ⟨rfl, hb⟩
          have q0 := (hb.cell (p := ⟨w.heap.size, 0, none⟩) hz1).trans s0
          have q1 := (hb.cell (p := ⟨w.heap.size, 1, none⟩) hz1).trans s1
          have hz2 : w.heap.size < w2.heap.size := Nat.lt_of_lt_of_le hz1 hb.size
          have hw2 := hw1.trans (hb.mono hw1.size)
          clear hb s0 s1 hz1 hw1
          cases hb : bitAt xs k with
          | true =>
            have R : Hid (t + 1 = cntB xs (k + 1)) := by unfold Hid; simp only [cntB, hb]; rw [HT.out]; rfl
            go_wp2
            exact ⟨⟨k + 1, t + 1, by go_num, by go_num, by omega, .inr ⟨by omega, by omega, by first | trivial | exact hk⟩, by omega, R, ⟨q0, q1⟩, hz2, hw2⟩, by simp only [intOf]; omega⟩
          | false =>
            have R : Hid (t = cntB xs (k + 1)) := by unfold Hid; simp only [cntB, hb]; rw [HT.out]; rfl
            go_wp2
            exact ⟨⟨k + 1, t, by go_num, rfl, by omega, .inr ⟨by omega, by omega, by first | trivial | exact hk⟩, by omega, R, ⟨q0, q1⟩, hz2, hw2⟩, by simp only [intOf]; omega⟩
        | false =>
          have R : Hid ((t : Int) = onesI N xs n) := by
            unfold onesI Hid
            rw [hk]
            have := HT.out
            rcases HK.out with h | ⟨_, _, h⟩
            · subst h; simp [this, cntB]
            · rw [hk] at h; cases h
          go_wp2_with fail
          refine (refcheck_c _ _ _ _ _ (hx.keep hwr) hf).mono ?_
          rintro e w1 ⟨rfl, hb⟩
          have hw1 := hwr.trans (hb.mono hwr.size)
          clear hb
          go_wp2
          go_ret
          exact ⟨ret_int R.out, hw1⟩
      · have R : Hid ((t : Int) = onesI N xs n) := by
          unfold onesI Hid
          have := HT.out
          rcases HK.out with h | ⟨h1, h2, h3⟩
          · subst h
            split
            · rw [show (min n N).toNat = 0 by omega, this]
            · simp [this, cntB]
          · rw [h3, show (min n N).toNat = k by omega, this]; rfl
        go_wp2
        go_ret
        exact ⟨ret_int R.out, hwr⟩
    · have c1' : decide ((k : Int) < n) = false := by simpa using c1
      have R : Hid ((t : Int) = onesI N xs n) := by
        unfold onesI Hid
        have := HT.out
        rcases HK.out with h | ⟨h1, h2, h3⟩
        · subst h
          split
          · rw [show (min n N).toNat = 0 by omega, this]
          · simp [this, cntB]
        · rw [h3, show (min n N).toNat = k by omega, this]; rfl
      go_wp2
      go_ret
      exact ⟨ret_int R.out, hwr⟩
end Go.Proofs.Ytcgnphffjfffgaa
