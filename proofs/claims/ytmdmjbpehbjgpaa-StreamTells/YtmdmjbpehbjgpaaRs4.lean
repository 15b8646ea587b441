/-
  The contracts of the document's bits, Gamma and Delta.
-/
import Derived.Test.YtmdmjbpehbjgpaaSt5
import Derived.Test.YtmdmjbpehbjgpaaRefSlice
namespace Go.Proofs.Ytmdmjbpehbjgpaa
open Go.RowKit Num Bit
set_option linter.unusedVariables false
set_option linter.unusedSimpArgs false
set_option maxRecDepth 100000

theorem or_top (n q : Nat) (f : Nat → Bool) (hq : q < n) (hn : n < 64) (hf : f q = true) : bits .or .u64 ((2 ^ n + Bit.numOf q f : Nat) : Int) (IntKind.u64.wrap (2 ^ q)) = ((2 ^ n + Bit.numOf (q + 1) f : Nat) : Int) := by
  have l := numOf_lt q f
  have l1 := numOf_lt (q + 1) f
  have l2 := two_pow_lt q (by omega)
  have p1 : 2 ^ q < 2 ^ n := Nat.pow_lt_pow_right (by decide) hq
  have p2 : 2 ^ (q + 1) ≤ 2 ^ n := Nat.pow_le_pow_right (by decide) hq
  have p3 : 2 ^ (n + 1) ≤ 2 ^ 64 := Nat.pow_le_pow_right (by decide) hn
  have p4 : 2 ^ (n + 1) = 2 ^ n * 2 := Nat.pow_succ ..
  rw [shl_one q (by omega), u64_or_nat _ _ (by omega) l2]
  congr 1
  have e1 : 2 ^ n + Bit.numOf q f = 2 ^ n ||| Bit.numOf q f := by
    have := Nat.two_pow_add_eq_or_of_lt (show Bit.numOf q f < 2 ^ n by omega) 1
    simpa using this
  have e2 : 2 ^ n + Bit.numOf (q + 1) f = 2 ^ n ||| Bit.numOf (q + 1) f := by
    have := Nat.two_pow_add_eq_or_of_lt (show Bit.numOf (q + 1) f < 2 ^ n by omega) 1
    simpa using this
  have e3 : Bit.numOf (q + 1) f = Bit.numOf q f ||| 2 ^ q := by
    simp only [Bit.numOf, hf, if_true]
    have e := Nat.two_pow_add_eq_or_of_lt l 1
    rw [Nat.mul_one] at e
    rw [Nat.or_comm, ← e, Nat.add_comm]
  rw [e1, e2, e3, Nat.or_assoc]

set_option maxHeartbeats 2000000 in
theorem rbits_ok (ao : Option Addr) (xs : List Nat) (cap : Nat) (N : Int) (a n : Nat) (w : World) (hx : Wd w ao xs) (hf : Fit xs) (hk : chk N xs = true) (hn : n ≤ 63) (hm : (a : Int) + n ≤ N) :
    Calls Try.prog 35 #[.agg #[.int .i64 N, .slice ao xs.length cap], .int .i64 a, .int .i64 n] w fun e w' => e = .returned (.tuple #[.int .u64 (2 ^ n + Bit.numOf n (fun k => bitAt xs (a + k)) : Nat), .int .i64 ((a : Int) + n), .int .i64 0]) ∧ Below w.heap.size w w' := by
  obtain ⟨hc0, hc1, hc2, _⟩ := chk_out N xs hk
  have HL : Hid ((xs.length : Int) = (N + 63) / 64) := hc2
  have h5 : ¬ (N - (a : Int) < (n : Int)) := by omega
  have n0 : (0 : Int) ≤ (n : Int) := by omega
  have n6 : (n : Int) < 64 := by omega
  have S : Hid (IntKind.u64.wrap (2 ^ n) = ((2 ^ n + Bit.numOf 0 (fun k => bitAt xs (a + k)) : Nat) : Int)) := by unfold Hid; rw [shl_one n (by omega)]; simp [Bit.numOf]
  clear hc2
  go_enter Try.func35, Try.ntmps35
  go_wp2
  go_loopw [9, 10] (fun x k wr => ∃ q : Nat, q ≤ n ∧ k = .int .i64 q ∧ x = .int .u64 (2 ^ n + Bit.numOf q (fun k => bitAt xs (a + k)) : Nat) ∧ (wr.cell? ⟨w.heap.size, 0, none⟩ = some (.int .i64 N) ∧ wr.cell? ⟨w.heap.size, 1, none⟩ = some (.slice ao xs.length cap)) ∧ w.heap.size < wr.heap.size ∧ Below w.heap.size w wr) (fun _ k _ => n - (intOf k).toNat)
  case atStart => exact ⟨0, Nat.zero_le _, rfl, congrArg (Value.int IntKind.u64) S.out, ⟨by simp, by simp⟩, by simp, below_alloc _ _⟩
  case round =>
    obtain ⟨q, hq, rfl, rfl, ⟨r0, r1⟩, hz2, hwr⟩ := hrel
    by_cases hlt : q < n
    · have hlt2 : (q : Int) < (n : Int) := by omega
      go_wp2_with fail
      refine (at_i _ _ _ _ (a + q) _ _ (by omega) (hx.keep hwr) (by have := HL.out; omega) (by omega)).mono ?_
      rintro e w2 ⟨rfl, hb⟩
      have s0 := (hb.cell (p := ⟨w.heap.size, 0, none⟩) hz2).trans r0
      have s1 := (hb.cell (p := ⟨w.heap.size, 1, none⟩) hz2).trans r1
      have hz3 : w.heap.size < w2.heap.size := Nat.lt_of_lt_of_le hz2 hb.size
      have hw2 := hwr.trans (hb.mono hwr.size)
      clear hb r0 r1 hwr hz2
      cases hb : bitAt xs (a + q) with
      | true =>
        have R : Hid (bits .or .u64 ((2 ^ n + Bit.numOf q (fun k => bitAt xs (a + k)) : Nat) : Int) (IntKind.u64.wrap (2 ^ q)) = ((2 ^ n + Bit.numOf (q + 1) (fun k => bitAt xs (a + k)) : Nat) : Int)) := or_top n q _ hlt (by omega) hb
        generalize 2 ^ n + Bit.numOf q (fun k => bitAt xs (a + k)) = y at *
        go_wp2
        refine ⟨⟨q + 1, by omega, by go_num, ?_, ⟨s0, s1⟩, hz3, hw2⟩, by simp only [intOf]; omega⟩
        rw [← R.out]
      | false =>
        have R : Hid ((2 ^ n + Bit.numOf q (fun k => bitAt xs (a + k)) : Nat) = 2 ^ n + Bit.numOf (q + 1) (fun k => bitAt xs (a + k))) := by unfold Hid; simp [Bit.numOf, hb]
        generalize 2 ^ n + Bit.numOf q (fun k => bitAt xs (a + k)) = y at *
        go_wp2
        refine ⟨⟨q + 1, by omega, by go_num, ?_, ⟨s0, s1⟩, hz3, hw2⟩, by simp only [intOf]; omega⟩
        rw [← R.out]
    · have hq2 : q = n := by omega
      have R : Hid ((2 ^ n + Bit.numOf q (fun k => bitAt xs (a + k)) : Nat) = 2 ^ n + Bit.numOf n (fun k => bitAt xs (a + k))) := by rw [hq2]; rfl
      clear hq2
      generalize 2 ^ n + Bit.numOf q (fun k => bitAt xs (a + k)) = y at *
      go_wp2
      go_ret3
      exact ⟨ret_three (congrArg (fun x : Nat => Value.int IntKind.u64 (x : Int)) R.out) rfl rfl, hwr⟩

theorem rbits_c (N : Int) (ao : Option Addr) (xs : List Nat) (cap : Nat) (a n : Nat) (w : World) (hx : Wd w ao xs) (hf : Fit xs) (hk : chk N xs = true) (hn : n ≤ 63) (ha : (a : Int) ≤ N) :
    Calls Try.prog 35 #[.agg #[.int .i64 N, .slice ao xs.length cap], .int .i64 a, .int .i64 n] w fun e w' => e = .returned (.tuple #[.int .u64 (cm N xs a n).1, .int .i64 (cm N xs a n).2.1, .int .i64 (cm N xs a n).2.2]) ∧ Below w.heap.size w w' := by
  obtain ⟨hc0, hc1, hc2, _⟩ := chk_out N xs hk
  rcases cm_cases N xs a n with ⟨h1, h2⟩ | ⟨h1, h2⟩
  · have h5 : N - (a : Int) < (n : Int) := by omega
    have R : Hid (cm N xs a n = (0, 0, 160)) := h2
    clear h2 hc2
    go_enter Try.func35, Try.ntmps35
    go_wp2
    go_ret3
    rw [R.out]
    exact ⟨rfl, below_alloc _ _⟩
  · rw [h2]
    exact rbits_ok ao xs cap N a n w hx hf hk hn h1

theorem rG_bad (N : Int) (ao : Option Addr) (xs : List Nat) (cap : Nat) (i : Int) (w : World) (hx : Wd w ao xs) (hf : Fit xs) (h : plE N xs i ≠ 0) :
    Calls Try.prog 17 #[.agg #[.int .i64 N, .slice ao xs.length cap], .int .i64 i] w fun e w' => e = .returned (.tuple #[.int .u64 (0 : Nat), .int .i64 0, .int .i64 (plE N xs i)]) ∧ Below w.heap.size w w' := by
  have K : ∀ o, Wd (w.alloc o) ao xs := fun o => hx.keep (below_alloc w o)
  cases hk : chk N xs with
  | false =>
    have R : Hid (2 = plE N xs i) := by unfold plE; rw [if_pos hk]; rfl
    clear h
    go_enter Try.func17, Try.ntmps17
    go_wp2_with (go_at_call 8; refine (refcheck_c _ _ _ _ _ (K _) hf).mono ?_; rintro e w' ⟨rfl, hb⟩; obtain ⟨c0, c1, hz, hw⟩ := box_cells hb; clear hb)
    go_ret3
    exact ⟨ret_three rfl rfl (congrArg (Value.int IntKind.i64) R.out), by assumption⟩
  | true =>
    by_cases h1 : i < 0
    · have R : Hid (3 = plE N xs i) := by unfold plE; rw [if_neg (by simp [hk]), if_pos (.inl h1)]; rfl
      clear h
      go_enter Try.func17, Try.ntmps17
      go_wp2_with (go_at_call 8; refine (refcheck_c _ _ _ _ _ (K _) hf).mono ?_; rintro e w' ⟨rfl, hb⟩; obtain ⟨c0, c1, hz, hw⟩ := box_cells hb; clear hb)
      go_ret3
      exact ⟨ret_three rfl rfl (congrArg (Value.int IntKind.i64) R.out), by assumption⟩
    · have h2 : N < i := by
        by_cases h3 : N < i
        · exact h3
        · unfold plE at h; rw [if_neg (by simp [hk]), if_neg (by omega)] at h; exact absurd rfl h
      have R : Hid (3 = plE N xs i) := by unfold plE; rw [if_neg (by simp [hk]), if_pos (.inr h2)]; rfl
      clear h
      go_enter Try.func17, Try.ntmps17
      go_wp2_with (go_at_call 8; refine (refcheck_c _ _ _ _ _ (K _) hf).mono ?_; rintro e w' ⟨rfl, hb⟩; obtain ⟨c0, c1, hz, hw⟩ := box_cells hb; clear hb)
      go_ret3
      exact ⟨ret_three rfl rfl (congrArg (Value.int IntKind.i64) R.out), by assumption⟩

set_option maxHeartbeats 4000000 in
theorem rG_ok (N : Int) (ao : Option Addr) (xs : List Nat) (cap a : Nat) (w : World) (hx : Wd w ao xs) (hf : Fit xs) (hc : chk N xs = true) (haN : (a : Int) ≤ N) :
    Calls Try.prog 17 #[.agg #[.int .i64 N, .slice ao xs.length cap], .int .i64 a] w fun e w' => e = .returned (.tuple #[.int .u64 (rdG N xs (a : Int)).1, .int .i64 (rdG N xs (a : Int)).2.1, .int .i64 (rdG N xs (a : Int)).2.2]) ∧ Below w.heap.size w w' := by
  obtain ⟨hc0, hc1, hc2, _⟩ := chk_out N xs hc
  have HL : Hid ((xs.length : Int) = (N + 63) / 64) := hc2
  have HC : Hid (chk N xs = true) := hc
  have K : ∀ o, Wd (w.alloc o) ao xs := fun o => hx.keep (below_alloc w o)
  have d1 : ¬ (a : Int) < 0 := by omega
  have d2 : ¬ N < (a : Int) := by omega
  clear hc2
  go_enter Try.func17, Try.ntmps17
  go_wp2_with fail
  refine (refcheck_c _ _ _ _ _ (K _) hf).mono ?_
  rintro e w1 ⟨rfl, hb⟩
  have KK := box_cells hb
  clear hb K
  obtain ⟨c0, c1, hz, hw⟩ := KK
  go_wp2
  go_loopw [7] (fun n wr => ∃ k : Nat, k ≤ 64 ∧ n = .int .i64 k ∧ (a : Int) + k ≤ N ∧ Hid (∀ j, j < k → bitAt xs (a + j) = false) ∧ Box wr w.heap.size (.int .i64 N) (.slice ao xs.length cap) ∧ Below w.heap.size w wr) (fun n _ => 64 - (intOf n).toNat)
  case atStart => exact ⟨0, by omega, rfl, by omega, fun j hj => absurd hj (Nat.not_lt_zero _), ⟨hz, c0, c1⟩, hw⟩
  case round =>
    clear c0 c1 hz hw
    obtain ⟨k, hk, rfl, hkN, hZ, B, hw⟩ := hrel
    have b0 := B.2.1
    have b1 := B.2.2
    by_cases h64 : k = 64
    · have R : Hid (rdG N xs (a : Int) = (0, 0, 161)) := rdG_form N xs a HC.out (by omega) (fun j hj => hZ.out j (by omega))
      subst h64
      clear hZ
      go_wp2
      go_ret3
      rw [R.out]
      exact ⟨rfl, hw⟩
    · have k64 : (k : Int) < 64 := by omega
      have k64b : ((k : Int) == 64) = false := by simp; omega
      by_cases hlt : (a : Int) + k < N
      · have e1 : (k : Int) < N - a := by omega
        have e2 : ¬ (N - a ≤ (k : Int)) := by omega
        cases hb : bitAt xs (a + k) with
        | true =>
          have R : Hid (rdG N xs (a : Int) = cm N xs (a + k + 1) k) := rdG_cm N xs a k HC.out (by omega) hlt hZ.out hb
          have AT : Hid (∀ w0 : World, Below w.heap.size w w0 → Calls Try.prog 31 #[.agg #[.int .i64 N, .slice ao xs.length cap], .int .i64 ((a : Int) + k)] w0 fun e w' => e = .returned (.bool true) ∧ Below w0.heap.size w0 w') := fun w0 h0 => by
            rw [← hb]; exact at_i N ao xs cap (a + k) _ w0 (by omega) (hx.keep h0) (by have := HL.out; omega) (by omega)
          have BI : Hid (∀ w0 : World, Below w.heap.size w w0 → Calls Try.prog 35 #[.agg #[.int .i64 N, .slice ao xs.length cap], .int .i64 ((a : Int) + k + 1), .int .i64 k] w0 fun e w' => e = .returned (.tuple #[.int .u64 (cm N xs (a + k + 1) k).1, .int .i64 (cm N xs (a + k + 1) k).2.1, .int .i64 (cm N xs (a + k + 1) k).2.2]) ∧ Below w0.heap.size w0 w') := fun w0 h0 => by
            rw [show (a : Int) + k + 1 = ((a + k + 1 : Nat) : Int) by omega]
            exact rbits_c N ao xs cap (a + k + 1) k w0 (hx.keep h0) hf HC.out (by omega) (by omega)
          clear hZ hb
          go_wp2_with (first | (go_at_call 31; refine (AT.out _ hw).mono ?_; rintro e w2 ⟨rfl, hb⟩; replace B := B.keep hb; replace hw := hw.trans (hb.mono hw.size); replace b0 := B.2.1; replace b1 := B.2.2; clear hb) | (go_at_call 35; refine (BI.out _ hw).mono ?_; rintro e w3 ⟨rfl, hb⟩; replace hw := hw.trans (hb.mono hw.size); clear hb))
          go_ret3
          rw [R.out]
          exact ⟨rfl, hw⟩
        | false =>
          have R : Hid (∀ j, j < k + 1 → bitAt xs (a + j) = false) := fun j hj => by by_cases e : j = k; (subst e; exact hb); exact hZ.out j (by omega)
          have AT : Hid (∀ w0 : World, Below w.heap.size w w0 → Calls Try.prog 31 #[.agg #[.int .i64 N, .slice ao xs.length cap], .int .i64 ((a : Int) + k)] w0 fun e w' => e = .returned (.bool false) ∧ Below w0.heap.size w0 w') := fun w0 h0 => by
            rw [← hb]; exact at_i N ao xs cap (a + k) _ w0 (by omega) (hx.keep h0) (by have := HL.out; omega) (by omega)
          clear hZ hb
          go_wp2_with (go_at_call 31; refine (AT.out _ hw).mono ?_; rintro e w2 ⟨rfl, hb⟩; replace B := B.keep hb; replace hw := hw.trans (hb.mono hw.size); replace b0 := B.2.1; replace b1 := B.2.2; clear hb)
          exact ⟨⟨k + 1, by omega, by go_num, by omega, R, B, hw⟩, by simp only [intOf]; omega⟩
      · have hNN : (a : Int) + k = N := by omega
        have R : Hid (rdG N xs (a : Int) = (0, 0, 160)) := rdG_short N xs a k HC.out (by omega) hNN hZ.out
        have e1 : ¬ (k : Int) < N - a := by omega
        have e2 : N - a ≤ (k : Int) := by omega
        clear hZ hNN
        go_wp2
        go_ret3
        rw [R.out]
        exact ⟨rfl, hw⟩

theorem rG_c (N : Int) (ao : Option Addr) (xs : List Nat) (cap : Nat) (i : Int) (w : World) (hx : Wd w ao xs) (hf : Fit xs) :
    Calls Try.prog 17 #[.agg #[.int .i64 N, .slice ao xs.length cap], .int .i64 i] w fun e w' => e = .returned (.tuple #[.int .u64 (rdG N xs i).1, .int .i64 (rdG N xs i).2.1, .int .i64 (rdG N xs i).2.2]) ∧ Below w.heap.size w w' := by
  by_cases h : plE N xs i = 0
  · obtain ⟨h1, h2, h3⟩ := plE_zero N xs i h
    obtain ⟨a, rfl⟩ := Int.eq_ofNat_of_zero_le h2
    exact rG_ok N ao xs cap a w hx hf h1 h3
  · rw [rdG_place N xs i h]
    exact rG_bad N ao xs cap i w hx hf h

theorem rD_c (N : Int) (ao : Option Addr) (xs : List Nat) (cap : Nat) (i : Int) (w : World) (hx : Wd w ao xs) (hf : Fit xs) :
    Calls Try.prog 18 #[.agg #[.int .i64 N, .slice ao xs.length cap], .int .i64 i] w fun e w' => e = .returned (.tuple #[.int .u64 (rdD N xs i).1, .int .i64 (rdD N xs i).2.1, .int .i64 (rdD N xs i).2.2]) ∧ Below w.heap.size w w' := by
  obtain ⟨X, A, E, hg⟩ : ∃ X A E, rdG N xs i = (X, A, E) := ⟨_, _, _, rfl⟩
  have GA : Hid (∀ w0 : World, Wd w0 ao xs → Calls Try.prog 17 #[.agg #[.int .i64 N, .slice ao xs.length cap], .int .i64 i] w0 fun e w' => e = .returned (.tuple #[.int .u64 X, .int .i64 A, .int .i64 E]) ∧ Below w0.heap.size w0 w') := fun w0 h => by
    have := rG_c N ao xs cap i w0 h hf
    rw [hg] at this
    exact this
  have K : ∀ o, Wd (w.alloc o) ao xs := fun o => hx.keep (below_alloc w o)
  by_cases hE : E = 0
  · subst hE
    obtain ⟨h1, h2, h3, h4, h5, h6, -⟩ := rdG_once N xs i X A hg
    obtain ⟨hc0, hc1, _, _⟩ := chk_out N xs h1
    obtain ⟨a, rfl⟩ := Int.eq_ofNat_of_zero_le (show 0 ≤ A by omega)
    by_cases h64 : 64 < X
    · have R : Hid (rdD N xs i = (0, 0, 161)) := by unfold Hid rdD; rw [hg]; simp [h64]
      have d1 : (64 : Int) < (X : Int) := by omega
      clear hg h5
      go_enter Try.func18, Try.ntmps18
      go_wp2_with (go_at_call 17; refine (GA.out _ (K _)).mono ?_; rintro e w' ⟨rfl, hb⟩; obtain ⟨c0, c1, hz, hw⟩ := box_cells hb; clear hb)
      go_ret3
      rw [R.out]
      exact ⟨rfl, by assumption⟩
    · have R : Hid (rdD N xs i = cm N xs a (X - 1)) := by unfold Hid rdD; rw [hg]; simp [h64]
      have d1 : ¬ (64 : Int) < (X : Int) := by omega
      have CM : Hid (∀ (w0 : World), Below w.heap.size w w0 → Calls Try.prog 35 #[.agg #[.int .i64 N, .slice ao xs.length cap], .int .i64 a, .int .i64 ((X : Int) - 1)] w0 fun e w' => e = .returned (.tuple #[.int .u64 (cm N xs a (X - 1)).1, .int .i64 (cm N xs a (X - 1)).2.1, .int .i64 (cm N xs a (X - 1)).2.2]) ∧ Below w0.heap.size w0 w') := fun w0 hb => by
        rw [show (X : Int) - 1 = ((X - 1 : Nat) : Int) by omega]
        exact rbits_c N ao xs cap a (X - 1) w0 (hx.keep hb) hf h1 (by omega) h6
      have x1 : (1 : Int) ≤ (X : Int) := by omega
      have x2 : (X : Int) ≤ 64 := by omega
      clear hg h5
      go_enter Try.func18, Try.ntmps18
      go_wp2_with (first | (go_at_call 17; refine (GA.out _ (K _)).mono ?_; rintro e w' ⟨rfl, hb⟩; obtain ⟨c0, c1, hz, hw⟩ := box_cells hb; clear hb) | (go_at_call 35; refine (CM.out _ hw).mono ?_; rintro e w1 ⟨rfl, hb⟩; replace hw := hw.trans (hb.mono hw.size); clear hb))
      go_ret3
      rw [R.out]
      exact ⟨rfl, by assumption⟩
  · have R : Hid (rdD N xs i = (0, 0, E)) := by unfold Hid rdD; rw [hg]; simp [hE]
    have d1 : (E != 0) = true := by simpa using hE
    clear hg
    go_enter Try.func18, Try.ntmps18
    go_wp2_with (go_at_call 17; refine (GA.out _ (K _)).mono ?_; rintro e w' ⟨rfl, hb⟩; obtain ⟨c0, c1, hz, hw⟩ := box_cells hb; clear hb)
    go_ret3
    rw [R.out]
    exact ⟨rfl, by assumption⟩
end Go.Proofs.Ytmdmjbpehbjgpaa
