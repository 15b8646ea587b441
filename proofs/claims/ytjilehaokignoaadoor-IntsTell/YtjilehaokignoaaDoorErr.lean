/-
  The contracts of package ints that tell why something may not be, and of what only reads: wide, narrow, mayBe, place, puttable, numberOf, Check, Get.
-/
import Derived.Test.YtjilehaokignoaaDoorAs
import Derived.Test.YtjilehaokignoaaDoorIb
import Derived.Test.YtjilehaokignoaaDoorGet
namespace Go.Proofs.YtjilehaokignoaaDoor
open Go.RowKit Num Bit
set_option maxRecDepth 100000
set_option linter.unusedVariables false

set_option maxHeartbeats 1000000 in
theorem numberOf_c (k : Int) (s : ByteArray) (w : World) (hg : ET w) :
    Calls Tryd.prog 25 #[.iface 74 (.agg #[.int .i64 k, .string s])] w fun e w' => e = .returned (.int .i64 k) ∧ Below w.heap.size w w' := by
  have hgA : ∀ o, ET (w.alloc o) := fun o => hg.keep (below_alloc _ _)
  go_enter Tryd.func25, Tryd.ntmps25
  go_wp2_with fail
  refine (as_hit _ _ _ _ _ _ (hgA _) (by simp; rfl) (by simp; rfl) (by simp) (by simp)).mono ?_
  rintro e w' ⟨rfl, rfl⟩
  go_wp2
  go_ret
  refine ⟨rfl, ?_⟩
  exact ((((((Below.refl _ _).alloc (Nat.le_refl _) _).alloc (by simp) _).alloc (by simp; omega) _).alloc (by simp; omega) _).alloc (by simp; omega) _)

theorem wide_ok (W : Int) (h0 : 1 ≤ W) (h1 : W ≤ 64) (w : World) :
    Calls Tryd.prog 40 #[.int .i64 W] w fun e w' => e = .returned .nilIface ∧ w' = w := by
  go_enter Tryd.func40, Tryd.ntmps40
  go_wp2
  go_ret
  exact ⟨rfl, rfl⟩
theorem wide_bad (W : Int) (h : W < 1 ∨ 64 < W) (w : World) :
    Calls Tryd.prog 40 #[.int .i64 W] w fun e w' => (∃ s, e = .returned (.iface 74 (.agg #[.int .i64 2, .string s]))) ∧ w' = w := by
  rcases h with h | h
  · go_enter Tryd.func40, Tryd.ntmps40
    go_wp2
    go_ret
    exact ⟨⟨_, rfl⟩, rfl⟩
  · have h' : ¬ W < 1 := by omega
    go_enter Tryd.func40, Tryd.ntmps40
    go_wp2
    go_ret
    exact ⟨⟨_, rfl⟩, rfl⟩
theorem narrow_ok (v W : Int) (h0 : 0 ≤ v) (h1 : v < 18446744073709551616) (h : lenI v ≤ W) (w : World) :
    Calls Tryd.prog 41 #[.int .u64 v, .int .i64 W] w fun e w' => e = .returned .nilIface ∧ w' = w := by
  go_enter Tryd.func41, Tryd.ntmps41
  go_wp2_with (go_at_call 23; refine (len_c _ ?_ ?_ _).mono ?_; exact h0; exact h1; rintro e w' ⟨rfl, rfl⟩)
  go_ret
  exact ⟨rfl, rfl⟩
theorem narrow_bad (v W : Int) (h0 : 0 ≤ v) (h1 : v < 18446744073709551616) (h : W < lenI v) (w : World) :
    Calls Tryd.prog 41 #[.int .u64 v, .int .i64 W] w fun e w' => (∃ s, e = .returned (.iface 74 (.agg #[.int .i64 2, .string s]))) ∧ w' = w := by
  go_enter Tryd.func41, Tryd.ntmps41
  go_wp2_with (go_at_call 23; refine (len_c _ ?_ ?_ _).mono ?_; exact h0; exact h1; rintro e w' ⟨rfl, rfl⟩)
  go_ret
  exact ⟨⟨_, rfl⟩, rfl⟩

/-- A box of four cells. -/
def Box4 (w : World) (b : Nat) (p q r s : Value) : Prop := b < w.heap.size ∧ w.cell? ⟨b, 0, none⟩ = some p ∧ w.cell? ⟨b, 1, none⟩ = some q ∧ w.cell? ⟨b, 2, none⟩ = some r ∧ w.cell? ⟨b, 3, none⟩ = some s
theorem Box4.keep {w w' : World} {b : Nat} {p q r s : Value} (h : Box4 w b p q r s) (hb : Below w.heap.size w w') : Box4 w' b p q r s :=
  ⟨Nat.lt_of_lt_of_le h.1 hb.size, (hb.cell (p := ⟨b, 0, none⟩) h.1).trans h.2.1, (hb.cell (p := ⟨b, 1, none⟩) h.1).trans h.2.2.1, (hb.cell (p := ⟨b, 2, none⟩) h.1).trans h.2.2.2.1, (hb.cell (p := ⟨b, 3, none⟩) h.1).trans h.2.2.2.2⟩
theorem Box4.new {w w' : World} {p q r s : Value} {T : TypeId} (hb : Below (w.alloc (.cells #[p, q, r, s] T)).heap.size (w.alloc (.cells #[p, q, r, s] T)) w') : Box4 w' w.heap.size p q r s ∧ Below w.heap.size w w' := by
  have hz : (w.alloc (.cells #[p, q, r, s] T)).heap.size = w.heap.size + 1 := by simp
  refine ⟨⟨?_, ?_, ?_, ?_, ?_⟩, ?_⟩
  · have := hb.size; omega
  · rw [hb.cell (p := ⟨w.heap.size, 0, none⟩) (by simp)]; simp
  · rw [hb.cell (p := ⟨w.heap.size, 1, none⟩) (by simp)]; simp
  · rw [hb.cell (p := ⟨w.heap.size, 2, none⟩) (by simp)]; simp
  · rw [hb.cell (p := ⟨w.heap.size, 3, none⟩) (by simp)]; simp
  · exact (below_alloc w _).trans (hb.mono (by omega))

theorem mayBe_ok (N W M : Int) (ao : Option Addr) (xs : List Nat) (cap : Nat) (w : World) (hx : Wd w ao xs) (hk : ichk N W M xs = true) :
    Calls Tryd.prog 28 #[.agg #[.int .i64 N, .int .i64 W, .int .i64 M, .slice ao xs.length cap]] w fun e w' => e = .returned .nilIface ∧ Below w.heap.size w w' := by
  have K : ∀ o, Wd (w.alloc o) ao xs := fun o => hx.keep (below_alloc w o)
  obtain ⟨a1, a2, a3, a4, a5, a6, a7, a8⟩ := ichk_out N W M xs hk
  have d1 : (N * W != M) = false := by simpa using a4
  have hm : 0 ≤ N * W := by omega
  have hm2 : N * W ≤ 1048576 := by omega
  clear a4 hk
  go_enter Tryd.func28, Tryd.ntmps28
  go_wp2_with (first | (go_at_call 40; refine (wide_ok _ ?_ ?_ _).mono ?_; exact a1; exact a2; rintro e w' ⟨rfl, rfl⟩) | (go_at_call 45; refine (check_c _ _ _ _ _ (K _)).mono ?_; rintro e w' ⟨rfl, hb⟩; have KK := Box4.new hb; clear hb; obtain ⟨⟨hz, c0, c1, c2, c3⟩, hw⟩ := KK))
  go_ret
  exact ⟨rfl, by assumption⟩

theorem mayBe_bad (N W M : Int) (ao : Option Addr) (xs : List Nat) (cap : Nat) (w : World) (hx : Wd w ao xs) (hk : ichk N W M xs = false) :
    Calls Tryd.prog 28 #[.agg #[.int .i64 N, .int .i64 W, .int .i64 M, .slice ao xs.length cap]] w fun e w' => (∃ s, e = .returned (.iface 74 (.agg #[.int .i64 2, .string s]))) ∧ Below w.heap.size w w' := by
  have K : ∀ o, Wd (w.alloc o) ao xs := fun o => hx.keep (below_alloc w o)
  by_cases c : W < 1 ∨ 64 < W
  · clear hk
    go_enter Tryd.func28, Tryd.ntmps28
    go_wp2_with (go_at_call 40; refine (wide_bad _ ?_ _).mono ?_; exact c; rintro e w' ⟨⟨s, rfl⟩, rfl⟩)
    go_ret
    exact ⟨⟨_, rfl⟩, below_alloc w _⟩
  have a1 : 1 ≤ W := by omega
  have a2 : W ≤ 64 := by omega
  clear c
  cases hc : chk M xs with
  | false =>
    clear hk
    go_enter Tryd.func28, Tryd.ntmps28
    go_wp2_with (first | (go_at_call 40; refine (wide_ok _ ?_ ?_ _).mono ?_; exact a1; exact a2; rintro e w' ⟨rfl, rfl⟩) | (go_at_call 45; refine (check_c _ _ _ _ _ (K _)).mono ?_; rintro e w' ⟨rfl, hb⟩; have KK := Box4.new hb; clear hb; obtain ⟨⟨hz, c0, c1, c2, c3⟩, hw⟩ := KK))
    go_ret
    exact ⟨⟨_, rfl⟩, by assumption⟩
  | true =>
    obtain ⟨m0, m1, _, _⟩ := chk_out M xs hc
    by_cases n0 : N < 0
    · clear hk
      go_enter Tryd.func28, Tryd.ntmps28
      go_wp2_with (first | (go_at_call 40; refine (wide_ok _ ?_ ?_ _).mono ?_; exact a1; exact a2; rintro e w' ⟨rfl, rfl⟩) | (go_at_call 45; refine (check_c _ _ _ _ _ (K _)).mono ?_; rintro e w' ⟨rfl, hb⟩; have KK := Box4.new hb; clear hb; obtain ⟨⟨hz, c0, c1, c2, c3⟩, hw⟩ := KK))
      go_ret
      exact ⟨⟨_, rfl⟩, by assumption⟩
    have n0' : 0 ≤ N := by omega
    by_cases n1 : M < N
    · clear hk n0
      go_enter Tryd.func28, Tryd.ntmps28
      go_wp2_with (first | (go_at_call 40; refine (wide_ok _ ?_ ?_ _).mono ?_; exact a1; exact a2; rintro e w' ⟨rfl, rfl⟩) | (go_at_call 45; refine (check_c _ _ _ _ _ (K _)).mono ?_; rintro e w' ⟨rfl, hb⟩; have KK := Box4.new hb; clear hb; obtain ⟨⟨hz, c0, c1, c2, c3⟩, hw⟩ := KK))
      go_ret
      exact ⟨⟨_, rfl⟩, by assumption⟩
    have n2 : ¬ N * W = M := fun e => by unfold ichk at hk; rw [hc, show decide (1 ≤ W ∧ W ≤ 64 ∧ 0 ≤ N ∧ N * W = M) = true by simp; omega] at hk; cases hk
    have n3 : (N * W != M) = true := by simpa using n2
    have b1 : 0 ≤ N * W := Int.mul_nonneg n0' (by omega)
    have b2 : N * W ≤ 1048576 * 64 := Int.mul_le_mul (by omega) a2 (by omega) (by omega)
    clear hk n0 n2
    go_enter Tryd.func28, Tryd.ntmps28
    go_wp2_with (first | (go_at_call 40; refine (wide_ok _ ?_ ?_ _).mono ?_; exact a1; exact a2; rintro e w' ⟨rfl, rfl⟩) | (go_at_call 45; refine (check_c _ _ _ _ _ (K _)).mono ?_; rintro e w' ⟨rfl, hb⟩; have KK := Box4.new hb; clear hb; obtain ⟨⟨hz, c0, c1, c2, c3⟩, hw⟩ := KK))
    go_ret
    exact ⟨⟨_, rfl⟩, by assumption⟩

theorem icheck_c (N W M : Int) (ao : Option Addr) (xs : List Nat) (cap : Nat) (w : World) (hx : Wd w ao xs) :
    Calls Tryd.prog 19 #[.agg #[.int .i64 N, .int .i64 W, .int .i64 M, .slice ao xs.length cap]] w fun e w' => e = .returned (.bool (ichk N W M xs)) ∧ Below w.heap.size w w' := by
  have K : ∀ o, Wd (w.alloc o) ao xs := fun o => hx.keep (below_alloc w o)
  cases hk : ichk N W M xs with
  | true =>
    go_enter Tryd.func19, Tryd.ntmps19
    go_wp2_with (go_at_call 28; refine (mayBe_ok _ _ _ _ _ _ _ (K _) hk).mono ?_; rintro e w' ⟨rfl, hb⟩; have KK := Box4.new hb; clear hb; obtain ⟨⟨hz, c0, c1, c2, c3⟩, hw⟩ := KK)
    go_ret
    exact ⟨rfl, by assumption⟩
  | false =>
    go_enter Tryd.func19, Tryd.ntmps19
    go_wp2_with (go_at_call 28; refine (mayBe_bad _ _ _ _ _ _ _ (K _) hk).mono ?_; rintro e w' ⟨⟨s, rfl⟩, hb⟩; have KK := Box4.new hb; clear hb; obtain ⟨⟨hz, c0, c1, c2, c3⟩, hw⟩ := KK)
    go_ret
    exact ⟨rfl, by assumption⟩

theorem place_ok (N W M : Int) (ao : Option Addr) (xs : List Nat) (cap : Nat) (i : Int) (w : World) (hx : Wd w ao xs) (hE : igE N W M xs i = 0) :
    Calls Tryd.prog 31 #[.agg #[.int .i64 N, .int .i64 W, .int .i64 M, .slice ao xs.length cap], .int .i64 i] w fun e w' => e = .returned .nilIface ∧ Below w.heap.size w w' := by
  have K : ∀ o, Wd (w.alloc o) ao xs := fun o => hx.keep (below_alloc w o)
  obtain ⟨hk, i0, i1⟩ := igE_zero N W M xs i hE
  clear hE
  go_enter Tryd.func31, Tryd.ntmps31
  go_wp2_with (go_at_call 28; refine (mayBe_ok _ _ _ _ _ _ _ (K _) hk).mono ?_; rintro e w' ⟨rfl, hb⟩; have KK := Box4.new hb; clear hb; obtain ⟨⟨hz, c0, c1, c2, c3⟩, hw⟩ := KK)
  go_ret
  exact ⟨rfl, by assumption⟩

theorem place_bad (N W M : Int) (ao : Option Addr) (xs : List Nat) (cap : Nat) (i : Int) (w : World) (hx : Wd w ao xs) (hE : igE N W M xs i ≠ 0) :
    Calls Tryd.prog 31 #[.agg #[.int .i64 N, .int .i64 W, .int .i64 M, .slice ao xs.length cap], .int .i64 i] w fun e w' => (∃ s, e = .returned (.iface 74 (.agg #[.int .i64 (igE N W M xs i), .string s]))) ∧ Below w.heap.size w w' := by
  have K : ∀ o, Wd (w.alloc o) ao xs := fun o => hx.keep (below_alloc w o)
  cases hk : ichk N W M xs with
  | false =>
    have R : igE N W M xs i = 2 := by unfold igE; rw [if_pos hk]
    rw [R]
    clear hE R
    go_enter Tryd.func31, Tryd.ntmps31
    go_wp2_with (go_at_call 28; refine (mayBe_bad _ _ _ _ _ _ _ (K _) hk).mono ?_; rintro e w' ⟨⟨s, rfl⟩, hb⟩; have KK := Box4.new hb; clear hb; obtain ⟨⟨hz, c0, c1, c2, c3⟩, hw⟩ := KK)
    go_ret
    exact ⟨⟨_, rfl⟩, by assumption⟩
  | true =>
    have hc : i < 0 ∨ N ≤ i := by
      unfold igE at hE
      rw [if_neg (by simp [hk])] at hE
      by_cases h : i < 0 ∨ N ≤ i
      · exact h
      · rw [if_neg h] at hE; exact absurd rfl hE
    have R : igE N W M xs i = 3 := by unfold igE; rw [if_neg (by simp [hk]), if_pos hc]
    rw [R]
    clear hE R
    by_cases i0 : i < 0
    · clear hc
      go_enter Tryd.func31, Tryd.ntmps31
      go_wp2_with (go_at_call 28; refine (mayBe_ok _ _ _ _ _ _ _ (K _) hk).mono ?_; rintro e w' ⟨rfl, hb⟩; have KK := Box4.new hb; clear hb; obtain ⟨⟨hz, c0, c1, c2, c3⟩, hw⟩ := KK)
      go_ret
      exact ⟨⟨_, rfl⟩, by assumption⟩
    · have i1 : N ≤ i := by omega
      clear hc
      go_enter Tryd.func31, Tryd.ntmps31
      go_wp2_with (go_at_call 28; refine (mayBe_ok _ _ _ _ _ _ _ (K _) hk).mono ?_; rintro e w' ⟨rfl, hb⟩; have KK := Box4.new hb; clear hb; obtain ⟨⟨hz, c0, c1, c2, c3⟩, hw⟩ := KK)
      go_ret
      exact ⟨⟨_, rfl⟩, by assumption⟩

theorem puttable_ok (N W M : Int) (ao : Option Addr) (xs : List Nat) (cap : Nat) (i : Int) (v : Nat) (w : World) (hx : Wd w ao xs) (hv : v < 18446744073709551616) (hE : ipE N W M xs i v = 0) :
    Calls Tryd.prog 34 #[.agg #[.int .i64 N, .int .i64 W, .int .i64 M, .slice ao xs.length cap], .int .i64 i, .int .u64 v] w fun e w' => e = .returned .nilIface ∧ Below w.heap.size w w' := by
  have K : ∀ o, Wd (w.alloc o) ao xs := fun o => hx.keep (below_alloc w o)
  obtain ⟨g0, l0⟩ := ipE_zero N W M xs i v hE
  have v0 : (0 : Int) ≤ (v : Int) := by omega
  have v1 : (v : Int) < 18446744073709551616 := by omega
  have L : Hid (lenI v ≤ W) := l0
  clear hE l0
  go_enter Tryd.func34, Tryd.ntmps34
  go_wp2_with (first | (go_at_call 31; refine (place_ok _ _ _ _ _ _ _ _ (K _) g0).mono ?_; rintro e w' ⟨rfl, hb⟩; have KK := Box4.new hb; clear hb; obtain ⟨⟨hz, c0, c1, c2, c3⟩, hw⟩ := KK) | (go_at_call 41; refine (narrow_ok _ _ ?_ ?_ ?_ _).mono ?_; exact v0; exact v1; exact L.out; rintro e w' ⟨rfl, rfl⟩))
  go_ret
  exact ⟨rfl, by assumption⟩

theorem puttable_bad (N W M : Int) (ao : Option Addr) (xs : List Nat) (cap : Nat) (i : Int) (v : Nat) (w : World) (hx : Wd w ao xs) (hv : v < 18446744073709551616) (hE : ipE N W M xs i v ≠ 0) :
    Calls Tryd.prog 34 #[.agg #[.int .i64 N, .int .i64 W, .int .i64 M, .slice ao xs.length cap], .int .i64 i, .int .u64 v] w fun e w' => (∃ s, e = .returned (.iface 74 (.agg #[.int .i64 (ipE N W M xs i v), .string s]))) ∧ Below w.heap.size w w' := by
  have K : ∀ o, Wd (w.alloc o) ao xs := fun o => hx.keep (below_alloc w o)
  have v0 : (0 : Int) ≤ (v : Int) := by omega
  have v1 : (v : Int) < 18446744073709551616 := by omega
  by_cases g0 : igE N W M xs i = 0
  · have l0 : W < lenI v := by
      unfold ipE at hE
      rw [if_pos g0] at hE
      by_cases h : W < lenI v
      · exact h
      · rw [if_neg h] at hE; exact absurd rfl hE
    have R : ipE N W M xs i v = 2 := by unfold ipE; rw [if_pos g0, if_pos l0]
    rw [R]
    have L : Hid (W < lenI v) := l0
    clear hE l0 R
    go_enter Tryd.func34, Tryd.ntmps34
    go_wp2_with (first | (go_at_call 31; refine (place_ok _ _ _ _ _ _ _ _ (K _) g0).mono ?_; rintro e w' ⟨rfl, hb⟩; have KK := Box4.new hb; clear hb; obtain ⟨⟨hz, c0, c1, c2, c3⟩, hw⟩ := KK) | (go_at_call 41; refine (narrow_bad _ _ ?_ ?_ ?_ _).mono ?_; exact v0; exact v1; exact L.out; rintro e w' ⟨⟨s, rfl⟩, rfl⟩))
    go_ret
    exact ⟨⟨_, rfl⟩, by assumption⟩
  · have R : ipE N W M xs i v = igE N W M xs i := by unfold ipE; rw [if_neg g0]
    rw [R]
    clear hE R
    go_enter Tryd.func34, Tryd.ntmps34
    go_wp2_with (go_at_call 31; refine (place_bad _ _ _ _ _ _ _ _ (K _) g0).mono ?_; rintro e w' ⟨⟨s, rfl⟩, hb⟩; have KK := Box4.new hb; clear hb; obtain ⟨⟨hz, c0, c1, c2, c3⟩, hw⟩ := KK)
    go_ret
    exact ⟨⟨_, rfl⟩, by assumption⟩

theorem iget_c (N W M : Int) (ao : Option Addr) (xs : List Nat) (cap : Nat) (i : Int) (w : World) (hg : ET w) (hx : Wd w ao xs) (hf : Fit xs) :
    Calls Tryd.prog 13 #[.agg #[.int .i64 N, .int .i64 W, .int .i64 M, .slice ao xs.length cap], .int .i64 i] w fun e w' => e = .returned (.tuple #[.int .u64 (igX N W M xs i), .int .i64 (igE N W M xs i)]) ∧ Below w.heap.size w w' := by
  have K : ∀ o, Wd (w.alloc o) ao xs := fun o => hx.keep (below_alloc w o)
  by_cases hE : igE N W M xs i = 0
  · obtain ⟨hk, i0, i1⟩ := igE_zero N W M xs i hE
    obtain ⟨a1, a2, a3, a4, a5, a6, a7, a8⟩ := ichk_out N W M xs hk
    obtain ⟨q1, q2, q3, q4⟩ := get_place N W M i a1 a2 a3 a4 a7 i0 i1
    have R : Hid (slcX M xs (i * W) W = igX N W M xs i ∧ slcE M xs (i * W) W = igE N W M xs i) := get_slice N W M xs i hk i0 i1
    clear a4 q3
    go_enter Tryd.func13, Tryd.ntmps13
    go_wp2_with fail
    refine (place_ok _ _ _ _ _ _ _ _ (K _) hE).mono ?_
    rintro e w1 ⟨rfl, hb⟩
    have KK := Box4.new hb
    clear hb K
    obtain ⟨⟨hz, c0, c1, c2, c3⟩, hw⟩ := KK
    go_wp2_with fail
    refine (slice_c _ _ _ _ _ _ _ (hx.keep hw) hf (by omega) (by omega) (by omega) (by omega)).mono ?_
    rintro e w2 ⟨rfl, hb⟩
    have hw2 := hw.trans (hb.mono hw.size)
    clear hb
    go_wp2
    go_ret2
    exact ⟨ret_pair (congrArg (Value.int IntKind.u64) (congrArg Int.ofNat R.out.1)) (congrArg (Value.int IntKind.i64) R.out.2), hw2⟩
  · have R : Hid (0 = ((igX N W M xs i : Nat) : Int)) := by unfold igX Hid; rw [if_neg hE]; rfl
    go_enter Tryd.func13, Tryd.ntmps13
    go_wp2_with fail
    refine (place_bad _ _ _ _ _ _ _ _ (K _) hE).mono ?_
    rintro e w1 ⟨⟨s, rfl⟩, hb⟩
    have KK := Box4.new hb
    clear hb K
    obtain ⟨⟨hz, c0, c1, c2, c3⟩, hw⟩ := KK
    go_wp2_with fail
    refine (numberOf_c _ _ _ (hg.keep hw)).mono ?_
    rintro e w2 ⟨rfl, hb⟩
    have hw2 := hw.trans (hb.mono hw.size)
    clear hb
    go_wp2
    go_ret2
    exact ⟨ret_pair (congrArg (Value.int IntKind.u64) R.out) rfl, hw2⟩
end Go.Proofs.YtjilehaokignoaaDoor
