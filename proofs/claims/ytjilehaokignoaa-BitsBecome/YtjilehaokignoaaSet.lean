/-
  The contract of Set.
-/
import Derived.Test.YtjilehaokignoaaMake
namespace Go.Proofs.Ytjilehaokignoaa
open Go.RowKit Num Bit

theorem set_bad (N : Int) (ao : Option Addr) (xs : List Nat) (cap : Nat) (i : Int) (x : Bool) (w : World) (hx : Wd w ao xs) (hl : xs.length ≤ 1048576) (hE : getE N xs i ≠ 0) :
    Calls Try.prog 6 #[.agg #[.int .i64 N, .slice ao xs.length cap], .int .i64 i, .bool x] w fun e w' => ∃ g, e = .returned (.tuple #[.agg #[.int .i64 N, .slice (some ⟨g, 0, none⟩) xs.length xs.length], .int .i64 (getE N xs i)]) ∧ Own w' g xs ∧ Below w.heap.size w w' := by
  have hE' : (getE N xs i == 0) = false := by simpa using hE
  have hE2 : (getE N xs i != 0) = true := by simpa using hE
  clear hE
  have K : ∀ o o', Wd ((w.alloc o).alloc o') ao xs := fun o o' => hx.keep ((below_alloc w o).alloc (by simp) o')
  go_enter Try.func6, Try.ntmps6
  go_wp2_with fail
  refine (asItIs_c _ _ _ _ _ (K _ _) hl).mono ?_
  rintro e w1 ⟨g, rfl, hg1, hg2, hO, hb⟩
  have KK := box2_cells rfl hb
  have hg0 : w.heap.size + 2 ≤ g := by simpa using hg1
  clear hb hg1
  obtain ⟨⟨k0, k1⟩, ⟨k2, k3⟩, ⟨k4, k5⟩, hz, hw⟩ := KK
  have hz0 : w.heap.size < w1.heap.size := by omega
  have hx1 : Wd w1 ao xs := hx.keep hw
  go_wp2_with fail
  refine (place_c _ _ _ _ _ _ (hx1.keep (below_alloc _ _))).mono ?_
  rintro e w3 ⟨rfl, hb⟩
  have KK := box_cells hb
  clear hb
  obtain ⟨j0, j1, hz3, hw3⟩ := KK
  have m2 := (hw3.cell (p := ⟨w.heap.size + 1, 0, none⟩) hz).trans k2
  have m3 := (hw3.cell (p := ⟨w.heap.size + 1, 1, none⟩) hz).trans k3
  have m4 := (hw3.frozen (p := ⟨w.heap.size + 1, 0, none⟩) hz).trans k4
  have m5 := (hw3.frozen (p := ⟨w.heap.size + 1, 1, none⟩) hz).trans k5
  have hO3 : Own w3 g xs := hO.keep hw3
  have hw4 : Below w.heap.size w w3 := hw.trans (hw3.mono (by omega))
  clear k0 k1 k2 k3 k4 k5 K hx1
  go_wp2
  refine bodyPost_ret (v := .tuple #[.agg #[.int .i64 N, .slice (some ⟨g, 0, none⟩) xs.length xs.length], .int .i64 (getE N xs i)]) (by simp [results, Try.results6, go_sem, m2, m3]) rfl ⟨g, rfl, ?_, ?_⟩
  · exact (hO3.set_other (by simp; omega) _).set_other (by simp; omega) _
  · exact (hw4.setCell (by simp) _).setCell (by simp) _

theorem set_true (N : Int) (ao : Option Addr) (xs : List Nat) (cap : Nat) (n : Nat) (w : World) (hx : Wd w ao xs) (hf : Fit xs) (hl : xs.length ≤ 1048576) (hE : getE N xs n = 0) (hn : n / 64 < xs.length) (hn2 : n ≤ 1048576) :
    Calls Try.prog 6 #[.agg #[.int .i64 N, .slice ao xs.length cap], .int .i64 n, .bool true] w fun e w' => ∃ g, e = .returned (.tuple #[.agg #[.int .i64 N, .slice (some ⟨g, 0, none⟩) xs.length xs.length], .int .i64 0]) ∧ Own w' g (xs.set (n / 64) (gt xs (n / 64) ||| 2 ^ (n % 64))) ∧ Below w.heap.size w w' := by
  have hE' : (getE N xs n == 0) = true := by simpa using hE
  have hn3 : (n : Int) / 64 < (xs.length : Int) := by omega
  have SO : Hid (IntKind.u64.wrap ((2 : Int) ^ (n % 64)) = ((2 ^ (n % 64) : Nat) : Int)) := shl_one _ (by omega)
  have SP : Hid (2 ^ (n % 64) < 18446744073709551616) := two_pow_lt _ (by omega)
  have K : ∀ o o', Wd ((w.alloc o).alloc o') ao xs := fun o o' => hx.keep ((below_alloc w o).alloc (by simp) o')
  go_enter Try.func6, Try.ntmps6
  go_wp2_with fail
  refine (asItIs_c _ _ _ _ _ (K _ _) hl).mono ?_
  rintro e w1 ⟨g, rfl, hg1, hg2, hO, hb⟩
  have KK := box2_cells rfl hb
  have hg0 : w.heap.size + 2 ≤ g := by simpa using hg1
  clear hb hg1
  obtain ⟨⟨k0, k1⟩, ⟨k2, k3⟩, ⟨k4, k5⟩, hz, hw⟩ := KK
  have hz0 : w.heap.size < w1.heap.size := by omega
  have hx1 : Wd w1 ao xs := hx.keep hw
  go_wp2_with fail
  refine (place_c _ _ _ _ _ _ (hx1.keep (below_alloc _ _))).mono ?_
  rintro e w3 ⟨rfl, hb⟩
  have KK := box_cells hb
  clear hb
  obtain ⟨j0, j1, hz3, hw3⟩ := KK
  have m2 := (hw3.cell (p := ⟨w.heap.size + 1, 0, none⟩) hz).trans k2
  have m3 := (hw3.cell (p := ⟨w.heap.size + 1, 1, none⟩) hz).trans k3
  have m4 := (hw3.frozen (p := ⟨w.heap.size + 1, 0, none⟩) hz).trans k4
  have m5 := (hw3.frozen (p := ⟨w.heap.size + 1, 1, none⟩) hz).trans k5
  have hO3 : Own w3 g xs := hO.keep hw3
  have hw4 : Below w.heap.size w w3 := hw.trans (hw3.mono (by omega))
  clear k0 k1 k2 k3 k4 k5 K hx1
  have c1 := hO3.cell (n / 64) hn
  have c2 := hO3.frozen (n / 64)
  have n1 : ¬ w1.heap.size = g := by omega
  have n2 : ¬ w.heap.size + 1 = g := by omega
  have n3 : ¬ g = w1.heap.size := by omega
  go_wp2
  refine bodyPost_ret (v := .tuple #[.agg #[.int .i64 N, .slice (some ⟨g, 0, none⟩) xs.length xs.length], .int .i64 0]) (by simp [results, Try.results6, go_sem, m2, m3]) rfl ⟨g, rfl, ?_, ?_⟩
  · rw [SO.out, u64_or_nat _ _ (hf _) SP.out]
    exact ((hO3.set _ _).set_other (by simp; omega) _).set_other (by simp; omega) _
  · exact ((hw4.setCell (by simp; omega) _).setCell (by simp) _).setCell (by simp) _

theorem set_false (N : Int) (ao : Option Addr) (xs : List Nat) (cap : Nat) (n : Nat) (w : World) (hx : Wd w ao xs) (hf : Fit xs) (hl : xs.length ≤ 1048576) (hE : getE N xs n = 0) (hn : n / 64 < xs.length) (hn2 : n ≤ 1048576) :
    Calls Try.prog 6 #[.agg #[.int .i64 N, .slice ao xs.length cap], .int .i64 n, .bool false] w fun e w' => ∃ g, e = .returned (.tuple #[.agg #[.int .i64 N, .slice (some ⟨g, 0, none⟩) xs.length xs.length], .int .i64 0]) ∧ Own w' g (xs.set (n / 64) (gt xs (n / 64) &&& (18446744073709551615 - 2 ^ (n % 64)))) ∧ Below w.heap.size w w' := by
  have hE' : (getE N xs n == 0) = true := by simpa using hE
  have hn3 : (n : Int) / 64 < (xs.length : Int) := by omega
  have SO : Hid (IntKind.u64.wrap ((2 : Int) ^ (n % 64)) = ((2 ^ (n % 64) : Nat) : Int)) := shl_one _ (by omega)
  have SP : Hid (2 ^ (n % 64) < 18446744073709551616) := two_pow_lt _ (by omega)
  have K : ∀ o o', Wd ((w.alloc o).alloc o') ao xs := fun o o' => hx.keep ((below_alloc w o).alloc (by simp) o')
  go_enter Try.func6, Try.ntmps6
  go_wp2_with fail
  refine (asItIs_c _ _ _ _ _ (K _ _) hl).mono ?_
  rintro e w1 ⟨g, rfl, hg1, hg2, hO, hb⟩
  have KK := box2_cells rfl hb
  have hg0 : w.heap.size + 2 ≤ g := by simpa using hg1
  clear hb hg1
  obtain ⟨⟨k0, k1⟩, ⟨k2, k3⟩, ⟨k4, k5⟩, hz, hw⟩ := KK
  have hz0 : w.heap.size < w1.heap.size := by omega
  have hx1 : Wd w1 ao xs := hx.keep hw
  go_wp2_with fail
  refine (place_c _ _ _ _ _ _ (hx1.keep (below_alloc _ _))).mono ?_
  rintro e w3 ⟨rfl, hb⟩
  have KK := box_cells hb
  clear hb
  obtain ⟨j0, j1, hz3, hw3⟩ := KK
  have m2 := (hw3.cell (p := ⟨w.heap.size + 1, 0, none⟩) hz).trans k2
  have m3 := (hw3.cell (p := ⟨w.heap.size + 1, 1, none⟩) hz).trans k3
  have m4 := (hw3.frozen (p := ⟨w.heap.size + 1, 0, none⟩) hz).trans k4
  have m5 := (hw3.frozen (p := ⟨w.heap.size + 1, 1, none⟩) hz).trans k5
  have hO3 : Own w3 g xs := hO.keep hw3
  have hw4 : Below w.heap.size w w3 := hw.trans (hw3.mono (by omega))
  clear k0 k1 k2 k3 k4 k5 K hx1
  have c1 := hO3.cell (n / 64) hn
  have c2 := hO3.frozen (n / 64)
  have n1 : ¬ w1.heap.size = g := by omega
  have n2 : ¬ w.heap.size + 1 = g := by omega
  have n3 : ¬ g = w1.heap.size := by omega
  go_wp2
  refine bodyPost_ret (v := .tuple #[.agg #[.int .i64 N, .slice (some ⟨g, 0, none⟩) xs.length xs.length], .int .i64 0]) (by simp [results, Try.results6, go_sem, m2, m3]) rfl ⟨g, rfl, ?_, ?_⟩
  · rw [SO.out, u64_andNot_nat _ _ (hf _) SP.out]
    exact ((hO3.set _ _).set_other (by simp; omega) _).set_other (by simp; omega) _
  · exact ((hw4.setCell (by simp; omega) _).setCell (by simp) _).setCell (by simp) _

theorem set_c (N : Int) (ao : Option Addr) (xs : List Nat) (cap : Nat) (i : Int) (x : Bool) (w : World) (hx : Wd w ao xs) (hf : Fit xs) (hl : xs.length ≤ 1048576) :
    Calls Try.prog 6 #[.agg #[.int .i64 N, .slice ao xs.length cap], .int .i64 i, .bool x] w fun e w' => ∃ bo dap, e = .returned (.tuple #[.agg #[.int .i64 N, .slice bo (setL N xs i x).length dap], .int .i64 (getE N xs i)]) ∧ Out w w' bo (setL N xs i x) dap := by
  by_cases hE : getE N xs i = 0
  · obtain ⟨hk, h0, h1⟩ := getE_zero N xs i hE
    obtain ⟨hc0, hc1, hc2, _⟩ := chk_out N xs hk
    obtain ⟨n, rfl⟩ := Int.eq_ofNat_of_zero_le h0
    have e1 : setL N xs n x = rowOf N.toNat (fun j => if j = n then x else bitAt xs j) := by unfold setL; rw [if_pos hE, Int.toNat_natCast]
    cases x with
    | true =>
      refine (set_true N ao xs cap n w hx hf hl hE (by omega) (by omega)).mono ?_
      rintro e w' ⟨g, rfl, hO, hb⟩
      have e2 := set_row_true N xs hf hk n h1
      rw [← e1] at e2
      rw [e2] at hO
      have e3 : (setL N xs n true).length = xs.length := by rw [← e2, List.length_set]
      refine ⟨some ⟨g, 0, none⟩, xs.length, by rw [e3, hE], hO.wd, ?_, by omega, hb⟩
      rw [e1]; exact fit_rowOf _ _
    | false =>
      refine (set_false N ao xs cap n w hx hf hl hE (by omega) (by omega)).mono ?_
      rintro e w' ⟨g, rfl, hO, hb⟩
      have e2 := set_row_false N xs hf hk n h1
      rw [← e1] at e2
      rw [e2] at hO
      have e3 : (setL N xs n false).length = xs.length := by rw [← e2, List.length_set]
      refine ⟨some ⟨g, 0, none⟩, xs.length, by rw [e3, hE], hO.wd, ?_, by omega, hb⟩
      rw [e1]; exact fit_rowOf _ _
  · refine (set_bad N ao xs cap i x w hx hl hE).mono ?_
    rintro e w' ⟨g, rfl, hO, hb⟩
    have e1 : setL N xs i x = xs := by unfold setL; rw [if_neg hE]
    rw [e1]
    exact ⟨some ⟨g, 0, none⟩, xs.length, rfl, hO.wd, hf, Nat.le_refl _, hb⟩

end Go.Proofs.Ytjilehaokignoaa
