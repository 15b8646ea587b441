/-
  The contract of the document's Append, whatever is handed in.
-/
import Derived.Test.YtjilehaokignoaaRefApp
namespace Go.Proofs.Ytjilehaokignoaa
open Go.RowKit Num Bit

theorem refapp_bad (N : Int) (ao : Option Addr) (xs : List Nat) (cap : Nat) (y : Int) (n : Int) (w : World) (hx : Wd w ao xs) (hf : Fit xs) (h : chk N xs = false ∨ n < 0 ∨ 64 < n ∨ 1048576 < N + n) :
    Calls Try.prog 9 #[.agg #[.int .i64 N, .slice ao xs.length cap], .int .u64 y, .int .i64 n] w fun e w' => e = .returned (.tuple #[.agg #[.int .i64 N, .slice ao xs.length cap], .int .i64 2]) ∧ Below w.heap.size w w' := by
  have K : ∀ o o', Wd ((w.alloc o).alloc o') ao xs := fun o o' => hx.keep ((below_alloc w o).alloc (by simp) o')
  cases hk : chk N xs with
  | false =>
    clear h
    go_enter Try.func9, Try.ntmps9
    go_wp2_with fail
    refine (refcheck_c _ _ _ _ _ (K _ _) hf).mono ?_
    rintro e w1 ⟨rfl, hb⟩
    have KK := box2_cells rfl hb
    clear hb K
    obtain ⟨⟨k0, k1⟩, ⟨k2, k3⟩, ⟨k4, k5⟩, hz, hw⟩ := KK
    have hz' : w.heap.size < w1.heap.size := by omega
    go_wp2
    exact bodyPost_ret (v := .tuple #[.agg #[.int .i64 N, .slice ao xs.length cap], .int .i64 2]) (by simp [results, Try.results9, go_sem, k2, k3]) rfl ⟨rfl, (hw.setCell (by simp) _).setCell (by simp) _⟩
  | true =>
    obtain ⟨hc0, hc1, _, _⟩ := chk_out N xs hk
    by_cases h1 : n < 0
    · clear h
      go_enter Try.func9, Try.ntmps9
      go_wp2_with fail
      refine (refcheck_c _ _ _ _ _ (K _ _) hf).mono ?_
      rintro e w1 ⟨rfl, hb⟩
      have KK := box2_cells rfl hb
      clear hb K
      obtain ⟨⟨k0, k1⟩, ⟨k2, k3⟩, ⟨k4, k5⟩, hz, hw⟩ := KK
      have hz' : w.heap.size < w1.heap.size := by omega
      go_wp2
      exact bodyPost_ret (v := .tuple #[.agg #[.int .i64 N, .slice ao xs.length cap], .int .i64 2]) (by simp [results, Try.results9, go_sem, k2, k3]) rfl ⟨rfl, (hw.setCell (by simp) _).setCell (by simp) _⟩
    have d1 : decide (n < 0) = false := by simpa using h1
    by_cases h2 : 64 < n
    · clear h
      go_enter Try.func9, Try.ntmps9
      go_wp2_with fail
      refine (refcheck_c _ _ _ _ _ (K _ _) hf).mono ?_
      rintro e w1 ⟨rfl, hb⟩
      have KK := box2_cells rfl hb
      clear hb K
      obtain ⟨⟨k0, k1⟩, ⟨k2, k3⟩, ⟨k4, k5⟩, hz, hw⟩ := KK
      have hz' : w.heap.size < w1.heap.size := by omega
      go_wp2
      exact bodyPost_ret (v := .tuple #[.agg #[.int .i64 N, .slice ao xs.length cap], .int .i64 2]) (by simp [results, Try.results9, go_sem, k2, k3]) rfl ⟨rfl, (hw.setCell (by simp) _).setCell (by simp) _⟩
    have d2 : decide (64 < n) = false := by simpa using h2
    have h3 : 1048576 < N + n := by
      rcases h with h | h | h | h
      · rw [hk] at h; cases h
      · omega
      · omega
      · exact h
    have h4 : N + n ≤ 1048640 := by omega
    clear h
    go_enter Try.func9, Try.ntmps9
    go_wp2_with fail
    refine (refcheck_c _ _ _ _ _ (K _ _) hf).mono ?_
    rintro e w1 ⟨rfl, hb⟩
    have KK := box2_cells rfl hb
    clear hb K
    obtain ⟨⟨k0, k1⟩, ⟨k2, k3⟩, ⟨k4, k5⟩, hz, hw⟩ := KK
    have hz' : w.heap.size < w1.heap.size := by omega
    go_wp2
    exact bodyPost_ret (v := .tuple #[.agg #[.int .i64 N, .slice ao xs.length cap], .int .i64 2]) (by simp [results, Try.results9, go_sem, k2, k3]) rfl ⟨rfl, (hw.setCell (by simp) _).setCell (by simp) _⟩

theorem refapp_c (N : Int) (ao : Option Addr) (xs : List Nat) (cap : Nat) (y : Nat) (n : Int) (w : World) (hx : Wd w ao xs) (hf : Fit xs) (hcap : xs.length ≤ cap) :
    Calls Try.prog 9 #[.agg #[.int .i64 N, .slice ao xs.length cap], .int .u64 y, .int .i64 n] w fun e w' => ∃ bo dap, e = .returned (.tuple #[.agg #[.int .i64 (appN N xs n), .slice bo (appL N xs y n).length dap], .int .i64 (appE N xs n)]) ∧ Out w w' bo (appL N xs y n) dap := by
  by_cases h : chk N xs = false ∨ n < 0 ∨ 64 < n ∨ 1048576 < N + n
  · have hE : appE N xs n = 2 := by unfold appE; rw [if_pos h]
    have hN : appN N xs n = N := by unfold appN; rw [hE]; rfl
    have hL : appL N xs y n = xs := by unfold appL; rw [hE]; rfl
    refine (refapp_bad N ao xs cap y n w hx hf h).mono ?_
    rintro e w' ⟨rfl, hb⟩
    rw [hE, hN, hL]
    exact ⟨ao, cap, rfl, hx.keep hb, hf, hcap, hb⟩
  · have hk : chk N xs = true := by
      cases hc : chk N xs with
      | true => rfl
      | false => exact absurd (.inl hc) h
    obtain ⟨hc0, hc1, _, _⟩ := chk_out N xs hk
    obtain ⟨m, rfl⟩ := Int.eq_ofNat_of_zero_le hc0
    obtain ⟨k, rfl⟩ := Int.eq_ofNat_of_zero_le (show 0 ≤ n by omega)
    have hE : appE m xs k = 0 := by unfold appE; rw [if_neg h]
    have hN : appN m xs k = (m : Int) + k := by unfold appN; rw [hE]; rfl
    have hL : appL m xs y k = apS xs y m k k := by
      unfold appL
      rw [hE, apS_all, show ((m : Int) + (k : Int)).toNat = m + k by omega, Int.toNat_natCast]
      rfl
    refine (refapp_ok ao xs cap y m k w hx hf hk (by omega) (by omega)).mono ?_
    rintro e w' ⟨bo, dap, rfl, hX, hc, hb⟩
    rw [hE, hN, hL]
    exact ⟨bo, dap, rfl, hX, fit_apS _ _ _ _ _, hc, hb⟩
end Go.Proofs.Ytjilehaokignoaa
