/-
  The contracts of crc.divide, More and Sum: for every state and all bytes each call returns what the plain functions of Cr say, and leaves the world as it was.
-/
import Derived.Test.YtckkcbndibjgoaaBm
namespace Go.Proofs.Ytckkcbndibjgoaa
open Go.RowKit Crc
set_option linter.unusedVariables false
set_option linter.unusedSimpArgs false
set_option maxRecDepth 100000

theorem hvN_succ (n : Nat) : ∀ c, hvN (n + 1) c = hv (hvN n c) := by
  induction n with
  | zero => intro c; rfl
  | succ n ih => intro c; rw [hvN, ih (hv c), hvN]
theorem all_take (c : Nat) (xs : List Nat) (q : Nat) (h : q < xs.length) : all c (xs.take (q + 1)) = by_ (all c (xs.take q)) (gt xs q) := by
  have e : xs.take (q + 1) = xs.take q ++ [gt xs q] := by
    rw [List.take_add_one, gt_get xs q h]; rfl
  rw [e, all_append]; rfl
theorem and_one (y : Nat) (h : y < 4294967296) : bits .and .u32 (y : Int) 1 = ((y % 2 : Nat) : Int) := by
  have := u32_and_nat y 1 h (by decide)
  rw [Nat.and_one_is_mod] at this
  exact this
theorem xor_poly (y : Nat) (h : y < 4294967296) : bits .xor .u32 (y : Int) 3988292384 = ((y ^^^ 3988292384 : Nat) : Int) := u32_xor_nat y 3988292384 h (by decide)

set_option maxHeartbeats 2000000 in
theorem divide_c (x : Nat) (hx : x < 4294967296) (w : World) :
    Calls Try.prog 12 #[.int .u32 x] w fun e w' => e = .returned (.int .u32 (hvN 8 x)) ∧ w' = w := by
  go_enter Try.func12, Try.ntmps12
  go_wp2
  go_loopw [0, 3] (fun c i wr => ∃ q y : Nat, q ≤ 8 ∧ i = .int .i64 q ∧ c = .int .u32 y ∧ y < 4294967296 ∧ y = hvN q x ∧ wr = w) (fun _ i _ => 8 - (intOf i).toNat)
  case atStart => exact ⟨0, x, by omega, rfl, rfl, hx, rfl, rfl⟩
  case round =>
    obtain ⟨q, y, hq, rfl, rfl, hy, he, rfl⟩ := hrel
    have HE : Hid (y = hvN q x) := he
    clear he
    have A1 : bits .and .u32 (y : Int) 1 = ((y % 2 : Nat) : Int) := and_one y hy
    by_cases hlt : q < 8
    · by_cases ho : y % 2 = 1
      · go_wp2
        exact ⟨⟨q + 1, y / 2 ^^^ 3988292384, by omega, rfl, congrArg (Value.int .u32) (xor_poly (y / 2) (by omega)), Nat.xor_lt_two_pow (n := 32) (by omega) (by decide), by rw [hvN_succ, ← HE.out]; unfold hv; rw [if_pos ho], trivial⟩, by simp only [intOf]; omega⟩
      · go_wp2
        exact ⟨⟨q + 1, y / 2, by omega, rfl, rfl, by omega, by rw [hvN_succ, ← HE.out]; unfold hv; rw [if_neg ho], trivial⟩, by simp only [intOf]; omega⟩
    · obtain rfl : q = 8 := by omega
      go_wp2
      go_ret
      rw [HE.out]
      exact ⟨rfl, rfl⟩

theorem not_u32 (x : Nat) (h : x < 4294967296) : bits .xor .u32 IntKind.u32.max (x : Int) = ((x ^^^ 4294967295 : Nat) : Int) := by
  have := u32_xor_nat 4294967295 x (by decide) h
  rw [Nat.xor_comm] at this
  exact this
theorem xor_lt (a b : Nat) (ha : a < 4294967296) (hb : b < 4294967296) : a ^^^ b < 4294967296 := Nat.xor_lt_two_pow (n := 32) ha hb

set_option maxHeartbeats 2000000 in
theorem more_c (s : Nat) (ao : Option Addr) (xs : List Nat) (cap : Nat) (w : World) (hs : s < 4294967296) (hx : Bd w ao xs) (hb : Bytes xs) (hl : xs.length ≤ 9223372036854775807) :
    Calls Try.prog 10 #[.int .u32 s, .slice ao xs.length cap] w fun e w' => e = .returned (.int .u32 (moreL s xs)) ∧ w' = w := by
  have sg : IntKind.u32.signed = false := rfl
  have N0 := not_u32 s hs
  go_enter Try.func10, Try.ntmps10
  go_wp2
  go_loopw [5, 7, 12] (fun c o i wr => ∃ q y : Nat, q ≤ xs.length ∧ i = .int .i64 q ∧ c = .int .u32 y ∧ y < 4294967296 ∧ y = all (s ^^^ 4294967295) (xs.take q) ∧ wr = w) (fun _ _ i _ => xs.length - (intOf i).toNat)
  case atStart => exact ⟨0, s ^^^ 4294967295, Nat.zero_le _, rfl, rfl, xor_lt _ _ hs (by decide), by simp [all], rfl⟩
  case round =>
    obtain ⟨q, y, hq, rfl, rfl, hy, he, rfl⟩ := hrel
    have HE : Hid (y = all (s ^^^ 4294967295) (xs.take q)) := he
    clear he
    by_cases hlt : q < xs.length
    · obtain ⟨b, off, rfl, hb0, hc⟩ := hx (by omega)
      have e1 := hc q hlt
      have hlt2 : (q : Int) < (xs.length : Int) := by omega
      have g1 := gt_lt hb q
      have X1 : bits .xor .u32 (y : Int) (gt xs q : Int) = ((y ^^^ gt xs q : Nat) : Int) := u32_xor_nat y (gt xs q) hy (by omega)
      have D : Hid (∀ w0 : World, Calls Try.prog 12 #[.int .u32 ((y ^^^ gt xs q : Nat) : Int)] w0 fun e w' => e = .returned (.int .u32 (hvN 8 (y ^^^ gt xs q))) ∧ w' = w0) := fun w0 => divide_c _ (xor_lt _ _ hy (by omega)) w0
      have E2 : Hid (hvN 8 (y ^^^ gt xs q) = all (s ^^^ 4294967295) (xs.take (q + 1)) ∧ hvN 8 (y ^^^ gt xs q) < 4294967296) := ⟨by rw [all_take _ _ _ hlt, ← HE.out]; rfl, hvN_lt 8 _ (xor_lt _ _ hy (by omega))⟩
      go_wp2_with fail
      refine (D.out _).mono ?_
      rintro e w1 ⟨rfl, h1⟩
      rw [h1]
      generalize hvN 8 (y ^^^ gt xs q) = Z at *
      clear h1 w1 D X1
      go_wp2
      exact ⟨⟨q + 1, Z, by omega, rfl, rfl, E2.out.2, E2.out.1, trivial⟩, by simp only [intOf]; omega⟩
    · obtain rfl : q = xs.length := by omega
      have N1 := not_u32 y hy
      go_wp2
      go_ret
      have e : moreL s xs = y ^^^ 4294967295 := by unfold moreL; rw [HE.out, List.take_length]
      rw [e]
      exact ⟨rfl, rfl⟩

theorem sum_c (ao : Option Addr) (xs : List Nat) (cap : Nat) (w : World) (hx : Bd w ao xs) (hb : Bytes xs) (hl : xs.length ≤ 9223372036854775807) :
    Calls Try.prog 8 #[.slice ao xs.length cap] w fun e w' => e = .returned (.int .u32 (sumL xs)) ∧ w' = w := by
  have e : moreL 0 xs = sumL xs := by unfold moreL sumL; rw [Nat.zero_xor]
  have M : Hid (∀ w0 : World, w0 = w → Calls Try.prog 10 #[.int .u32 0, .slice ao xs.length cap] w0 fun e w' => e = .returned (.int .u32 (sumL xs)) ∧ w' = w0) := fun w0 h => by
    subst h
    rw [← e]
    exact more_c 0 ao xs cap w0 (by decide) hx hb hl
  generalize sumL xs = Z at *
  clear e
  go_enter Try.func8, Try.ntmps8
  go_wp2_with fail
  refine (M.out _ rfl).mono ?_
  rintro e w1 ⟨rfl, h1⟩
  rw [h1]
  clear M h1 w1
  go_wp2
  go_ret
  exact ⟨rfl, rfl⟩
end Go.Proofs.Ytckkcbndibjgoaa
