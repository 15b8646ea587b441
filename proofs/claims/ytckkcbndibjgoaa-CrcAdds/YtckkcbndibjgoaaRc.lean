/-
  The contracts of the document's More and Sum.
-/
import Derived.Test.YtckkcbndibjgoaaCc
namespace Go.Proofs.Ytckkcbndibjgoaa
open Go.RowKit Crc
set_option linter.unusedVariables false
set_option linter.unusedSimpArgs false
set_option maxRecDepth 100000

theorem xor_all (x : Nat) (h : x < 4294967296) : bits .xor .u32 (x : Int) 4294967295 = ((x ^^^ 4294967295 : Nat) : Int) := u32_xor_nat x 4294967295 h (by decide)

set_option maxHeartbeats 2000000 in
theorem rmore_c (s : Nat) (ao : Option Addr) (xs : List Nat) (cap : Nat) (w : World) (hs : s < 4294967296) (hx : Bd w ao xs) (hb : Bytes xs) (hl : xs.length ≤ 9223372036854775807) :
    Calls Try.prog 11 #[.int .u32 s, .slice ao xs.length cap] w fun e w' => e = .returned (.int .u32 (moreL s xs)) ∧ w' = w := by
  have N0 := xor_all s hs
  go_enter Try.func11, Try.ntmps11
  go_wp2
  go_loopw [5, 6] (fun c i wr => ∃ q y : Nat, q ≤ xs.length ∧ i = .int .i64 q ∧ c = .int .u32 y ∧ y < 4294967296 ∧ y = all (s ^^^ 4294967295) (xs.take q) ∧ wr = w) (fun _ i _ => xs.length - (intOf i).toNat)
  case atStart => exact ⟨0, s ^^^ 4294967295, Nat.zero_le _, rfl, rfl, xor_lt _ _ hs (by decide), by simp [all], rfl⟩
  case round =>
    obtain ⟨q, y, hq, rfl, rfl, hy, he, rfl⟩ := hrel
    have HE : Hid (y = all (s ^^^ 4294967295) (xs.take q)) := he
    clear he
    by_cases hlt : q < xs.length
    · obtain ⟨b, off, rfl, hb0, hc⟩ := hx (by omega)
      have e1 := hc q hlt
      have hlt2 : (q : Int) < (xs.length : Int) := by omega
      have g1 := gt_lt hb q
      have X1 : bits .xor .u32 (y : Int) (gt xs q : Int) = ((y ^^^ gt xs q : Nat) : Int) := u32_xor_nat y (gt xs q) hy (by omega)
      have Z0 := xor_lt _ _ hy (show gt xs q < 4294967296 by omega)
      have E2 : Hid (hvN 8 (y ^^^ gt xs q) = all (s ^^^ 4294967295) (xs.take (q + 1))) := by rw [all_take _ _ _ hlt, ← HE.out]; rfl
      generalize y ^^^ gt xs q = Y at *
      go_wp2
      go_loopw [5, 7] (fun c k wz => ∃ p z : Nat, p ≤ 8 ∧ k = .int .i64 p ∧ c = .int .u32 z ∧ z < 4294967296 ∧ z = hvN p Y ∧ wz = wr) (fun _ k _ => 8 - (intOf k).toNat)
      case atStart => exact ⟨0, Y, by omega, rfl, rfl, Z0, rfl, rfl⟩
      case round =>
        obtain ⟨p, z, hp, rfl, rfl, hz, he, rfl⟩ := hrel
        have HZ : Hid (z = hvN p Y) := he
        clear he
        by_cases hlt3 : p < 8
        · by_cases ho : z % 2 = 1
          · go_wp2
            exact ⟨⟨p + 1, z / 2 ^^^ 3988292384, by omega, rfl, congrArg (Value.int .u32) (xor_poly (z / 2) (by omega)), Nat.xor_lt_two_pow (n := 32) (by omega) (by decide), by rw [hvN_succ, ← HZ.out]; unfold hv; rw [if_pos ho], trivial⟩, by simp only [intOf]; omega⟩
          · go_wp2
            exact ⟨⟨p + 1, z / 2, by omega, rfl, rfl, by omega, by rw [hvN_succ, ← HZ.out]; unfold hv; rw [if_neg ho], trivial⟩, by simp only [intOf]; omega⟩
        · obtain rfl : p = 8 := by omega
          go_wp2
          exact ⟨⟨q + 1, z, by omega, rfl, rfl, hz, by rw [← E2.out]; exact HZ.out, trivial⟩, by simp only [intOf]; omega⟩
    · obtain rfl : q = xs.length := by omega
      have N1 := xor_all y hy
      go_wp2
      go_ret
      have e : moreL s xs = y ^^^ 4294967295 := by unfold moreL; rw [HE.out, List.take_length]
      rw [e]
      exact ⟨rfl, rfl⟩

theorem rsum_c (ao : Option Addr) (xs : List Nat) (cap : Nat) (w : World) (hx : Bd w ao xs) (hb : Bytes xs) (hl : xs.length ≤ 9223372036854775807) :
    Calls Try.prog 9 #[.slice ao xs.length cap] w fun e w' => e = .returned (.int .u32 (sumL xs)) ∧ w' = w := by
  have e : moreL 0 xs = sumL xs := by unfold moreL sumL; rw [Nat.zero_xor]
  have M : Hid (∀ w0 : World, w0 = w → Calls Try.prog 11 #[.int .u32 0, .slice ao xs.length cap] w0 fun e w' => e = .returned (.int .u32 (sumL xs)) ∧ w' = w0) := fun w0 h => by
    subst h
    rw [← e]
    exact rmore_c 0 ao xs cap w0 (by decide) hx hb hl
  generalize sumL xs = Z at *
  clear e
  go_enter Try.func9, Try.ntmps9
  go_wp2_with fail
  refine (M.out _ rfl).mono ?_
  rintro e w1 ⟨rfl, h1⟩
  rw [h1]
  clear M h1 w1
  go_wp2
  go_ret
  exact ⟨rfl, rfl⟩
end Go.Proofs.Ytckkcbndibjgoaa
