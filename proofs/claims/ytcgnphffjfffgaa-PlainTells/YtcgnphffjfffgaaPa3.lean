/-
  The library's Search.
-/
import Derived.Test.YtcgnphffjfffgaaRa
import Derived.Test.YtcgnphffjfffgaaAp
import Derived.Test.YtcgnphffjfffgaaMb
namespace Go.Proofs.Ytcgnphffjfffgaa
open Go.RowKit Num Bit
set_option linter.unusedVariables false
set_option linter.unusedSimpArgs false
set_option maxRecDepth 100000
set_option maxHeartbeats 2000000 in
theorem search_c (n : Nat) (hn : n ≤ 1048576) (c1 c2 c3 : Addr) (p : Nat → Bool) (w : World)
    (hf : Hid (∀ (i : Nat) w0, i < n → Below w.heap.size w w0 → Calls Try.prog 48 #[.int .i64 i, .pointer (some c1), .pointer (some c2), .pointer (some c3)] w0 fun e w' => e = .returned (.bool (p i)) ∧ Below w0.heap.size w0 w')) (hp : Hid (∀ i j, i ≤ j → p i = true → p j = true)) :
    Calls Try.prog 47 #[.int .i64 n, .func (.func 48) #[] #[.pointer (some c1), .pointer (some c2), .pointer (some c3)]] w fun e w' => ∃ j : Nat, e = .returned (.int .i64 j) ∧ j ≤ n ∧ (∀ i, i < j → p i = false) ∧ (∀ i, j ≤ i → i < n → p i = true) ∧ Below w.heap.size w w' := by
  go_enter Try.func47, Try.ntmps47
  go_wp2
  go_loopw [5, 6] (fun s t wr => ∃ i j : Nat, i ≤ j ∧ j ≤ n ∧ s = .int .i64 i ∧ t = .int .i64 j ∧ Hid (∀ q, q < i → p q = false) ∧ Hid (∀ q, j ≤ q → q < n → p q = true) ∧ Below w.heap.size w wr) (fun s t _ => (intOf t).toNat - (intOf s).toNat)
  case atStart => exact ⟨0, n, by omega, by omega, rfl, rfl, fun q hq => absurd hq (by omega), fun q h1 h2 => absurd h1 (by omega), Below.refl _ _⟩
  case round =>
    obtain ⟨i, j, hij, hj, rfl, rfl, H1, H2, hw⟩ := hrel
    by_cases hlt : i < j
    · have hlt2 : (i : Int) < (j : Int) := by omega
      have hm : (((i + j) / 2 : Nat) : Int) = ((i : Int) + (j : Int)) / 2 := by omega
      have C : Hid (Calls Try.prog 48 #[.int .i64 (((i : Int) + (j : Int)) / 2), .pointer (some c1), .pointer (some c2), .pointer (some c3)] wr fun e w' => e = .returned (.bool (p ((i + j) / 2))) ∧ Below wr.heap.size wr w') := by
        have := hf.out ((i + j) / 2) wr (by omega) hw
        rw [hm] at this
        exact this
      have mu : IntKind.i64.wrap (((i : Int) + (j : Int)) / 2 + 1) = ((i : Int) + (j : Int)) / 2 + 1 := by rw [IntKind.wrap_i64]; omega
      clear hf
      go_wp2_with fail
      refine C.out.mono ?_
      rintro e w1 ⟨rfl, hb⟩
      have hw1 := hw.trans (hb.mono hw.size)
      clear hb C
      cases hq : p ((i + j) / 2) with
      | true =>
        go_wp2
        refine ⟨⟨i, (i + j) / 2, by omega, by omega, rfl, by rw [hm], H1, ?_, hw1⟩, by simp only [intOf]; omega⟩
        intro q h1 h2
        exact hp.out _ _ h1 hq
      | false =>
        go_wp2
        refine ⟨⟨(i + j) / 2 + 1, j, by omega, by omega, by rw [← hm]; rfl, rfl, ?_, H2, hw1⟩, by simp only [intOf]; omega⟩
        intro q h1
        cases hq2 : p q with
        | false => rfl
        | true =>
          have := hp.out q ((i + j) / 2) (by omega) hq2
          rw [hq] at this
          exact this.symm
    · have hlt2 : ¬ (i : Int) < (j : Int) := by omega
      go_wp2
      go_ret
      exact ⟨i, rfl, by omega, H1.out, fun q h1 h2 => H2.out q (by omega) h2, hw⟩
end Go.Proofs.Ytcgnphffjfffgaa
