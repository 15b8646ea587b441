/-
  The contract of strconv.Itoa, of numbers below 100.
-/
import Derived.Test.YtadfnllfeoidhaaDoorCg
namespace Go.Proofs.YtadfnllfeoidhaaDoor
open Go.RowKit
set_option linter.unusedVariables false
set_option linter.unusedSimpArgs false
set_option maxRecDepth 100000

theorem dig1 : ∀ n : Nat, n ≤ 9 → ({ data := #[48, 49, 50, 51, 52, 53, 54, 55, 56, 57, 97, 98, 99, 100, 101, 102, 103, 104, 105, 106, 107, 108, 109, 110, 111, 112, 113, 114, 115, 116, 117, 118, 119, 120, 121, 122] } : ByteArray).extract n (n + 1) = Co.str (Co.dg n) := by decide +kernel
theorem dig2 : ∀ n : Nat, n ≤ 99 → 10 ≤ n → ({ data := #[48, 48, 48, 49, 48, 50, 48, 51, 48, 52, 48, 53, 48, 54, 48, 55, 48, 56, 48, 57, 49, 48, 49, 49, 49, 50, 49, 51, 49, 52, 49, 53, 49, 54, 49, 55, 49, 56, 49, 57, 50, 48, 50, 49, 50, 50, 50, 51, 50, 52, 50, 53, 50, 54, 50, 55, 50, 56, 50, 57, 51, 48, 51, 49, 51, 50, 51, 51, 51, 52, 51, 53, 51, 54, 51, 55, 51, 56, 51, 57, 52, 48, 52, 49, 52, 50, 52, 51, 52, 52, 52, 53, 52, 54, 52, 55, 52, 56, 52, 57, 53, 48, 53, 49, 53, 50, 53, 51, 53, 52, 53, 53, 53, 54, 53, 55, 53, 56, 53, 57, 54, 48, 54, 49, 54, 50, 54, 51, 54, 52, 54, 53, 54, 54, 54, 55, 54, 56, 54, 57, 55, 48, 55, 49, 55, 50, 55, 51, 55, 52, 55, 53, 55, 54, 55, 55, 55, 56, 55, 57, 56, 48, 56, 49, 56, 50, 56, 51, 56, 52, 56, 53, 56, 54, 56, 55, 56, 56, 56, 57, 57, 48, 57, 49, 57, 50, 57, 51, 57, 52, 57, 53, 57, 54, 57, 55, 57, 56, 57, 57] } : ByteArray).extract (n * 2) (n * 2 + 2) = Co.str (Co.dg n) := by decide +kernel
set_option maxHeartbeats 2000000 in
theorem ksmall_c (n : Nat) (h : n ≤ 99) (w : World) : Calls Tryd.prog 38 #[.int .i64 (n : Nat)] w fun e w' => e = .returned (.string (Co.str (Co.dg n))) ∧ w' = w := by
  by_cases h9 : n < 10
  · have h9z : (n : Int) < 10 := by omega
    go_enter Tryd.func38, Tryd.ntmps38
    go_wp2
    go_ret
    refine ⟨?_, rfl⟩
    refine congrArg (fun s => Ending.returned (Value.string s)) ?_
    exact dig1 n (by omega)
  · have h9z : ¬ (n : Int) < 10 := by omega
    have hz : (n : Int) ≤ 99 := by omega
    go_enter Tryd.func38, Tryd.ntmps38
    go_wp2
    go_ret
    refine ⟨?_, rfl⟩
    refine congrArg (fun s => Ending.returned (Value.string s)) ?_
    exact dig2 n h (by omega)
set_option maxHeartbeats 2000000 in
theorem kitoa_c (n : Nat) (h : n ≤ 99) (w : World) : Calls Tryd.prog 23 #[.int .i64 (n : Nat)] w fun e w' => e = .returned (.string (Co.str (Co.dg n))) ∧ w' = w := by
  have KS := hide (fun w0 => ksmall_c n h w0)
  have h0 : (0 : Int) ≤ n := by omega
  have h1 : (n : Int) < 100 := by omega
  have F1 : Hid (∀ w0, Calls Tryd.prog 37 #[.int .i64 (n : Nat), .int .i64 10] w0 fun e w' => e = .returned (.string (Co.str (Co.dg n))) ∧ w' = w0) := fun w0 => by
    go_enter Tryd.func37, Tryd.ntmps37
    go_wp2_with fail
    refine (KS.out _).mono ?_
    rintro e w1 ⟨rfl, rfl⟩
    go_wp2
    go_ret
    exact ⟨rfl, rfl⟩
  have F2 : Hid (∀ w0, Calls Tryd.prog 35 #[.int .i64 (n : Nat)] w0 fun e w' => e = .returned (.string (Co.str (Co.dg n))) ∧ w' = w0) := fun w0 => by
    go_enter Tryd.func35, Tryd.ntmps35
    go_wp2_with fail
    refine (F1.out _).mono ?_
    rintro e w1 ⟨rfl, rfl⟩
    go_wp2
    go_ret
    exact ⟨rfl, rfl⟩
  go_enter Tryd.func23, Tryd.ntmps23
  go_wp2_with fail
  refine (F2.out _).mono ?_
  rintro e w1 ⟨rfl, rfl⟩
  go_wp2
  go_ret
  exact ⟨rfl, rfl⟩
end Go.Proofs.YtadfnllfeoidhaaDoor
