/-
  The contracts of the word functions and of the document's answers: for every word and numbers each call returns what the plain functions of YtbkagloonlddfaaNum say, and leaves the world as it was.
-/
import Derived.Test.YtbkagloonlddfaaRows
import Derived.Test.YtbkagloonlddfaaNum
import Derived.WalkKit
import Derived.WalkSpells
import Derived.WalkLawsBesides
namespace Go.Proofs.Ytbkagloonlddfaa
open Go.RowKit Num

theorem u64_wf (x : Int) (h : (Lit.int .u64 x).wf = true) : 0 ≤ x ∧ x < 18446744073709551616 := by
  simp only [Lit.wf, IntKind.min, IntKind.max, IntKind.signed, IntKind.bits, Bool.and_eq_true] at h
  simp at h
  omega

theorem i64_wf (x : Int) (h : (Lit.int .i64 x).wf = true) : -9223372036854775808 ≤ x ∧ x ≤ 9223372036854775807 := by
  simp only [Lit.wf, IntKind.min, IntKind.max, IntKind.signed, IntKind.bits, Bool.and_eq_true, decide_eq_true_eq] at h
  simp at h
  omega

set_option maxRecDepth 100000 in
theorem len64_c (x : Int) (h0 : 0 ≤ x) (h1 : x < 18446744073709551616) (w : World) :
    Calls Try.prog 31 #[.int .u64 x] w fun e w' => e = .returned (.int .i64 (lenI x)) ∧ w' = w := by
  have hs := Lib.len8tab_size
  go_enter Try.func31, Try.ntmps31
  go_wp2
  all_goals (go_ret; refine ⟨congrArg Ending.returned (congrArg (Value.int IntKind.i64) ?_), rfl⟩)
  · exact len_end x (x / 4294967296 / 65536 / 256) 56 56 rfl (by omega) (by omega) (by omega) _
  · exact len_end x (x / 4294967296 / 65536) 48 48 rfl (by omega) (by omega) (by omega) _
  · exact len_end x (x / 4294967296 / 256) 40 40 rfl (by omega) (by omega) (by omega) _
  · exact len_end x (x / 4294967296) 32 32 rfl (by omega) (by omega) (by omega) _
  · exact len_end x (x / 65536 / 256) 24 24 rfl (by omega) (by omega) (by omega) _
  · exact len_end x (x / 65536) 16 16 rfl (by omega) (by omega) (by omega) _
  · exact len_end x (x / 256) 8 8 rfl (by omega) (by omega) (by omega) _
  · exact len_end0 x _

theorem len_c (x : Int) (h0 : 0 ≤ x) (h1 : x < 18446744073709551616) (w : World) :
    Calls Try.prog 25 #[.int .u64 x] w fun e w' => e = .returned (.int .i64 (lenI x)) ∧ w' = w := by
  go_enter Try.func25, Try.ntmps25
  go_wp2_with (go_at_call 31; refine (len64_c _ ?_ ?_ _).mono ?_; exact h0; exact h1; rintro e w' ⟨rfl, rfl⟩)
  go_ret
  exact ⟨rfl, rfl⟩

theorem reflen_c (x : Int) (h0 : 0 ≤ x) (h1 : x < 18446744073709551616) (w : World) :
    Calls Try.prog 26 #[.int .u64 x] w fun e w' => e = .returned (.int .i64 (lenI x)) ∧ w' = w := by
  go_enter Try.func26, Try.ntmps26
  go_wp2
  go_loop [3] (fun i => ∃ p : Nat, p ≤ 64 ∧ i = .int .i64 p ∧ Hid (x.toNat < 2 ^ p))
    (fun i => (intOf i).toNat)
  case atStart => exact ⟨64, by omega, rfl, show x.toNat < 2 ^ 64 by omega⟩
  case round =>
    obtain ⟨p, hp, rfl, H⟩ := hrel
    go_wp2
    · have hlt : 0 < p := by assumption
      have ht : ((x / 2 ^ (p - 1)).tmod 2 == 1) = true := by assumption
      rw [bit_tmod x (p - 1) h0] at ht
      simp only [beq_iff_eq] at ht
      have g := H.out
      have l := len_eq x.toNat (p - 1) (by rw [show p - 1 + 1 = p by omega]; exact g) (by omega)
      go_ret
      refine ⟨congrArg Ending.returned (congrArg (Value.int IntKind.i64) ?_), rfl⟩
      unfold lenI
      omega
    · have hlt : 0 < p := by assumption
      have ht : ((x / 2 ^ (p - 1)).tmod 2 == 1) = false := by assumption
      rw [bit_tmod x (p - 1) h0] at ht
      simp only [beq_eq_false_iff_ne, ne_eq] at ht
      have g := H.out
      have l := len_down x.toNat (p - 1) (by rw [show p - 1 + 1 = p by omega]; exact g) (by omega)
      go_round
      case rel => exact ⟨p - 1, by omega, by go_num, l⟩
      case measure => simp only [intOf]; omega
    · have hlt : ¬ 0 < p := by assumption
      have g : x.toNat < 2 ^ p := H.out
      have l := len_le x.toNat p g
      go_ret
      refine ⟨congrArg Ending.returned (congrArg (Value.int IntKind.i64) ?_), rfl⟩
      unfold lenI
      omega
end Go.Proofs.Ytbkagloonlddfaa
