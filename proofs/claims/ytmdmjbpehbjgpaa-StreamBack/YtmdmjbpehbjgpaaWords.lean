/-
  The contracts of the word functions and of the document's answers: for every word and numbers each call returns what the plain functions of YtmdmjbpehbjgpaaNum say, and leaves the world as it was.
-/
import Derived.Test.YtmdmjbpehbjgpaaRows
import Derived.Test.YtmdmjbpehbjgpaaNum
import Derived.WalkKit
import Derived.WalkSpells
import Derived.WalkLawsBesides
namespace Go.Proofs.Ytmdmjbpehbjgpaa
open Go.RowKit Num

theorem u64_wf (x : Int) (h : (Lit.int .u64 x).wf = true) : 0 ≤ x ∧ x < 18446744073709551616 := by
  simp only [Lit.wf, IntKind.min, IntKind.max, IntKind.signed, IntKind.bits, Bool.and_eq_true] at h
  simp at h
  omega

theorem i64_wf (x : Int) (h : (Lit.int .i64 x).wf = true) : -9223372036854775808 ≤ x ∧ x ≤ 9223372036854775807 := by
  simp only [Lit.wf, IntKind.min, IntKind.max, IntKind.signed, IntKind.bits, Bool.and_eq_true, decide_eq_true_eq] at h
  simp at h
  omega

set_option maxRecDepth 100000 in
theorem len64_c (x : Int) (h0 : 0 ≤ x) (h1 : x < 18446744073709551616) (w : World) :
    Calls Try.prog 49 #[.int .u64 x] w fun e w' => e = .returned (.int .i64 (lenI x)) ∧ w' = w := by
  have hs := Lib.len8tab_size
  go_enter Try.func49, Try.ntmps49
  go_wp2
  all_goals (go_ret; refine ⟨congrArg Ending.returned (congrArg (Value.int IntKind.i64) ?_), rfl⟩)
  · exact len_end x (x / 4294967296 / 65536 / 256) 56 56 rfl (by omega) (by omega) (by omega) _
  · exact len_end x (x / 4294967296 / 65536) 48 48 rfl (by omega) (by omega) (by omega) _
  · exact len_end x (x / 4294967296 / 256) 40 40 rfl (by omega) (by omega) (by omega) _
  · exact len_end x (x / 4294967296) 32 32 rfl (by omega) (by omega) (by omega) _
  · exact len_end x (x / 65536 / 256) 24 24 rfl (by omega) (by omega) (by omega) _
  · exact len_end x (x / 65536) 16 16 rfl (by omega) (by omega) (by omega) _
  · exact len_end x (x / 256) 8 8 rfl (by omega) (by omega) (by omega) _
  · exact len_end0 x _

theorem mask_c (n : Int) (w : World) :
    Calls Try.prog 51 #[.int .i64 n] w fun e w' => e = .returned (.int .u64 (maskI n)) ∧ w' = w := by
  by_cases c : n ≤ 0
  · go_enter Try.func51, Try.ntmps51
    go_wp2
    go_ret
    exact ⟨congrArg Ending.returned (congrArg (Value.int IntKind.u64) (mask_neg n c).symm), rfl⟩
  · have c' : 0 ≤ n := by omega
    go_enter Try.func51, Try.ntmps51
    go_wp2
    go_ret
    exact ⟨congrArg Ending.returned (congrArg (Value.int IntKind.u64) (mask_end n)), rfl⟩

theorem len_c (x : Int) (h0 : 0 ≤ x) (h1 : x < 18446744073709551616) (w : World) :
    Calls Try.prog 36 #[.int .u64 x] w fun e w' => e = .returned (.int .i64 (lenI x)) ∧ w' = w := by
  go_enter Try.func36, Try.ntmps36
  go_wp2_with (go_at_call 49; refine (len64_c _ ?_ ?_ _).mono ?_; exact h0; exact h1; rintro e w' ⟨rfl, rfl⟩)
  go_ret
  exact ⟨rfl, rfl⟩

theorem refmask_c (n : Int) (_h0 : -9223372036854775808 ≤ n) (_h1 : n ≤ 9223372036854775807) (w : World) :
    Calls Try.prog 23 #[.int .i64 n] w fun e w' => e = .returned (.int .u64 (maskI n)) ∧ w' = w := by
  go_enter Try.func23, Try.ntmps23
  go_wp2
  go_loop [3, 4] (fun b i => ∃ p : Nat, p ≤ 64 ∧ i = .int .i64 p ∧ b = .int .u64 (maskI p) ∧ Hid (p = 0 ∨ (p : Int) ≤ n))
    (fun _ i => 64 - (intOf i).toNat)
  case atStart => exact ⟨0, by omega, rfl, rfl, Or.inl rfl⟩
  case round =>
    obtain ⟨p, hp, rfl, rfl, H⟩ := hrel
    go_wp2
    · have hlt : (p : Int) < 64 := by assumption
      have hn : (p : Int) < n := by assumption
      have g := mask_grow p (by omega)
      go_round
      case rel => exact ⟨p + 1, by omega, by go_num, by rw [g], Or.inr (by omega)⟩
      case measure => simp only [intOf]; omega
    · have hn : n ≤ (p : Int) := by assumption
      go_ret
      exact ⟨congrArg Ending.returned (congrArg (Value.int IntKind.u64) (mask_here n p H.out (Or.inl hn) hp)), rfl⟩
    · have hn : (64 : Int) ≤ (p : Int) := by assumption
      go_ret
      exact ⟨congrArg Ending.returned (congrArg (Value.int IntKind.u64) (mask_here n p H.out (Or.inr (by omega)) hp)), rfl⟩

theorem reflen_c (x : Int) (h0 : 0 ≤ x) (h1 : x < 18446744073709551616) (w : World) :
    Calls Try.prog 47 #[.int .u64 x] w fun e w' => e = .returned (.int .i64 (lenI x)) ∧ w' = w := by
  go_enter Try.func47, Try.ntmps47
  go_wp2
  go_loop [3] (fun i => ∃ p : Nat, p ≤ 64 ∧ i = .int .i64 p ∧ Hid (x.toNat < 2 ^ p))
    (fun i => (intOf i).toNat)
  case atStart => exact ⟨64, by omega, rfl, show x.toNat < 2 ^ 64 by omega⟩
  case round =>
    obtain ⟨p, hp, rfl, H⟩ := hrel
    go_wp2
    · have hlt : 0 < p := by assumption
      have ht : ((x / 2 ^ (p - 1)).tmod 2 == 1) = true := by assumption
      rw [bit_tmod x (p - 1) h0] at ht
      simp only [beq_iff_eq] at ht
      have g := H.out
      have l := len_eq x.toNat (p - 1) (by rw [show p - 1 + 1 = p by omega]; exact g) (by omega)
      go_ret
      refine ⟨congrArg Ending.returned (congrArg (Value.int IntKind.i64) ?_), rfl⟩
      unfold lenI
      omega
    · have hlt : 0 < p := by assumption
      have ht : ((x / 2 ^ (p - 1)).tmod 2 == 1) = false := by assumption
      rw [bit_tmod x (p - 1) h0] at ht
      simp only [beq_eq_false_iff_ne, ne_eq] at ht
      have g := H.out
      have l := len_down x.toNat (p - 1) (by rw [show p - 1 + 1 = p by omega]; exact g) (by omega)
      go_round
      case rel => exact ⟨p - 1, by omega, by go_num, l⟩
      case measure => simp only [intOf]; omega
    · have hlt : ¬ 0 < p := by assumption
      have g : x.toNat < 2 ^ p := H.out
      have l := len_le x.toNat p g
      go_ret
      refine ⟨congrArg Ending.returned (congrArg (Value.int IntKind.i64) ?_), rfl⟩
      unfold lenI
      omega
end Go.Proofs.Ytmdmjbpehbjgpaa
