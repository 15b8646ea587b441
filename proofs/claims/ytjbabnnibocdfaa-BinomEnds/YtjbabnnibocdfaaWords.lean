/-
  The contracts of the word functions and of the document's answers: for every word and numbers each call returns what the plain functions of YtjbabnnibocdfaaNum say, and leaves the world as it was.
-/
import Derived.Test.YtjbabnnibocdfaaRows
import Derived.Test.YtjbabnnibocdfaaNum
import Derived.WalkKit
import Derived.WalkSpells
import Derived.WalkLawsBesides
namespace Go.Proofs.Ytjbabnnibocdfaa
open Go.RowKit Num

theorem u64_wf (x : Int) (h : (Lit.int .u64 x).wf = true) : 0 ≤ x ∧ x < 18446744073709551616 := by
  simp only [Lit.wf, IntKind.min, IntKind.max, IntKind.signed, IntKind.bits, Bool.and_eq_true] at h
  simp at h
  omega

theorem i64_wf (x : Int) (h : (Lit.int .i64 x).wf = true) : -9223372036854775808 ≤ x ∧ x ≤ 9223372036854775807 := by
  simp only [Lit.wf, IntKind.min, IntKind.max, IntKind.signed, IntKind.bits, Bool.and_eq_true, decide_eq_true_eq] at h
  simp at h
  omega

set_option maxRecDepth 100000 in
theorem len64_c (x : Int) (h0 : 0 ≤ x) (h1 : x < 18446744073709551616) (w : World) :
    Calls Try.prog 25 #[.int .u64 x] w fun e w' => e = .returned (.int .i64 (lenI x)) ∧ w' = w := by
  have hs := Lib.len8tab_size
  go_enter Try.func25, Try.ntmps25
  go_wp2
  all_goals (go_ret; refine ⟨congrArg Ending.returned (congrArg (Value.int IntKind.i64) ?_), rfl⟩)
  · exact len_end x (x / 4294967296 / 65536 / 256) 56 56 rfl (by omega) (by omega) (by omega) _
  · exact len_end x (x / 4294967296 / 65536) 48 48 rfl (by omega) (by omega) (by omega) _
  · exact len_end x (x / 4294967296 / 256) 40 40 rfl (by omega) (by omega) (by omega) _
  · exact len_end x (x / 4294967296) 32 32 rfl (by omega) (by omega) (by omega) _
  · exact len_end x (x / 65536 / 256) 24 24 rfl (by omega) (by omega) (by omega) _
  · exact len_end x (x / 65536) 16 16 rfl (by omega) (by omega) (by omega) _
  · exact len_end x (x / 256) 8 8 rfl (by omega) (by omega) (by omega) _
  · exact len_end0 x _

theorem len_c (x : Int) (h0 : 0 ≤ x) (h1 : x < 18446744073709551616) (w : World) :
    Calls Try.prog 21 #[.int .u64 x] w fun e w' => e = .returned (.int .i64 (lenI x)) ∧ w' = w := by
  go_enter Try.func21, Try.ntmps21
  go_wp2_with (go_at_call 25; refine (len64_c _ ?_ ?_ _).mono ?_; exact h0; exact h1; rintro e w' ⟨rfl, rfl⟩)
  go_ret
  exact ⟨rfl, rfl⟩

theorem refrank_c (x n : Int) (h0 : 0 ≤ x) (_h1 : x < 18446744073709551616) (_h2 : -9223372036854775808 ≤ n) (_h3 : n ≤ 9223372036854775807) (w : World) :
    Calls Try.prog 24 #[.int .u64 x, .int .i64 n] w fun e w' => e = .returned (.int .i64 (rankI x n)) ∧ w' = w := by
  go_enter Try.func24, Try.ntmps24
  go_wp2
  go_loop [5, 6] (fun b i => ∃ p c : Nat, p ≤ 64 ∧ c ≤ p ∧ i = .int .i64 p ∧ b = .int .i64 c ∧ Hid (c = cnt x.toNat p ∧ (p = 0 ∨ (p : Int) ≤ n)))
    (fun _ i => 64 - (intOf i).toNat)
  case atStart => exact ⟨0, 0, by omega, by omega, rfl, rfl, ⟨rfl, Or.inl rfl⟩⟩
  case round =>
    obtain ⟨p, c, hp, hc, rfl, rfl, H⟩ := hrel
    go_wp2
    · have hlt : (p : Int) < 64 := by assumption
      have hn : (p : Int) < n := by assumption
      have ht : ((x / 2 ^ p).tmod 2 == 1) = true := by assumption
      rw [bit_tmod x p h0] at ht
      simp only [beq_iff_eq] at ht
      obtain ⟨g1, g2⟩ := H.out
      go_round
      case rel =>
        refine ⟨p + 1, c + 1, by omega, by omega, by go_num, by go_num, ?_, Or.inr (by omega)⟩
        simp only [cnt]
        omega
      case measure => simp only [intOf]; omega
    · have hlt : (p : Int) < 64 := by assumption
      have hn : (p : Int) < n := by assumption
      have ht : ((x / 2 ^ p).tmod 2 == 1) = false := by assumption
      rw [bit_tmod x p h0] at ht
      simp only [beq_eq_false_iff_ne, ne_eq] at ht
      obtain ⟨g1, g2⟩ := H.out
      go_round
      case rel =>
        refine ⟨p + 1, c, by omega, by omega, by go_num, rfl, ?_, Or.inr (by omega)⟩
        simp only [cnt]
        omega
      case measure => simp only [intOf]; omega
    · have hn : n ≤ (p : Int) := by assumption
      obtain ⟨g1, g2⟩ := H.out
      go_ret
      refine ⟨congrArg Ending.returned (congrArg (Value.int IntKind.i64) ?_), rfl⟩
      rw [g1]
      exact rank_here x n p g2 (Or.inl hn) hp
    · have hn : (64 : Int) ≤ (p : Int) := by assumption
      obtain ⟨g1, g2⟩ := H.out
      go_ret
      refine ⟨congrArg Ending.returned (congrArg (Value.int IntKind.i64) ?_), rfl⟩
      rw [g1]
      exact rank_here x n p g2 (Or.inr (by omega)) hp

theorem reflen_c (x : Int) (h0 : 0 ≤ x) (h1 : x < 18446744073709551616) (w : World) :
    Calls Try.prog 18 #[.int .u64 x] w fun e w' => e = .returned (.int .i64 (lenI x)) ∧ w' = w := by
  go_enter Try.func18, Try.ntmps18
  go_wp2
  go_loop [3] (fun i => ∃ p : Nat, p ≤ 64 ∧ i = .int .i64 p ∧ Hid (x.toNat < 2 ^ p))
    (fun i => (intOf i).toNat)
  case atStart => exact ⟨64, by omega, rfl, show x.toNat < 2 ^ 64 by omega⟩
  case round =>
    obtain ⟨p, hp, rfl, H⟩ := hrel
    go_wp2
    · have hlt : 0 < p := by assumption
      have ht : ((x / 2 ^ (p - 1)).tmod 2 == 1) = true := by assumption
      rw [bit_tmod x (p - 1) h0] at ht
      simp only [beq_iff_eq] at ht
      have g := H.out
      have l := len_eq x.toNat (p - 1) (by rw [show p - 1 + 1 = p by omega]; exact g) (by omega)
      go_ret
      refine ⟨congrArg Ending.returned (congrArg (Value.int IntKind.i64) ?_), rfl⟩
      unfold lenI
      omega
    · have hlt : 0 < p := by assumption
      have ht : ((x / 2 ^ (p - 1)).tmod 2 == 1) = false := by assumption
      rw [bit_tmod x (p - 1) h0] at ht
      simp only [beq_eq_false_iff_ne, ne_eq] at ht
      have g := H.out
      have l := len_down x.toNat (p - 1) (by rw [show p - 1 + 1 = p by omega]; exact g) (by omega)
      go_round
      case rel => exact ⟨p - 1, by omega, by go_num, l⟩
      case measure => simp only [intOf]; omega
    · have hlt : ¬ 0 < p := by assumption
      have g : x.toNat < 2 ^ p := H.out
      have l := len_le x.toNat p g
      go_ret
      refine ⟨congrArg Ending.returned (congrArg (Value.int IntKind.i64) ?_), rfl⟩
      unfold lenI
      omega
end Go.Proofs.Ytjbabnnibocdfaa
