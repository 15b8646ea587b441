/-
  The contracts of the word functions and of the document's answers: for every word and numbers each call returns what the plain functions of YtcgnphffjfffgaaNum say, and leaves the world as it was.
-/
import Derived.Test.YtcgnphffjfffgaaRows
import Derived.Test.YtcgnphffjfffgaaNum
import Derived.WalkKit
import Derived.WalkSpells
import Derived.WalkLawsBesides
namespace Go.Proofs.Ytcgnphffjfffgaa
open Go.RowKit Num

theorem u64_wf (x : Int) (h : (Lit.int .u64 x).wf = true) : 0 ≤ x ∧ x < 18446744073709551616 := by
  simp only [Lit.wf, IntKind.min, IntKind.max, IntKind.signed, IntKind.bits, Bool.and_eq_true] at h
  simp at h
  omega

theorem i64_wf (x : Int) (h : (Lit.int .i64 x).wf = true) : -9223372036854775808 ≤ x ∧ x ≤ 9223372036854775807 := by
  simp only [Lit.wf, IntKind.min, IntKind.max, IntKind.signed, IntKind.bits, Bool.and_eq_true, decide_eq_true_eq] at h
  simp at h
  omega

theorem ones_c (x : Int) (h0 : 0 ≤ x) (h1 : x < 18446744073709551616) (w : World) :
    Calls Try.prog 50 #[.int .u64 x] w fun e w' => e = .returned (.int .i64 (popI x)) ∧ w' = w := by
  obtain ⟨n, rfl⟩ := Int.eq_ofNat_of_zero_le h0
  go_enter Try.func50, Try.ntmps50
  go_wp2
  go_ret
  refine ⟨congrArg Ending.returned (congrArg (Value.int IntKind.i64) ?_), rfl⟩
  unfold popI
  rw [Int.toNat_natCast]
  exact pop_end n (by omega) _ _ _ _ _ _ rfl rfl rfl rfl rfl rfl

theorem mask_c (n : Int) (w : World) :
    Calls Try.prog 51 #[.int .i64 n] w fun e w' => e = .returned (.int .u64 (maskI n)) ∧ w' = w := by
  by_cases c : n ≤ 0
  · go_enter Try.func51, Try.ntmps51
    go_wp2
    go_ret
    exact ⟨congrArg Ending.returned (congrArg (Value.int IntKind.u64) (mask_neg n c).symm), rfl⟩
  · have c' : 0 ≤ n := by omega
    go_enter Try.func51, Try.ntmps51
    go_wp2
    go_ret
    exact ⟨congrArg Ending.returned (congrArg (Value.int IntKind.u64) (mask_end n)), rfl⟩

theorem pop_c (x : Int) (h0 : 0 ≤ x) (h1 : x < 18446744073709551616) (w : World) :
    Calls Try.prog 44 #[.int .u64 x] w fun e w' => e = .returned (.int .i64 (popI x)) ∧ w' = w := by
  go_enter Try.func44, Try.ntmps44
  go_wp2_with (go_at_call 50; refine (ones_c _ ?_ ?_ _).mono ?_; exact h0; exact h1; rintro e w' ⟨rfl, rfl⟩)
  go_ret
  exact ⟨rfl, rfl⟩

theorem rank_c (x n : Int) (h0 : 0 ≤ x) (h1 : x < 18446744073709551616) (w : World) :
    Calls Try.prog 45 #[.int .u64 x, .int .i64 n] w fun e w' => e = .returned (.int .i64 (rankI x n)) ∧ w' = w := by
  have hb := and_mask_bounds x n h0 h1
  go_enter Try.func45, Try.ntmps45
  go_wp2_with (first | (go_at_call 51; refine (mask_c _ _).mono ?_; rintro e w' ⟨rfl, rfl⟩) | (go_at_call 44; refine (pop_c _ ?_ ?_ _).mono ?_; exact hb.1; exact hb.2; rintro e w' ⟨rfl, rfl⟩))
  go_ret
  exact ⟨congrArg Ending.returned (congrArg (Value.int IntKind.i64) (pop_mask x n h0 h1)), rfl⟩

theorem select_c (x k : Int) (h0 : 0 ≤ x) (h1 : x < 18446744073709551616) (w : World) :
    Calls Try.prog 49 #[.int .u64 x, .int .i64 k] w fun e w' => e = .returned (.int .i64 (selI x k)) ∧ w' = w := by
  go_enter Try.func49, Try.ntmps49
  go_wp2
  go_loop [5, 7] (fun b i => ∃ p c : Nat, p ≤ 64 ∧ c ≤ p ∧ i = .int .i64 p ∧ b = .int .i64 c ∧ Hid (c = cnt x.toNat p ∧ selGo x.toNat k (64 - p) = selGo x.toNat k 64))
    (fun _ i => 64 - (intOf i).toNat)
  case atStart => exact ⟨0, 0, by omega, by omega, rfl, rfl, ⟨rfl, rfl⟩⟩
  case round =>
    obtain ⟨p, c, hp, hc, rfl, rfl, H⟩ := hrel
    go_wp2
    · have hlt : (p : Int) < 64 := by assumption
      have ht : (bits BinOp.and IntKind.u64 (x / 2 ^ p) 1 == 0) = true := by assumption
      rw [bit_and x p h0 h1] at ht
      simp only [beq_iff_eq] at ht
      obtain ⟨g1, g2⟩ := H.out
      have on := selGo_on x.toNat k p (by omega) (by omega)
      go_round
      case rel =>
        refine ⟨p + 1, c, by omega, by omega, by go_num, rfl, ?_, ?_⟩
        · simp only [cnt]; omega
        · rw [← on]; exact g2
      case measure => simp only [intOf]; omega
    · have hlt : (p : Int) < 64 := by assumption
      have ht : (bits BinOp.and IntKind.u64 (x / 2 ^ p) 1 == 0) = false := by assumption
      have hk : ((c : Int) == k) = true := by assumption
      rw [bit_and x p h0 h1] at ht
      simp only [beq_eq_false_iff_ne, ne_eq, beq_iff_eq] at ht hk
      obtain ⟨g1, g2⟩ := H.out
      have here := selGo_here x.toNat k p (by omega) (by omega) (by omega)
      go_ret
      refine ⟨congrArg Ending.returned (congrArg (Value.int IntKind.i64) ?_), rfl⟩
      unfold selI
      rw [← g2, here]
    · have hlt : (p : Int) < 64 := by assumption
      have ht : (bits BinOp.and IntKind.u64 (x / 2 ^ p) 1 == 0) = false := by assumption
      have hk : ((c : Int) == k) = false := by assumption
      rw [bit_and x p h0 h1] at ht
      simp only [beq_eq_false_iff_ne, ne_eq] at ht hk
      obtain ⟨g1, g2⟩ := H.out
      have on := selGo_on x.toNat k p (by omega) (by omega)
      go_round
      case rel =>
        refine ⟨p + 1, c + 1, by omega, by omega, by go_num, by go_num, ?_, ?_⟩
        · simp only [cnt]; omega
        · rw [← on]; exact g2
      case measure => simp only [intOf]; omega
    · have hge : (64 : Int) ≤ (p : Int) := by assumption
      obtain ⟨g1, g2⟩ := H.out
      go_ret
      refine ⟨?_, rfl⟩
      unfold selI
      rw [← g2, show 64 - p = 0 by omega]
      rfl
theorem refmask_c (n : Int) (_h0 : -9223372036854775808 ≤ n) (_h1 : n ≤ 9223372036854775807) (w : World) :
    Calls Try.prog 27 #[.int .i64 n] w fun e w' => e = .returned (.int .u64 (maskI n)) ∧ w' = w := by
  go_enter Try.func27, Try.ntmps27
  go_wp2
  go_loop [3, 4] (fun b i => ∃ p : Nat, p ≤ 64 ∧ i = .int .i64 p ∧ b = .int .u64 (maskI p) ∧ Hid (p = 0 ∨ (p : Int) ≤ n))
    (fun _ i => 64 - (intOf i).toNat)
  case atStart => exact ⟨0, by omega, rfl, rfl, Or.inl rfl⟩
  case round =>
    obtain ⟨p, hp, rfl, rfl, H⟩ := hrel
    go_wp2
    · have hlt : (p : Int) < 64 := by assumption
      have hn : (p : Int) < n := by assumption
      have g := mask_grow p (by omega)
      go_round
      case rel => exact ⟨p + 1, by omega, by go_num, by rw [g], Or.inr (by omega)⟩
      case measure => simp only [intOf]; omega
    · have hn : n ≤ (p : Int) := by assumption
      go_ret
      exact ⟨congrArg Ending.returned (congrArg (Value.int IntKind.u64) (mask_here n p H.out (Or.inl hn) hp)), rfl⟩
    · have hn : (64 : Int) ≤ (p : Int) := by assumption
      go_ret
      exact ⟨congrArg Ending.returned (congrArg (Value.int IntKind.u64) (mask_here n p H.out (Or.inr (by omega)) hp)), rfl⟩

end Go.Proofs.Ytcgnphffjfffgaa
