/-
  The contracts of the word functions and of the document's answers: for every word and numbers each call returns what the plain functions of YtlfklkamhdfefaaNum say, and leaves the world as it was.
-/
import Derived.Test.YtlfklkamhdfefaaRows
import Derived.Test.YtlfklkamhdfefaaNum
import Derived.WalkKit
import Derived.WalkSpells
import Derived.WalkLawsBesides
namespace Go.Proofs.Ytlfklkamhdfefaa
open Go.RowKit Num

theorem u64_wf (x : Int) (h : (Lit.int .u64 x).wf = true) : 0 ≤ x ∧ x < 18446744073709551616 := by
  simp only [Lit.wf, IntKind.min, IntKind.max, IntKind.signed, IntKind.bits, Bool.and_eq_true] at h
  simp at h
  omega

theorem i64_wf (x : Int) (h : (Lit.int .i64 x).wf = true) : -9223372036854775808 ≤ x ∧ x ≤ 9223372036854775807 := by
  simp only [Lit.wf, IntKind.min, IntKind.max, IntKind.signed, IntKind.bits, Bool.and_eq_true, decide_eq_true_eq] at h
  simp at h
  omega

theorem ones_c (x : Int) (h0 : 0 ≤ x) (h1 : x < 18446744073709551616) (w : World) :
    Calls Try.prog 20 #[.int .u64 x] w fun e w' => e = .returned (.int .i64 (popI x)) ∧ w' = w := by
  obtain ⟨n, rfl⟩ := Int.eq_ofNat_of_zero_le h0
  go_enter Try.func20, Try.ntmps20
  go_wp2
  go_ret
  refine ⟨congrArg Ending.returned (congrArg (Value.int IntKind.i64) ?_), rfl⟩
  unfold popI
  rw [Int.toNat_natCast]
  exact pop_end n (by omega) _ _ _ _ _ _ rfl rfl rfl rfl rfl rfl

set_option maxRecDepth 100000 in
theorem len64_c (x : Int) (h0 : 0 ≤ x) (h1 : x < 18446744073709551616) (w : World) :
    Calls Try.prog 21 #[.int .u64 x] w fun e w' => e = .returned (.int .i64 (lenI x)) ∧ w' = w := by
  have hs := Lib.len8tab_size
  go_enter Try.func21, Try.ntmps21
  go_wp2
  all_goals (go_ret; refine ⟨congrArg Ending.returned (congrArg (Value.int IntKind.i64) ?_), rfl⟩)
  · exact len_end x (x / 4294967296 / 65536 / 256) 56 56 rfl (by omega) (by omega) (by omega) _
  · exact len_end x (x / 4294967296 / 65536) 48 48 rfl (by omega) (by omega) (by omega) _
  · exact len_end x (x / 4294967296 / 256) 40 40 rfl (by omega) (by omega) (by omega) _
  · exact len_end x (x / 4294967296) 32 32 rfl (by omega) (by omega) (by omega) _
  · exact len_end x (x / 65536 / 256) 24 24 rfl (by omega) (by omega) (by omega) _
  · exact len_end x (x / 65536) 16 16 rfl (by omega) (by omega) (by omega) _
  · exact len_end x (x / 256) 8 8 rfl (by omega) (by omega) (by omega) _
  · exact len_end0 x _

theorem mask_c (n : Int) (w : World) :
    Calls Try.prog 12 #[.int .i64 n] w fun e w' => e = .returned (.int .u64 (maskI n)) ∧ w' = w := by
  by_cases c : n ≤ 0
  · go_enter Try.func12, Try.ntmps12
    go_wp2
    go_ret
    exact ⟨congrArg Ending.returned (congrArg (Value.int IntKind.u64) (mask_neg n c).symm), rfl⟩
  · have c' : 0 ≤ n := by omega
    go_enter Try.func12, Try.ntmps12
    go_wp2
    go_ret
    exact ⟨congrArg Ending.returned (congrArg (Value.int IntKind.u64) (mask_end n)), rfl⟩

theorem pop_c (x : Int) (h0 : 0 ≤ x) (h1 : x < 18446744073709551616) (w : World) :
    Calls Try.prog 13 #[.int .u64 x] w fun e w' => e = .returned (.int .i64 (popI x)) ∧ w' = w := by
  go_enter Try.func13, Try.ntmps13
  go_wp2_with (go_at_call 20; refine (ones_c _ ?_ ?_ _).mono ?_; exact h0; exact h1; rintro e w' ⟨rfl, rfl⟩)
  go_ret
  exact ⟨rfl, rfl⟩

theorem len_c (x : Int) (h0 : 0 ≤ x) (h1 : x < 18446744073709551616) (w : World) :
    Calls Try.prog 14 #[.int .u64 x] w fun e w' => e = .returned (.int .i64 (lenI x)) ∧ w' = w := by
  go_enter Try.func14, Try.ntmps14
  go_wp2_with (go_at_call 21; refine (len64_c _ ?_ ?_ _).mono ?_; exact h0; exact h1; rintro e w' ⟨rfl, rfl⟩)
  go_ret
  exact ⟨rfl, rfl⟩

theorem rank_c (x n : Int) (h0 : 0 ≤ x) (h1 : x < 18446744073709551616) (w : World) :
    Calls Try.prog 11 #[.int .u64 x, .int .i64 n] w fun e w' => e = .returned (.int .i64 (rankI x n)) ∧ w' = w := by
  have hb := and_mask_bounds x n h0 h1
  go_enter Try.func11, Try.ntmps11
  go_wp2_with (first | (go_at_call 12; refine (mask_c _ _).mono ?_; rintro e w' ⟨rfl, rfl⟩) | (go_at_call 13; refine (pop_c _ ?_ ?_ _).mono ?_; exact hb.1; exact hb.2; rintro e w' ⟨rfl, rfl⟩))
  go_ret
  exact ⟨congrArg Ending.returned (congrArg (Value.int IntKind.i64) (pop_mask x n h0 h1)), rfl⟩

theorem select_c (x k : Int) (h0 : 0 ≤ x) (h1 : x < 18446744073709551616) (w : World) :
    Calls Try.prog 10 #[.int .u64 x, .int .i64 k] w fun e w' => e = .returned (.int .i64 (selI x k)) ∧ w' = w := by
  go_enter Try.func10, Try.ntmps10
  go_wp2
  go_loop [5, 7] (fun b i => ∃ p c : Nat, p ≤ 64 ∧ c ≤ p ∧ i = .int .i64 p ∧ b = .int .i64 c ∧ Hid (c = cnt x.toNat p ∧ selGo x.toNat k (64 - p) = selGo x.toNat k 64))
    (fun _ i => 64 - (intOf i).toNat)
  case atStart => exact ⟨0, 0, by omega, by omega, rfl, rfl, ⟨rfl, rfl⟩⟩
  case round =>
    obtain ⟨p, c, hp, hc, rfl, rfl, H⟩ := hrel
    go_wp2
    · have hlt : (p : Int) < 64 := by assumption
      have ht : (bits BinOp.and IntKind.u64 (x / 2 ^ p) 1 == 0) = true := by assumption
      rw [bit_and x p h0 h1] at ht
      simp only [beq_iff_eq] at ht
      obtain ⟨g1, g2⟩ := H.out
      have on := selGo_on x.toNat k p (by omega) (by omega)
      go_round
      case rel =>
        refine ⟨p + 1, c, by omega, by omega, by go_num, rfl, ?_, ?_⟩
        · simp only [cnt]; omega
        · rw [← on]; exact g2
      case measure => simp only [intOf]; omega
    · have hlt : (p : Int) < 64 := by assumption
      have ht : (bits BinOp.and IntKind.u64 (x / 2 ^ p) 1 == 0) = false := by assumption
      have hk : ((c : Int) == k) = true := by assumption
      rw [bit_and x p h0 h1] at ht
      simp only [beq_eq_false_iff_ne, ne_eq, beq_iff_eq] at ht hk
      obtain ⟨g1, g2⟩ := H.out
      have here := selGo_here x.toNat k p (by omega) (by omega) (by omega)
      go_ret
      refine ⟨congrArg Ending.returned (congrArg (Value.int IntKind.i64) ?_), rfl⟩
      unfold selI
      rw [← g2, here]
    · have hlt : (p : Int) < 64 := by assumption
      have ht : (bits BinOp.and IntKind.u64 (x / 2 ^ p) 1 == 0) = false := by assumption
      have hk : ((c : Int) == k) = false := by assumption
      rw [bit_and x p h0 h1] at ht
      simp only [beq_eq_false_iff_ne, ne_eq] at ht hk
      obtain ⟨g1, g2⟩ := H.out
      have on := selGo_on x.toNat k p (by omega) (by omega)
      go_round
      case rel =>
        refine ⟨p + 1, c + 1, by omega, by omega, by go_num, by go_num, ?_, ?_⟩
        · simp only [cnt]; omega
        · rw [← on]; exact g2
      case measure => simp only [intOf]; omega
    · have hge : (64 : Int) ≤ (p : Int) := by assumption
      obtain ⟨g1, g2⟩ := H.out
      go_ret
      refine ⟨?_, rfl⟩
      unfold selI
      rw [← g2, show 64 - p = 0 by omega]
      rfl
theorem refmask_c (n : Int) (_h0 : -9223372036854775808 ≤ n) (_h1 : n ≤ 9223372036854775807) (w : World) :
    Calls Try.prog 15 #[.int .i64 n] w fun e w' => e = .returned (.int .u64 (maskI n)) ∧ w' = w := by
  go_enter Try.func15, Try.ntmps15
  go_wp2
  go_loop [3, 4] (fun b i => ∃ p : Nat, p ≤ 64 ∧ i = .int .i64 p ∧ b = .int .u64 (maskI p) ∧ Hid (p = 0 ∨ (p : Int) ≤ n))
    (fun _ i => 64 - (intOf i).toNat)
  case atStart => exact ⟨0, by omega, rfl, rfl, Or.inl rfl⟩
  case round =>
    obtain ⟨p, hp, rfl, rfl, H⟩ := hrel
    go_wp2
    · have hlt : (p : Int) < 64 := by assumption
      have hn : (p : Int) < n := by assumption
      have g := mask_grow p (by omega)
      go_round
      case rel => exact ⟨p + 1, by omega, by go_num, by rw [g], Or.inr (by omega)⟩
      case measure => simp only [intOf]; omega
    · have hn : n ≤ (p : Int) := by assumption
      go_ret
      exact ⟨congrArg Ending.returned (congrArg (Value.int IntKind.u64) (mask_here n p H.out (Or.inl hn) hp)), rfl⟩
    · have hn : (64 : Int) ≤ (p : Int) := by assumption
      go_ret
      exact ⟨congrArg Ending.returned (congrArg (Value.int IntKind.u64) (mask_here n p H.out (Or.inr (by omega)) hp)), rfl⟩

theorem refrank_c (x n : Int) (h0 : 0 ≤ x) (_h1 : x < 18446744073709551616) (_h2 : -9223372036854775808 ≤ n) (_h3 : n ≤ 9223372036854775807) (w : World) :
    Calls Try.prog 17 #[.int .u64 x, .int .i64 n] w fun e w' => e = .returned (.int .i64 (rankI x n)) ∧ w' = w := by
  go_enter Try.func17, Try.ntmps17
  go_wp2
  go_loop [5, 6] (fun b i => ∃ p c : Nat, p ≤ 64 ∧ c ≤ p ∧ i = .int .i64 p ∧ b = .int .i64 c ∧ Hid (c = cnt x.toNat p ∧ (p = 0 ∨ (p : Int) ≤ n)))
    (fun _ i => 64 - (intOf i).toNat)
  case atStart => exact ⟨0, 0, by omega, by omega, rfl, rfl, ⟨rfl, Or.inl rfl⟩⟩
  case round =>
    obtain ⟨p, c, hp, hc, rfl, rfl, H⟩ := hrel
    go_wp2
    · have hlt : (p : Int) < 64 := by assumption
      have hn : (p : Int) < n := by assumption
      have ht : ((x / 2 ^ p).tmod 2 == 1) = true := by assumption
      rw [bit_tmod x p h0] at ht
      simp only [beq_iff_eq] at ht
      obtain ⟨g1, g2⟩ := H.out
      go_round
      case rel =>
        refine ⟨p + 1, c + 1, by omega, by omega, by go_num, by go_num, ?_, Or.inr (by omega)⟩
        simp only [cnt]
        omega
      case measure => simp only [intOf]; omega
    · have hlt : (p : Int) < 64 := by assumption
      have hn : (p : Int) < n := by assumption
      have ht : ((x / 2 ^ p).tmod 2 == 1) = false := by assumption
      rw [bit_tmod x p h0] at ht
      simp only [beq_eq_false_iff_ne, ne_eq] at ht
      obtain ⟨g1, g2⟩ := H.out
      go_round
      case rel =>
        refine ⟨p + 1, c, by omega, by omega, by go_num, rfl, ?_, Or.inr (by omega)⟩
        simp only [cnt]
        omega
      case measure => simp only [intOf]; omega
    · have hn : n ≤ (p : Int) := by assumption
      obtain ⟨g1, g2⟩ := H.out
      go_ret
      refine ⟨congrArg Ending.returned (congrArg (Value.int IntKind.i64) ?_), rfl⟩
      rw [g1]
      exact rank_here x n p g2 (Or.inl hn) hp
    · have hn : (64 : Int) ≤ (p : Int) := by assumption
      obtain ⟨g1, g2⟩ := H.out
      go_ret
      refine ⟨congrArg Ending.returned (congrArg (Value.int IntKind.i64) ?_), rfl⟩
      rw [g1]
      exact rank_here x n p g2 (Or.inr (by omega)) hp

theorem refsel_c (x k : Int) (h0 : 0 ≤ x) (_h1 : x < 18446744073709551616) (w : World) :
    Calls Try.prog 18 #[.int .u64 x, .int .i64 k] w fun e w' => e = .returned (.int .i64 (selI x k)) ∧ w' = w := by
  go_enter Try.func18, Try.ntmps18
  go_wp2
  go_loop [5, 6] (fun b i => ∃ p c : Nat, p ≤ 64 ∧ c ≤ p ∧ i = .int .i64 p ∧ b = .int .i64 c ∧ Hid (c = cnt x.toNat p ∧ selGo x.toNat k (64 - p) = selGo x.toNat k 64))
    (fun _ i => 64 - (intOf i).toNat)
  case atStart => exact ⟨0, 0, by omega, by omega, rfl, rfl, ⟨rfl, rfl⟩⟩
  case round =>
    obtain ⟨p, c, hp, hc, rfl, rfl, H⟩ := hrel
    go_wp2
    · have hlt : (p : Int) < 64 := by assumption
      have ht : ((x / 2 ^ p).tmod 2 == 1) = true := by assumption
      have hk : ((c : Int) == k) = true := by assumption
      rw [bit_tmod x p h0] at ht
      simp only [beq_iff_eq] at ht hk
      obtain ⟨g1, g2⟩ := H.out
      have here := selGo_here x.toNat k p (by omega) (by omega) (by omega)
      go_ret
      refine ⟨congrArg Ending.returned (congrArg (Value.int IntKind.i64) ?_), rfl⟩
      unfold selI
      rw [← g2, here]
    · have hlt : (p : Int) < 64 := by assumption
      have ht : ((x / 2 ^ p).tmod 2 == 1) = true := by assumption
      have hk : ((c : Int) == k) = false := by assumption
      rw [bit_tmod x p h0] at ht
      simp only [beq_eq_false_iff_ne, ne_eq, beq_iff_eq] at ht hk
      obtain ⟨g1, g2⟩ := H.out
      have on := selGo_on x.toNat k p (by omega) (by omega)
      go_round
      case rel =>
        refine ⟨p + 1, c + 1, by omega, by omega, by go_num, by go_num, ?_, ?_⟩
        · simp only [cnt]; omega
        · rw [← on]; exact g2
      case measure => simp only [intOf]; omega
    · have hlt : (p : Int) < 64 := by assumption
      have ht : ((x / 2 ^ p).tmod 2 == 1) = false := by assumption
      rw [bit_tmod x p h0] at ht
      simp only [beq_eq_false_iff_ne, ne_eq] at ht
      obtain ⟨g1, g2⟩ := H.out
      have on := selGo_on x.toNat k p (by omega) (by omega)
      go_round
      case rel =>
        refine ⟨p + 1, c, by omega, by omega, by go_num, rfl, ?_, ?_⟩
        · simp only [cnt]; omega
        · rw [← on]; exact g2
      case measure => simp only [intOf]; omega
    · have hge : (64 : Int) ≤ (p : Int) := by assumption
      obtain ⟨g1, g2⟩ := H.out
      go_ret
      refine ⟨?_, rfl⟩
      unfold selI
      rw [← g2, show 64 - p = 0 by omega]
      rfl

theorem reflen_c (x : Int) (h0 : 0 ≤ x) (h1 : x < 18446744073709551616) (w : World) :
    Calls Try.prog 19 #[.int .u64 x] w fun e w' => e = .returned (.int .i64 (lenI x)) ∧ w' = w := by
  go_enter Try.func19, Try.ntmps19
  go_wp2
  go_loop [3] (fun i => ∃ p : Nat, p ≤ 64 ∧ i = .int .i64 p ∧ Hid (x.toNat < 2 ^ p))
    (fun i => (intOf i).toNat)
  case atStart => exact ⟨64, by omega, rfl, show x.toNat < 2 ^ 64 by omega⟩
  case round =>
    obtain ⟨p, hp, rfl, H⟩ := hrel
    go_wp2
    · have hlt : 0 < p := by assumption
      have ht : ((x / 2 ^ (p - 1)).tmod 2 == 1) = true := by assumption
      rw [bit_tmod x (p - 1) h0] at ht
      simp only [beq_iff_eq] at ht
      have g := H.out
      have l := len_eq x.toNat (p - 1) (by rw [show p - 1 + 1 = p by omega]; exact g) (by omega)
      go_ret
      refine ⟨congrArg Ending.returned (congrArg (Value.int IntKind.i64) ?_), rfl⟩
      unfold lenI
      omega
    · have hlt : 0 < p := by assumption
      have ht : ((x / 2 ^ (p - 1)).tmod 2 == 1) = false := by assumption
      rw [bit_tmod x (p - 1) h0] at ht
      simp only [beq_eq_false_iff_ne, ne_eq] at ht
      have g := H.out
      have l := len_down x.toNat (p - 1) (by rw [show p - 1 + 1 = p by omega]; exact g) (by omega)
      go_round
      case rel => exact ⟨p - 1, by omega, by go_num, l⟩
      case measure => simp only [intOf]; omega
    · have hlt : ¬ 0 < p := by assumption
      have g : x.toNat < 2 ^ p := H.out
      have l := len_le x.toNat p g
      go_ret
      refine ⟨congrArg Ending.returned (congrArg (Value.int IntKind.i64) ?_), rfl⟩
      unfold lenI
      omega
theorem refpop_c (x : Int) (h0 : 0 ≤ x) (h1 : x < 18446744073709551616) (w : World) :
    Calls Try.prog 16 #[.int .u64 x] w fun e w' => e = .returned (.int .i64 (popI x)) ∧ w' = w := by
  go_enter Try.func16, Try.ntmps16
  go_wp2_with (go_at_call 17; refine (refrank_c _ _ ?_ ?_ ?_ ?_ _).mono ?_; exact h0; exact h1; decide; decide; rintro e w' ⟨rfl, rfl⟩)
  go_ret
  exact ⟨rfl, rfl⟩

theorem heads_c (w : World) :
    Calls Try.prog 9 #[] w fun e w' => e = .returned (.bool true) ∧ w' = w := by
  have e1 : (maskI 3 == 7) = true := by decide +kernel
  have e2 : (maskI 64 == 18446744073709551615) = true := by decide +kernel
  have e3 : (popI 8070450532247928832 == 3) = true := by decide +kernel
  have e4 : (rankI 22 3 == 2) = true := by decide +kernel
  have e5 : (selI 22 2 == 4) = true := by decide +kernel
  have e6 : (selI 1 1 == 64) = true := by decide +kernel
  have e7 : (lenI 8 == 4) = true := by decide +kernel
  have e8 : (lenI 0 == 0) = true := by decide +kernel
  go_enter Try.func9, Try.ntmps9
  go_wp2_with (first | (go_at_call 12; refine (mask_c _ _).mono ?_; rintro e w' ⟨rfl, rfl⟩) | (go_at_call 13; refine (pop_c _ ?_ ?_ _).mono ?_; decide; decide; rintro e w' ⟨rfl, rfl⟩) | (go_at_call 11; refine (rank_c _ _ ?_ ?_ _).mono ?_; decide; decide; rintro e w' ⟨rfl, rfl⟩) | (go_at_call 10; refine (select_c _ _ ?_ ?_ _).mono ?_; decide; decide; rintro e w' ⟨rfl, rfl⟩) | (go_at_call 14; refine (len_c _ ?_ ?_ _).mono ?_; decide; decide; rintro e w' ⟨rfl, rfl⟩))
  go_ret
  exact ⟨rfl, rfl⟩

end Go.Proofs.Ytlfklkamhdfefaa
