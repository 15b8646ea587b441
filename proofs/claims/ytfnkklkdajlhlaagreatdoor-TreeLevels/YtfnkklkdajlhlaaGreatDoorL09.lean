/-
  The contract of Ones. The contract of the program's fits. The contract of the program's Check, where it fits. The contracts of the program's Check, Bits, Size, Access, Rank and Select, over rows by places as values.
-/
import Derived.Test.YtfnkklkdajlhlaaGreatDoorL00
import Derived.Test.YtfnkklkdajlhlaaGreatDoorL07
import Derived.Test.YtfnkklkdajlhlaaGreatDoorL02
import Derived.Test.YtfnkklkdajlhlaaGreatDoorL08
set_option linter.unusedVariables false
set_option linter.unusedSimpArgs false
set_option maxRecDepth 100000
set_option maxHeartbeats 16000000
namespace Go.Proofs.YtfnkklkdajlhlaaGreatDoor
open Go.RowKit Num Bit
theorem bones_lo (N : Int) (ao : Option Addr) (xs : List Nat) (cap : Nat) (n : Int) (w : World) (hx : Wd w ao xs) (hg : Fit xs) (hcap : xs.length ≤ cap) (hnN : n ≤ N) :
  Calls Tryz.prog 101 #[.agg #[.int .i64 N, .slice ao xs.length cap], .int .i64 n] w fun e w' => e = .returned (.int .i64 (onesI N xs n)) ∧ Below w.heap.size w w' := by
 have K : ∀ o, Wd (w.alloc o) ao xs := fun o => hx.keep (below_alloc w o)
 have hM : min n N = n := by omega
 cases hk : chk N xs with
 | false =>
  have R : Hid (0 = onesI N xs n) := by unfold onesI Hid; rw [hk]; rfl
  clear hM
  go_enter Tryz.func101, Tryz.ntmps101
  go_wp2_with (go_at_call 92; refine (check_c _ _ _ _ _ (K _)).mono ?_; rintro e w' ⟨rfl, hb⟩; obtain ⟨c0, c1, hz, hw⟩ := box_cells hb; clear hb)
  go_ret
  exact ⟨ret_int R.out, by assumption⟩
 | true =>
  obtain ⟨hc0, hc1, hc2, _⟩ := chk_out N xs hk
  by_cases hm : n ≤ 0
  ·have R : Hid (0 = onesI N xs n) := by unfold onesI Hid; rw [hk, hM, show (n).toNat = 0 by omega]; rfl
   clear hM
   go_enter Tryz.func101, Tryz.ntmps101
   go_wp2_with (go_at_call 92; refine (check_c _ _ _ _ _ (K _)).mono ?_; rintro e w' ⟨rfl, hb⟩; obtain ⟨c0, c1, hz, hw⟩ := box_cells hb; clear hb)
   go_ret
   exact ⟨ret_int R.out, by assumption⟩
  ·obtain ⟨m, rfl⟩ := Int.eq_ofNat_of_zero_le (show 0 ≤ n by omega)
   obtain ⟨b, off, rfl, hb, hc⟩ := hx (by omega)
   have R : Hid (((cntB xs m : Nat) : Int) = onesI N xs (m : Int)) := by unfold onesI Hid; rw [hk, hM]; rfl
   have HC : Hid (∀ i, i < xs.length → w.cell? ⟨b, off + i, none⟩ = some (.int .u64 (gt xs i))) := hc
   have hl1 : m / 64 ≤ xs.length := by omega
   have hm0 : decide (m = 0) = false := by simp; omega
   have hm1 : (m == 0) = false := by simp; omega
   have hl2 : m / 64 ≤ cap := by omega
   have hl3 : m ≤ 1048576 := by omega
   have HL : Hid (m % 64 = 0 ∨ m / 64 < xs.length) := by unfold Hid; omega
   have hl5 : (m : Int) / 64 ≤ (cap : Int) := by omega
   clear hM hc hc2
   go_enter Tryz.func101, Tryz.ntmps101
   go_wp2_with (go_at_call 92; refine (check_c _ _ _ _ _ (K _)).mono ?_; rintro e w' ⟨rfl, hb⟩; obtain ⟨c0, c1, hz, hw⟩ := box_cells hb; clear hb)
   go_loop [5, 26] (fun c i => ∃ k t : Nat, k ≤ m / 64 ∧ t ≤ 64 * k ∧ i = .int .i64 k ∧ c = .int .i64 t ∧ Hid (t = cntB xs (64 * k))) (fun _ i => m / 64 - (intOf i).toNat)
   case atStart => exact ⟨0, 0, by omega, by omega, rfl, rfl, rfl⟩
   case round =>
    obtain ⟨k, t, hk1, ht, rfl, rfl, H⟩ := hrel
    by_cases hlt : k < m / 64
    ·have hck := (hw.cell (p := ⟨b, off + k, none⟩) (by assumption)).trans (HC.out k (by omega))
     have hf := hg k
     have hp := pop_bounds (gt xs k)
     go_wp2_with (go_at_call 153; refine (pop_c _ ?_ ?_ _).mono ?_; exact Int.natCast_nonneg _; exact Int.ofNat_lt.2 hf; rintro e w' ⟨rfl, rfl⟩)
     go_round
     case rel =>
      refine ⟨k + 1, t + cnt (gt xs k) 64, by omega, ?_, by go_num, ?_, ?_⟩
      ·have := cnt_le (gt xs k) 64
       omega
      ·unfold popI; rw [Int.toNat_natCast]; go_num
      ·have e := cntB_word xs k 64 (by omega)
       rw [show 64 * (k + 1) = 64 * k + 64 by omega, e, ← H.out]
       rfl
     case measure => simp only [intOf]; omega
    ·have hkm : k = m / 64 := by omega
     have HT : Hid (t = cntB xs (64 * (m / 64))) := by rw [← hkm]; exact H.out
     clear H
     by_cases hz0 : m % 64 = 0
     ·have R2 : Hid ((t : Int) = onesI N xs (m : Int)) := by
       unfold Hid
       rw [← R.out, HT.out, show 64 * (m / 64) = m by omega]
      have hz1 : ¬ 0 < (m : Int) % 64 := by omega
      clear hkm
      go_wp2
      go_ret
      exact ⟨ret_int R2.out, by assumption⟩
     ·have hz1 : 0 < (m : Int) % 64 := by omega
      have hl6 : m / 64 < xs.length := by have := HL.out; omega
      have hl7 : (m : Int) / 64 < (xs.length : Int) := by omega
      have hck := (hw.cell (p := ⟨b, off + m / 64, none⟩) (by assumption)).trans (HC.out (m / 64) hl6)
      have hf := hg (m / 64)
      have hp := rank_bounds (gt xs (m / 64)) ((m : Int) % 64)
      have R2 : Hid ((t : Int) + rankI (gt xs (m / 64)) ((m : Int) % 64) = onesI N xs (m : Int)) := by
       unfold Hid
       rw [← R.out, HT.out]
       have e := cntB_word xs (m / 64) (m % 64) (by omega)
       rw [show 64 * (m / 64) + m % 64 = m by omega] at e
       rw [e]
       unfold rankI
       rw [Int.toNat_natCast, show min ((m : Int) % 64).toNat 64 = m % 64 by omega]
       omega
      clear hkm
      go_wp2_with (go_at_call 160; refine (rank_c _ _ ?_ ?_ _).mono ?_; exact Int.natCast_nonneg _; exact Int.ofNat_lt.2 hf; rintro e w' ⟨rfl, rfl⟩)
      go_ret
      exact ⟨ret_int R2.out, by assumption⟩
theorem bones_hi (N : Int) (ao : Option Addr) (xs : List Nat) (cap : Nat) (n : Int) (w : World) (hx : Wd w ao xs) (hg : Fit xs) (hcap : xs.length ≤ cap) (hnN : N < n) :
  Calls Tryz.prog 101 #[.agg #[.int .i64 N, .slice ao xs.length cap], .int .i64 n] w fun e w' => e = .returned (.int .i64 (onesI N xs n)) ∧ Below w.heap.size w w' := by
 have K : ∀ o, Wd (w.alloc o) ao xs := fun o => hx.keep (below_alloc w o)
 have hM : min n N = N := by omega
 cases hk : chk N xs with
 | false =>
  have R : Hid (0 = onesI N xs n) := by unfold onesI Hid; rw [hk]; rfl
  clear hM
  go_enter Tryz.func101, Tryz.ntmps101
  go_wp2_with (go_at_call 92; refine (check_c _ _ _ _ _ (K _)).mono ?_; rintro e w' ⟨rfl, hb⟩; obtain ⟨c0, c1, hz, hw⟩ := box_cells hb; clear hb)
  go_ret
  exact ⟨ret_int R.out, by assumption⟩
 | true =>
  obtain ⟨hc0, hc1, hc2, _⟩ := chk_out N xs hk
  by_cases hm : N ≤ 0
  ·have R : Hid (0 = onesI N xs n) := by unfold onesI Hid; rw [hk, hM, show (N).toNat = 0 by omega]; rfl
   clear hM
   go_enter Tryz.func101, Tryz.ntmps101
   go_wp2_with (go_at_call 92; refine (check_c _ _ _ _ _ (K _)).mono ?_; rintro e w' ⟨rfl, hb⟩; obtain ⟨c0, c1, hz, hw⟩ := box_cells hb; clear hb)
   go_ret
   exact ⟨ret_int R.out, by assumption⟩
  ·obtain ⟨m, rfl⟩ := Int.eq_ofNat_of_zero_le (show 0 ≤ N by omega)
   obtain ⟨b, off, rfl, hb, hc⟩ := hx (by omega)
   have R : Hid (((cntB xs m : Nat) : Int) = onesI (m : Int) xs n) := by unfold onesI Hid; rw [hk, hM]; rfl
   have HC : Hid (∀ i, i < xs.length → w.cell? ⟨b, off + i, none⟩ = some (.int .u64 (gt xs i))) := hc
   have hl1 : m / 64 ≤ xs.length := by omega
   have hm0 : decide (m = 0) = false := by simp; omega
   have hm1 : (m == 0) = false := by simp; omega
   have hl2 : m / 64 ≤ cap := by omega
   have hl3 : m ≤ 1048576 := by omega
   have HL : Hid (m % 64 = 0 ∨ m / 64 < xs.length) := by unfold Hid; omega
   have hl5 : (m : Int) / 64 ≤ (cap : Int) := by omega
   clear hM hc hc2
   go_enter Tryz.func101, Tryz.ntmps101
   go_wp2_with (go_at_call 92; refine (check_c _ _ _ _ _ (K _)).mono ?_; rintro e w' ⟨rfl, hb⟩; obtain ⟨c0, c1, hz, hw⟩ := box_cells hb; clear hb)
   go_loop [5, 26] (fun c i => ∃ k t : Nat, k ≤ m / 64 ∧ t ≤ 64 * k ∧ i = .int .i64 k ∧ c = .int .i64 t ∧ Hid (t = cntB xs (64 * k))) (fun _ i => m / 64 - (intOf i).toNat)
   case atStart => exact ⟨0, 0, by omega, by omega, rfl, rfl, rfl⟩
   case round =>
    obtain ⟨k, t, hk1, ht, rfl, rfl, H⟩ := hrel
    by_cases hlt : k < m / 64
    ·have hck := (hw.cell (p := ⟨b, off + k, none⟩) (by assumption)).trans (HC.out k (by omega))
     have hf := hg k
     have hp := pop_bounds (gt xs k)
     go_wp2_with (go_at_call 153; refine (pop_c _ ?_ ?_ _).mono ?_; exact Int.natCast_nonneg _; exact Int.ofNat_lt.2 hf; rintro e w' ⟨rfl, rfl⟩)
     go_round
     case rel =>
      refine ⟨k + 1, t + cnt (gt xs k) 64, by omega, ?_, by go_num, ?_, ?_⟩
      ·have := cnt_le (gt xs k) 64
       omega
      ·unfold popI; rw [Int.toNat_natCast]; go_num
      ·have e := cntB_word xs k 64 (by omega)
       rw [show 64 * (k + 1) = 64 * k + 64 by omega, e, ← H.out]
       rfl
     case measure => simp only [intOf]; omega
    ·have hkm : k = m / 64 := by omega
     have HT : Hid (t = cntB xs (64 * (m / 64))) := by rw [← hkm]; exact H.out
     clear H
     by_cases hz0 : m % 64 = 0
     ·have R2 : Hid ((t : Int) = onesI (m : Int) xs n) := by
       unfold Hid
       rw [← R.out, HT.out, show 64 * (m / 64) = m by omega]
      have hz1 : ¬ 0 < (m : Int) % 64 := by omega
      clear hkm
      go_wp2
      go_ret
      exact ⟨ret_int R2.out, by assumption⟩
     ·have hz1 : 0 < (m : Int) % 64 := by omega
      have hl6 : m / 64 < xs.length := by have := HL.out; omega
      have hl7 : (m : Int) / 64 < (xs.length : Int) := by omega
      have hck := (hw.cell (p := ⟨b, off + m / 64, none⟩) (by assumption)).trans (HC.out (m / 64) hl6)
      have hf := hg (m / 64)
      have hp := rank_bounds (gt xs (m / 64)) ((m : Int) % 64)
      have R2 : Hid ((t : Int) + rankI (gt xs (m / 64)) ((m : Int) % 64) = onesI (m : Int) xs n) := by
       unfold Hid
       rw [← R.out, HT.out]
       have e := cntB_word xs (m / 64) (m % 64) (by omega)
       rw [show 64 * (m / 64) + m % 64 = m by omega] at e
       rw [e]
       unfold rankI
       rw [Int.toNat_natCast, show min ((m : Int) % 64).toNat 64 = m % 64 by omega]
       omega
      clear hkm
      go_wp2_with (go_at_call 160; refine (rank_c _ _ ?_ ?_ _).mono ?_; exact Int.natCast_nonneg _; exact Int.ofNat_lt.2 hf; rintro e w' ⟨rfl, rfl⟩)
      go_ret
      exact ⟨ret_int R2.out, by assumption⟩
theorem bones_c (N : Int) (ao : Option Addr) (xs : List Nat) (cap : Nat) (n : Int) (w : World) (hx : Wd w ao xs) (hg : Fit xs) (hcap : xs.length ≤ cap) :
  Calls Tryz.prog 101 #[.agg #[.int .i64 N, .slice ao xs.length cap], .int .i64 n] w fun e w' => e = .returned (.int .i64 (onesI N xs n)) ∧ Below w.heap.size w w' := by
 by_cases h : n ≤ N
 ·exact bones_lo N ao xs cap n w hx hg hcap h
 ·exact bones_hi N ao xs cap n w hx hg hcap (by omega)
end Go.Proofs.YtfnkklkdajlhlaaGreatDoor
namespace Go.Proofs.YtfnkklkdajlhlaaGreatDoor
open Go.RowKit Go.Shelf Num Bit
attribute [local go_sem] Oper.semAt_some
end Go.Proofs.YtfnkklkdajlhlaaGreatDoor
