/-
  The contracts of package ints that write: lay (bits laid over words of the call's own), asItIs (a row in words of its own). The contracts of makeable, Make and Of. The contract of the document's Make. The contract of List. The contracts of the document's Make, Of and List, whatever is handed in. Plain arithmetic of binomials: ways, the place of a word among those of its class, the word of a place. Nothing of the program is in here. Plain arithmetic of rows of bits in blocks of fifteen: each block's class and offset, the offsets one behind the other, and the way back. Nothing of the program is in here. The contracts of the document's block and low, and of the law that two rows of numbers are one. The contracts of the document's Same of rows of numbers, and of rows in blocks. A row of words of the call's own.
-/
import Derived.Test.YtfnkklkdajlhlaaGreatDoorC02
import Derived.RegionTactic
import Derived.BigRegion
import Derived.Test.YtfnkklkdajlhlaaGreatDoorC00
import Derived.Test.YtfnkklkdajlhlaaGreatDoorC01
import Derived.WalkSmall
import Derived.OwnWalk
import Derived.Deep.RegionHeld3
set_option linter.unusedVariables false
set_option linter.unusedSimpArgs false
set_option maxRecDepth 100000
set_option maxHeartbeats 16000000
namespace Go.Proofs.YtfnkklkdajlhlaaGreatDoor
open Go.RowKit Num Bit
theorem Turned.drew {g : Nat} {a w : World} (h : Turned g a w) : Turned g a w.drew := ⟨h.os, h.tape, h.output, h.size, h.block⟩
theorem Own.drew {w : World} {g : Nat} {ys : List Nat} (h : Own w g ys) : Own w.drew g ys := h
theorem mask_n (W m : Nat) (hm : maskI (W : Int) = (m : Int)) (w : World) :
  Calls Tryz.prog 163 #[.int .i64 W] w fun e w' => e = .returned (.int .u64 (m : Int)) ∧ w' = w := by
 have h := mask_c (W : Int) w
 rw [hm] at h
 exact h
theorem mask_is (W : Nat) (h : W ≤ 64) : maskI (W : Int) = ((2 ^ W - 1 : Nat) : Int) := by
 unfold maskI
 rw [Int.toNat_natCast, Nat.min_eq_left h]
theorem lay_c (ys : List Nat) (l g cap p W v : Nat) (w : World) (hl : ys.length = l) (hO : Own w g ys) (hf : Fit ys) (hW : 1 ≤ W) (hW2 : W ≤ 64) (hv : v < 18446744073709551616) (hp : p + W ≤ 64 * ys.length) (hpb : p ≤ 1048576) :
  Calls Tryz.prog 194 #[.slice (some ⟨g, 0, none⟩) l cap, .int .i64 p, .int .i64 W, .int .u64 v] w fun e w' => e = .returned (.tuple #[]) ∧ Own w' g (layL ys p W v) ∧ Turned g w w' := by
 subst hl
 obtain ⟨m, hm⟩ : ∃ m : Nat, m = 2 ^ W - 1 := ⟨_, rfl⟩
 have hmm : Hid (maskI (W : Int) = (m : Int)) := by rw [hm]; exact mask_is W hW2
 have hmb : Hid (m < 18446744073709551616) := by
  have := Nat.pow_le_pow_right (n := 2) (j := 64) (by decide) hW2
  rw [show (2 : Nat) ^ 64 = 18446744073709551616 from rfl] at this
  unfold Hid; omega
 have h1 : p / 64 < ys.length := by omega
 have l1' : (p : Int) / 64 < (ys.length : Int) := by omega
 have e1 := hO.cell (p / 64) h1
 have f1 := hO.frozen (p / 64)
 have A1 : Hid (bits .andNot .u64 (gt ys (p / 64) : Int) ((m * 2 ^ (p % 64) % 18446744073709551616 : Nat) : Int) = ((gt ys (p / 64) &&& (18446744073709551615 - m * 2 ^ (p % 64) % 18446744073709551616) : Nat) : Int)) := u64_andNot_nat _ _ (hf _) (Nat.mod_lt _ (by decide))
 have A2 : Hid (bits .or .u64 ((gt ys (p / 64) &&& (18446744073709551615 - m * 2 ^ (p % 64) % 18446744073709551616) : Nat) : Int) ((v * 2 ^ (p % 64) % 18446744073709551616 : Nat) : Int) = (((gt ys (p / 64) &&& (18446744073709551615 - m * 2 ^ (p % 64) % 18446744073709551616)) ||| v * 2 ^ (p % 64) % 18446744073709551616 : Nat) : Int)) := u64_or_nat _ _ (Nat.lt_of_le_of_lt Nat.and_le_left (hf _)) (Nat.mod_lt _ (by decide))
 have HM : Hid (m = 2 ^ W - 1) := hm
 clear hm
 by_cases c : 64 - p % 64 < W
 ·have c' : (64 : Int) - (p : Int) % 64 < (W : Int) := by omega
  have h2 : p / 64 + 1 < ys.length := by omega
  have l2' : (p : Int) / 64 + 1 < (ys.length : Int) := by omega
  have e2 := hO.cell (p / 64 + 1) h2
  have f2 := hO.frozen (p / 64 + 1)
  have B1 : Hid (bits .andNot .u64 (gt ys (p / 64 + 1) : Int) ((m / 2 ^ (64 - p % 64) : Nat) : Int) = ((gt ys (p / 64 + 1) &&& (18446744073709551615 - m / 2 ^ (64 - p % 64)) : Nat) : Int)) := u64_andNot_nat _ _ (hf _) (Nat.lt_of_le_of_lt (Nat.div_le_self _ _) hmb.out)
  have B2 : Hid (bits .or .u64 ((gt ys (p / 64 + 1) &&& (18446744073709551615 - m / 2 ^ (64 - p % 64)) : Nat) : Int) ((v / 2 ^ (64 - p % 64) : Nat) : Int) = (((gt ys (p / 64 + 1) &&& (18446744073709551615 - m / 2 ^ (64 - p % 64))) ||| v / 2 ^ (64 - p % 64) : Nat) : Int)) := u64_or_nat _ _ (Nat.lt_of_le_of_lt Nat.and_le_left (hf _)) (Nat.lt_of_le_of_lt (Nat.div_le_self _ _) hv)
  have R : Hid (layL ys p W v = ((ys.set (p / 64) ((gt ys (p / 64) &&& (18446744073709551615 - m * 2 ^ (p % 64) % 18446744073709551616)) ||| v * 2 ^ (p % 64) % 18446744073709551616)).set (p / 64 + 1) ((gt ys (p / 64 + 1) &&& (18446744073709551615 - m / 2 ^ (64 - p % 64))) ||| v / 2 ^ (64 - p % 64)))) := by
   unfold Hid layL lay1; rw [if_pos c, HM.out]
  clear c
  go_enter Tryz.func194, Tryz.ntmps194
  go_wp2_with (go_at_call 163; refine (mask_n _ _ hmm.out _).mono ?_; rintro e w' ⟨rfl, rfl⟩)
  go_region
  go_wp2
  go_region
  go_wp2
  go_end0
  rw [R.out, shl_nat, shl_nat, A1.out, A2.out, shr_cast, shr_cast, B1.out, B2.out]
  exact ⟨rfl, ((hO.set _ _).set _ _).drew.drew, (((Turned.refl _ _).set _ _).set _ _).drew.drew⟩
 ·have c' : ¬ (64 : Int) - (p : Int) % 64 < (W : Int) := by omega
  have R : Hid (layL ys p W v = (ys.set (p / 64) ((gt ys (p / 64) &&& (18446744073709551615 - m * 2 ^ (p % 64) % 18446744073709551616)) ||| v * 2 ^ (p % 64) % 18446744073709551616))) := by
   unfold Hid layL lay1; rw [if_neg c, HM.out]
  clear c
  go_enter Tryz.func194, Tryz.ntmps194
  go_wp2_with (go_at_call 163; refine (mask_n _ _ hmm.out _).mono ?_; rintro e w' ⟨rfl, rfl⟩)
  go_region
  go_wp2
  go_end0
  rw [R.out, shl_nat, shl_nat, A1.out, A2.out]
  exact ⟨rfl, (hO.set _ _).drew, ((Turned.refl _ _).set _ _).drew⟩
theorem imE_zero (W : Int) (l : List Nat) (h : imE W l = 0) : 1 ≤ W ∧ W ≤ 64 ∧ (l.length : Int) * W ≤ 1048576 ∧ ∀ j, j < l.length → lenI (gt l j) ≤ W := by
 unfold imE at h
 by_cases c : W < 1 ∨ 64 < W ∨ 1048576 < (l.length : Int) * W ∨ ¬ (∀ j, j < l.length → lenI (gt l j) ≤ W)
 ·rw [if_pos c] at h; omega
 ·refine ⟨by omega, by omega, by omega, ?_⟩
  exact Classical.byContradiction fun hc => c (.inr (.inr (.inr hc)))
theorem quo_le (W n : Int) (h0 : 1 ≤ W) : n ≤ 1048576 / W ↔ n * W ≤ 1048576 := Int.le_ediv_iff_mul_le (by omega)
theorem quo_bd (W : Int) (h0 : 1 ≤ W) : 0 ≤ 1048576 / W ∧ 1048576 / W ≤ 1048576 := ⟨Int.ediv_nonneg (by decide) (by omega), Int.ediv_le_self _ (by decide)⟩
theorem makeable_ok (W : Int) (al : Option Addr) (l : List Nat) (cap : Nat) (w : World) (hx : Wd w al l) (hf : Fit l) (hE : imE W l = 0) :
  Calls Tryz.prog 192 #[.int .i64 W, .slice al l.length cap] w fun e w' => e = .returned .nilIface ∧ w' = w := by
 obtain ⟨a1, a2, a3, a4⟩ := imE_zero W l hE
 have q1 : (l.length : Int) ≤ 1048576 / W := (quo_le W _ a1).2 a3
 obtain ⟨q2, q3⟩ := quo_bd W a1
 have hll : l.length ≤ 1048576 := by omega
 have HA : Hid (∀ j, j < l.length → lenI (gt l j) ≤ W) := a4
 clear hE a3 a4
 go_enter Tryz.func192, Tryz.ntmps192
 go_wp2_with (go_at_call 205; refine (wide_ok _ ?_ ?_ _).mono ?_; exact a1; exact a2; rintro e w' ⟨rfl, rfl⟩)
 go_loop [23] (fun i => ∃ k : Nat, k ≤ l.length ∧ i = .int .i64 k) (fun i => l.length - (intOf i).toNat)
 case atStart => exact ⟨0, by omega, rfl⟩
 case round =>
  obtain ⟨k, hk, rfl⟩ := hrel
  by_cases hlt : k < l.length
  ·obtain ⟨b, off, rfl, hb, hc⟩ := hx (by omega)
   have e1 := hc k hlt
   have hlt3 : (k : Int) < (l.length : Int) := by omega
   have F1 : Hid ((gt l k : Int) < 18446744073709551616) := by unfold Hid; have := hf k; omega
   clear hc
   go_wp2_with (go_at_call 206; refine (narrow_ok _ _ ?_ ?_ ?_ _).mono ?_; (exact Int.natCast_nonneg _); exact F1.out; (exact HA.out k hlt); rintro e w' ⟨rfl, rfl⟩)
   go_round
   case rel => exact ⟨k + 1, by omega, by go_num⟩
   case measure => simp only [intOf]; omega
  ·go_wp2
   go_ret
   exact ⟨rfl, rfl⟩
theorem make_ok (W : Nat) (al : Option Addr) (l : List Nat) (cap k : Nat) (w : World) (hx : Wd w al l) (hf : Fit l) (hE : imE (W : Int) l = 0) (hk : k = (l.length * W + 63) / 64) :
  Calls Tryz.prog 159 #[.int .i64 W, .slice al l.length cap] w fun e w' => ∃ g, e = .returned (.tuple #[.agg #[.int .i64 l.length, .int .i64 W, .int .i64 ((l.length : Int) * W), .slice (some ⟨g, 0, none⟩) k k], .int .i64 0]) ∧ w.heap.size ≤ g ∧ Own w' g (mkS l W l.length) ∧ Below w.heap.size w w' := by
 obtain ⟨a1, a2, a3, a4⟩ := imE_zero W l hE
 have K : ∀ o, Wd (w.alloc o) al l := fun o => hx.keep (below_alloc w o)
 have hm : l.length * W ≤ 1048576 := by
  have : ((l.length * W : Nat) : Int) ≤ 1048576 := by rw [Int.natCast_mul]; exact a3
  omega
 have hll : l.length ≤ 1048576 := Nat.le_trans (Nat.le_mul_of_pos_right _ (by omega)) hm
 have hmi : (0 : Int) ≤ (l.length : Int) * (W : Int) := Int.mul_nonneg (by omega) (by omega)
 have HK : Hid (k = (l.length * W + 63) / 64) := hk
 have HK1 : Hid (((l.length : Int) * W + 63) / 64 = (k : Int)) := by unfold Hid; rw [← Int.natCast_mul]; omega
 have HE : Hid (imE (W : Int) l = 0) := hE
 have HA : Hid (∀ j, j < l.length → gt l j < 2 ^ W) := fun j hj => (lenI_fit _ _).1 (a4 j hj)
 clear hk hE a4
 go_enter Tryz.func159, Tryz.ntmps159
 go_wp2_with fail
 refine (makeable_ok _ _ _ _ _ (K _) hf HE.out).mono ?_
 rintro e w' ⟨rfl, hw'⟩
 subst hw'
 go_wp2_with fail
 refine (new_ok _ k _ hmi a3 HK1.out).mono ?_
 rintro e w1 ⟨g, rfl, hg1, hg2, hO, hb⟩
 have KF : w1.frozen? ⟨w.heap.size, 0, none⟩ = false ∧ w1.frozen? ⟨w.heap.size, 1, none⟩ = false ∧ w1.frozen? ⟨w.heap.size, 2, none⟩ = false ∧ w1.frozen? ⟨w.heap.size, 3, none⟩ = false :=
  ⟨(hb.frozen (p := ⟨w.heap.size, 0, none⟩) (by simp)).trans (by simp), (hb.frozen (p := ⟨w.heap.size, 1, none⟩) (by simp)).trans (by simp), (hb.frozen (p := ⟨w.heap.size, 2, none⟩) (by simp)).trans (by simp), (hb.frozen (p := ⟨w.heap.size, 3, none⟩) (by simp)).trans (by simp)⟩
 have KK := Box4.new hb
 have hg0 : w.heap.size + 1 ≤ g := by simpa using hg1
 clear hb hg1 K
 obtain ⟨⟨hz, k0, k1, k2, k3⟩, hw⟩ := KK
 obtain ⟨f0, f1, f2, f3⟩ := KF
 go_wp2
 go_loopw [33] (fun i wr => ∃ q : Nat, q ≤ l.length ∧ i = .int .i64 q ∧ Own wr g (mkS l W q) ∧ (wr.cell? ⟨w1.heap.size, 0, none⟩ = some (.int .i64 ((l.length : Int) * W)) ∧ wr.cell? ⟨w1.heap.size, 1, none⟩ = some (.slice (some ⟨g, 0, none⟩) k k)) ∧ (wr.cell? ⟨w.heap.size, 0, none⟩ = some (.int .i64 0) ∧ wr.cell? ⟨w.heap.size, 1, none⟩ = some (.int .i64 0) ∧ wr.cell? ⟨w.heap.size, 2, none⟩ = some (.int .i64 0) ∧ wr.cell? ⟨w.heap.size, 3, none⟩ = some (.slice none 0 0)) ∧ (wr.frozen? ⟨w.heap.size, 0, none⟩ = false ∧ wr.frozen? ⟨w.heap.size, 1, none⟩ = false ∧ wr.frozen? ⟨w.heap.size, 2, none⟩ = false ∧ wr.frozen? ⟨w.heap.size, 3, none⟩ = false) ∧ Below w.heap.size w wr) (fun i _ => l.length - (intOf i).toNat)
 case atStart =>
  have hb := below_alloc w1 (.cells #[.int .i64 ((l.length : Int) * W), .slice (some ⟨g, 0, none⟩) k k] 33)
  refine ⟨0, Nat.zero_le _, rfl, ?_, ⟨by simp, by simp⟩, ⟨(hb.cell (p := ⟨w.heap.size, 0, none⟩) hz).trans k0, (hb.cell (p := ⟨w.heap.size, 1, none⟩) hz).trans k1, (hb.cell (p := ⟨w.heap.size, 2, none⟩) hz).trans k2, (hb.cell (p := ⟨w.heap.size, 3, none⟩) hz).trans k3⟩, ⟨(hb.frozen (p := ⟨w.heap.size, 0, none⟩) hz).trans f0, (hb.frozen (p := ⟨w.heap.size, 1, none⟩) hz).trans f1, (hb.frozen (p := ⟨w.heap.size, 2, none⟩) hz).trans f2, (hb.frozen (p := ⟨w.heap.size, 3, none⟩) hz).trans f3⟩, hw.trans (hb.mono (by omega))⟩
  rw [← mkS_zero, ← rep_row (l.length * W) k HK.out]
  exact hO.keep hb
 case round =>
  obtain ⟨q, hq, rfl, hOr, ⟨r0, r1⟩, ⟨s0, s1, s2, s3⟩, ⟨t0, t1, t2, t3⟩, hwr⟩ := hrel
  by_cases hlt : q < l.length
  ·obtain ⟨b, off, rfl, hb, hc⟩ := hx (by omega)
   have e1 := (hwr.cell (p := ⟨b, off + q, none⟩) hb).trans (hc q hlt)
   have hlt3 : (q : Int) < (l.length : Int) := by omega
   have hn := mul_next l.length W q hlt
   have hqW : q * W ≤ 1048576 := by omega
   have hqi : (0 : Int) ≤ (q : Int) * (W : Int) := Int.mul_nonneg (by omega) (by omega)
   have hqi2 : (q : Int) * (W : Int) ≤ 1048576 := by rw [← Int.natCast_mul]; omega
   have FS : Hid (layL (mkS l W q) (q * W) W (gt l q) = mkS l W (q + 1)) := mkS_step l W q (by omega) (by omega) hlt (HA.out q hlt) (hf q)
   have HLN : Hid ((mkS l W q).length = k) := by unfold Hid; rw [length_mkS]; exact HK.out.symm
   have HP : Hid (q * W + W ≤ 64 * (mkS l W q).length) := by unfold Hid; rw [length_mkS]; omega
   have HC : Hid ((q : Int) * (W : Int) = ((q * W : Nat) : Int)) := (Int.natCast_mul q W).symm
   clear hc hn
   go_wp2_with fail
   rw [HC.out]
   refine (lay_c (mkS l W q) k g k (q * W) W (gt l q) _ HLN.out hOr (fit_mkS _ _ _) (by omega) (by omega) (hf q) HP.out hqW).mono ?_
   rintro e w4 ⟨rfl, hO4, hT⟩
   rw [FS.out] at hO4
   have u0 := (hT.cell (p := ⟨w1.heap.size, 0, none⟩) (show w1.heap.size ≠ g by omega)).trans r0
   have u1 := (hT.cell (p := ⟨w1.heap.size, 1, none⟩) (show w1.heap.size ≠ g by omega)).trans r1
   have x0 := (hT.cell (p := ⟨w.heap.size, 0, none⟩) (show w.heap.size ≠ g by omega)).trans s0
   have x1 := (hT.cell (p := ⟨w.heap.size, 1, none⟩) (show w.heap.size ≠ g by omega)).trans s1
   have x2 := (hT.cell (p := ⟨w.heap.size, 2, none⟩) (show w.heap.size ≠ g by omega)).trans s2
   have x3 := (hT.cell (p := ⟨w.heap.size, 3, none⟩) (show w.heap.size ≠ g by omega)).trans s3
   have y0 := (hT.frozen (p := ⟨w.heap.size, 0, none⟩) (show w.heap.size ≠ g by omega)).trans t0
   have y1 := (hT.frozen (p := ⟨w.heap.size, 1, none⟩) (show w.heap.size ≠ g by omega)).trans t1
   have y2 := (hT.frozen (p := ⟨w.heap.size, 2, none⟩) (show w.heap.size ≠ g by omega)).trans t2
   have y3 := (hT.frozen (p := ⟨w.heap.size, 3, none⟩) (show w.heap.size ≠ g by omega)).trans t3
   have hw4 := hwr.trans (hT.below (B := w.heap.size) (by omega))
   clear hT r0 r1 s0 s1 s2 s3 t0 t1 t2 t3 hwr hOr e1
   go_wp2
   exact ⟨⟨q + 1, by omega, by go_num, hO4, ⟨u0, u1⟩, ⟨x0, x1, x2, x3⟩, ⟨y0, y1, y2, y3⟩, hw4⟩, by simp only [intOf]; omega⟩
  ·have hq2 : q = l.length := by omega
   rw [hq2] at hOr
   clear hq2
   go_wp2
   refine bodyPost_ret (v := .tuple #[.agg #[.int .i64 l.length, .int .i64 W, .int .i64 ((l.length : Int) * W), .slice (some ⟨g, 0, none⟩) k k], .int .i64 0]) (by simp [results, Tryz.results159, go_sem, s0, s1, s2, s3]) rfl ⟨g, rfl, by omega, ?_, ?_⟩
   ·exact (((hOr.set_other (by simp; omega) _).set_other (by simp; omega) _).set_other (by simp; omega) _).set_other (by simp; omega) _
   ·exact (((hwr.setCell (by simp) _).setCell (by simp) _).setCell (by simp) _).setCell (by simp) _
theorem info4 : (Tryz.prog.info? 4).map (fun i => (i.zero, i.size, i.bytes)) = some (some (.bool false), 1, 1) := by kernel_rfl
structure RB (w wr : World) : Prop where
 c0 : wr.cell? ⟨w.heap.size, 0, none⟩ = some (.int .i64 0)
 c1 : wr.cell? ⟨w.heap.size, 1, none⟩ = some (.int .i64 0)
 c2 : wr.cell? ⟨w.heap.size, 2, none⟩ = some (.int .i64 0)
 c3 : wr.cell? ⟨w.heap.size, 3, none⟩ = some (.slice none 0 0)
 f0 : wr.frozen? ⟨w.heap.size, 0, none⟩ = false
 f1 : wr.frozen? ⟨w.heap.size, 1, none⟩ = false
 f2 : wr.frozen? ⟨w.heap.size, 2, none⟩ = false
 f3 : wr.frozen? ⟨w.heap.size, 3, none⟩ = false
 lt : w.heap.size < wr.heap.size
 bel : Below w.heap.size w wr
def lsS (n : Nat) (f : Nat → Nat) (k : Nat) : List Nat := (List.range n).map fun i => if i < k then f i else 0
theorem length_lsS (n : Nat) (f : Nat → Nat) (k : Nat) : (lsS n f k).length = n := by simp [lsS]
theorem gt_lsS (n : Nat) (f : Nat → Nat) (k j : Nat) : gt (lsS n f k) j = if j < n ∧ j < k then f j else 0 := by
 unfold lsS gt
 rw [List.getD_eq_getElem?_getD, List.getElem?_map]
 by_cases h : j < n
 ·rw [List.getElem?_range h]
  by_cases c : j < k <;> simp [h, c]
 ·rw [List.getElem?_eq_none (by simp; omega)]; simp [h]
theorem lsS_zero (n : Nat) (f : Nat → Nat) : List.replicate n 0 = lsS n f 0 := by
 refine list_ext _ _ (by rw [length_lsS]; simp) fun i hi => ?_
 rw [gt_lsS]
 simp only [List.length_replicate] at hi
 unfold gt
 rw [List.getD_eq_getElem?_getD, List.getElem?_replicate]
 simp [hi]
theorem lsS_step (n : Nat) (f : Nat → Nat) (k : Nat) (h : k < n) : (lsS n f k).set k (f k) = lsS n f (k + 1) := by
 refine list_ext _ _ (by rw [List.length_set, length_lsS, length_lsS]) fun i hi => ?_
 rw [gt_set _ _ _ _ (by rw [length_lsS]; exact h), gt_lsS, gt_lsS]
 rw [List.length_set, length_lsS] at hi
 by_cases c : k = i
 ·subst c; simp [h]
 ·rw [if_neg c]
  by_cases d : i < k
  ·simp [hi, d, show i < k + 1 by omega]
  ·simp [d, show ¬ i < k + 1 by omega]
theorem lsS_all (n : Nat) (f : Nat → Nat) : lsS n f n = (List.range n).map f := by
 unfold lsS
 refine List.map_congr_left fun i hi => ?_
 rw [if_pos (List.mem_range.1 hi)]
theorem gt_map (n : Nat) (f : Nat → Nat) (j : Nat) (h : j < n) : gt ((List.range n).map f) j = f j := by
 rw [← lsS_all, gt_lsS, if_pos ⟨h, h⟩]
/-! The document's List: what is appended lies in memory of the call's own, with room behind it. -/
theorem owns_below {w w' : World} {base e n : Nat} {v : Value} {vs : List Value} (h : w.ownsRow base e 1 v n vs) (hb : Below w.heap.size w w') : w'.ownsRow base e 1 v n vs := by
 obtain ⟨h1, h2 | ⟨g, cap, cur, e1, e2, hh, r⟩⟩ := h
 ·exact ⟨h1, .inl h2⟩
 ·exact ⟨h1, .inr ⟨g, cap, cur, e1, e2, (hb.block g ((Array.getElem?_eq_some_iff.1 hh).1)).trans hh, r⟩⟩
end Go.Proofs.YtfnkklkdajlhlaaGreatDoor
namespace Go.Proofs.YtfnkklkdajlhlaaGreatDoor
open Num
namespace Bn
def ch : Nat → Nat → Nat
 | _, 0 => 1
 | 0, _ + 1 => 0
 | n + 1, k + 1 => ch n k + ch n (k + 1)
theorem ch_zero (n : Nat) : ch n 0 = 1 := by cases n <;> rfl
theorem ch_succ (n k : Nat) : ch (n + 1) (k + 1) = ch n k + ch n (k + 1) := rfl
theorem ch_out : ∀ n k, n < k → ch n k = 0 := by
 intro n
 induction n with
 | zero => intro k h; match k, h with | k + 1, _ => rfl
 | succ n ih => intro k h; match k, h with | k + 1, h => rw [ch_succ, ih k (by omega), ih (k + 1) (by omega)]
theorem ch_pos : ∀ n k, k ≤ n → 0 < ch n k := by
  intro n
  induction n with
  | zero => intro k h; obtain rfl : k = 0 := by omega
            exact Nat.one_pos
  | succ n ih =>
    intro k h
    match k, h with
    | 0, _ => rw [ch_zero]; exact Nat.one_pos
    | k + 1, h => rw [ch_succ]; have := ih k (by omega); omega
theorem ch_le : ∀ n k, ch n k ≤ 2 ^ n := by
 intro n
 induction n with
 | zero => intro k; match k with | 0 => exact Nat.le_refl _ | k + 1 => exact Nat.zero_le _
 | succ n ih =>
  intro k
  match k with
  | 0 => rw [ch_zero]; exact Nat.one_le_two_pow
  | k + 1 => rw [ch_succ, Nat.pow_succ]; have := ih k; have := ih (k + 1); omega
theorem ch_mono (n k : Nat) : ch n k ≤ ch (n + 1) k := by
 match k with
 | 0 => rw [ch_zero, ch_zero]; exact Nat.le_refl _
 | k + 1 => rw [ch_succ]; omega
def off (x : Nat) : Nat → Nat
 | 0 => 0
 | n + 1 => off x n + if x / 2 ^ n % 2 = 1 then ch n (cnt x (n + 1)) else 0
theorem off_lt (x : Nat) : ∀ n, off x n < ch n (cnt x n) := by
 intro n
 induction n with
 | zero => exact Nat.one_pos
 | succ n ih =>
  rw [off]
  by_cases hb : x / 2 ^ n % 2 = 1
  ·rw [if_pos hb]
   have e : cnt x (n + 1) = cnt x n + 1 := by rw [cnt, hb]
   rw [e, ch_succ]
   omega
  ·rw [if_neg hb]
   have e : cnt x (n + 1) = cnt x n := by rw [cnt]; omega
   rw [e]
   have := ch_mono n (cnt x n)
   omega
theorem off_mod (x m : Nat) : ∀ n, n ≤ m → off (x % 2 ^ m) n = off x n := by
 intro n
 induction n with
 | zero => intro _; rfl
 | succ n ih =>
  intro h
  rw [off, off, ih (by omega), bit_mod x m n (by omega), cnt_mod x m (n + 1) h]
def blk : Nat → Nat → Nat → Nat
 | 0, _, _ => 0
 | i + 1, k, o => if k = 0 then 0 else if ch i k ≤ o then 2 ^ i + blk i (k - 1) (o - ch i k) else blk i k o
theorem blk_zero (n o : Nat) : blk n 0 o = 0 := by
 cases n with
 | zero => rfl
 | succ n => rw [blk, if_pos rfl]
theorem blk_hi (i k o : Nat) (hk : k ≠ 0) (h : ch i k ≤ o) : blk (i + 1) k o = 2 ^ i + blk i (k - 1) (o - ch i k) := by rw [blk, if_neg hk, if_pos h]
theorem blk_lo (i k o : Nat) (hk : k ≠ 0) (h : ¬ ch i k ≤ o) : blk (i + 1) k o = blk i k o := by rw [blk, if_neg hk, if_neg h]
theorem blk_lt : ∀ n k o, blk n k o < 2 ^ n := by
 intro n
 induction n with
 | zero => intro k o; exact Nat.one_pos
 | succ n ih =>
  intro k o
  have p : 2 ^ (n + 1) = 2 ^ n + 2 ^ n := by rw [Nat.pow_succ]; omega
  by_cases hk : k = 0
  ·subst hk; rw [blk_zero]; exact Nat.two_pow_pos _
  ·by_cases h : ch n k ≤ o
   ·rw [blk_hi n k o hk h]; have := ih (k - 1) (o - ch n k); omega
   ·rw [blk_lo n k o hk h]; have := ih k o; omega
theorem mod_bit (x n : Nat) : x % 2 ^ (n + 1) = x % 2 ^ n + 2 ^ n * (x / 2 ^ n % 2) := by rw [Nat.mod_pow_succ]
theorem blk_off (x : Nat) : ∀ n, blk n (cnt x n) (off x n) = x % 2 ^ n := by
 intro n
 induction n with
 | zero => simp [blk, Nat.mod_one]
 | succ n ih =>
  rw [mod_bit]
  by_cases hb : x / 2 ^ n % 2 = 1
  ·have e : cnt x (n + 1) = cnt x n + 1 := by rw [cnt, hb]
   have eo : off x (n + 1) = off x n + ch n (cnt x n + 1) := by rw [off, if_pos hb, e]
   rw [e, eo, blk_hi _ _ _ (by omega) (by omega), hb, Nat.add_sub_cancel, Nat.add_sub_cancel, ih]
   omega
  ·have e : cnt x (n + 1) = cnt x n := by rw [cnt]; omega
   have eo : off x (n + 1) = off x n := by rw [off, if_neg hb, Nat.add_zero]
   have h0 : x / 2 ^ n % 2 = 0 := by omega
   rw [e, eo, h0, Nat.mul_zero]
   show _ = x % 2 ^ n
   by_cases hk : cnt x n = 0
   ·rw [← ih, hk, blk_zero, blk_zero]
   ·have := off_lt x n
    rw [blk_lo _ _ _ hk (by omega), ih]
theorem ch62 (n k : Nat) (h : n ≤ 62) : ch n k ≤ 4611686018427387904 := by
 have := ch_le n k
 have : 2 ^ n ≤ 2 ^ 62 := Nat.pow_le_pow_right (by decide) h
 omega
def chN (n k : Int) : Nat := if n < 0 ∨ 62 < n ∨ k < 0 ∨ n < k then 0 else ch n.toNat k.toNat
def wdN (n k : Int) : Nat := if chN n k = 0 then 0 else Go.bitLen (chN n k - 1)
def ofK (x : Nat) (n : Int) : Nat := if n < 0 ∨ 62 < n then 0 else cnt x n.toNat
def ofO (x : Nat) (n : Int) : Nat := if n < 0 ∨ 62 < n then 0 else off x n.toNat
def bkX (n k : Int) (o : Nat) : Nat := if chN n k ≤ o then 0 else blk n.toNat k.toNat o
def bkB (n k : Int) (o : Nat) : Bool := decide (o < chN n k)
theorem chN_in (n k : Nat) (h : n ≤ 62) : chN n k = ch n k := by
 unfold chN
 by_cases c : n < k
 ·rw [if_pos (by omega), ch_out n k c]
 ·rw [if_neg (by omega), Int.toNat_natCast, Int.toNat_natCast]
theorem lt_len (x : Nat) (h : x < 18446744073709551616) : x < 2 ^ Go.bitLen x := by
 by_cases h0 : x = 0
 ·subst h0; exact Nat.two_pow_pos _
 ·obtain ⟨p, hp, h1, _, hd, _⟩ := long (x : Int) (by omega) (by omega) (by omega)
  unfold lenI at hp
  rw [Int.toNat_natCast] at hp
  have hp2 : Go.bitLen x = p := by omega
  rw [hp2]
  have e : x / 2 ^ (p - 1) = 1 := by
   rw [shr_nat _ _ (by omega), Int.toNat_natCast] at hd
   omega
  have e2 : 2 ^ p = 2 ^ (p - 1) * 2 := by
   obtain ⟨m, rfl⟩ : ∃ m, p = m + 1 := ⟨p - 1, by omega⟩
   rw [Nat.add_sub_cancel, Nat.pow_succ]
  have q := Nat.two_pow_pos (p - 1)
  have := Nat.lt_mul_div_succ x q
  rw [e] at this
  omega
end Bn
end Go.Proofs.YtfnkklkdajlhlaaGreatDoor
namespace Go.Proofs.YtfnkklkdajlhlaaGreatDoor
open Num Bn
namespace Bit
def nb (N : Nat) : Nat := (N + 14) / 15
def blv (N : Nat) (f : Nat → Bool) (i : Nat) : Nat := numOf 15 fun k => decide (15 * i + k < N) && f (15 * i + k)
def bcl (N : Nat) (f : Nat → Bool) (i : Nat) : Nat := cnt (blv N f i) 15
def bof (N : Nat) (f : Nat → Bool) (i : Nat) : Nat := off (blv N f i) 15
def kwd (k : Nat) : Nat := Go.bitLen (ch 15 k - 1)
def bwd (N : Nat) (f : Nat → Bool) (i : Nat) : Nat := kwd (bcl N f i)
def bat (N : Nat) (f : Nat → Bool) : Nat → Nat
 | 0 => 0
 | i + 1 => bat N f i + bwd N f i
def bon (N : Nat) (f : Nat → Bool) : Nat → Nat
 | 0 => 0
 | i + 1 => bon N f i + bcl N f i
def bits (x n : Nat) : List Bool := (List.range n).map x.testBit
def bofP (N : Nat) (f : Nat → Bool) : Nat → List Bool
 | 0 => []
 | i + 1 => bofP N f i ++ bits (bof N f i) (bwd N f i)
def bclP (N : Nat) (f : Nat → Bool) (i : Nat) : List Nat := (List.range i).map (bcl N f)
theorem length_bits (x n : Nat) : (bits x n).length = n := by simp [bits]
theorem length_bofP (N : Nat) (f : Nat → Bool) (i : Nat) : (bofP N f i).length = bat N f i := by
 induction i with
 | zero => rfl
 | succ i ih => rw [bofP, List.length_append, ih, length_bits, bat]
theorem length_bclP (N : Nat) (f : Nat → Bool) (i : Nat) : (bclP N f i).length = i := by simp [bclP]
theorem bcl_le (N : Nat) (f : Nat → Bool) (i : Nat) : bcl N f i ≤ 15 := cnt_le _ _
theorem kwd_le (k : Nat) : kwd k ≤ 15 := len_le _ 15 (by
 have := ch_le 15 k
 have p : (2 : Nat) ^ 15 = 32768 := by decide
 omega)
theorem bwd_le (N : Nat) (f : Nat → Bool) (i : Nat) : bwd N f i ≤ 15 := kwd_le _
theorem kwd_le13 (k : Nat) (h : k ≤ 15) : kwd k ≤ 13 := by
 match k, h with
 | 0, _ | 1, _ | 2, _ | 3, _ | 4, _ | 5, _ | 6, _ | 7, _ | 8, _ | 9, _ | 10, _ | 11, _ | 12, _ | 13, _ | 14, _ | 15, _ => decide +kernel
theorem bat_le (N : Nat) (f : Nat → Bool) (i : Nat) : bat N f i ≤ 13 * i := by
 induction i with
 | zero => exact Nat.le_refl _
 | succ i ih => have := kwd_le13 (bcl N f i) (bcl_le N f i); rw [bat, bwd]; omega
theorem bon_le (N : Nat) (f : Nat → Bool) (i : Nat) : bon N f i ≤ 15 * i := by
 induction i with
 | zero => exact Nat.le_refl _
 | succ i ih => have := bcl_le N f i; rw [bon]; omega
theorem bof_lt (N : Nat) (f : Nat → Bool) (i : Nat) : bof N f i < ch 15 (bcl N f i) := off_lt _ _
theorem bof_fit (N : Nat) (f : Nat → Bool) (i : Nat) : bof N f i < 2 ^ bwd N f i := by
 have h := bof_lt N f i
 have c := ch62 15 (bcl N f i) (by decide)
 have := lt_len (ch 15 (bcl N f i) - 1) (by omega)
 unfold bwd kwd
 omega
theorem num_bits (x n : Nat) (h : x < 2 ^ n) : numOf n x.testBit = x := by
 refine (eq_numOf n x _ fun k => ?_).symm
 by_cases c : k < n
 ·simp [c]
 ·have : x < 2 ^ k := Nat.lt_of_lt_of_le h (Nat.pow_le_pow_right (by decide) (by omega))
  rw [Nat.testBit_lt_two_pow this]
  simp [c]
theorem bofP_get (N : Nat) (f : Nat → Bool) : ∀ n i t, i < n → t < bwd N f i → (bofP N f n)[bat N f i + t]? = some ((bof N f i).testBit t) := by
 intro n
 induction n with
 | zero => intro i t h; omega
 | succ n ih =>
  intro i t hi ht
  rw [bofP]
  by_cases c : i < n
  ·have := ih i t c ht
   have hl := (List.getElem?_eq_some_iff.1 this).1
   rw [List.getElem?_append_left hl, this]
  ·obtain rfl : i = n := by omega
   rw [List.getElem?_append_right (by rw [length_bofP]; omega), length_bofP, Nat.add_sub_cancel_left]
   unfold bits
   rw [List.getElem?_map, List.getElem?_range ht]
   rfl
def addB (N : Nat) (out : List Bool) (b : Nat) : List Bool := out ++ bits b (min 15 (N - out.length))
def decG (N : Nat) (M : Int) (ys : List Nat) : List Nat → Nat → List Bool → Option (List Bool)
 | [], _, out => some out
 | k :: l, at_, out =>
  if slcE M ys at_ (wdN 15 k) = 0 ∧ bkB 15 k (slcX M ys at_ (wdN 15 k)) = true then decG N M ys l (at_ + wdN 15 k) (addB N out (bkX 15 k (slcX M ys at_ (wdN 15 k)))) else none
theorem wdN_k (k : Nat) (h : k ≤ 15) : wdN 15 k = kwd k := by
 unfold wdN kwd
 have e : chN (15 : Int) (k : Int) = ch 15 k := chN_in 15 k (by decide)
 have := ch_pos 15 k h
 rw [e, if_neg (by omega)]
theorem blv_lt (N : Nat) (f : Nat → Bool) (i : Nat) : blv N f i < 2 ^ 15 := numOf_lt _ _
theorem bk_back (N : Nat) (f : Nat → Bool) (i : Nat) : bkB 15 (bcl N f i) (bof N f i) = true ∧ bkX 15 (bcl N f i) (bof N f i) = blv N f i := by
 have e : chN (15 : Int) (bcl N f i : Int) = ch 15 (bcl N f i) := chN_in 15 _ (by decide)
 have h := bof_lt N f i
 unfold bkB bkX
 rw [e, if_neg (by omega)]
 refine ⟨by simpa using h, ?_⟩
 have := blk_off (blv N f i) 15
 rw [show ((15 : Int).toNat) = 15 from rfl, Int.toNat_natCast]
 unfold bcl bof
 rw [this, Nat.mod_eq_of_lt (blv_lt N f i)]
theorem addB_step (N : Nat) (f : Nat → Bool) (i : Nat) : addB N ((List.range (min (15 * i) N)).map f) (blv N f i) = (List.range (min (15 * (i + 1)) N)).map f := by
 unfold addB
 have e : min (15 * (i + 1)) N = min (15 * i) N + min 15 (N - min (15 * i) N) := by omega
 rw [e, List.range_add, List.map_append, List.length_map, List.length_range]
 congr 1
 unfold bits
 rw [List.map_map]
 refine List.map_congr_left fun t ht => ?_
 have ht := List.mem_range.1 ht
 simp only [Function.comp]
 unfold blv
 rw [testBit_numOf]
 have a1 : t < 15 := by omega
 have a2 : min (15 * i) N = 15 * i := by omega
 have a3 : 15 * i + t < N := by omega
 rw [a2]
 simp [a1, a3]
def Reads (N : Nat) (f : Nat → Bool) (M : Int) (ys : List Nat) : Prop := ∀ i, i < nb N → slcE M ys (bat N f i) (wdN 15 (bcl N f i)) = 0 ∧ slcX M ys (bat N f i) (wdN 15 (bcl N f i)) = bof N f i
theorem dec_enc (N : Nat) (f : Nat → Bool) (M : Int) (ys : List Nat) (h : Reads N f M ys) : ∀ d i, i + d = nb N → decG N M ys ((List.range' i d).map (bcl N f)) (bat N f i) ((List.range (min (15 * i) N)).map f) = some ((List.range N).map f) := by
 intro d
 induction d with
 | zero =>
  intro i hi
  have : min (15 * i) N = N := by unfold nb at hi; omega
  rw [this]
  rfl
 | succ d ih =>
  intro i hi
  obtain ⟨h1, h2⟩ := h i (by omega)
  obtain ⟨b1, b2⟩ := bk_back N f i
  rw [List.range'_succ, List.map_cons, decG, h2, if_pos ⟨h1, b1⟩, b2, addB_step]
  have e : bat N f i + wdN 15 (bcl N f i) = bat N f (i + 1) := by rw [wdN_k _ (bcl_le N f i)]; rfl
  rw [e]
  exact ih (i + 1) (by omega)
theorem reads_row (N : Nat) (f : Nat → Bool) (hN : N ≤ 1048576) : Reads N f (bat N f (nb N)) (rowOf (bat N f (nb N)) fun j => (bofP N f (nb N)).getD j false) := by
 intro i hi
 have hb := bat_le N f (nb N)
 have hb2 : bat N f (nb N) ≤ 1048576 := by unfold nb at hb ⊢; omega
 have hw := bwd_le N f i
 have mono : ∀ d j, bat N f j ≤ bat N f (j + d) := by
  intro d
  induction d with
  | zero => intro j; exact Nat.le_refl _
  | succ d ih => intro j; have := ih j; rw [show j + (d + 1) = j + d + 1 by omega, bat]; omega
 have hm : bat N f (i + 1) ≤ bat N f (nb N) := by
  have := mono (nb N - (i + 1)) (i + 1)
  rw [show i + 1 + (nb N - (i + 1)) = nb N by omega] at this
  exact this
 rw [bat] at hm
 have ck := chk_rowOf (bat N f (nb N)) (fun j => (bofP N f (nb N)).getD j false) hb2
 rw [wdN_k _ (bcl_le N f i), show kwd (bcl N f i) = bwd N f i from rfl]
 have e0 : slcE (bat N f (nb N)) (rowOf (bat N f (nb N)) fun j => (bofP N f (nb N)).getD j false) (bat N f i) (bwd N f i) = 0 := by
  unfold slcE
  rw [if_neg (by rw [ck]; simp; omega), if_neg (by omega)]
 refine ⟨e0, ?_⟩
 unfold slcX
 rw [if_pos e0, Int.toNat_natCast, Int.toNat_natCast, ← num_bits (bof N f i) (bwd N f i) (bof_fit N f i)]
 rw [num_bits (bof N f i) (bwd N f i) (bof_fit N f i)]
 refine (eq_numOf _ _ _ fun k => ?_).symm
 by_cases c : k < bwd N f i
 ·rw [bitAt_rowOf, List.getD_eq_getElem?_getD, bofP_get N f (nb N) i k hi c]
  simp [c, show bat N f i + k < bat N f (nb N) by omega]
 ·have : bof N f i < 2 ^ k := Nat.lt_of_lt_of_le (bof_fit N f i) (Nat.pow_le_pow_right (by decide) (by omega))
  rw [Nat.testBit_lt_two_pow this]
  simp [c]
end Bit
end Go.Proofs.YtfnkklkdajlhlaaGreatDoor
namespace Go.Proofs.YtfnkklkdajlhlaaGreatDoor
open Go.RowKit Num Bit
theorem Tryz.info4 : (Tryz.prog.info? 4).map (fun i => (i.zero, i.size, i.bytes)) = some (some (.bool false), 1, 1) := by kernel_rfl
def bvl (l : List Bool) : List Value := l.map fun b => Value.bool b
end Go.Proofs.YtfnkklkdajlhlaaGreatDoor
namespace Go.Proofs.YtfnkklkdajlhlaaGreatDoor
open Go.RowKit Num Bn
namespace Ow
theorem below_alloc (w : World) (o : Obj) : Below w.heap.size w (w.alloc o) := (Below.refl _ _).alloc (Nat.le_refl _) _
def gt (xs : List Nat) (i : Nat) : Nat := xs.getD i 0
theorem gt_get (xs : List Nat) (i : Nat) (h : i < xs.length) : xs[i]? = some (gt xs i) := by
 unfold gt
 rw [List.getD_eq_getElem?_getD, List.getElem?_eq_getElem h]; rfl
theorem gt_map (f : Nat → Nat) (n i : Nat) (h : i < n) : gt ((List.range n).map f) i = f i := by
 unfold gt
 rw [List.getD_eq_getElem?_getD, List.getElem?_map, List.getElem?_range h]; rfl
theorem gt_set (ys : List Nat) (j i v : Nat) (hj : j < ys.length) : gt (ys.set j v) i = if j = i then v else gt ys i := by
 unfold gt
 rw [List.getD_eq_getElem?_getD, List.getD_eq_getElem?_getD, List.getElem?_set]
 by_cases c : j = i
 ·subst c; simp [hj]
 ·simp [c]
theorem list_ext {xs ys : List Nat} (hl : xs.length = ys.length) (h : ∀ i, i < xs.length → gt xs i = gt ys i) : xs = ys := by
 refine List.ext_getElem? fun i => ?_
 by_cases c : i < xs.length
 ·rw [gt_get xs i c, gt_get ys i (by omega), h i c]
 ·rw [List.getElem?_eq_none (by omega), List.getElem?_eq_none (by omega)]
def wv (ys : List Nat) : List Value := ys.map fun y : Nat => Value.int .u64 (y : Int)
theorem length_wv (ys : List Nat) : (wv ys).length = ys.length := by simp [wv]
def Own (w : World) (g : Nat) (ys : List Nat) : Prop := w.heap[g]? = some (.cells (wv ys).toArray 110 (0, 0))
theorem own_made {w : World} {base g n : Nat} (h : w.ownsRow base 110 1 (.slice (some ⟨g, 0, none⟩) n n) n (madeCells #[.int .u64 0] n).toList) : Own w g (List.replicate n 0) := by
 obtain ⟨_, h | ⟨g', cap, cur, e, _, hh, _, _, hs, ht⟩⟩ := h
 ·simp at h
 ·simp only [Value.slice.injEq, Option.some.injEq, Addr.mk.injEq] at e
  obtain ⟨⟨rfl, _, _⟩, _, rfl⟩ := e
  unfold Own
  rw [hh]
  have e2 : (madeCells #[.int .u64 0] n).toList = wv (List.replicate n 0) := by
   rw [toList_madeCells_one (.int .u64 0) n, wv, List.map_replicate]
   rfl
  rw [e2] at ht
  have e3 : cur.toList.take (n * 1) = cur.toList := List.take_of_length_le (by simp; omega)
  rw [e3] at ht
  rw [← ht]
theorem Own.cell {w : World} {g : Nat} {ys : List Nat} (h : Own w g ys) (j : Nat) (hj : j < ys.length) : w.cell? ⟨g, j, none⟩ = some (.int .u64 (gt ys j)) := by
 unfold World.cell?
 rw [show w.heap[({ block := g, off := j, spot := none } : Addr).block]? = _ from h]
 simp only [List.getElem?_toArray, wv, List.getElem?_map, gt_get ys j hj]
 rfl
theorem Own.frozen {w : World} {g : Nat} {ys : List Nat} (h : Own w g ys) (j : Nat) : w.frozen? ⟨g, j, none⟩ = false := by
 unfold World.frozen?
 rw [show w.heap[({ block := g, off := j, spot := none } : Addr).block]? = _ from h]
 simp
theorem Own.lt {w : World} {g : Nat} {ys : List Nat} (h : Own w g ys) : g < w.heap.size := (Array.getElem?_eq_some_iff.1 h).1
theorem Own.set {w : World} {g : Nat} {ys : List Nat} (h : Own w g ys) (j v : Nat) : Own (w.setCell ⟨g, j, none⟩ (.int .u64 v)) g (ys.set j v) := by
 unfold Own at h ⊢
 simp only [World.setCell, Array.getElem?_modify]
 rw [if_pos trivial, h]
 simp [wv, List.map_set]
theorem Own.drew {w : World} {g : Nat} {ys : List Nat} (h : Own w g ys) : Own w.drew g ys := h
def rowP (n i : Nat) : List Nat := (List.range (n + 1)).map (ch i)
def pas (n i j : Nat) : List Nat := (List.range (n + 1)).map fun t => if j < t then ch i t else ch (i - 1) t
theorem length_pas (n i j : Nat) : (pas n i j).length = n + 1 := by simp [pas]
theorem length_rowP (n i : Nat) : (rowP n i).length = n + 1 := by simp [rowP]
theorem pas_first (n i : Nat) : pas n i i = rowP n (i - 1) := by
 unfold pas rowP
 refine List.map_congr_left fun t _ => ?_
 by_cases c : i < t
 ·rw [if_pos c, ch_out i t c, ch_out (i - 1) t (by omega)]
 ·rw [if_neg c]
theorem pas_last (n i : Nat) : pas n i 0 = rowP n i := by
 unfold pas rowP
 refine List.map_congr_left fun t _ => ?_
 by_cases c : 0 < t
 ·rw [if_pos c]
 ·obtain rfl : t = 0 := by omega
  rw [if_neg c, ch_zero, ch_zero]
theorem gt_pas (n i j t : Nat) (h : t ≤ n) : gt (pas n i j) t = if j < t then ch i t else ch (i - 1) t := gt_map _ _ _ (by omega)
theorem gt_rowP (n i t : Nat) (h : t ≤ n) : gt (rowP n i) t = ch i t := gt_map _ _ _ (by omega)
theorem pas_step (n i j : Nat) (hi : 1 ≤ i) (hj : 1 ≤ j) (hn : j ≤ n) : (pas n i j).set j (ch (i - 1) j + ch (i - 1) (j - 1)) = pas n i (j - 1) := by
 refine list_ext (by rw [List.length_set, length_pas, length_pas]) fun t ht => ?_
 rw [List.length_set, length_pas] at ht
 rw [gt_set _ _ _ _ (by rw [length_pas]; omega), gt_pas _ _ _ _ (by omega), gt_pas _ _ _ _ (by omega)]
 by_cases c : j = t
 ·subst c
  obtain ⟨a, rfl⟩ : ∃ a, i = a + 1 := ⟨i - 1, by omega⟩
  obtain ⟨b, rfl⟩ : ∃ b, j = b + 1 := ⟨j - 1, by omega⟩
  rw [if_pos rfl, if_pos (by omega), ch_succ, Nat.add_sub_cancel, Nat.add_sub_cancel]
  omega
 ·rw [if_neg c]
  by_cases d : j < t
  ·rw [if_pos d, if_pos (by omega)]
  ·rw [if_neg d, if_neg (by omega)]
theorem row_start (n : Nat) : (List.replicate (n + 1) 0).set 0 1 = rowP n 0 := by
 refine list_ext (by rw [List.length_set, length_rowP, List.length_replicate]) fun t ht => ?_
 rw [List.length_set, List.length_replicate] at ht
 rw [gt_set _ _ _ _ (by simp), gt_rowP _ _ _ (by omega)]
 by_cases c : 0 = t
 ·subst c; rw [if_pos rfl, ch_zero]
 ·rw [if_neg c, ch_out 0 t (by omega)]
  unfold gt
  rw [List.getD_eq_getElem?_getD, List.getElem?_replicate]
  split <;> rfl
end Ow
end Go.Proofs.YtfnkklkdajlhlaaGreatDoor
