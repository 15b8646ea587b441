/-
  The contracts of the document's New, put and From. The contracts of package ints that write: lay (bits laid over words of the call's own), asItIs (a row in words of its own). The contracts of makeable, Make and Of. The contract of the document's Make. The contract of List.
-/
import Derived.Test.YtpeecabfcgijhaaGreatDoorB01
import Derived.Test.YtpeecabfcgijhaaGreatDoorB04
import Derived.RegionTactic
import Derived.BigRegion
set_option linter.unusedVariables false
set_option linter.unusedSimpArgs false
set_option maxRecDepth 100000
set_option maxHeartbeats 16000000
namespace Go.Proofs.YtpeecabfcgijhaaGreatDoor
open Go.RowKit Num Bit
theorem refnew_ok (n : Int) (k : Nat) (w : World) (h0 : 0 ≤ n) (h1 : n ≤ 1048576) (hk : (n + 63) / 64 = (k : Int)) :
  Calls Tryz.prog 149 #[.int .i64 n] w fun e w' => ∃ g, e = .returned (.tuple #[.agg #[.int .i64 n, .slice (some ⟨g, 0, none⟩) k k], .int .i64 0]) ∧ w.heap.size ≤ g ∧ g < w'.heap.size ∧ Own w' g (List.replicate k 0) ∧ Below w.heap.size w w' := by
 obtain ⟨i0, hi, hz0, hz1, hz2⟩ := info_parts Tryz.info61
 have hk2 : k ≤ 1048576 := by omega
 go_enter Tryz.func149, Tryz.ntmps149
 go_wp2_with (first | (go_at_call 26; refine (refwords_c _ ?_ ?_ _).mono ?_; (omega); (omega); rintro e w' ⟨rfl, rfl⟩) | (at_make; refine wpList_make_full _ rfl _ _ 22 rfl (w.heap.size + 1) 61 i0 (.int .u64 0) 1 Tryz.underlying22 hi hz0 hz1 .i64 .i64 _ _ k rfl rfl rfl rfl ?b2 ?b3 ?b4 ?_))
 case b2 => rw [hz2]; omega
 case b3 => unfold maxLen; omega
 case b4 => simp
 intro w1 hown hgr
 have hb1 : Below (w.alloc (.cells #[.int .i64 0, .slice none 0 0] 24)).heap.size (w.alloc (.cells #[.int .i64 0, .slice none 0 0] 24)) w1 := (Below.refl _ _).grown hgr (Nat.le_refl _) (fun k h => by cases h)
 have hO : Own w1 (w.heap.size + 1) (List.replicate k 0) := own_made hown
 obtain ⟨k0, k1, hz, hw⟩ := box_cells hb1
 obtain ⟨k2, k3⟩ := box_frozen hb1
 have hlt := hO.lt
 clear hown hgr hi hz0 hz1 hz2 hb1
 go_wp2
 refine bodyPost_ret (v := .tuple #[.agg #[.int .i64 n, .slice (some ⟨w.heap.size + 1, 0, none⟩) k k], .int .i64 0]) (by simp [results, Tryz.results149, go_sem, k0, k1]) rfl ⟨w.heap.size + 1, rfl, by omega, ?_, ?_, ?_⟩
 ·rw [size_set, size_set]; exact hlt
 ·exact (hO.set_other (by simp) _).set_other (by simp) _
 ·exact (hw.setCell (by simp) _).setCell (by simp) _
def rputL (ys : List Nat) (p : Nat) (x : Bool) : List Nat :=
 if x then ys.set (p / 64) ((gt ys (p / 64) &&& (18446744073709551615 - 2 ^ (p % 64))) ||| 2 ^ (p % 64)) else ys.set (p / 64) (gt ys (p / 64) &&& (18446744073709551615 - 2 ^ (p % 64)))
theorem refput_c (ys : List Nat) (g cap p : Nat) (x : Bool) (w : World) (hO : Own w g ys) (hp : p ≤ 2097152) (hf : Fit ys) (h1 : p / 64 < ys.length) :
  Calls Tryz.prog 150 #[.slice (some ⟨g, 0, none⟩) ys.length cap, .int .i64 p, .bool x] w fun e w' => e = .returned (.tuple #[]) ∧ Own w' g (rputL ys p x) ∧ Turned g w w' := by
 have l1' : (p : Int) / 64 < (ys.length : Int) := by omega
 have e1 := hO.cell (p / 64) h1
 have f1 := hO.frozen (p / 64)
 have SO : Hid (IntKind.u64.wrap ((2 : Int) ^ (p % 64)) = ((2 ^ (p % 64) : Nat) : Int)) := shl_one _ (by omega)
 have SP : Hid (2 ^ (p % 64) < 18446744073709551616) := two_pow_lt _ (by omega)
 have SA : Hid (gt ys (p / 64) &&& (18446744073709551615 - 2 ^ (p % 64)) < 18446744073709551616) := Nat.lt_of_le_of_lt Nat.and_le_left (hf _)
 cases x with
 | false =>
  go_enter Tryz.func150, Tryz.ntmps150
  go_wp2
  go_end0
  rw [SO.out, u64_andNot_nat _ _ (hf _) SP.out]
  exact ⟨rfl, hO.set _ _, (Turned.refl _ _).set _ _⟩
 | true =>
  go_enter Tryz.func150, Tryz.ntmps150
  go_wp2
  go_end0
  rw [SO.out, u64_andNot_nat _ _ (hf _) SP.out, u64_or_nat _ _ SA.out SP.out]
  refine ⟨rfl, ?_, ((Turned.refl _ _).set _ _).set _ _⟩
  have h := (hO.set (p / 64) (gt ys (p / 64) &&& (18446744073709551615 - 2 ^ (p % 64)))).set (p / 64) ((gt ys (p / 64) &&& (18446744073709551615 - 2 ^ (p % 64))) ||| 2 ^ (p % 64))
  rw [List.set_set] at h
  exact h
theorem rput_row (N : Int) (xs : List Nat) (hf : Fit xs) (hk : chk N xs = true) (n : Nat) (hn : (n : Int) < N) (x : Bool) :
  rputL xs n x = rowOf N.toNat (fun j => if j = n then x else bitAt xs j) := by
 cases x with
 | false => exact set_row_false N xs hf hk n hn
 | true =>
  have e := set_row_true N xs hf hk n hn
  rw [← e]
  unfold rputL
  rw [if_pos rfl]
  congr 1
  refine eq_of_bits _ _ (or_lt _ _ (Nat.lt_of_le_of_lt Nat.and_le_left (hf _)) (two_pow_lt _ (by omega))) (or_lt _ _ (hf _) (two_pow_lt _ (by omega))) fun k hk64 => ?_
  rw [Nat.testBit_or, Nat.testBit_or, Nat.testBit_and, test_not_pow _ _ (by omega) hk64, Nat.testBit_two_pow]
  by_cases c : n % 64 = k <;> simp [c]
theorem refput_l (ys : List Nat) (l g cap p : Nat) (x : Bool) (w : World) (hl : ys.length = l) (hO : Own w g ys) (hp : p ≤ 2097152) (hf : Fit ys) (h1 : p / 64 < l) :
  Calls Tryz.prog 150 #[.slice (some ⟨g, 0, none⟩) l cap, .int .i64 p, .bool x] w fun e w' => e = .returned (.tuple #[]) ∧ Own w' g (rputL ys p x) ∧ Turned g w w' := by
 subst hl
 exact refput_c ys g cap p x w hO hp hf h1
theorem from_put (l : List Bool) (q : Nat) (hq : q < l.length) (hl : l.length ≤ 1048576) : rputL (fromS l q) q (bt l q) = fromS l (q + 1) := by
 have e := rput_row l.length (fromS l q) (fit_rowOf _ _) (chk_rowOf _ _ hl) q (by omega) (bt l q)
 rw [e, Int.toNat_natCast]
 refine rowOf_congr _ _ _ fun i hi => ?_
 unfold fromS
 rw [bitAt_rowOf]
 by_cases c : i = q
 ·subst c; simp
 ·rw [if_neg c]
  by_cases c2 : i < q
  ·simp [hi, c2, show i < q + 1 by omega]
  ·simp [c2, show ¬ i < q + 1 by omega]
theorem reffrom_ok (ao : Option Addr) (l : List Bool) (cap k : Nat) (w : World) (hx : Bl w ao l) (hl : l.length ≤ 1048576) (hk : k = (l.length + 63) / 64) :
  Calls Tryz.prog 95 #[.slice ao l.length cap] w fun e w' => ∃ g, e = .returned (.tuple #[.agg #[.int .i64 l.length, .slice (some ⟨g, 0, none⟩) k k], .int .i64 0]) ∧ w.heap.size ≤ g ∧ Own w' g (fromS l l.length) ∧ Below w.heap.size w w' := by
 have HK : Hid (k = (l.length + 63) / 64) := hk
 have hk1 : ((l.length : Int) + 63) / 64 = (k : Int) := by omega
 have HK1 : Hid (((l.length : Int) + 63) / 64 = (k : Int)) := hk1
 clear hk hk1
 go_enter Tryz.func95, Tryz.ntmps95
 go_wp2_with fail
 refine (refnew_ok _ k _ (Int.natCast_nonneg _) (by omega) HK1.out).mono ?_
 rintro e w1 ⟨g, rfl, hg1, hg2, hO, hb⟩
 have KK := box_cells hb
 have KF := box_frozen hb
 have hg0 : w.heap.size + 1 ≤ g := by simpa using hg1
 clear hb hg1
 obtain ⟨k0, k1, hz, hw⟩ := KK
 obtain ⟨k2, k3⟩ := KF
 go_wp2
 go_loopw [6] (fun i wr => ∃ q : Nat, q ≤ l.length ∧ i = .int .i64 q ∧ Own wr g (fromS l q) ∧ (wr.cell? ⟨w1.heap.size, 0, none⟩ = some (.int .i64 l.length) ∧ wr.cell? ⟨w1.heap.size, 1, none⟩ = some (.slice (some ⟨g, 0, none⟩) k k)) ∧ (wr.cell? ⟨w.heap.size, 0, none⟩ = some (.int .i64 0) ∧ wr.cell? ⟨w.heap.size, 1, none⟩ = some (.slice none 0 0) ∧ wr.frozen? ⟨w.heap.size, 0, none⟩ = false ∧ wr.frozen? ⟨w.heap.size, 1, none⟩ = false) ∧ Below w.heap.size w wr) (fun i _ => l.length - (intOf i).toNat)
 case atStart =>
  have hb := below_alloc w1 (.cells #[.int .i64 l.length, .slice (some ⟨g, 0, none⟩) k k] 24)
  refine ⟨0, Nat.zero_le _, rfl, ?_, ⟨by simp, by simp⟩, ⟨(hb.cell (p := ⟨w.heap.size, 0, none⟩) hz).trans k0, (hb.cell (p := ⟨w.heap.size, 1, none⟩) hz).trans k1, (hb.frozen (p := ⟨w.heap.size, 0, none⟩) hz).trans k2, (hb.frozen (p := ⟨w.heap.size, 1, none⟩) hz).trans k3⟩, hw.trans (hb.mono (by omega))⟩
  have e1 : fromS l 0 = List.replicate k 0 := by
   rw [rep_row l.length k HK.out]
   exact rowOf_congr _ _ _ fun i _ => by simp
  rw [e1]
  exact hO.keep hb
 case round =>
  obtain ⟨q, hq, rfl, hOr, ⟨r0, r1⟩, ⟨r3, r4, r5, r6⟩, hwr⟩ := hrel
  by_cases hlt : q < l.length
  ·obtain ⟨b, off, rfl, hb, hc⟩ := hx (by omega)
   have e1 := (hwr.cell (p := ⟨b, off + q, none⟩) hb).trans (hc q hlt)
   have hlt3 : (q : Int) < (l.length : Int) := by omega
   have HQ : Hid (q / 64 < k) := by have := HK.out; unfold Hid; omega
   have FS : Hid (rputL (fromS l q) q (bt l q) = fromS l (q + 1)) := from_put l q hlt hl
   have HLN : Hid ((fromS l q).length = k) := by unfold Hid; rw [length_fromS]; exact HK.out.symm
   clear hc
   go_wp2
   go_region_held3 (fun w' => w'.cell? ⟨w1.heap.size, 1, none⟩ = some (.slice (some ⟨g, 0, none⟩) k k) ∧ w'.cell? ⟨b, off + q, none⟩ = some (.bool (bt l q))) (first | go_keep | (refine ⟨?_, ?_⟩ <;> assumption))
    (first | (go_at_call 150; refine (refput_l (fromS l q) k g k q (bt l q) _ HLN.out ?_ (by omega) (fit_fromS l q) HQ.out).mono ?_; (exact hOr); rintro e w4 ⟨rfl, hO4, hT⟩; have q0 := (hT.cell (p := ⟨w1.heap.size, 0, none⟩) (show w1.heap.size ≠ g by omega)).trans r0; have q1 : w4.cell? ⟨w1.heap.size, 1, none⟩ = some (.slice (some ⟨g, 0, none⟩) k k) := (hT.cell (p := ⟨w1.heap.size, 1, none⟩) (show w1.heap.size ≠ g by omega)).trans r1; have q2 : w4.cell? ⟨b, off + q, none⟩ = some (.bool (bt l q)) := (hT.cell (p := ⟨b, off + q, none⟩) (show b ≠ g by omega)).trans e1; have q3 := (hT.cell (p := ⟨w.heap.size, 0, none⟩) (show w.heap.size ≠ g by omega)).trans r3; have q4 := (hT.cell (p := ⟨w.heap.size, 1, none⟩) (show w.heap.size ≠ g by omega)).trans r4; have q5 := (hT.frozen (p := ⟨w.heap.size, 0, none⟩) (show w.heap.size ≠ g by omega)).trans r5; have q6 := (hT.frozen (p := ⟨w.heap.size, 1, none⟩) (show w.heap.size ≠ g by omega)).trans r6; have hw4 := hwr.trans (Below.trans (Below.drew (Below.refl _ _)) (hT.below (B := w.heap.size) (by omega))); clear hT))
   go_wp2
   rw [FS.out] at hO4
   exact ⟨⟨q + 1, by omega, by go_num, hO4, ⟨q0, q1⟩, ⟨q3, q4, q5, q6⟩, hw4⟩, by simp only [intOf]; omega⟩
  ·have hq2 : q = l.length := by omega
   rw [hq2] at hOr
   clear hq2
   go_wp2
   refine bodyPost_ret (v := .tuple #[.agg #[.int .i64 l.length, .slice (some ⟨g, 0, none⟩) k k], .int .i64 0]) (by simp [results, Tryz.results95, go_sem, r3, r4]) rfl ⟨g, rfl, by omega, ?_, ?_⟩
   ·exact (hOr.set_other (by simp; omega) _).set_other (by simp; omega) _
   ·exact (hwr.setCell (by simp) _).setCell (by simp) _
theorem Turned.drew {g : Nat} {a w : World} (h : Turned g a w) : Turned g a w.drew := ⟨h.os, h.tape, h.output, h.size, h.block⟩
theorem Own.drew {w : World} {g : Nat} {ys : List Nat} (h : Own w g ys) : Own w.drew g ys := h
theorem mask_n (W m : Nat) (hm : maskI (W : Int) = (m : Int)) (w : World) :
  Calls Tryz.prog 132 #[.int .i64 W] w fun e w' => e = .returned (.int .u64 (m : Int)) ∧ w' = w := by
 have h := mask_c (W : Int) w
 rw [hm] at h
 exact h
theorem mask_is (W : Nat) (h : W ≤ 64) : maskI (W : Int) = ((2 ^ W - 1 : Nat) : Int) := by
 unfold maskI
 rw [Int.toNat_natCast, Nat.min_eq_left h]
theorem lay_c (ys : List Nat) (l g cap p W v : Nat) (w : World) (hl : ys.length = l) (hO : Own w g ys) (hf : Fit ys) (hW : 1 ≤ W) (hW2 : W ≤ 64) (hv : v < 18446744073709551616) (hp : p + W ≤ 64 * ys.length) (hpb : p ≤ 1048576) :
  Calls Tryz.prog 164 #[.slice (some ⟨g, 0, none⟩) l cap, .int .i64 p, .int .i64 W, .int .u64 v] w fun e w' => e = .returned (.tuple #[]) ∧ Own w' g (layL ys p W v) ∧ Turned g w w' := by
 subst hl
 obtain ⟨m, hm⟩ : ∃ m : Nat, m = 2 ^ W - 1 := ⟨_, rfl⟩
 have hmm : Hid (maskI (W : Int) = (m : Int)) := by rw [hm]; exact mask_is W hW2
 have hmb : Hid (m < 18446744073709551616) := by
  have := Nat.pow_le_pow_right (n := 2) (j := 64) (by decide) hW2
  rw [show (2 : Nat) ^ 64 = 18446744073709551616 from rfl] at this
  unfold Hid; omega
 have h1 : p / 64 < ys.length := by omega
 have l1' : (p : Int) / 64 < (ys.length : Int) := by omega
 have e1 := hO.cell (p / 64) h1
 have f1 := hO.frozen (p / 64)
 have A1 : Hid (bits .andNot .u64 (gt ys (p / 64) : Int) ((m * 2 ^ (p % 64) % 18446744073709551616 : Nat) : Int) = ((gt ys (p / 64) &&& (18446744073709551615 - m * 2 ^ (p % 64) % 18446744073709551616) : Nat) : Int)) := u64_andNot_nat _ _ (hf _) (Nat.mod_lt _ (by decide))
 have A2 : Hid (bits .or .u64 ((gt ys (p / 64) &&& (18446744073709551615 - m * 2 ^ (p % 64) % 18446744073709551616) : Nat) : Int) ((v * 2 ^ (p % 64) % 18446744073709551616 : Nat) : Int) = (((gt ys (p / 64) &&& (18446744073709551615 - m * 2 ^ (p % 64) % 18446744073709551616)) ||| v * 2 ^ (p % 64) % 18446744073709551616 : Nat) : Int)) := u64_or_nat _ _ (Nat.lt_of_le_of_lt Nat.and_le_left (hf _)) (Nat.mod_lt _ (by decide))
 have HM : Hid (m = 2 ^ W - 1) := hm
 clear hm
 by_cases c : 64 - p % 64 < W
 ·have c' : (64 : Int) - (p : Int) % 64 < (W : Int) := by omega
  have h2 : p / 64 + 1 < ys.length := by omega
  have l2' : (p : Int) / 64 + 1 < (ys.length : Int) := by omega
  have e2 := hO.cell (p / 64 + 1) h2
  have f2 := hO.frozen (p / 64 + 1)
  have B1 : Hid (bits .andNot .u64 (gt ys (p / 64 + 1) : Int) ((m / 2 ^ (64 - p % 64) : Nat) : Int) = ((gt ys (p / 64 + 1) &&& (18446744073709551615 - m / 2 ^ (64 - p % 64)) : Nat) : Int)) := u64_andNot_nat _ _ (hf _) (Nat.lt_of_le_of_lt (Nat.div_le_self _ _) hmb.out)
  have B2 : Hid (bits .or .u64 ((gt ys (p / 64 + 1) &&& (18446744073709551615 - m / 2 ^ (64 - p % 64)) : Nat) : Int) ((v / 2 ^ (64 - p % 64) : Nat) : Int) = (((gt ys (p / 64 + 1) &&& (18446744073709551615 - m / 2 ^ (64 - p % 64))) ||| v / 2 ^ (64 - p % 64) : Nat) : Int)) := u64_or_nat _ _ (Nat.lt_of_le_of_lt Nat.and_le_left (hf _)) (Nat.lt_of_le_of_lt (Nat.div_le_self _ _) hv)
  have R : Hid (layL ys p W v = ((ys.set (p / 64) ((gt ys (p / 64) &&& (18446744073709551615 - m * 2 ^ (p % 64) % 18446744073709551616)) ||| v * 2 ^ (p % 64) % 18446744073709551616)).set (p / 64 + 1) ((gt ys (p / 64 + 1) &&& (18446744073709551615 - m / 2 ^ (64 - p % 64))) ||| v / 2 ^ (64 - p % 64)))) := by
   unfold Hid layL lay1; rw [if_pos c, HM.out]
  clear c
  go_enter Tryz.func164, Tryz.ntmps164
  go_wp2_with (go_at_call 132; refine (mask_n _ _ hmm.out _).mono ?_; rintro e w' ⟨rfl, rfl⟩)
  go_region
  go_wp2
  go_region
  go_wp2
  go_end0
  rw [R.out, shl_nat, shl_nat, A1.out, A2.out, shr_cast, shr_cast, B1.out, B2.out]
  exact ⟨rfl, ((hO.set _ _).set _ _).drew.drew, (((Turned.refl _ _).set _ _).set _ _).drew.drew⟩
 ·have c' : ¬ (64 : Int) - (p : Int) % 64 < (W : Int) := by omega
  have R : Hid (layL ys p W v = (ys.set (p / 64) ((gt ys (p / 64) &&& (18446744073709551615 - m * 2 ^ (p % 64) % 18446744073709551616)) ||| v * 2 ^ (p % 64) % 18446744073709551616))) := by
   unfold Hid layL lay1; rw [if_neg c, HM.out]
  clear c
  go_enter Tryz.func164, Tryz.ntmps164
  go_wp2_with (go_at_call 132; refine (mask_n _ _ hmm.out _).mono ?_; rintro e w' ⟨rfl, rfl⟩)
  go_region
  go_wp2
  go_end0
  rw [R.out, shl_nat, shl_nat, A1.out, A2.out]
  exact ⟨rfl, (hO.set _ _).drew, ((Turned.refl _ _).set _ _).drew⟩
theorem imE_zero (W : Int) (l : List Nat) (h : imE W l = 0) : 1 ≤ W ∧ W ≤ 64 ∧ (l.length : Int) * W ≤ 1048576 ∧ ∀ j, j < l.length → lenI (gt l j) ≤ W := by
 unfold imE at h
 by_cases c : W < 1 ∨ 64 < W ∨ 1048576 < (l.length : Int) * W ∨ ¬ (∀ j, j < l.length → lenI (gt l j) ≤ W)
 ·rw [if_pos c] at h; omega
 ·refine ⟨by omega, by omega, by omega, ?_⟩
  exact Classical.byContradiction fun hc => c (.inr (.inr (.inr hc)))
theorem imE_bad (W : Int) (l : List Nat) (h : imE W l ≠ 0) : imE W l = 2 := by
 unfold imE at *
 split at h
 ·rename_i c; rw [if_pos c]
 ·exact absurd rfl h
theorem quo_le (W n : Int) (h0 : 1 ≤ W) : n ≤ 1048576 / W ↔ n * W ≤ 1048576 := Int.le_ediv_iff_mul_le (by omega)
theorem quo_bd (W : Int) (h0 : 1 ≤ W) : 0 ≤ 1048576 / W ∧ 1048576 / W ≤ 1048576 := ⟨Int.ediv_nonneg (by decide) (by omega), Int.ediv_le_self _ (by decide)⟩
theorem makeable_ok (W : Int) (al : Option Addr) (l : List Nat) (cap : Nat) (w : World) (hx : Wd w al l) (hf : Fit l) (hE : imE W l = 0) :
  Calls Tryz.prog 162 #[.int .i64 W, .slice al l.length cap] w fun e w' => e = .returned .nilIface ∧ w' = w := by
 obtain ⟨a1, a2, a3, a4⟩ := imE_zero W l hE
 have q1 : (l.length : Int) ≤ 1048576 / W := (quo_le W _ a1).2 a3
 obtain ⟨q2, q3⟩ := quo_bd W a1
 have hll : l.length ≤ 1048576 := by omega
 have HA : Hid (∀ j, j < l.length → lenI (gt l j) ≤ W) := a4
 clear hE a3 a4
 go_enter Tryz.func162, Tryz.ntmps162
 go_wp2_with (go_at_call 177; refine (wide_ok _ ?_ ?_ _).mono ?_; exact a1; exact a2; rintro e w' ⟨rfl, rfl⟩)
 go_loop [23] (fun i => ∃ k : Nat, k ≤ l.length ∧ i = .int .i64 k) (fun i => l.length - (intOf i).toNat)
 case atStart => exact ⟨0, by omega, rfl⟩
 case round =>
  obtain ⟨k, hk, rfl⟩ := hrel
  by_cases hlt : k < l.length
  ·obtain ⟨b, off, rfl, hb, hc⟩ := hx (by omega)
   have e1 := hc k hlt
   have hlt3 : (k : Int) < (l.length : Int) := by omega
   have F1 : Hid ((gt l k : Int) < 18446744073709551616) := by unfold Hid; have := hf k; omega
   clear hc
   go_wp2_with (go_at_call 178; refine (narrow_ok _ _ ?_ ?_ ?_ _).mono ?_; (exact Int.natCast_nonneg _); exact F1.out; (exact HA.out k hlt); rintro e w' ⟨rfl, rfl⟩)
   go_round
   case rel => exact ⟨k + 1, by omega, by go_num⟩
   case measure => simp only [intOf]; omega
  ·go_wp2
   go_ret
   exact ⟨rfl, rfl⟩
theorem make_ok (W : Nat) (al : Option Addr) (l : List Nat) (cap k : Nat) (w : World) (hx : Wd w al l) (hf : Fit l) (hE : imE (W : Int) l = 0) (hk : k = (l.length * W + 63) / 64) :
  Calls Tryz.prog 128 #[.int .i64 W, .slice al l.length cap] w fun e w' => ∃ g, e = .returned (.tuple #[.agg #[.int .i64 l.length, .int .i64 W, .int .i64 ((l.length : Int) * W), .slice (some ⟨g, 0, none⟩) k k], .int .i64 0]) ∧ w.heap.size ≤ g ∧ Own w' g (mkS l W l.length) ∧ Below w.heap.size w w' := by
 obtain ⟨a1, a2, a3, a4⟩ := imE_zero W l hE
 have K : ∀ o, Wd (w.alloc o) al l := fun o => hx.keep (below_alloc w o)
 have hm : l.length * W ≤ 1048576 := by
  have : ((l.length * W : Nat) : Int) ≤ 1048576 := by rw [Int.natCast_mul]; exact a3
  omega
 have hll : l.length ≤ 1048576 := Nat.le_trans (Nat.le_mul_of_pos_right _ (by omega)) hm
 have hmi : (0 : Int) ≤ (l.length : Int) * (W : Int) := Int.mul_nonneg (by omega) (by omega)
 have HK : Hid (k = (l.length * W + 63) / 64) := hk
 have HK1 : Hid (((l.length : Int) * W + 63) / 64 = (k : Int)) := by unfold Hid; rw [← Int.natCast_mul]; omega
 have HE : Hid (imE (W : Int) l = 0) := hE
 have HA : Hid (∀ j, j < l.length → gt l j < 2 ^ W) := fun j hj => (lenI_fit _ _).1 (a4 j hj)
 clear hk hE a4
 go_enter Tryz.func128, Tryz.ntmps128
 go_wp2_with fail
 refine (makeable_ok _ _ _ _ _ (K _) hf HE.out).mono ?_
 rintro e w' ⟨rfl, hw'⟩
 subst hw'
 go_wp2_with fail
 refine (new_ok _ k _ hmi a3 HK1.out).mono ?_
 rintro e w1 ⟨g, rfl, hg1, hg2, hO, hb⟩
 have KF : w1.frozen? ⟨w.heap.size, 0, none⟩ = false ∧ w1.frozen? ⟨w.heap.size, 1, none⟩ = false ∧ w1.frozen? ⟨w.heap.size, 2, none⟩ = false ∧ w1.frozen? ⟨w.heap.size, 3, none⟩ = false :=
  ⟨(hb.frozen (p := ⟨w.heap.size, 0, none⟩) (by simp)).trans (by simp), (hb.frozen (p := ⟨w.heap.size, 1, none⟩) (by simp)).trans (by simp), (hb.frozen (p := ⟨w.heap.size, 2, none⟩) (by simp)).trans (by simp), (hb.frozen (p := ⟨w.heap.size, 3, none⟩) (by simp)).trans (by simp)⟩
 have KK := Box4.new hb
 have hg0 : w.heap.size + 1 ≤ g := by simpa using hg1
 clear hb hg1 K
 obtain ⟨⟨hz, k0, k1, k2, k3⟩, hw⟩ := KK
 obtain ⟨f0, f1, f2, f3⟩ := KF
 go_wp2
 go_loopw [33] (fun i wr => ∃ q : Nat, q ≤ l.length ∧ i = .int .i64 q ∧ Own wr g (mkS l W q) ∧ (wr.cell? ⟨w1.heap.size, 0, none⟩ = some (.int .i64 ((l.length : Int) * W)) ∧ wr.cell? ⟨w1.heap.size, 1, none⟩ = some (.slice (some ⟨g, 0, none⟩) k k)) ∧ (wr.cell? ⟨w.heap.size, 0, none⟩ = some (.int .i64 0) ∧ wr.cell? ⟨w.heap.size, 1, none⟩ = some (.int .i64 0) ∧ wr.cell? ⟨w.heap.size, 2, none⟩ = some (.int .i64 0) ∧ wr.cell? ⟨w.heap.size, 3, none⟩ = some (.slice none 0 0)) ∧ (wr.frozen? ⟨w.heap.size, 0, none⟩ = false ∧ wr.frozen? ⟨w.heap.size, 1, none⟩ = false ∧ wr.frozen? ⟨w.heap.size, 2, none⟩ = false ∧ wr.frozen? ⟨w.heap.size, 3, none⟩ = false) ∧ Below w.heap.size w wr) (fun i _ => l.length - (intOf i).toNat)
 case atStart =>
  have hb := below_alloc w1 (.cells #[.int .i64 ((l.length : Int) * W), .slice (some ⟨g, 0, none⟩) k k] 24)
  refine ⟨0, Nat.zero_le _, rfl, ?_, ⟨by simp, by simp⟩, ⟨(hb.cell (p := ⟨w.heap.size, 0, none⟩) hz).trans k0, (hb.cell (p := ⟨w.heap.size, 1, none⟩) hz).trans k1, (hb.cell (p := ⟨w.heap.size, 2, none⟩) hz).trans k2, (hb.cell (p := ⟨w.heap.size, 3, none⟩) hz).trans k3⟩, ⟨(hb.frozen (p := ⟨w.heap.size, 0, none⟩) hz).trans f0, (hb.frozen (p := ⟨w.heap.size, 1, none⟩) hz).trans f1, (hb.frozen (p := ⟨w.heap.size, 2, none⟩) hz).trans f2, (hb.frozen (p := ⟨w.heap.size, 3, none⟩) hz).trans f3⟩, hw.trans (hb.mono (by omega))⟩
  rw [← mkS_zero, ← rep_row (l.length * W) k HK.out]
  exact hO.keep hb
 case round =>
  obtain ⟨q, hq, rfl, hOr, ⟨r0, r1⟩, ⟨s0, s1, s2, s3⟩, ⟨t0, t1, t2, t3⟩, hwr⟩ := hrel
  by_cases hlt : q < l.length
  ·obtain ⟨b, off, rfl, hb, hc⟩ := hx (by omega)
   have e1 := (hwr.cell (p := ⟨b, off + q, none⟩) hb).trans (hc q hlt)
   have hlt3 : (q : Int) < (l.length : Int) := by omega
   have hn := mul_next l.length W q hlt
   have hqW : q * W ≤ 1048576 := by omega
   have hqi : (0 : Int) ≤ (q : Int) * (W : Int) := Int.mul_nonneg (by omega) (by omega)
   have hqi2 : (q : Int) * (W : Int) ≤ 1048576 := by rw [← Int.natCast_mul]; omega
   have FS : Hid (layL (mkS l W q) (q * W) W (gt l q) = mkS l W (q + 1)) := mkS_step l W q (by omega) (by omega) hlt (HA.out q hlt) (hf q)
   have HLN : Hid ((mkS l W q).length = k) := by unfold Hid; rw [length_mkS]; exact HK.out.symm
   have HP : Hid (q * W + W ≤ 64 * (mkS l W q).length) := by unfold Hid; rw [length_mkS]; omega
   have HC : Hid ((q : Int) * (W : Int) = ((q * W : Nat) : Int)) := (Int.natCast_mul q W).symm
   clear hc hn
   go_wp2_with fail
   rw [HC.out]
   refine (lay_c (mkS l W q) k g k (q * W) W (gt l q) _ HLN.out hOr (fit_mkS _ _ _) (by omega) (by omega) (hf q) HP.out hqW).mono ?_
   rintro e w4 ⟨rfl, hO4, hT⟩
   rw [FS.out] at hO4
   have u0 := (hT.cell (p := ⟨w1.heap.size, 0, none⟩) (show w1.heap.size ≠ g by omega)).trans r0
   have u1 := (hT.cell (p := ⟨w1.heap.size, 1, none⟩) (show w1.heap.size ≠ g by omega)).trans r1
   have x0 := (hT.cell (p := ⟨w.heap.size, 0, none⟩) (show w.heap.size ≠ g by omega)).trans s0
   have x1 := (hT.cell (p := ⟨w.heap.size, 1, none⟩) (show w.heap.size ≠ g by omega)).trans s1
   have x2 := (hT.cell (p := ⟨w.heap.size, 2, none⟩) (show w.heap.size ≠ g by omega)).trans s2
   have x3 := (hT.cell (p := ⟨w.heap.size, 3, none⟩) (show w.heap.size ≠ g by omega)).trans s3
   have y0 := (hT.frozen (p := ⟨w.heap.size, 0, none⟩) (show w.heap.size ≠ g by omega)).trans t0
   have y1 := (hT.frozen (p := ⟨w.heap.size, 1, none⟩) (show w.heap.size ≠ g by omega)).trans t1
   have y2 := (hT.frozen (p := ⟨w.heap.size, 2, none⟩) (show w.heap.size ≠ g by omega)).trans t2
   have y3 := (hT.frozen (p := ⟨w.heap.size, 3, none⟩) (show w.heap.size ≠ g by omega)).trans t3
   have hw4 := hwr.trans (hT.below (B := w.heap.size) (by omega))
   clear hT r0 r1 s0 s1 s2 s3 t0 t1 t2 t3 hwr hOr e1
   go_wp2
   exact ⟨⟨q + 1, by omega, by go_num, hO4, ⟨u0, u1⟩, ⟨x0, x1, x2, x3⟩, ⟨y0, y1, y2, y3⟩, hw4⟩, by simp only [intOf]; omega⟩
  ·have hq2 : q = l.length := by omega
   rw [hq2] at hOr
   clear hq2
   go_wp2
   refine bodyPost_ret (v := .tuple #[.agg #[.int .i64 l.length, .int .i64 W, .int .i64 ((l.length : Int) * W), .slice (some ⟨g, 0, none⟩) k k], .int .i64 0]) (by simp [results, Tryz.results128, go_sem, s0, s1, s2, s3]) rfl ⟨g, rfl, by omega, ?_, ?_⟩
   ·exact (((hOr.set_other (by simp; omega) _).set_other (by simp; omega) _).set_other (by simp; omega) _).set_other (by simp; omega) _
   ·exact (((hwr.setCell (by simp) _).setCell (by simp) _).setCell (by simp) _).setCell (by simp) _
def OutF (w w' : World) (ao : Option Addr) (ys : List Nat) (cap : Nat) : Prop := Wd w' ao ys ∧ Fit ys ∧ ys.length ≤ cap ∧ (∀ a, ao = some a → w.heap.size ≤ a.block) ∧ Below w.heap.size w w'
theorem Wd.set_other {w : World} {ao : Option Addr} {xs : List Nat} (h : Wd w ao xs) {a : Addr} (hn : ∀ p, ao = some p → p.block ≠ a.block) (v : Value) : Wd (w.setCell a v) ao xs := by
 intro hi
 obtain ⟨b, off, e, hlt, hc⟩ := h hi
 have hne := hn _ e
 refine ⟨b, off, e, by rw [size_set]; exact hlt, fun i hi => ?_⟩
 rw [← hc i hi]
 exact World.cell?_of_block (w := w) (a := ⟨b, off + i, none⟩) (Below.heap_setCell w a v b hne)
theorem info4 : (Tryz.prog.info? 4).map (fun i => (i.zero, i.size, i.bytes)) = some (some (.bool false), 1, 1) := by kernel_rfl
def bv (l : List Bool) : List Value := l.map fun b => Value.bool b
def mb (l : List Nat) (W q : Nat) : List Bool := (List.range q).map fun j => (gt l (j / W)).testBit (j % W)
theorem length_mb (l : List Nat) (W q : Nat) : (mb l W q).length = q := by simp [mb]
theorem bt_mb (l : List Nat) (W q i : Nat) (h : i < q) : bt (mb l W q) i = (gt l (i / W)).testBit (i % W) := by
 unfold bt mb
 rw [List.getD_eq_getElem?_getD, List.getElem?_map, List.getElem?_range h]
 rfl
theorem mb_succ (l : List Nat) (W i k : Nat) (hk : k < W) : bv (mb l W (i * W + k)) ++ [.bool ((gt l i).testBit k)] = bv (mb l W (i * W + k + 1)) := by
 unfold bv mb
 rw [List.range_succ, List.map_append, List.map_append]
 have e1 : (i * W + k) / W = i := by rw [Nat.mul_comm, Nat.mul_add_div (by omega), Nat.div_eq_of_lt hk]; omega
 have e2 : (i * W + k) % W = k := by rw [Nat.mul_comm, Nat.mul_add_mod, Nat.mod_eq_of_lt hk]
 simp only [List.map_cons, List.map_nil, e1, e2]
theorem mb_row (l : List Nat) (W : Nat) : fromS (mb l W (l.length * W)) (mb l W (l.length * W)).length = mkS l W l.length := by
 unfold fromS mkS
 rw [length_mb]
 refine rowOf_congr _ _ _ fun i hi => ?_
 rw [bt_mb _ _ _ _ hi]
theorem shr_bit (y q : Nat) : (((y : Int) / 2 ^ q).tmod 2 == 1) = y.testBit q := by
 rw [bit_tmod _ _ (Int.natCast_nonneg _), bit_test, Int.toNat_natCast, Bool.eq_iff_iff, beq_iff_eq, decide_eq_true_eq]
 omega
theorem bl_owns {w : World} {base n : Nat} {v : Value} {l : List Bool} (h : w.ownsRow base 4 1 v n (bv l)) : ∃ ao cap, v = .slice ao n cap ∧ Bl w ao l ∧ l.length = n := by
 have hn : l.length = n := by have := h.1; simpa [bv] using this
 obtain ⟨h1, ⟨rfl, rfl⟩ | ⟨g, cap, cur, rfl, e2, hh, r, _, hs, ht⟩⟩ := h
 ·exact ⟨none, 0, rfl, fun h => absurd h (by omega), hn⟩
 ·refine ⟨some ⟨g, 0, none⟩, cap, rfl, fun _ => ⟨g, 0, rfl, (Array.getElem?_eq_some_iff.1 hh).1, fun i hi => ?_⟩, hn⟩
  unfold World.cell?
  rw [show w.heap[({ block := g, off := 0 + i, spot := none } : Addr).block]? = _ from hh]
  have h3 : (cur.toList.take (n * 1))[i]? = some (.bool (bt l i)) := by
   rw [ht, bv, List.getElem?_map]
   unfold bt
   rw [List.getD_eq_getElem?_getD, List.getElem?_eq_getElem hi]
   rfl
  rw [List.getElem?_take_of_lt (by omega)] at h3
  simpa using h3
theorem reffrom_n (ao : Option Addr) (l : List Bool) (n cap k : Nat) (w : World) (hn : l.length = n) (hx : Bl w ao l) (hl : n ≤ 1048576) (hk : k = (n + 63) / 64) :
  Calls Tryz.prog 95 #[.slice ao n cap] w fun e w' => ∃ g, e = .returned (.tuple #[.agg #[.int .i64 n, .slice (some ⟨g, 0, none⟩) k k], .int .i64 0]) ∧ w.heap.size ≤ g ∧ Own w' g (fromS l l.length) ∧ Below w.heap.size w w' := by
 subst hn
 exact reffrom_ok ao l cap k w hx hl hk
structure RB (w wr : World) : Prop where
 c0 : wr.cell? ⟨w.heap.size, 0, none⟩ = some (.int .i64 0)
 c1 : wr.cell? ⟨w.heap.size, 1, none⟩ = some (.int .i64 0)
 c2 : wr.cell? ⟨w.heap.size, 2, none⟩ = some (.int .i64 0)
 c3 : wr.cell? ⟨w.heap.size, 3, none⟩ = some (.slice none 0 0)
 f0 : wr.frozen? ⟨w.heap.size, 0, none⟩ = false
 f1 : wr.frozen? ⟨w.heap.size, 1, none⟩ = false
 f2 : wr.frozen? ⟨w.heap.size, 2, none⟩ = false
 f3 : wr.frozen? ⟨w.heap.size, 3, none⟩ = false
 lt : w.heap.size < wr.heap.size
 bel : Below w.heap.size w wr
theorem RB.new (w : World) : RB w (w.alloc (.cells #[.int .i64 0, .int .i64 0, .int .i64 0, .slice none 0 0] 31)) := ⟨by simp, by simp, by simp, by simp, by simp, by simp, by simp, by simp, by simp, below_alloc _ _⟩
theorem RB.keep {w w1 w2 : World} (h : RB w w1) (hb : Below (w.heap.size + 1) w1 w2) : RB w w2 :=
  ⟨(hb.cell (p := ⟨w.heap.size, 0, none⟩) (by simp)).trans h.c0, (hb.cell (p := ⟨w.heap.size, 1, none⟩) (by simp)).trans h.c1, (hb.cell (p := ⟨w.heap.size, 2, none⟩) (by simp)).trans h.c2, (hb.cell (p := ⟨w.heap.size, 3, none⟩) (by simp)).trans h.c3,
   (hb.frozen (p := ⟨w.heap.size, 0, none⟩) (by simp)).trans h.f0, (hb.frozen (p := ⟨w.heap.size, 1, none⟩) (by simp)).trans h.f1, (hb.frozen (p := ⟨w.heap.size, 2, none⟩) (by simp)).trans h.f2, (hb.frozen (p := ⟨w.heap.size, 3, none⟩) (by simp)).trans h.f3,
   Nat.lt_of_lt_of_le h.lt hb.size, h.bel.trans (hb.mono (by omega))⟩
theorem RB.put {w w1 : World} (h : RB w w1) (p q r s : Value) : Box4 ((((w1.setCell ⟨w.heap.size, 0, none⟩ p).setCell ⟨w.heap.size, 1, none⟩ q).setCell ⟨w.heap.size, 2, none⟩ r).setCell ⟨w.heap.size, 3, none⟩ s) w.heap.size p q r s :=
 ⟨by simp only [size_set]; exact h.lt, by simp [go_sem, h.c0], by simp [go_sem, h.c1], by simp [go_sem, h.c2], by simp [go_sem, h.c3]⟩
theorem refmake_loop (W : Nat) (al : Option Addr) (l : List Nat) (cap k : Nat) (w : World) (hx : Wd w al l) (hf : Fit l) (a1 : 1 ≤ W) (a2 : W ≤ 64) (hm : l.length * W ≤ 1048576) (hk : k = (l.length * W + 63) / 64) :
    Calls Tryz.prog 94 #[.int .i64 W, .slice al l.length cap] w fun e w' =>
      (imE (W : Int) l = 0 ∧ ∃ g, e = .returned (.tuple #[.agg #[.int .i64 l.length, .int .i64 W, .int .i64 ((l.length : Int) * W), .slice (some ⟨g, 0, none⟩) k k], .int .i64 0]) ∧ w.heap.size ≤ g ∧ Own w' g (mkS l W l.length) ∧ Below w.heap.size w w') ∨
      (imE (W : Int) l ≠ 0 ∧ e = .returned (.tuple #[.agg #[.int .i64 0, .int .i64 0, .int .i64 0, .slice none 0 0], .int .i64 2]) ∧ Below w.heap.size w w') := by
  have hll : l.length ≤ 1048576 := Nat.le_trans (Nat.le_mul_of_pos_right _ (by omega)) hm
  have hmi : (0 : Int) ≤ (l.length : Int) * (W : Int) := Int.mul_nonneg (by omega) (by omega)
  have hmi2 : (l.length : Int) * (W : Int) ≤ 1048576 := by rw [← Int.natCast_mul]; omega
  have HK : Hid (k = (l.length * W + 63) / 64) := hk
  have d1 : decide ((W : Int) < 1) = false := by simp; omega
  have d2 : decide (64 < (W : Int)) = false := by simp; omega
  have d3 : decide ((1048576 : Int) < (l.length : Int)) = false := by simp; omega
  have HI : Hid ((∀ j, j < l.length → lenI (gt l j) ≤ W) → imE (W : Int) l = 0) := fun h => by
    unfold imE; rw [if_neg]; rintro (h1 | h1 | h1 | h1) <;> first | omega | exact h1 h
  have HJ : Hid (∀ j, j < l.length → (W : Int) < lenI (gt l j) → imE (W : Int) l ≠ 0) := fun j hj h e => by
    have := (imE_zero _ l e).2.2.2 j hj; omega
  obtain ⟨i0, hi, hz0, hz1, hz2⟩ := info_parts info4
  clear hk
  go_enter Tryz.func94, Tryz.ntmps94
  go_wp2
  go_loopw [6, 7] (fun v i wr => ∃ q : Nat, q ≤ l.length ∧ i = .int .i64 q ∧ wr.ownsRow (w.heap.size + 1) 4 1 v (q * W) (bv (mb l W (q * W))) ∧ Hid (∀ j, j < q → lenI (gt l j) ≤ W) ∧ RB w wr) (fun _ i _ => l.length - (intOf i).toNat)
  case atStart => exact ⟨0, Nat.zero_le _, rfl, by rw [Nat.zero_mul]; exact World.ownsRow_nil _ _ _ _, fun j hj => absurd hj (by omega), RB.new w⟩
  case round =>
    obtain ⟨q, hq, rfl, hown, HA, rb⟩ := hrel
    by_cases hlt : q < l.length
    · obtain ⟨b, off, rfl, hb, hc⟩ := hx (by omega)
      have e1 := (rb.bel.cell (p := ⟨b, off + q, none⟩) hb).trans (hc q hlt)
      have hlt3 : (q : Int) < (l.length : Int) := by omega
      have F1 : Hid ((gt l q : Int) < 18446744073709551616) := by unfold Hid; have := hf q; omega
      by_cases hfit : lenI (gt l q) ≤ (W : Int)
      · have dF : decide (lenI (gt l q) ≤ (W : Int)) = true := by simpa using hfit
        have HF : Hid (lenI (gt l q) ≤ (W : Int)) := hfit
        clear hfit
        have hn := mul_next l.length W q hlt
        have hqm : q * W + W ≤ 1048576 := by omega
        clear hc
        go_wp2_with (go_at_call 148; refine (reffits_c _ _ ?_ ?_ _).mono ?_; (exact Int.natCast_nonneg _); exact F1.out; rintro e w' ⟨rfl, rfl⟩)
        go_loopw [6, 8] (fun v j wr => ∃ k : Nat, k ≤ W ∧ j = .int .i64 k ∧ wr.ownsRow (w.heap.size + 1) 4 1 v (q * W + k) (bv (mb l W (q * W + k))) ∧ wr.cell? ⟨b, off + q, none⟩ = some (.int .u64 (gt l q)) ∧ RB w wr) (fun _ j _ => W - (intOf j).toNat)
        case atStart => exact ⟨0, Nat.zero_le _, rfl, hown, e1, rb⟩
        case round =>
          clear hown e1 rb
          obtain ⟨k, hk, rfl, hown, e1, rb⟩ := hrel
          by_cases hk2 : k < W
          · have hk3 : (k : Int) < (W : Int) := by omega
            have hk4 : k < 64 := by omega
            have rlt := rb.lt
            have hbw : b < w.heap.size := hb
            have BT : Hid ((((gt l q : Int) / 2 ^ k).tmod 2 == 1) = (gt l q).testBit k) := shr_bit _ _
            go_wp2_with (at_builtin; refine wpList_append_own _ rfl _ _ 130 rfl (w.heap.size + 1) 4 i0 (.bool false) 1 1 Tryz.underlying130 hi hz0 hz1 hz2 rfl (by decide) _ _ _ rfl (hown.alloc _) ⟨wr.heap.size, 0, none⟩ 1 1 [.bool (((gt l q : Int) / 2 ^ k).tmod 2 == 1)] rfl rfl ?c1 ?c2 ?c3 ?c4 ?c5 ?_)
            case c1 =>
              intro j u hj
              match j, hj with
              | 0, hj => simp at hj; subst hj; simp [Addr.add]
            case c2 => intro u hu; simp at hu; subst hu; rfl
            case c3 => unfold maxLen; omega
            case c4 => omega
            case c5 => simp; omega
            intro v' w3 hown3 hgrow _
            have hrow : ∀ k, u6.ownBlock = some k → w.heap.size + 1 ≤ k := fun k hk => (hown.lt k hk).1
            have hb3 : Below (w.heap.size + 1) (wr.alloc (.cells #[.bool (((gt l q : Int) / 2 ^ k).tmod 2 == 1)] 4)) w3 := (Below.refl _ _).grown hgrow (by simp; omega) hrow
            have hb4 : Below (w.heap.size + 1) wr w3 := Below.trans ((Below.refl _ _).alloc (by omega) _) hb3
            have e3 := (hb4.cell (p := ⟨b, off + q, none⟩) (show b < w.heap.size + 1 by omega)).trans e1
            have rb3 := rb.keep hb4
            rw [BT.out, mb_succ l W q k hk2] at hown3
            have HO : Hid (w3.ownsRow (w.heap.size + 1) 4 1 v' (q * W + (k + 1)) (bv (mb l W (q * W + (k + 1))))) := hown3
            clear hgrow hb3 hb4 hown3 hrow e1 rb hown BT
            go_wp2
            first
              | exact ⟨⟨k + 1, by omega, by go_num, HO.out, e3, rb3⟩, by simp only [intOf]; omega⟩
              | (go_roundw
                 case rel => exact ⟨k + 1, by omega, by go_num, HO.out, e3, rb3⟩
                 case measure => simp only [intOf]; omega)
          · have hkW : k = W := by omega
            have HO : Hid (wr.ownsRow (w.heap.size + 1) 4 1 u6 ((q + 1) * W) (bv (mb l W ((q + 1) * W)))) := by
              rw [hkW] at hown
              rw [Nat.add_mul, Nat.one_mul]
              exact hown
            have HA2 : Hid (∀ j, j < q + 1 → lenI (gt l j) ≤ W) := fun j hj => by
              by_cases e : j = q
              · subst e; exact HF.out
              · exact HA.out j (by omega)
            clear hkW hown e1
            go_wp2
            first
              | exact ⟨⟨q + 1, by omega, by go_num, HO.out, HA2, rb⟩, by simp only [intOf]; omega⟩
              | (go_roundw
                 case rel => exact ⟨q + 1, by omega, by go_num, HO.out, HA2, rb⟩
                 case measure => simp only [intOf]; omega)
      · have dF : decide (lenI (gt l q) ≤ (W : Int)) = false := by simpa using hfit
        have HF : Hid (imE (W : Int) l ≠ 0) := HJ.out q hlt (by omega)
        clear hfit
        obtain ⟨k0, k1, k2, k3, f0, f1, f2, f3, rl, rbel⟩ := rb
        go_wp2_with (go_at_call 148; refine (reffits_c _ _ ?_ ?_ _).mono ?_; (exact Int.natCast_nonneg _); exact F1.out; rintro e w' ⟨rfl, rfl⟩)
        refine bodyPost_ret (v := .tuple #[.agg #[.int .i64 0, .int .i64 0, .int .i64 0, .slice none 0 0], .int .i64 2]) (by simp [results, Tryz.results94, go_sem, k0, k1, k2, k3]) rfl (.inr ⟨HF.out, rfl, ?_⟩)
        exact (((rbel.setCell (by simp) _).setCell (by simp) _).setCell (by simp) _).setCell (by simp) _
    · have hq2 : q = l.length := by omega
      subst hq2
      have HE : Hid (imE (W : Int) l = 0) := HI.out HA.out
      obtain ⟨bo, dap, rfl, hB, hBn⟩ := bl_owns hown
      clear hown HI HJ HA hlt
      have rlt := rb.lt
      go_wp2_with fail
      refine (reffrom_n _ _ _ _ k _ hBn hB hm HK.out).mono ?_
      rintro e w1 ⟨g, rfl, hg1, hO, hb⟩
      rw [mb_row] at hO
      replace rb := rb.keep (hb.mono (by omega))
      have hg0 : w.heap.size < g := by omega
      have HO : Hid (Own w1 g (mkS l W l.length)) := hO
      have hgl := hO.lt
      clear hb hB hBn hO
      have PB := (rb.put (.int .i64 l.length) (.int .i64 W) (.int .i64 ((l.length : Int) * W)) (.slice (some ⟨g, 0, none⟩) k k)).keep (below_alloc _ (.cells #[.int .i64 ((l.length : Int) * W), .slice (some ⟨g, 0, none⟩) k k] 24))
      have HPB : Hid (Box4 _ _ _ _ _ _) := PB
      clear PB
      obtain ⟨k0, k1, k2, k3, f0, f1, f2, f3, rl, rbel⟩ := rb
      go_wp2
      obtain ⟨_, p0, p1, p2, p3⟩ := HPB.out
      refine bodyPost_ret (v := .tuple #[.agg #[.int .i64 l.length, .int .i64 W, .int .i64 ((l.length : Int) * W), .slice (some ⟨g, 0, none⟩) k k], .int .i64 0]) (by simp [results, Tryz.results94, go_sem, p0, p1, p2, p3]) rfl (.inl ⟨HE.out, g, rfl, by omega, ?_, ?_⟩)
      · exact ((((HO.out.set_other (by simp; omega) _).set_other (by simp; omega) _).set_other (by simp; omega) _).set_other (by simp; omega) _).keep (below_alloc _ _)
      · exact ((((rbel.setCell (by simp) _).setCell (by simp) _).setCell (by simp) _).setCell (by simp) _).alloc (by simp only [size_set]; omega) _
def lsS (n : Nat) (f : Nat → Nat) (k : Nat) : List Nat := (List.range n).map fun i => if i < k then f i else 0
theorem length_lsS (n : Nat) (f : Nat → Nat) (k : Nat) : (lsS n f k).length = n := by simp [lsS]
theorem gt_lsS (n : Nat) (f : Nat → Nat) (k j : Nat) : gt (lsS n f k) j = if j < n ∧ j < k then f j else 0 := by
 unfold lsS gt
 rw [List.getD_eq_getElem?_getD, List.getElem?_map]
 by_cases h : j < n
 ·rw [List.getElem?_range h]
  by_cases c : j < k <;> simp [h, c]
 ·rw [List.getElem?_eq_none (by simp; omega)]; simp [h]
theorem lsS_zero (n : Nat) (f : Nat → Nat) : List.replicate n 0 = lsS n f 0 := by
 refine list_ext _ _ (by rw [length_lsS]; simp) fun i hi => ?_
 rw [gt_lsS]
 simp only [List.length_replicate] at hi
 unfold gt
 rw [List.getD_eq_getElem?_getD, List.getElem?_replicate]
 simp [hi]
theorem lsS_step (n : Nat) (f : Nat → Nat) (k : Nat) (h : k < n) : (lsS n f k).set k (f k) = lsS n f (k + 1) := by
 refine list_ext _ _ (by rw [List.length_set, length_lsS, length_lsS]) fun i hi => ?_
 rw [gt_set _ _ _ _ (by rw [length_lsS]; exact h), gt_lsS, gt_lsS]
 rw [List.length_set, length_lsS] at hi
 by_cases c : k = i
 ·subst c; simp [h]
 ·rw [if_neg c]
  by_cases d : i < k
  ·simp [hi, d, show i < k + 1 by omega]
  ·simp [d, show ¬ i < k + 1 by omega]
theorem lsS_all (n : Nat) (f : Nat → Nat) : lsS n f n = (List.range n).map f := by
 unfold lsS
 refine List.map_congr_left fun i hi => ?_
 rw [if_pos (List.mem_range.1 hi)]
theorem numAt_lt (n : Nat) (h : n ≤ 64) (xs : List Nat) (i : Nat) : numAt n xs i < 18446744073709551616 := by
 have := numOf_lt n (fun k => bitAt xs (i * n + k))
 have h2 := Nat.pow_le_pow_right (n := 2) (j := 64) (by decide) h
 rw [show (2 : Nat) ^ 64 = 18446744073709551616 from rfl] at h2
 unfold numAt
 omega
theorem fit_map (n : Nat) (f : Nat → Nat) (h : ∀ i, f i < 18446744073709551616) : Fit ((List.range n).map f) := by
 rw [← lsS_all]
 intro i
 rw [gt_lsS]
 split
 ·exact h i
 ·decide
theorem gt_map (n : Nat) (f : Nat → Nat) (j : Nat) (h : j < n) : gt ((List.range n).map f) j = f j := by
 rw [← lsS_all, gt_lsS, if_pos ⟨h, h⟩]
end Go.Proofs.YtpeecabfcgijhaaGreatDoor
