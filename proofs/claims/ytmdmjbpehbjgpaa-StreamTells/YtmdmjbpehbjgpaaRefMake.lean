/-
  The contracts of the document's New, put and From.
-/
import Derived.Test.YtmdmjbpehbjgpaaRefRead
import Derived.Test.YtmdmjbpehbjgpaaFrom
namespace Go.Proofs.Ytmdmjbpehbjgpaa
open Go.RowKit Num Bit

theorem refnew_ok (n : Int) (k : Nat) (w : World) (h0 : 0 ≤ n) (h1 : n ≤ 1048576) (hk : (n + 63) / 64 = (k : Int)) :
    Calls Try.prog 53 #[.int .i64 n] w fun e w' => ∃ g, e = .returned (.tuple #[.agg #[.int .i64 n, .slice (some ⟨g, 0, none⟩) k k], .int .i64 0]) ∧ w.heap.size ≤ g ∧ g < w'.heap.size ∧ Own w' g (List.replicate k 0) ∧ Below w.heap.size w w' := by
  obtain ⟨i0, hi, hz0, hz1, hz2⟩ := info_parts Try.info27
  have hk2 : k ≤ 1048576 := by omega
  go_enter Try.func53, Try.ntmps53
  go_wp2_with (first | (go_at_call 22; refine (refwords_c _ ?_ ?_ _).mono ?_; (omega); (omega); rintro e w' ⟨rfl, rfl⟩) | (at_make; refine wpList_make_full _ rfl _ _ 22 rfl (w.heap.size + 1) 27 i0 (.int .u64 0) 1 Try.underlying22 hi hz0 hz1 .i64 .i64 _ _ k rfl rfl rfl rfl ?b2 ?b3 ?b4 ?_))
  case b2 => rw [hz2]; omega
  case b3 => unfold maxLen; omega
  case b4 => simp
  intro w1 hown hgr
  have hb1 : Below (w.alloc (.cells #[.int .i64 0, .slice none 0 0] 24)).heap.size (w.alloc (.cells #[.int .i64 0, .slice none 0 0] 24)) w1 := (Below.refl _ _).grown hgr (Nat.le_refl _) (fun k h => by cases h)
  have hO : Own w1 (w.heap.size + 1) (List.replicate k 0) := own_made hown
  obtain ⟨k0, k1, hz, hw⟩ := box_cells hb1
  obtain ⟨k2, k3⟩ := box_frozen hb1
  have hlt := hO.lt
  clear hown hgr hi hz0 hz1 hz2 hb1
  go_wp2
  refine bodyPost_ret (v := .tuple #[.agg #[.int .i64 n, .slice (some ⟨w.heap.size + 1, 0, none⟩) k k], .int .i64 0]) (by simp [results, Try.results53, go_sem, k0, k1]) rfl ⟨w.heap.size + 1, rfl, by omega, ?_, ?_, ?_⟩
  · rw [size_set, size_set]; exact hlt
  · exact (hO.set_other (by simp) _).set_other (by simp) _
  · exact (hw.setCell (by simp) _).setCell (by simp) _

theorem refnew_bad (n : Int) (w : World) (h : n < 0 ∨ 1048576 < n) :
    Calls Try.prog 53 #[.int .i64 n] w fun e w' => e = .returned (.tuple #[.agg #[.int .i64 0, .slice none 0 0], .int .i64 2]) ∧ Below w.heap.size w w' := by
  rcases h with h | h
  · go_enter Try.func53, Try.ntmps53
    go_wp2
    exact bodyPost_ret (v := .tuple #[.agg #[.int .i64 0, .slice none 0 0], .int .i64 2]) (by simp [results, Try.results53, go_sem]) rfl ⟨rfl, below_alloc w _⟩
  · have h' : ¬ n < 0 := by omega
    go_enter Try.func53, Try.ntmps53
    go_wp2
    exact bodyPost_ret (v := .tuple #[.agg #[.int .i64 0, .slice none 0 0], .int .i64 2]) (by simp [results, Try.results53, go_sem]) rfl ⟨rfl, below_alloc w _⟩

theorem refnew_c (n : Int) (w : World) :
    Calls Try.prog 53 #[.int .i64 n] w fun e w' => ∃ ao cap, e = .returned (.tuple #[.agg #[.int .i64 (newN n), .slice ao (newL n).length cap], .int .i64 (newE n)]) ∧ Out w w' ao (newL n) cap := by
  by_cases h : n < 0 ∨ 1048576 < n
  · refine (refnew_bad n w h).mono ?_
    rintro e w' ⟨rfl, hb⟩
    have h1 : newE n = 2 := by unfold newE; rw [if_pos h]
    have h2 : newN n = 0 := by unfold newN; rw [h1]; rfl
    have h3 : newL n = [] := by unfold newL; rw [h1]; rfl
    rw [h1, h2, h3]
    exact ⟨none, 0, rfl, fun h => absurd h (by simp), fun i => by unfold gt; simp, by simp, hb⟩
  · obtain ⟨m, rfl⟩ := Int.eq_ofNat_of_zero_le (show 0 ≤ n by omega)
    refine (refnew_ok m ((m + 63) / 64) w (by omega) (by omega) (by omega)).mono ?_
    rintro e w' ⟨g, rfl, hg, hlt, hO, hb⟩
    have h1 : newE m = 0 := by unfold newE; rw [if_neg h]
    have h2 : newN m = m := by unfold newN; rw [h1]; rfl
    have h3 : newL m = List.replicate ((m + 63) / 64) 0 := by unfold newL; rw [h1, rep_row m _ rfl]; rfl
    rw [h1, h2, h3]
    refine ⟨some ⟨g, 0, none⟩, (m + 63) / 64, by simp, hO.wd, ?_, by simp, hb⟩
    rw [rep_row m _ rfl]; exact fit_rowOf _ _

/-- What the document's put makes of the words. -/
def rputL (ys : List Nat) (p : Nat) (x : Bool) : List Nat :=
  if x then ys.set (p / 64) ((gt ys (p / 64) &&& (18446744073709551615 - 2 ^ (p % 64))) ||| 2 ^ (p % 64)) else ys.set (p / 64) (gt ys (p / 64) &&& (18446744073709551615 - 2 ^ (p % 64)))

theorem refput_c (ys : List Nat) (g cap p : Nat) (x : Bool) (w : World) (hO : Own w g ys) (hp : p ≤ 2097152) (hf : Fit ys) (h1 : p / 64 < ys.length) :
    Calls Try.prog 54 #[.slice (some ⟨g, 0, none⟩) ys.length cap, .int .i64 p, .bool x] w fun e w' => e = .returned (.tuple #[]) ∧ Own w' g (rputL ys p x) ∧ Turned g w w' := by
  have l1' : (p : Int) / 64 < (ys.length : Int) := by omega
  have e1 := hO.cell (p / 64) h1
  have f1 := hO.frozen (p / 64)
  have SO : Hid (IntKind.u64.wrap ((2 : Int) ^ (p % 64)) = ((2 ^ (p % 64) : Nat) : Int)) := shl_one _ (by omega)
  have SP : Hid (2 ^ (p % 64) < 18446744073709551616) := two_pow_lt _ (by omega)
  have SA : Hid (gt ys (p / 64) &&& (18446744073709551615 - 2 ^ (p % 64)) < 18446744073709551616) := Nat.lt_of_le_of_lt Nat.and_le_left (hf _)
  cases x with
  | false =>
    go_enter Try.func54, Try.ntmps54
    go_wp2
    go_end0
    rw [SO.out, u64_andNot_nat _ _ (hf _) SP.out]
    exact ⟨rfl, hO.set _ _, (Turned.refl _ _).set _ _⟩
  | true =>
    go_enter Try.func54, Try.ntmps54
    go_wp2
    go_end0
    rw [SO.out, u64_andNot_nat _ _ (hf _) SP.out, u64_or_nat _ _ SA.out SP.out]
    refine ⟨rfl, ?_, ((Turned.refl _ _).set _ _).set _ _⟩
    have h := (hO.set (p / 64) (gt ys (p / 64) &&& (18446744073709551615 - 2 ^ (p % 64)))).set (p / 64) ((gt ys (p / 64) &&& (18446744073709551615 - 2 ^ (p % 64))) ||| 2 ^ (p % 64))
    rw [List.set_set] at h
    exact h

theorem rput_row (N : Int) (xs : List Nat) (hf : Fit xs) (hk : chk N xs = true) (n : Nat) (hn : (n : Int) < N) (x : Bool) :
    rputL xs n x = rowOf N.toNat (fun j => if j = n then x else bitAt xs j) := by
  cases x with
  | false => exact set_row_false N xs hf hk n hn
  | true =>
    have e := set_row_true N xs hf hk n hn
    rw [← e]
    unfold rputL
    rw [if_pos rfl]
    congr 1
    refine eq_of_bits _ _ (or_lt _ _ (Nat.lt_of_le_of_lt Nat.and_le_left (hf _)) (two_pow_lt _ (by omega))) (or_lt _ _ (hf _) (two_pow_lt _ (by omega))) fun k hk64 => ?_
    rw [Nat.testBit_or, Nat.testBit_or, Nat.testBit_and, test_not_pow _ _ (by omega) hk64, Nat.testBit_two_pow]
    by_cases c : n % 64 = k <;> simp [c]

theorem refput_l (ys : List Nat) (l g cap p : Nat) (x : Bool) (w : World) (hl : ys.length = l) (hO : Own w g ys) (hp : p ≤ 2097152) (hf : Fit ys) (h1 : p / 64 < l) :
    Calls Try.prog 54 #[.slice (some ⟨g, 0, none⟩) l cap, .int .i64 p, .bool x] w fun e w' => e = .returned (.tuple #[]) ∧ Own w' g (rputL ys p x) ∧ Turned g w w' := by
  subst hl
  exact refput_c ys g cap p x w hO hp hf h1

theorem from_put (l : List Bool) (q : Nat) (hq : q < l.length) (hl : l.length ≤ 1048576) : rputL (fromS l q) q (bt l q) = fromS l (q + 1) := by
  have e := rput_row l.length (fromS l q) (fit_rowOf _ _) (chk_rowOf _ _ hl) q (by omega) (bt l q)
  rw [e, Int.toNat_natCast]
  refine rowOf_congr _ _ _ fun i hi => ?_
  unfold fromS
  rw [bitAt_rowOf]
  by_cases c : i = q
  · subst c; simp
  · rw [if_neg c]
    by_cases c2 : i < q
    · simp [hi, c2, show i < q + 1 by omega]
    · simp [c2, show ¬ i < q + 1 by omega]

theorem reffrom_ok (ao : Option Addr) (l : List Bool) (cap k : Nat) (w : World) (hx : Bl w ao l) (hl : l.length ≤ 1048576) (hk : k = (l.length + 63) / 64) :
    Calls Try.prog 45 #[.slice ao l.length cap] w fun e w' => ∃ g, e = .returned (.tuple #[.agg #[.int .i64 l.length, .slice (some ⟨g, 0, none⟩) k k], .int .i64 0]) ∧ w.heap.size ≤ g ∧ Own w' g (fromS l l.length) ∧ Below w.heap.size w w' := by
  have HK : Hid (k = (l.length + 63) / 64) := hk
  have hk1 : ((l.length : Int) + 63) / 64 = (k : Int) := by omega
  have HK1 : Hid (((l.length : Int) + 63) / 64 = (k : Int)) := hk1
  clear hk hk1
  go_enter Try.func45, Try.ntmps45
  go_wp2_with fail
  refine (refnew_ok _ k _ (Int.natCast_nonneg _) (by omega) HK1.out).mono ?_
  rintro e w1 ⟨g, rfl, hg1, hg2, hO, hb⟩
  have KK := box_cells hb
  have KF := box_frozen hb
  have hg0 : w.heap.size + 1 ≤ g := by simpa using hg1
  clear hb hg1
  obtain ⟨k0, k1, hz, hw⟩ := KK
  obtain ⟨k2, k3⟩ := KF
  go_wp2
  go_loopw [6] (fun i wr => ∃ q : Nat, q ≤ l.length ∧ i = .int .i64 q ∧ Own wr g (fromS l q) ∧ (wr.cell? ⟨w1.heap.size, 0, none⟩ = some (.int .i64 l.length) ∧ wr.cell? ⟨w1.heap.size, 1, none⟩ = some (.slice (some ⟨g, 0, none⟩) k k)) ∧ (wr.cell? ⟨w.heap.size, 0, none⟩ = some (.int .i64 0) ∧ wr.cell? ⟨w.heap.size, 1, none⟩ = some (.slice none 0 0) ∧ wr.frozen? ⟨w.heap.size, 0, none⟩ = false ∧ wr.frozen? ⟨w.heap.size, 1, none⟩ = false) ∧ Below w.heap.size w wr) (fun i _ => l.length - (intOf i).toNat)
  case atStart =>
    have hb := below_alloc w1 (.cells #[.int .i64 l.length, .slice (some ⟨g, 0, none⟩) k k] 24)
    refine ⟨0, Nat.zero_le _, rfl, ?_, ⟨by simp, by simp⟩, ⟨(hb.cell (p := ⟨w.heap.size, 0, none⟩) hz).trans k0, (hb.cell (p := ⟨w.heap.size, 1, none⟩) hz).trans k1, (hb.frozen (p := ⟨w.heap.size, 0, none⟩) hz).trans k2, (hb.frozen (p := ⟨w.heap.size, 1, none⟩) hz).trans k3⟩, hw.trans (hb.mono (by omega))⟩
    have e1 : fromS l 0 = List.replicate k 0 := by
      rw [rep_row l.length k HK.out]
      exact rowOf_congr _ _ _ fun i _ => by simp
    rw [e1]
    exact hO.keep hb
  case round =>
    obtain ⟨q, hq, rfl, hOr, ⟨r0, r1⟩, ⟨r3, r4, r5, r6⟩, hwr⟩ := hrel
    by_cases hlt : q < l.length
    · obtain ⟨b, off, rfl, hb, hc⟩ := hx (by omega)
      have e1 := (hwr.cell (p := ⟨b, off + q, none⟩) hb).trans (hc q hlt)
      have hlt3 : (q : Int) < (l.length : Int) := by omega
      have HQ : Hid (q / 64 < k) := by have := HK.out; unfold Hid; omega
      have FS : Hid (rputL (fromS l q) q (bt l q) = fromS l (q + 1)) := from_put l q hlt hl
      have HLN : Hid ((fromS l q).length = k) := by unfold Hid; rw [length_fromS]; exact HK.out.symm
      clear hc
      go_wp2
      go_region_held3 (fun w' => w'.cell? ⟨w1.heap.size, 1, none⟩ = some (.slice (some ⟨g, 0, none⟩) k k) ∧ w'.cell? ⟨b, off + q, none⟩ = some (.bool (bt l q))) (first | go_keep | (refine ⟨?_, ?_⟩ <;> assumption))
        (first | (go_at_call 54; refine (refput_l (fromS l q) k g k q (bt l q) _ HLN.out ?_ (by omega) (fit_fromS l q) HQ.out).mono ?_; (exact hOr); rintro e w4 ⟨rfl, hO4, hT⟩; have q0 := (hT.cell (p := ⟨w1.heap.size, 0, none⟩) (show w1.heap.size ≠ g by omega)).trans r0; have q1 : w4.cell? ⟨w1.heap.size, 1, none⟩ = some (.slice (some ⟨g, 0, none⟩) k k) := (hT.cell (p := ⟨w1.heap.size, 1, none⟩) (show w1.heap.size ≠ g by omega)).trans r1; have q2 : w4.cell? ⟨b, off + q, none⟩ = some (.bool (bt l q)) := (hT.cell (p := ⟨b, off + q, none⟩) (show b ≠ g by omega)).trans e1; have q3 := (hT.cell (p := ⟨w.heap.size, 0, none⟩) (show w.heap.size ≠ g by omega)).trans r3; have q4 := (hT.cell (p := ⟨w.heap.size, 1, none⟩) (show w.heap.size ≠ g by omega)).trans r4; have q5 := (hT.frozen (p := ⟨w.heap.size, 0, none⟩) (show w.heap.size ≠ g by omega)).trans r5; have q6 := (hT.frozen (p := ⟨w.heap.size, 1, none⟩) (show w.heap.size ≠ g by omega)).trans r6; have hw4 := hwr.trans (Below.trans (Below.drew (Below.refl _ _)) (hT.below (B := w.heap.size) (by omega))); clear hT))
      go_wp2
      rw [FS.out] at hO4
      exact ⟨⟨q + 1, by omega, by go_num, hO4, ⟨q0, q1⟩, ⟨q3, q4, q5, q6⟩, hw4⟩, by simp only [intOf]; omega⟩
    · have hq2 : q = l.length := by omega
      rw [hq2] at hOr
      clear hq2
      go_wp2
      refine bodyPost_ret (v := .tuple #[.agg #[.int .i64 l.length, .slice (some ⟨g, 0, none⟩) k k], .int .i64 0]) (by simp [results, Try.results45, go_sem, r3, r4]) rfl ⟨g, rfl, by omega, ?_, ?_⟩
      · exact (hOr.set_other (by simp; omega) _).set_other (by simp; omega) _
      · exact (hwr.setCell (by simp) _).setCell (by simp) _

theorem reffrom_c (ao : Option Addr) (l : List Bool) (cap : Nat) (w : World) (hx : Bl w ao l) (hl : l.length ≤ 1048576) :
    Calls Try.prog 45 #[.slice ao l.length cap] w fun e w' => ∃ bo dap, e = .returned (.tuple #[.agg #[.int .i64 l.length, .slice bo (frL l).length dap], .int .i64 0]) ∧ Out w w' bo (frL l) dap := by
  refine (reffrom_ok ao l cap _ w hx hl rfl).mono ?_
  rintro e w' ⟨g, rfl, _, hO, hb⟩
  rw [fromS_all] at hO
  have e5 : (frL l).length = (l.length + 63) / 64 := length_rowOf _ _
  exact ⟨some ⟨g, 0, none⟩, (l.length + 63) / 64, by rw [e5], hO.wd, fit_rowOf _ _, by omega, hb⟩
end Go.Proofs.Ytmdmjbpehbjgpaa
