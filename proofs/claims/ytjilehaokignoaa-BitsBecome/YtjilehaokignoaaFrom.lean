/-
  The contract of From.
-/
import Derived.Test.YtjilehaokignoaaMake
import Derived.Test.YtjilehaokignoaaBit4
import Derived.RegionTactic
import Derived.BigRegion
namespace Go.Proofs.Ytjilehaokignoaa
open Go.RowKit Num Bit

def bt (l : List Bool) (i : Nat) : Bool := l.getD i false
/-- A slice of bools that reads as a list. -/
def Bl (w : World) (ao : Option Addr) (l : List Bool) : Prop :=
  0 < l.length → ∃ b off, ao = some ⟨b, off, none⟩ ∧ b < w.heap.size ∧ ∀ i, i < l.length → w.cell? ⟨b, off + i, none⟩ = some (.bool (bt l i))
theorem Bl.keep {w w' : World} {ao : Option Addr} {l : List Bool} (h : Bl w ao l) (hb : Below w.heap.size w w') : Bl w' ao l := by
  intro hi
  obtain ⟨b, off, e, hlt, hc⟩ := h hi
  exact ⟨b, off, e, Nat.lt_of_lt_of_le hlt hb.size, fun i hi => (hb.cell (p := ⟨b, off + i, none⟩) hlt).trans (hc i hi)⟩

def fromS (l : List Bool) (q : Nat) : List Nat := rowOf l.length (fun j => decide (j < q) && bt l j)

theorem length_fromS (l : List Bool) (q : Nat) : (fromS l q).length = (l.length + 63) / 64 := length_rowOf _ _

theorem fit_fromS (l : List Bool) (q : Nat) : Fit (fromS l q) := fit_rowOf _ _

theorem from_step (l : List Bool) (q : Nat) (hq : q < l.length) (hl : l.length ≤ 1048576) (hb : bt l q = true) : (fromS l q).set (q / 64) (gt (fromS l q) (q / 64) ||| 2 ^ (q % 64)) = fromS l (q + 1) := by
  have e := set_row_true l.length (fromS l q) (fit_rowOf _ _) (chk_rowOf _ _ hl) q (by omega)
  rw [e, Int.toNat_natCast]
  refine rowOf_congr _ _ _ fun i hi => ?_
  unfold fromS
  rw [bitAt_rowOf]
  by_cases c : i = q
  · subst c; simp [hb]
  · rw [if_neg c]
    by_cases c2 : i < q
    · simp [hi, c2, show i < q + 1 by omega]
    · simp [c2, show ¬ i < q + 1 by omega]

theorem from_skip (l : List Bool) (q : Nat) (hb : bt l q = false) : fromS l q = fromS l (q + 1) := by
  refine rowOf_congr _ _ _ fun i _ => ?_
  by_cases c : i = q
  · subst c; simp [hb]
  · by_cases c2 : i < q
    · simp [c2, show i < q + 1 by omega]
    · simp [c2, show ¬ i < q + 1 by omega]

theorem from_ok (ao : Option Addr) (l : List Bool) (cap k : Nat) (w : World) (hx : Bl w ao l) (hl : l.length ≤ 1048576) (hk : k = (l.length + 63) / 64) :
    Calls Try.prog 16 #[.slice ao l.length cap] w fun e w' => ∃ g, e = .returned (.tuple #[.agg #[.int .i64 l.length, .slice (some ⟨g, 0, none⟩) k k], .int .i64 0]) ∧ Own w' g (fromS l l.length) ∧ Below w.heap.size w w' := by
  have HK : Hid (k = (l.length + 63) / 64) := hk
  have hk1 : ((l.length : Int) + 63) / 64 = (k : Int) := by omega
  have HK1 : Hid (((l.length : Int) + 63) / 64 = (k : Int)) := hk1
  clear hk hk1
  go_enter Try.func16, Try.ntmps16
  go_wp2_with fail
  refine (new_ok _ k _ (Int.natCast_nonneg _) (by omega) HK1.out).mono ?_
  rintro e w1 ⟨g, rfl, hg1, hg2, hO, hb⟩
  have KK := box_cells hb
  have KF := box_frozen hb
  have hg0 : w.heap.size + 1 ≤ g := by simpa using hg1
  clear hb hg1
  obtain ⟨k0, k1, hz, hw⟩ := KK
  obtain ⟨k2, k3⟩ := KF
  go_wp2
  go_loopw [20] (fun i wr => ∃ q : Nat, q ≤ l.length ∧ i = .int .i64 q ∧ Own wr g (fromS l q) ∧ (wr.cell? ⟨w1.heap.size, 0, none⟩ = some (.int .i64 l.length) ∧ wr.cell? ⟨w1.heap.size, 1, none⟩ = some (.slice (some ⟨g, 0, none⟩) k k)) ∧ (wr.cell? ⟨w.heap.size, 0, none⟩ = some (.int .i64 0) ∧ wr.cell? ⟨w.heap.size, 1, none⟩ = some (.slice none 0 0) ∧ wr.frozen? ⟨w.heap.size, 0, none⟩ = false ∧ wr.frozen? ⟨w.heap.size, 1, none⟩ = false) ∧ Below w.heap.size w wr) (fun i _ => l.length - (intOf i).toNat)
  case atStart =>
    have hb := below_alloc w1 (.cells #[.int .i64 l.length, .slice (some ⟨g, 0, none⟩) k k] 24)
    refine ⟨0, Nat.zero_le _, rfl, ?_, ⟨by simp, by simp⟩, ⟨(hb.cell (p := ⟨w.heap.size, 0, none⟩) hz).trans k0, (hb.cell (p := ⟨w.heap.size, 1, none⟩) hz).trans k1, (hb.frozen (p := ⟨w.heap.size, 0, none⟩) hz).trans k2, (hb.frozen (p := ⟨w.heap.size, 1, none⟩) hz).trans k3⟩, hw.trans (hb.mono (by omega))⟩
    have e1 : fromS l 0 = List.replicate k 0 := by
      rw [rep_row l.length k HK.out]
      exact rowOf_congr _ _ _ fun i _ => by simp
    rw [e1]
    exact hO.keep hb
  case round =>
    obtain ⟨q, hq, rfl, hOr, ⟨r0, r1⟩, ⟨r3, r4, r5, r6⟩, hwr⟩ := hrel
    by_cases hlt : q < l.length
    · obtain ⟨b, off, rfl, hb, hc⟩ := hx (by omega)
      have e1 := (hwr.cell (p := ⟨b, off + q, none⟩) hb).trans (hc q hlt)
      have hlt3 : (q : Int) < (l.length : Int) := by omega
      have hq2 : q / 64 < k := by have := HK.out; omega
      have hq3 : (q : Int) / 64 < (k : Int) := by omega
      have c1 := hOr.cell (q / 64) (by rw [length_fromS, ← HK.out]; exact hq2)
      have c2 := hOr.frozen (q / 64)
      have n1 : ¬ w1.heap.size = g := by omega
      clear hc
      cases hbt : bt l q with
      | true =>
        rw [hbt] at e1
        have SO : Hid (IntKind.u64.wrap ((2 : Int) ^ (q % 64)) = ((2 ^ (q % 64) : Nat) : Int)) := shl_one _ (by omega)
        have SP : Hid (2 ^ (q % 64) < 18446744073709551616) := two_pow_lt _ (by omega)
        have FS : Hid ((fromS l q).set (q / 64) (gt (fromS l q) (q / 64) ||| 2 ^ (q % 64)) = fromS l (q + 1)) := from_step l q hlt hl hbt
        go_wp2
        go_region
        go_wp2
        refine ⟨⟨q + 1, by omega, by go_num, ?_, ⟨?_, ?_⟩, ⟨?_, ?_, ?_, ?_⟩, ?_⟩, by simp only [intOf]; omega⟩
        · rw [SO.out, u64_or_nat _ _ (fit_fromS l q _) SP.out, ← FS.out]
          exact hOr.set _ _
        · exact (((Turned.refl g wr).set (q / 64) _).cell (p := ⟨w1.heap.size, 0, none⟩) (show w1.heap.size ≠ g by omega)).trans r0
        · exact (((Turned.refl g wr).set (q / 64) _).cell (p := ⟨w1.heap.size, 1, none⟩) (show w1.heap.size ≠ g by omega)).trans r1
        · exact (((Turned.refl g wr).set (q / 64) _).cell (p := ⟨w.heap.size, 0, none⟩) (show w.heap.size ≠ g by omega)).trans r3
        · exact (((Turned.refl g wr).set (q / 64) _).cell (p := ⟨w.heap.size, 1, none⟩) (show w.heap.size ≠ g by omega)).trans r4
        · exact (((Turned.refl g wr).set (q / 64) _).frozen (p := ⟨w.heap.size, 0, none⟩) (show w.heap.size ≠ g by omega)).trans r5
        · exact (((Turned.refl g wr).set (q / 64) _).frozen (p := ⟨w.heap.size, 1, none⟩) (show w.heap.size ≠ g by omega)).trans r6
        · exact (hwr.setCell (show w.heap.size ≤ g by omega) _).drew
      | false =>
        rw [hbt] at e1
        have FS : Hid (fromS l q = fromS l (q + 1)) := from_skip l q hbt
        go_wp2
        refine ⟨⟨q + 1, by omega, by go_num, ?_, ⟨r0, r1⟩, ⟨r3, r4, r5, r6⟩, hwr⟩, by simp only [intOf]; omega⟩
        rw [← FS.out]; exact hOr
    · have hq2 : q = l.length := by omega
      rw [hq2] at hOr
      clear hq2
      go_wp2
      refine bodyPost_ret (v := .tuple #[.agg #[.int .i64 l.length, .slice (some ⟨g, 0, none⟩) k k], .int .i64 0]) (by simp [results, Try.results16, go_sem, r3, r4]) rfl ⟨g, rfl, ?_, ?_⟩
      · exact (hOr.set_other (by simp; omega) _).set_other (by simp; omega) _
      · exact (hwr.setCell (by simp) _).setCell (by simp) _

def frL (l : List Bool) : List Nat := rowOf l.length (bt l)

theorem fromS_all (l : List Bool) : fromS l l.length = frL l := rowOf_congr _ _ _ fun i hi => by simp [hi]

theorem from_c (ao : Option Addr) (l : List Bool) (cap : Nat) (w : World) (hx : Bl w ao l) (hl : l.length ≤ 1048576) :
    Calls Try.prog 16 #[.slice ao l.length cap] w fun e w' => ∃ bo dap, e = .returned (.tuple #[.agg #[.int .i64 l.length, .slice bo (frL l).length dap], .int .i64 0]) ∧ Out w w' bo (frL l) dap := by
  refine (from_ok ao l cap _ w hx hl rfl).mono ?_
  rintro e w' ⟨g, rfl, hO, hb⟩
  rw [fromS_all] at hO
  have e5 : (frL l).length = (l.length + 63) / 64 := length_rowOf _ _
  exact ⟨some ⟨g, 0, none⟩, (l.length + 63) / 64, by rw [e5], hO.wd, fit_rowOf _ _, by omega, hb⟩
end Go.Proofs.Ytjilehaokignoaa
