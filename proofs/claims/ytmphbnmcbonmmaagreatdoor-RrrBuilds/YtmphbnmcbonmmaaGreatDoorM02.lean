/-
  The contracts of makeable, Make and Of. The contract of the document's Make. The contract of List. The contracts of the document's Make, Of and List, whatever is handed in. Appends to a row of the call's own, out of whatever source (nothing among them): as a step of a list of operations, and of a region that draws its order. Blocks of cells that may be written, whole: what they hold, what a store makes of them, what stays; numbers in memory. Plain arithmetic of binomials: ways, the place of a word among those of its class, the word of a place. Nothing of the program is in here. Plain arithmetic of rows of bits in blocks of fifteen: each block's class and offset, the offsets one behind the other, and the way back. Nothing of the program is in here. The contracts of the document's block and low, and of the law that two rows of numbers are one. An argument of the type api.Bits, opened: its number, its words, where they lie. Plain arithmetic of rows of bits with counts beside them. Nothing of the program is in here.
-/
import Derived.Test.YtmphbnmcbonmmaaGreatDoorM01
import Derived.Test.YtmphbnmcbonmmaaGreatDoorRows
import Derived.WalkKit
import Derived.OwnWalk
import Derived.Deep.AppendLies
import Derived.WalkSmall
import Derived.Test.YtmphbnmcbonmmaaGreatDoorM00
import Derived.ProofKit
import Derived.OpenShut
import Derived.Lib.SmallJoins
namespace Go.Proofs.YtmphbnmcbonmmaaGreatDoor
open Go.RowKit Num Bit
set_option maxRecDepth 100000
set_option linter.unusedVariables false

theorem imE_zero (W : Int) (l : List Nat) (h : imE W l = 0) : 1 ≤ W ∧ W ≤ 64 ∧ (l.length : Int) * W ≤ 1048576 ∧ ∀ j, j < l.length → lenI (gt l j) ≤ W := by
  unfold imE at h
  by_cases c : W < 1 ∨ 64 < W ∨ 1048576 < (l.length : Int) * W ∨ ¬ (∀ j, j < l.length → lenI (gt l j) ≤ W)
  · rw [if_pos c] at h; omega
  · refine ⟨by omega, by omega, by omega, ?_⟩
    exact Classical.byContradiction fun hc => c (.inr (.inr (.inr hc)))
theorem imE_bad (W : Int) (l : List Nat) (h : imE W l ≠ 0) : imE W l = 2 := by
  unfold imE at *
  split at h
  · rename_i c; rw [if_pos c]
  · exact absurd rfl h
theorem quo_le (W n : Int) (h0 : 1 ≤ W) : n ≤ 1048576 / W ↔ n * W ≤ 1048576 := Int.le_ediv_iff_mul_le (by omega)
theorem quo_bd (W : Int) (h0 : 1 ≤ W) : 0 ≤ 1048576 / W ∧ 1048576 / W ≤ 1048576 := ⟨Int.ediv_nonneg (by decide) (by omega), Int.ediv_le_self _ (by decide)⟩

set_option maxHeartbeats 1000000 in
theorem makeable_ok (W : Int) (al : Option Addr) (l : List Nat) (cap : Nat) (w : World) (hx : Wd w al l) (hf : Fit l) (hE : imE W l = 0) :
    Calls Tryz.prog 83 #[.int .i64 W, .slice al l.length cap] w fun e w' => e = .returned .nilIface ∧ w' = w := by
  obtain ⟨a1, a2, a3, a4⟩ := imE_zero W l hE
  have q1 : (l.length : Int) ≤ 1048576 / W := (quo_le W _ a1).2 a3
  obtain ⟨q2, q3⟩ := quo_bd W a1
  have hll : l.length ≤ 1048576 := by omega
  have HA : Hid (∀ j, j < l.length → lenI (gt l j) ≤ W) := a4
  clear hE a3 a4
  go_enter Tryz.func83, Tryz.ntmps83
  go_wp2_with (go_at_call 97; refine (wide_ok _ ?_ ?_ _).mono ?_; exact a1; exact a2; rintro e w' ⟨rfl, rfl⟩)
  go_loop [23] (fun i => ∃ k : Nat, k ≤ l.length ∧ i = .int .i64 k) (fun i => l.length - (intOf i).toNat)
  case atStart => exact ⟨0, by omega, rfl⟩
  case round =>
    obtain ⟨k, hk, rfl⟩ := hrel
    by_cases hlt : k < l.length
    · obtain ⟨b, off, rfl, hb, hc⟩ := hx (by omega)
      have e1 := hc k hlt
      have hlt3 : (k : Int) < (l.length : Int) := by omega
      have F1 : Hid ((gt l k : Int) < 18446744073709551616) := by unfold Hid; have := hf k; omega
      clear hc
      go_wp2_with (go_at_call 98; refine (narrow_ok _ _ ?_ ?_ ?_ _).mono ?_; (exact Int.natCast_nonneg _); exact F1.out; (exact HA.out k hlt); rintro e w' ⟨rfl, rfl⟩)
      go_round
      case rel => exact ⟨k + 1, by omega, by go_num⟩
      case measure => simp only [intOf]; omega
    · go_wp2
      go_ret
      exact ⟨rfl, rfl⟩

set_option maxHeartbeats 1000000 in
theorem makeable_bad (W : Int) (al : Option Addr) (l : List Nat) (cap : Nat) (w : World) (hx : Wd w al l) (hf : Fit l) (hE : imE W l ≠ 0) (hcap : l.length ≤ 9223372036854775807) :
    Calls Tryz.prog 83 #[.int .i64 W, .slice al l.length cap] w fun e w' => (∃ s, e = .returned (.iface 134 (.agg #[.int .i64 2, .string s]))) ∧ w' = w := by
  by_cases c : W < 1 ∨ 64 < W
  · clear hE
    go_enter Tryz.func83, Tryz.ntmps83
    go_wp2_with (go_at_call 97; refine (wide_bad _ ?_ _).mono ?_; exact c; rintro e w' ⟨⟨s, rfl⟩, rfl⟩)
    go_ret
    exact ⟨⟨_, rfl⟩, rfl⟩
  have a1 : 1 ≤ W := by omega
  have a2 : W ≤ 64 := by omega
  obtain ⟨q2, q3⟩ := quo_bd W a1
  by_cases c2 : 1048576 / W < (l.length : Int)
  · clear hE
    go_enter Tryz.func83, Tryz.ntmps83
    go_wp2_with (go_at_call 97; refine (wide_ok _ ?_ ?_ _).mono ?_; exact a1; exact a2; rintro e w' ⟨rfl, rfl⟩)
    go_ret
    exact ⟨⟨_, rfl⟩, rfl⟩
  have q1 : (l.length : Int) ≤ 1048576 / W := by omega
  have a3 := (quo_le W _ a1).1 q1
  have hll : l.length ≤ 1048576 := by omega
  have HA : Hid (¬ ∀ j, j < l.length → lenI (gt l j) ≤ W) := fun h => hE (by unfold imE; rw [if_neg]; rintro (h1 | h1 | h1 | h1) <;> first | omega | exact h1 h)
  clear hE c c2 a3
  go_enter Tryz.func83, Tryz.ntmps83
  go_wp2_with (go_at_call 97; refine (wide_ok _ ?_ ?_ _).mono ?_; exact a1; exact a2; rintro e w' ⟨rfl, rfl⟩)
  go_loop [23] (fun i => ∃ k : Nat, k ≤ l.length ∧ i = .int .i64 k ∧ Hid (∀ j, j < k → lenI (gt l j) ≤ W)) (fun i => l.length - (intOf i).toNat)
  case atStart => exact ⟨0, by omega, rfl, fun j hj => absurd hj (by omega)⟩
  case round =>
    obtain ⟨k, hk, rfl, H⟩ := hrel
    by_cases hlt : k < l.length
    · obtain ⟨b, off, rfl, hb, hc⟩ := hx (by omega)
      have e1 := hc k hlt
      have hlt3 : (k : Int) < (l.length : Int) := by omega
      have F1 : Hid ((gt l k : Int) < 18446744073709551616) := by unfold Hid; have := hf k; omega
      clear hc
      by_cases hfit : lenI (gt l k) ≤ W
      · have HF : Hid (lenI (gt l k) ≤ W) := hfit
        clear hfit
        go_wp2_with (go_at_call 98; refine (narrow_ok _ _ ?_ ?_ ?_ _).mono ?_; (exact Int.natCast_nonneg _); exact F1.out; exact HF.out; rintro e w' ⟨rfl, rfl⟩)
        go_round
        case rel =>
          refine ⟨k + 1, by omega, by go_num, fun j hj => ?_⟩
          by_cases e : j = k
          · subst e; exact HF.out
          · exact H.out j (by omega)
        case measure => simp only [intOf]; omega
      · have HF : Hid (W < lenI (gt l k)) := by unfold Hid; omega
        clear hfit
        go_wp2_with (go_at_call 98; refine (narrow_bad _ _ ?_ ?_ ?_ _).mono ?_; (exact Int.natCast_nonneg _); exact F1.out; exact HF.out; rintro e w' ⟨⟨s, rfl⟩, rfl⟩)
        go_ret
        exact ⟨⟨_, rfl⟩, rfl⟩
    · exact absurd (fun j hj => H.out j (by omega)) HA.out

set_option maxHeartbeats 2000000 in
theorem make_ok (W : Nat) (al : Option Addr) (l : List Nat) (cap k : Nat) (w : World) (hx : Wd w al l) (hf : Fit l) (hE : imE (W : Int) l = 0) (hk : k = (l.length * W + 63) / 64) :
    Calls Tryz.prog 59 #[.int .i64 W, .slice al l.length cap] w fun e w' => ∃ g, e = .returned (.tuple #[.agg #[.int .i64 l.length, .int .i64 W, .int .i64 ((l.length : Int) * W), .slice (some ⟨g, 0, none⟩) k k], .int .i64 0]) ∧ w.heap.size ≤ g ∧ Own w' g (mkS l W l.length) ∧ Below w.heap.size w w' := by
  obtain ⟨a1, a2, a3, a4⟩ := imE_zero W l hE
  have K : ∀ o, Wd (w.alloc o) al l := fun o => hx.keep (below_alloc w o)
  have hm : l.length * W ≤ 1048576 := by
    have : ((l.length * W : Nat) : Int) ≤ 1048576 := by rw [Int.natCast_mul]; exact a3
    omega
  have hll : l.length ≤ 1048576 := Nat.le_trans (Nat.le_mul_of_pos_right _ (by omega)) hm
  have hmi : (0 : Int) ≤ (l.length : Int) * (W : Int) := Int.mul_nonneg (by omega) (by omega)
  have HK : Hid (k = (l.length * W + 63) / 64) := hk
  have HK1 : Hid (((l.length : Int) * W + 63) / 64 = (k : Int)) := by unfold Hid; rw [← Int.natCast_mul]; omega
  have HE : Hid (imE (W : Int) l = 0) := hE
  have HA : Hid (∀ j, j < l.length → gt l j < 2 ^ W) := fun j hj => (lenI_fit _ _).1 (a4 j hj)
  clear hk hE a4
  go_enter Tryz.func59, Tryz.ntmps59
  go_wp2_with fail
  refine (makeable_ok _ _ _ _ _ (K _) hf HE.out).mono ?_
  rintro e w' ⟨rfl, hw'⟩
  subst hw'
  go_wp2_with fail
  refine (new_ok _ k _ hmi a3 HK1.out).mono ?_
  rintro e w1 ⟨g, rfl, hg1, hg2, hO, hb⟩
  have KF : w1.frozen? ⟨w.heap.size, 0, none⟩ = false ∧ w1.frozen? ⟨w.heap.size, 1, none⟩ = false ∧ w1.frozen? ⟨w.heap.size, 2, none⟩ = false ∧ w1.frozen? ⟨w.heap.size, 3, none⟩ = false :=
    ⟨(hb.frozen (p := ⟨w.heap.size, 0, none⟩) (by simp)).trans (by simp), (hb.frozen (p := ⟨w.heap.size, 1, none⟩) (by simp)).trans (by simp), (hb.frozen (p := ⟨w.heap.size, 2, none⟩) (by simp)).trans (by simp), (hb.frozen (p := ⟨w.heap.size, 3, none⟩) (by simp)).trans (by simp)⟩
  have KK := Box4.new hb
  have hg0 : w.heap.size + 1 ≤ g := by simpa using hg1
  clear hb hg1 K
  obtain ⟨⟨hz, k0, k1, k2, k3⟩, hw⟩ := KK
  obtain ⟨f0, f1, f2, f3⟩ := KF
  go_wp2
  go_loopw [33] (fun i wr => ∃ q : Nat, q ≤ l.length ∧ i = .int .i64 q ∧ Own wr g (mkS l W q) ∧ (wr.cell? ⟨w1.heap.size, 0, none⟩ = some (.int .i64 ((l.length : Int) * W)) ∧ wr.cell? ⟨w1.heap.size, 1, none⟩ = some (.slice (some ⟨g, 0, none⟩) k k)) ∧ (wr.cell? ⟨w.heap.size, 0, none⟩ = some (.int .i64 0) ∧ wr.cell? ⟨w.heap.size, 1, none⟩ = some (.int .i64 0) ∧ wr.cell? ⟨w.heap.size, 2, none⟩ = some (.int .i64 0) ∧ wr.cell? ⟨w.heap.size, 3, none⟩ = some (.slice none 0 0)) ∧ (wr.frozen? ⟨w.heap.size, 0, none⟩ = false ∧ wr.frozen? ⟨w.heap.size, 1, none⟩ = false ∧ wr.frozen? ⟨w.heap.size, 2, none⟩ = false ∧ wr.frozen? ⟨w.heap.size, 3, none⟩ = false) ∧ Below w.heap.size w wr) (fun i _ => l.length - (intOf i).toNat)
  case atStart =>
    have hb := below_alloc w1 (.cells #[.int .i64 ((l.length : Int) * W), .slice (some ⟨g, 0, none⟩) k k] 24)
    refine ⟨0, Nat.zero_le _, rfl, ?_, ⟨by simp, by simp⟩, ⟨(hb.cell (p := ⟨w.heap.size, 0, none⟩) hz).trans k0, (hb.cell (p := ⟨w.heap.size, 1, none⟩) hz).trans k1, (hb.cell (p := ⟨w.heap.size, 2, none⟩) hz).trans k2, (hb.cell (p := ⟨w.heap.size, 3, none⟩) hz).trans k3⟩, ⟨(hb.frozen (p := ⟨w.heap.size, 0, none⟩) hz).trans f0, (hb.frozen (p := ⟨w.heap.size, 1, none⟩) hz).trans f1, (hb.frozen (p := ⟨w.heap.size, 2, none⟩) hz).trans f2, (hb.frozen (p := ⟨w.heap.size, 3, none⟩) hz).trans f3⟩, hw.trans (hb.mono (by omega))⟩
    rw [← mkS_zero, ← rep_row (l.length * W) k HK.out]
    exact hO.keep hb
  case round =>
    obtain ⟨q, hq, rfl, hOr, ⟨r0, r1⟩, ⟨s0, s1, s2, s3⟩, ⟨t0, t1, t2, t3⟩, hwr⟩ := hrel
    by_cases hlt : q < l.length
    · obtain ⟨b, off, rfl, hb, hc⟩ := hx (by omega)
      have e1 := (hwr.cell (p := ⟨b, off + q, none⟩) hb).trans (hc q hlt)
      have hlt3 : (q : Int) < (l.length : Int) := by omega
      have hn := mul_next l.length W q hlt
      have hqW : q * W ≤ 1048576 := by omega
      have hqi : (0 : Int) ≤ (q : Int) * (W : Int) := Int.mul_nonneg (by omega) (by omega)
      have hqi2 : (q : Int) * (W : Int) ≤ 1048576 := by rw [← Int.natCast_mul]; omega
      have FS : Hid (layL (mkS l W q) (q * W) W (gt l q) = mkS l W (q + 1)) := mkS_step l W q (by omega) (by omega) hlt (HA.out q hlt) (hf q)
      have HLN : Hid ((mkS l W q).length = k) := by unfold Hid; rw [length_mkS]; exact HK.out.symm
      have HP : Hid (q * W + W ≤ 64 * (mkS l W q).length) := by unfold Hid; rw [length_mkS]; omega
      have HC : Hid ((q : Int) * (W : Int) = ((q * W : Nat) : Int)) := (Int.natCast_mul q W).symm
      clear hc hn
      go_wp2_with fail
      rw [HC.out]
      refine (lay_c (mkS l W q) k g k (q * W) W (gt l q) _ HLN.out hOr (fit_mkS _ _ _) (by omega) (by omega) (hf q) HP.out hqW).mono ?_
      rintro e w4 ⟨rfl, hO4, hT⟩
      rw [FS.out] at hO4
      have u0 := (hT.cell (p := ⟨w1.heap.size, 0, none⟩) (show w1.heap.size ≠ g by omega)).trans r0
      have u1 := (hT.cell (p := ⟨w1.heap.size, 1, none⟩) (show w1.heap.size ≠ g by omega)).trans r1
      have x0 := (hT.cell (p := ⟨w.heap.size, 0, none⟩) (show w.heap.size ≠ g by omega)).trans s0
      have x1 := (hT.cell (p := ⟨w.heap.size, 1, none⟩) (show w.heap.size ≠ g by omega)).trans s1
      have x2 := (hT.cell (p := ⟨w.heap.size, 2, none⟩) (show w.heap.size ≠ g by omega)).trans s2
      have x3 := (hT.cell (p := ⟨w.heap.size, 3, none⟩) (show w.heap.size ≠ g by omega)).trans s3
      have y0 := (hT.frozen (p := ⟨w.heap.size, 0, none⟩) (show w.heap.size ≠ g by omega)).trans t0
      have y1 := (hT.frozen (p := ⟨w.heap.size, 1, none⟩) (show w.heap.size ≠ g by omega)).trans t1
      have y2 := (hT.frozen (p := ⟨w.heap.size, 2, none⟩) (show w.heap.size ≠ g by omega)).trans t2
      have y3 := (hT.frozen (p := ⟨w.heap.size, 3, none⟩) (show w.heap.size ≠ g by omega)).trans t3
      have hw4 := hwr.trans (hT.below (B := w.heap.size) (by omega))
      clear hT r0 r1 s0 s1 s2 s3 t0 t1 t2 t3 hwr hOr e1
      go_wp2
      exact ⟨⟨q + 1, by omega, by go_num, hO4, ⟨u0, u1⟩, ⟨x0, x1, x2, x3⟩, ⟨y0, y1, y2, y3⟩, hw4⟩, by simp only [intOf]; omega⟩
    · have hq2 : q = l.length := by omega
      rw [hq2] at hOr
      clear hq2
      go_wp2
      refine bodyPost_ret (v := .tuple #[.agg #[.int .i64 l.length, .int .i64 W, .int .i64 ((l.length : Int) * W), .slice (some ⟨g, 0, none⟩) k k], .int .i64 0]) (by simp [results, Tryz.results59, go_sem, s0, s1, s2, s3]) rfl ⟨g, rfl, by omega, ?_, ?_⟩
      · exact (((hOr.set_other (by simp; omega) _).set_other (by simp; omega) _).set_other (by simp; omega) _).set_other (by simp; omega) _
      · exact (((hwr.setCell (by simp) _).setCell (by simp) _).setCell (by simp) _).setCell (by simp) _

/-- As Out, and the words lie in memory that is new. -/
def OutF (w w' : World) (ao : Option Addr) (ys : List Nat) (cap : Nat) : Prop := Wd w' ao ys ∧ Fit ys ∧ ys.length ≤ cap ∧ (∀ a, ao = some a → w.heap.size ≤ a.block) ∧ Below w.heap.size w w'
theorem Wd.set_other {w : World} {ao : Option Addr} {xs : List Nat} (h : Wd w ao xs) {a : Addr} (hn : ∀ p, ao = some p → p.block ≠ a.block) (v : Value) : Wd (w.setCell a v) ao xs := by
  intro hi
  obtain ⟨b, off, e, hlt, hc⟩ := h hi
  have hne := hn _ e
  refine ⟨b, off, e, by rw [size_set]; exact hlt, fun i hi => ?_⟩
  rw [← hc i hi]
  exact World.cell?_of_block (w := w) (a := ⟨b, off + i, none⟩) (Below.heap_setCell w a v b hne)

end Go.Proofs.YtmphbnmcbonmmaaGreatDoor

namespace Go.Proofs.YtmphbnmcbonmmaaGreatDoor
open Go.RowKit Num Bit
set_option maxRecDepth 100000
set_option linter.unusedVariables false

theorem info4 : (Tryz.prog.info? 4).map (fun i => (i.zero, i.size, i.bytes)) = some (some (.bool false), 1, 1) := by kernel_rfl

def bv (l : List Bool) : List Value := l.map fun b => Value.bool b
/-- The bits of numbers of that width, the first q of them. -/
def mb (l : List Nat) (W q : Nat) : List Bool := (List.range q).map fun j => (gt l (j / W)).testBit (j % W)
theorem length_mb (l : List Nat) (W q : Nat) : (mb l W q).length = q := by simp [mb]
theorem bt_mb (l : List Nat) (W q i : Nat) (h : i < q) : bt (mb l W q) i = (gt l (i / W)).testBit (i % W) := by
  unfold bt mb
  rw [List.getD_eq_getElem?_getD, List.getElem?_map, List.getElem?_range h]
  rfl
theorem mb_succ (l : List Nat) (W i k : Nat) (hk : k < W) : bv (mb l W (i * W + k)) ++ [.bool ((gt l i).testBit k)] = bv (mb l W (i * W + k + 1)) := by
  unfold bv mb
  rw [List.range_succ, List.map_append, List.map_append]
  have e1 : (i * W + k) / W = i := by rw [Nat.mul_comm, Nat.mul_add_div (by omega), Nat.div_eq_of_lt hk]; omega
  have e2 : (i * W + k) % W = k := by rw [Nat.mul_comm, Nat.mul_add_mod, Nat.mod_eq_of_lt hk]
  simp only [List.map_cons, List.map_nil, e1, e2]
theorem mb_row (l : List Nat) (W : Nat) : fromS (mb l W (l.length * W)) (mb l W (l.length * W)).length = mkS l W l.length := by
  unfold fromS mkS
  rw [length_mb]
  refine rowOf_congr _ _ _ fun i hi => ?_
  rw [bt_mb _ _ _ _ hi]
theorem shr_bit (y q : Nat) : (((y : Int) / 2 ^ q).tmod 2 == 1) = y.testBit q := by
  rw [bit_tmod _ _ (Int.natCast_nonneg _), bit_test, Int.toNat_natCast, Bool.eq_iff_iff, beq_iff_eq, decide_eq_true_eq]
  omega
theorem bl_owns {w : World} {base n : Nat} {v : Value} {l : List Bool} (h : w.ownsRow base 4 1 v n (bv l)) : ∃ ao cap, v = .slice ao n cap ∧ Bl w ao l ∧ l.length = n := by
  have hn : l.length = n := by have := h.1; simpa [bv] using this
  obtain ⟨h1, ⟨rfl, rfl⟩ | ⟨g, cap, cur, rfl, e2, hh, r, _, hs, ht⟩⟩ := h
  · exact ⟨none, 0, rfl, fun h => absurd h (by omega), hn⟩
  · refine ⟨some ⟨g, 0, none⟩, cap, rfl, fun _ => ⟨g, 0, rfl, (Array.getElem?_eq_some_iff.1 hh).1, fun i hi => ?_⟩, hn⟩
    unfold World.cell?
    rw [show w.heap[({ block := g, off := 0 + i, spot := none } : Addr).block]? = _ from hh]
    have h3 : (cur.toList.take (n * 1))[i]? = some (.bool (bt l i)) := by
      rw [ht, bv, List.getElem?_map]
      unfold bt
      rw [List.getD_eq_getElem?_getD, List.getElem?_eq_getElem hi]
      rfl
    rw [List.getElem?_take_of_lt (by omega)] at h3
    simpa using h3

theorem reffrom_n (ao : Option Addr) (l : List Bool) (n cap k : Nat) (w : World) (hn : l.length = n) (hx : Bl w ao l) (hl : n ≤ 1048576) (hk : k = (n + 63) / 64) :
    Calls Tryz.prog 34 #[.slice ao n cap] w fun e w' => ∃ g, e = .returned (.tuple #[.agg #[.int .i64 n, .slice (some ⟨g, 0, none⟩) k k], .int .i64 0]) ∧ w.heap.size ≤ g ∧ Own w' g (fromS l l.length) ∧ Below w.heap.size w w' := by
  subst hn
  exact reffrom_ok ao l cap k w hx hl hk

/-- What stands while the bits are gathered: the result's box, and that nothing old has turned. -/
structure RB (w wr : World) : Prop where
  c0 : wr.cell? ⟨w.heap.size, 0, none⟩ = some (.int .i64 0)
  c1 : wr.cell? ⟨w.heap.size, 1, none⟩ = some (.int .i64 0)
  c2 : wr.cell? ⟨w.heap.size, 2, none⟩ = some (.int .i64 0)
  c3 : wr.cell? ⟨w.heap.size, 3, none⟩ = some (.slice none 0 0)
  f0 : wr.frozen? ⟨w.heap.size, 0, none⟩ = false
  f1 : wr.frozen? ⟨w.heap.size, 1, none⟩ = false
  f2 : wr.frozen? ⟨w.heap.size, 2, none⟩ = false
  f3 : wr.frozen? ⟨w.heap.size, 3, none⟩ = false
  lt : w.heap.size < wr.heap.size
  bel : Below w.heap.size w wr
theorem RB.new (w : World) : RB w (w.alloc (.cells #[.int .i64 0, .int .i64 0, .int .i64 0, .slice none 0 0] 27)) := ⟨by simp, by simp, by simp, by simp, by simp, by simp, by simp, by simp, by simp, below_alloc _ _⟩
theorem RB.keep {w w1 w2 : World} (h : RB w w1) (hb : Below (w.heap.size + 1) w1 w2) : RB w w2 :=
  ⟨(hb.cell (p := ⟨w.heap.size, 0, none⟩) (by simp)).trans h.c0, (hb.cell (p := ⟨w.heap.size, 1, none⟩) (by simp)).trans h.c1, (hb.cell (p := ⟨w.heap.size, 2, none⟩) (by simp)).trans h.c2, (hb.cell (p := ⟨w.heap.size, 3, none⟩) (by simp)).trans h.c3,
   (hb.frozen (p := ⟨w.heap.size, 0, none⟩) (by simp)).trans h.f0, (hb.frozen (p := ⟨w.heap.size, 1, none⟩) (by simp)).trans h.f1, (hb.frozen (p := ⟨w.heap.size, 2, none⟩) (by simp)).trans h.f2, (hb.frozen (p := ⟨w.heap.size, 3, none⟩) (by simp)).trans h.f3,
   Nat.lt_of_lt_of_le h.lt hb.size, h.bel.trans (hb.mono (by omega))⟩

theorem RB.put {w w1 : World} (h : RB w w1) (p q r s : Value) : Box4 ((((w1.setCell ⟨w.heap.size, 0, none⟩ p).setCell ⟨w.heap.size, 1, none⟩ q).setCell ⟨w.heap.size, 2, none⟩ r).setCell ⟨w.heap.size, 3, none⟩ s) w.heap.size p q r s :=
  ⟨by simp only [size_set]; exact h.lt, by simp [go_sem, h.c0], by simp [go_sem, h.c1], by simp [go_sem, h.c2], by simp [go_sem, h.c3]⟩

set_option maxHeartbeats 4000000 in
theorem refmake_loop (W : Nat) (al : Option Addr) (l : List Nat) (cap k : Nat) (w : World) (hx : Wd w al l) (hf : Fit l) (a1 : 1 ≤ W) (a2 : W ≤ 64) (hm : l.length * W ≤ 1048576) (hk : k = (l.length * W + 63) / 64) :
    Calls Tryz.prog 33 #[.int .i64 W, .slice al l.length cap] w fun e w' =>
      (imE (W : Int) l = 0 ∧ ∃ g, e = .returned (.tuple #[.agg #[.int .i64 l.length, .int .i64 W, .int .i64 ((l.length : Int) * W), .slice (some ⟨g, 0, none⟩) k k], .int .i64 0]) ∧ w.heap.size ≤ g ∧ Own w' g (mkS l W l.length) ∧ Below w.heap.size w w') ∨
      (imE (W : Int) l ≠ 0 ∧ e = .returned (.tuple #[.agg #[.int .i64 0, .int .i64 0, .int .i64 0, .slice none 0 0], .int .i64 2]) ∧ Below w.heap.size w w') := by
  have hll : l.length ≤ 1048576 := Nat.le_trans (Nat.le_mul_of_pos_right _ (by omega)) hm
  have hmi : (0 : Int) ≤ (l.length : Int) * (W : Int) := Int.mul_nonneg (by omega) (by omega)
  have hmi2 : (l.length : Int) * (W : Int) ≤ 1048576 := by rw [← Int.natCast_mul]; omega
  have HK : Hid (k = (l.length * W + 63) / 64) := hk
  have d1 : decide ((W : Int) < 1) = false := by simp; omega
  have d2 : decide (64 < (W : Int)) = false := by simp; omega
  have d3 : decide ((1048576 : Int) < (l.length : Int)) = false := by simp; omega
  have HI : Hid ((∀ j, j < l.length → lenI (gt l j) ≤ W) → imE (W : Int) l = 0) := fun h => by
    unfold imE; rw [if_neg]; rintro (h1 | h1 | h1 | h1) <;> first | omega | exact h1 h
  have HJ : Hid (∀ j, j < l.length → (W : Int) < lenI (gt l j) → imE (W : Int) l ≠ 0) := fun j hj h e => by
    have := (imE_zero _ l e).2.2.2 j hj; omega
  obtain ⟨i0, hi, hz0, hz1, hz2⟩ := info_parts info4
  clear hk
  go_enter Tryz.func33, Tryz.ntmps33
  go_wp2
  go_loopw [6, 7] (fun v i wr => ∃ q : Nat, q ≤ l.length ∧ i = .int .i64 q ∧ wr.ownsRow (w.heap.size + 1) 4 1 v (q * W) (bv (mb l W (q * W))) ∧ Hid (∀ j, j < q → lenI (gt l j) ≤ W) ∧ RB w wr) (fun _ i _ => l.length - (intOf i).toNat)
  case atStart => exact ⟨0, Nat.zero_le _, rfl, by rw [Nat.zero_mul]; exact World.ownsRow_nil _ _ _ _, fun j hj => absurd hj (by omega), RB.new w⟩
  case round =>
    obtain ⟨q, hq, rfl, hown, HA, rb⟩ := hrel
    by_cases hlt : q < l.length
    · obtain ⟨b, off, rfl, hb, hc⟩ := hx (by omega)
      have e1 := (rb.bel.cell (p := ⟨b, off + q, none⟩) hb).trans (hc q hlt)
      have hlt3 : (q : Int) < (l.length : Int) := by omega
      have F1 : Hid ((gt l q : Int) < 18446744073709551616) := by unfold Hid; have := hf q; omega
      by_cases hfit : lenI (gt l q) ≤ (W : Int)
      · have dF : decide (lenI (gt l q) ≤ (W : Int)) = true := by simpa using hfit
        have HF : Hid (lenI (gt l q) ≤ (W : Int)) := hfit
        clear hfit
        have hn := mul_next l.length W q hlt
        have hqm : q * W + W ≤ 1048576 := by omega
        clear hc
        go_wp2_with (go_at_call 65; refine (reffits_c _ _ ?_ ?_ _).mono ?_; (exact Int.natCast_nonneg _); exact F1.out; rintro e w' ⟨rfl, rfl⟩)
        go_loopw [6, 8] (fun v j wr => ∃ k : Nat, k ≤ W ∧ j = .int .i64 k ∧ wr.ownsRow (w.heap.size + 1) 4 1 v (q * W + k) (bv (mb l W (q * W + k))) ∧ wr.cell? ⟨b, off + q, none⟩ = some (.int .u64 (gt l q)) ∧ RB w wr) (fun _ j _ => W - (intOf j).toNat)
        case atStart => exact ⟨0, Nat.zero_le _, rfl, hown, e1, rb⟩
        case round =>
          clear hown e1 rb
          obtain ⟨k, hk, rfl, hown, e1, rb⟩ := hrel
          by_cases hk2 : k < W
          · have hk3 : (k : Int) < (W : Int) := by omega
            have hk4 : k < 64 := by omega
            have rlt := rb.lt
            have hbw : b < w.heap.size := hb
            have BT : Hid ((((gt l q : Int) / 2 ^ k).tmod 2 == 1) = (gt l q).testBit k) := shr_bit _ _
            go_wp2_with (at_builtin; refine wpList_append_own _ rfl _ _ 61 rfl (w.heap.size + 1) 4 i0 (.bool false) 1 1 Tryz.underlying61 hi hz0 hz1 hz2 rfl (by decide) _ _ _ rfl (hown.alloc _) ⟨wr.heap.size, 0, none⟩ 1 1 [.bool (((gt l q : Int) / 2 ^ k).tmod 2 == 1)] rfl rfl ?c1 ?c2 ?c3 ?c4 ?c5 ?_)
            case c1 =>
              intro j u hj
              match j, hj with
              | 0, hj => simp at hj; subst hj; simp [Addr.add]
            case c2 => intro u hu; simp at hu; subst hu; rfl
            case c3 => unfold maxLen; omega
            case c4 => omega
            case c5 => simp; omega
            intro v' w3 hown3 hgrow _
            have hrow : ∀ k, u6.ownBlock = some k → w.heap.size + 1 ≤ k := fun k hk => (hown.lt k hk).1
            have hb3 : Below (w.heap.size + 1) (wr.alloc (.cells #[.bool (((gt l q : Int) / 2 ^ k).tmod 2 == 1)] 4)) w3 := (Below.refl _ _).grown hgrow (by simp; omega) hrow
            have hb4 : Below (w.heap.size + 1) wr w3 := Below.trans ((Below.refl _ _).alloc (by omega) _) hb3
            have e3 := (hb4.cell (p := ⟨b, off + q, none⟩) (show b < w.heap.size + 1 by omega)).trans e1
            have rb3 := rb.keep hb4
            rw [BT.out, mb_succ l W q k hk2] at hown3
            have HO : Hid (w3.ownsRow (w.heap.size + 1) 4 1 v' (q * W + (k + 1)) (bv (mb l W (q * W + (k + 1))))) := hown3
            clear hgrow hb3 hb4 hown3 hrow e1 rb hown BT
            go_wp2
            first
              | exact ⟨⟨k + 1, by omega, by go_num, HO.out, e3, rb3⟩, by simp only [intOf]; omega⟩
              | (go_roundw
                 case rel => exact ⟨k + 1, by omega, by go_num, HO.out, e3, rb3⟩
                 case measure => simp only [intOf]; omega)
          · have hkW : k = W := by omega
            have HO : Hid (wr.ownsRow (w.heap.size + 1) 4 1 u6 ((q + 1) * W) (bv (mb l W ((q + 1) * W)))) := by
              rw [hkW] at hown
              rw [Nat.add_mul, Nat.one_mul]
              exact hown
            have HA2 : Hid (∀ j, j < q + 1 → lenI (gt l j) ≤ W) := fun j hj => by
              by_cases e : j = q
              · subst e; exact HF.out
              · exact HA.out j (by omega)
            clear hkW hown e1
            go_wp2
            first
              | exact ⟨⟨q + 1, by omega, by go_num, HO.out, HA2, rb⟩, by simp only [intOf]; omega⟩
              | (go_roundw
                 case rel => exact ⟨q + 1, by omega, by go_num, HO.out, HA2, rb⟩
                 case measure => simp only [intOf]; omega)
      · have dF : decide (lenI (gt l q) ≤ (W : Int)) = false := by simpa using hfit
        have HF : Hid (imE (W : Int) l ≠ 0) := HJ.out q hlt (by omega)
        clear hfit
        obtain ⟨k0, k1, k2, k3, f0, f1, f2, f3, rl, rbel⟩ := rb
        go_wp2_with (go_at_call 65; refine (reffits_c _ _ ?_ ?_ _).mono ?_; (exact Int.natCast_nonneg _); exact F1.out; rintro e w' ⟨rfl, rfl⟩)
        refine bodyPost_ret (v := .tuple #[.agg #[.int .i64 0, .int .i64 0, .int .i64 0, .slice none 0 0], .int .i64 2]) (by simp [results, Tryz.results33, go_sem, k0, k1, k2, k3]) rfl (.inr ⟨HF.out, rfl, ?_⟩)
        exact (((rbel.setCell (by simp) _).setCell (by simp) _).setCell (by simp) _).setCell (by simp) _
    · have hq2 : q = l.length := by omega
      subst hq2
      have HE : Hid (imE (W : Int) l = 0) := HI.out HA.out
      obtain ⟨bo, dap, rfl, hB, hBn⟩ := bl_owns hown
      clear hown HI HJ HA hlt
      have rlt := rb.lt
      go_wp2_with fail
      refine (reffrom_n _ _ _ _ k _ hBn hB hm HK.out).mono ?_
      rintro e w1 ⟨g, rfl, hg1, hO, hb⟩
      rw [mb_row] at hO
      replace rb := rb.keep (hb.mono (by omega))
      have hg0 : w.heap.size < g := by omega
      have HO : Hid (Own w1 g (mkS l W l.length)) := hO
      have hgl := hO.lt
      clear hb hB hBn hO
      have PB := (rb.put (.int .i64 l.length) (.int .i64 W) (.int .i64 ((l.length : Int) * W)) (.slice (some ⟨g, 0, none⟩) k k)).keep (below_alloc _ (.cells #[.int .i64 ((l.length : Int) * W), .slice (some ⟨g, 0, none⟩) k k] 24))
      have HPB : Hid (Box4 _ _ _ _ _ _) := PB
      clear PB
      obtain ⟨k0, k1, k2, k3, f0, f1, f2, f3, rl, rbel⟩ := rb
      go_wp2
      obtain ⟨_, p0, p1, p2, p3⟩ := HPB.out
      refine bodyPost_ret (v := .tuple #[.agg #[.int .i64 l.length, .int .i64 W, .int .i64 ((l.length : Int) * W), .slice (some ⟨g, 0, none⟩) k k], .int .i64 0]) (by simp [results, Tryz.results33, go_sem, p0, p1, p2, p3]) rfl (.inl ⟨HE.out, g, rfl, by omega, ?_, ?_⟩)
      · exact ((((HO.out.set_other (by simp; omega) _).set_other (by simp; omega) _).set_other (by simp; omega) _).set_other (by simp; omega) _).keep (below_alloc _ _)
      · exact ((((rbel.setCell (by simp) _).setCell (by simp) _).setCell (by simp) _).setCell (by simp) _).alloc (by simp only [size_set]; omega) _
end Go.Proofs.YtmphbnmcbonmmaaGreatDoor

namespace Go.Proofs.YtmphbnmcbonmmaaGreatDoor
open Go.RowKit Num Bit
set_option maxRecDepth 100000
set_option linter.unusedVariables false

def lsS (n : Nat) (f : Nat → Nat) (k : Nat) : List Nat := (List.range n).map fun i => if i < k then f i else 0
theorem length_lsS (n : Nat) (f : Nat → Nat) (k : Nat) : (lsS n f k).length = n := by simp [lsS]
theorem gt_lsS (n : Nat) (f : Nat → Nat) (k j : Nat) : gt (lsS n f k) j = if j < n ∧ j < k then f j else 0 := by
  unfold lsS gt
  rw [List.getD_eq_getElem?_getD, List.getElem?_map]
  by_cases h : j < n
  · rw [List.getElem?_range h]
    by_cases c : j < k <;> simp [h, c]
  · rw [List.getElem?_eq_none (by simp; omega)]; simp [h]
theorem lsS_zero (n : Nat) (f : Nat → Nat) : List.replicate n 0 = lsS n f 0 := by
  refine list_ext _ _ (by rw [length_lsS]; simp) fun i hi => ?_
  rw [gt_lsS]
  simp only [List.length_replicate] at hi
  unfold gt
  rw [List.getD_eq_getElem?_getD, List.getElem?_replicate]
  simp [hi]
theorem lsS_step (n : Nat) (f : Nat → Nat) (k : Nat) (h : k < n) : (lsS n f k).set k (f k) = lsS n f (k + 1) := by
  refine list_ext _ _ (by rw [List.length_set, length_lsS, length_lsS]) fun i hi => ?_
  rw [gt_set _ _ _ _ (by rw [length_lsS]; exact h), gt_lsS, gt_lsS]
  rw [List.length_set, length_lsS] at hi
  by_cases c : k = i
  · subst c; simp [h]
  · rw [if_neg c]
    by_cases d : i < k
    · simp [hi, d, show i < k + 1 by omega]
    · simp [d, show ¬ i < k + 1 by omega]
theorem lsS_all (n : Nat) (f : Nat → Nat) : lsS n f n = (List.range n).map f := by
  unfold lsS
  refine List.map_congr_left fun i hi => ?_
  rw [if_pos (List.mem_range.1 hi)]
theorem numAt_lt (n : Nat) (h : n ≤ 64) (xs : List Nat) (i : Nat) : numAt n xs i < 18446744073709551616 := by
  have := numOf_lt n (fun k => bitAt xs (i * n + k))
  have h2 := Nat.pow_le_pow_right (n := 2) (j := 64) (by decide) h
  rw [show (2 : Nat) ^ 64 = 18446744073709551616 from rfl] at h2
  unfold numAt
  omega
theorem fit_map (n : Nat) (f : Nat → Nat) (h : ∀ i, f i < 18446744073709551616) : Fit ((List.range n).map f) := by
  rw [← lsS_all]
  intro i
  rw [gt_lsS]
  split
  · exact h i
  · decide
theorem gt_map (n : Nat) (f : Nat → Nat) (j : Nat) (h : j < n) : gt ((List.range n).map f) j = f j := by
  rw [← lsS_all, gt_lsS, if_pos ⟨h, h⟩]

end Go.Proofs.YtmphbnmcbonmmaaGreatDoor

namespace Go.Proofs.YtmphbnmcbonmmaaGreatDoor
open Go.RowKit Num Bit
set_option maxRecDepth 100000
set_option linter.unusedVariables false

theorem refmake_bad (W : Int) (al : Option Addr) (n cap : Nat) (w : World) (hn : n ≤ 1048576) (h : W < 1 ∨ 64 < W ∨ 1048576 < (n : Int) * W) :
    Calls Tryz.prog 33 #[.int .i64 W, .slice al n cap] w fun e w' => e = .returned (.tuple #[.agg #[.int .i64 0, .int .i64 0, .int .i64 0, .slice none 0 0], .int .i64 2]) ∧ Below w.heap.size w w' := by
  by_cases a1 : W < 1
  · clear h
    go_enter Tryz.func33, Tryz.ntmps33
    go_wp2
    exact bodyPost_ret (v := .tuple #[.agg #[.int .i64 0, .int .i64 0, .int .i64 0, .slice none 0 0], .int .i64 2]) (by simp [results, Tryz.results33, go_sem]) rfl ⟨rfl, below_alloc w _⟩
  have d1 : decide (W < 1) = false := by simpa using a1
  by_cases a2 : 64 < W
  · clear h
    go_enter Tryz.func33, Tryz.ntmps33
    go_wp2
    exact bodyPost_ret (v := .tuple #[.agg #[.int .i64 0, .int .i64 0, .int .i64 0, .slice none 0 0], .int .i64 2]) (by simp [results, Tryz.results33, go_sem]) rfl ⟨rfl, below_alloc w _⟩
  have d2 : decide (64 < W) = false := by simpa using a2
  have d3 : decide ((1048576 : Int) < (n : Int)) = false := by simp; omega
  have h3 : 1048576 < (n : Int) * W := by omega
  have b2 : (n : Int) * W ≤ 1048576 * 64 := Int.mul_le_mul (by omega) (by omega) (by omega) (by omega)
  clear h
  go_enter Tryz.func33, Tryz.ntmps33
  go_wp2
  exact bodyPost_ret (v := .tuple #[.agg #[.int .i64 0, .int .i64 0, .int .i64 0, .slice none 0 0], .int .i64 2]) (by simp [results, Tryz.results33, go_sem]) rfl ⟨rfl, below_alloc w _⟩

theorem refmake_c (W : Int) (al : Option Addr) (l : List Nat) (cap : Nat) (w : World) (hx : Wd w al l) (hf : Fit l) (hcap : l.length ≤ 1048576) :
    Calls Tryz.prog 33 #[.int .i64 W, .slice al l.length cap] w fun e w' => ∃ bo dap, e = .returned (.tuple #[.agg #[.int .i64 (imN W l), .int .i64 (imW W l), .int .i64 (imM W l), .slice bo (imL W l).length dap], .int .i64 (imE W l)]) ∧ OutF w w' bo (imL W l) dap := by
  have bad : imE W l ≠ 0 → ∀ w' : World, Below w.heap.size w w' → ∃ bo dap, Ending.returned (.tuple #[.agg #[.int .i64 0, .int .i64 0, .int .i64 0, .slice none 0 0], .int .i64 2]) = .returned (.tuple #[.agg #[.int .i64 (imN W l), .int .i64 (imW W l), .int .i64 (imM W l), .slice bo (imL W l).length dap], .int .i64 (imE W l)]) ∧ OutF w w' bo (imL W l) dap := by
    intro hE w' hb
    have h1 : imL W l = [] := by unfold imL; rw [if_neg hE]
    have h2 : imN W l = 0 := by unfold imN; rw [if_neg hE]
    have h3 : imW W l = 0 := by unfold imW; rw [if_neg hE]
    have h4 : imM W l = 0 := by unfold imM; rw [if_neg hE]
    rw [h1, h2, h3, h4, imE_bad W l hE]
    exact ⟨none, 0, rfl, fun h => absurd h (by simp), fun i => by unfold gt; simp, by simp, fun a ha => (by cases ha), hb⟩
  by_cases h : W < 1 ∨ 64 < W ∨ 1048576 < (l.length : Int) * W
  · have hE : imE W l ≠ 0 := fun e => by have := imE_zero W l e; omega
    refine (refmake_bad W al l.length cap w hcap h).mono ?_
    rintro e w' ⟨rfl, hb⟩
    exact bad hE w' hb
  · obtain ⟨m, rfl⟩ := Int.eq_ofNat_of_zero_le (show 0 ≤ W by omega)
    have hm : l.length * m ≤ 1048576 := by
      have : ((l.length * m : Nat) : Int) ≤ 1048576 := by rw [Int.natCast_mul]; omega
      omega
    refine (refmake_loop m al l cap _ w hx hf (by omega) (by omega) hm rfl).mono ?_
    rintro e w' (⟨hE, g, rfl, hg0, hO, hb⟩ | ⟨hE, rfl, hb⟩)
    · have h1 : imL (m : Int) l = mkS l m l.length := by unfold imL; rw [if_pos hE, Int.toNat_natCast]
      have h2 : imN (m : Int) l = l.length := by unfold imN; rw [if_pos hE]
      have h3 : imW (m : Int) l = m := by unfold imW; rw [if_pos hE]
      have h4 : imM (m : Int) l = (l.length : Int) * m := by unfold imM; rw [if_pos hE]
      rw [h1, h2, h3, h4, hE]
      exact ⟨some ⟨g, 0, none⟩, _, by rw [length_mkS], hO.wd, fit_mkS _ _ _, by rw [length_mkS]; exact Nat.le_refl _, fun a ha => by cases ha; exact hg0, hb⟩
    · exact bad hE w' hb

/-! The document's List: what is appended lies in memory of the call's own, with room behind it. -/
def OwnC (w : World) (g : Nat) (ys : List Nat) : Prop := ∃ cur, w.heap[g]? = some (.cells cur 51 (0, 0)) ∧ ys.length ≤ cur.size ∧ ∀ j, j < ys.length → cur[j]? = some (.int .u64 (gt ys j))
theorem OwnC.lt {w : World} {g : Nat} {ys : List Nat} (h : OwnC w g ys) : g < w.heap.size := by obtain ⟨cur, hh, _⟩ := h; exact (Array.getElem?_eq_some_iff.1 hh).1
theorem OwnC.cell {w : World} {g : Nat} {ys : List Nat} (h : OwnC w g ys) (j : Nat) (hj : j < ys.length) : w.cell? ⟨g, j, none⟩ = some (.int .u64 (gt ys j)) := by
  obtain ⟨cur, hh, _, hc⟩ := h
  unfold World.cell?
  rw [show w.heap[({ block := g, off := j, spot := none } : Addr).block]? = _ from hh]
  exact hc j hj
theorem OwnC.frozen {w : World} {g : Nat} {ys : List Nat} (h : OwnC w g ys) (j : Nat) : w.frozen? ⟨g, j, none⟩ = false := by
  obtain ⟨cur, hh, _⟩ := h
  unfold World.frozen?
  rw [show w.heap[({ block := g, off := j, spot := none } : Addr).block]? = _ from hh]
  simp
theorem OwnC.wd {w : World} {g : Nat} {ys : List Nat} (h : OwnC w g ys) : Wd w (some ⟨g, 0, none⟩) ys := fun _ => ⟨g, 0, rfl, h.lt, fun i hi => by rw [Nat.zero_add]; exact h.cell i hi⟩
theorem OwnC.set {w : World} {g : Nat} {ys : List Nat} (h : OwnC w g ys) (j v : Nat) (hj : j < ys.length) : OwnC (w.setCell ⟨g, j, none⟩ (.int .u64 v)) g (ys.set j v) := by
  obtain ⟨cur, hh, hs, hc⟩ := h
  refine ⟨cur.setIfInBounds j (.int .u64 v), ?_, by simpa using hs, fun i hi => ?_⟩
  · simp only [World.setCell, Array.getElem?_modify]
    rw [if_pos trivial, hh]
    rfl
  · rw [List.length_set] at hi
    rw [Array.getElem?_setIfInBounds, gt_set ys j i v hj]
    by_cases e : j = i
    · subst e
      rw [if_pos rfl, if_pos rfl, if_pos (by omega)]
    · rw [if_neg e, if_neg e]; exact hc i hi
theorem OwnC.keep {w w' : World} {g : Nat} {ys : List Nat} (h : OwnC w g ys) (hb : Below w.heap.size w w') : OwnC w' g ys := by
  have hl := h.lt
  obtain ⟨cur, hh, r⟩ := h
  exact ⟨cur, (hb.block g hl).trans hh, r⟩
theorem owns_c {w : World} {base n : Nat} {v : Value} {ys : List Nat} (h : w.ownsRow base 51 1 v n (wv ys)) (hn : 0 < n) : ∃ g cap, v = .slice (some ⟨g, 0, none⟩) n cap ∧ base ≤ g ∧ n ≤ cap ∧ ys.length = n ∧ OwnC w g ys := by
  have hl : ys.length = n := by have := h.1; simpa [wv] using this
  obtain ⟨h1, ⟨rfl, rfl⟩ | ⟨g, cap, cur, rfl, e2, hh, r, _, hs, ht⟩⟩ := h
  · omega
  · refine ⟨g, cap, rfl, e2, r, hl, cur, hh, by omega, fun j hj => ?_⟩
    have h3 : (cur.toList.take (n * 1))[j]? = some (.int .u64 (gt ys j)) := by
      rw [ht, wv, List.getElem?_map, gt_get ys j hj]
      rfl
    rw [List.getElem?_take_of_lt (by omega)] at h3
    simpa using h3
theorem wv_succ (m : Nat) (xs : List Nat) (q : Nat) : wv ((List.range q).map (numAt m xs)) ++ [.int .u64 (numAt m xs q)] = wv ((List.range (q + 1)).map (numAt m xs)) := by
  unfold wv
  rw [List.range_succ, List.map_append, List.map_append]
  rfl
theorem owns_below {w w' : World} {base e n : Nat} {v : Value} {vs : List Value} (h : w.ownsRow base e 1 v n vs) (hb : Below w.heap.size w w') : w'.ownsRow base e 1 v n vs := by
  obtain ⟨h1, h2 | ⟨g, cap, cur, e1, e2, hh, r⟩⟩ := h
  · exact ⟨h1, .inl h2⟩
  · exact ⟨h1, .inr ⟨g, cap, cur, e1, e2, (hb.block g ((Array.getElem?_eq_some_iff.1 hh).1)).trans hh, r⟩⟩

set_option maxHeartbeats 4000000 in
theorem reflist_ok (M : Int) (n m : Nat) (ao : Option Addr) (xs : List Nat) (cap : Nat) (w : World) (hx : Wd w ao xs) (hf : Fit xs) (hk : ichk (n : Int) (m : Int) M xs = true) :
    Calls Tryz.prog 88 #[.agg #[.int .i64 n, .int .i64 m, .int .i64 M, .slice ao xs.length cap]] w fun e w' => ∃ v, e = .returned v ∧ w'.ownsRow w.heap.size 51 1 v n (wv ((List.range n).map (numAt m xs))) ∧ Below w.heap.size w w' := by
  obtain ⟨a1, a2, a3, a4, a5, a6, a7, a8⟩ := ichk_out n m M xs hk
  have hn : n ≤ 1048576 := by omega
  have HX : Hid (∀ k : Nat, k < n → ((igX n m M xs k : Nat) : Int) = ((numAt m xs k : Nat) : Int)) := by
    intro k hlt
    unfold igX
    rw [if_pos (igE_of n m M xs k hk (by omega) (by omega)), Int.toNat_natCast, Int.toNat_natCast]
  obtain ⟨i0, hi, hz0, hz1, hz2⟩ := info_parts Tryz.info51
  clear a3 a4 a5
  go_enter Tryz.func88, Tryz.ntmps88
  go_wp2
  go_loopw [3, 4] (fun v i wr => ∃ q : Nat, q ≤ n ∧ i = .int .i64 q ∧ wr.ownsRow (w.heap.size + 1) 51 1 v q (wv ((List.range q).map (numAt m xs))) ∧ Box4 wr w.heap.size (.int .i64 n) (.int .i64 m) (.int .i64 M) (.slice ao xs.length cap) ∧ wr.cell? ⟨w.heap.size, 0, none⟩ = some (.int .i64 n) ∧ Below w.heap.size w wr) (fun _ i _ => n - (intOf i).toNat)
  case atStart => exact ⟨0, Nat.zero_le _, rfl, World.ownsRow_nil _ _ _ _, ⟨by simp, by simp, by simp, by simp, by simp⟩, by simp, below_alloc _ _⟩
  case round =>
    obtain ⟨q, hq, rfl, hown, B, r0, hwr⟩ := hrel
    have hx' := hx.keep hwr
    by_cases hlt : q < n
    · have hlt2 : (q : Int) < (n : Int) := by omega
      have R : Hid (((igX n m M xs q : Nat) : Int) = ((numAt m xs q : Nat) : Int)) := HX.out q hlt
      obtain ⟨bl, b0, b1, b2, b3⟩ := B
      have hlt5 : decide ((q : Int) < (n : Int)) = true := by simpa using hlt2
      go_wp2_with fail
      refine (irefcheck_c _ _ _ _ _ _ _ hx' hf).mono ?_
      rintro e w2 ⟨rfl, hb⟩
      have B : Box4 w2 w.heap.size _ _ _ _ := Box4.keep ⟨bl, b0, b1, b2, b3⟩ hb
      have hx2 := hx'.keep hb
      replace hown := owns_below hown hb
      replace hwr := hwr.trans (hb.mono hwr.size)
      clear hb bl b0 b1 b2 b3 hx' r0
      obtain ⟨bl, b0, b1, b2, b3⟩ := B
      go_wp2_with fail
      refine (irefget_c _ _ _ _ _ _ _ _ hx2 hf).mono ?_
      rintro e w3 ⟨rfl, hb⟩
      have B : Box4 w3 w.heap.size _ _ _ _ := Box4.keep ⟨bl, b0, b1, b2, b3⟩ hb
      replace hown := owns_below hown hb
      replace hwr := hwr.trans (hb.mono hwr.size)
      clear hb bl b0 b1 b2 b3 hx2
      have bl := B.1
      go_wp2_with (at_builtin; refine wpList_append_own _ rfl _ _ 22 rfl (w.heap.size + 1) 51 i0 (.int .u64 0) 1 8 Tryz.underlying22 hi hz0 hz1 hz2 rfl (by decide) _ _ _ rfl (hown.alloc _) ⟨w3.heap.size, 0, none⟩ 1 1 [.int .u64 (igX n m M xs q)] rfl rfl ?c1 ?c2 ?c3 ?c4 ?c5 ?_)
      case c1 =>
        intro j u hj
        match j, hj with
        | 0, hj => simp at hj; subst hj; simp [Addr.add]
      case c2 => intro u hu; simp at hu; subst hu; rfl
      case c3 => unfold maxLen; omega
      case c4 => omega
      case c5 => simp; omega
      intro v' w4 hown4 hgrow _
      have hrow : ∀ k, u3.ownBlock = some k → w.heap.size + 1 ≤ k := fun k hk => (hown.lt k hk).1
      have hb3 : Below (w.heap.size + 1) (w3.alloc (.cells #[.int .u64 (igX n m M xs q)] 51)) w4 := (Below.refl _ _).grown hgrow (by simp; omega) hrow
      have hb4 : Below (w.heap.size + 1) w3 w4 := Below.trans ((Below.refl _ _).alloc (by omega) _) hb3
      have B4 : Box4 w4 w.heap.size (.int .i64 n) (.int .i64 m) (.int .i64 M) (.slice ao xs.length cap) := ⟨Nat.lt_of_lt_of_le bl hb4.size, (hb4.cell (p := ⟨w.heap.size, 0, none⟩) (by simp)).trans B.2.1, (hb4.cell (p := ⟨w.heap.size, 1, none⟩) (by simp)).trans B.2.2.1, (hb4.cell (p := ⟨w.heap.size, 2, none⟩) (by simp)).trans B.2.2.2.1, (hb4.cell (p := ⟨w.heap.size, 3, none⟩) (by simp)).trans B.2.2.2.2⟩
      have hw4 := hwr.trans (hb4.mono (by omega))
      rw [R.out, wv_succ] at hown4
      have HO : Hid (w4.ownsRow (w.heap.size + 1) 51 1 v' (q + 1) (wv ((List.range (q + 1)).map (numAt m xs)))) := hown4
      have s0 := B4.2.1
      clear hgrow hown hb3 hb4 hown4 hrow B bl hwr R
      go_wp2
      first
        | exact ⟨⟨q + 1, by omega, by go_num, HO.out, B4, s0, hw4⟩, by simp only [intOf]; omega⟩
        | (go_roundw
           case rel => exact ⟨q + 1, by omega, by go_num, HO.out, B4, s0, hw4⟩
           case measure => simp only [intOf]; omega)
    · have hqm : q = n := by omega
      have hlt5 : decide ((q : Int) < (n : Int)) = false := by simp; omega
      have HO : Hid (wr.ownsRow w.heap.size 51 1 u3 n (wv ((List.range n).map (numAt m xs)))) := by
        rw [hqm] at hown
        obtain ⟨h1, h2 | ⟨g, c, cur, e1, e2, r⟩⟩ := hown
        · exact ⟨h1, .inl h2⟩
        · exact ⟨h1, .inr ⟨g, c, cur, e1, by omega, r⟩⟩
      clear hqm hown
      go_wp2
      go_ret
      exact ⟨u3, rfl, HO.out, hwr⟩
end Go.Proofs.YtmphbnmcbonmmaaGreatDoor

namespace Go.Proofs.YtmphbnmcbonmmaaGreatDoor
open Go.RowKit
namespace Ap
theorem owns_below {w w' : World} {base e n : Nat} {v : Value} {vs : List Value} (h : w.ownsRow base e 1 v n vs) (hb : Below w.heap.size w w') : w'.ownsRow base e 1 v n vs := by
  obtain ⟨h1, h2 | ⟨g, cap, cur, e1, e2, hh, r⟩⟩ := h
  · exact ⟨h1, .inl h2⟩
  · exact ⟨h1, .inr ⟨g, cap, cur, e1, e2, (hb.block g ((Array.getElem?_eq_some_iff.1 hh).1)).trans hh, r⟩⟩
theorem owns_shape {w : World} {base e n : Nat} {v : Value} {vs : List Value} (h : w.ownsRow base e 1 v n vs) : ∃ ao cap, v = .slice ao n cap ∧ n ≤ cap ∧ (∀ k, v.ownBlock = some k → base ≤ k ∧ k < w.heap.size) := by
  have hl := h.lt
  obtain ⟨h1, ⟨rfl, rfl⟩ | ⟨g, cap, cur, rfl, e2, hh, r, _⟩⟩ := h
  · exact ⟨none, 0, rfl, Nat.le_refl _, hl⟩
  · exact ⟨some ⟨g, 0, none⟩, cap, rfl, r, hl⟩
theorem run_append_zero (w : World) (base : Nat) (t ty e : TypeId) (i : TypeInfo) (size : Nat) (ht : Tryz.prog.underlying t = some (.slice e)) (hi : Tryz.prog.info? e = some i)
    (v : Value) (n : Nat) (vs : List Value) (hown : w.ownsRow base e size v n vs) (xa : Option Addr) (c : Nat) :
    (Builtin.append_ #[t, t] ty #[v, .slice xa 0 c]).run Tryz.prog w = .ok v w := by
  have hc := fun ad : Addr => run_firstCells_some (P := Tryz.prog) w i.size 0 ad 0 c [] (by simp) (by simp)
  rcases hown.2 with ⟨rfl, rfl⟩ | ⟨g, cap, cur, rfl, _, _, hnc, _⟩
  · cases xa with
    | none => simp [Builtin.append_, run_underlying ht, sizeOf, typeInfo, hi, Builtin.lenOf, Builtin.firstCells]
    | some ad => simp [Builtin.append_, run_underlying ht, sizeOf, typeInfo, hi, Builtin.lenOf, hc]
  · cases xa with
    | none => simp [Builtin.append_, run_underlying ht, sizeOf, typeInfo, hi, Builtin.lenOf, Builtin.firstCells, hnc, storeCells]
    | some ad => simp [Builtin.append_, run_underlying ht, sizeOf, typeInfo, hi, Builtin.lenOf, hc, hnc, storeCells]

theorem step_append_u {ops : Array Oper} {o : Oper} {a : Act} {w : World} {K : Act → World → Prop} {Q : Exit → Act → World → Prop} {E : Prop} (hgd : o.guard = none) (s x : Operand) (t : TypeId)
    (ho : o.op = .call { callee := .builtin .append, args := #[s, x], argTypes := #[t, t] })
    (base : Nat) (e : TypeId) (i : TypeInfo) (z : Value) (bytes : Nat) (ht : Tryz.prog.underlying t = some (.slice e)) (hi : Tryz.prog.info? e = some i) (hz : i.zero = some z)
    (hsize : i.size = 1) (hby : i.bytes = bytes) (hzs : z.cells.size = 1)
    (v : Value) (n : Nat) (vs : List Value) (hs : a.eval s = v) (hown : w.ownsRow base e 1 v n vs)
    (xa : Option Addr) (m c : Nat) (news : List Value) (hx : a.eval x = .slice xa m c) (hl : news.length = m) (hsrc : 0 < m → ∃ ad, xa = some ad ∧ ∀ j u, news[j]? = some u → w.cell? (ad.add j) = some u) (h1 : ∀ u ∈ news, u.oneCell' = true)
    (h63 : n + m ≤ maxLen) (hbytes : (n + m) * bytes ≤ 140737488355328) (hbase : base ≤ w.heap.size)
    (h : ∀ ao cap w', w'.ownsRow base e 1 (.slice ao (n + m) cap) (n + m) (vs ++ news) → n + m ≤ cap → Below base w w' → (∀ k, (Value.slice ao (n + m) cap).ownBlock = some k → (v.ownBlock = some k ∨ k = w.heap.size) ∧ k < w'.heap.size) → (∀ k, k < w.heap.size → v.ownBlock ≠ some k → w'.heap[k]? = w.heap[k]?) → w.heap.size ≤ w'.heap.size → K (a.put o.dst (.slice ao (n + m) cap)) w') :
    if Region.wanted o (yielded ops a.tmps) = true then Oper.wp Tryz.prog o a w K Q else E := by
  have hw : Region.wanted o (yielded ops a.tmps) = true := by simp [Region.wanted, hgd]
  rw [if_pos hw]
  by_cases hm : m = 0
  · subst hm
    have hn : news = [] := List.eq_nil_of_length_eq_zero hl
    subst hn
    have hr := run_append_zero w base t o.type e i 1 ht hi v n vs hown xa c
    obtain ⟨ao, cap, rfl, hc, hk⟩ := owns_shape hown
    unfold Oper.wp execOp
    simp only [ho, resolve, invoke, builtin, Sem.run_bind, Sem.run_pure, Result.andThen_ok, List.map_toArray, List.map_cons, List.map_nil, hs, hx, hr]
    refine h ao cap w (by simpa using hown) hc (Below.refl _ _) (fun k e => ⟨.inl e, (hk k e).2⟩) (fun _ _ _ => rfl) (Nat.le_refl _)
  · obtain ⟨ad, rfl, hn⟩ := hsrc (by omega)
    refine wp_append_lies w s x t ho base e i z 1 bytes ht hi hz hsize hby hzs (by decide) v n vs hs hown ad m c news hx (by omega) hn h1 (by omega) h63 hbytes hbase w.heap.size rfl ?_
    intro g cap w' o1 o2 o3 o4
    refine h (some ⟨g, 0, none⟩) cap w' o1 ?_ ?_ ?_ ?_ o2.size
    · obtain ⟨_, h | ⟨g', cap', cur, e', _, hh, hle, _⟩⟩ := o1
      · simp at h
      · simp only [Value.slice.injEq] at e'
        omega
    · exact (Below.refl _ _).grown o2 hbase (fun k hk => (hown.lt k hk).1)
    · intro k hk
      simp only [Value.ownBlock, Option.some.injEq] at hk
      subst hk
      exact ⟨o3, o4⟩
    · intro k hk hne
      exact o2.block k hk (fun q => hne q.symm)

/-- An append to a row of the call's own, out of whatever source (nothing among them). -/
theorem wpList_append_u {ops : Array Oper} {rest : List Oper} {o : Oper} {a : Act} {w : World} {Q : Exit → Act → World → Prop} (hgd : o.guard = none) (s x : Operand) (t : TypeId)
    (ho : o.op = .call { callee := .builtin .append, args := #[s, x], argTypes := #[t, t] })
    (base : Nat) (e : TypeId) (i : TypeInfo) (z : Value) (bytes : Nat) (ht : Tryz.prog.underlying t = some (.slice e)) (hi : Tryz.prog.info? e = some i) (hz : i.zero = some z)
    (hsize : i.size = 1) (hby : i.bytes = bytes) (hzs : z.cells.size = 1)
    (v : Value) (n : Nat) (vs : List Value) (hs : a.eval s = v) (hown : w.ownsRow base e 1 v n vs)
    (xa : Option Addr) (m c : Nat) (news : List Value) (hx : a.eval x = .slice xa m c) (hl : news.length = m) (hsrc : 0 < m → ∃ ad, xa = some ad ∧ ∀ j u, news[j]? = some u → w.cell? (ad.add j) = some u) (h1 : ∀ u ∈ news, u.oneCell' = true)
    (h63 : n + m ≤ maxLen) (hbytes : (n + m) * bytes ≤ 140737488355328) (hbase : base ≤ w.heap.size)
    (h : ∀ ao cap w', w'.ownsRow base e 1 (.slice ao (n + m) cap) (n + m) (vs ++ news) → n + m ≤ cap → Below base w w' → wpList Tryz.prog ops Q rest (a.put o.dst (.slice ao (n + m) cap)) w') : wpList Tryz.prog ops Q (o :: rest) a w :=
  wpList_plain hgd fun K hK => by
    have hw : Region.wanted o (yielded ops a.tmps) = true := by simp [Region.wanted, hgd]
    have := step_append_u (ops := ops) (o := o) (a := a) (w := w) (K := K) (Q := Q) (E := True) hgd s x t ho base e i z bytes ht hi hz hsize hby hzs v n vs hs hown xa m c news hx hl hsrc h1 h63 hbytes hbase (fun ao cap w' h1 h2 h3 _ _ _ => hK _ _ (h ao cap w' h1 h2 h3))
    rw [if_pos hw] at this
    exact this

theorem owns_alloc {w : World} {base e n : Nat} {v : Value} {vs : List Value} (h : w.ownsRow base e 1 v n vs) (o : Obj) : (w.alloc o).ownsRow base e 1 v n vs := h.alloc o
/-- Two rows that lie in blocks of their own. -/
def Apart (u v : Value) : Prop := ∀ k, u.ownBlock = some k → v.ownBlock ≠ some k
theorem Apart.symm {u v : Value} (h : Apart u v) : Apart v u := fun k hk hu => h k hu hk
theorem apart_nil (v : Value) : Apart v (.slice none 0 0) := fun k _ h => by cases h
/-- A row stays where another one grows. -/
theorem owns_other {w w' : World} {base e n : Nat} {v u : Value} {vs : List Value} (h : w.ownsRow base e 1 v n vs) (hkeep : ∀ k, k < w.heap.size → u.ownBlock ≠ some k → w'.heap[k]? = w.heap[k]?) (ha : Apart v u) : w'.ownsRow base e 1 v n vs := by
  have hl := h.lt
  obtain ⟨h1, h2 | ⟨g, cap, cur, e1, e2, hh, r⟩⟩ := h
  · exact ⟨h1, .inl h2⟩
  · subst e1
    exact ⟨h1, .inr ⟨g, cap, cur, rfl, e2, (hkeep g (hl g rfl).2 (ha g rfl)).trans hh, r⟩⟩
theorem apart_new {w w' : World} {base e n : Nat} {v u u' : Value} {vs : List Value} (h : w.ownsRow base e 1 v n vs) (hn : ∀ k, u'.ownBlock = some k → (u.ownBlock = some k ∨ k = w.heap.size) ∧ k < w'.heap.size) (ha : Apart v u) : Apart v u' := by
  intro k hk hu
  rcases (hn k hu).1 with c | c
  · exact ha k hk c
  · have := (h.lt k hk).2
    omega
/-- As wpList_append_u, and it tells what stays. -/
theorem wpList_append_x {ops : Array Oper} {rest : List Oper} {o : Oper} {a : Act} {w : World} {Q : Exit → Act → World → Prop} (hgd : o.guard = none) (s x : Operand) (t : TypeId)
    (ho : o.op = .call { callee := .builtin .append, args := #[s, x], argTypes := #[t, t] })
    (base : Nat) (e : TypeId) (i : TypeInfo) (z : Value) (bytes : Nat) (ht : Tryz.prog.underlying t = some (.slice e)) (hi : Tryz.prog.info? e = some i) (hz : i.zero = some z)
    (hsize : i.size = 1) (hby : i.bytes = bytes) (hzs : z.cells.size = 1)
    (v : Value) (n : Nat) (vs : List Value) (hs : a.eval s = v) (hown : w.ownsRow base e 1 v n vs)
    (xa : Option Addr) (m c : Nat) (news : List Value) (hx : a.eval x = .slice xa m c) (hl : news.length = m) (hsrc : 0 < m → ∃ ad, xa = some ad ∧ ∀ j u, news[j]? = some u → w.cell? (ad.add j) = some u) (h1 : ∀ u ∈ news, u.oneCell' = true)
    (h63 : n + m ≤ maxLen) (hbytes : (n + m) * bytes ≤ 140737488355328) (hbase : base ≤ w.heap.size)
    (h : ∀ ao cap w', w'.ownsRow base e 1 (.slice ao (n + m) cap) (n + m) (vs ++ news) → n + m ≤ cap → Below base w w' → (∀ k, (Value.slice ao (n + m) cap).ownBlock = some k → (v.ownBlock = some k ∨ k = w.heap.size) ∧ k < w'.heap.size) → (∀ k, k < w.heap.size → v.ownBlock ≠ some k → w'.heap[k]? = w.heap[k]?) → w.heap.size ≤ w'.heap.size → wpList Tryz.prog ops Q rest (a.put o.dst (.slice ao (n + m) cap)) w') : wpList Tryz.prog ops Q (o :: rest) a w :=
  wpList_plain hgd fun K hK => by
    have hw : Region.wanted o (yielded ops a.tmps) = true := by simp [Region.wanted, hgd]
    have := step_append_u (ops := ops) (o := o) (a := a) (w := w) (K := K) (Q := Q) (E := True) hgd s x t ho base e i z bytes ht hi hz hsize hby hzs v n vs hs hown xa m c news hx hl hsrc h1 h63 hbytes hbase (fun ao cap w' h1 h2 h3 h4 h5 h6 => hK _ _ (h ao cap w' h1 h2 h3 h4 h5 h6))
    rw [if_pos hw] at this
    exact this
end Ap
end Go.Proofs.YtmphbnmcbonmmaaGreatDoor

namespace Go.Proofs.YtmphbnmcbonmmaaGreatDoor
open Go.RowKit
set_option linter.unusedVariables false

/-- Block b holds just these cells, and may be written. -/
def Cel (w : World) (b : Nat) (cs : List Value) (T : TypeId) : Prop := w.heap[b]? = some (.cells cs.toArray T (0, 0))
theorem Cel.lt {w : World} {b : Nat} {cs : List Value} {T : TypeId} (h : Cel w b cs T) : b < w.heap.size := (Array.getElem?_eq_some_iff.1 h).1
theorem Cel.cell {w : World} {b : Nat} {cs : List Value} {T : TypeId} (h : Cel w b cs T) (i : Nat) {v : Value} (hv : cs[i]? = some v) : w.cell? ⟨b, i, none⟩ = some v := by
  unfold World.cell?
  rw [show w.heap[({ block := b, off := i, spot := none } : Addr).block]? = _ from h]
  simpa using hv
theorem Cel.frozen {w : World} {b : Nat} {cs : List Value} {T : TypeId} (h : Cel w b cs T) (i : Nat) : w.frozen? ⟨b, i, none⟩ = false := by
  unfold World.frozen?
  rw [show w.heap[({ block := b, off := i, spot := none } : Addr).block]? = _ from h]
  simp
theorem Cel.set {w : World} {b : Nat} {cs : List Value} {T : TypeId} (h : Cel w b cs T) (i : Nat) (v : Value) : Cel (w.setCell ⟨b, i, none⟩ v) b (cs.set i v) T := by
  unfold Cel at h ⊢
  simp only [World.setCell, Array.getElem?_modify]
  rw [if_pos trivial, h]
  simp
theorem Cel.other {w : World} {b : Nat} {cs : List Value} {T : TypeId} (h : Cel w b cs T) {a : Addr} (ha : b ≠ a.block) (v : Value) : Cel (w.setCell a v) b cs T := (Below.heap_setCell w a v b ha).trans h
theorem Cel.keep {w w' : World} {b base : Nat} {cs : List Value} {T : TypeId} (h : Cel w b cs T) (hb : Below base w w') (hlt : b < base) : Cel w' b cs T := (hb.block b hlt).trans h
theorem Cel.kept {w w' : World} {b : Nat} {cs : List Value} {T : TypeId} (h : Cel w b cs T) (hb : Below w.heap.size w w') : Cel w' b cs T := h.keep hb h.lt
theorem Cel.drew {w : World} {b : Nat} {cs : List Value} {T : TypeId} (h : Cel w b cs T) : Cel w.drew b cs T := h
theorem Cel.new (w : World) (cs : List Value) (T : TypeId) : Cel (w.alloc (.cells cs.toArray T)) w.heap.size cs T := by
  show (w.heap.push (.cells cs.toArray T))[w.heap.size]? = _
  simp
theorem Cel.new2 (w : World) (o : Obj) (cs : List Value) (T : TypeId) : Cel ((w.alloc o).alloc (.cells cs.toArray T)) (w.heap.size + 1) cs T := by
  have := Cel.new (w.alloc o) cs T
  simpa using this
theorem Cel.alloc {w : World} {b : Nat} {cs : List Value} {T : TypeId} (h : Cel w b cs T) (o : Obj) : Cel (w.alloc o) b cs T := h.kept ((Below.refl _ _).alloc (Nat.le_refl _) _)
end Go.Proofs.YtmphbnmcbonmmaaGreatDoor

namespace Go.Proofs.YtmphbnmcbonmmaaGreatDoor
open Num
namespace Bn

def ch : Nat → Nat → Nat
  | _, 0 => 1
  | 0, _ + 1 => 0
  | n + 1, k + 1 => ch n k + ch n (k + 1)
theorem ch_zero (n : Nat) : ch n 0 = 1 := by cases n <;> rfl
theorem ch_succ (n k : Nat) : ch (n + 1) (k + 1) = ch n k + ch n (k + 1) := rfl
theorem ch_out : ∀ n k, n < k → ch n k = 0 := by
  intro n
  induction n with
  | zero => intro k h; match k, h with | k + 1, _ => rfl
  | succ n ih => intro k h; match k, h with | k + 1, h => rw [ch_succ, ih k (by omega), ih (k + 1) (by omega)]
theorem ch_self : ∀ n, ch n n = 1 := by
  intro n
  induction n with
  | zero => rfl
  | succ n ih => rw [ch_succ, ih, ch_out n (n + 1) (by omega)]
theorem ch_pos : ∀ n k, k ≤ n → 0 < ch n k := by
  intro n
  induction n with
  | zero => intro k h; obtain rfl : k = 0 := by omega
            exact Nat.one_pos
  | succ n ih =>
    intro k h
    match k, h with
    | 0, _ => rw [ch_zero]; exact Nat.one_pos
    | k + 1, h => rw [ch_succ]; have := ih k (by omega); omega
theorem ch_le : ∀ n k, ch n k ≤ 2 ^ n := by
  intro n
  induction n with
  | zero => intro k; match k with | 0 => exact Nat.le_refl _ | k + 1 => exact Nat.zero_le _
  | succ n ih =>
    intro k
    match k with
    | 0 => rw [ch_zero]; exact Nat.one_le_two_pow
    | k + 1 => rw [ch_succ, Nat.pow_succ]; have := ih k; have := ih (k + 1); omega
theorem ch_mono (n k : Nat) : ch n k ≤ ch (n + 1) k := by
  match k with
  | 0 => rw [ch_zero, ch_zero]; exact Nat.le_refl _
  | k + 1 => rw [ch_succ]; omega
theorem ch_symm : ∀ n k, k ≤ n → ch n k = ch n (n - k) := by
  intro n
  induction n with
  | zero => intro k h; obtain rfl : k = 0 := by omega
            rfl
  | succ n ih =>
    intro k h
    match k, h with
    | 0, _ => rw [ch_zero, Nat.sub_zero, ch_self]
    | k + 1, h =>
      by_cases c : k = n
      · subst c; rw [ch_self, Nat.sub_self, ch_zero]
      · have e : n + 1 - (k + 1) = (n - (k + 1)) + 1 := by omega
        rw [ch_succ, e, ch_succ, ← ih (k + 1) (by omega), show n - (k + 1) + 1 = n - k by omega, ← ih k (by omega)]
        omega
/-- The ways of fewer than k things together. -/
def sumTo (n : Nat) : Nat → Nat
  | 0 => 0
  | k + 1 => sumTo n k + ch n k
theorem sum_step (n : Nat) : ∀ k, sumTo (n + 1) (k + 1) = sumTo n k + sumTo n (k + 1) := by
  intro k
  induction k with
  | zero => simp [sumTo, ch_zero]
  | succ k ih =>
    rw [sumTo, ih, ch_succ]
    simp only [sumTo]
    omega
theorem sum_all : ∀ n, sumTo n (n + 1) = 2 ^ n := by
  intro n
  induction n with
  | zero => rfl
  | succ n ih =>
    have e : sumTo n (n + 2) = sumTo n (n + 1) + ch n (n + 1) := rfl
    rw [sum_step, e, ch_out n (n + 1) (by omega), ih, Nat.pow_succ]
    omega
theorem sum_mono (n : Nat) : ∀ d k, sumTo n k ≤ sumTo n (k + d) := by
  intro d
  induction d with
  | zero => intro k; exact Nat.le_refl _
  | succ d ih => intro k; have := ih k; rw [show k + (d + 1) = k + d + 1 by omega, sumTo]; omega
theorem sum_le (n k : Nat) (h : k ≤ n + 1) : sumTo n k ≤ 2 ^ n := by
  rw [← sum_all n]
  have := sum_mono n (n + 1 - k) k
  rw [show k + (n + 1 - k) = n + 1 by omega] at this
  exact this

/-- How many words of n bits and of the class of x are less than the lowest n bits of x. -/
def off (x : Nat) : Nat → Nat
  | 0 => 0
  | n + 1 => off x n + if x / 2 ^ n % 2 = 1 then ch n (cnt x (n + 1)) else 0
theorem off_lt (x : Nat) : ∀ n, off x n < ch n (cnt x n) := by
  intro n
  induction n with
  | zero => exact Nat.one_pos
  | succ n ih =>
    rw [off]
    by_cases hb : x / 2 ^ n % 2 = 1
    · rw [if_pos hb]
      have e : cnt x (n + 1) = cnt x n + 1 := by rw [cnt, hb]
      rw [e, ch_succ]
      omega
    · rw [if_neg hb]
      have e : cnt x (n + 1) = cnt x n := by rw [cnt]; omega
      rw [e]
      have := ch_mono n (cnt x n)
      omega
theorem off_mod (x m : Nat) : ∀ n, n ≤ m → off (x % 2 ^ m) n = off x n := by
  intro n
  induction n with
  | zero => intro _; rfl
  | succ n ih =>
    intro h
    rw [off, off, ih (by omega), bit_mod x m n (by omega), cnt_mod x m (n + 1) h]
def blk : Nat → Nat → Nat → Nat
  | 0, _, _ => 0
  | i + 1, k, o => if k = 0 then 0 else if ch i k ≤ o then 2 ^ i + blk i (k - 1) (o - ch i k) else blk i k o
theorem blk_zero (n o : Nat) : blk n 0 o = 0 := by
  cases n with
  | zero => rfl
  | succ n => rw [blk, if_pos rfl]
theorem blk_hi (i k o : Nat) (hk : k ≠ 0) (h : ch i k ≤ o) : blk (i + 1) k o = 2 ^ i + blk i (k - 1) (o - ch i k) := by rw [blk, if_neg hk, if_pos h]
theorem blk_lo (i k o : Nat) (hk : k ≠ 0) (h : ¬ ch i k ≤ o) : blk (i + 1) k o = blk i k o := by rw [blk, if_neg hk, if_neg h]
theorem blk_lt : ∀ n k o, blk n k o < 2 ^ n := by
  intro n
  induction n with
  | zero => intro k o; exact Nat.one_pos
  | succ n ih =>
    intro k o
    have p : 2 ^ (n + 1) = 2 ^ n + 2 ^ n := by rw [Nat.pow_succ]; omega
    by_cases hk : k = 0
    · subst hk; rw [blk_zero]; exact Nat.two_pow_pos _
    · by_cases h : ch n k ≤ o
      · rw [blk_hi n k o hk h]; have := ih (k - 1) (o - ch n k); omega
      · rw [blk_lo n k o hk h]; have := ih k o; omega
theorem mod_bit (x n : Nat) : x % 2 ^ (n + 1) = x % 2 ^ n + 2 ^ n * (x / 2 ^ n % 2) := by rw [Nat.mod_pow_succ]
theorem blk_off (x : Nat) : ∀ n, blk n (cnt x n) (off x n) = x % 2 ^ n := by
  intro n
  induction n with
  | zero => simp [blk, Nat.mod_one]
  | succ n ih =>
    rw [mod_bit]
    by_cases hb : x / 2 ^ n % 2 = 1
    · have e : cnt x (n + 1) = cnt x n + 1 := by rw [cnt, hb]
      have eo : off x (n + 1) = off x n + ch n (cnt x n + 1) := by rw [off, if_pos hb, e]
      rw [e, eo, blk_hi _ _ _ (by omega) (by omega), hb, Nat.add_sub_cancel, Nat.add_sub_cancel, ih]
      omega
    · have e : cnt x (n + 1) = cnt x n := by rw [cnt]; omega
      have eo : off x (n + 1) = off x n := by rw [off, if_neg hb, Nat.add_zero]
      have h0 : x / 2 ^ n % 2 = 0 := by omega
      rw [e, eo, h0, Nat.mul_zero]
      show _ = x % 2 ^ n
      by_cases hk : cnt x n = 0
      · rw [← ih, hk, blk_zero, blk_zero]
      · have := off_lt x n
        rw [blk_lo _ _ _ hk (by omega), ih]
theorem off_order : ∀ n a b, cnt a n = cnt b n → a % 2 ^ n < b % 2 ^ n → off a n < off b n := by
  intro n
  induction n with
  | zero => intro a b _ h; simp [Nat.mod_one] at h
  | succ n ih =>
    intro a b hc h
    rw [mod_bit, mod_bit b] at h
    have la := Nat.mod_lt a (Nat.two_pow_pos n)
    have lb := Nat.mod_lt b (Nat.two_pow_pos n)
    have oa := off_lt a n
    by_cases ha : a / 2 ^ n % 2 = 1
    · by_cases hb : b / 2 ^ n % 2 = 1
      · have ea : cnt a (n + 1) = cnt a n + 1 := by rw [cnt, ha]
        have eb : cnt b (n + 1) = cnt b n + 1 := by rw [cnt, hb]
        rw [off, off, if_pos ha, if_pos hb, hc]
        rw [ha, hb] at h
        have := ih a b (by omega) (by omega)
        omega
      · have hb0 : b / 2 ^ n % 2 = 0 := by omega
        rw [ha, hb0] at h
        omega
    · have ha0 : a / 2 ^ n % 2 = 0 := by omega
      have ea : cnt a (n + 1) = cnt a n := by rw [cnt]; omega
      by_cases hb : b / 2 ^ n % 2 = 1
      · rw [off, off, if_neg ha, if_pos hb, ← hc, ea]
        omega
      · have hb0 : b / 2 ^ n % 2 = 0 := by omega
        have eb : cnt b (n + 1) = cnt b n := by rw [cnt]; omega
        rw [off, off, if_neg ha, if_neg hb]
        rw [ha0, hb0] at h
        have := ih a b (by omega) (by omega)
        omega
theorem off_same (n a b : Nat) (hc : cnt a n = cnt b n) (h : off a n = off b n) : a % 2 ^ n = b % 2 ^ n := by
  rw [← blk_off a n, ← blk_off b n, hc, h]
theorem off_of (n a b : Nat) (h : a % 2 ^ n = b % 2 ^ n) : off a n = off b n := by
  rw [← off_mod a n n (Nat.le_refl _), ← off_mod b n n (Nat.le_refl _), h]
theorem off_lt_iff (n a b : Nat) (hc : cnt a n = cnt b n) : (a % 2 ^ n < b % 2 ^ n) ↔ off a n < off b n := by
  constructor
  · exact off_order n a b hc
  · intro h
    rcases Nat.lt_trichotomy (a % 2 ^ n) (b % 2 ^ n) with c | c | c
    · exact c
    · have := off_of n a b c; omega
    · have := off_order n b a hc.symm c; omega
theorem blk_first : ∀ n k, k ≤ n → blk n k 0 = 2 ^ k - 1 := by
  intro n
  induction n with
  | zero => intro k h; obtain rfl : k = 0 := by omega
            rfl
  | succ n ih =>
    intro k h
    by_cases hk : k = 0
    · subst hk; rw [blk_zero]
    · by_cases c : k = n + 1
      · subst c
        have z := ch_out n (n + 1) (by omega)
        have p := Nat.two_pow_pos n
        rw [blk_hi _ _ _ hk (by omega), Nat.add_sub_cancel, Nat.zero_sub, ih n (Nat.le_refl _), Nat.pow_succ]
        omega
      · have := ch_pos n k (by omega)
        rw [blk_lo _ _ _ hk (by omega), ih k (by omega)]
theorem blk_last : ∀ n k, k ≤ n → blk n k (ch n k - 1) = (2 ^ k - 1) * 2 ^ (n - k) := by
  intro n
  induction n with
  | zero => intro k h; obtain rfl : k = 0 := by omega
            rfl
  | succ n ih =>
    intro k h
    match k, h with
    | 0, _ => rw [blk_zero]; simp
    | k + 1, h =>
      have p := ch_pos n k (by omega)
      rw [blk_hi _ _ _ (by omega) (by rw [ch_succ]; omega), ch_succ, Nat.add_sub_cancel, show ch n k + ch n (k + 1) - 1 - ch n (k + 1) = ch n k - 1 by omega, ih k (by omega), show n + 1 - (k + 1) = n - k by omega]
      have e : 2 ^ n = 2 ^ k * 2 ^ (n - k) := by rw [← Nat.pow_add, show k + (n - k) = n by omega]
      have q := Nat.two_pow_pos k
      rw [e, Nat.pow_succ, show 2 ^ k * 2 - 1 = 2 ^ k + (2 ^ k - 1) by omega, Nat.add_mul]
theorem ch62 (n k : Nat) (h : n ≤ 62) : ch n k ≤ 4611686018427387904 := by
  have := ch_le n k
  have : 2 ^ n ≤ 2 ^ 62 := Nat.pow_le_pow_right (by decide) h
  omega

/-- What Choose answers. -/
def chN (n k : Int) : Nat := if n < 0 ∨ 62 < n ∨ k < 0 ∨ n < k then 0 else ch n.toNat k.toNat
def wdN (n k : Int) : Nat := if chN n k = 0 then 0 else Go.bitLen (chN n k - 1)
def ofK (x : Nat) (n : Int) : Nat := if n < 0 ∨ 62 < n then 0 else cnt x n.toNat
def ofO (x : Nat) (n : Int) : Nat := if n < 0 ∨ 62 < n then 0 else off x n.toNat
def bkX (n k : Int) (o : Nat) : Nat := if chN n k ≤ o then 0 else blk n.toNat k.toNat o
def bkB (n k : Int) (o : Nat) : Bool := decide (o < chN n k)
theorem chN_in (n k : Nat) (h : n ≤ 62) : chN n k = ch n k := by
  unfold chN
  by_cases c : n < k
  · rw [if_pos (by omega), ch_out n k c]
  · rw [if_neg (by omega), Int.toNat_natCast, Int.toNat_natCast]
theorem chN_le (n k : Int) : chN n k ≤ 4611686018427387904 := by
  unfold chN
  split
  · omega
  · exact ch62 _ _ (by omega)
theorem wd_le (n k : Int) : wdN n k ≤ 62 := by
  unfold wdN
  split
  · omega
  · have := chN_le n k
    exact len_le _ 62 (by omega)
theorem lt_len (x : Nat) (h : x < 18446744073709551616) : x < 2 ^ Go.bitLen x := by
  by_cases h0 : x = 0
  · subst h0; exact Nat.two_pow_pos _
  · obtain ⟨p, hp, h1, _, hd, _⟩ := long (x : Int) (by omega) (by omega) (by omega)
    unfold lenI at hp
    rw [Int.toNat_natCast] at hp
    have hp2 : Go.bitLen x = p := by omega
    rw [hp2]
    have e : x / 2 ^ (p - 1) = 1 := by
      rw [shr_nat _ _ (by omega), Int.toNat_natCast] at hd
      omega
    have e2 : 2 ^ p = 2 ^ (p - 1) * 2 := by
      obtain ⟨m, rfl⟩ : ∃ m, p = m + 1 := ⟨p - 1, by omega⟩
      rw [Nat.add_sub_cancel, Nat.pow_succ]
    have q := Nat.two_pow_pos (p - 1)
    have := Nat.lt_mul_div_succ x q
    rw [e] at this
    omega
theorem len_top (x : Nat) (h : x < 18446744073709551616) (h0 : 0 < Go.bitLen x) : x / 2 ^ (Go.bitLen x - 1) = 1 := by
  have hx : x ≠ 0 := by
    intro e; subst e
    have := len_le 0 0 (by decide)
    omega
  obtain ⟨p, hp, h1, _, hd, _⟩ := long (x : Int) (by omega) (by omega) (by omega)
  unfold lenI at hp
  rw [Int.toNat_natCast] at hp
  have hp2 : Go.bitLen x = p := by omega
  rw [hp2]
  rw [shr_nat _ _ (by omega), Int.toNat_natCast] at hd
  omega
theorem len_mono (x y : Nat) (h : x ≤ y) (hy : y < 18446744073709551616) : Go.bitLen x ≤ Go.bitLen y := len_le _ _ (Nat.lt_of_le_of_lt h (lt_len y hy))
end Bn
end Go.Proofs.YtmphbnmcbonmmaaGreatDoor

namespace Go.Proofs.YtmphbnmcbonmmaaGreatDoor
open Num Bn
namespace Bit
set_option linter.unusedVariables false

/-- How many blocks N bits have. -/
def nb (N : Nat) : Nat := (N + 14) / 15
/-- Block i of the bits f. -/
def blv (N : Nat) (f : Nat → Bool) (i : Nat) : Nat := numOf 15 fun k => decide (15 * i + k < N) && f (15 * i + k)
def bcl (N : Nat) (f : Nat → Bool) (i : Nat) : Nat := cnt (blv N f i) 15
def bof (N : Nat) (f : Nat → Bool) (i : Nat) : Nat := off (blv N f i) 15
/-- How many bits an offset of class k has. -/
def kwd (k : Nat) : Nat := Go.bitLen (ch 15 k - 1)
def bwd (N : Nat) (f : Nat → Bool) (i : Nat) : Nat := kwd (bcl N f i)
/-- Where the offset of block i begins. -/
def bat (N : Nat) (f : Nat → Bool) : Nat → Nat
  | 0 => 0
  | i + 1 => bat N f i + bwd N f i
/-- How many bits are 1 ahead of block i. -/
def bon (N : Nat) (f : Nat → Bool) : Nat → Nat
  | 0 => 0
  | i + 1 => bon N f i + bcl N f i
def bits (x n : Nat) : List Bool := (List.range n).map x.testBit
/-- The offsets of the first i blocks. -/
def bofP (N : Nat) (f : Nat → Bool) : Nat → List Bool
  | 0 => []
  | i + 1 => bofP N f i ++ bits (bof N f i) (bwd N f i)
def bclP (N : Nat) (f : Nat → Bool) (i : Nat) : List Nat := (List.range i).map (bcl N f)

theorem length_bits (x n : Nat) : (bits x n).length = n := by simp [bits]
theorem length_bofP (N : Nat) (f : Nat → Bool) (i : Nat) : (bofP N f i).length = bat N f i := by
  induction i with
  | zero => rfl
  | succ i ih => rw [bofP, List.length_append, ih, length_bits, bat]
theorem length_bclP (N : Nat) (f : Nat → Bool) (i : Nat) : (bclP N f i).length = i := by simp [bclP]
theorem bcl_le (N : Nat) (f : Nat → Bool) (i : Nat) : bcl N f i ≤ 15 := cnt_le _ _
theorem kwd_le (k : Nat) : kwd k ≤ 15 := len_le _ 15 (by
  have := ch_le 15 k
  have p : (2 : Nat) ^ 15 = 32768 := by decide
  omega)
theorem bwd_le (N : Nat) (f : Nat → Bool) (i : Nat) : bwd N f i ≤ 15 := kwd_le _
theorem kwd_le13 (k : Nat) (h : k ≤ 15) : kwd k ≤ 13 := by
  match k, h with
  | 0, _ | 1, _ | 2, _ | 3, _ | 4, _ | 5, _ | 6, _ | 7, _ | 8, _ | 9, _ | 10, _ | 11, _ | 12, _ | 13, _ | 14, _ | 15, _ => decide +kernel
theorem bat_le (N : Nat) (f : Nat → Bool) (i : Nat) : bat N f i ≤ 13 * i := by
  induction i with
  | zero => exact Nat.le_refl _
  | succ i ih => have := kwd_le13 (bcl N f i) (bcl_le N f i); rw [bat, bwd]; omega
theorem bon_le (N : Nat) (f : Nat → Bool) (i : Nat) : bon N f i ≤ 15 * i := by
  induction i with
  | zero => exact Nat.le_refl _
  | succ i ih => have := bcl_le N f i; rw [bon]; omega
theorem bof_lt (N : Nat) (f : Nat → Bool) (i : Nat) : bof N f i < ch 15 (bcl N f i) := off_lt _ _
theorem bof_fit (N : Nat) (f : Nat → Bool) (i : Nat) : bof N f i < 2 ^ bwd N f i := by
  have h := bof_lt N f i
  have c := ch62 15 (bcl N f i) (by decide)
  have := lt_len (ch 15 (bcl N f i) - 1) (by omega)
  unfold bwd kwd
  omega
theorem num_bits (x n : Nat) (h : x < 2 ^ n) : numOf n x.testBit = x := by
  refine (eq_numOf n x _ fun k => ?_).symm
  by_cases c : k < n
  · simp [c]
  · have : x < 2 ^ k := Nat.lt_of_lt_of_le h (Nat.pow_le_pow_right (by decide) (by omega))
    rw [Nat.testBit_lt_two_pow this]
    simp [c]

/-- What is read at the place of offset i. -/
theorem bofP_get (N : Nat) (f : Nat → Bool) : ∀ n i t, i < n → t < bwd N f i → (bofP N f n)[bat N f i + t]? = some ((bof N f i).testBit t) := by
  intro n
  induction n with
  | zero => intro i t h; omega
  | succ n ih =>
    intro i t hi ht
    rw [bofP]
    by_cases c : i < n
    · have := ih i t c ht
      have hl := (List.getElem?_eq_some_iff.1 this).1
      rw [List.getElem?_append_left hl, this]
    · obtain rfl : i = n := by omega
      rw [List.getElem?_append_right (by rw [length_bofP]; omega), length_bofP, Nat.add_sub_cancel_left]
      unfold bits
      rw [List.getElem?_map, List.getElem?_range ht]
      rfl

/-- One block more of bits that are read back. -/
def addB (N : Nat) (out : List Bool) (b : Nat) : List Bool := out ++ bits b (min 15 (N - out.length))
/-- The way back: from the classes, and the offsets that lie one behind the other in the row (M, ys). -/
def decG (N : Nat) (M : Int) (ys : List Nat) : List Nat → Nat → List Bool → Option (List Bool)
  | [], _, out => some out
  | k :: l, at_, out =>
    if slcE M ys at_ (wdN 15 k) = 0 ∧ bkB 15 k (slcX M ys at_ (wdN 15 k)) = true then decG N M ys l (at_ + wdN 15 k) (addB N out (bkX 15 k (slcX M ys at_ (wdN 15 k)))) else none

theorem wdN_k (k : Nat) (h : k ≤ 15) : wdN 15 k = kwd k := by
  unfold wdN kwd
  have e : chN (15 : Int) (k : Int) = ch 15 k := chN_in 15 k (by decide)
  have := ch_pos 15 k h
  rw [e, if_neg (by omega)]
theorem blv_lt (N : Nat) (f : Nat → Bool) (i : Nat) : blv N f i < 2 ^ 15 := numOf_lt _ _
theorem bk_back (N : Nat) (f : Nat → Bool) (i : Nat) : bkB 15 (bcl N f i) (bof N f i) = true ∧ bkX 15 (bcl N f i) (bof N f i) = blv N f i := by
  have e : chN (15 : Int) (bcl N f i : Int) = ch 15 (bcl N f i) := chN_in 15 _ (by decide)
  have h := bof_lt N f i
  unfold bkB bkX
  rw [e, if_neg (by omega)]
  refine ⟨by simpa using h, ?_⟩
  have := blk_off (blv N f i) 15
  rw [show ((15 : Int).toNat) = 15 from rfl, Int.toNat_natCast]
  unfold bcl bof
  rw [this, Nat.mod_eq_of_lt (blv_lt N f i)]
theorem addB_step (N : Nat) (f : Nat → Bool) (i : Nat) : addB N ((List.range (min (15 * i) N)).map f) (blv N f i) = (List.range (min (15 * (i + 1)) N)).map f := by
  unfold addB
  have e : min (15 * (i + 1)) N = min (15 * i) N + min 15 (N - min (15 * i) N) := by omega
  rw [e, List.range_add, List.map_append, List.length_map, List.length_range]
  congr 1
  unfold bits
  rw [List.map_map]
  refine List.map_congr_left fun t ht => ?_
  have ht := List.mem_range.1 ht
  simp only [Function.comp]
  unfold blv
  rw [testBit_numOf]
  have a1 : t < 15 := by omega
  have a2 : min (15 * i) N = 15 * i := by omega
  have a3 : 15 * i + t < N := by omega
  rw [a2]
  simp [a1, a3]

/-- What a row's offsets read as, each at its place. -/
def Reads (N : Nat) (f : Nat → Bool) (M : Int) (ys : List Nat) : Prop := ∀ i, i < nb N → slcE M ys (bat N f i) (wdN 15 (bcl N f i)) = 0 ∧ slcX M ys (bat N f i) (wdN 15 (bcl N f i)) = bof N f i
theorem dec_enc (N : Nat) (f : Nat → Bool) (M : Int) (ys : List Nat) (h : Reads N f M ys) : ∀ d i, i + d = nb N → decG N M ys ((List.range' i d).map (bcl N f)) (bat N f i) ((List.range (min (15 * i) N)).map f) = some ((List.range N).map f) := by
  intro d
  induction d with
  | zero =>
    intro i hi
    have : min (15 * i) N = N := by unfold nb at hi; omega
    rw [this]
    rfl
  | succ d ih =>
    intro i hi
    obtain ⟨h1, h2⟩ := h i (by omega)
    obtain ⟨b1, b2⟩ := bk_back N f i
    rw [List.range'_succ, List.map_cons, decG, h2, if_pos ⟨h1, b1⟩, b2, addB_step]
    have e : bat N f i + wdN 15 (bcl N f i) = bat N f (i + 1) := by rw [wdN_k _ (bcl_le N f i)]; rfl
    rw [e]
    exact ih (i + 1) (by omega)
/-- The offsets, laid by From, read as they must. -/
theorem reads_row (N : Nat) (f : Nat → Bool) (hN : N ≤ 1048576) : Reads N f (bat N f (nb N)) (rowOf (bat N f (nb N)) fun j => (bofP N f (nb N)).getD j false) := by
  intro i hi
  have hb := bat_le N f (nb N)
  have hb2 : bat N f (nb N) ≤ 1048576 := by unfold nb at hb ⊢; omega
  have hw := bwd_le N f i
  have mono : ∀ d j, bat N f j ≤ bat N f (j + d) := by
    intro d
    induction d with
    | zero => intro j; exact Nat.le_refl _
    | succ d ih => intro j; have := ih j; rw [show j + (d + 1) = j + d + 1 by omega, bat]; omega
  have hm : bat N f (i + 1) ≤ bat N f (nb N) := by
    have := mono (nb N - (i + 1)) (i + 1)
    rw [show i + 1 + (nb N - (i + 1)) = nb N by omega] at this
    exact this
  rw [bat] at hm
  have ck := chk_rowOf (bat N f (nb N)) (fun j => (bofP N f (nb N)).getD j false) hb2
  rw [wdN_k _ (bcl_le N f i), show kwd (bcl N f i) = bwd N f i from rfl]
  have e0 : slcE (bat N f (nb N)) (rowOf (bat N f (nb N)) fun j => (bofP N f (nb N)).getD j false) (bat N f i) (bwd N f i) = 0 := by
    unfold slcE
    rw [if_neg (by rw [ck]; simp; omega), if_neg (by omega)]
  refine ⟨e0, ?_⟩
  unfold slcX
  rw [if_pos e0, Int.toNat_natCast, Int.toNat_natCast, ← num_bits (bof N f i) (bwd N f i) (bof_fit N f i)]
  rw [num_bits (bof N f i) (bwd N f i) (bof_fit N f i)]
  refine (eq_numOf _ _ _ fun k => ?_).symm
  by_cases c : k < bwd N f i
  · rw [bitAt_rowOf, List.getD_eq_getElem?_getD, bofP_get N f (nb N) i k hi c]
    simp [c, show bat N f i + k < bat N f (nb N) by omega]
  · have : bof N f i < 2 ^ k := Nat.lt_of_lt_of_le (bof_fit N f i) (Nat.pow_le_pow_right (by decide) (by omega))
    rw [Nat.testBit_lt_two_pow this]
    simp [c]
end Bit
end Go.Proofs.YtmphbnmcbonmmaaGreatDoor

namespace Go.Proofs.YtmphbnmcbonmmaaGreatDoor
open Go.RowKit Num Bit
set_option linter.unusedVariables false
set_option linter.unusedSimpArgs false
set_option maxRecDepth 100000

theorem numOf_more (f : Nat → Bool) (q : Nat) : ∀ d, (∀ k, q ≤ k → f k = false) → numOf (q + d) f = numOf q f := by
  intro d
  induction d with
  | zero => intro _; rfl
  | succ d ih =>
    intro h
    rw [show q + (d + 1) = q + d + 1 by omega, numOf, ih h, h (q + d) (by omega)]
    simp
def bkf (N : Nat) (xs : List Nat) (at_ : Nat) (k : Nat) : Bool := decide (at_ + k < N) && bitAt xs (at_ + k)
theorem or_step (f : Nat → Bool) (q : Nat) : numOf q f ||| 2 ^ q = numOf q f + 2 ^ q := by
  have := Nat.two_pow_add_eq_or_of_lt (numOf_lt q f) 1
  rw [Nat.mul_one] at this
  rw [Nat.or_comm, ← this, Nat.add_comm]

set_option maxHeartbeats 2000000 in
theorem r8block_c (m : Nat) (ao : Option Addr) (xs : List Nat) (cap : Nat) (p : Nat) (w : World) (hx : Wd w ao xs) (hk : chk (m : Int) xs = true) (hp : p ≤ m) :
    Calls Tryz.prog 30 #[.agg #[.int .i64 m, .slice ao xs.length cap], .int .i64 p] w fun e w' => e = .returned (.int .u64 (numOf 15 (bkf m xs p))) ∧ Below w.heap.size w w' := by
  obtain ⟨h0, h1, h2, -⟩ := chk_out (m : Int) xs hk
  have HL : Hid (∀ j, j < m → j / 64 < xs.length) := fun j hj => by omega
  clear h2
  have m20 : m ≤ 1048576 := by omega
  go_enter Tryz.func30, Tryz.ntmps30
  go_wp2
  go_loopw [5, 6] (fun xv i wr => ∃ q X : Nat, q ≤ 15 ∧ i = .int .i64 q ∧ xv = .int .u64 X ∧ Hid (X = numOf q (bkf m xs p)) ∧ Cel wr w.heap.size [.int .i64 m, .slice ao xs.length cap] 24 ∧ Below w.heap.size w wr) (fun _ i _ => 15 - (intOf i).toNat)
  case atStart => exact ⟨0, 0, by omega, rfl, rfl, rfl, Cel.new w _ _, below_alloc w _⟩
  case round =>
    obtain ⟨q, X, hq, rfl, rfl, HX, hC, hwr⟩ := hrel
    have r0 := hC.cell 0 rfl
    have r1 := hC.cell 1 rfl
    have bX : X < 32768 := by
      rw [HX.out]
      have h := numOf_lt q (bkf m xs p)
      have : 2 ^ q ≤ 2 ^ 15 := Nat.pow_le_pow_right (by decide) hq
      omega
    by_cases hlt : q < 15
    · by_cases hin : p + q < m
      · have hin2 : (p : Int) + (q : Int) < (m : Int) := by omega
        have q64 : (q : Int) < 64 := by omega
        have C2 : Hid (∀ w0, Below w.heap.size w w0 → Calls Tryz.prog 44 #[.agg #[.int .i64 m, .slice ao xs.length cap], .int .i64 ((p : Int) + (q : Int))] w0 fun e w' => e = .returned (.bool (bitAt xs (p + q))) ∧ Below w0.heap.size w0 w') := fun w0 h => at_c m ao xs cap (p + q) w0 (hx.keep h) (HL.out _ hin) (by omega)
        go_wp2_with fail
        refine (C2.out _ hwr).mono ?_
        rintro e w2 ⟨rfl, hb2⟩
        have hw2 := hwr.trans (hb2.mono hwr.size)
        have hC2 := hC.kept hb2
        clear hb2 r0 r1 C2
        cases hbit : bitAt xs (p + q) with
        | true =>
          have HR : Hid (bits .or .u64 (X : Int) (IntKind.u64.wrap (2 ^ q)) = ((X + 2 ^ q : Nat) : Int) ∧ X + 2 ^ q = numOf (q + 1) (bkf m xs p)) := by
            show _ ∧ _
            refine ⟨?_, ?_⟩
            · rw [Bit.shl_one q (by omega), u64_or_nat _ _ (by omega) (two_pow_lt q (by omega)), HX.out, or_step]
            · rw [numOf, ← HX.out]
              unfold bkf
              simp [hin, hbit]
          go_wp2
          exact ⟨⟨q + 1, X + 2 ^ q, by omega, by go_num, congrArg (Value.int .u64) HR.out.1, HR.out.2, hC2, hw2⟩, by simp only [intOf]; omega⟩
        | false =>
          have HR : Hid (X = numOf (q + 1) (bkf m xs p)) := by
            show X = _
            rw [numOf, ← HX.out]
            unfold bkf
            simp [hbit]
          go_wp2
          exact ⟨⟨q + 1, X, by omega, by go_num, rfl, HR, hC2, hw2⟩, by simp only [intOf]; omega⟩
      · have hin2 : ¬ (p : Int) + (q : Int) < (m : Int) := by omega
        have HR : Hid (numOf 15 (bkf m xs p) = X) := by
          show numOf 15 (bkf m xs p) = X
          rw [HX.out, show (15 : Nat) = q + (15 - q) by omega, numOf_more _ q _ (fun k hk => by unfold bkf; rw [decide_eq_false (by omega)]; rfl)]
        go_wp2
        go_ret
        rw [HR.out]
        exact ⟨rfl, hwr⟩
    · obtain rfl : q = 15 := by omega
      go_wp2
      go_ret
      rw [← HX.out]
      exact ⟨rfl, hwr⟩

theorem Tryz.info4 : (Tryz.prog.info? 4).map (fun i => (i.zero, i.size, i.bytes)) = some (some (.bool false), 1, 1) := by kernel_rfl
def bvl (l : List Bool) : List Value := l.map fun b => Value.bool b
theorem bvl_snoc (x q : Nat) : bvl (Bit.bits x q) ++ [.bool (x.testBit q)] = bvl (Bit.bits x (q + 1)) := by
  unfold bvl Bit.bits
  rw [List.range_succ, List.map_append, List.map_append]
  rfl
theorem test_end (x q : Nat) : (((x : Int) / 2 ^ q).tmod 2 == 1) = x.testBit q := by
  rw [bit_test, shr_cast]
  have : ((x / 2 ^ q : Nat) : Int).tmod 2 = ((x / 2 ^ q % 2 : Nat) : Int) := by generalize x / 2 ^ q = z; rw [Int.tmod_eq_emod_of_nonneg (by omega)]; omega
  rw [this, Bool.eq_iff_iff, beq_iff_eq, decide_eq_true_eq]
  omega

set_option maxHeartbeats 2000000 in
theorem low8_c (x n : Nat) (hx64 : x < 18446744073709551616) (hn : n ≤ 64) (w : World) :
    Calls Tryz.prog 31 #[.int .u64 x, .int .i64 n] w fun e w' => ∃ v, e = .returned v ∧ w'.ownsRow w.heap.size 4 1 v n (bvl (Bit.bits x n)) ∧ Below w.heap.size w w' := by
  obtain ⟨i0, hi, hz0, hz1, hz2⟩ := info_parts Tryz.info4
  have x0 : (0 : Int) ≤ (x : Int) := by omega
  go_enter Tryz.func31, Tryz.ntmps31
  go_wp2
  go_loopw [5, 6] (fun v i wr => ∃ q : Nat, q ≤ n ∧ i = .int .i64 q ∧ wr.ownsRow w.heap.size 4 1 v q (bvl (Bit.bits x q)) ∧ Below w.heap.size w wr) (fun _ i _ => n - (intOf i).toNat)
  case atStart => exact ⟨0, Nat.zero_le _, rfl, World.ownsRow_nil _ _ _ _, Below.refl _ _⟩
  case round =>
    obtain ⟨q, hq, rfl, hown, hwr⟩ := hrel
    by_cases hlt : q < n
    · have hlt2 : (q : Int) < (n : Int) := by omega
      have q64 : (q : Int) < 64 := by omega
      have T : Hid ((((x : Int) / 2 ^ q).tmod 2 == 1) = x.testBit q) := test_end x q
      have hsz := hwr.size
      go_wp2_with (at_builtin; rw [T.out]; refine wpList_append_own _ rfl _ _ 61 rfl w.heap.size 4 i0 (.bool false) 1 1 Tryz.underlying61 hi hz0 hz1 hz2 rfl (by decide) _ _ _ rfl (hown.alloc _) ⟨wr.heap.size, 0, none⟩ 1 1 [.bool (x.testBit q)] rfl rfl ?c1 ?c2 ?c3 ?c4 ?c5 ?_)
      case c1 =>
        intro j u hj
        match j, hj with
        | 0, hj => simp at hj; subst hj; simp [Addr.add]
      case c2 => intro u hu; simp at hu; subst hu; rfl
      case c3 => unfold maxLen; omega
      case c4 => omega
      case c5 => simp; omega
      intro v' w3 hown3 hgrow _
      have hrow : ∀ k, u5.ownBlock = some k → w.heap.size ≤ k := fun k hk => (hown.lt k hk).1
      have hb3 : Below w.heap.size (wr.alloc (.cells #[.bool (x.testBit q)] 4)) w3 := (Below.refl _ _).grown hgrow (by simp; omega) hrow
      have hb4 : Below w.heap.size wr w3 := Below.trans ((Below.refl _ _).alloc (by omega) _) hb3
      have hw3 := hwr.trans hb4
      rw [bvl_snoc] at hown3
      have HO : Hid (w3.ownsRow w.heap.size 4 1 v' (q + 1) (bvl (Bit.bits x (q + 1)))) := hown3
      clear hgrow hown hb3 hb4 hown3 hrow hi hz0 hz1 hz2
      go_wp2
      first
        | exact ⟨⟨q + 1, by omega, by go_num, HO.out, hw3⟩, by simp only [intOf]; omega⟩
        | (go_roundw
           case rel => exact ⟨q + 1, by omega, by go_num, HO.out, hw3⟩
           case measure => simp only [intOf]; omega)
    · have hqm : q = n := by omega
      have HO : Hid (wr.ownsRow w.heap.size 4 1 u5 n (bvl (Bit.bits x n))) := by
        rw [hqm] at hown
        exact hown
      clear hqm hown
      go_wp2
      go_ret
      exact ⟨u5, rfl, HO.out, hwr⟩
end Go.Proofs.YtmphbnmcbonmmaaGreatDoor

namespace Go.Proofs.YtmphbnmcbonmmaaGreatDoor
open Go.ChangeShapes Go.WideShapes Go.ChangeAt Go.RowKit Go.Joins Num Bit
set_option maxRecDepth 100000

theorem own : ownKnob Tryz.prog.godebug = none := by kernel_rfl
theorem laidOut : laidOutB Tryz.prog = true := by kernel_rfl
theorem Tryz.cells24 : Tryz.prog.cellsOf 24 = 2 := by kernel_rfl
theorem Tryz.cells51 : Tryz.prog.cellsOf 51 = 1 := by kernel_rfl

theorem cell_lt {w : World} {b o : Nat} {s : Option Nat} {v : Value} (h : w.cell? ⟨b, o, s⟩ = some v) : b < w.heap.size ∧ s = none := by
  unfold World.cell? at h
  simp only at h
  split at h
  · rename_i hh
    refine ⟨(Array.getElem?_eq_some_iff.1 hh).1, ?_⟩
    cases s with
    | none => rfl
    | some x => simp at h
  · simp at h

theorem wd_of (w : World) (a : Addr) (len : Nat) (zs : List Int) (hl : len ≤ zs.length) (hc : ∀ i, i < zs.length → w.cell? (a.add i) = some (.int .u64 (zs.getD i 0))) (hw : ∀ n ∈ zs, (Lit.int .u64 n).wf = true) :
    ∃ xs : List Nat, xs.length = len ∧ Wd w (some a) xs ∧ Fit xs := by
  have hb : ∀ i, i < zs.length → 0 ≤ zs.getD i 0 ∧ zs.getD i 0 < 18446744073709551616 := by
    intro i hi
    have : zs.getD i 0 = zs[i] := by rw [List.getD_eq_getElem?_getD, List.getElem?_eq_getElem hi]; rfl
    rw [this]
    exact u64_wf _ (hw _ (List.getElem_mem hi))
  have hg : ∀ i, i < len → (gt ((zs.take len).map Int.toNat) i : Int) = zs.getD i 0 := by
    intro i hi
    have h := hb i (by omega)
    unfold gt
    rw [List.getD_eq_getElem?_getD, List.getElem?_map, List.getElem?_take_of_lt hi, List.getElem?_eq_getElem (by omega : i < zs.length)]
    rw [List.getD_eq_getElem?_getD, List.getElem?_eq_getElem (by omega : i < zs.length)] at h ⊢
    simp only [Option.map_some, Option.getD_some] at h ⊢
    omega
  refine ⟨(zs.take len).map Int.toNat, by simp; omega, ?_, ?_⟩
  · intro h0
    obtain ⟨b, off, s⟩ := a
    have h00 : 0 < zs.length := by simp at h0; omega
    have c0 := hc 0 h00
    have k := cell_lt (show w.cell? ⟨b, off, s⟩ = _ from c0)
    obtain ⟨k1, rfl⟩ := k
    refine ⟨b, off, rfl, k1, fun i hi => ?_⟩
    have hi2 : i < len := by simp at hi; omega
    have ci := hc i (by omega)
    rw [hg i hi2, ← ci]
    unfold Addr.add
    split
    · subst_vars; rfl
    · rfl
  · intro i
    by_cases hi : i < len
    · have h := hb i (by omega)
      have e := hg i hi
      omega
    · rw [gt_out _ _ (by simp; omega)]; decide

/-- WHAT A WALK IS TOLD OF AN ARGUMENT OF THE TYPE api.Bits. -/
def IsBits (w : World) (v : Value) (N : Int) (ao : Option Addr) (xs : List Nat) (cap : Nat) : Prop :=
  v = .agg #[.int .i64 N, .slice ao xs.length cap] ∧ (-9223372036854775808 ≤ N ∧ N ≤ 9223372036854775807) ∧ Wd w ao xs ∧ Fit xs ∧ xs.length ≤ cap

theorem open_bits {H : Type} {enc : TypeId × Value → H} {W : World} {base : Nat} {v : Value} {d : DataW H} {p : List MemPlace} (hv : Value.okWide Tryz.prog W .any base 24 v) (h : DataW.Trod enc Tryz.prog W 0 (fun _ => true) true 24 v d p) :
    ∃ N ao xs cap, IsBits W v N ao xs cap := by
  obtain ⟨c0, c1, y0, y1, m, rfl, rfl, rfl, hy0, hy1⟩ := open_agg2 Tryz.underlying24 (by kernel_rfl) Tryz.cells24 hv h
  obtain ⟨a, e0, _, wa⟩ := DataW.trod_int Tryz.underlying3 hy0
  simp at e0
  subst e0
  rcases open_ints Tryz.underlying22 Tryz.underlying51 Tryz.cells51 hy1 with ⟨hcs, _⟩ | ⟨x, l, c, zs, hcs, _, hl, hm, hz, _, hcell, hwz⟩
  · simp at hcs
    subst hcs
    exact ⟨a, none, [], 0, rfl, i64_wf a wa, fun h => absurd h (by simp), fun i => by unfold gt; simp, by simp⟩
  · simp at hcs
    subst hcs
    have hz2 : zs.length = c := by simpa using hz
    obtain ⟨xs, hx1, hx2, hx3⟩ := wd_of W x l zs (by omega) hcell hwz
    subst hx1
    exact ⟨a, some x, xs, c, rfl, i64_wf a wa, hx2, hx3, hl⟩
end Go.Proofs.YtmphbnmcbonmmaaGreatDoor

namespace Go.Proofs.YtmphbnmcbonmmaaGreatDoor
open Num
namespace Bit
set_option linter.unusedVariables false

def gi (l : List Int) (i : Nat) : Int := l.getD i 0
theorem gi_get (l : List Int) (i : Nat) (h : i < l.length) : l[i]? = some (gi l i) := by
  unfold gi
  rw [List.getD_eq_getElem?_getD, List.getElem?_eq_getElem h]; rfl
theorem gi_map (f : Nat → Int) (n i : Nat) (h : i < n) : gi ((List.range n).map f) i = f i := by
  unfold gi
  rw [List.getD_eq_getElem?_getD, List.getElem?_map, List.getElem?_range h]; rfl
theorem gi_ext {l m : List Int} (hl : l.length = m.length) (h : ∀ i, i < l.length → gi l i = gi m i) : l = m := by
  refine List.ext_getElem? fun i => ?_
  by_cases c : i < l.length
  · rw [gi_get l i c, gi_get m i (by omega), h i c]
  · rw [List.getElem?_eq_none (by omega), List.getElem?_eq_none (by omega)]

def supI (N : Int) (xs : List Nat) (i : Nat) : Int := onesI N xs (512 * (i : Int))
def subI (N : Int) (xs : List Nat) (j : Nat) : Int := onesI N xs (64 * (j : Int)) - supI N xs (j / 8)
def supP (N : Int) (xs : List Nat) (q : Nat) : List Int := (List.range q).map (supI N xs)
def subP (N : Int) (xs : List Nat) (q : Nat) : List Int := (List.range q).map (subI N xs)
def supL (N : Int) (xs : List Nat) : List Int := supP N xs (N.toNat / 512 + 1)
def subL (N : Int) (xs : List Nat) : List Int := subP N xs xs.length
theorem length_supP (N : Int) (xs : List Nat) (q : Nat) : (supP N xs q).length = q := by simp [supP]
theorem length_subP (N : Int) (xs : List Nat) (q : Nat) : (subP N xs q).length = q := by simp [subP]
theorem length_supL (N : Int) (xs : List Nat) : (supL N xs).length = N.toNat / 512 + 1 := length_supP _ _ _
theorem length_subL (N : Int) (xs : List Nat) : (subL N xs).length = xs.length := length_subP _ _ _
theorem gi_supP (N : Int) (xs : List Nat) (q i : Nat) (h : i < q) : gi (supP N xs q) i = supI N xs i := gi_map _ _ _ h
theorem gi_subP (N : Int) (xs : List Nat) (q i : Nat) (h : i < q) : gi (subP N xs q) i = subI N xs i := gi_map _ _ _ h
theorem onesI_bound (N : Int) (xs : List Nat) (n : Int) : 0 ≤ onesI N xs n ∧ onesI N xs n ≤ 1048576 := by
  unfold onesI
  cases h : chk N xs with
  | false => simp
  | true =>
    obtain ⟨h0, h1, _, _⟩ := chk_out N xs h
    have := cntB_le xs (min n N).toNat
    simp only [if_true]
    omega
theorem supI_bound (N : Int) (xs : List Nat) (i : Nat) : 0 ≤ supI N xs i ∧ supI N xs i ≤ 1048576 := onesI_bound _ _ _
theorem subI_bound (N : Int) (xs : List Nat) (i : Nat) : -1048576 ≤ subI N xs i ∧ subI N xs i ≤ 1048576 := by
  have a := onesI_bound N xs (64 * (i : Int))
  have b := supI_bound N xs (i / 8)
  unfold subI
  omega

/-- Whether one may be. -/
def pchk (N : Int) (xs : List Nat) (su sb : List Int) : Bool := chk N xs && (decide (su = supL N xs) && decide (sb = subL N xs))
def pbN (N : Int) (xs : List Nat) : Int := if chk N xs then N else 0
def pbX (N : Int) (xs : List Nat) : List Nat := if chk N xs then xs else []
def pbS (N : Int) (xs : List Nat) : List Int := if chk N xs then supL N xs else []
def pbT (N : Int) (xs : List Nat) : List Int := if chk N xs then subL N xs else []
def pbE (N : Int) (xs : List Nat) : Int := if chk N xs then 0 else 2
def piN (N : Int) (xs : List Nat) (su sb : List Int) : Int := if pchk N xs su sb then N else 0
def piX (N : Int) (xs : List Nat) (su sb : List Int) : List Nat := if pchk N xs su sb then xs else []
def paE (N : Int) (xs : List Nat) (su sb : List Int) (i : Int) : Int := if pchk N xs su sb then getE N xs i else 2
def paB (N : Int) (xs : List Nat) (su sb : List Int) (i : Int) : Bool := pchk N xs su sb && getB N xs i
/-- How many of the first i bits are bit. -/
def cB (xs : List Nat) (bit : Bool) (i : Nat) : Nat := if bit then cntB xs i else i - cntB xs i
def prE (N : Int) (xs : List Nat) (su sb : List Int) (i : Int) : Int := if pchk N xs su sb then (if i < 0 ∨ N < i then 3 else 0) else 2
def prN (N : Int) (xs : List Nat) (su sb : List Int) (bit : Bool) (i : Int) : Int := if prE N xs su sb i = 0 then (cB xs bit i.toNat : Int) else 0
/-- Is there, at place i, the bit that has k such ahead? -/
def here (xs : List Nat) (bit : Bool) (k : Int) (i : Nat) : Bool := (bitAt xs i == bit) && decide ((cB xs bit i : Int) = k)
def pselO (N : Int) (xs : List Nat) (bit : Bool) (k : Int) : Option Nat := (List.range N.toNat).find? (here xs bit k)
def psE (N : Int) (xs : List Nat) (su sb : List Int) (bit : Bool) (k : Int) : Int := if pchk N xs su sb then (if (pselO N xs bit k).isSome then 0 else 3) else 2
def psX (N : Int) (xs : List Nat) (su sb : List Int) (bit : Bool) (k : Int) : Int := if pchk N xs su sb then ((pselO N xs bit k).getD 0 : Int) else 0
def pzN (N : Int) (xs : List Nat) (su sb : List Int) : Int := if pchk N xs su sb then N + 32 * (su.length : Int) + 16 * (sb.length : Int) else 0

theorem pchk_out (N : Int) (xs : List Nat) (su sb : List Int) (h : pchk N xs su sb = true) : chk N xs = true ∧ su = supL N xs ∧ sb = subL N xs := by
  unfold pchk at h
  simp only [Bool.and_eq_true, decide_eq_true_eq] at h
  exact ⟨h.1, h.2.1, h.2.2⟩
theorem pchk_of (N : Int) (xs : List Nat) (h : chk N xs = true) : pchk N xs (supL N xs) (subL N xs) = true := by
  unfold pchk
  simp [h]
theorem cB_le (xs : List Nat) (bit : Bool) (i : Nat) : cB xs bit i ≤ i := by
  unfold cB
  have := cntB_le xs i
  split <;> omega
theorem cB_succ (xs : List Nat) (bit : Bool) (i : Nat) : cB xs bit (i + 1) = cB xs bit i + if bitAt xs i = bit then 1 else 0 := by
  have := cntB_le xs i
  unfold cB
  cases bit with
  | true => simp only [if_true, cntB]
  | false =>
    simp only [cntB]
    cases h : bitAt xs i <;> simp <;> omega
theorem cB_mono (xs : List Nat) (bit : Bool) (i d : Nat) : cB xs bit i ≤ cB xs bit (i + d) := by
  induction d with
  | zero => exact Nat.le_refl _
  | succ d ih => have := cB_succ xs bit (i + d); rw [show i + (d + 1) = i + d + 1 by omega]; omega
theorem here_one (xs : List Nat) (bit : Bool) (k : Int) (i j : Nat) (hi : here xs bit k i = true) (hj : here xs bit k j = true) : i = j := by
  unfold here at hi hj
  simp only [Bool.and_eq_true, beq_iff_eq, decide_eq_true_eq] at hi hj
  rcases Nat.lt_trichotomy i j with c | c | c
  · have a := cB_succ xs bit i
    rw [if_pos hi.1] at a
    have b := cB_mono xs bit (i + 1) (j - (i + 1))
    rw [show i + 1 + (j - (i + 1)) = j by omega] at b
    omega
  · exact c
  · have a := cB_succ xs bit j
    rw [if_pos hj.1] at a
    have b := cB_mono xs bit (j + 1) (i - (j + 1))
    rw [show j + 1 + (i - (j + 1)) = i by omega] at b
    omega
theorem psel_some (N : Int) (xs : List Nat) (bit : Bool) (k : Int) (i : Nat) (hi : i < N.toNat) (h : here xs bit k i = true) : pselO N xs bit k = some i := by
  unfold pselO
  cases hf : (List.range N.toNat).find? (here xs bit k) with
  | none =>
    rw [List.find?_eq_none] at hf
    exact absurd h (by simpa using hf i (List.mem_range.2 hi))
  | some j =>
    have := List.find?_some hf
    rw [here_one xs bit k i j h this]
theorem psel_none (N : Int) (xs : List Nat) (bit : Bool) (k : Int) (h : ∀ i, i < N.toNat → here xs bit k i = false) : pselO N xs bit k = none := by
  unfold pselO
  rw [List.find?_eq_none]
  intro i hi
  have := h i (List.mem_range.1 hi)
  simp [this]
theorem psel_spec (N : Int) (xs : List Nat) (bit : Bool) (k : Int) (i : Nat) (h : pselO N xs bit k = some i) : i < N.toNat ∧ bitAt xs i = bit ∧ (cB xs bit i : Int) = k := by
  unfold pselO at h
  have a := List.find?_some h
  have b := List.mem_range.1 (List.mem_of_find?_eq_some h)
  unfold here at a
  simp only [Bool.and_eq_true, beq_iff_eq, decide_eq_true_eq] at a
  exact ⟨b, a.1, a.2⟩
/-- There is a place just where k counts. -/
theorem psel_iff (N : Int) (xs : List Nat) (bit : Bool) (k : Int) : (pselO N xs bit k).isSome = true ↔ 0 ≤ k ∧ k < (cB xs bit N.toNat : Int) := by
  constructor
  · intro h
    obtain ⟨i, hi⟩ := Option.isSome_iff_exists.1 h
    obtain ⟨h1, h2, h3⟩ := psel_spec N xs bit k i hi
    have a := cB_succ xs bit i
    rw [if_pos h2] at a
    have b := cB_mono xs bit (i + 1) (N.toNat - (i + 1))
    rw [show i + 1 + (N.toNat - (i + 1)) = N.toNat by omega] at b
    omega
  · rintro ⟨h0, h1⟩
    obtain ⟨m, rfl⟩ := Int.eq_ofNat_of_zero_le h0
    have key : ∀ n, m < cB xs bit n → ∃ i, i < n ∧ here xs bit m i = true := by
      intro n
      induction n with
      | zero => intro h; have := cB_le xs bit 0; omega
      | succ n ih =>
        intro h
        rw [cB_succ] at h
        by_cases c : m < cB xs bit n
        · obtain ⟨i, hi, hh⟩ := ih c
          exact ⟨i, by omega, hh⟩
        · by_cases hb : bitAt xs n = bit
          · rw [if_pos hb] at h
            refine ⟨n, by omega, ?_⟩
            unfold here
            simp only [Bool.and_eq_true, beq_iff_eq, decide_eq_true_eq]
            exact ⟨hb, by omega⟩
          · rw [if_neg hb] at h; omega
    obtain ⟨i, hi, hh⟩ := key N.toNat (by omega)
    rw [psel_some N xs bit m i hi hh]
    rfl
end Bit
end Go.Proofs.YtmphbnmcbonmmaaGreatDoor
