/-
  The contract of the document's Make. The contract of List. The contracts of the document's Make, Of and List, whatever is handed in. Appends to a row of the call's own, out of whatever source (nothing among them): as a step of a list of operations, and of a region that draws its order. One block alone is written: what stays. A struct, or an array, whole, out of and into a block of its own. The contracts of the document's places and width of layer 9. The contract of the document's width of layer 9; rows of bools of the call's own.
-/
import Derived.Test.YtjkihmjbhiiknaaDoorM04
import Derived.Test.YtjkihmjbhiiknaaDoorRows
import Derived.WalkKit
import Derived.OwnWalk
import Derived.Deep.AppendLies
import Derived.Test.YtjkihmjbhiiknaaDoorM03
import Derived.Test.YtjkihmjbhiiknaaDoorM02
import Derived.Laws.Rows
import Derived.Laws.Tables
import Derived.Test.YtjkihmjbhiiknaaDoorM01
namespace Go.Proofs.YtjkihmjbhiiknaaDoor
open Go.RowKit Num Bit
set_option maxRecDepth 100000
set_option linter.unusedVariables false

theorem info4 : (Tryd.prog.info? 4).map (fun i => (i.zero, i.size, i.bytes)) = some (some (.bool false), 1, 1) := by kernel_rfl

def bv (l : List Bool) : List Value := l.map fun b => Value.bool b
/-- The bits of numbers of that width, the first q of them. -/
def mb (l : List Nat) (W q : Nat) : List Bool := (List.range q).map fun j => (gt l (j / W)).testBit (j % W)
theorem length_mb (l : List Nat) (W q : Nat) : (mb l W q).length = q := by simp [mb]
theorem bt_mb (l : List Nat) (W q i : Nat) (h : i < q) : bt (mb l W q) i = (gt l (i / W)).testBit (i % W) := by
  unfold bt mb
  rw [List.getD_eq_getElem?_getD, List.getElem?_map, List.getElem?_range h]
  rfl
theorem mb_succ (l : List Nat) (W i k : Nat) (hk : k < W) : bv (mb l W (i * W + k)) ++ [.bool ((gt l i).testBit k)] = bv (mb l W (i * W + k + 1)) := by
  unfold bv mb
  rw [List.range_succ, List.map_append, List.map_append]
  have e1 : (i * W + k) / W = i := by rw [Nat.mul_comm, Nat.mul_add_div (by omega), Nat.div_eq_of_lt hk]; omega
  have e2 : (i * W + k) % W = k := by rw [Nat.mul_comm, Nat.mul_add_mod, Nat.mod_eq_of_lt hk]
  simp only [List.map_cons, List.map_nil, e1, e2]
theorem mb_row (l : List Nat) (W : Nat) : fromS (mb l W (l.length * W)) (mb l W (l.length * W)).length = mkS l W l.length := by
  unfold fromS mkS
  rw [length_mb]
  refine rowOf_congr _ _ _ fun i hi => ?_
  rw [bt_mb _ _ _ _ hi]
theorem shr_bit (y q : Nat) : (((y : Int) / 2 ^ q).tmod 2 == 1) = y.testBit q := by
  rw [bit_tmod _ _ (Int.natCast_nonneg _), bit_test, Int.toNat_natCast, Bool.eq_iff_iff, beq_iff_eq, decide_eq_true_eq]
  omega
theorem bl_owns {w : World} {base n : Nat} {v : Value} {l : List Bool} (h : w.ownsRow base 4 1 v n (bv l)) : ∃ ao cap, v = .slice ao n cap ∧ Bl w ao l ∧ l.length = n := by
  have hn : l.length = n := by have := h.1; simpa [bv] using this
  obtain ⟨h1, ⟨rfl, rfl⟩ | ⟨g, cap, cur, rfl, e2, hh, r, _, hs, ht⟩⟩ := h
  · exact ⟨none, 0, rfl, fun h => absurd h (by omega), hn⟩
  · refine ⟨some ⟨g, 0, none⟩, cap, rfl, fun _ => ⟨g, 0, rfl, (Array.getElem?_eq_some_iff.1 hh).1, fun i hi => ?_⟩, hn⟩
    unfold World.cell?
    rw [show w.heap[({ block := g, off := 0 + i, spot := none } : Addr).block]? = _ from hh]
    have h3 : (cur.toList.take (n * 1))[i]? = some (.bool (bt l i)) := by
      rw [ht, bv, List.getElem?_map]
      unfold bt
      rw [List.getD_eq_getElem?_getD, List.getElem?_eq_getElem hi]
      rfl
    rw [List.getElem?_take_of_lt (by omega)] at h3
    simpa using h3

theorem reffrom_n (ao : Option Addr) (l : List Bool) (n cap k : Nat) (w : World) (hn : l.length = n) (hx : Bl w ao l) (hl : n ≤ 1048576) (hk : k = (n + 63) / 64) :
    Calls Tryd.prog 59 #[.slice ao n cap] w fun e w' => ∃ g, e = .returned (.tuple #[.agg #[.int .i64 n, .slice (some ⟨g, 0, none⟩) k k], .int .i64 0]) ∧ w.heap.size ≤ g ∧ Own w' g (fromS l l.length) ∧ Below w.heap.size w w' := by
  subst hn
  exact reffrom_ok ao l cap k w hx hl hk

/-- What stands while the bits are gathered: the result's box, and that nothing old has turned. -/
structure RB (w wr : World) : Prop where
  c0 : wr.cell? ⟨w.heap.size, 0, none⟩ = some (.int .i64 0)
  c1 : wr.cell? ⟨w.heap.size, 1, none⟩ = some (.int .i64 0)
  c2 : wr.cell? ⟨w.heap.size, 2, none⟩ = some (.int .i64 0)
  c3 : wr.cell? ⟨w.heap.size, 3, none⟩ = some (.slice none 0 0)
  f0 : wr.frozen? ⟨w.heap.size, 0, none⟩ = false
  f1 : wr.frozen? ⟨w.heap.size, 1, none⟩ = false
  f2 : wr.frozen? ⟨w.heap.size, 2, none⟩ = false
  f3 : wr.frozen? ⟨w.heap.size, 3, none⟩ = false
  lt : w.heap.size < wr.heap.size
  bel : Below w.heap.size w wr
theorem RB.new (w : World) : RB w (w.alloc (.cells #[.int .i64 0, .int .i64 0, .int .i64 0, .slice none 0 0] 28)) := ⟨by simp, by simp, by simp, by simp, by simp, by simp, by simp, by simp, by simp, below_alloc _ _⟩
theorem RB.keep {w w1 w2 : World} (h : RB w w1) (hb : Below (w.heap.size + 1) w1 w2) : RB w w2 :=
  ⟨(hb.cell (p := ⟨w.heap.size, 0, none⟩) (by simp)).trans h.c0, (hb.cell (p := ⟨w.heap.size, 1, none⟩) (by simp)).trans h.c1, (hb.cell (p := ⟨w.heap.size, 2, none⟩) (by simp)).trans h.c2, (hb.cell (p := ⟨w.heap.size, 3, none⟩) (by simp)).trans h.c3,
   (hb.frozen (p := ⟨w.heap.size, 0, none⟩) (by simp)).trans h.f0, (hb.frozen (p := ⟨w.heap.size, 1, none⟩) (by simp)).trans h.f1, (hb.frozen (p := ⟨w.heap.size, 2, none⟩) (by simp)).trans h.f2, (hb.frozen (p := ⟨w.heap.size, 3, none⟩) (by simp)).trans h.f3,
   Nat.lt_of_lt_of_le h.lt hb.size, h.bel.trans (hb.mono (by omega))⟩

theorem RB.put {w w1 : World} (h : RB w w1) (p q r s : Value) : Box4 ((((w1.setCell ⟨w.heap.size, 0, none⟩ p).setCell ⟨w.heap.size, 1, none⟩ q).setCell ⟨w.heap.size, 2, none⟩ r).setCell ⟨w.heap.size, 3, none⟩ s) w.heap.size p q r s :=
  ⟨by simp only [size_set]; exact h.lt, by simp [go_sem, h.c0], by simp [go_sem, h.c1], by simp [go_sem, h.c2], by simp [go_sem, h.c3]⟩

set_option maxHeartbeats 4000000 in
theorem refmake_loop (W : Nat) (al : Option Addr) (l : List Nat) (cap k : Nat) (w : World) (hx : Wd w al l) (hf : Fit l) (a1 : 1 ≤ W) (a2 : W ≤ 64) (hm : l.length * W ≤ 1048576) (hk : k = (l.length * W + 63) / 64) :
    Calls Tryd.prog 58 #[.int .i64 W, .slice al l.length cap] w fun e w' =>
      (imE (W : Int) l = 0 ∧ ∃ g, e = .returned (.tuple #[.agg #[.int .i64 l.length, .int .i64 W, .int .i64 ((l.length : Int) * W), .slice (some ⟨g, 0, none⟩) k k], .int .i64 0]) ∧ w.heap.size ≤ g ∧ Own w' g (mkS l W l.length) ∧ Below w.heap.size w w') ∨
      (imE (W : Int) l ≠ 0 ∧ e = .returned (.tuple #[.agg #[.int .i64 0, .int .i64 0, .int .i64 0, .slice none 0 0], .int .i64 2]) ∧ Below w.heap.size w w') := by
  have hll : l.length ≤ 1048576 := Nat.le_trans (Nat.le_mul_of_pos_right _ (by omega)) hm
  have hmi : (0 : Int) ≤ (l.length : Int) * (W : Int) := Int.mul_nonneg (by omega) (by omega)
  have hmi2 : (l.length : Int) * (W : Int) ≤ 1048576 := by rw [← Int.natCast_mul]; omega
  have HK : Hid (k = (l.length * W + 63) / 64) := hk
  have d1 : decide ((W : Int) < 1) = false := by simp; omega
  have d2 : decide (64 < (W : Int)) = false := by simp; omega
  have d3 : decide ((1048576 : Int) < (l.length : Int)) = false := by simp; omega
  have HI : Hid ((∀ j, j < l.length → lenI (gt l j) ≤ W) → imE (W : Int) l = 0) := fun h => by
    unfold imE; rw [if_neg]; rintro (h1 | h1 | h1 | h1) <;> first | omega | exact h1 h
  have HJ : Hid (∀ j, j < l.length → (W : Int) < lenI (gt l j) → imE (W : Int) l ≠ 0) := fun j hj h e => by
    have := (imE_zero _ l e).2.2.2 j hj; omega
  obtain ⟨i0, hi, hz0, hz1, hz2⟩ := info_parts info4
  clear hk
  go_enter Tryd.func58, Tryd.ntmps58
  go_wp2
  go_loopw [6, 7] (fun v i wr => ∃ q : Nat, q ≤ l.length ∧ i = .int .i64 q ∧ wr.ownsRow (w.heap.size + 1) 4 1 v (q * W) (bv (mb l W (q * W))) ∧ Hid (∀ j, j < q → lenI (gt l j) ≤ W) ∧ RB w wr) (fun _ i _ => l.length - (intOf i).toNat)
  case atStart => exact ⟨0, Nat.zero_le _, rfl, by rw [Nat.zero_mul]; exact World.ownsRow_nil _ _ _ _, fun j hj => absurd hj (by omega), RB.new w⟩
  case round =>
    obtain ⟨q, hq, rfl, hown, HA, rb⟩ := hrel
    by_cases hlt : q < l.length
    · obtain ⟨b, off, rfl, hb, hc⟩ := hx (by omega)
      have e1 := (rb.bel.cell (p := ⟨b, off + q, none⟩) hb).trans (hc q hlt)
      have hlt3 : (q : Int) < (l.length : Int) := by omega
      have F1 : Hid ((gt l q : Int) < 18446744073709551616) := by unfold Hid; have := hf q; omega
      by_cases hfit : lenI (gt l q) ≤ (W : Int)
      · have dF : decide (lenI (gt l q) ≤ (W : Int)) = true := by simpa using hfit
        have HF : Hid (lenI (gt l q) ≤ (W : Int)) := hfit
        clear hfit
        have hn := mul_next l.length W q hlt
        have hqm : q * W + W ≤ 1048576 := by omega
        clear hc
        go_wp2_with (go_at_call 71; refine (reffits_c _ _ ?_ ?_ _).mono ?_; (exact Int.natCast_nonneg _); exact F1.out; rintro e w' ⟨rfl, rfl⟩)
        go_loopw [6, 8] (fun v j wr => ∃ k : Nat, k ≤ W ∧ j = .int .i64 k ∧ wr.ownsRow (w.heap.size + 1) 4 1 v (q * W + k) (bv (mb l W (q * W + k))) ∧ wr.cell? ⟨b, off + q, none⟩ = some (.int .u64 (gt l q)) ∧ RB w wr) (fun _ j _ => W - (intOf j).toNat)
        case atStart => exact ⟨0, Nat.zero_le _, rfl, hown, e1, rb⟩
        case round =>
          clear hown e1 rb
          obtain ⟨k, hk, rfl, hown, e1, rb⟩ := hrel
          by_cases hk2 : k < W
          · have hk3 : (k : Int) < (W : Int) := by omega
            have hk4 : k < 64 := by omega
            have rlt := rb.lt
            have hbw : b < w.heap.size := hb
            have BT : Hid ((((gt l q : Int) / 2 ^ k).tmod 2 == 1) = (gt l q).testBit k) := shr_bit _ _
            go_wp2_with (at_builtin; refine wpList_append_own _ rfl _ _ 83 rfl (w.heap.size + 1) 4 i0 (.bool false) 1 1 Tryd.underlying83 hi hz0 hz1 hz2 rfl (by decide) _ _ _ rfl (hown.alloc _) ⟨wr.heap.size, 0, none⟩ 1 1 [.bool (((gt l q : Int) / 2 ^ k).tmod 2 == 1)] rfl rfl ?c1 ?c2 ?c3 ?c4 ?c5 ?_)
            case c1 =>
              intro j u hj
              match j, hj with
              | 0, hj => simp at hj; subst hj; simp [Addr.add]
            case c2 => intro u hu; simp at hu; subst hu; rfl
            case c3 => unfold maxLen; omega
            case c4 => omega
            case c5 => simp; omega
            intro v' w3 hown3 hgrow _
            have hrow : ∀ k, u6.ownBlock = some k → w.heap.size + 1 ≤ k := fun k hk => (hown.lt k hk).1
            have hb3 : Below (w.heap.size + 1) (wr.alloc (.cells #[.bool (((gt l q : Int) / 2 ^ k).tmod 2 == 1)] 4)) w3 := (Below.refl _ _).grown hgrow (by simp; omega) hrow
            have hb4 : Below (w.heap.size + 1) wr w3 := Below.trans ((Below.refl _ _).alloc (by omega) _) hb3
            have e3 := (hb4.cell (p := ⟨b, off + q, none⟩) (show b < w.heap.size + 1 by omega)).trans e1
            have rb3 := rb.keep hb4
            rw [BT.out, mb_succ l W q k hk2] at hown3
            have HO : Hid (w3.ownsRow (w.heap.size + 1) 4 1 v' (q * W + (k + 1)) (bv (mb l W (q * W + (k + 1))))) := hown3
            clear hgrow hb3 hb4 hown3 hrow e1 rb hown BT
            go_wp2
            first
              | exact ⟨⟨k + 1, by omega, by go_num, HO.out, e3, rb3⟩, by simp only [intOf]; omega⟩
              | (go_roundw
                 case rel => exact ⟨k + 1, by omega, by go_num, HO.out, e3, rb3⟩
                 case measure => simp only [intOf]; omega)
          · have hkW : k = W := by omega
            have HO : Hid (wr.ownsRow (w.heap.size + 1) 4 1 u6 ((q + 1) * W) (bv (mb l W ((q + 1) * W)))) := by
              rw [hkW] at hown
              rw [Nat.add_mul, Nat.one_mul]
              exact hown
            have HA2 : Hid (∀ j, j < q + 1 → lenI (gt l j) ≤ W) := fun j hj => by
              by_cases e : j = q
              · subst e; exact HF.out
              · exact HA.out j (by omega)
            clear hkW hown e1
            go_wp2
            first
              | exact ⟨⟨q + 1, by omega, by go_num, HO.out, HA2, rb⟩, by simp only [intOf]; omega⟩
              | (go_roundw
                 case rel => exact ⟨q + 1, by omega, by go_num, HO.out, HA2, rb⟩
                 case measure => simp only [intOf]; omega)
      · have dF : decide (lenI (gt l q) ≤ (W : Int)) = false := by simpa using hfit
        have HF : Hid (imE (W : Int) l ≠ 0) := HJ.out q hlt (by omega)
        clear hfit
        obtain ⟨k0, k1, k2, k3, f0, f1, f2, f3, rl, rbel⟩ := rb
        go_wp2_with (go_at_call 71; refine (reffits_c _ _ ?_ ?_ _).mono ?_; (exact Int.natCast_nonneg _); exact F1.out; rintro e w' ⟨rfl, rfl⟩)
        refine bodyPost_ret (v := .tuple #[.agg #[.int .i64 0, .int .i64 0, .int .i64 0, .slice none 0 0], .int .i64 2]) (by simp [results, Tryd.results58, go_sem, k0, k1, k2, k3]) rfl (.inr ⟨HF.out, rfl, ?_⟩)
        exact (((rbel.setCell (by simp) _).setCell (by simp) _).setCell (by simp) _).setCell (by simp) _
    · have hq2 : q = l.length := by omega
      subst hq2
      have HE : Hid (imE (W : Int) l = 0) := HI.out HA.out
      obtain ⟨bo, dap, rfl, hB, hBn⟩ := bl_owns hown
      clear hown HI HJ HA hlt
      have rlt := rb.lt
      go_wp2_with fail
      refine (reffrom_n _ _ _ _ k _ hBn hB hm HK.out).mono ?_
      rintro e w1 ⟨g, rfl, hg1, hO, hb⟩
      rw [mb_row] at hO
      replace rb := rb.keep (hb.mono (by omega))
      have hg0 : w.heap.size < g := by omega
      have HO : Hid (Own w1 g (mkS l W l.length)) := hO
      have hgl := hO.lt
      clear hb hB hBn hO
      have PB := (rb.put (.int .i64 l.length) (.int .i64 W) (.int .i64 ((l.length : Int) * W)) (.slice (some ⟨g, 0, none⟩) k k)).keep (below_alloc _ (.cells #[.int .i64 ((l.length : Int) * W), .slice (some ⟨g, 0, none⟩) k k] 24))
      have HPB : Hid (Box4 _ _ _ _ _ _) := PB
      clear PB
      obtain ⟨k0, k1, k2, k3, f0, f1, f2, f3, rl, rbel⟩ := rb
      go_wp2
      obtain ⟨_, p0, p1, p2, p3⟩ := HPB.out
      refine bodyPost_ret (v := .tuple #[.agg #[.int .i64 l.length, .int .i64 W, .int .i64 ((l.length : Int) * W), .slice (some ⟨g, 0, none⟩) k k], .int .i64 0]) (by simp [results, Tryd.results58, go_sem, p0, p1, p2, p3]) rfl (.inl ⟨HE.out, g, rfl, by omega, ?_, ?_⟩)
      · exact ((((HO.out.set_other (by simp; omega) _).set_other (by simp; omega) _).set_other (by simp; omega) _).set_other (by simp; omega) _).keep (below_alloc _ _)
      · exact ((((rbel.setCell (by simp) _).setCell (by simp) _).setCell (by simp) _).setCell (by simp) _).alloc (by simp only [size_set]; omega) _
end Go.Proofs.YtjkihmjbhiiknaaDoor

namespace Go.Proofs.YtjkihmjbhiiknaaDoor
open Go.RowKit Num Bit
set_option maxRecDepth 100000
set_option linter.unusedVariables false

def lsS (n : Nat) (f : Nat → Nat) (k : Nat) : List Nat := (List.range n).map fun i => if i < k then f i else 0
theorem length_lsS (n : Nat) (f : Nat → Nat) (k : Nat) : (lsS n f k).length = n := by simp [lsS]
theorem gt_lsS (n : Nat) (f : Nat → Nat) (k j : Nat) : gt (lsS n f k) j = if j < n ∧ j < k then f j else 0 := by
  unfold lsS gt
  rw [List.getD_eq_getElem?_getD, List.getElem?_map]
  by_cases h : j < n
  · rw [List.getElem?_range h]
    by_cases c : j < k <;> simp [h, c]
  · rw [List.getElem?_eq_none (by simp; omega)]; simp [h]
theorem lsS_zero (n : Nat) (f : Nat → Nat) : List.replicate n 0 = lsS n f 0 := by
  refine list_ext _ _ (by rw [length_lsS]; simp) fun i hi => ?_
  rw [gt_lsS]
  simp only [List.length_replicate] at hi
  unfold gt
  rw [List.getD_eq_getElem?_getD, List.getElem?_replicate]
  simp [hi]
theorem lsS_step (n : Nat) (f : Nat → Nat) (k : Nat) (h : k < n) : (lsS n f k).set k (f k) = lsS n f (k + 1) := by
  refine list_ext _ _ (by rw [List.length_set, length_lsS, length_lsS]) fun i hi => ?_
  rw [gt_set _ _ _ _ (by rw [length_lsS]; exact h), gt_lsS, gt_lsS]
  rw [List.length_set, length_lsS] at hi
  by_cases c : k = i
  · subst c; simp [h]
  · rw [if_neg c]
    by_cases d : i < k
    · simp [hi, d, show i < k + 1 by omega]
    · simp [d, show ¬ i < k + 1 by omega]
theorem lsS_all (n : Nat) (f : Nat → Nat) : lsS n f n = (List.range n).map f := by
  unfold lsS
  refine List.map_congr_left fun i hi => ?_
  rw [if_pos (List.mem_range.1 hi)]
theorem numAt_lt (n : Nat) (h : n ≤ 64) (xs : List Nat) (i : Nat) : numAt n xs i < 18446744073709551616 := by
  have := numOf_lt n (fun k => bitAt xs (i * n + k))
  have h2 := Nat.pow_le_pow_right (n := 2) (j := 64) (by decide) h
  rw [show (2 : Nat) ^ 64 = 18446744073709551616 from rfl] at h2
  unfold numAt
  omega
theorem fit_map (n : Nat) (f : Nat → Nat) (h : ∀ i, f i < 18446744073709551616) : Fit ((List.range n).map f) := by
  rw [← lsS_all]
  intro i
  rw [gt_lsS]
  split
  · exact h i
  · decide
theorem gt_map (n : Nat) (f : Nat → Nat) (j : Nat) (h : j < n) : gt ((List.range n).map f) j = f j := by
  rw [← lsS_all, gt_lsS, if_pos ⟨h, h⟩]

end Go.Proofs.YtjkihmjbhiiknaaDoor

namespace Go.Proofs.YtjkihmjbhiiknaaDoor
open Go.RowKit Num Bit
set_option maxRecDepth 100000
set_option linter.unusedVariables false

theorem refmake_bad (W : Int) (al : Option Addr) (n cap : Nat) (w : World) (hn : n ≤ 1048576) (h : W < 1 ∨ 64 < W ∨ 1048576 < (n : Int) * W) :
    Calls Tryd.prog 58 #[.int .i64 W, .slice al n cap] w fun e w' => e = .returned (.tuple #[.agg #[.int .i64 0, .int .i64 0, .int .i64 0, .slice none 0 0], .int .i64 2]) ∧ Below w.heap.size w w' := by
  by_cases a1 : W < 1
  · clear h
    go_enter Tryd.func58, Tryd.ntmps58
    go_wp2
    exact bodyPost_ret (v := .tuple #[.agg #[.int .i64 0, .int .i64 0, .int .i64 0, .slice none 0 0], .int .i64 2]) (by simp [results, Tryd.results58, go_sem]) rfl ⟨rfl, below_alloc w _⟩
  have d1 : decide (W < 1) = false := by simpa using a1
  by_cases a2 : 64 < W
  · clear h
    go_enter Tryd.func58, Tryd.ntmps58
    go_wp2
    exact bodyPost_ret (v := .tuple #[.agg #[.int .i64 0, .int .i64 0, .int .i64 0, .slice none 0 0], .int .i64 2]) (by simp [results, Tryd.results58, go_sem]) rfl ⟨rfl, below_alloc w _⟩
  have d2 : decide (64 < W) = false := by simpa using a2
  have d3 : decide ((1048576 : Int) < (n : Int)) = false := by simp; omega
  have h3 : 1048576 < (n : Int) * W := by omega
  have b2 : (n : Int) * W ≤ 1048576 * 64 := Int.mul_le_mul (by omega) (by omega) (by omega) (by omega)
  clear h
  go_enter Tryd.func58, Tryd.ntmps58
  go_wp2
  exact bodyPost_ret (v := .tuple #[.agg #[.int .i64 0, .int .i64 0, .int .i64 0, .slice none 0 0], .int .i64 2]) (by simp [results, Tryd.results58, go_sem]) rfl ⟨rfl, below_alloc w _⟩

theorem refmake_c (W : Int) (al : Option Addr) (l : List Nat) (cap : Nat) (w : World) (hx : Wd w al l) (hf : Fit l) (hcap : l.length ≤ 1048576) :
    Calls Tryd.prog 58 #[.int .i64 W, .slice al l.length cap] w fun e w' => ∃ bo dap, e = .returned (.tuple #[.agg #[.int .i64 (imN W l), .int .i64 (imW W l), .int .i64 (imM W l), .slice bo (imL W l).length dap], .int .i64 (imE W l)]) ∧ OutF w w' bo (imL W l) dap := by
  have bad : imE W l ≠ 0 → ∀ w' : World, Below w.heap.size w w' → ∃ bo dap, Ending.returned (.tuple #[.agg #[.int .i64 0, .int .i64 0, .int .i64 0, .slice none 0 0], .int .i64 2]) = .returned (.tuple #[.agg #[.int .i64 (imN W l), .int .i64 (imW W l), .int .i64 (imM W l), .slice bo (imL W l).length dap], .int .i64 (imE W l)]) ∧ OutF w w' bo (imL W l) dap := by
    intro hE w' hb
    have h1 : imL W l = [] := by unfold imL; rw [if_neg hE]
    have h2 : imN W l = 0 := by unfold imN; rw [if_neg hE]
    have h3 : imW W l = 0 := by unfold imW; rw [if_neg hE]
    have h4 : imM W l = 0 := by unfold imM; rw [if_neg hE]
    rw [h1, h2, h3, h4, imE_bad W l hE]
    exact ⟨none, 0, rfl, fun h => absurd h (by simp), fun i => by unfold gt; simp, by simp, fun a ha => (by cases ha), hb⟩
  by_cases h : W < 1 ∨ 64 < W ∨ 1048576 < (l.length : Int) * W
  · have hE : imE W l ≠ 0 := fun e => by have := imE_zero W l e; omega
    refine (refmake_bad W al l.length cap w hcap h).mono ?_
    rintro e w' ⟨rfl, hb⟩
    exact bad hE w' hb
  · obtain ⟨m, rfl⟩ := Int.eq_ofNat_of_zero_le (show 0 ≤ W by omega)
    have hm : l.length * m ≤ 1048576 := by
      have : ((l.length * m : Nat) : Int) ≤ 1048576 := by rw [Int.natCast_mul]; omega
      omega
    refine (refmake_loop m al l cap _ w hx hf (by omega) (by omega) hm rfl).mono ?_
    rintro e w' (⟨hE, g, rfl, hg0, hO, hb⟩ | ⟨hE, rfl, hb⟩)
    · have h1 : imL (m : Int) l = mkS l m l.length := by unfold imL; rw [if_pos hE, Int.toNat_natCast]
      have h2 : imN (m : Int) l = l.length := by unfold imN; rw [if_pos hE]
      have h3 : imW (m : Int) l = m := by unfold imW; rw [if_pos hE]
      have h4 : imM (m : Int) l = (l.length : Int) * m := by unfold imM; rw [if_pos hE]
      rw [h1, h2, h3, h4, hE]
      exact ⟨some ⟨g, 0, none⟩, _, by rw [length_mkS], hO.wd, fit_mkS _ _ _, by rw [length_mkS]; exact Nat.le_refl _, fun a ha => by cases ha; exact hg0, hb⟩
    · exact bad hE w' hb

/-! The document's List: what is appended lies in memory of the call's own, with room behind it. -/
def OwnC (w : World) (g : Nat) (ys : List Nat) : Prop := ∃ cur, w.heap[g]? = some (.cells cur 54 (0, 0)) ∧ ys.length ≤ cur.size ∧ ∀ j, j < ys.length → cur[j]? = some (.int .u64 (gt ys j))
theorem OwnC.lt {w : World} {g : Nat} {ys : List Nat} (h : OwnC w g ys) : g < w.heap.size := by obtain ⟨cur, hh, _⟩ := h; exact (Array.getElem?_eq_some_iff.1 hh).1
theorem OwnC.cell {w : World} {g : Nat} {ys : List Nat} (h : OwnC w g ys) (j : Nat) (hj : j < ys.length) : w.cell? ⟨g, j, none⟩ = some (.int .u64 (gt ys j)) := by
  obtain ⟨cur, hh, _, hc⟩ := h
  unfold World.cell?
  rw [show w.heap[({ block := g, off := j, spot := none } : Addr).block]? = _ from hh]
  exact hc j hj
theorem OwnC.frozen {w : World} {g : Nat} {ys : List Nat} (h : OwnC w g ys) (j : Nat) : w.frozen? ⟨g, j, none⟩ = false := by
  obtain ⟨cur, hh, _⟩ := h
  unfold World.frozen?
  rw [show w.heap[({ block := g, off := j, spot := none } : Addr).block]? = _ from hh]
  simp
theorem OwnC.wd {w : World} {g : Nat} {ys : List Nat} (h : OwnC w g ys) : Wd w (some ⟨g, 0, none⟩) ys := fun _ => ⟨g, 0, rfl, h.lt, fun i hi => by rw [Nat.zero_add]; exact h.cell i hi⟩
theorem OwnC.set {w : World} {g : Nat} {ys : List Nat} (h : OwnC w g ys) (j v : Nat) (hj : j < ys.length) : OwnC (w.setCell ⟨g, j, none⟩ (.int .u64 v)) g (ys.set j v) := by
  obtain ⟨cur, hh, hs, hc⟩ := h
  refine ⟨cur.setIfInBounds j (.int .u64 v), ?_, by simpa using hs, fun i hi => ?_⟩
  · simp only [World.setCell, Array.getElem?_modify]
    rw [if_pos trivial, hh]
    rfl
  · rw [List.length_set] at hi
    rw [Array.getElem?_setIfInBounds, gt_set ys j i v hj]
    by_cases e : j = i
    · subst e
      rw [if_pos rfl, if_pos rfl, if_pos (by omega)]
    · rw [if_neg e, if_neg e]; exact hc i hi
theorem OwnC.keep {w w' : World} {g : Nat} {ys : List Nat} (h : OwnC w g ys) (hb : Below w.heap.size w w') : OwnC w' g ys := by
  have hl := h.lt
  obtain ⟨cur, hh, r⟩ := h
  exact ⟨cur, (hb.block g hl).trans hh, r⟩
theorem owns_c {w : World} {base n : Nat} {v : Value} {ys : List Nat} (h : w.ownsRow base 54 1 v n (wv ys)) (hn : 0 < n) : ∃ g cap, v = .slice (some ⟨g, 0, none⟩) n cap ∧ base ≤ g ∧ n ≤ cap ∧ ys.length = n ∧ OwnC w g ys := by
  have hl : ys.length = n := by have := h.1; simpa [wv] using this
  obtain ⟨h1, ⟨rfl, rfl⟩ | ⟨g, cap, cur, rfl, e2, hh, r, _, hs, ht⟩⟩ := h
  · omega
  · refine ⟨g, cap, rfl, e2, r, hl, cur, hh, by omega, fun j hj => ?_⟩
    have h3 : (cur.toList.take (n * 1))[j]? = some (.int .u64 (gt ys j)) := by
      rw [ht, wv, List.getElem?_map, gt_get ys j hj]
      rfl
    rw [List.getElem?_take_of_lt (by omega)] at h3
    simpa using h3
theorem wv_succ (m : Nat) (xs : List Nat) (q : Nat) : wv ((List.range q).map (numAt m xs)) ++ [.int .u64 (numAt m xs q)] = wv ((List.range (q + 1)).map (numAt m xs)) := by
  unfold wv
  rw [List.range_succ, List.map_append, List.map_append]
  rfl
theorem owns_below {w w' : World} {base e n : Nat} {v : Value} {vs : List Value} (h : w.ownsRow base e 1 v n vs) (hb : Below w.heap.size w w') : w'.ownsRow base e 1 v n vs := by
  obtain ⟨h1, h2 | ⟨g, cap, cur, e1, e2, hh, r⟩⟩ := h
  · exact ⟨h1, .inl h2⟩
  · exact ⟨h1, .inr ⟨g, cap, cur, e1, e2, (hb.block g ((Array.getElem?_eq_some_iff.1 hh).1)).trans hh, r⟩⟩

set_option maxHeartbeats 4000000 in
theorem reflist_ok (M : Int) (n m : Nat) (ao : Option Addr) (xs : List Nat) (cap : Nat) (w : World) (hx : Wd w ao xs) (hf : Fit xs) (hk : ichk (n : Int) (m : Int) M xs = true) :
    Calls Tryd.prog 75 #[.agg #[.int .i64 n, .int .i64 m, .int .i64 M, .slice ao xs.length cap]] w fun e w' => ∃ v, e = .returned v ∧ w'.ownsRow w.heap.size 54 1 v n (wv ((List.range n).map (numAt m xs))) ∧ Below w.heap.size w w' := by
  obtain ⟨a1, a2, a3, a4, a5, a6, a7, a8⟩ := ichk_out n m M xs hk
  have hn : n ≤ 1048576 := by omega
  have HX : Hid (∀ k : Nat, k < n → ((igX n m M xs k : Nat) : Int) = ((numAt m xs k : Nat) : Int)) := by
    intro k hlt
    unfold igX
    rw [if_pos (igE_of n m M xs k hk (by omega) (by omega)), Int.toNat_natCast, Int.toNat_natCast]
  obtain ⟨i0, hi, hz0, hz1, hz2⟩ := info_parts Tryd.info54
  clear a3 a4 a5
  go_enter Tryd.func75, Tryd.ntmps75
  go_wp2
  go_loopw [3, 4] (fun v i wr => ∃ q : Nat, q ≤ n ∧ i = .int .i64 q ∧ wr.ownsRow (w.heap.size + 1) 54 1 v q (wv ((List.range q).map (numAt m xs))) ∧ Box4 wr w.heap.size (.int .i64 n) (.int .i64 m) (.int .i64 M) (.slice ao xs.length cap) ∧ wr.cell? ⟨w.heap.size, 0, none⟩ = some (.int .i64 n) ∧ Below w.heap.size w wr) (fun _ i _ => n - (intOf i).toNat)
  case atStart => exact ⟨0, Nat.zero_le _, rfl, World.ownsRow_nil _ _ _ _, ⟨by simp, by simp, by simp, by simp, by simp⟩, by simp, below_alloc _ _⟩
  case round =>
    obtain ⟨q, hq, rfl, hown, B, r0, hwr⟩ := hrel
    have hx' := hx.keep hwr
    by_cases hlt : q < n
    · have hlt2 : (q : Int) < (n : Int) := by omega
      have R : Hid (((igX n m M xs q : Nat) : Int) = ((numAt m xs q : Nat) : Int)) := HX.out q hlt
      obtain ⟨bl, b0, b1, b2, b3⟩ := B
      have hlt5 : decide ((q : Int) < (n : Int)) = true := by simpa using hlt2
      go_wp2_with fail
      refine (irefcheck_c _ _ _ _ _ _ _ hx' hf).mono ?_
      rintro e w2 ⟨rfl, hb⟩
      have B : Box4 w2 w.heap.size _ _ _ _ := Box4.keep ⟨bl, b0, b1, b2, b3⟩ hb
      have hx2 := hx'.keep hb
      replace hown := owns_below hown hb
      replace hwr := hwr.trans (hb.mono hwr.size)
      clear hb bl b0 b1 b2 b3 hx' r0
      obtain ⟨bl, b0, b1, b2, b3⟩ := B
      go_wp2_with fail
      refine (irefget_c _ _ _ _ _ _ _ _ hx2 hf).mono ?_
      rintro e w3 ⟨rfl, hb⟩
      have B : Box4 w3 w.heap.size _ _ _ _ := Box4.keep ⟨bl, b0, b1, b2, b3⟩ hb
      replace hown := owns_below hown hb
      replace hwr := hwr.trans (hb.mono hwr.size)
      clear hb bl b0 b1 b2 b3 hx2
      have bl := B.1
      go_wp2_with (at_builtin; refine wpList_append_own _ rfl _ _ 22 rfl (w.heap.size + 1) 54 i0 (.int .u64 0) 1 8 Tryd.underlying22 hi hz0 hz1 hz2 rfl (by decide) _ _ _ rfl (hown.alloc _) ⟨w3.heap.size, 0, none⟩ 1 1 [.int .u64 (igX n m M xs q)] rfl rfl ?c1 ?c2 ?c3 ?c4 ?c5 ?_)
      case c1 =>
        intro j u hj
        match j, hj with
        | 0, hj => simp at hj; subst hj; simp [Addr.add]
      case c2 => intro u hu; simp at hu; subst hu; rfl
      case c3 => unfold maxLen; omega
      case c4 => omega
      case c5 => simp; omega
      intro v' w4 hown4 hgrow _
      have hrow : ∀ k, u3.ownBlock = some k → w.heap.size + 1 ≤ k := fun k hk => (hown.lt k hk).1
      have hb3 : Below (w.heap.size + 1) (w3.alloc (.cells #[.int .u64 (igX n m M xs q)] 54)) w4 := (Below.refl _ _).grown hgrow (by simp; omega) hrow
      have hb4 : Below (w.heap.size + 1) w3 w4 := Below.trans ((Below.refl _ _).alloc (by omega) _) hb3
      have B4 : Box4 w4 w.heap.size (.int .i64 n) (.int .i64 m) (.int .i64 M) (.slice ao xs.length cap) := ⟨Nat.lt_of_lt_of_le bl hb4.size, (hb4.cell (p := ⟨w.heap.size, 0, none⟩) (by simp)).trans B.2.1, (hb4.cell (p := ⟨w.heap.size, 1, none⟩) (by simp)).trans B.2.2.1, (hb4.cell (p := ⟨w.heap.size, 2, none⟩) (by simp)).trans B.2.2.2.1, (hb4.cell (p := ⟨w.heap.size, 3, none⟩) (by simp)).trans B.2.2.2.2⟩
      have hw4 := hwr.trans (hb4.mono (by omega))
      rw [R.out, wv_succ] at hown4
      have HO : Hid (w4.ownsRow (w.heap.size + 1) 54 1 v' (q + 1) (wv ((List.range (q + 1)).map (numAt m xs)))) := hown4
      have s0 := B4.2.1
      clear hgrow hown hb3 hb4 hown4 hrow B bl hwr R
      go_wp2
      first
        | exact ⟨⟨q + 1, by omega, by go_num, HO.out, B4, s0, hw4⟩, by simp only [intOf]; omega⟩
        | (go_roundw
           case rel => exact ⟨q + 1, by omega, by go_num, HO.out, B4, s0, hw4⟩
           case measure => simp only [intOf]; omega)
    · have hqm : q = n := by omega
      have hlt5 : decide ((q : Int) < (n : Int)) = false := by simp; omega
      have HO : Hid (wr.ownsRow w.heap.size 54 1 u3 n (wv ((List.range n).map (numAt m xs)))) := by
        rw [hqm] at hown
        obtain ⟨h1, h2 | ⟨g, c, cur, e1, e2, r⟩⟩ := hown
        · exact ⟨h1, .inl h2⟩
        · exact ⟨h1, .inr ⟨g, c, cur, e1, by omega, r⟩⟩
      clear hqm hown
      go_wp2
      go_ret
      exact ⟨u3, rfl, HO.out, hwr⟩
end Go.Proofs.YtjkihmjbhiiknaaDoor

namespace Go.Proofs.YtjkihmjbhiiknaaDoor
open Go.RowKit
namespace Ap
theorem owns_below {w w' : World} {base e n : Nat} {v : Value} {vs : List Value} (h : w.ownsRow base e 1 v n vs) (hb : Below w.heap.size w w') : w'.ownsRow base e 1 v n vs := by
  obtain ⟨h1, h2 | ⟨g, cap, cur, e1, e2, hh, r⟩⟩ := h
  · exact ⟨h1, .inl h2⟩
  · exact ⟨h1, .inr ⟨g, cap, cur, e1, e2, (hb.block g ((Array.getElem?_eq_some_iff.1 hh).1)).trans hh, r⟩⟩
theorem owns_shape {w : World} {base e n : Nat} {v : Value} {vs : List Value} (h : w.ownsRow base e 1 v n vs) : ∃ ao cap, v = .slice ao n cap ∧ n ≤ cap ∧ (∀ k, v.ownBlock = some k → base ≤ k ∧ k < w.heap.size) := by
  have hl := h.lt
  obtain ⟨h1, ⟨rfl, rfl⟩ | ⟨g, cap, cur, rfl, e2, hh, r, _⟩⟩ := h
  · exact ⟨none, 0, rfl, Nat.le_refl _, hl⟩
  · exact ⟨some ⟨g, 0, none⟩, cap, rfl, r, hl⟩
theorem run_append_zero (w : World) (base : Nat) (t ty e : TypeId) (i : TypeInfo) (size : Nat) (ht : Tryd.prog.underlying t = some (.slice e)) (hi : Tryd.prog.info? e = some i)
    (v : Value) (n : Nat) (vs : List Value) (hown : w.ownsRow base e size v n vs) (xa : Option Addr) (c : Nat) :
    (Builtin.append_ #[t, t] ty #[v, .slice xa 0 c]).run Tryd.prog w = .ok v w := by
  have hc := fun ad : Addr => run_firstCells_some (P := Tryd.prog) w i.size 0 ad 0 c [] (by simp) (by simp)
  rcases hown.2 with ⟨rfl, rfl⟩ | ⟨g, cap, cur, rfl, _, _, hnc, _⟩
  · cases xa with
    | none => simp [Builtin.append_, run_underlying ht, sizeOf, typeInfo, hi, Builtin.lenOf, Builtin.firstCells]
    | some ad => simp [Builtin.append_, run_underlying ht, sizeOf, typeInfo, hi, Builtin.lenOf, hc]
  · cases xa with
    | none => simp [Builtin.append_, run_underlying ht, sizeOf, typeInfo, hi, Builtin.lenOf, Builtin.firstCells, hnc, storeCells]
    | some ad => simp [Builtin.append_, run_underlying ht, sizeOf, typeInfo, hi, Builtin.lenOf, hc, hnc, storeCells]

theorem step_append_u {ops : Array Oper} {o : Oper} {a : Act} {w : World} {K : Act → World → Prop} {Q : Exit → Act → World → Prop} {E : Prop} (hgd : o.guard = none) (s x : Operand) (t : TypeId)
    (ho : o.op = .call { callee := .builtin .append, args := #[s, x], argTypes := #[t, t] })
    (base : Nat) (e : TypeId) (i : TypeInfo) (z : Value) (bytes : Nat) (ht : Tryd.prog.underlying t = some (.slice e)) (hi : Tryd.prog.info? e = some i) (hz : i.zero = some z)
    (hsize : i.size = 1) (hby : i.bytes = bytes) (hzs : z.cells.size = 1)
    (v : Value) (n : Nat) (vs : List Value) (hs : a.eval s = v) (hown : w.ownsRow base e 1 v n vs)
    (xa : Option Addr) (m c : Nat) (news : List Value) (hx : a.eval x = .slice xa m c) (hl : news.length = m) (hsrc : 0 < m → ∃ ad, xa = some ad ∧ ∀ j u, news[j]? = some u → w.cell? (ad.add j) = some u) (h1 : ∀ u ∈ news, u.oneCell' = true)
    (h63 : n + m ≤ maxLen) (hbytes : (n + m) * bytes ≤ 140737488355328) (hbase : base ≤ w.heap.size)
    (h : ∀ ao cap w', w'.ownsRow base e 1 (.slice ao (n + m) cap) (n + m) (vs ++ news) → n + m ≤ cap → Below base w w' → (∀ k, (Value.slice ao (n + m) cap).ownBlock = some k → (v.ownBlock = some k ∨ k = w.heap.size) ∧ k < w'.heap.size) → (∀ k, k < w.heap.size → v.ownBlock ≠ some k → w'.heap[k]? = w.heap[k]?) → w.heap.size ≤ w'.heap.size → K (a.put o.dst (.slice ao (n + m) cap)) w') :
    if Region.wanted o (yielded ops a.tmps) = true then Oper.wp Tryd.prog o a w K Q else E := by
  have hw : Region.wanted o (yielded ops a.tmps) = true := by simp [Region.wanted, hgd]
  rw [if_pos hw]
  by_cases hm : m = 0
  · subst hm
    have hn : news = [] := List.eq_nil_of_length_eq_zero hl
    subst hn
    have hr := run_append_zero w base t o.type e i 1 ht hi v n vs hown xa c
    obtain ⟨ao, cap, rfl, hc, hk⟩ := owns_shape hown
    unfold Oper.wp execOp
    simp only [ho, resolve, invoke, builtin, Sem.run_bind, Sem.run_pure, Result.andThen_ok, List.map_toArray, List.map_cons, List.map_nil, hs, hx, hr]
    refine h ao cap w (by simpa using hown) hc (Below.refl _ _) (fun k e => ⟨.inl e, (hk k e).2⟩) (fun _ _ _ => rfl) (Nat.le_refl _)
  · obtain ⟨ad, rfl, hn⟩ := hsrc (by omega)
    refine wp_append_lies w s x t ho base e i z 1 bytes ht hi hz hsize hby hzs (by decide) v n vs hs hown ad m c news hx (by omega) hn h1 (by omega) h63 hbytes hbase w.heap.size rfl ?_
    intro g cap w' o1 o2 o3 o4
    refine h (some ⟨g, 0, none⟩) cap w' o1 ?_ ?_ ?_ ?_ o2.size
    · obtain ⟨_, h | ⟨g', cap', cur, e', _, hh, hle, _⟩⟩ := o1
      · simp at h
      · simp only [Value.slice.injEq] at e'
        omega
    · exact (Below.refl _ _).grown o2 hbase (fun k hk => (hown.lt k hk).1)
    · intro k hk
      simp only [Value.ownBlock, Option.some.injEq] at hk
      subst hk
      exact ⟨o3, o4⟩
    · intro k hk hne
      exact o2.block k hk (fun q => hne q.symm)

/-- An append to a row of the call's own, out of whatever source (nothing among them). -/
theorem wpList_append_u {ops : Array Oper} {rest : List Oper} {o : Oper} {a : Act} {w : World} {Q : Exit → Act → World → Prop} (hgd : o.guard = none) (s x : Operand) (t : TypeId)
    (ho : o.op = .call { callee := .builtin .append, args := #[s, x], argTypes := #[t, t] })
    (base : Nat) (e : TypeId) (i : TypeInfo) (z : Value) (bytes : Nat) (ht : Tryd.prog.underlying t = some (.slice e)) (hi : Tryd.prog.info? e = some i) (hz : i.zero = some z)
    (hsize : i.size = 1) (hby : i.bytes = bytes) (hzs : z.cells.size = 1)
    (v : Value) (n : Nat) (vs : List Value) (hs : a.eval s = v) (hown : w.ownsRow base e 1 v n vs)
    (xa : Option Addr) (m c : Nat) (news : List Value) (hx : a.eval x = .slice xa m c) (hl : news.length = m) (hsrc : 0 < m → ∃ ad, xa = some ad ∧ ∀ j u, news[j]? = some u → w.cell? (ad.add j) = some u) (h1 : ∀ u ∈ news, u.oneCell' = true)
    (h63 : n + m ≤ maxLen) (hbytes : (n + m) * bytes ≤ 140737488355328) (hbase : base ≤ w.heap.size)
    (h : ∀ ao cap w', w'.ownsRow base e 1 (.slice ao (n + m) cap) (n + m) (vs ++ news) → n + m ≤ cap → Below base w w' → wpList Tryd.prog ops Q rest (a.put o.dst (.slice ao (n + m) cap)) w') : wpList Tryd.prog ops Q (o :: rest) a w :=
  wpList_plain hgd fun K hK => by
    have hw : Region.wanted o (yielded ops a.tmps) = true := by simp [Region.wanted, hgd]
    have := step_append_u (ops := ops) (o := o) (a := a) (w := w) (K := K) (Q := Q) (E := True) hgd s x t ho base e i z bytes ht hi hz hsize hby hzs v n vs hs hown xa m c news hx hl hsrc h1 h63 hbytes hbase (fun ao cap w' h1 h2 h3 _ _ _ => hK _ _ (h ao cap w' h1 h2 h3))
    rw [if_pos hw] at this
    exact this

theorem owns_alloc {w : World} {base e n : Nat} {v : Value} {vs : List Value} (h : w.ownsRow base e 1 v n vs) (o : Obj) : (w.alloc o).ownsRow base e 1 v n vs := h.alloc o
/-- Two rows that lie in blocks of their own. -/
def Apart (u v : Value) : Prop := ∀ k, u.ownBlock = some k → v.ownBlock ≠ some k
theorem Apart.symm {u v : Value} (h : Apart u v) : Apart v u := fun k hk hu => h k hu hk
theorem apart_nil (v : Value) : Apart v (.slice none 0 0) := fun k _ h => by cases h
/-- A row stays where another one grows. -/
theorem owns_other {w w' : World} {base e n : Nat} {v u : Value} {vs : List Value} (h : w.ownsRow base e 1 v n vs) (hkeep : ∀ k, k < w.heap.size → u.ownBlock ≠ some k → w'.heap[k]? = w.heap[k]?) (ha : Apart v u) : w'.ownsRow base e 1 v n vs := by
  have hl := h.lt
  obtain ⟨h1, h2 | ⟨g, cap, cur, e1, e2, hh, r⟩⟩ := h
  · exact ⟨h1, .inl h2⟩
  · subst e1
    exact ⟨h1, .inr ⟨g, cap, cur, rfl, e2, (hkeep g (hl g rfl).2 (ha g rfl)).trans hh, r⟩⟩
theorem apart_new {w w' : World} {base e n : Nat} {v u u' : Value} {vs : List Value} (h : w.ownsRow base e 1 v n vs) (hn : ∀ k, u'.ownBlock = some k → (u.ownBlock = some k ∨ k = w.heap.size) ∧ k < w'.heap.size) (ha : Apart v u) : Apart v u' := by
  intro k hk hu
  rcases (hn k hu).1 with c | c
  · exact ha k hk c
  · have := (h.lt k hk).2
    omega
/-- As wpList_append_u, and it tells what stays. -/
theorem wpList_append_x {ops : Array Oper} {rest : List Oper} {o : Oper} {a : Act} {w : World} {Q : Exit → Act → World → Prop} (hgd : o.guard = none) (s x : Operand) (t : TypeId)
    (ho : o.op = .call { callee := .builtin .append, args := #[s, x], argTypes := #[t, t] })
    (base : Nat) (e : TypeId) (i : TypeInfo) (z : Value) (bytes : Nat) (ht : Tryd.prog.underlying t = some (.slice e)) (hi : Tryd.prog.info? e = some i) (hz : i.zero = some z)
    (hsize : i.size = 1) (hby : i.bytes = bytes) (hzs : z.cells.size = 1)
    (v : Value) (n : Nat) (vs : List Value) (hs : a.eval s = v) (hown : w.ownsRow base e 1 v n vs)
    (xa : Option Addr) (m c : Nat) (news : List Value) (hx : a.eval x = .slice xa m c) (hl : news.length = m) (hsrc : 0 < m → ∃ ad, xa = some ad ∧ ∀ j u, news[j]? = some u → w.cell? (ad.add j) = some u) (h1 : ∀ u ∈ news, u.oneCell' = true)
    (h63 : n + m ≤ maxLen) (hbytes : (n + m) * bytes ≤ 140737488355328) (hbase : base ≤ w.heap.size)
    (h : ∀ ao cap w', w'.ownsRow base e 1 (.slice ao (n + m) cap) (n + m) (vs ++ news) → n + m ≤ cap → Below base w w' → (∀ k, (Value.slice ao (n + m) cap).ownBlock = some k → (v.ownBlock = some k ∨ k = w.heap.size) ∧ k < w'.heap.size) → (∀ k, k < w.heap.size → v.ownBlock ≠ some k → w'.heap[k]? = w.heap[k]?) → w.heap.size ≤ w'.heap.size → wpList Tryd.prog ops Q rest (a.put o.dst (.slice ao (n + m) cap)) w') : wpList Tryd.prog ops Q (o :: rest) a w :=
  wpList_plain hgd fun K hK => by
    have hw : Region.wanted o (yielded ops a.tmps) = true := by simp [Region.wanted, hgd]
    have := step_append_u (ops := ops) (o := o) (a := a) (w := w) (K := K) (Q := Q) (E := True) hgd s x t ho base e i z bytes ht hi hz hsize hby hzs v n vs hs hown xa m c news hx hl hsrc h1 h63 hbytes hbase (fun ao cap w' h1 h2 h3 h4 h5 h6 => hK _ _ (h ao cap w' h1 h2 h3 h4 h5 h6))
    rw [if_pos hw] at this
    exact this
end Ap
end Go.Proofs.YtjkihmjbhiiknaaDoor

namespace Go.Proofs.YtjkihmjbhiiknaaDoor
open Go.RowKit
set_option linter.unusedVariables false

/-- Nothing but block g is changed. -/
structure Only (g : Nat) (w w' : World) : Prop where
  os : w'.os = w.os
  tape : w'.tape = w.tape
  output : w'.output = w.output
  size : w'.heap.size = w.heap.size
  block : ∀ k, k ≠ g → w'.heap[k]? = w.heap[k]?
theorem Only.refl (g : Nat) (w : World) : Only g w w := ⟨rfl, rfl, rfl, rfl, fun _ _ => rfl⟩
theorem Only.trans {g : Nat} {a b c : World} (h : Only g a b) (k : Only g b c) : Only g a c := ⟨k.os.trans h.os, k.tape.trans h.tape, k.output.trans h.output, k.size.trans h.size, fun i hi => (k.block i hi).trans (h.block i hi)⟩
theorem Only.below {g base : Nat} {w w' : World} (h : Only g w w') (hb : base ≤ g) : Below base w w' := ⟨h.os, h.tape, h.output, by rw [h.size]; exact Nat.le_refl _, fun k hk => h.block k (by omega)⟩
theorem Only.set {g : Nat} {a w : World} (h : Only g a w) (i : Nat) (v : Value) : Only g a (w.setCell ⟨g, i, none⟩ v) :=
  ⟨h.os, h.tape, h.output, by rw [show (w.setCell ⟨g, i, none⟩ v).heap.size = w.heap.size by simp [World.setCell]]; exact h.size, fun k hk => (Below.heap_setCell w ⟨g, i, none⟩ v k hk).trans (h.block k hk)⟩
theorem Only.row (g : Nat) (w : World) (cs : Array Value) : Only g w (w.setRow g cs) := by
  refine ⟨rfl, rfl, rfl, ?_, fun k hk => ?_⟩
  · simp [World.setRow]
  · simp only [World.setRow, Array.getElem?_modify]
    rw [if_neg (by omega)]
theorem Only.cell {g : Nat} {w w' : World} (h : Only g w w') {p : Addr} (hp : p.block ≠ g) : w'.cell? p = w.cell? p := World.cell?_of_block (w := w) (h.block p.block hp)
theorem Only.cel {g b : Nat} {w w' : World} {cs : List Value} {T : TypeId} (h : Only g w w') (hc : Cel w b cs T) (hb : b ≠ g) : Cel w' b cs T := (h.block b hb).trans hc
theorem Only.wd {g : Nat} {w w' : World} {ao : Option Addr} {xs : List Nat} (h : Only g w w') (hx : Wd w ao xs) (hb : ∀ a, 0 < xs.length → ao = some a → a.block ≠ g) : Wd w' ao xs := by
  intro h0
  obtain ⟨b, off, e, hlt, hc⟩ := hx h0
  have hne := hb _ h0 e
  exact ⟨b, off, e, by rw [h.size]; exact hlt, fun i hi => (h.cell (p := ⟨b, off + i, none⟩) hne).trans (hc i hi)⟩
theorem Only.owns {g base e n : Nat} {w w' : World} {v : Value} {vs : List Value} (h : Only g w w') (ho : w.ownsRow base e 1 v n vs) (hg : g < base) : w'.ownsRow base e 1 v n vs := by
  obtain ⟨h1, h2 | ⟨b, cap, cur, e1, e2, hh, r⟩⟩ := ho
  · exact ⟨h1, .inl h2⟩
  · exact ⟨h1, .inr ⟨b, cap, cur, e1, e2, (h.block b (by omega)).trans hh, r⟩⟩

/-- Words do not lie in a block that holds none. -/
theorem Wd.apart {w : World} {ao : Option Addr} {xs : List Nat} {b : Nat} {cs : List Value} {T : TypeId} (hx : Wd w ao xs) (hc : Cel w b cs T) (hn : ∀ v ∈ cs, ∀ n, v ≠ .int .u64 n) : ∀ a, 0 < xs.length → ao = some a → a.block ≠ b := by
  intro a h0 ha he
  obtain ⟨b', off, e, hlt, hcc⟩ := hx h0
  rw [ha] at e
  obtain rfl := Option.some.inj e
  have he : b' = b := he
  subst he
  have h1 := hcc 0 h0
  unfold World.cell? at h1
  rw [show w.heap[({ block := b', off := off + 0, spot := none } : Addr).block]? = _ from hc] at h1
  have h2 : cs[off + 0]? = some (.int .u64 (Bit.gt xs 0)) := by simpa using h1
  exact hn _ (List.mem_of_getElem? h2) _ rfl
theorem store_cel {ops : Array Oper} {rest : List Oper} {d : Option Tmp} {ty T : TypeId} {ps : String} {af : Array Edge} {a : Act} {w : World} {Q : Exit → Act → World → Prop} {x y : Operand}
    (g : Nat) (old cs : List Value) (hx : a.eval x = .pointer (some ⟨g, 0, none⟩)) (hy : a.eval y = .agg cs.toArray) (hc : Cel w g old T) (lo : old.length = cs.length) (hi : (Tryd.prog.info? T).map (·.size) = some cs.length) (h1 : cs.toArray.all (·.oneCell') = true)
    (h : ∀ w1, Cel w1 g cs T → Only g w w1 → wpList Tryd.prog ops Q rest (a.put d undef) w1) :
    wpList Tryd.prog ops Q (⟨d, .store T x y, ty, ps, af, none⟩ :: rest) a w :=
  wpList_store_row rfl _ x y rfl g _ hx hy _ _ hc (by simpa using hi) (by simpa using lo) h1 (h _ (setRow_heap w g _ _ _ _ hc) (Only.row g w _))
theorem load_cel {ops : Array Oper} {rest : List Oper} {d : Option Tmp} {ty T : TypeId} {ps : String} {af : Array Edge} {a : Act} {w : World} {Q : Exit → Act → World → Prop} {x : Operand}
    (g : Nat) (cs : List Value) {fs : Array Field} (hx : a.eval x = .pointer (some ⟨g, 0, none⟩)) (hc : Cel w g cs T) (hu : Tryd.prog.underlying T = some (.struct fs)) (hi : (Tryd.prog.info? T).map (·.size) = some cs.length)
    (h : wpList Tryd.prog ops Q rest (a.put d (.agg cs.toArray)) w) :
    wpList Tryd.prog ops Q (⟨d, .load T x, ty, ps, af, none⟩ :: rest) a w :=
  wpList_load_row rfl _ x rfl g hx _ _ _ _ hc hu rfl (by simpa using hi) h
theorem result_cel {fn : Func} {p : Tmp} {T : TypeId} {w : World} {tmps : Array Value} {u : Tmp} (h : fn.results = #[.cell p T, .tmp u]) (g : Nat) (cs : List Value) {fs : Array Field} (hp : tmps.getD p undef = .pointer (some ⟨g, 0, none⟩)) (hc : Cel w g cs T) (hu : Tryd.prog.underlying T = some (.struct fs)) (hi : (Tryd.prog.info? T).map (·.size) = some cs.length) :
    (results fn tmps).run Tryd.prog w = .ok (.tuple #[.agg cs.toArray, tmps.getD u undef]) w := by
  have hp' : tmps[p]?.getD undef = .pointer (some ⟨g, 0, none⟩) := by simpa using hp
  have hl := run_loadVar_row (P := Tryd.prog) w g T T cs.toArray (0, 0) _ hc hu rfl (by simpa using hi)
  simp [results, h, hp', asAddr, hl]
theorem result_cel1 {fn : Func} {p : Tmp} {T : TypeId} {w : World} {tmps : Array Value} (h : fn.results = #[.cell p T]) (g : Nat) (cs : List Value) {fs : Array Field} (hp : tmps.getD p undef = .pointer (some ⟨g, 0, none⟩)) (hc : Cel w g cs T) (hu : Tryd.prog.underlying T = some (.struct fs)) (hi : (Tryd.prog.info? T).map (·.size) = some cs.length) :
    (results fn tmps).run Tryd.prog w = .ok (.agg cs.toArray) w := by
  have hp' : tmps[p]?.getD undef = .pointer (some ⟨g, 0, none⟩) := by simpa using hp
  have hl := run_loadVar_row (P := Tryd.prog) w g T T cs.toArray (0, 0) _ hc hu rfl (by simpa using hi)
  simp [results, h, hp', asAddr, hl]
end Go.Proofs.YtjkihmjbhiiknaaDoor

namespace Go.Proofs.YtjkihmjbhiiknaaDoor
open Go.RowKit Num Bit
set_option linter.unusedVariables false
set_option linter.unusedSimpArgs false
set_option maxRecDepth 100000

theorem info3_9 : (Tryd.prog.info? 3).map (fun i => (i.zero, i.size, i.bytes)) = some (some (.int .i64 0), 1, 8) := by kernel_rfl
/-- Places as ints. -/
def lz (l : List Nat) : List Int := l.map fun n : Nat => (n : Int)
def lv (l : List Nat) : List Value := l.map fun n : Nat => Value.int .i64 (n : Int)
theorem length_lz (l : List Nat) : (lz l).length = l.length := by simp [lz]
theorem length_lv (l : List Nat) : (lv l).length = l.length := by simp [lv]
theorem gi_lz (l : List Nat) (i : Nat) : gi (lz l) i = (gt l i : Int) := by
  unfold gi lz gt
  rw [List.getD_eq_getElem?_getD, List.getD_eq_getElem?_getD, List.getElem?_map]
  cases l[i]? <;> rfl
theorem lv_snoc (l : List Nat) (v : Nat) : lv l ++ [.int .i64 (v : Int)] = lv (l ++ [v]) := by simp [lv]
theorem nd_own9 {w : World} {base n c : Nat} {ao : Option Addr} {l : List Nat} (h : w.ownsRow base 3 1 (.slice ao n c) n (lv l)) : Nd w ao (lz l) := by
  intro h0
  rw [length_lz] at h0
  have hlen : (lv l).length = n * 1 := h.1
  rw [length_lv] at hlen
  have hk := fun k hk => h.lt k hk
  have hc := fun g hg => h.cells (g := g) hg
  obtain ⟨_, ⟨e, e2⟩ | ⟨g, cap, cur, e, _⟩⟩ := h
  · omega
  · simp only [Value.slice.injEq] at e
    obtain ⟨rfl, _, rfl⟩ := e
    refine ⟨g, 0, rfl, (hk g rfl).2, fun i hi => ?_⟩
    rw [length_lz] at hi
    have hu : (lv l)[i]? = some (.int .i64 (gi (lz l) i)) := by
      rw [gi_lz]
      unfold lv gt
      rw [List.getElem?_map, List.getD_eq_getElem?_getD, List.getElem?_eq_getElem hi]
      rfl
    rw [← hc g rfl i _ hu]
    unfold Addr.add
    split
    · subst_vars; rfl
    · simp

theorem Hid.mk9 {p : Prop} (h : p) : Hid p := h
set_option maxHeartbeats 2000000 in
theorem places_c (m : Nat) (ao : Option Addr) (xs : List Nat) (cap : Nat) (w : World) (hx : Wd w ao xs) (hk : chk (m : Int) xs = true) :
    Calls Tryd.prog 39 #[.agg #[.int .i64 m, .slice ao xs.length cap]] w fun e w' => ∃ v, e = .returned v ∧ w'.ownsRow (w.heap.size + 1) 3 1 v (plc (bitAt xs) m).length (lv (plc (bitAt xs) m)) ∧ Below w.heap.size w w' := by
  obtain ⟨h0, h1, h2, -⟩ := chk_out (m : Int) xs hk
  have HL : Hid (∀ j, j < m → j / 64 < xs.length) := fun j hj => by omega
  obtain ⟨i3, hi3, za3, zb3, zc3⟩ := info_parts info3_9
  have hm : m ≤ 1048576 := by omega
  clear h2
  obtain ⟨W, hW⟩ : ∃ W, W = w.alloc (.cells #[.int .i64 m, .slice ao xs.length cap] 24) := ⟨_, rfl⟩
  have bW : Below w.heap.size w W := by rw [hW]; exact below_alloc w _
  have B1 : Cel W w.heap.size [.int .i64 m, .slice ao xs.length cap] 24 := by rw [hW]; exact Cel.new w _ _
  go_enter Tryd.func39, Tryd.ntmps39
  go_wp2
  rw [← hW]
  clear hW
  go_loopw [3, 4] (fun v i wr => ∃ q : Nat, q ≤ m ∧ i = .int .i64 q ∧ wr.ownsRow (w.heap.size + 1) 3 1 v (plc (bitAt xs) q).length (lv (plc (bitAt xs) q)) ∧ Cel wr w.heap.size [.int .i64 m, .slice ao xs.length cap] 24 ∧ Below w.heap.size w wr) (fun _ i _ => m - (intOf i).toNat)
  case atStart => exact ⟨0, Nat.zero_le _, rfl, World.ownsRow_nil _ _ _ _, B1, bW⟩
  case round =>
    obtain ⟨q, hq, rfl, hown, hC, hwr⟩ := hrel
    clear B1 bW
    have r0 := hC.cell 0 rfl
    have r1 := hC.cell 1 rfl
    obtain ⟨vo, vc, rfl, hvc, -⟩ := Ap.owns_shape hown
    have ple := plc_le (bitAt xs) q
    by_cases hlt : q < m
    · have hlt2 : (q : Int) < (m : Int) := by omega
      have C2 : Hid (∀ w0, Below w.heap.size w w0 → Calls Tryd.prog 37 #[.agg #[.int .i64 m, .slice ao xs.length cap], .int .i64 q] w0 fun e w' => e = .returned (.bool (bitAt xs q)) ∧ Below w0.heap.size w0 w') := fun w0 h => at_c m ao xs cap q w0 (hx.keep h) (HL.out _ hlt) (by omega)
      go_wp2_with fail
      refine (C2.out _ hwr).mono ?_
      rintro e w2 ⟨rfl, hb2⟩
      have hw2 := hwr.trans (hb2.mono hwr.size)
      have hC2 := hC.kept hb2
      have own2 := Ap.owns_below hown hb2
      clear hb2 r0 r1 C2 hC hown hwr
      cases hbit : bitAt xs q with
      | true =>
        have HP : Hid (plc (bitAt xs) (q + 1) = plc (bitAt xs) q ++ [q]) := by show _ = _; rw [plc_succ, hbit]; rfl
        have bA := below_alloc w2 (.cells #[.int .i64 (q : Int)] 3)
        have own3 := Ap.owns_below own2 bA
        have src3 : (w2.alloc (.cells #[.int .i64 (q : Int)] 3)).cell? ⟨w2.heap.size, 0, none⟩ = some (.int .i64 (q : Int)) := (Cel.new w2 [.int .i64 (q : Int)] 3).cell 0 rfl
        have hw3 := hw2.trans (bA.mono hw2.size)
        have hC3 := hC2.kept bA
        have g3 : w.heap.size + 1 ≤ (w2.alloc (.cells #[.int .i64 (q : Int)] 3)).heap.size := hC3.lt
        generalize plc (bitAt xs) q = l at *
        go_wp2_with (at_builtin; refine Ap.wpList_append_u rfl _ _ 64 rfl (w.heap.size + 1) 3 i3 (.int .i64 0) 8 Tryd.underlying64 hi3 za3 zb3 zc3 rfl (.slice vo l.length vc) l.length (lv l) rfl own3 (some ⟨w2.heap.size, 0, none⟩) 1 1 [.int .i64 (q : Int)] rfl rfl ?d1 ?d2 ?d3 ?d4 ?d5 ?_)
        case d1 => exact fun _ => ⟨_, rfl, fun j u hj => by
          match j, hj with
          | 0, hj => simp at hj; subst hj; exact src3⟩
        case d2 => intro u hu; simp at hu; subst hu; rfl
        case d3 => unfold maxLen; omega
        case d4 => omega
        case d5 => exact g3
        intro so sc w4 own4 hle4 hB4
        rw [lv_snoc] at own4
        have HO : Hid (w4.ownsRow (w.heap.size + 1) 3 1 (.slice so (l.length + 1) sc) (plc (bitAt xs) (q + 1)).length (lv (plc (bitAt xs) (q + 1)))) := by
          show w4.ownsRow _ _ _ _ _ _
          rw [HP.out, List.length_append]
          exact own4
        have hC4 := hC3.keep hB4 (Nat.lt_succ_self _)
        have hw4 := hw3.trans (hB4.mono (Nat.le_succ _))
        clear own4 own3 own2 hB4 hC3 hC2 hw3 hw2 bA src3 g3 HP
        go_wp2
        exact ⟨⟨q + 1, by omega, by go_num, HO.out, hC4, hw4⟩, by simp only [intOf]; omega⟩
      | false =>
        have HP : plc (bitAt xs) (q + 1) = plc (bitAt xs) q := by rw [plc_succ, hbit]; simp
        have HO : Hid (w2.ownsRow (w.heap.size + 1) 3 1 (.slice vo (plc (bitAt xs) q).length vc) (plc (bitAt xs) (q + 1)).length (lv (plc (bitAt xs) (q + 1)))) := by
          show w2.ownsRow _ _ _ _ _ _
          rw [HP]
          exact own2
        clear own2 HP
        go_wp2
        exact ⟨⟨q + 1, by omega, by go_num, HO.out, hC2, hw2⟩, by simp only [intOf]; omega⟩
    · obtain rfl : q = m := by omega
      have HO := Hid.mk9 (And.intro hown hwr)
      clear hown hC
      go_wp2
      go_ret
      exact ⟨_, rfl, HO.out.1, HO.out.2⟩
end Go.Proofs.YtjkihmjbhiiknaaDoor

namespace Go.Proofs.YtjkihmjbhiiknaaDoor
open Go.RowKit Num Bit
set_option linter.unusedVariables false
set_option linter.unusedSimpArgs false
set_option maxRecDepth 100000

theorem len_pos (x : Nat) (h0 : 0 < x) (h : x < 18446744073709551616) : 1 ≤ Go.bitLen x := by
  obtain ⟨p, hp, h1, _, _, _⟩ := long (x : Int) (by omega) (by omega) (by omega)
  unfold lenI at hp
  rw [Int.toNat_natCast] at hp
  omega

set_option maxHeartbeats 2000000 in
theorem f9width_c (n m : Nat) (hn : n ≤ 1048576) (hm : m ≤ n) (w : World) :
    Calls Tryd.prog 57 #[.int .i64 n, .int .i64 m] w fun e w' => e = .returned (.int .i64 (wdF n m)) ∧ Below w.heap.size w w' := by
  by_cases h0 : m = 0
  · subst h0
    rw [show wdF n 0 = 0 from rfl]
    go_enter Tryd.func57, Tryd.ntmps57
    go_wp2
    go_ret
    exact ⟨rfl, Below.refl _ _⟩
  · have m0 : ((m : Int) == 0) = false := by simp; omega
    have m1 : ¬ (m : Int) = 0 := by omega
    obtain ⟨d, hd⟩ : ∃ d, d = n / m := ⟨_, rfl⟩
    have d1 : 1 ≤ d := by rw [hd]; exact Nat.div_pos hm (by omega)
    have d2 : d ≤ 1048576 := by rw [hd]; exact Nat.le_trans (Nat.div_le_self n m) hn
    have e1 : (n : Int) / (m : Int) = (d : Int) := by rw [hd]; exact (Int.natCast_ediv n m).symm
    have e2 : (n : Int).tdiv (m : Int) = (d : Int) := by rw [Int.tdiv_eq_ediv_of_nonneg (by omega)]; exact e1
    obtain ⟨z, hz⟩ : ∃ z, Go.bitLen d = z + 1 := ⟨Go.bitLen d - 1, by have := len_pos d (by omega) (by omega); omega⟩
    have hw : wdF n m = z := by unfold wdF; rw [if_neg h0, ← hd, hz]; rfl
    have lz_ := len_le d 21 (by omega)
    rw [hw]
    have L : Hid (∀ w0, Calls Tryd.prog 70 #[.int .u64 d] w0 fun e w' => e = .returned (.int .i64 ((z : Int) + 1)) ∧ w' = w0) := fun w0 => by
      have := reflen_c (d : Int) (by omega) (by omega) w0
      unfold lenI at this
      rw [Int.toNat_natCast, hz] at this
      exact this
    rw [hz] at lz_
    clear hz hw hd
    go_enter Tryd.func57, Tryd.ntmps57
    go_wp2_with fail
    refine (L.out _).mono ?_
    rintro e w1 ⟨rfl, h1⟩
    rw [h1]
    clear h1 w1
    go_wp2
    go_ret
    exact ⟨rfl, Below.refl _ _⟩

/-- n bools. -/
def bvs (n : Nat) (f : Nat → Bool) : List Value := (List.range n).map fun j => .bool (f j)
def bls (n : Nat) (f : Nat → Bool) : List Bool := (List.range n).map f
theorem length_bvs (n : Nat) (f : Nat → Bool) : (bvs n f).length = n := by simp [bvs]
theorem bvs_get (n : Nat) (f : Nat → Bool) (i : Nat) (h : i < n) : (bvs n f)[i]? = some (.bool (f i)) := by
  unfold bvs
  rw [List.getElem?_map, List.getElem?_range h]
  rfl
theorem bvs_set (n : Nat) (f : Nat → Bool) (j : Nat) : (bvs n f).set j (.bool true) = bvs n (fun t => f t || j == t) := by
  refine List.ext_getElem? fun i => ?_
  rw [List.getElem?_set, length_bvs]
  by_cases c : i < n
  · rw [bvs_get n _ i c, bvs_get n _ i c]
    by_cases d : j = i
    · subst d; simp [c]
    · rw [if_neg d]; simp [d]
  · have e : ∀ g, (bvs n g)[i]? = none := fun g => List.getElem?_eq_none (by rw [length_bvs]; omega)
    rw [e, e]
    by_cases d : j = i
    · subst d; simp [c]
    · rw [if_neg d]
theorem bvs_congr (n : Nat) (f g : Nat → Bool) (h : ∀ i, i < n → f i = g i) : bvs n f = bvs n g := by
  unfold bvs
  exact List.map_congr_left fun i hi => by rw [h i (List.mem_range.1 hi)]
theorem bcel_made {w : World} {base g n : Nat} (h : w.ownsRow base 4 1 (.slice (some ⟨g, 0, none⟩) n n) n (madeCells #[.bool false] n).toList) : Cel w g (bvs n fun _ => false) 4 := by
  obtain ⟨_, h | ⟨g', cap, cur, e, _, hh, _, _, hs, ht⟩⟩ := h
  · simp at h
  · simp only [Value.slice.injEq, Option.some.injEq, Addr.mk.injEq] at e
    obtain ⟨⟨rfl, _, _⟩, _, rfl⟩ := e
    unfold Cel
    rw [hh]
    have e2 : (madeCells #[.bool false] n).toList = bvs n fun _ => false := by
      rw [toList_madeCells_one (.bool false) n]
      symm
      rw [List.eq_replicate_iff]
      refine ⟨length_bvs _ _, fun b hb => ?_⟩
      unfold bvs at hb
      rw [List.mem_map] at hb
      obtain ⟨_, _, rfl⟩ := hb
      rfl
    rw [e2] at ht
    have e3 : cur.toList.take (n * 1) = cur.toList := List.take_of_length_le (by simp; omega)
    rw [e3] at ht
    rw [← ht]
theorem bl_cel {w : World} {g n : Nat} {f : Nat → Bool} (h : Cel w g (bvs n f) 4) : Bl w (some ⟨g, 0, none⟩) (bls n f) := by
  intro h0
  have hl : (bls n f).length = n := by simp [bls]
  refine ⟨g, 0, rfl, h.lt, fun i hi => ?_⟩
  rw [hl] at hi
  have e : bt (bls n f) i = f i := by
    unfold bt bls
    rw [List.getD_eq_getElem?_getD, List.getElem?_map, List.getElem?_range hi]
    rfl
  rw [e, Nat.zero_add]
  exact h.cell i (bvs_get n f i hi)
end Go.Proofs.YtjkihmjbhiiknaaDoor
