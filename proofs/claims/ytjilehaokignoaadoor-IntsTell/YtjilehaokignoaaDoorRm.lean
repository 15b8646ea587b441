/-
  The contract of the document's Make.
-/
import Derived.Test.YtjilehaokignoaaDoorRf
import Derived.Test.YtjilehaokignoaaDoorRefMake
import Derived.Test.YtjilehaokignoaaDoorMk
namespace Go.Proofs.YtjilehaokignoaaDoor
open Go.RowKit Num Bit
set_option maxRecDepth 100000
set_option linter.unusedVariables false

theorem info4 : (Tryd.prog.info? 4).map (fun i => (i.zero, i.size, i.bytes)) = some (some (.bool false), 1, 1) := by kernel_rfl

def bv (l : List Bool) : List Value := l.map fun b => Value.bool b
/-- The bits of numbers of that width, the first q of them. -/
def mb (l : List Nat) (W q : Nat) : List Bool := (List.range q).map fun j => (gt l (j / W)).testBit (j % W)
theorem length_mb (l : List Nat) (W q : Nat) : (mb l W q).length = q := by simp [mb]
theorem bt_mb (l : List Nat) (W q i : Nat) (h : i < q) : bt (mb l W q) i = (gt l (i / W)).testBit (i % W) := by
  unfold bt mb
  rw [List.getD_eq_getElem?_getD, List.getElem?_map, List.getElem?_range h]
  rfl
theorem mb_succ (l : List Nat) (W i k : Nat) (hk : k < W) : bv (mb l W (i * W + k)) ++ [.bool ((gt l i).testBit k)] = bv (mb l W (i * W + k + 1)) := by
  unfold bv mb
  rw [List.range_succ, List.map_append, List.map_append]
  have e1 : (i * W + k) / W = i := by rw [Nat.mul_comm, Nat.mul_add_div (by omega), Nat.div_eq_of_lt hk]; omega
  have e2 : (i * W + k) % W = k := by rw [Nat.mul_comm, Nat.mul_add_mod, Nat.mod_eq_of_lt hk]
  simp only [List.map_cons, List.map_nil, e1, e2]
theorem mb_row (l : List Nat) (W : Nat) : fromS (mb l W (l.length * W)) (mb l W (l.length * W)).length = mkS l W l.length := by
  unfold fromS mkS
  rw [length_mb]
  refine rowOf_congr _ _ _ fun i hi => ?_
  rw [bt_mb _ _ _ _ hi]
theorem shr_bit (y q : Nat) : (((y : Int) / 2 ^ q).tmod 2 == 1) = y.testBit q := by
  rw [bit_tmod _ _ (Int.natCast_nonneg _), bit_test, Int.toNat_natCast, Bool.eq_iff_iff, beq_iff_eq, decide_eq_true_eq]
  omega
theorem bl_owns {w : World} {base n : Nat} {v : Value} {l : List Bool} (h : w.ownsRow base 4 1 v n (bv l)) : ∃ ao cap, v = .slice ao n cap ∧ Bl w ao l ∧ l.length = n := by
  have hn : l.length = n := by have := h.1; simpa [bv] using this
  obtain ⟨h1, ⟨rfl, rfl⟩ | ⟨g, cap, cur, rfl, e2, hh, r, _, hs, ht⟩⟩ := h
  · exact ⟨none, 0, rfl, fun h => absurd h (by omega), hn⟩
  · refine ⟨some ⟨g, 0, none⟩, cap, rfl, fun _ => ⟨g, 0, rfl, (Array.getElem?_eq_some_iff.1 hh).1, fun i hi => ?_⟩, hn⟩
    unfold World.cell?
    rw [show w.heap[({ block := g, off := 0 + i, spot := none } : Addr).block]? = _ from hh]
    have h3 : (cur.toList.take (n * 1))[i]? = some (.bool (bt l i)) := by
      rw [ht, bv, List.getElem?_map]
      unfold bt
      rw [List.getD_eq_getElem?_getD, List.getElem?_eq_getElem hi]
      rfl
    rw [List.getElem?_take_of_lt (by omega)] at h3
    simpa using h3

theorem reffrom_n (ao : Option Addr) (l : List Bool) (n cap k : Nat) (w : World) (hn : l.length = n) (hx : Bl w ao l) (hl : n ≤ 1048576) (hk : k = (n + 63) / 64) :
    Calls Tryd.prog 36 #[.slice ao n cap] w fun e w' => ∃ g, e = .returned (.tuple #[.agg #[.int .i64 n, .slice (some ⟨g, 0, none⟩) k k], .int .i64 0]) ∧ w.heap.size ≤ g ∧ Own w' g (fromS l l.length) ∧ Below w.heap.size w w' := by
  subst hn
  exact reffrom_ok ao l cap k w hx hl hk

/-- What stands while the bits are gathered: the result's box, and that nothing old has turned. -/
structure RB (w wr : World) : Prop where
  c0 : wr.cell? ⟨w.heap.size, 0, none⟩ = some (.int .i64 0)
  c1 : wr.cell? ⟨w.heap.size, 1, none⟩ = some (.int .i64 0)
  c2 : wr.cell? ⟨w.heap.size, 2, none⟩ = some (.int .i64 0)
  c3 : wr.cell? ⟨w.heap.size, 3, none⟩ = some (.slice none 0 0)
  f0 : wr.frozen? ⟨w.heap.size, 0, none⟩ = false
  f1 : wr.frozen? ⟨w.heap.size, 1, none⟩ = false
  f2 : wr.frozen? ⟨w.heap.size, 2, none⟩ = false
  f3 : wr.frozen? ⟨w.heap.size, 3, none⟩ = false
  lt : w.heap.size < wr.heap.size
  bel : Below w.heap.size w wr
theorem RB.new (w : World) : RB w (w.alloc (.cells #[.int .i64 0, .int .i64 0, .int .i64 0, .slice none 0 0] 27)) := ⟨by simp, by simp, by simp, by simp, by simp, by simp, by simp, by simp, by simp, below_alloc _ _⟩
theorem RB.keep {w w1 w2 : World} (h : RB w w1) (hb : Below (w.heap.size + 1) w1 w2) : RB w w2 :=
  ⟨(hb.cell (p := ⟨w.heap.size, 0, none⟩) (by simp)).trans h.c0, (hb.cell (p := ⟨w.heap.size, 1, none⟩) (by simp)).trans h.c1, (hb.cell (p := ⟨w.heap.size, 2, none⟩) (by simp)).trans h.c2, (hb.cell (p := ⟨w.heap.size, 3, none⟩) (by simp)).trans h.c3,
   (hb.frozen (p := ⟨w.heap.size, 0, none⟩) (by simp)).trans h.f0, (hb.frozen (p := ⟨w.heap.size, 1, none⟩) (by simp)).trans h.f1, (hb.frozen (p := ⟨w.heap.size, 2, none⟩) (by simp)).trans h.f2, (hb.frozen (p := ⟨w.heap.size, 3, none⟩) (by simp)).trans h.f3,
   Nat.lt_of_lt_of_le h.lt hb.size, h.bel.trans (hb.mono (by omega))⟩

theorem RB.put {w w1 : World} (h : RB w w1) (p q r s : Value) : Box4 ((((w1.setCell ⟨w.heap.size, 0, none⟩ p).setCell ⟨w.heap.size, 1, none⟩ q).setCell ⟨w.heap.size, 2, none⟩ r).setCell ⟨w.heap.size, 3, none⟩ s) w.heap.size p q r s :=
  ⟨by simp only [size_set]; exact h.lt, by simp [go_sem, h.c0], by simp [go_sem, h.c1], by simp [go_sem, h.c2], by simp [go_sem, h.c3]⟩

set_option maxHeartbeats 4000000 in
theorem refmake_loop (W : Nat) (al : Option Addr) (l : List Nat) (cap k : Nat) (w : World) (hx : Wd w al l) (hf : Fit l) (a1 : 1 ≤ W) (a2 : W ≤ 64) (hm : l.length * W ≤ 1048576) (hk : k = (l.length * W + 63) / 64) :
    Calls Tryd.prog 17 #[.int .i64 W, .slice al l.length cap] w fun e w' =>
      (imE (W : Int) l = 0 ∧ ∃ g, e = .returned (.tuple #[.agg #[.int .i64 l.length, .int .i64 W, .int .i64 ((l.length : Int) * W), .slice (some ⟨g, 0, none⟩) k k], .int .i64 0]) ∧ w.heap.size ≤ g ∧ Own w' g (mkS l W l.length) ∧ Below w.heap.size w w') ∨
      (imE (W : Int) l ≠ 0 ∧ e = .returned (.tuple #[.agg #[.int .i64 0, .int .i64 0, .int .i64 0, .slice none 0 0], .int .i64 2]) ∧ Below w.heap.size w w') := by
  have hll : l.length ≤ 1048576 := Nat.le_trans (Nat.le_mul_of_pos_right _ (by omega)) hm
  have hmi : (0 : Int) ≤ (l.length : Int) * (W : Int) := Int.mul_nonneg (by omega) (by omega)
  have hmi2 : (l.length : Int) * (W : Int) ≤ 1048576 := by rw [← Int.natCast_mul]; omega
  have HK : Hid (k = (l.length * W + 63) / 64) := hk
  have d1 : decide ((W : Int) < 1) = false := by simp; omega
  have d2 : decide (64 < (W : Int)) = false := by simp; omega
  have d3 : decide ((1048576 : Int) < (l.length : Int)) = false := by simp; omega
  have HI : Hid ((∀ j, j < l.length → lenI (gt l j) ≤ W) → imE (W : Int) l = 0) := fun h => by
    unfold imE; rw [if_neg]; rintro (h1 | h1 | h1 | h1) <;> first | omega | exact h1 h
  have HJ : Hid (∀ j, j < l.length → (W : Int) < lenI (gt l j) → imE (W : Int) l ≠ 0) := fun j hj h e => by
    have := (imE_zero _ l e).2.2.2 j hj; omega
  obtain ⟨i0, hi, hz0, hz1, hz2⟩ := info_parts info4
  clear hk
  go_enter Tryd.func17, Tryd.ntmps17
  go_wp2
  go_loopw [6, 7] (fun v i wr => ∃ q : Nat, q ≤ l.length ∧ i = .int .i64 q ∧ wr.ownsRow (w.heap.size + 1) 4 1 v (q * W) (bv (mb l W (q * W))) ∧ Hid (∀ j, j < q → lenI (gt l j) ≤ W) ∧ RB w wr) (fun _ i _ => l.length - (intOf i).toNat)
  case atStart => exact ⟨0, Nat.zero_le _, rfl, by rw [Nat.zero_mul]; exact World.ownsRow_nil _ _ _ _, fun j hj => absurd hj (by omega), RB.new w⟩
  case round =>
    obtain ⟨q, hq, rfl, hown, HA, rb⟩ := hrel
    by_cases hlt : q < l.length
    · obtain ⟨b, off, rfl, hb, hc⟩ := hx (by omega)
      have e1 := (rb.bel.cell (p := ⟨b, off + q, none⟩) hb).trans (hc q hlt)
      have hlt3 : (q : Int) < (l.length : Int) := by omega
      have F1 : Hid ((gt l q : Int) < 18446744073709551616) := by unfold Hid; have := hf q; omega
      by_cases hfit : lenI (gt l q) ≤ (W : Int)
      · have dF : decide (lenI (gt l q) ≤ (W : Int)) = true := by simpa using hfit
        have HF : Hid (lenI (gt l q) ≤ (W : Int)) := hfit
        clear hfit
        have hn := mul_next l.length W q hlt
        have hqm : q * W + W ≤ 1048576 := by omega
        clear hc
        go_wp2_with (go_at_call 35; refine (reffits_c _ _ ?_ ?_ _).mono ?_; (exact Int.natCast_nonneg _); exact F1.out; rintro e w' ⟨rfl, rfl⟩)
        go_loopw [6, 8] (fun v j wr => ∃ k : Nat, k ≤ W ∧ j = .int .i64 k ∧ wr.ownsRow (w.heap.size + 1) 4 1 v (q * W + k) (bv (mb l W (q * W + k))) ∧ wr.cell? ⟨b, off + q, none⟩ = some (.int .u64 (gt l q)) ∧ RB w wr) (fun _ j _ => W - (intOf j).toNat)
        case atStart => exact ⟨0, Nat.zero_le _, rfl, hown, e1, rb⟩
        case round =>
          clear hown e1 rb
          obtain ⟨k, hk, rfl, hown, e1, rb⟩ := hrel
          by_cases hk2 : k < W
          · have hk3 : (k : Int) < (W : Int) := by omega
            have hk4 : k < 64 := by omega
            have rlt := rb.lt
            have hbw : b < w.heap.size := hb
            have BT : Hid ((((gt l q : Int) / 2 ^ k).tmod 2 == 1) = (gt l q).testBit k) := shr_bit _ _
            go_wp2_with (at_builtin; refine wpList_append_own _ rfl _ _ 67 rfl (w.heap.size + 1) 4 i0 (.bool false) 1 1 Tryd.underlying67 hi hz0 hz1 hz2 rfl (by decide) _ _ _ rfl (hown.alloc _) ⟨wr.heap.size, 0, none⟩ 1 1 [.bool (((gt l q : Int) / 2 ^ k).tmod 2 == 1)] rfl rfl ?c1 ?c2 ?c3 ?c4 ?c5 ?_)
            case c1 =>
              intro j u hj
              match j, hj with
              | 0, hj => simp at hj; subst hj; simp [Addr.add]
            case c2 => intro u hu; simp at hu; subst hu; rfl
            case c3 => unfold maxLen; omega
            case c4 => omega
            case c5 => simp; omega
            intro v' w3 hown3 hgrow _
            have hrow : ∀ k, u6.ownBlock = some k → w.heap.size + 1 ≤ k := fun k hk => (hown.lt k hk).1
            have hb3 : Below (w.heap.size + 1) (wr.alloc (.cells #[.bool (((gt l q : Int) / 2 ^ k).tmod 2 == 1)] 4)) w3 := (Below.refl _ _).grown hgrow (by simp; omega) hrow
            have hb4 : Below (w.heap.size + 1) wr w3 := Below.trans ((Below.refl _ _).alloc (by omega) _) hb3
            have e3 := (hb4.cell (p := ⟨b, off + q, none⟩) (show b < w.heap.size + 1 by omega)).trans e1
            have rb3 := rb.keep hb4
            rw [BT.out, mb_succ l W q k hk2] at hown3
            have HO : Hid (w3.ownsRow (w.heap.size + 1) 4 1 v' (q * W + (k + 1)) (bv (mb l W (q * W + (k + 1))))) := hown3
            clear hgrow hb3 hb4 hown3 hrow e1 rb hown BT
            go_wp2
            first
              | exact ⟨⟨k + 1, by omega, by go_num, HO.out, e3, rb3⟩, by simp only [intOf]; omega⟩
              | (go_roundw
                 case rel => exact ⟨k + 1, by omega, by go_num, HO.out, e3, rb3⟩
                 case measure => simp only [intOf]; omega)
          · have hkW : k = W := by omega
            have HO : Hid (wr.ownsRow (w.heap.size + 1) 4 1 u6 ((q + 1) * W) (bv (mb l W ((q + 1) * W)))) := by
              rw [hkW] at hown
              rw [Nat.add_mul, Nat.one_mul]
              exact hown
            have HA2 : Hid (∀ j, j < q + 1 → lenI (gt l j) ≤ W) := fun j hj => by
              by_cases e : j = q
              · subst e; exact HF.out
              · exact HA.out j (by omega)
            clear hkW hown e1
            go_wp2
            first
              | exact ⟨⟨q + 1, by omega, by go_num, HO.out, HA2, rb⟩, by simp only [intOf]; omega⟩
              | (go_roundw
                 case rel => exact ⟨q + 1, by omega, by go_num, HO.out, HA2, rb⟩
                 case measure => simp only [intOf]; omega)
      · have dF : decide (lenI (gt l q) ≤ (W : Int)) = false := by simpa using hfit
        have HF : Hid (imE (W : Int) l ≠ 0) := HJ.out q hlt (by omega)
        clear hfit
        obtain ⟨k0, k1, k2, k3, f0, f1, f2, f3, rl, rbel⟩ := rb
        go_wp2_with (go_at_call 35; refine (reffits_c _ _ ?_ ?_ _).mono ?_; (exact Int.natCast_nonneg _); exact F1.out; rintro e w' ⟨rfl, rfl⟩)
        refine bodyPost_ret (v := .tuple #[.agg #[.int .i64 0, .int .i64 0, .int .i64 0, .slice none 0 0], .int .i64 2]) (by simp [results, Tryd.results17, go_sem, k0, k1, k2, k3]) rfl (.inr ⟨HF.out, rfl, ?_⟩)
        exact (((rbel.setCell (by simp) _).setCell (by simp) _).setCell (by simp) _).setCell (by simp) _
    · have hq2 : q = l.length := by omega
      subst hq2
      have HE : Hid (imE (W : Int) l = 0) := HI.out HA.out
      obtain ⟨bo, dap, rfl, hB, hBn⟩ := bl_owns hown
      clear hown HI HJ HA hlt
      have rlt := rb.lt
      go_wp2_with fail
      refine (reffrom_n _ _ _ _ k _ hBn hB hm HK.out).mono ?_
      rintro e w1 ⟨g, rfl, hg1, hO, hb⟩
      rw [mb_row] at hO
      replace rb := rb.keep (hb.mono (by omega))
      have hg0 : w.heap.size < g := by omega
      have HO : Hid (Own w1 g (mkS l W l.length)) := hO
      have hgl := hO.lt
      clear hb hB hBn hO
      have PB := (rb.put (.int .i64 l.length) (.int .i64 W) (.int .i64 ((l.length : Int) * W)) (.slice (some ⟨g, 0, none⟩) k k)).keep (below_alloc _ (.cells #[.int .i64 ((l.length : Int) * W), .slice (some ⟨g, 0, none⟩) k k] 25))
      have HPB : Hid (Box4 _ _ _ _ _ _) := PB
      clear PB
      obtain ⟨k0, k1, k2, k3, f0, f1, f2, f3, rl, rbel⟩ := rb
      go_wp2
      obtain ⟨_, p0, p1, p2, p3⟩ := HPB.out
      refine bodyPost_ret (v := .tuple #[.agg #[.int .i64 l.length, .int .i64 W, .int .i64 ((l.length : Int) * W), .slice (some ⟨g, 0, none⟩) k k], .int .i64 0]) (by simp [results, Tryd.results17, go_sem, p0, p1, p2, p3]) rfl (.inl ⟨HE.out, g, rfl, by omega, ?_, ?_⟩)
      · exact ((((HO.out.set_other (by simp; omega) _).set_other (by simp; omega) _).set_other (by simp; omega) _).set_other (by simp; omega) _).keep (below_alloc _ _)
      · exact ((((rbel.setCell (by simp) _).setCell (by simp) _).setCell (by simp) _).setCell (by simp) _).alloc (by simp only [size_set]; omega) _
end Go.Proofs.YtjilehaokignoaaDoor
