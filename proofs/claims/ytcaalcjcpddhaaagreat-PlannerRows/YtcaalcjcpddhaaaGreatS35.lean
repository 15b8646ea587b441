/-
  The contract of the document's Make. The contract of List. The contracts of the document's Make, Of and List, whatever is handed in. Plain arithmetic of binomials: ways, the place of a word among those of its class, the word of a place. Nothing of the program is in here.
-/
import Derived.Test.YtcaalcjcpddhaaaGreatS34
set_option maxRecDepth 100000
set_option linter.unusedVariables false
set_option linter.unusedSimpArgs false
namespace Go.Proofs.YtcaalcjcpddhaaaGreat
open Go.RowKit Num Bit
theorem info4 : (Tryz.prog.info? 4).map (fun i => (i.zero, i.size, i.bytes)) = some (some (.bool false), 1, 1) := by kernel_rfl
def bv (l : List Bool) : List Value := l.map fun b => Value.bool b
def mb (l : List Nat) (W q : Nat) : List Bool := (List.range q).map fun j => (gt l (j / W)).testBit (j % W)
theorem length_mb (l : List Nat) (W q : Nat) : (mb l W q).length = q := by simp [mb]
theorem bt_mb (l : List Nat) (W q i : Nat) (h : i < q) : bt (mb l W q) i = (gt l (i / W)).testBit (i % W) := by
 unfold bt mb
 rw [List.getD_eq_getElem?_getD, List.getElem?_map, List.getElem?_range h]
 rfl
theorem mb_succ (l : List Nat) (W i k : Nat) (hk : k < W) : bv (mb l W (i * W + k)) ++ [.bool ((gt l i).testBit k)] = bv (mb l W (i * W + k + 1)) := by
 unfold bv mb
 rw [List.range_succ, List.map_append, List.map_append]
 have e1 : (i * W + k) / W = i := by rw [Nat.mul_comm, Nat.mul_add_div (by omega), Nat.div_eq_of_lt hk]; omega
 have e2 : (i * W + k) % W = k := by rw [Nat.mul_comm, Nat.mul_add_mod, Nat.mod_eq_of_lt hk]
 simp only [List.map_cons, List.map_nil, e1, e2]
theorem mb_row (l : List Nat) (W : Nat) : fromS (mb l W (l.length * W)) (mb l W (l.length * W)).length = mkS l W l.length := by
 unfold fromS mkS
 rw [length_mb]
 refine rowOf_congr _ _ _ fun i hi => ?_
 rw [bt_mb _ _ _ _ hi]
theorem shr_bit (y q : Nat) : (((y : Int) / 2 ^ q).tmod 2 == 1) = y.testBit q := by
 rw [bit_tmod _ _ (Int.natCast_nonneg _), bit_test, Int.toNat_natCast, Bool.eq_iff_iff, beq_iff_eq, decide_eq_true_eq]
 omega
theorem bl_owns {w : World} {base n : Nat} {v : Value} {l : List Bool} (h : w.ownsRow base 4 1 v n (bv l)) : ∃ ao cap, v = .slice ao n cap ∧ Bl w ao l ∧ l.length = n := by
 have hn : l.length = n := by have := h.1; simpa [bv] using this
 obtain ⟨h1, ⟨rfl, rfl⟩ | ⟨g, cap, cur, rfl, e2, hh, r, _, hs, ht⟩⟩ := h
 ·exact ⟨none, 0, rfl, fun h => absurd h (by omega), hn⟩
 ·refine ⟨some ⟨g, 0, none⟩, cap, rfl, fun _ => ⟨g, 0, rfl, (Array.getElem?_eq_some_iff.1 hh).1, fun i hi => ?_⟩, hn⟩
  unfold World.cell?
  rw [show w.heap[({ block := g, off := 0 + i, spot := none } : Addr).block]? = _ from hh]
  have h3 : (cur.toList.take (n * 1))[i]? = some (.bool (bt l i)) := by
   rw [ht, bv, List.getElem?_map]
   unfold bt
   rw [List.getD_eq_getElem?_getD, List.getElem?_eq_getElem hi]
   rfl
  rw [List.getElem?_take_of_lt (by omega)] at h3
  simpa using h3
theorem reffrom_n (ao : Option Addr) (l : List Bool) (n cap k : Nat) (w : World) (hn : l.length = n) (hx : Bl w ao l) (hl : n ≤ 1048576) (hk : k = (n + 63) / 64) :
  Calls Tryz.prog 37 #[.slice ao n cap] w fun e w' => ∃ g, e = .returned (.tuple #[.agg #[.int .i64 n, .slice (some ⟨g, 0, none⟩) k k], .int .i64 0]) ∧ w.heap.size ≤ g ∧ Own w' g (fromS l l.length) ∧ Below w.heap.size w w' := by
 subst hn
 exact reffrom_ok ao l cap k w hx hl hk
structure RB (w wr : World) : Prop where
 c0 : wr.cell? ⟨w.heap.size, 0, none⟩ = some (.int .i64 0)
 c1 : wr.cell? ⟨w.heap.size, 1, none⟩ = some (.int .i64 0)
 c2 : wr.cell? ⟨w.heap.size, 2, none⟩ = some (.int .i64 0)
 c3 : wr.cell? ⟨w.heap.size, 3, none⟩ = some (.slice none 0 0)
 f0 : wr.frozen? ⟨w.heap.size, 0, none⟩ = false
 f1 : wr.frozen? ⟨w.heap.size, 1, none⟩ = false
 f2 : wr.frozen? ⟨w.heap.size, 2, none⟩ = false
 f3 : wr.frozen? ⟨w.heap.size, 3, none⟩ = false
 lt : w.heap.size < wr.heap.size
 bel : Below w.heap.size w wr
theorem RB.new (w : World) : RB w (w.alloc (.cells #[.int .i64 0, .int .i64 0, .int .i64 0, .slice none 0 0] 30)) := ⟨by simp, by simp, by simp, by simp, by simp, by simp, by simp, by simp, by simp, below_alloc _ _⟩
theorem RB.keep {w w1 w2 : World} (h : RB w w1) (hb : Below (w.heap.size + 1) w1 w2) : RB w w2 :=
  ⟨(hb.cell (p := ⟨w.heap.size, 0, none⟩) (by simp)).trans h.c0, (hb.cell (p := ⟨w.heap.size, 1, none⟩) (by simp)).trans h.c1, (hb.cell (p := ⟨w.heap.size, 2, none⟩) (by simp)).trans h.c2, (hb.cell (p := ⟨w.heap.size, 3, none⟩) (by simp)).trans h.c3,
   (hb.frozen (p := ⟨w.heap.size, 0, none⟩) (by simp)).trans h.f0, (hb.frozen (p := ⟨w.heap.size, 1, none⟩) (by simp)).trans h.f1, (hb.frozen (p := ⟨w.heap.size, 2, none⟩) (by simp)).trans h.f2, (hb.frozen (p := ⟨w.heap.size, 3, none⟩) (by simp)).trans h.f3,
   Nat.lt_of_lt_of_le h.lt hb.size, h.bel.trans (hb.mono (by omega))⟩
theorem RB.put {w w1 : World} (h : RB w w1) (p q r s : Value) : Box4 ((((w1.setCell ⟨w.heap.size, 0, none⟩ p).setCell ⟨w.heap.size, 1, none⟩ q).setCell ⟨w.heap.size, 2, none⟩ r).setCell ⟨w.heap.size, 3, none⟩ s) w.heap.size p q r s :=
 ⟨by simp only [size_set]; exact h.lt, by simp [go_sem, h.c0], by simp [go_sem, h.c1], by simp [go_sem, h.c2], by simp [go_sem, h.c3]⟩
set_option maxHeartbeats 4000000 in
theorem refmake_loop (W : Nat) (al : Option Addr) (l : List Nat) (cap k : Nat) (w : World) (hx : Wd w al l) (hf : Fit l) (a1 : 1 ≤ W) (a2 : W ≤ 64) (hm : l.length * W ≤ 1048576) (hk : k = (l.length * W + 63) / 64) :
    Calls Tryz.prog 36 #[.int .i64 W, .slice al l.length cap] w fun e w' =>
      (imE (W : Int) l = 0 ∧ ∃ g, e = .returned (.tuple #[.agg #[.int .i64 l.length, .int .i64 W, .int .i64 ((l.length : Int) * W), .slice (some ⟨g, 0, none⟩) k k], .int .i64 0]) ∧ w.heap.size ≤ g ∧ Own w' g (mkS l W l.length) ∧ Below w.heap.size w w') ∨
      (imE (W : Int) l ≠ 0 ∧ e = .returned (.tuple #[.agg #[.int .i64 0, .int .i64 0, .int .i64 0, .slice none 0 0], .int .i64 2]) ∧ Below w.heap.size w w') := by
  have hll : l.length ≤ 1048576 := Nat.le_trans (Nat.le_mul_of_pos_right _ (by omega)) hm
  have hmi : (0 : Int) ≤ (l.length : Int) * (W : Int) := Int.mul_nonneg (by omega) (by omega)
  have hmi2 : (l.length : Int) * (W : Int) ≤ 1048576 := by rw [← Int.natCast_mul]; omega
  have HK : Hid (k = (l.length * W + 63) / 64) := hk
  have d1 : decide ((W : Int) < 1) = false := by simp; omega
  have d2 : decide (64 < (W : Int)) = false := by simp; omega
  have d3 : decide ((1048576 : Int) < (l.length : Int)) = false := by simp; omega
  have HI : Hid ((∀ j, j < l.length → lenI (gt l j) ≤ W) → imE (W : Int) l = 0) := fun h => by
    unfold imE; rw [if_neg]; rintro (h1 | h1 | h1 | h1) <;> first | omega | exact h1 h
  have HJ : Hid (∀ j, j < l.length → (W : Int) < lenI (gt l j) → imE (W : Int) l ≠ 0) := fun j hj h e => by
    have := (imE_zero _ l e).2.2.2 j hj; omega
  obtain ⟨i0, hi, hz0, hz1, hz2⟩ := info_parts info4
  clear hk
  go_enter Tryz.func36, Tryz.ntmps36
  go_wp2
  go_loopw [6, 7] (fun v i wr => ∃ q : Nat, q ≤ l.length ∧ i = .int .i64 q ∧ wr.ownsRow (w.heap.size + 1) 4 1 v (q * W) (bv (mb l W (q * W))) ∧ Hid (∀ j, j < q → lenI (gt l j) ≤ W) ∧ RB w wr) (fun _ i _ => l.length - (intOf i).toNat)
  case atStart => exact ⟨0, Nat.zero_le _, rfl, by rw [Nat.zero_mul]; exact World.ownsRow_nil _ _ _ _, fun j hj => absurd hj (by omega), RB.new w⟩
  case round =>
    obtain ⟨q, hq, rfl, hown, HA, rb⟩ := hrel
    by_cases hlt : q < l.length
    · obtain ⟨b, off, rfl, hb, hc⟩ := hx (by omega)
      have e1 := (rb.bel.cell (p := ⟨b, off + q, none⟩) hb).trans (hc q hlt)
      have hlt3 : (q : Int) < (l.length : Int) := by omega
      have F1 : Hid ((gt l q : Int) < 18446744073709551616) := by unfold Hid; have := hf q; omega
      by_cases hfit : lenI (gt l q) ≤ (W : Int)
      · have dF : decide (lenI (gt l q) ≤ (W : Int)) = true := by simpa using hfit
        have HF : Hid (lenI (gt l q) ≤ (W : Int)) := hfit
        clear hfit
        have hn := mul_next l.length W q hlt
        have hqm : q * W + W ≤ 1048576 := by omega
        clear hc
        go_wp2_with (go_at_call 64; refine (reffits_c _ _ ?_ ?_ _).mono ?_; (exact Int.natCast_nonneg _); exact F1.out; rintro e w' ⟨rfl, rfl⟩)
        go_loopw [6, 8] (fun v j wr => ∃ k : Nat, k ≤ W ∧ j = .int .i64 k ∧ wr.ownsRow (w.heap.size + 1) 4 1 v (q * W + k) (bv (mb l W (q * W + k))) ∧ wr.cell? ⟨b, off + q, none⟩ = some (.int .u64 (gt l q)) ∧ RB w wr) (fun _ j _ => W - (intOf j).toNat)
        case atStart => exact ⟨0, Nat.zero_le _, rfl, hown, e1, rb⟩
        case round =>
          clear hown e1 rb
          obtain ⟨k, hk, rfl, hown, e1, rb⟩ := hrel
          by_cases hk2 : k < W
          · have hk3 : (k : Int) < (W : Int) := by omega
            have hk4 : k < 64 := by omega
            have rlt := rb.lt
            have hbw : b < w.heap.size := hb
            have BT : Hid ((((gt l q : Int) / 2 ^ k).tmod 2 == 1) = (gt l q).testBit k) := shr_bit _ _
            go_wp2_with (at_builtin; refine wpList_append_own _ rfl _ _ 82 rfl (w.heap.size + 1) 4 i0 (.bool false) 1 1 Tryz.underlying82 hi hz0 hz1 hz2 rfl (by decide) _ _ _ rfl (hown.alloc _) ⟨wr.heap.size, 0, none⟩ 1 1 [.bool (((gt l q : Int) / 2 ^ k).tmod 2 == 1)] rfl rfl ?c1 ?c2 ?c3 ?c4 ?c5 ?_)
            case c1 =>
              intro j u hj
              match j, hj with
              | 0, hj => simp at hj; subst hj; simp [Addr.add]
            case c2 => intro u hu; simp at hu; subst hu; rfl
            case c3 => unfold maxLen; omega
            case c4 => omega
            case c5 => simp; omega
            intro v' w3 hown3 hgrow _
            have hrow : ∀ k, u6.ownBlock = some k → w.heap.size + 1 ≤ k := fun k hk => (hown.lt k hk).1
            have hb3 : Below (w.heap.size + 1) (wr.alloc (.cells #[.bool (((gt l q : Int) / 2 ^ k).tmod 2 == 1)] 4)) w3 := (Below.refl _ _).grown hgrow (by simp; omega) hrow
            have hb4 : Below (w.heap.size + 1) wr w3 := Below.trans ((Below.refl _ _).alloc (by omega) _) hb3
            have e3 := (hb4.cell (p := ⟨b, off + q, none⟩) (show b < w.heap.size + 1 by omega)).trans e1
            have rb3 := rb.keep hb4
            rw [BT.out, mb_succ l W q k hk2] at hown3
            have HO : Hid (w3.ownsRow (w.heap.size + 1) 4 1 v' (q * W + (k + 1)) (bv (mb l W (q * W + (k + 1))))) := hown3
            clear hgrow hb3 hb4 hown3 hrow e1 rb hown BT
            go_wp2
            first
              | exact ⟨⟨k + 1, by omega, by go_num, HO.out, e3, rb3⟩, by simp only [intOf]; omega⟩
              | (go_roundw
                 case rel => exact ⟨k + 1, by omega, by go_num, HO.out, e3, rb3⟩
                 case measure => simp only [intOf]; omega)
          · have hkW : k = W := by omega
            have HO : Hid (wr.ownsRow (w.heap.size + 1) 4 1 u6 ((q + 1) * W) (bv (mb l W ((q + 1) * W)))) := by
              rw [hkW] at hown
              rw [Nat.add_mul, Nat.one_mul]
              exact hown
            have HA2 : Hid (∀ j, j < q + 1 → lenI (gt l j) ≤ W) := fun j hj => by
              by_cases e : j = q
              · subst e; exact HF.out
              · exact HA.out j (by omega)
            clear hkW hown e1
            go_wp2
            first
              | exact ⟨⟨q + 1, by omega, by go_num, HO.out, HA2, rb⟩, by simp only [intOf]; omega⟩
              | (go_roundw
                 case rel => exact ⟨q + 1, by omega, by go_num, HO.out, HA2, rb⟩
                 case measure => simp only [intOf]; omega)
      · have dF : decide (lenI (gt l q) ≤ (W : Int)) = false := by simpa using hfit
        have HF : Hid (imE (W : Int) l ≠ 0) := HJ.out q hlt (by omega)
        clear hfit
        obtain ⟨k0, k1, k2, k3, f0, f1, f2, f3, rl, rbel⟩ := rb
        go_wp2_with (go_at_call 64; refine (reffits_c _ _ ?_ ?_ _).mono ?_; (exact Int.natCast_nonneg _); exact F1.out; rintro e w' ⟨rfl, rfl⟩)
        refine bodyPost_ret (v := .tuple #[.agg #[.int .i64 0, .int .i64 0, .int .i64 0, .slice none 0 0], .int .i64 2]) (by simp [results, Tryz.results36, go_sem, k0, k1, k2, k3]) rfl (.inr ⟨HF.out, rfl, ?_⟩)
        exact (((rbel.setCell (by simp) _).setCell (by simp) _).setCell (by simp) _).setCell (by simp) _
    · have hq2 : q = l.length := by omega
      subst hq2
      have HE : Hid (imE (W : Int) l = 0) := HI.out HA.out
      obtain ⟨bo, dap, rfl, hB, hBn⟩ := bl_owns hown
      clear hown HI HJ HA hlt
      have rlt := rb.lt
      go_wp2_with fail
      refine (reffrom_n _ _ _ _ k _ hBn hB hm HK.out).mono ?_
      rintro e w1 ⟨g, rfl, hg1, hO, hb⟩
      rw [mb_row] at hO
      replace rb := rb.keep (hb.mono (by omega))
      have hg0 : w.heap.size < g := by omega
      have HO : Hid (Own w1 g (mkS l W l.length)) := hO
      have hgl := hO.lt
      clear hb hB hBn hO
      have PB := (rb.put (.int .i64 l.length) (.int .i64 W) (.int .i64 ((l.length : Int) * W)) (.slice (some ⟨g, 0, none⟩) k k)).keep (below_alloc _ (.cells #[.int .i64 ((l.length : Int) * W), .slice (some ⟨g, 0, none⟩) k k] 24))
      have HPB : Hid (Box4 _ _ _ _ _ _) := PB
      clear PB
      obtain ⟨k0, k1, k2, k3, f0, f1, f2, f3, rl, rbel⟩ := rb
      go_wp2
      obtain ⟨_, p0, p1, p2, p3⟩ := HPB.out
      refine bodyPost_ret (v := .tuple #[.agg #[.int .i64 l.length, .int .i64 W, .int .i64 ((l.length : Int) * W), .slice (some ⟨g, 0, none⟩) k k], .int .i64 0]) (by simp [results, Tryz.results36, go_sem, p0, p1, p2, p3]) rfl (.inl ⟨HE.out, g, rfl, by omega, ?_, ?_⟩)
      · exact ((((HO.out.set_other (by simp; omega) _).set_other (by simp; omega) _).set_other (by simp; omega) _).set_other (by simp; omega) _).keep (below_alloc _ _)
      · exact ((((rbel.setCell (by simp) _).setCell (by simp) _).setCell (by simp) _).setCell (by simp) _).alloc (by simp only [size_set]; omega) _
end Go.Proofs.YtcaalcjcpddhaaaGreat
namespace Go.Proofs.YtcaalcjcpddhaaaGreat
open Go.RowKit Num Bit
def lsS (n : Nat) (f : Nat → Nat) (k : Nat) : List Nat := (List.range n).map fun i => if i < k then f i else 0
theorem gt_lsS (n : Nat) (f : Nat → Nat) (k j : Nat) : gt (lsS n f k) j = if j < n ∧ j < k then f j else 0 := by
 unfold lsS gt
 rw [List.getD_eq_getElem?_getD, List.getElem?_map]
 by_cases h : j < n
 ·rw [List.getElem?_range h]
  by_cases c : j < k <;> simp [h, c]
 ·rw [List.getElem?_eq_none (by simp; omega)]; simp [h]
theorem lsS_all (n : Nat) (f : Nat → Nat) : lsS n f n = (List.range n).map f := by
 unfold lsS
 refine List.map_congr_left fun i hi => ?_
 rw [if_pos (List.mem_range.1 hi)]
theorem numAt_lt (n : Nat) (h : n ≤ 64) (xs : List Nat) (i : Nat) : numAt n xs i < 18446744073709551616 := by
 have := numOf_lt n (fun k => bitAt xs (i * n + k))
 have h2 := Nat.pow_le_pow_right (n := 2) (j := 64) (by decide) h
 rw [show (2 : Nat) ^ 64 = 18446744073709551616 from rfl] at h2
 unfold numAt
 omega
theorem fit_map (n : Nat) (f : Nat → Nat) (h : ∀ i, f i < 18446744073709551616) : Fit ((List.range n).map f) := by
 rw [← lsS_all]
 intro i
 rw [gt_lsS]
 split
 ·exact h i
 ·decide
theorem gt_map (n : Nat) (f : Nat → Nat) (j : Nat) (h : j < n) : gt ((List.range n).map f) j = f j := by
 rw [← lsS_all, gt_lsS, if_pos ⟨h, h⟩]
end Go.Proofs.YtcaalcjcpddhaaaGreat
namespace Go.Proofs.YtcaalcjcpddhaaaGreat
open Go.RowKit Num Bit
theorem refmake_bad (W : Int) (al : Option Addr) (n cap : Nat) (w : World) (hn : n ≤ 1048576) (h : W < 1 ∨ 64 < W ∨ 1048576 < (n : Int) * W) :
  Calls Tryz.prog 36 #[.int .i64 W, .slice al n cap] w fun e w' => e = .returned (.tuple #[.agg #[.int .i64 0, .int .i64 0, .int .i64 0, .slice none 0 0], .int .i64 2]) ∧ Below w.heap.size w w' := by
 by_cases a1 : W < 1
 ·clear h
  go_enter Tryz.func36, Tryz.ntmps36
  go_wp2
  exact bodyPost_ret (v := .tuple #[.agg #[.int .i64 0, .int .i64 0, .int .i64 0, .slice none 0 0], .int .i64 2]) (by simp [results, Tryz.results36, go_sem]) rfl ⟨rfl, below_alloc w _⟩
 have d1 : decide (W < 1) = false := by simpa using a1
 by_cases a2 : 64 < W
 ·clear h
  go_enter Tryz.func36, Tryz.ntmps36
  go_wp2
  exact bodyPost_ret (v := .tuple #[.agg #[.int .i64 0, .int .i64 0, .int .i64 0, .slice none 0 0], .int .i64 2]) (by simp [results, Tryz.results36, go_sem]) rfl ⟨rfl, below_alloc w _⟩
 have d2 : decide (64 < W) = false := by simpa using a2
 have d3 : decide ((1048576 : Int) < (n : Int)) = false := by simp; omega
 have h3 : 1048576 < (n : Int) * W := by omega
 have b2 : (n : Int) * W ≤ 1048576 * 64 := Int.mul_le_mul (by omega) (by omega) (by omega) (by omega)
 clear h
 go_enter Tryz.func36, Tryz.ntmps36
 go_wp2
 exact bodyPost_ret (v := .tuple #[.agg #[.int .i64 0, .int .i64 0, .int .i64 0, .slice none 0 0], .int .i64 2]) (by simp [results, Tryz.results36, go_sem]) rfl ⟨rfl, below_alloc w _⟩
theorem refmake_c (W : Int) (al : Option Addr) (l : List Nat) (cap : Nat) (w : World) (hx : Wd w al l) (hf : Fit l) (hcap : l.length ≤ 1048576) :
  Calls Tryz.prog 36 #[.int .i64 W, .slice al l.length cap] w fun e w' => ∃ bo dap, e = .returned (.tuple #[.agg #[.int .i64 (imN W l), .int .i64 (imW W l), .int .i64 (imM W l), .slice bo (imL W l).length dap], .int .i64 (imE W l)]) ∧ OutF w w' bo (imL W l) dap := by
 have bad : imE W l ≠ 0 → ∀ w' : World, Below w.heap.size w w' → ∃ bo dap, Ending.returned (.tuple #[.agg #[.int .i64 0, .int .i64 0, .int .i64 0, .slice none 0 0], .int .i64 2]) = .returned (.tuple #[.agg #[.int .i64 (imN W l), .int .i64 (imW W l), .int .i64 (imM W l), .slice bo (imL W l).length dap], .int .i64 (imE W l)]) ∧ OutF w w' bo (imL W l) dap := by
  intro hE w' hb
  have h1 : imL W l = [] := by unfold imL; rw [if_neg hE]
  have h2 : imN W l = 0 := by unfold imN; rw [if_neg hE]
  have h3 : imW W l = 0 := by unfold imW; rw [if_neg hE]
  have h4 : imM W l = 0 := by unfold imM; rw [if_neg hE]
  rw [h1, h2, h3, h4, imE_bad W l hE]
  exact ⟨none, 0, rfl, fun h => absurd h (by simp), fun i => by unfold gt; simp, by simp, fun a ha => (by cases ha), hb⟩
 by_cases h : W < 1 ∨ 64 < W ∨ 1048576 < (l.length : Int) * W
 ·have hE : imE W l ≠ 0 := fun e => by have := imE_zero W l e; omega
  refine (refmake_bad W al l.length cap w hcap h).mono ?_
  rintro e w' ⟨rfl, hb⟩
  exact bad hE w' hb
 ·obtain ⟨m, rfl⟩ := Int.eq_ofNat_of_zero_le (show 0 ≤ W by omega)
  have hm : l.length * m ≤ 1048576 := by
   have : ((l.length * m : Nat) : Int) ≤ 1048576 := by rw [Int.natCast_mul]; omega
   omega
  refine (refmake_loop m al l cap _ w hx hf (by omega) (by omega) hm rfl).mono ?_
  rintro e w' (⟨hE, g, rfl, hg0, hO, hb⟩ | ⟨hE, rfl, hb⟩)
  ·have h1 : imL (m : Int) l = mkS l m l.length := by unfold imL; rw [if_pos hE, Int.toNat_natCast]
   have h2 : imN (m : Int) l = l.length := by unfold imN; rw [if_pos hE]
   have h3 : imW (m : Int) l = m := by unfold imW; rw [if_pos hE]
   have h4 : imM (m : Int) l = (l.length : Int) * m := by unfold imM; rw [if_pos hE]
   rw [h1, h2, h3, h4, hE]
   exact ⟨some ⟨g, 0, none⟩, _, by rw [length_mkS], hO.wd, fit_mkS _ _ _, by rw [length_mkS]; exact Nat.le_refl _, fun a ha => by cases ha; exact hg0, hb⟩
  ·exact bad hE w' hb
/-! The document's List: what is appended lies in memory of the call's own, with room behind it. -/
def OwnC (w : World) (g : Nat) (ys : List Nat) : Prop := ∃ cur, w.heap[g]? = some (.cells cur 83 (0, 0)) ∧ ys.length ≤ cur.size ∧ ∀ j, j < ys.length → cur[j]? = some (.int .u64 (gt ys j))
theorem OwnC.lt {w : World} {g : Nat} {ys : List Nat} (h : OwnC w g ys) : g < w.heap.size := by obtain ⟨cur, hh, _⟩ := h; exact (Array.getElem?_eq_some_iff.1 hh).1
theorem OwnC.cell {w : World} {g : Nat} {ys : List Nat} (h : OwnC w g ys) (j : Nat) (hj : j < ys.length) : w.cell? ⟨g, j, none⟩ = some (.int .u64 (gt ys j)) := by
 obtain ⟨cur, hh, _, hc⟩ := h
 unfold World.cell?
 rw [show w.heap[({ block := g, off := j, spot := none } : Addr).block]? = _ from hh]
 exact hc j hj
theorem wv_succ (m : Nat) (xs : List Nat) (q : Nat) : wv ((List.range q).map (numAt m xs)) ++ [.int .u64 (numAt m xs q)] = wv ((List.range (q + 1)).map (numAt m xs)) := by
 unfold wv
 rw [List.range_succ, List.map_append, List.map_append]
 rfl
theorem owns_below {w w' : World} {base e n : Nat} {v : Value} {vs : List Value} (h : w.ownsRow base e 1 v n vs) (hb : Below w.heap.size w w') : w'.ownsRow base e 1 v n vs := by
 obtain ⟨h1, h2 | ⟨g, cap, cur, e1, e2, hh, r⟩⟩ := h
 ·exact ⟨h1, .inl h2⟩
 ·exact ⟨h1, .inr ⟨g, cap, cur, e1, e2, (hb.block g ((Array.getElem?_eq_some_iff.1 hh).1)).trans hh, r⟩⟩
set_option maxHeartbeats 4000000 in
theorem reflist_ok (M : Int) (n m : Nat) (ao : Option Addr) (xs : List Nat) (cap : Nat) (w : World) (hx : Wd w ao xs) (hf : Fit xs) (hk : ichk (n : Int) (m : Int) M xs = true) :
    Calls Tryz.prog 103 #[.agg #[.int .i64 n, .int .i64 m, .int .i64 M, .slice ao xs.length cap]] w fun e w' => ∃ v, e = .returned v ∧ w'.ownsRow w.heap.size 83 1 v n (wv ((List.range n).map (numAt m xs))) ∧ Below w.heap.size w w' := by
  obtain ⟨a1, a2, a3, a4, a5, a6, a7, a8⟩ := ichk_out n m M xs hk
  have hn : n ≤ 1048576 := by omega
  have HX : Hid (∀ k : Nat, k < n → ((igX n m M xs k : Nat) : Int) = ((numAt m xs k : Nat) : Int)) := by
    intro k hlt
    unfold igX
    rw [if_pos (igE_of n m M xs k hk (by omega) (by omega)), Int.toNat_natCast, Int.toNat_natCast]
  obtain ⟨i0, hi, hz0, hz1, hz2⟩ := info_parts Tryz.info83
  clear a3 a4 a5
  go_enter Tryz.func103, Tryz.ntmps103
  go_wp2
  go_loopw [3, 4] (fun v i wr => ∃ q : Nat, q ≤ n ∧ i = .int .i64 q ∧ wr.ownsRow (w.heap.size + 1) 83 1 v q (wv ((List.range q).map (numAt m xs))) ∧ Box4 wr w.heap.size (.int .i64 n) (.int .i64 m) (.int .i64 M) (.slice ao xs.length cap) ∧ wr.cell? ⟨w.heap.size, 0, none⟩ = some (.int .i64 n) ∧ Below w.heap.size w wr) (fun _ i _ => n - (intOf i).toNat)
  case atStart => exact ⟨0, Nat.zero_le _, rfl, World.ownsRow_nil _ _ _ _, ⟨by simp, by simp, by simp, by simp, by simp⟩, by simp, below_alloc _ _⟩
  case round =>
    obtain ⟨q, hq, rfl, hown, B, r0, hwr⟩ := hrel
    have hx' := hx.keep hwr
    by_cases hlt : q < n
    · have hlt2 : (q : Int) < (n : Int) := by omega
      have R : Hid (((igX n m M xs q : Nat) : Int) = ((numAt m xs q : Nat) : Int)) := HX.out q hlt
      obtain ⟨bl, b0, b1, b2, b3⟩ := B
      have hlt5 : decide ((q : Int) < (n : Int)) = true := by simpa using hlt2
      go_wp2_with fail
      refine (irefcheck_c _ _ _ _ _ _ _ hx' hf).mono ?_
      rintro e w2 ⟨rfl, hb⟩
      have B : Box4 w2 w.heap.size _ _ _ _ := Box4.keep ⟨bl, b0, b1, b2, b3⟩ hb
      have hx2 := hx'.keep hb
      replace hown := owns_below hown hb
      replace hwr := hwr.trans (hb.mono hwr.size)
      clear hb bl b0 b1 b2 b3 hx' r0
      obtain ⟨bl, b0, b1, b2, b3⟩ := B
      go_wp2_with fail
      refine (irefget_c _ _ _ _ _ _ _ _ hx2 hf).mono ?_
      rintro e w3 ⟨rfl, hb⟩
      have B : Box4 w3 w.heap.size _ _ _ _ := Box4.keep ⟨bl, b0, b1, b2, b3⟩ hb
      replace hown := owns_below hown hb
      replace hwr := hwr.trans (hb.mono hwr.size)
      clear hb bl b0 b1 b2 b3 hx2
      have bl := B.1
      go_wp2_with (at_builtin; refine wpList_append_own _ rfl _ _ 22 rfl (w.heap.size + 1) 83 i0 (.int .u64 0) 1 8 Tryz.underlying22 hi hz0 hz1 hz2 rfl (by decide) _ _ _ rfl (hown.alloc _) ⟨w3.heap.size, 0, none⟩ 1 1 [.int .u64 (igX n m M xs q)] rfl rfl ?c1 ?c2 ?c3 ?c4 ?c5 ?_)
      case c1 =>
        intro j u hj
        match j, hj with
        | 0, hj => simp at hj; subst hj; simp [Addr.add]
      case c2 => intro u hu; simp at hu; subst hu; rfl
      case c3 => unfold maxLen; omega
      case c4 => omega
      case c5 => simp; omega
      intro v' w4 hown4 hgrow _
      have hrow : ∀ k, u3.ownBlock = some k → w.heap.size + 1 ≤ k := fun k hk => (hown.lt k hk).1
      have hb3 : Below (w.heap.size + 1) (w3.alloc (.cells #[.int .u64 (igX n m M xs q)] 83)) w4 := (Below.refl _ _).grown hgrow (by simp; omega) hrow
      have hb4 : Below (w.heap.size + 1) w3 w4 := Below.trans ((Below.refl _ _).alloc (by omega) _) hb3
      have B4 : Box4 w4 w.heap.size (.int .i64 n) (.int .i64 m) (.int .i64 M) (.slice ao xs.length cap) := ⟨Nat.lt_of_lt_of_le bl hb4.size, (hb4.cell (p := ⟨w.heap.size, 0, none⟩) (by simp)).trans B.2.1, (hb4.cell (p := ⟨w.heap.size, 1, none⟩) (by simp)).trans B.2.2.1, (hb4.cell (p := ⟨w.heap.size, 2, none⟩) (by simp)).trans B.2.2.2.1, (hb4.cell (p := ⟨w.heap.size, 3, none⟩) (by simp)).trans B.2.2.2.2⟩
      have hw4 := hwr.trans (hb4.mono (by omega))
      rw [R.out, wv_succ] at hown4
      have HO : Hid (w4.ownsRow (w.heap.size + 1) 83 1 v' (q + 1) (wv ((List.range (q + 1)).map (numAt m xs)))) := hown4
      have s0 := B4.2.1
      clear hgrow hown hb3 hb4 hown4 hrow B bl hwr R
      go_wp2
      first
        | exact ⟨⟨q + 1, by omega, by go_num, HO.out, B4, s0, hw4⟩, by simp only [intOf]; omega⟩
        | (go_roundw
           case rel => exact ⟨q + 1, by omega, by go_num, HO.out, B4, s0, hw4⟩
           case measure => simp only [intOf]; omega)
    · have hqm : q = n := by omega
      have hlt5 : decide ((q : Int) < (n : Int)) = false := by simp; omega
      have HO : Hid (wr.ownsRow w.heap.size 83 1 u3 n (wv ((List.range n).map (numAt m xs)))) := by
        rw [hqm] at hown
        obtain ⟨h1, h2 | ⟨g, c, cur, e1, e2, r⟩⟩ := hown
        · exact ⟨h1, .inl h2⟩
        · exact ⟨h1, .inr ⟨g, c, cur, e1, by omega, r⟩⟩
      clear hqm hown
      go_wp2
      go_ret
      exact ⟨u3, rfl, HO.out, hwr⟩
end Go.Proofs.YtcaalcjcpddhaaaGreat
namespace Go.Proofs.YtcaalcjcpddhaaaGreat
open Num
namespace Bn
def ch : Nat → Nat → Nat
 | _, 0 => 1
 | 0, _ + 1 => 0
 | n + 1, k + 1 => ch n k + ch n (k + 1)
theorem ch_zero (n : Nat) : ch n 0 = 1 := by cases n <;> rfl
theorem ch_succ (n k : Nat) : ch (n + 1) (k + 1) = ch n k + ch n (k + 1) := rfl
theorem ch_out : ∀ n k, n < k → ch n k = 0 := by
 intro n
 induction n with
 | zero => intro k h; match k, h with | k + 1, _ => rfl
 | succ n ih => intro k h; match k, h with | k + 1, h => rw [ch_succ, ih k (by omega), ih (k + 1) (by omega)]
theorem ch_pos : ∀ n k, k ≤ n → 0 < ch n k := by
  intro n
  induction n with
  | zero => intro k h; obtain rfl : k = 0 := by omega
            exact Nat.one_pos
  | succ n ih =>
    intro k h
    match k, h with
    | 0, _ => rw [ch_zero]; exact Nat.one_pos
    | k + 1, h => rw [ch_succ]; have := ih k (by omega); omega
theorem ch_le : ∀ n k, ch n k ≤ 2 ^ n := by
 intro n
 induction n with
 | zero => intro k; match k with | 0 => exact Nat.le_refl _ | k + 1 => exact Nat.zero_le _
 | succ n ih =>
  intro k
  match k with
  | 0 => rw [ch_zero]; exact Nat.one_le_two_pow
  | k + 1 => rw [ch_succ, Nat.pow_succ]; have := ih k; have := ih (k + 1); omega
theorem ch_mono (n k : Nat) : ch n k ≤ ch (n + 1) k := by
 match k with
 | 0 => rw [ch_zero, ch_zero]; exact Nat.le_refl _
 | k + 1 => rw [ch_succ]; omega
def sumTo (n : Nat) : Nat → Nat
 | 0 => 0
 | k + 1 => sumTo n k + ch n k
def off (x : Nat) : Nat → Nat
 | 0 => 0
 | n + 1 => off x n + if x / 2 ^ n % 2 = 1 then ch n (cnt x (n + 1)) else 0
theorem off_lt (x : Nat) : ∀ n, off x n < ch n (cnt x n) := by
 intro n
 induction n with
 | zero => exact Nat.one_pos
 | succ n ih =>
  rw [off]
  by_cases hb : x / 2 ^ n % 2 = 1
  ·rw [if_pos hb]
   have e : cnt x (n + 1) = cnt x n + 1 := by rw [cnt, hb]
   rw [e, ch_succ]
   omega
  ·rw [if_neg hb]
   have e : cnt x (n + 1) = cnt x n := by rw [cnt]; omega
   rw [e]
   have := ch_mono n (cnt x n)
   omega
def blk : Nat → Nat → Nat → Nat
 | 0, _, _ => 0
 | i + 1, k, o => if k = 0 then 0 else if ch i k ≤ o then 2 ^ i + blk i (k - 1) (o - ch i k) else blk i k o
theorem blk_zero (n o : Nat) : blk n 0 o = 0 := by
 cases n with
 | zero => rfl
 | succ n => rw [blk, if_pos rfl]
theorem blk_hi (i k o : Nat) (hk : k ≠ 0) (h : ch i k ≤ o) : blk (i + 1) k o = 2 ^ i + blk i (k - 1) (o - ch i k) := by rw [blk, if_neg hk, if_pos h]
theorem blk_lo (i k o : Nat) (hk : k ≠ 0) (h : ¬ ch i k ≤ o) : blk (i + 1) k o = blk i k o := by rw [blk, if_neg hk, if_neg h]
theorem blk_lt : ∀ n k o, blk n k o < 2 ^ n := by
 intro n
 induction n with
 | zero => intro k o; exact Nat.one_pos
 | succ n ih =>
  intro k o
  have p : 2 ^ (n + 1) = 2 ^ n + 2 ^ n := by rw [Nat.pow_succ]; omega
  by_cases hk : k = 0
  ·subst hk; rw [blk_zero]; exact Nat.two_pow_pos _
  ·by_cases h : ch n k ≤ o
   ·rw [blk_hi n k o hk h]; have := ih (k - 1) (o - ch n k); omega
   ·rw [blk_lo n k o hk h]; have := ih k o; omega
theorem mod_bit (x n : Nat) : x % 2 ^ (n + 1) = x % 2 ^ n + 2 ^ n * (x / 2 ^ n % 2) := by rw [Nat.mod_pow_succ]
theorem blk_off (x : Nat) : ∀ n, blk n (cnt x n) (off x n) = x % 2 ^ n := by
 intro n
 induction n with
 | zero => simp [blk, Nat.mod_one]
 | succ n ih =>
  rw [mod_bit]
  by_cases hb : x / 2 ^ n % 2 = 1
  ·have e : cnt x (n + 1) = cnt x n + 1 := by rw [cnt, hb]
   have eo : off x (n + 1) = off x n + ch n (cnt x n + 1) := by rw [off, if_pos hb, e]
   rw [e, eo, blk_hi _ _ _ (by omega) (by omega), hb, Nat.add_sub_cancel, Nat.add_sub_cancel, ih]
   omega
  ·have e : cnt x (n + 1) = cnt x n := by rw [cnt]; omega
   have eo : off x (n + 1) = off x n := by rw [off, if_neg hb, Nat.add_zero]
   have h0 : x / 2 ^ n % 2 = 0 := by omega
   rw [e, eo, h0, Nat.mul_zero]
   show _ = x % 2 ^ n
   by_cases hk : cnt x n = 0
   ·rw [← ih, hk, blk_zero, blk_zero]
   ·have := off_lt x n
    rw [blk_lo _ _ _ hk (by omega), ih]
theorem ch62 (n k : Nat) (h : n ≤ 62) : ch n k ≤ 4611686018427387904 := by
 have := ch_le n k
 have : 2 ^ n ≤ 2 ^ 62 := Nat.pow_le_pow_right (by decide) h
 omega
def chN (n k : Int) : Nat := if n < 0 ∨ 62 < n ∨ k < 0 ∨ n < k then 0 else ch n.toNat k.toNat
def wdN (n k : Int) : Nat := if chN n k = 0 then 0 else Go.bitLen (chN n k - 1)
def ofK (x : Nat) (n : Int) : Nat := if n < 0 ∨ 62 < n then 0 else cnt x n.toNat
def ofO (x : Nat) (n : Int) : Nat := if n < 0 ∨ 62 < n then 0 else off x n.toNat
def bkX (n k : Int) (o : Nat) : Nat := if chN n k ≤ o then 0 else blk n.toNat k.toNat o
def bkB (n k : Int) (o : Nat) : Bool := decide (o < chN n k)
theorem chN_in (n k : Nat) (h : n ≤ 62) : chN n k = ch n k := by
 unfold chN
 by_cases c : n < k
 ·rw [if_pos (by omega), ch_out n k c]
 ·rw [if_neg (by omega), Int.toNat_natCast, Int.toNat_natCast]
theorem chN_le (n k : Int) : chN n k ≤ 4611686018427387904 := by
 unfold chN
 split
 ·omega
 ·exact ch62 _ _ (by omega)
theorem wd_le (n k : Int) : wdN n k ≤ 62 := by
 unfold wdN
 split
 ·omega
 ·have := chN_le n k
  exact len_le _ 62 (by omega)
theorem lt_len (x : Nat) (h : x < 18446744073709551616) : x < 2 ^ Go.bitLen x := by
 by_cases h0 : x = 0
 ·subst h0; exact Nat.two_pow_pos _
 ·obtain ⟨p, hp, h1, _, hd, _⟩ := long (x : Int) (by omega) (by omega) (by omega)
  unfold lenI at hp
  rw [Int.toNat_natCast] at hp
  have hp2 : Go.bitLen x = p := by omega
  rw [hp2]
  have e : x / 2 ^ (p - 1) = 1 := by
   rw [shr_nat _ _ (by omega), Int.toNat_natCast] at hd
   omega
  have e2 : 2 ^ p = 2 ^ (p - 1) * 2 := by
   obtain ⟨m, rfl⟩ : ∃ m, p = m + 1 := ⟨p - 1, by omega⟩
   rw [Nat.add_sub_cancel, Nat.pow_succ]
  have q := Nat.two_pow_pos (p - 1)
  have := Nat.lt_mul_div_succ x q
  rw [e] at this
  omega
end Bn
end Go.Proofs.YtcaalcjcpddhaaaGreat
