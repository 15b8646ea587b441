/-
  An array of 257 numbers by value; the contract of the program's countsOf.
-/
import Derived.Test.YtojjinjgmijgcaaBx0
import Derived.Test.YtojjinjgmijgcaaTe
import Derived.Test.YtojjinjgmijgcaaRg
import Derived.Deep.WholeRow
import Derived.Laws.ResultCell
namespace Go.Proofs.Ytojjinjgmijgcaa
open Go.RowKit
set_option linter.unusedVariables false
set_option linter.unusedSimpArgs false
set_option maxRecDepth 100000

theorem alloc_z {ops : Array Oper} {rest : List Oper} {d : Option Tmp} {ty T : TypeId} {ps : String} {af : Array Edge} {a : Act} {w : World} {Q : Exit → Act → World → Prop} (z : List Value)
    (hz : (Try.prog.info? T).map (fun i => (i.zero, i.size)) = some (some (.agg z.toArray), z.length))
    (h : ∀ w1, Cel w1 w.heap.size z T → Below w.heap.size w w1 → w.heap.size < w1.heap.size → wpList Try.prog ops Q rest (a.put d (.pointer (some ⟨w.heap.size, 0, none⟩))) w1) :
    wpList Try.prog ops Q (⟨d, .alloc T, ty, ps, af, none⟩ :: rest) a w := by
  refine wpList_plain rfl fun K hK => ?_
  unfold Oper.wp execOp
  have zz := (zero_of_info hz).1
  have nw := h _ (Cel.new w _ _) (below_alloc w _) (by simp)
  refine cast ?_ (hK _ _ nw)
  simp [Instr.alloc, Sem.run_bind, zz, newVar, Value.cells, go_sem]
theorem info_cn : (Try.prog.info? 46).map (fun i => (i.zero, i.size)) = some (some (.agg (iv (List.replicate 257 0)).toArray), (iv (List.replicate 257 0)).length) := by kernel_rfl
theorem size_cn (l : List Nat) (h : l.length = 257) : (Try.prog.info? 46).map (·.size) = some (iv l).toArray.size := by
  rw [(zero_of_info info_cn).2, List.size_toArray, length_iv, length_iv, h]
  rfl
theorem one_iv (l : List Nat) : (iv l).toArray.all (·.oneCell') = true := by
  rw [List.all_toArray, List.all_eq_true]
  intro v hv
  obtain ⟨a, _, rfl⟩ := List.mem_map.1 hv
  rfl
theorem store_cn {ops : Array Oper} {rest : List Oper} {d : Option Tmp} {ty : TypeId} {ps : String} {af : Array Edge} {a : Act} {w : World} {Q : Exit → Act → World → Prop} {x y : Operand}
    (g : Nat) (old ys : List Nat) (hx : a.eval x = .pointer (some ⟨g, 0, none⟩)) (hy : a.eval y = .agg (iv ys).toArray) (hc : Cel w g (iv old) 46) (lo : old.length = 257) (ly : ys.length = 257)
    (h : ∀ w1, Cel w1 g (iv ys) 46 → Only g w w1 → wpList Try.prog ops Q rest (a.put d undef) w1) :
    wpList Try.prog ops Q (⟨d, .store 46 x y, ty, ps, af, none⟩ :: rest) a w :=
  wpList_store_row rfl _ x y rfl g _ hx hy _ _ hc (size_cn ys ly) (by simp [length_iv, lo, ly]) (one_iv ys) (h _ (setRow_heap w g _ _ _ _ hc) (Only.row g w _))
theorem load_cn {ops : Array Oper} {rest : List Oper} {d : Option Tmp} {ty : TypeId} {ps : String} {af : Array Edge} {a : Act} {w : World} {Q : Exit → Act → World → Prop} {x : Operand}
    (g : Nat) (ys : List Nat) (hx : a.eval x = .pointer (some ⟨g, 0, none⟩)) (hc : Cel w g (iv ys) 46) (ly : ys.length = 257)
    (h : wpList Try.prog ops Q rest (a.put d (.agg (iv ys).toArray)) w) :
    wpList Try.prog ops Q (⟨d, .load 46 x, ty, ps, af, none⟩ :: rest) a w :=
  wpList_load_row rfl _ x rfl g hx _ _ _ _ hc Try.underlying46 rfl (size_cn ys ly) h
theorem result_cn {fn : Func} {p : Tmp} {w : World} {tmps : Array Value} (h : fn.results = #[.cell p 46]) (g : Nat) (ys : List Nat) (ly : ys.length = 257) (hp : tmps.getD p undef = .pointer (some ⟨g, 0, none⟩)) (hc : Cel w g (iv ys) 46) :
    (results fn tmps).run Try.prog w = .ok (.agg (iv ys).toArray) w := by
  have hp' : tmps[p]?.getD undef = .pointer (some ⟨g, 0, none⟩) := by simpa using hp
  have hl := run_loadVar_row (P := Try.prog) w g 46 46 (iv ys).toArray (0, 0) _ hc Try.underlying46 rfl (size_cn ys ly)
  simp [results, h, hp', asAddr, hl]

namespace Su
/-- How often each symbol stands among the first, one place on. -/
def cno (t : List Nat) (j q : Nat) : Nat := if j = 0 then 1 else ct (fun i => decide (sg t i + 1 = j)) q
def Ca (t : List Nat) (q : Nat) : List Nat := (List.range 257).map fun j => cno t j q
def Cb (t : List Nat) (x : Nat) : List Nat := (List.range 257).map fun j => if j ≤ x then first t j else cno t j t.length
theorem length_Ca (t : List Nat) (q : Nat) : (Ca t q).length = 257 := by simp [Ca]
theorem length_Cb (t : List Nat) (q : Nat) : (Cb t q).length = 257 := by simp [Cb]
theorem gt_Ca (t : List Nat) (q j : Nat) (h : j < 257) : gt (Ca t q) j = cno t j q := gt_map _ _ _ h
theorem gt_Cb (t : List Nat) (x j : Nat) (h : j < 257) : gt (Cb t x) j = if j ≤ x then first t j else cno t j t.length := gt_map _ _ _ h
theorem cno_le (t : List Nat) (j q : Nat) : cno t j q ≤ q + 1 := by
  unfold cno
  split
  · omega
  · have := ct_le (fun i => decide (sg t i + 1 = j)) q
    omega
theorem ca_zero (t : List Nat) : (List.replicate 257 0).set 0 1 = Ca t 0 := by
  refine list_ext (by rw [length_Ca, List.length_set, List.length_replicate]) fun i hi => ?_
  rw [List.length_set, List.length_replicate] at hi
  rw [gt_set _ _ _ _ (by rw [List.length_replicate]; omega), gt_Ca _ _ _ hi]
  unfold cno
  by_cases e : i = 0
  · rw [if_pos e.symm, if_pos e]
  · rw [if_neg (fun h => e h.symm), if_neg e]
    unfold gt
    rw [List.getD_eq_getElem?_getD, List.getElem?_replicate, if_pos hi]
    rfl
theorem ca_step (t : List Nat) (q : Nat) (h : gt t q < 256) : (Ca t q).set (gt t q + 1) (cno t (gt t q + 1) q + 1) = Ca t (q + 1) := by
  refine list_ext (by rw [length_Ca, List.length_set, length_Ca]) fun i hi => ?_
  rw [List.length_set, length_Ca] at hi
  rw [gt_set _ _ _ _ (by rw [length_Ca]; omega), gt_Ca _ _ _ hi, gt_Ca _ _ _ hi]
  unfold cno
  have hs : sg t q = gt t q := rfl
  by_cases e : gt t q + 1 = i
  · subst e
    rw [if_pos rfl, if_neg (by omega), if_neg (by omega), ct, hs, decide_eq_true rfl]
    rfl
  · rw [if_neg e]
    split
    · rfl
    · rw [ct, hs, decide_eq_false e]
      rfl
theorem cb_zero (t : List Nat) : Ca t t.length = Cb t 0 := by
  refine list_ext (by rw [length_Ca, length_Cb]) fun i hi => ?_
  rw [length_Ca] at hi
  rw [gt_Ca _ _ _ hi, gt_Cb _ _ _ hi]
  by_cases e : i ≤ 0
  · rw [if_pos e]
    obtain rfl : i = 0 := by omega
    unfold cno first
    rw [if_pos rfl, ct_up (Nat.zero_le _) (fun i h => absurd h (Nat.not_lt_zero _)) (fun i _ _ => decide_eq_false (Nat.not_lt_zero _))]
  · rw [if_neg e]
theorem first_next (t : List Nat) (x : Nat) : first t (x + 1) = cno t (x + 1) t.length + first t x := by
  unfold first cno
  rw [if_neg (by omega), ct_split (a := fun q => decide (sg t q < x + 1)) (b := fun q => decide (sg t q < x)) (c := fun i => decide (sg t i + 1 = x + 1)) (fun i _ => by
    by_cases h1 : sg t i < x
    · rw [decide_eq_true h1, decide_eq_true (show sg t i < x + 1 by omega), decide_eq_false (show ¬ sg t i + 1 = x + 1 by omega)]
      rfl
    · rw [decide_eq_false h1]
      by_cases h2 : sg t i = x
      · rw [decide_eq_true (show sg t i < x + 1 by omega), decide_eq_true (show sg t i + 1 = x + 1 by omega)]
        rfl
      · rw [decide_eq_false (show ¬ sg t i < x + 1 by omega), decide_eq_false (show ¬ sg t i + 1 = x + 1 by omega)]
        rfl)]
  omega
theorem cb_step (t : List Nat) (x : Nat) (h : x < 256) : (Cb t x).set (x + 1) (cno t (x + 1) t.length + first t x) = Cb t (x + 1) := by
  refine list_ext (by rw [length_Cb, List.length_set, length_Cb]) fun i hi => ?_
  rw [List.length_set, length_Cb] at hi
  rw [gt_set _ _ _ _ (by rw [length_Cb]; omega), gt_Cb _ _ _ hi, gt_Cb _ _ _ hi, ← first_next]
  by_cases e : x + 1 = i
  · rw [if_pos e, if_pos (by omega), e]
  · rw [if_neg e]
    by_cases c : i ≤ x
    · rw [if_pos c, if_pos (by omega)]
    · rw [if_neg c, if_neg (by omega)]
theorem cb_all (t : List Nat) : Cb t 256 = fs t := by
  refine list_ext (by rw [length_fs, length_Cb]) fun i hi => ?_
  rw [length_Cb] at hi
  rw [gt_Cb _ _ _ hi, if_pos (by omega), gt_fs _ _ hi]
end Su
set_option maxHeartbeats 4000000 in
theorem bcts_c (ao : Option Addr) (t : List Nat) (cap : Nat) (w : World) (hx : Bd w ao t) (hb : Bytes t) (hl : t.length ≤ 1048576) :
    Calls Try.prog 18 #[.slice ao t.length cap] w fun e w' => e = .returned (.agg (iv (Su.fs t)).toArray) ∧ Below w.heap.size w w' := by
  go_enter Try.func18, Try.ntmps18
  go_wp2_with (refine alloc_z _ info_cn ?_)
  intro w1 hc1 hb1 hs1
  go_wp2_with (refine alloc_z _ info_cn ?_)
  intro w2 hc2 hb2 hs2
  have hA := hide (hb1.trans (hb2.mono (by omega)))
  have hR := hide (hc1.kept hb2)
  have l1 : w.heap.size < w1.heap.size := hs1
  have hc2 := hide hc2
  clear hc1 hb1 hs1 hb2 hs2
  generalize w1.heap.size = g at *
  generalize hG : w.heap.size = g0 at *
  have HX := hide hx
  clear hx
  obtain ⟨n, hn⟩ : ∃ n, Hid (n = t.length) := ⟨_, rfl⟩
  rw [← hn.out] at hl ⊢
  have y0 := hc2.out.cell 0 rfl
  have f0 := hc2.out.frozen 0
  have lt0 := hc2.out.lt
  have K1 : Hid (Cel (w2.setCell ⟨g, 0, none⟩ (.int .i64 1)) g (iv (Su.Ca t 0)) 46) := by
    have := hc2.out.set 0 (.int .i64 (1 : Nat))
    rw [iv_set, Su.ca_zero] at this
    exact this
  have K2 := hide (hR.out.other (a := ⟨g, 0, none⟩) (by show g0 ≠ g; omega) (.int .i64 1))
  have K3 : Hid (Below g0 w (w2.setCell ⟨g, 0, none⟩ (.int .i64 1))) := hA.out.setCell (p := ⟨g, 0, none⟩) (by show g0 ≤ g; omega) _
  clear hA hR hc2
  simp only [Act.put, List.setIfInBounds_toArray, List.set]
  go_wp2
  go_loopw [10] (fun s wr => ∃ q : Nat, q ≤ n ∧ s = .int .i64 q ∧ Hid (Cel wr g (iv (Su.Ca t q)) 46) ∧ Hid (Cel wr g0 (iv (List.replicate 257 0)) 46) ∧ Hid (Below g0 w wr)) (fun s _ => n - (intOf s).toNat)
  case atStart => exact ⟨0, Nat.zero_le _, rfl, K1, K2, K3⟩
  case round =>
    clear K1 K2 K3 y0 f0 lt0
    obtain ⟨q, hq, rfl, H1, H2, H3⟩ := hrel
    by_cases hi : q < n
    · have hi2 : (q : Int) < (n : Int) := by omega
      obtain ⟨b, off, rfl, hbl, hcc⟩ := HX.out (by rw [← hn.out]; omega)
      have e2 := (H3.out.cell (p := ⟨b, off + q, none⟩) (by rw [← hG]; exact hbl)).trans (hcc q (by rw [← hn.out]; exact hi))
      have hx8 := gt_lt hb q
      have e1 := H1.out.cell (gt t q + 1) (iv_get _ _ (by rw [Su.length_Ca]; omega))
      rw [Su.gt_Ca _ _ _ (by omega)] at e1
      have st := H1.out.set (gt t q + 1) (.int .i64 ((Su.cno t (gt t q + 1) q + 1 : Nat) : Int))
      rw [iv_set, Su.ca_step t q hx8] at st
      have fz := H1.out.frozen (gt t q + 1)
      have glt := H1.out.lt
      have bd := Su.cno_le t (gt t q + 1) q
      generalize Su.cno t (gt t q + 1) q = Z at *
      generalize gt t q = X at *
      have ST : Hid (Cel (wr.setCell ⟨g, X + 1, none⟩ (.int .i64 ((Z : Int) + 1))) g (iv (Su.Ca t (q + 1))) 46) := st
      have K2 := hide (H2.out.other (a := ⟨g, X + 1, none⟩) (by show g0 ≠ g; omega) (.int .i64 ((Z : Int) + 1)))
      have K3 : Hid (Below g0 w (wr.setCell ⟨g, X + 1, none⟩ (.int .i64 ((Z : Int) + 1)))) := H3.out.setCell (p := ⟨g, X + 1, none⟩) (by show g0 ≤ g; omega) _
      clear st H1 H2 H3 hcc HX
      have hX2 : (X : Int) < 256 := by omega
      have hX3 : (X : Int) + 1 < 257 := by omega
      go_wp2
      exact ⟨⟨q + 1, by omega, by go_num, ST, K2, K3⟩, by simp only [intOf]; omega⟩
    · obtain rfl : q = n := by omega
      have K1 := H1
      rw [hn.out, Su.cb_zero] at K1
      clear HX hi H1
      go_wp2
      go_loopw [22] (fun s wr => ∃ x : Nat, x ≤ 256 ∧ s = .int .i64 x ∧ Hid (Cel wr g (iv (Su.Cb t x)) 46) ∧ Hid (Cel wr g0 (iv (List.replicate 257 0)) 46) ∧ Hid (Below g0 w wr)) (fun s _ => 256 - (intOf s).toNat)
      case atStart => exact ⟨0, Nat.zero_le _, rfl, K1, H2, H3⟩
      case round =>
        clear K1 H2 H3
        obtain ⟨x, hx, rfl, H1, H2, H3⟩ := hrel
        by_cases hi : x < 256
        · have hi2 : (x : Int) < 256 := by omega
          have hi3 : (x : Int) < 257 := by omega
          have hi5 : (x : Int) + 1 < 257 := by omega
          have e1 := H1.out.cell (x + 1) (iv_get _ _ (by rw [Su.length_Cb]; omega))
          rw [Su.gt_Cb _ _ _ (by omega), if_neg (by omega)] at e1
          have e2 := H1.out.cell x (iv_get _ _ (by rw [Su.length_Cb]; omega))
          rw [Su.gt_Cb _ _ _ (by omega), if_pos (Nat.le_refl _)] at e2
          have st := H1.out.set (x + 1) (.int .i64 ((Su.cno t (x + 1) t.length + Su.first t x : Nat) : Int))
          rw [iv_set, Su.cb_step t x hi] at st
          have fz := H1.out.frozen (x + 1)
          have glt := H1.out.lt
          have b1 := Su.cno_le t (x + 1) t.length
          have b2 := Su.first_le t x
          rw [← hn.out] at b1 b2 e1 st
          generalize Su.cno t (x + 1) q = Y at *
          generalize Su.first t x = Z at *
          have ST : Hid (∀ k, Cel ((wr.drewN k).setCell ⟨g, x + 1, none⟩ (.int .i64 ((Y : Int) + (Z : Int)))) g (iv (Su.Cb t (x + 1))) 46) := fun k => st
          have K2 : Hid (∀ k, Cel ((wr.drewN k).setCell ⟨g, x + 1, none⟩ (.int .i64 ((Y : Int) + (Z : Int)))) g0 (iv (List.replicate 257 0)) 46) := fun k => H2.out.other (a := ⟨g, x + 1, none⟩) (by show g0 ≠ g; omega) (.int .i64 ((Y : Int) + (Z : Int)))
          have K3 : Hid (∀ k, Below g0 w ((wr.drewN k).setCell ⟨g, x + 1, none⟩ (.int .i64 ((Y : Int) + (Z : Int))))) := fun k => (below_drewN H3.out k).setCell (p := ⟨g, x + 1, none⟩) (by show g0 ≤ g; omega) _
          clear st H1 H2 H3
          go_wp2
          go_region
          go_wp2
          exact ⟨⟨x + 1, by omega, by go_num, ST.out 1, K2.out 1, K3.out 1⟩, by simp only [intOf]; omega⟩
        · obtain rfl : x = 256 := by omega
          rw [Su.cb_all] at H1
          go_wp2_with (first | refine load_cn g _ rfl H1.out (Su.length_fs _) ?_ | refine store_cn g0 _ _ rfl rfl H2.out (by simp) (Su.length_fs _) ?_)
          intro w5 hc5 hb5
          have HC := hide hc5
          have HB5 : Hid (Below g0 w w5) := H3.out.trans (hb5.below (Nat.le_refl _))
          clear hc5 hb5 H1 H2
          go_wp2
          (try simp only [Exit.inBlock, Exit.then])
          exact bodyPost_ret (result_cn rfl g0 (Su.fs t) (Su.length_fs t) rfl HC.out) rfl ⟨rfl, by rw [hG]; exact HB5.out⟩
end Go.Proofs.Ytojjinjgmijgcaa
