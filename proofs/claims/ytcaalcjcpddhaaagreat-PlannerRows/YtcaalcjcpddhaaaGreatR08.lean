/-
  The contracts of the document's Same of rows of numbers, and of rows in blocks. A row of words of the call's own. The contract of the document's Choose. The contracts of the document's Width, Offset and Block. The contract of the document's row: the way back from classes and offsets. Rows in blocks: the classes laid by Make, the offsets laid by From, and the way back from them: plain.
-/
import Derived.Test.YtcaalcjcpddhaaaGreatR07
import Derived.Test.YtcaalcjcpddhaaaGreatR02
import Derived.Test.YtcaalcjcpddhaaaGreatR00
import Derived.WalkSmall
import Derived.OwnWalk
import Derived.RegionTactic
import Derived.BigRegion
import Derived.Deep.RegionHeld3
import Derived.Test.YtcaalcjcpddhaaaGreatR05
import Derived.Test.YtcaalcjcpddhaaaGreatR06
namespace Go.Proofs.YtcaalcjcpddhaaaGreat
open Go.RowKit Num Bit
set_option linter.unusedVariables false
set_option linter.unusedSimpArgs false
set_option maxRecDepth 100000

set_option maxHeartbeats 4000000 in
theorem isame_c8 (aN aW aM : Int) (ao : Option Addr) (ax : List Nat) (ac : Nat) (bN bW bM : Int) (bo : Option Addr) (bx : List Nat) (bc : Nat) (w : World) (hx : Wd w ao ax) (hy : Wd w bo bx) (hl : ax.length ≤ 1048576) :
  Calls Tryz.prog 106 #[.agg #[.int .i64 aN, .int .i64 aW, .int .i64 aM, .slice ao ax.length ac], .agg #[.int .i64 bN, .int .i64 bW, .int .i64 bM, .slice bo bx.length bc]] w fun e w' => e = .returned (.bool (decide (aN = bN) && (decide (aW = bW) && (decide (aM = bM) && decide (ax = bx))))) ∧ Below w.heap.size w w' := by
 obtain ⟨W, hW⟩ : ∃ W, W = (w.alloc (.cells #[.int .i64 aN, .int .i64 aW, .int .i64 aM, .slice ao ax.length ac] 30)).alloc (.cells #[.int .i64 bN, .int .i64 bW, .int .i64 bM, .slice bo bx.length bc] 30) := ⟨_, rfl⟩
 have bZ : Below w.heap.size w W := by rw [hW]; exact (below_alloc w _).alloc (by simp) _
 have B1 : Cel W w.heap.size [.int .i64 aN, .int .i64 aW, .int .i64 aM, .slice ao ax.length ac] 30 := by rw [hW]; exact (Cel.new w _ _).alloc _
 have B2 : Cel W (w.heap.size + 1) [.int .i64 bN, .int .i64 bW, .int .i64 bM, .slice bo bx.length bc] 30 := by rw [hW]; exact Cel.new2 w _ _ _
 have C1 : Hid (∀ w0, w0 = W → Calls Tryz.prog 94 #[.agg #[.int .i64 aM, .slice ao ax.length ac], .agg #[.int .i64 bM, .slice bo bx.length bc]] w0 fun e w' => e = .returned (.bool (decide (aM = bM) && decide (ax = bx))) ∧ Below w0.heap.size w0 w') := fun w0 h => by subst h; exact same_c aM ao ax ac bM bo bx bc w0 (hx.keep bZ) (hy.keep bZ) hl
 generalize (decide (aM = bM) && decide (ax = bx)) = z at *
 by_cases h1 : aN = bN
 ·by_cases h2 : aW = bW
  ·rw [decide_eq_true h1, decide_eq_true h2]
   subst h1 h2
   go_enter Tryz.func106, Tryz.ntmps106
   go_wp2_with fail
   rw [← hW]
   refine (C1.out _ rfl).mono ?_
   rintro e w1 ⟨rfl, hb⟩
   have bw := bZ.trans (hb.mono bZ.size)
   go_wp2
   go_ret
   exact ⟨by cases z <;> rfl, bw⟩
  ·rw [decide_eq_true h1, decide_eq_false h2]
   have e2 : (aW == bW) = false := by simpa using h2
   subst h1
   have bw : Below w.heap.size w ((w.alloc (.cells #[.int .i64 aN, .int .i64 aW, .int .i64 aM, .slice ao ax.length ac] 30)).alloc (.cells #[.int .i64 aN, .int .i64 bW, .int .i64 bM, .slice bo bx.length bc] 30)) := (below_alloc w _).alloc (by simp) _
   clear C1 B1 B2 bZ hW W
   go_enter Tryz.func106, Tryz.ntmps106
   go_wp2
   go_ret
   exact ⟨rfl, bw⟩
 ·rw [decide_eq_false h1]
  have e1 : (aN == bN) = false := by simpa using h1
  have bw : Below w.heap.size w ((w.alloc (.cells #[.int .i64 aN, .int .i64 aW, .int .i64 aM, .slice ao ax.length ac] 30)).alloc (.cells #[.int .i64 bN, .int .i64 bW, .int .i64 bM, .slice bo bx.length bc] 30)) := (below_alloc w _).alloc (by simp) _
  clear C1 B1 B2 bZ hW W
  go_enter Tryz.func106, Tryz.ntmps106
  go_wp2
  go_ret
  exact ⟨rfl, bw⟩
set_option maxHeartbeats 8000000 in
theorem r8same_c (aN ak aW aM : Int) (ao : Option Addr) (ax : List Nat) (ac : Nat) (aL : Int) (aq : Option Addr) (ay : List Nat) (ad : Nat) (as_ : Option Addr) (au : List Int) (ae : Nat) (at_ : Option Addr) (av : List Int) (af : Nat) (bN bk bW bM : Int) (bo : Option Addr) (bx : List Nat) (bc : Nat) (bL : Int) (bq : Option Addr) (b_y : List Nat) (bd : Nat) (bs : Option Addr) (bu : List Int) (be : Nat) (bt : Option Addr) (bv_ : List Int) (bf : Nat) (w : World) (hx : Wd w ao ax) (hy : Wd w bo bx) (hl : ax.length ≤ 1048576) (kx : Wd w aq ay) (ky : Wd w bq b_y) (kl : ay.length ≤ 1048576) (s1 : Nd w as_ au) (s2 : Nd w bs bu) (sl : au.length ≤ 1048576) (t1 : Nd w at_ av) (t2 : Nd w bt bv_) (tl : av.length ≤ 1048576) :
  Calls Tryz.prog 91 #[.agg #[.int .i64 aN, .int .i64 ak, .int .i64 aW, .int .i64 aM, .slice ao ax.length ac, .int .i64 aL, .slice aq ay.length ad, .slice as_ au.length ae, .slice at_ av.length af], .agg #[.int .i64 bN, .int .i64 bk, .int .i64 bW, .int .i64 bM, .slice bo bx.length bc, .int .i64 bL, .slice bq b_y.length bd, .slice bs bu.length be, .slice bt bv_.length bf]] w fun e w' => e = .returned (.bool (decide (aN = bN) && ((decide (ak = bk) && (decide (aW = bW) && (decide (aM = bM) && decide (ax = bx)))) && ((decide (aL = bL) && decide (ay = b_y)) && (decide (au = bu) && decide (av = bv_)))))) ∧ Below w.heap.size w w' := by
 obtain ⟨W, hW⟩ : ∃ W, W = (w.alloc (.cells #[.int .i64 aN, .int .i64 ak, .int .i64 aW, .int .i64 aM, .slice ao ax.length ac, .int .i64 aL, .slice aq ay.length ad, .slice as_ au.length ae, .slice at_ av.length af] 32)).alloc (.cells #[.int .i64 bN, .int .i64 bk, .int .i64 bW, .int .i64 bM, .slice bo bx.length bc, .int .i64 bL, .slice bq b_y.length bd, .slice bs bu.length be, .slice bt bv_.length bf] 32) := ⟨_, rfl⟩
 have bZ : Below w.heap.size w W := by rw [hW]; exact (below_alloc w _).alloc (by simp) _
 have B1 : Cel W w.heap.size [.int .i64 aN, .int .i64 ak, .int .i64 aW, .int .i64 aM, .slice ao ax.length ac, .int .i64 aL, .slice aq ay.length ad, .slice as_ au.length ae, .slice at_ av.length af] 32 := by rw [hW]; exact (Cel.new w _ _).alloc _
 have B2 : Cel W (w.heap.size + 1) [.int .i64 bN, .int .i64 bk, .int .i64 bW, .int .i64 bM, .slice bo bx.length bc, .int .i64 bL, .slice bq b_y.length bd, .slice bs bu.length be, .slice bt bv_.length bf] 32 := by rw [hW]; exact Cel.new2 w _ _ _
 have C1 : Hid (∀ w0, w0 = W → Calls Tryz.prog 106 #[.agg #[.int .i64 ak, .int .i64 aW, .int .i64 aM, .slice ao ax.length ac], .agg #[.int .i64 bk, .int .i64 bW, .int .i64 bM, .slice bo bx.length bc]] w0 fun e w' => e = .returned (.bool (decide (ak = bk) && (decide (aW = bW) && (decide (aM = bM) && decide (ax = bx))))) ∧ Below w0.heap.size w0 w') := fun w0 h => by subst h; exact isame_c8 ak aW aM ao ax ac bk bW bM bo bx bc w0 (hx.keep bZ) (hy.keep bZ) hl
 have C2 : Hid (∀ w0, Below w.heap.size w w0 → Calls Tryz.prog 94 #[.agg #[.int .i64 aL, .slice aq ay.length ad], .agg #[.int .i64 bL, .slice bq b_y.length bd]] w0 fun e w' => e = .returned (.bool (decide (aL = bL) && decide (ay = b_y))) ∧ Below w0.heap.size w0 w') := fun w0 h => same_c aL aq ay ad bL bq b_y bd w0 (kx.keep h) (ky.keep h) kl
 have C3 : Hid (∀ w0, Below w.heap.size w w0 → Calls Tryz.prog 95 #[.slice as_ au.length ae, .slice bs bu.length be] w0 fun e w' => e = .returned (.bool (decide (au = bu))) ∧ Below w0.heap.size w0 w') := fun w0 h => rnum_c as_ au ae bs bu be w0 (s1.keep h) (s2.keep h) sl
 have C4 : Hid (∀ w0, Below w.heap.size w w0 → Calls Tryz.prog 95 #[.slice at_ av.length af, .slice bt bv_.length bf] w0 fun e w' => e = .returned (.bool (decide (av = bv_))) ∧ Below w0.heap.size w0 w') := fun w0 h => rnum_c at_ av af bt bv_ bf w0 (t1.keep h) (t2.keep h) tl
 generalize (decide (ak = bk) && (decide (aW = bW) && (decide (aM = bM) && decide (ax = bx)))) = z1 at *
 generalize (decide (aL = bL) && decide (ay = b_y)) = z2 at *
 generalize decide (au = bu) = z3 at *
 generalize decide (av = bv_) = z4 at *
 by_cases h1 : aN = bN
 ·rw [decide_eq_true h1]
  subst h1
  go_enter Tryz.func91, Tryz.ntmps91
  go_wp2_with fail
  rw [← hW]
  refine (C1.out _ rfl).mono ?_
  rintro e w1 ⟨rfl, hb⟩
  have bw1 := bZ.trans (hb.mono bZ.size)
  replace B1 := B1.kept hb
  replace B2 := B2.kept hb
  clear hb
  cases z1 with
  | false =>
   go_wp2
   go_ret
   exact ⟨rfl, bw1⟩
  | true =>
   have c0 := B1.cell 0 rfl
   have d0 := B2.cell 0 rfl
   have c1 := B1.cell 1 rfl
   have d1 := B2.cell 1 rfl
   have c2 := B1.cell 2 rfl
   have d2 := B2.cell 2 rfl
   have c3 := B1.cell 3 rfl
   have d3 := B2.cell 3 rfl
   have c4 := B1.cell 4 rfl
   have d4 := B2.cell 4 rfl
   have c5 := B1.cell 5 rfl
   have d5 := B2.cell 5 rfl
   have c6 := B1.cell 6 rfl
   have d6 := B2.cell 6 rfl
   have c7 := B1.cell 7 rfl
   have d7 := B2.cell 7 rfl
   have c8 := B1.cell 8 rfl
   have d8 := B2.cell 8 rfl
   go_wp2_with fail
   refine (C2.out _ bw1).mono ?_
   rintro e w2 ⟨rfl, hb⟩
   have bw2 := bw1.trans (hb.mono bw1.size)
   replace B1 := B1.kept hb
   replace B2 := B2.kept hb
   clear hb c0 d0 c1 d1 c2 d2 c3 d3 c4 d4 c5 d5 c6 d6 c7 d7 c8 d8
   cases z2 with
   | false =>
    go_wp2
    go_ret
    exact ⟨rfl, bw2⟩
   | true =>
    have c0 := B1.cell 0 rfl
    have d0 := B2.cell 0 rfl
    have c1 := B1.cell 1 rfl
    have d1 := B2.cell 1 rfl
    have c2 := B1.cell 2 rfl
    have d2 := B2.cell 2 rfl
    have c3 := B1.cell 3 rfl
    have d3 := B2.cell 3 rfl
    have c4 := B1.cell 4 rfl
    have d4 := B2.cell 4 rfl
    have c5 := B1.cell 5 rfl
    have d5 := B2.cell 5 rfl
    have c6 := B1.cell 6 rfl
    have d6 := B2.cell 6 rfl
    have c7 := B1.cell 7 rfl
    have d7 := B2.cell 7 rfl
    have c8 := B1.cell 8 rfl
    have d8 := B2.cell 8 rfl
    go_wp2_with fail
    refine (C3.out _ bw2).mono ?_
    rintro e w3 ⟨rfl, hb⟩
    have bw3 := bw2.trans (hb.mono bw2.size)
    replace B1 := B1.kept hb
    replace B2 := B2.kept hb
    clear hb c0 d0 c1 d1 c2 d2 c3 d3 c4 d4 c5 d5 c6 d6 c7 d7 c8 d8
    cases z3 with
    | false =>
     go_wp2
     go_ret
     exact ⟨rfl, bw3⟩
    | true =>
     have c0 := B1.cell 0 rfl
     have d0 := B2.cell 0 rfl
     have c1 := B1.cell 1 rfl
     have d1 := B2.cell 1 rfl
     have c2 := B1.cell 2 rfl
     have d2 := B2.cell 2 rfl
     have c3 := B1.cell 3 rfl
     have d3 := B2.cell 3 rfl
     have c4 := B1.cell 4 rfl
     have d4 := B2.cell 4 rfl
     have c5 := B1.cell 5 rfl
     have d5 := B2.cell 5 rfl
     have c6 := B1.cell 6 rfl
     have d6 := B2.cell 6 rfl
     have c7 := B1.cell 7 rfl
     have d7 := B2.cell 7 rfl
     have c8 := B1.cell 8 rfl
     have d8 := B2.cell 8 rfl
     go_wp2_with fail
     refine (C4.out _ bw3).mono ?_
     rintro e w4 ⟨rfl, hb⟩
     have bw4 := bw3.trans (hb.mono bw3.size)
     go_wp2
     go_ret
     exact ⟨by cases z4 <;> rfl, bw4⟩
 ·rw [decide_eq_false h1]
  have e1 : (aN == bN) = false := by simpa using h1
  have bw : Below w.heap.size w ((w.alloc (.cells #[.int .i64 aN, .int .i64 ak, .int .i64 aW, .int .i64 aM, .slice ao ax.length ac, .int .i64 aL, .slice aq ay.length ad, .slice as_ au.length ae, .slice at_ av.length af] 32)).alloc (.cells #[.int .i64 bN, .int .i64 bk, .int .i64 bW, .int .i64 bM, .slice bo bx.length bc, .int .i64 bL, .slice bq b_y.length bd, .slice bs bu.length be, .slice bt bv_.length bf] 32)) := (below_alloc w _).alloc (by simp) _
  clear C1 C2 C3 C4 B1 B2 bZ hW W
  go_enter Tryz.func91, Tryz.ntmps91
  go_wp2
  go_ret
  exact ⟨rfl, bw⟩
end Go.Proofs.YtcaalcjcpddhaaaGreat

namespace Go.Proofs.YtcaalcjcpddhaaaGreat
open Go.RowKit Num Bn
namespace Ow
set_option linter.unusedVariables false
set_option linter.unusedSimpArgs false
set_option maxRecDepth 100000

theorem info64 : (Tryz.prog.info? 83).map (fun i => (i.zero, i.size, i.bytes)) = some (some (.int .u64 0), 1, 8) := by kernel_rfl
theorem below_alloc (w : World) (o : Obj) : Below w.heap.size w (w.alloc o) := (Below.refl _ _).alloc (Nat.le_refl _) _
def gt (xs : List Nat) (i : Nat) : Nat := xs.getD i 0
theorem gt_get (xs : List Nat) (i : Nat) (h : i < xs.length) : xs[i]? = some (gt xs i) := by
 unfold gt
 rw [List.getD_eq_getElem?_getD, List.getElem?_eq_getElem h]; rfl
theorem gt_map (f : Nat → Nat) (n i : Nat) (h : i < n) : gt ((List.range n).map f) i = f i := by
 unfold gt
 rw [List.getD_eq_getElem?_getD, List.getElem?_map, List.getElem?_range h]; rfl
theorem gt_set (ys : List Nat) (j i v : Nat) (hj : j < ys.length) : gt (ys.set j v) i = if j = i then v else gt ys i := by
 unfold gt
 rw [List.getD_eq_getElem?_getD, List.getD_eq_getElem?_getD, List.getElem?_set]
 by_cases c : j = i
 ·subst c; simp [hj]
 ·simp [c]
theorem list_ext {xs ys : List Nat} (hl : xs.length = ys.length) (h : ∀ i, i < xs.length → gt xs i = gt ys i) : xs = ys := by
 refine List.ext_getElem? fun i => ?_
 by_cases c : i < xs.length
 ·rw [gt_get xs i c, gt_get ys i (by omega), h i c]
 ·rw [List.getElem?_eq_none (by omega), List.getElem?_eq_none (by omega)]
def wv (ys : List Nat) : List Value := ys.map fun y : Nat => Value.int .u64 (y : Int)
def Own (w : World) (g : Nat) (ys : List Nat) : Prop := w.heap[g]? = some (.cells (wv ys).toArray 83 (0, 0))
theorem own_made {w : World} {base g n : Nat} (h : w.ownsRow base 83 1 (.slice (some ⟨g, 0, none⟩) n n) n (madeCells #[.int .u64 0] n).toList) : Own w g (List.replicate n 0) := by
 obtain ⟨_, h | ⟨g', cap, cur, e, _, hh, _, _, hs, ht⟩⟩ := h
 ·simp at h
 ·simp only [Value.slice.injEq, Option.some.injEq, Addr.mk.injEq] at e
  obtain ⟨⟨rfl, _, _⟩, _, rfl⟩ := e
  unfold Own
  rw [hh]
  have e2 : (madeCells #[.int .u64 0] n).toList = wv (List.replicate n 0) := by
   rw [toList_madeCells_one (.int .u64 0) n, wv, List.map_replicate]
   rfl
  rw [e2] at ht
  have e3 : cur.toList.take (n * 1) = cur.toList := List.take_of_length_le (by simp; omega)
  rw [e3] at ht
  rw [← ht]
theorem Own.cell {w : World} {g : Nat} {ys : List Nat} (h : Own w g ys) (j : Nat) (hj : j < ys.length) : w.cell? ⟨g, j, none⟩ = some (.int .u64 (gt ys j)) := by
 unfold World.cell?
 rw [show w.heap[({ block := g, off := j, spot := none } : Addr).block]? = _ from h]
 simp only [List.getElem?_toArray, wv, List.getElem?_map, gt_get ys j hj]
 rfl
theorem Own.frozen {w : World} {g : Nat} {ys : List Nat} (h : Own w g ys) (j : Nat) : w.frozen? ⟨g, j, none⟩ = false := by
 unfold World.frozen?
 rw [show w.heap[({ block := g, off := j, spot := none } : Addr).block]? = _ from h]
 simp
theorem Own.lt {w : World} {g : Nat} {ys : List Nat} (h : Own w g ys) : g < w.heap.size := (Array.getElem?_eq_some_iff.1 h).1
theorem Own.set {w : World} {g : Nat} {ys : List Nat} (h : Own w g ys) (j v : Nat) : Own (w.setCell ⟨g, j, none⟩ (.int .u64 v)) g (ys.set j v) := by
 unfold Own at h ⊢
 simp only [World.setCell, Array.getElem?_modify]
 rw [if_pos trivial, h]
 simp [wv, List.map_set]
def rowP (n i : Nat) : List Nat := (List.range (n + 1)).map (ch i)
def pas (n i j : Nat) : List Nat := (List.range (n + 1)).map fun t => if j < t then ch i t else ch (i - 1) t
theorem length_pas (n i j : Nat) : (pas n i j).length = n + 1 := by simp [pas]
theorem length_rowP (n i : Nat) : (rowP n i).length = n + 1 := by simp [rowP]
theorem pas_first (n i : Nat) : pas n i i = rowP n (i - 1) := by
 unfold pas rowP
 refine List.map_congr_left fun t _ => ?_
 by_cases c : i < t
 ·rw [if_pos c, ch_out i t c, ch_out (i - 1) t (by omega)]
 ·rw [if_neg c]
theorem pas_last (n i : Nat) : pas n i 0 = rowP n i := by
 unfold pas rowP
 refine List.map_congr_left fun t _ => ?_
 by_cases c : 0 < t
 ·rw [if_pos c]
 ·obtain rfl : t = 0 := by omega
  rw [if_neg c, ch_zero, ch_zero]
theorem gt_pas (n i j t : Nat) (h : t ≤ n) : gt (pas n i j) t = if j < t then ch i t else ch (i - 1) t := gt_map _ _ _ (by omega)
theorem gt_rowP (n i t : Nat) (h : t ≤ n) : gt (rowP n i) t = ch i t := gt_map _ _ _ (by omega)
theorem pas_step (n i j : Nat) (hi : 1 ≤ i) (hj : 1 ≤ j) (hn : j ≤ n) : (pas n i j).set j (ch (i - 1) j + ch (i - 1) (j - 1)) = pas n i (j - 1) := by
 refine list_ext (by rw [List.length_set, length_pas, length_pas]) fun t ht => ?_
 rw [List.length_set, length_pas] at ht
 rw [gt_set _ _ _ _ (by rw [length_pas]; omega), gt_pas _ _ _ _ (by omega), gt_pas _ _ _ _ (by omega)]
 by_cases c : j = t
 ·subst c
  obtain ⟨a, rfl⟩ : ∃ a, i = a + 1 := ⟨i - 1, by omega⟩
  obtain ⟨b, rfl⟩ : ∃ b, j = b + 1 := ⟨j - 1, by omega⟩
  rw [if_pos rfl, if_pos (by omega), ch_succ, Nat.add_sub_cancel, Nat.add_sub_cancel]
  omega
 ·rw [if_neg c]
  by_cases d : j < t
  ·rw [if_pos d, if_pos (by omega)]
  ·rw [if_neg d, if_neg (by omega)]
theorem row_start (n : Nat) : (List.replicate (n + 1) 0).set 0 1 = rowP n 0 := by
 refine list_ext (by rw [List.length_set, length_rowP, List.length_replicate]) fun t ht => ?_
 rw [List.length_set, List.length_replicate] at ht
 rw [gt_set _ _ _ _ (by simp), gt_rowP _ _ _ (by omega)]
 by_cases c : 0 = t
 ·subst c; rw [if_pos rfl, ch_zero]
 ·rw [if_neg c, ch_out 0 t (by omega)]
  unfold gt
  rw [List.getD_eq_getElem?_getD, List.getElem?_replicate]
  split <;> rfl
end Ow
end Go.Proofs.YtcaalcjcpddhaaaGreat

namespace Go.Proofs.YtcaalcjcpddhaaaGreat
open Go.RowKit Num Bn
namespace Ow
set_option linter.unusedVariables false
set_option linter.unusedSimpArgs false
set_option maxRecDepth 100000

theorem rchoose_out (n k : Int) (h : n < 0 ∨ 62 < n ∨ k < 0 ∨ n < k) (w : World) :
  Calls Tryz.prog 62 #[.int .i64 n, .int .i64 k] w fun e w' => e = .returned (.int .u64 0) ∧ Below w.heap.size w w' := by
 by_cases h1 : n < 0
 ·go_enter Tryz.func62, Tryz.ntmps62
  go_wp2
  go_ret
  exact ⟨rfl, Below.refl _ _⟩
 by_cases h2 : 62 < n
 ·go_enter Tryz.func62, Tryz.ntmps62
  go_wp2
  go_ret
  exact ⟨rfl, Below.refl _ _⟩
 by_cases h3 : k < 0
 ·go_enter Tryz.func62, Tryz.ntmps62
  go_wp2
  go_ret
  exact ⟨rfl, Below.refl _ _⟩
 ·have h4 : n < k := by omega
  clear h
  go_enter Tryz.func62, Tryz.ntmps62
  go_wp2
  go_ret
  exact ⟨rfl, Below.refl _ _⟩
set_option maxHeartbeats 2000000 in
theorem rchoose_in (n k : Nat) (hn : n ≤ 62) (hk : k ≤ n) (w : World) :
  Calls Tryz.prog 62 #[.int .i64 n, .int .i64 k] w fun e w' => e = .returned (.int .u64 (ch n k)) ∧ Below w.heap.size w w' := by
 obtain ⟨i0, hi, hz0, hz1, hz2⟩ := info_parts info64
 have hn2 : (n : Int) ≤ 62 := by omega
 have hk2 : (k : Int) ≤ n := by omega
 go_enter Tryz.func62, Tryz.ntmps62
 go_wp2_with (at_make; refine wpList_make_full _ rfl _ _ 22 rfl w.heap.size 83 i0 (.int .u64 0) 1 Tryz.underlying22 hi hz0 hz1 .i64 .i64 _ _ (n + 1) rfl rfl rfl rfl ?b2 ?b3 ?b4 ?_)
 case b2 => rw [hz2]; omega
 case b3 => unfold maxLen; omega
 case b4 => omega
 intro w1 hown hgr
 have hO : Own w1 w.heap.size (List.replicate (n + 1) 0) := own_made hown
 have hb1 : Below w.heap.size w w1 := (Below.refl _ _).grown hgr (Nat.le_refl _) (fun k h => by cases h)
 clear hown hgr hi hz0 hz1 hz2
 have c0 := hO.cell 0 (by simp)
 have f0 := hO.frozen 0
 have hO2 := hO.set 0 1
 rw [row_start] at hO2
 have hb2 : Below w.heap.size w (w1.setCell ⟨w.heap.size, 0, none⟩ (.int .u64 ((1 : Nat) : Int))) := hb1.setCell (Nat.le_refl _) _
 have hl : (0 : Int) < (n : Int) + 1 := by omega
 go_wp2
 go_loopw [6, 7] (fun i j wr => ∃ p : Nat, 1 ≤ p ∧ p ≤ n + 1 ∧ i = .int .i64 p ∧ Own wr w.heap.size (rowP n (p - 1)) ∧ Below w.heap.size w wr) (fun i _ _ => n + 1 - (intOf i).toNat)
 case atStart => exact ⟨1, Nat.le_refl _, by omega, rfl, hO2, hb2⟩
 case round =>
  obtain ⟨p, hp1, hp2, rfl, hOr, hwr⟩ := hrel
  clear hO hO2 hb1 hb2 c0 f0
  by_cases hlt : p ≤ n
  ·have hlt2 : (p : Int) ≤ (n : Int) := by omega
   go_wp2
   go_loopw [7] (fun j wz => ∃ q : Nat, q ≤ p ∧ j = .int .i64 q ∧ Own wz w.heap.size (pas n p q) ∧ Below w.heap.size w wz) (fun j _ => (intOf j).toNat)
   case atStart => exact ⟨p, Nat.le_refl _, rfl, by rw [pas_first]; exact hOr, hwr⟩
   case round =>
    obtain ⟨q, hq, rfl, hOz, hwz⟩ := hrel
    clear hOr hwr
    by_cases h0 : q = 0
    ·subst h0
     rw [pas_last] at hOz
     have HO : Hid (Own wr w.heap.size (rowP n p)) := hOz
     clear hOz
     go_wp2
     exact ⟨⟨p + 1, by omega, by omega, by go_num, HO.out, hwz⟩, by simp only [intOf]; omega⟩
    ·have q0 : (0 : Int) < (q : Int) := by omega
     have e1 := hOz.cell q (by rw [length_pas]; omega)
     have e2 := hOz.cell (q - 1) (by rw [length_pas]; omega)
     have fz := hOz.frozen q
     have l1 : (q : Int) < (n : Int) + 1 := by omega
     have l2 : (q : Int) - 1 < (n : Int) + 1 := by omega
     rw [gt_pas _ _ _ _ (by omega), if_neg (by omega)] at e1 e2
     have b1 := ch62 (p - 1) q (by omega)
     have b2 := ch62 (p - 1) (q - 1) (by omega)
     have st := hOz.set q (ch (p - 1) q + ch (p - 1) (q - 1))
     rw [pas_step n p q hp1 (by omega) (by omega)] at st
     have HO : Hid (Own (wr.setCell ⟨w.heap.size, q, none⟩ (.int .u64 ((ch (p - 1) q + ch (p - 1) (q - 1) : Nat) : Int))).drew w.heap.size (pas n p (q - 1))) := st
     have HB : Hid (Below w.heap.size w (wr.setCell ⟨w.heap.size, q, none⟩ (.int .u64 ((ch (p - 1) q + ch (p - 1) (q - 1) : Nat) : Int))).drew) := (hwz.setCell (Nat.le_refl _) _).drew
     have ez : ((q : Int) - 1).toNat = q - 1 := by omega
     have ad : IntKind.u64.wrap ((ch (p - 1) q : Int) + (ch (p - 1) (q - 1) : Int)) = ((ch (p - 1) q + ch (p - 1) (q - 1) : Nat) : Int) := by rw [IntKind.wrap_u64]; omega
     clear st hOz
     generalize ch (p - 1) q = A at *
     generalize ch (p - 1) (q - 1) = B at *
     go_wp2
     go_region
     go_wp2
     exact ⟨⟨q - 1, by omega, by go_num, HO.out, HB.out⟩, by simp only [intOf]; omega⟩
  ·obtain rfl : p = n + 1 := by omega
   have e1 := hOr.cell k (by rw [length_rowP]; omega)
   rw [Nat.add_sub_cancel, gt_rowP _ _ _ hk] at e1
   have l1 : (k : Int) < (n : Int) + 1 := by omega
   obtain ⟨Z, hZ⟩ : ∃ Z, Hid (Z = ch n k) := ⟨_, rfl⟩
   rw [← hZ.out] at e1
   go_wp2
   go_ret
   rw [← hZ.out]
   exact ⟨rfl, hwr⟩
theorem rchoose_c (n k : Int) (w : World) :
  Calls Tryz.prog 62 #[.int .i64 n, .int .i64 k] w fun e w' => e = .returned (.int .u64 (chN n k)) ∧ Below w.heap.size w w' := by
 unfold chN
 by_cases h : n < 0 ∨ 62 < n ∨ k < 0 ∨ n < k
 ·rw [if_pos h]
  exact rchoose_out n k h w
 ·rw [if_neg h]
  obtain ⟨a, rfl⟩ := Int.eq_ofNat_of_zero_le (show 0 ≤ n by omega)
  obtain ⟨b, rfl⟩ := Int.eq_ofNat_of_zero_le (show 0 ≤ k by omega)
  exact rchoose_in a b (by omega) (by omega) w
end Ow
end Go.Proofs.YtcaalcjcpddhaaaGreat

namespace Go.Proofs.YtcaalcjcpddhaaaGreat
open Go.RowKit Num Bn
namespace Ow
set_option linter.unusedVariables false
set_option linter.unusedSimpArgs false
set_option maxRecDepth 100000

set_option maxHeartbeats 2000000 in
theorem rwidth_c (n k : Int) (w : World) :
  Calls Tryz.prog 35 #[.int .i64 n, .int .i64 k] w fun e w' => e = .returned (.int .i64 (wdN n k)) ∧ Below w.heap.size w w' := by
 have C : Hid (∀ w0, Calls Tryz.prog 62 #[.int .i64 n, .int .i64 k] w0 fun e w' => e = .returned (.int .u64 (chN n k)) ∧ Below w0.heap.size w0 w') := fun w0 => rchoose_c n k w0
 have b := chN_le n k
 unfold wdN
 generalize chN n k = c at *
 by_cases h0 : c = 0
 ·subst h0
  rw [if_pos rfl]
  go_enter Tryz.func35, Tryz.ntmps35
  go_wp2_with fail
  refine (C.out _).mono ?_
  rintro e w1 ⟨rfl, hb⟩
  go_wp2
  go_ret
  exact ⟨rfl, hb⟩
 ·rw [if_neg h0]
  obtain ⟨d, rfl⟩ : ∃ d, c = d + 1 := ⟨c - 1, by omega⟩
  rw [Nat.add_sub_cancel]
  have L : Hid (∀ w0, Calls Tryz.prog 63 #[.int .u64 d] w0 fun e w' => e = .returned (.int .i64 (Go.bitLen d)) ∧ w' = w0) := fun w0 => by
   have := reflen_c (d : Int) (by omega) (by omega) w0
   unfold lenI at this
   rw [Int.toNat_natCast] at this
   exact this
  have c1 : (((d + 1 : Nat) : Int) == 0) = false := by simp; omega
  generalize Go.bitLen d = Z at *
  go_enter Tryz.func35, Tryz.ntmps35
  go_wp2_with fail
  refine (C.out _).mono ?_
  rintro e w1 ⟨rfl, hb⟩
  have e2 : ((d + 1 : Nat) : Int) = (d : Int) + 1 := by omega
  rw [e2]
  go_wp2_with fail
  refine (L.out _).mono ?_
  rintro e w2 ⟨rfl, h2⟩
  rw [h2]
  clear h2 w2
  go_wp2
  go_ret
  exact ⟨rfl, hb⟩
set_option maxHeartbeats 2000000 in
theorem roffset_c (x : Nat) (n : Int) (hx : x < 18446744073709551616) (h0 : -9223372036854775808 ≤ n) (h1 : n ≤ 9223372036854775807) (w : World) :
  Calls Tryz.prog 32 #[.int .u64 x, .int .i64 n] w fun e w' => e = .returned (.tuple #[.int .i64 (ofK x n), .int .u64 (ofO x n)]) ∧ Below w.heap.size w w' := by
 by_cases hn : n < 0
 ·rw [show ofK x n = 0 by unfold ofK; rw [if_pos (.inl hn)], show ofO x n = 0 by unfold ofO; rw [if_pos (.inl hn)]]
  go_enter Tryz.func32, Tryz.ntmps32
  go_wp2
  go_ret2
  exact ⟨rfl, Below.refl _ _⟩
 by_cases hn2 : 62 < n
 ·rw [show ofK x n = 0 by unfold ofK; rw [if_pos (.inr hn2)], show ofO x n = 0 by unfold ofO; rw [if_pos (.inr hn2)]]
  go_enter Tryz.func32, Tryz.ntmps32
  go_wp2
  go_ret2
  exact ⟨rfl, Below.refl _ _⟩
 rw [show ofK x n = cnt x n.toNat by unfold ofK; rw [if_neg (by omega)], show ofO x n = off x n.toNat by unfold ofO; rw [if_neg (by omega)]]
 obtain ⟨m, rfl⟩ := Int.eq_ofNat_of_zero_le (show 0 ≤ n by omega)
 rw [Int.toNat_natCast]
 have hm : m ≤ 62 := by omega
 have R : Hid (∀ w0, Calls Tryz.prog 61 #[.int .u64 x, .int .i64 m] w0 fun e w' => e = .returned (.int .i64 (cnt x m)) ∧ w' = w0) := fun w0 => by
  have := refrank_c (x : Int) (m : Int) (by omega) (by omega) (by omega) (by omega) w0
  unfold rankI at this
  rw [Int.toNat_natCast, Int.toNat_natCast, Nat.min_eq_left (by omega)] at this
  exact this
 have x0 : (0 : Int) ≤ (x : Int) := by omega
 have C : Hid (∀ w0 (p : Nat), p < m → Calls Tryz.prog 62 #[.int .i64 p, .int .i64 (cnt x (p + 1))] w0 fun e w' => e = .returned (.int .u64 (ch p (cnt x (p + 1)))) ∧ Below w0.heap.size w0 w') := fun w0 p hp => by
  have := rchoose_c p (cnt x (p + 1)) w0
  rw [chN_in p _ (by omega)] at this
  exact this
 go_enter Tryz.func32, Tryz.ntmps32
 go_wp2_with fail
 refine (R.out _).mono ?_
 rintro e w1 ⟨rfl, hw1⟩
 rw [hw1]
 clear hw1 w1 R
 obtain ⟨K, hK⟩ : ∃ K, Hid (K = cnt x m) := ⟨_, rfl⟩
 rw [← hK.out]
 go_wp2
 go_loopw [7, 8, 9] (fun o l i wr => ∃ p O : Nat, p ≤ m ∧ i = .int .i64 ((p : Int) - 1) ∧ l = .int .i64 (cnt x p) ∧ o = .int .u64 O ∧ O + off x p = off x m ∧ Below w.heap.size w wr) (fun _ _ i _ => (intOf i + 1).toNat)
 case atStart => exact ⟨m, 0, Nat.le_refl _, by go_num, by rw [hK.out], rfl, by omega, Below.refl _ _⟩
 case round =>
  obtain ⟨p, O, hp, rfl, rfl, rfl, hO, hwr⟩ := hrel
  by_cases hp0 : p = 0
  ·subst hp0
   have HO : Hid (O = off x m) := hO
   clear hO
   go_wp2
   go_ret2
   rw [← HO.out, ← hK.out]
   exact ⟨rfl, hwr⟩
  ·obtain ⟨q, rfl⟩ : ∃ q, p = q + 1 := ⟨p - 1, by omega⟩
   have e1 : ((q + 1 : Nat) : Int) - 1 = (q : Int) := by omega
   rw [e1]
   have q64 : (q : Int) < 64 := by omega
   have lt := off_lt x m
   have l62 := ch62 m (cnt x m) hm
   by_cases hb : x / 2 ^ q % 2 = 1
   ·have T : ((x : Int) / 2 ^ q).tmod 2 = 1 := by rw [bit_tmod _ _ x0, Int.toNat_natCast, hb]; rfl
    have ec : cnt x (q + 1) = cnt x q + 1 := by rw [cnt, hb]
    have eo : off x (q + 1) = off x q + ch q (cnt x (q + 1)) := by rw [off, if_pos hb]
    have D : Hid (∀ w0, Calls Tryz.prog 62 #[.int .i64 q, .int .i64 (cnt x (q + 1))] w0 fun e w' => e = .returned (.int .u64 (ch q (cnt x (q + 1)))) ∧ Below w0.heap.size w0 w') := fun w0 => C.out w0 q (by omega)
    rw [eo] at hO
    generalize ch q (cnt x (q + 1)) = Z at *
    have HO : Hid (O + Z + off x q = off x m) := by show O + Z + off x q = off x m; omega
    have bO : O + Z < 4611686018427387904 := by omega
    obtain ⟨c, hc⟩ : ∃ c, Hid (c = cnt x q) := ⟨_, rfl⟩
    have ec2 : ((cnt x (q + 1) : Nat) : Int) = (c : Int) + 1 := by rw [hc.out, ec]; omega
    rw [ec2] at D
    rw [ec2]
    have c64 : c ≤ 62 := by rw [hc.out]; have := cnt_le x q; omega
    clear ec eo hO lt l62 C ec2
    go_wp2_with fail
    refine (D.out _).mono ?_
    rintro e w2 ⟨rfl, hb2⟩
    have hw2 := hwr.trans (hb2.mono hwr.size)
    clear D hb2 hwr
    go_wp2
    exact ⟨⟨q, O + Z, by omega, by go_num, by rw [← hc.out], by go_num, HO.out, hw2⟩, by simp only [intOf]; omega⟩
   ·have T : ((x : Int) / 2 ^ q).tmod 2 = 0 := by rw [bit_tmod _ _ x0, Int.toNat_natCast, show x / 2 ^ q % 2 = 0 by omega]; rfl
    have ec : cnt x (q + 1) = cnt x q := by rw [cnt]; omega
    have HO : Hid (O + off x q = off x m) := by
     rw [off, if_neg hb] at hO
     exact hO
    rw [ec]
    clear ec hO lt l62 C
    go_wp2
    exact ⟨⟨q, O, by omega, by go_num, rfl, rfl, HO.out, hwr⟩, by simp only [intOf]; omega⟩
theorem shl_one (k : Nat) (h : k < 64) : IntKind.u64.wrap ((2 : Int) ^ k) = ((2 ^ k : Nat) : Int) := by
 have e : ((2 : Int) ^ k) = ((2 ^ k : Nat) : Int) := by rw [Int.natCast_pow]; rfl
 have := two_pow_lt k h
 rw [e, IntKind.wrap_u64]
 generalize (2 ^ k : Nat) = Z at *
 omega
theorem or_high (X p : Nat) (h : X % 2 ^ (p + 1) = 0) : X ||| 2 ^ p = X + 2 ^ p := by
 have e : X = 2 ^ (p + 1) * (X / 2 ^ (p + 1)) := by
  have := Nat.div_add_mod X (2 ^ (p + 1))
  omega
 have lt : 2 ^ p < 2 ^ (p + 1) := by rw [Nat.pow_succ]; have := Nat.two_pow_pos p; omega
 rw [e]
 exact (Nat.two_pow_add_eq_or_of_lt lt _).symm
theorem mod_down (X p : Nat) (h : X % 2 ^ (p + 1) = 0) : X % 2 ^ p = 0 := by
 have := mod_bit X p
 have q := Nat.two_pow_pos p
 omega
theorem mod_plus (X p : Nat) (h : X % 2 ^ (p + 1) = 0) : (X + 2 ^ p) % 2 ^ p = 0 := by
 rw [Nat.add_mod_right]
 exact mod_down X p h
set_option maxHeartbeats 2000000 in
theorem rblock_c (n k : Int) (o : Nat) (ho : o < 18446744073709551616) (w : World) :
  Calls Tryz.prog 105 #[.int .i64 n, .int .i64 k, .int .u64 o] w fun e w' => e = .returned (.tuple #[.int .u64 (bkX n k o), .bool (bkB n k o)]) ∧ Below w.heap.size w w' := by
 have C : Hid (∀ w0, Calls Tryz.prog 62 #[.int .i64 n, .int .i64 k] w0 fun e w' => e = .returned (.int .u64 (chN n k)) ∧ Below w0.heap.size w0 w') := fun w0 => rchoose_c n k w0
 by_cases hc : chN n k ≤ o
 ·rw [show bkX n k o = 0 by unfold bkX; rw [if_pos hc], show bkB n k o = false by unfold bkB; simp; omega]
  have hc2 : (chN n k : Int) ≤ (o : Int) := by omega
  generalize chN n k = Z at *
  go_enter Tryz.func105, Tryz.ntmps105
  go_wp2_with fail
  refine (C.out _).mono ?_
  rintro e w1 ⟨rfl, hb⟩
  go_wp2
  go_ret2
  exact ⟨rfl, hb⟩
 ·have hin : ¬ (n < 0 ∨ 62 < n ∨ k < 0 ∨ n < k) := by
   intro h
   apply hc
   unfold chN
   rw [if_pos h]
   omega
  rw [show bkX n k o = blk n.toNat k.toNat o by unfold bkX; rw [if_neg hc], show bkB n k o = true by unfold bkB; simp; omega]
  obtain ⟨a, rfl⟩ := Int.eq_ofNat_of_zero_le (show 0 ≤ n by omega)
  obtain ⟨b, rfl⟩ := Int.eq_ofNat_of_zero_le (show 0 ≤ k by omega)
  rw [Int.toNat_natCast, Int.toNat_natCast]
  have ha : a ≤ 62 := by omega
  have hba : b ≤ a := by omega
  have hc2 : ¬ ((chN a b : Nat) : Int) ≤ (o : Int) := by omega
  clear hin
  generalize chN a b = Z at *
  go_enter Tryz.func105, Tryz.ntmps105
  go_wp2_with fail
  refine (C.out _).mono ?_
  rintro e w1 ⟨rfl, hb⟩
  clear C
  go_wp2
  go_loopw [1, 2, 8, 9, 10] (fun kv ov xv i cv wr => ∃ p K O X : Nat, p ≤ a ∧ K ≤ 62 ∧ O < 18446744073709551616 ∧ i = .int .i64 ((p : Int) - 1) ∧ kv = .int .i64 K ∧ ov = .int .u64 O ∧ xv = .int .u64 X ∧ (X + blk p K O = blk a b o ∧ X % 2 ^ p = 0) ∧ Below w.heap.size w wr) (fun _ _ _ i _ _ => (intOf i + 1).toNat)
  case atStart => exact ⟨a, b, o, 0, Nat.le_refl _, by omega, ho, by go_num, rfl, rfl, rfl, ⟨by omega, by simp⟩, hb⟩
  case round =>
   obtain ⟨p, K, O, X, hp, hK, hO, rfl, rfl, rfl, rfl, ⟨hX, hM⟩, hwr⟩ := hrel
   have bX : X < 4611686018427387904 := by
    have := blk_lt a b o
    have : 2 ^ a ≤ 2 ^ 62 := Nat.pow_le_pow_right (by decide) ha
    omega
   by_cases hp0 : p = 0
   ·subst hp0
    have HX : Hid (X = blk a b o) := hX
    clear hX hM
    go_wp2
    go_ret2
    rw [← HX.out]
    exact ⟨rfl, hwr⟩
   obtain ⟨q, rfl⟩ : ∃ q, p = q + 1 := ⟨p - 1, by omega⟩
   have e1 : ((q + 1 : Nat) : Int) - 1 = (q : Int) := by omega
   rw [e1]
   have q64 : (q : Int) < 64 := by omega
   by_cases hK0 : K = 0
   ·subst hK0
    have HX : Hid (X = blk a b o) := by rw [blk_zero] at hX; exact hX
    clear hX hM
    go_wp2
    go_ret2
    rw [← HX.out]
    exact ⟨rfl, hwr⟩
   have hK1 : (0 : Int) < (K : Int) := by omega
   have D : Hid (∀ w0, Calls Tryz.prog 62 #[.int .i64 q, .int .i64 K] w0 fun e w' => e = .returned (.int .u64 (ch q K)) ∧ Below w0.heap.size w0 w') := fun w0 => by
    have := rchoose_c q K w0
    rw [chN_in q K (by omega)] at this
    exact this
   by_cases hge : ch q K ≤ O
   ·have HX : Hid (X + 2 ^ q + blk q (K - 1) (O - ch q K) = blk a b o) := by rw [blk_hi q K O hK0 hge] at hX; show _ = _; omega
    have HM : Hid ((X + 2 ^ q) % 2 ^ q = 0) := mod_plus X q hM
    have HR : Hid (bits .or .u64 (X : Int) (IntKind.u64.wrap (2 ^ q)) = ((X + 2 ^ q : Nat) : Int)) := by
     show bits .or .u64 (X : Int) (IntKind.u64.wrap (2 ^ q)) = ((X + 2 ^ q : Nat) : Int)
     rw [shl_one q (by omega), u64_or_nat _ _ (by omega) (two_pow_lt q (by omega)), or_high X q hM]
    have hge2 : ((ch q K : Nat) : Int) ≤ (O : Int) := by omega
    clear hX hM
    obtain ⟨Z2, hZ2⟩ : ∃ Z2, Hid (Z2 = ch q K) := ⟨_, rfl⟩
    rw [← hZ2.out] at D hge hge2 HX
    go_wp2_with fail
    refine (D.out _).mono ?_
    rintro e w2 ⟨rfl, hb2⟩
    have hw2 := hwr.trans (hb2.mono hwr.size)
    clear D hb2 hwr
    go_wp2
    exact ⟨⟨q, K - 1, O - Z2, X + 2 ^ q, by omega, by omega, by omega, by go_num, by go_num, by go_num, congrArg (Value.int .u64) HR.out, ⟨HX.out, HM.out⟩, hw2⟩, by simp only [intOf]; omega⟩
   ·have HX : Hid (X + blk q K O = blk a b o) := by rw [blk_lo q K O hK0 hge] at hX; exact hX
    have HM : Hid (X % 2 ^ q = 0) := mod_down X q hM
    have hge2 : ¬ ((ch q K : Nat) : Int) ≤ (O : Int) := by omega
    clear hX hM
    obtain ⟨Z2, hZ2⟩ : ∃ Z2, Hid (Z2 = ch q K) := ⟨_, rfl⟩
    rw [← hZ2.out] at D hge hge2
    go_wp2_with fail
    refine (D.out _).mono ?_
    rintro e w2 ⟨rfl, hb2⟩
    have hw2 := hwr.trans (hb2.mono hwr.size)
    clear D hb2 hwr
    go_wp2
    exact ⟨⟨q, K, O, X, by omega, hK, hO, by go_num, rfl, rfl, rfl, ⟨HX.out, HM.out⟩, hw2⟩, by simp only [intOf]; omega⟩
end Ow
end Go.Proofs.YtcaalcjcpddhaaaGreat

namespace Go.Proofs.YtcaalcjcpddhaaaGreat
open Go.RowKit Num Bit Bn
set_option linter.unusedVariables false
set_option linter.unusedSimpArgs false
set_option maxRecDepth 100000

def asI (v : Nat) : Int := IntKind.i64.wrap (v : Int)
theorem asI_ch (v : Nat) (h : v < 18446744073709551616) : chN 15 (asI v) = chN 15 v := by
 unfold asI
 by_cases c : v < 9223372036854775808
 ·have e : IntKind.i64.wrap (v : Int) = (v : Int) := by rw [IntKind.wrap_i64]; omega
  rw [e]
 ·have e : IntKind.i64.wrap (v : Int) = (v : Int) - 18446744073709551616 := by rw [IntKind.wrap_i64]; omega
  rw [e]
  unfold chN
  rw [if_pos (by omega), if_pos (by omega)]
theorem asI_wd (v : Nat) (h : v < 18446744073709551616) : wdN 15 (asI v) = wdN 15 v := by unfold wdN; rw [asI_ch v h]
theorem asI_bkB (v o : Nat) (h : v < 18446744073709551616) : bkB 15 (asI v) o = bkB 15 v o := by unfold bkB; rw [asI_ch v h]
theorem asI_bkX (v o : Nat) (h : v < 18446744073709551616) : bkX 15 (asI v) o = bkX 15 v o := by
 unfold bkX
 rw [asI_ch v h]
 by_cases c : chN 15 v ≤ o
 ·rw [if_pos c, if_pos c]
 ·rw [if_neg c, if_neg c]
  have hv : v ≤ 15 := by
   refine Nat.le_of_not_lt fun hc => c ?_
   unfold chN
   rw [if_pos (by omega)]
   omega
  have : asI v = (v : Int) := by unfold asI; rw [IntKind.wrap_i64]; omega
  rw [this]
theorem bits_take (b t : Nat) : Bit.bits b (t + 1) = Bit.bits b t ++ [b.testBit t] := by
 unfold Bit.bits
 rw [List.range_succ, List.map_append]
 rfl
theorem bvl_app (l m : List Bool) : bvl l ++ bvl m = bvl (l ++ m) := by simp [bvl]
theorem bvl_one (l : List Bool) (b : Bool) : bvl l ++ [.bool b] = bvl (l ++ [b]) := by simp [bvl]
theorem bl_own {w : World} {base n c : Nat} {ao : Option Addr} {l : List Bool} (h : w.ownsRow base 4 1 (.slice ao n c) n (bvl l)) : Bl w ao l := by
 intro h0
 have hlen : (bvl l).length = n * 1 := h.1
 have hl : l.length = n := by simp [bvl] at hlen; omega
 have hk := fun k hk => h.lt k hk
 have hc := fun g hg => h.cells (g := g) hg
 obtain ⟨_, ⟨e, e2⟩ | ⟨g, cap, cur, e, _⟩⟩ := h
 ·omega
 ·simp only [Value.slice.injEq] at e
  obtain ⟨rfl, _, rfl⟩ := e
  refine ⟨g, 0, rfl, (hk g rfl).2, fun i hi => ?_⟩
  have hu : (bvl l)[i]? = some (.bool (bt l i)) := by
   unfold bvl bt
   rw [List.getElem?_map, List.getD_eq_getElem?_getD, List.getElem?_eq_getElem hi]
   rfl
  rw [← hc g rfl i _ hu]
  unfold Addr.add
  split
  ·subst_vars; rfl
  ·simp
theorem length_decG (N : Nat) (M : Int) (ys : List Nat) : ∀ l a out r, out.length ≤ N → decG N M ys l a out = some r → r.length ≤ N := by
 intro l
 induction l with
 | nil => intro a out r h e; simp only [decG, Option.some.injEq] at e; subst e; exact h
 | cons k l ih =>
  intro a out r h e
  rw [decG] at e
  split at e
  ·refine ih _ _ r ?_ e
   unfold addB
   rw [List.length_append, length_bits]
   omega
  ·cases e
theorem Wd.cellAt {w : World} {ao : Option Addr} {l : List Nat} (h : Wd w ao l) (q : Nat) (hq : q < l.length) : ∃ b off, ao = some ⟨b, off, none⟩ ∧ w.cell? ⟨b, off + q, none⟩ = some (.int .u64 (gt l q)) := by
 obtain ⟨b, off, e, _, hc⟩ := h (by omega)
 exact ⟨b, off, e, hc q hq⟩
end Go.Proofs.YtcaalcjcpddhaaaGreat

namespace Go.Proofs.YtcaalcjcpddhaaaGreat
open Num Bit Bn
set_option linter.unusedVariables false

theorem numAt_mk (l : List Nat) (W : Nat) (hW : 1 ≤ W) (hl : ∀ i, gt l i < 2 ^ W) (i : Nat) (hi : i < l.length) : numAt W (mkS l W l.length) i = gt l i := by
 unfold numAt
 refine (eq_numOf W (gt l i) _ fun k => ?_).symm
 by_cases c : k < W
 ·unfold mkS
  have e1 : (i * W + k) / W = i := by
   rw [Nat.mul_comm, Nat.mul_add_div (by omega), Nat.div_eq_of_lt c]; omega
  have e2 : (i * W + k) % W = k := by rw [Nat.mul_comm, Nat.mul_add_mod, Nat.mod_eq_of_lt c]
  have e3 : i * W + k < l.length * W := by
   have := mul_next l.length W i hi
   omega
  rw [bitAt_rowOf, e1, e2]
  simp [c, e3]
 ·have : gt l i < 2 ^ k := Nat.lt_of_lt_of_le (hl i) (Nat.pow_le_pow_right (by decide) (by omega))
  rw [Nat.testBit_lt_two_pow this]
  simp [c]
theorem ichk_mk (l : List Nat) (W : Nat) (hW : 1 ≤ W) (hW2 : W ≤ 64) (hl : l.length * W ≤ 1048576) : ichk (l.length : Int) (W : Int) ((l.length * W : Nat) : Int) (mkS l W l.length) = true := by
 unfold ichk
 rw [Bool.and_eq_true, decide_eq_true_eq]
 refine ⟨⟨by omega, by omega, by omega, by rw [Int.natCast_mul]⟩, ?_⟩
 exact chk_rowOf _ _ hl
theorem gt_bclP (m : Nat) (f : Nat → Bool) (n i : Nat) (h : i < n) : gt (bclP m f n) i = bcl m f i := by
 unfold bclP gt
 rw [List.getD_eq_getElem?_getD, List.getElem?_map, List.getElem?_range h]
 rfl
theorem bclP_lt (m : Nat) (f : Nat → Bool) (n i : Nat) : gt (bclP m f n) i < 2 ^ 4 := by
 by_cases c : i < n
 ·rw [gt_bclP m f n i c]
  have := bcl_le m f i
  omega
 ·rw [gt_out _ _ (by rw [length_bclP]; omega)]
  decide
theorem nb_le (m : Nat) (hm : m ≤ 1048576) : nb m ≤ 69906 := by unfold nb; omega
theorem list_mk (m : Nat) (f : Nat → Bool) : (List.range (nb m)).map (numAt 4 (mkS (bclP m f (nb m)) 4 (nb m))) = bclP m f (nb m) := by
 unfold bclP
 refine List.map_congr_left fun i hi => ?_
 have hi := List.mem_range.1 hi
 have := numAt_mk (bclP m f (nb m)) 4 (by decide) (bclP_lt m f (nb m)) i (by rw [length_bclP]; exact hi)
 rw [length_bclP, gt_bclP m f _ i hi] at this
 unfold bclP at this
 exact this
theorem fr_off (m : Nat) (f : Nat → Bool) : frL (bofP m f (nb m)) = rowOf (bat m f (nb m)) fun j => (bofP m f (nb m)).getD j false := by
 unfold frL
 rw [length_bofP]
 rfl
theorem fr_row (m : Nat) (f : Nat → Bool) : frL ((List.range m).map f) = rowOf m f := by
 unfold frL
 rw [List.length_map, List.length_range]
 refine rowOf_congr m _ _ fun i hi => ?_
 unfold bt
 rw [List.getD_eq_getElem?_getD, List.getElem?_map, List.getElem?_range hi]
 rfl
theorem dec_built (m : Nat) (f : Nat → Bool) (hm : m ≤ 1048576) :
  decG m (bat m f (nb m)) (frL (bofP m f (nb m))) ((List.range (nb m)).map (numAt 4 (mkS (bclP m f (nb m)) 4 (nb m)))) 0 [] = some ((List.range m).map f) := by
 rw [list_mk, fr_off]
 have h := dec_enc m f (bat m f (nb m)) _ (reads_row m f hm) (nb m) 0 (by omega)
 rw [show min (15 * 0) m = 0 by omega] at h
 rw [← List.range_eq_range'] at h
 exact h
end Go.Proofs.YtcaalcjcpddhaaaGreat
