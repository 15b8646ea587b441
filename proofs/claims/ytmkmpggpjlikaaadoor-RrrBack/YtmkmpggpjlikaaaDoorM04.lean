/-
  A row of words of the call's own. The contract of the document's Choose. The contracts of the document's Width, Offset and Block. The contract of the document's row: the way back from classes and offsets. Rows in blocks: the classes laid by Make, the offsets laid by From, and the way back from them: plain. A region that draws its order and ends in a store over a cell that it has read: 'x.f = append(x.f, ..)'. What is held of the world (S) is asked behind every operation but the last ones (numbers ns: the stores), each of which waits for each operation that is taken first. What stands while a row in blocks is built: the boxes, and four rows that grow, each in blocks of its own. The contract of the document's row: the way back from classes and offsets. One block alone is written: what stays. A struct, or an array, whole, out of and into a block of its own. The contract of the document's Build of layer 8. What a row of one of the kinds tells, once it is known whether it may be (ok) and which bits it has (N, X): plain. Rows in blocks: when one may be, and which bits it has: plain. The contracts of the document's Check, Bits, Access, Rank and Select, over that of its Whole. The contracts of the document's Build, Whole and Size of layer 8.
-/
import Derived.Test.YtmkmpggpjlikaaaDoorM00
import Derived.Test.YtmkmpggpjlikaaaDoorM03
import Derived.WalkSmall
import Derived.OwnWalk
import Derived.RegionTactic
import Derived.BigRegion
import Derived.Deep.RegionHeld3
import Derived.Test.YtmkmpggpjlikaaaDoorM01
import Derived.Test.YtmkmpggpjlikaaaDoorM02
import Derived.OrdersHeld
import Derived.Laws.Rows
import Derived.Laws.Tables
import Derived.Deep.DeepCutAuto
namespace Go.Proofs.YtmkmpggpjlikaaaDoor
open Go.RowKit Num Bn
namespace Ow
set_option linter.unusedVariables false
set_option linter.unusedSimpArgs false
set_option maxRecDepth 100000

theorem info64 : (Tryd.prog.info? 46).map (fun i => (i.zero, i.size, i.bytes)) = some (some (.int .u64 0), 1, 8) := by kernel_rfl
theorem below_alloc (w : World) (o : Obj) : Below w.heap.size w (w.alloc o) := (Below.refl _ _).alloc (Nat.le_refl _) _

def gt (xs : List Nat) (i : Nat) : Nat := xs.getD i 0
theorem gt_get (xs : List Nat) (i : Nat) (h : i < xs.length) : xs[i]? = some (gt xs i) := by
  unfold gt
  rw [List.getD_eq_getElem?_getD, List.getElem?_eq_getElem h]; rfl
theorem gt_map (f : Nat → Nat) (n i : Nat) (h : i < n) : gt ((List.range n).map f) i = f i := by
  unfold gt
  rw [List.getD_eq_getElem?_getD, List.getElem?_map, List.getElem?_range h]; rfl
theorem gt_set (ys : List Nat) (j i v : Nat) (hj : j < ys.length) : gt (ys.set j v) i = if j = i then v else gt ys i := by
  unfold gt
  rw [List.getD_eq_getElem?_getD, List.getD_eq_getElem?_getD, List.getElem?_set]
  by_cases c : j = i
  · subst c; simp [hj]
  · simp [c]
theorem list_ext {xs ys : List Nat} (hl : xs.length = ys.length) (h : ∀ i, i < xs.length → gt xs i = gt ys i) : xs = ys := by
  refine List.ext_getElem? fun i => ?_
  by_cases c : i < xs.length
  · rw [gt_get xs i c, gt_get ys i (by omega), h i c]
  · rw [List.getElem?_eq_none (by omega), List.getElem?_eq_none (by omega)]

def wv (ys : List Nat) : List Value := ys.map fun y : Nat => Value.int .u64 (y : Int)
theorem length_wv (ys : List Nat) : (wv ys).length = ys.length := by simp [wv]
def Own (w : World) (g : Nat) (ys : List Nat) : Prop := w.heap[g]? = some (.cells (wv ys).toArray 46 (0, 0))
theorem own_made {w : World} {base g n : Nat} (h : w.ownsRow base 46 1 (.slice (some ⟨g, 0, none⟩) n n) n (madeCells #[.int .u64 0] n).toList) : Own w g (List.replicate n 0) := by
  obtain ⟨_, h | ⟨g', cap, cur, e, _, hh, _, _, hs, ht⟩⟩ := h
  · simp at h
  · simp only [Value.slice.injEq, Option.some.injEq, Addr.mk.injEq] at e
    obtain ⟨⟨rfl, _, _⟩, _, rfl⟩ := e
    unfold Own
    rw [hh]
    have e2 : (madeCells #[.int .u64 0] n).toList = wv (List.replicate n 0) := by
      rw [toList_madeCells_one (.int .u64 0) n, wv, List.map_replicate]
      rfl
    rw [e2] at ht
    have e3 : cur.toList.take (n * 1) = cur.toList := List.take_of_length_le (by simp; omega)
    rw [e3] at ht
    rw [← ht]
theorem Own.cell {w : World} {g : Nat} {ys : List Nat} (h : Own w g ys) (j : Nat) (hj : j < ys.length) : w.cell? ⟨g, j, none⟩ = some (.int .u64 (gt ys j)) := by
  unfold World.cell?
  rw [show w.heap[({ block := g, off := j, spot := none } : Addr).block]? = _ from h]
  simp only [List.getElem?_toArray, wv, List.getElem?_map, gt_get ys j hj]
  rfl
theorem Own.frozen {w : World} {g : Nat} {ys : List Nat} (h : Own w g ys) (j : Nat) : w.frozen? ⟨g, j, none⟩ = false := by
  unfold World.frozen?
  rw [show w.heap[({ block := g, off := j, spot := none } : Addr).block]? = _ from h]
  simp
theorem Own.lt {w : World} {g : Nat} {ys : List Nat} (h : Own w g ys) : g < w.heap.size := (Array.getElem?_eq_some_iff.1 h).1
theorem Own.set {w : World} {g : Nat} {ys : List Nat} (h : Own w g ys) (j v : Nat) : Own (w.setCell ⟨g, j, none⟩ (.int .u64 v)) g (ys.set j v) := by
  unfold Own at h ⊢
  simp only [World.setCell, Array.getElem?_modify]
  rw [if_pos trivial, h]
  simp [wv, List.map_set]
theorem Own.drew {w : World} {g : Nat} {ys : List Nat} (h : Own w g ys) : Own w.drew g ys := h

/-- Row i of the triangle, in n + 1 places. -/
def rowP (n i : Nat) : List Nat := (List.range (n + 1)).map (ch i)
/-- Row i above place j, row i - 1 up to it. -/
def pas (n i j : Nat) : List Nat := (List.range (n + 1)).map fun t => if j < t then ch i t else ch (i - 1) t
theorem length_pas (n i j : Nat) : (pas n i j).length = n + 1 := by simp [pas]
theorem length_rowP (n i : Nat) : (rowP n i).length = n + 1 := by simp [rowP]
theorem pas_first (n i : Nat) : pas n i i = rowP n (i - 1) := by
  unfold pas rowP
  refine List.map_congr_left fun t _ => ?_
  by_cases c : i < t
  · rw [if_pos c, ch_out i t c, ch_out (i - 1) t (by omega)]
  · rw [if_neg c]
theorem pas_last (n i : Nat) : pas n i 0 = rowP n i := by
  unfold pas rowP
  refine List.map_congr_left fun t _ => ?_
  by_cases c : 0 < t
  · rw [if_pos c]
  · obtain rfl : t = 0 := by omega
    rw [if_neg c, ch_zero, ch_zero]
theorem gt_pas (n i j t : Nat) (h : t ≤ n) : gt (pas n i j) t = if j < t then ch i t else ch (i - 1) t := gt_map _ _ _ (by omega)
theorem gt_rowP (n i t : Nat) (h : t ≤ n) : gt (rowP n i) t = ch i t := gt_map _ _ _ (by omega)
theorem pas_step (n i j : Nat) (hi : 1 ≤ i) (hj : 1 ≤ j) (hn : j ≤ n) : (pas n i j).set j (ch (i - 1) j + ch (i - 1) (j - 1)) = pas n i (j - 1) := by
  refine list_ext (by rw [List.length_set, length_pas, length_pas]) fun t ht => ?_
  rw [List.length_set, length_pas] at ht
  rw [gt_set _ _ _ _ (by rw [length_pas]; omega), gt_pas _ _ _ _ (by omega), gt_pas _ _ _ _ (by omega)]
  by_cases c : j = t
  · subst c
    obtain ⟨a, rfl⟩ : ∃ a, i = a + 1 := ⟨i - 1, by omega⟩
    obtain ⟨b, rfl⟩ : ∃ b, j = b + 1 := ⟨j - 1, by omega⟩
    rw [if_pos rfl, if_pos (by omega), ch_succ, Nat.add_sub_cancel, Nat.add_sub_cancel]
    omega
  · rw [if_neg c]
    by_cases d : j < t
    · rw [if_pos d, if_pos (by omega)]
    · rw [if_neg d, if_neg (by omega)]
theorem row_start (n : Nat) : (List.replicate (n + 1) 0).set 0 1 = rowP n 0 := by
  refine list_ext (by rw [List.length_set, length_rowP, List.length_replicate]) fun t ht => ?_
  rw [List.length_set, List.length_replicate] at ht
  rw [gt_set _ _ _ _ (by simp), gt_rowP _ _ _ (by omega)]
  by_cases c : 0 = t
  · subst c; rw [if_pos rfl, ch_zero]
  · rw [if_neg c, ch_out 0 t (by omega)]
    unfold gt
    rw [List.getD_eq_getElem?_getD, List.getElem?_replicate]
    split <;> rfl
end Ow
end Go.Proofs.YtmkmpggpjlikaaaDoor

namespace Go.Proofs.YtmkmpggpjlikaaaDoor
open Go.RowKit Num Bn
namespace Ow
set_option linter.unusedVariables false
set_option linter.unusedSimpArgs false
set_option maxRecDepth 100000

end Ow
end Go.Proofs.YtmkmpggpjlikaaaDoor

namespace Go.Proofs.YtmkmpggpjlikaaaDoor
open Go.RowKit Num Bn
namespace Ow
set_option linter.unusedVariables false
set_option linter.unusedSimpArgs false
set_option maxRecDepth 100000

theorem shl_one (k : Nat) (h : k < 64) : IntKind.u64.wrap ((2 : Int) ^ k) = ((2 ^ k : Nat) : Int) := by
  have e : ((2 : Int) ^ k) = ((2 ^ k : Nat) : Int) := by rw [Int.natCast_pow]; rfl
  have := two_pow_lt k h
  rw [e, IntKind.wrap_u64]
  generalize (2 ^ k : Nat) = Z at *
  omega
theorem or_high (X p : Nat) (h : X % 2 ^ (p + 1) = 0) : X ||| 2 ^ p = X + 2 ^ p := by
  have e : X = 2 ^ (p + 1) * (X / 2 ^ (p + 1)) := by
    have := Nat.div_add_mod X (2 ^ (p + 1))
    omega
  have lt : 2 ^ p < 2 ^ (p + 1) := by rw [Nat.pow_succ]; have := Nat.two_pow_pos p; omega
  rw [e]
  exact (Nat.two_pow_add_eq_or_of_lt lt _).symm
theorem mod_down (X p : Nat) (h : X % 2 ^ (p + 1) = 0) : X % 2 ^ p = 0 := by
  have := mod_bit X p
  have q := Nat.two_pow_pos p
  omega
theorem mod_plus (X p : Nat) (h : X % 2 ^ (p + 1) = 0) : (X + 2 ^ p) % 2 ^ p = 0 := by
  rw [Nat.add_mod_right]
  exact mod_down X p h

end Ow
end Go.Proofs.YtmkmpggpjlikaaaDoor

namespace Go.Proofs.YtmkmpggpjlikaaaDoor
open Go.RowKit Num Bit Bn
set_option linter.unusedVariables false
set_option linter.unusedSimpArgs false
set_option maxRecDepth 100000

/-- The class, as an int. -/
def asI (v : Nat) : Int := IntKind.i64.wrap (v : Int)
theorem asI_ch (v : Nat) (h : v < 18446744073709551616) : chN 15 (asI v) = chN 15 v := by
  unfold asI
  by_cases c : v < 9223372036854775808
  · have e : IntKind.i64.wrap (v : Int) = (v : Int) := by rw [IntKind.wrap_i64]; omega
    rw [e]
  · have e : IntKind.i64.wrap (v : Int) = (v : Int) - 18446744073709551616 := by rw [IntKind.wrap_i64]; omega
    rw [e]
    unfold chN
    rw [if_pos (by omega), if_pos (by omega)]
theorem asI_wd (v : Nat) (h : v < 18446744073709551616) : wdN 15 (asI v) = wdN 15 v := by unfold wdN; rw [asI_ch v h]
theorem asI_bkB (v o : Nat) (h : v < 18446744073709551616) : bkB 15 (asI v) o = bkB 15 v o := by unfold bkB; rw [asI_ch v h]
theorem asI_bkX (v o : Nat) (h : v < 18446744073709551616) : bkX 15 (asI v) o = bkX 15 v o := by
  unfold bkX
  rw [asI_ch v h]
  by_cases c : chN 15 v ≤ o
  · rw [if_pos c, if_pos c]
  · rw [if_neg c, if_neg c]
    have hv : v ≤ 15 := by
      refine Nat.le_of_not_lt fun hc => c ?_
      unfold chN
      rw [if_pos (by omega)]
      omega
    have : asI v = (v : Int) := by unfold asI; rw [IntKind.wrap_i64]; omega
    rw [this]
theorem asI_bound (v : Nat) (h : v < 18446744073709551616) : -9223372036854775808 ≤ asI v ∧ asI v ≤ 9223372036854775807 := by
  unfold asI
  rw [IntKind.wrap_i64]
  omega
theorem bits_take (b t : Nat) : Bit.bits b (t + 1) = Bit.bits b t ++ [b.testBit t] := by
  unfold Bit.bits
  rw [List.range_succ, List.map_append]
  rfl
theorem bvl_app (l m : List Bool) : bvl l ++ bvl m = bvl (l ++ m) := by simp [bvl]
theorem bvl_one (l : List Bool) (b : Bool) : bvl l ++ [.bool b] = bvl (l ++ [b]) := by simp [bvl]
theorem bl_own {w : World} {base n c : Nat} {ao : Option Addr} {l : List Bool} (h : w.ownsRow base 4 1 (.slice ao n c) n (bvl l)) : Bl w ao l := by
  intro h0
  have hlen : (bvl l).length = n * 1 := h.1
  have hl : l.length = n := by simp [bvl] at hlen; omega
  have hk := fun k hk => h.lt k hk
  have hc := fun g hg => h.cells (g := g) hg
  obtain ⟨_, ⟨e, e2⟩ | ⟨g, cap, cur, e, _⟩⟩ := h
  · omega
  · simp only [Value.slice.injEq] at e
    obtain ⟨rfl, _, rfl⟩ := e
    refine ⟨g, 0, rfl, (hk g rfl).2, fun i hi => ?_⟩
    have hu : (bvl l)[i]? = some (.bool (bt l i)) := by
      unfold bvl bt
      rw [List.getElem?_map, List.getD_eq_getElem?_getD, List.getElem?_eq_getElem hi]
      rfl
    rw [← hc g rfl i _ hu]
    unfold Addr.add
    split
    · subst_vars; rfl
    · simp
theorem length_decG (N : Nat) (M : Int) (ys : List Nat) : ∀ l a out r, out.length ≤ N → decG N M ys l a out = some r → r.length ≤ N := by
  intro l
  induction l with
  | nil => intro a out r h e; simp only [decG, Option.some.injEq] at e; subst e; exact h
  | cons k l ih =>
    intro a out r h e
    rw [decG] at e
    split at e
    · refine ih _ _ r ?_ e
      unfold addB
      rw [List.length_append, length_bits]
      omega
    · cases e
theorem Wd.cellAt {w : World} {ao : Option Addr} {l : List Nat} (h : Wd w ao l) (q : Nat) (hq : q < l.length) : ∃ b off, ao = some ⟨b, off, none⟩ ∧ w.cell? ⟨b, off + q, none⟩ = some (.int .u64 (gt l q)) := by
  obtain ⟨b, off, e, _, hc⟩ := h (by omega)
  exact ⟨b, off, e, hc q hq⟩
end Go.Proofs.YtmkmpggpjlikaaaDoor

namespace Go.Proofs.YtmkmpggpjlikaaaDoor
open Num Bit Bn
set_option linter.unusedVariables false

theorem numAt_mk (l : List Nat) (W : Nat) (hW : 1 ≤ W) (hl : ∀ i, gt l i < 2 ^ W) (i : Nat) (hi : i < l.length) : numAt W (mkS l W l.length) i = gt l i := by
  unfold numAt
  refine (eq_numOf W (gt l i) _ fun k => ?_).symm
  by_cases c : k < W
  · unfold mkS
    have e1 : (i * W + k) / W = i := by
      rw [Nat.mul_comm, Nat.mul_add_div (by omega), Nat.div_eq_of_lt c]; omega
    have e2 : (i * W + k) % W = k := by rw [Nat.mul_comm, Nat.mul_add_mod, Nat.mod_eq_of_lt c]
    have e3 : i * W + k < l.length * W := by
      have := mul_next l.length W i hi
      omega
    rw [bitAt_rowOf, e1, e2]
    simp [c, e3]
  · have : gt l i < 2 ^ k := Nat.lt_of_lt_of_le (hl i) (Nat.pow_le_pow_right (by decide) (by omega))
    rw [Nat.testBit_lt_two_pow this]
    simp [c]
theorem ichk_mk (l : List Nat) (W : Nat) (hW : 1 ≤ W) (hW2 : W ≤ 64) (hl : l.length * W ≤ 1048576) : ichk (l.length : Int) (W : Int) ((l.length * W : Nat) : Int) (mkS l W l.length) = true := by
  unfold ichk
  rw [Bool.and_eq_true, decide_eq_true_eq]
  refine ⟨⟨by omega, by omega, by omega, by rw [Int.natCast_mul]⟩, ?_⟩
  exact chk_rowOf _ _ hl
theorem gt_bclP (m : Nat) (f : Nat → Bool) (n i : Nat) (h : i < n) : gt (bclP m f n) i = bcl m f i := by
  unfold bclP gt
  rw [List.getD_eq_getElem?_getD, List.getElem?_map, List.getElem?_range h]
  rfl
theorem bclP_lt (m : Nat) (f : Nat → Bool) (n i : Nat) : gt (bclP m f n) i < 2 ^ 4 := by
  by_cases c : i < n
  · rw [gt_bclP m f n i c]
    have := bcl_le m f i
    omega
  · rw [gt_out _ _ (by rw [length_bclP]; omega)]
    decide
theorem nb_le (m : Nat) (hm : m ≤ 1048576) : nb m ≤ 69906 := by unfold nb; omega
theorem list_mk (m : Nat) (f : Nat → Bool) : (List.range (nb m)).map (numAt 4 (mkS (bclP m f (nb m)) 4 (nb m))) = bclP m f (nb m) := by
  unfold bclP
  refine List.map_congr_left fun i hi => ?_
  have hi := List.mem_range.1 hi
  have := numAt_mk (bclP m f (nb m)) 4 (by decide) (bclP_lt m f (nb m)) i (by rw [length_bclP]; exact hi)
  rw [length_bclP, gt_bclP m f _ i hi] at this
  unfold bclP at this
  exact this
theorem fr_off (m : Nat) (f : Nat → Bool) : frL (bofP m f (nb m)) = rowOf (bat m f (nb m)) fun j => (bofP m f (nb m)).getD j false := by
  unfold frL
  rw [length_bofP]
  rfl
theorem fr_row (m : Nat) (f : Nat → Bool) : frL ((List.range m).map f) = rowOf m f := by
  unfold frL
  rw [List.length_map, List.length_range]
  refine rowOf_congr m _ _ fun i hi => ?_
  unfold bt
  rw [List.getD_eq_getElem?_getD, List.getElem?_map, List.getElem?_range hi]
  rfl
/-- The way back from what is built is the row. -/
theorem dec_built (m : Nat) (f : Nat → Bool) (hm : m ≤ 1048576) :
    decG m (bat m f (nb m)) (frL (bofP m f (nb m))) ((List.range (nb m)).map (numAt 4 (mkS (bclP m f (nb m)) 4 (nb m)))) 0 [] = some ((List.range m).map f) := by
  rw [list_mk, fr_off]
  have h := dec_enc m f (bat m f (nb m)) _ (reads_row m f hm) (nb m) 0 (by omega)
  rw [show min (15 * 0) m = 0 by omega] at h
  rw [← List.range_eq_range'] at h
  exact h
end Go.Proofs.YtmkmpggpjlikaaaDoor

namespace Go.Proofs.YtmkmpggpjlikaaaDoor
open Go

section
variable {P : Program} {ops : Array Oper} {Q : Exit → Act → World → Prop} {md : Region.Mode} {S : World → Prop} {ns : List Nat}

def AnyG (P : Program) (md : Region.Mode) (ops : Array Oper) (Q : Exit → Act → World → Prop) (S : World → Prop) (ns : List Nat) : Nat → Array Bool → Act → World → Prop
  | 0, l, a, w => Region.ready md ops l = [] ∧ Q .normal a w
  | f + 1, l, a, w => (Region.ready md ops l = [] → Q .normal a w) ∧ ∀ i ∈ Region.ready md ops l, wpOp P ops Q i (fun a' w' => (i ∉ ns → S w → S w') ∧ AnyG P md ops Q S ns f (l.setIfInBounds i true) a' w') a w

theorem AnyG.any : ∀ f l a w, AnyG P md ops Q S ns f l a w → wpAny P md ops Q f l a w
  | 0, _, _, _, h => h
  | f + 1, _, _, _, h => ⟨h.1, fun i hi => wpOp_mono (fun a' w' h' => AnyG.any f _ a' w' h'.2) (h.2 i hi)⟩

/-- Operation n waits for operation i (or there is no such operation). -/
def waits (md : Region.Mode) (ops : Array Oper) (n i : Nat) : Bool :=
  match ops[n]? with
  | some o => o.after.any fun e => Region.binds md e && e.on == i
  | none => true

theorem waits_not {n i : Nat} {l : Array Bool} (hw : waits md ops n i = true) (hi : l.getD i true = false) : n ∉ Region.ready md ops l := by
  intro hn
  obtain ⟨_, o, ho, hall⟩ := mem_ready.1 hn
  unfold waits at hw
  rw [ho] at hw
  obtain ⟨e, he, hb⟩ := Array.any_eq_true'.1 hw
  simp only [Bool.and_eq_true, beq_iff_eq] at hb
  have h1 := hall e he hb.1
  rw [hb.2] at h1
  rcases Nat.lt_or_ge i l.size with h' | h'
  · simp [h'] at hi h1; rw [hi] at h1; cases h1
  · simp [Array.getElem?_eq_none h'] at h1

theorem AnyG.first {i : Nat} {oi : Oper} {v : Value} (hi : ops[i]? = some oi) (hsel : Region.noSelect ops = true) (hQ : ∀ c a w, Q (.panic c) (a.put oi.dst v) w → Q (.panic c) a w) (hw : ns.all (fun n => waits md ops n i) = true) :
    ∀ f l a w, (∀ j oj, ops[j]? = some oj → j ≠ i → l.getD j true = false → (∀ e ∈ oj.after, Region.binds md e = true → e.on ≠ i) → oi.apart ops oj = true) →
      i ∈ Region.ready md ops l → YieldsIf P ops S oi v a → S w → AnyG P md ops Q S ns f (l.setIfInBounds i true) (a.put oi.dst v) w → AnyG P md ops Q S ns (f + 1) l a w := by
  intro f
  induction f with
  | zero =>
    intro l a w _ hr hy hS H
    refine ⟨fun h => absurd hr (by rw [h]; simp), fun j hj => ?_⟩
    by_cases c : j = i
    · subst c; exact hy.wpOp hi hS ⟨fun _ h => h, H⟩
    · have h1 := ready_mono hj c
      rw [H.1] at h1
      exact absurd h1 (by simp)
  | succ f ih =>
    intro l a w hfree hr hy hS H
    refine ⟨fun h => absurd hr (by rw [h]; simp), fun j hj => ?_⟩
    by_cases c : j = i
    · subst c; exact hy.wpOp hi hS ⟨fun _ h => h, H⟩
    have hun := (mem_ready.1 hr).1
    have hjn : j ∉ ns := fun e => waits_not (List.all_eq_true.1 hw j e) hun hj
    obtain ⟨hjun, oj, hoj, hall⟩ := mem_ready.1 hj
    have hnot : ∀ e ∈ oj.after, Region.binds md e = true → e.on ≠ i := by
      intro e he hb heq
      have h1 := hall e he hb
      rw [heq] at h1
      rcases Nat.lt_or_ge i l.size with h' | h'
      · simp [h'] at hun h1; rw [hun] at h1; cases h1
      · simp [Array.getElem?_eq_none h'] at h1
    have h2 := wpOp_putIf hoj (hfree j oj hoj c hjun hnot) (fun cs b => Region.noSelect_spec hsel i oi cs b hi) (fun cs b => Region.noSelect_spec hsel j oj cs b hoj) hQ hy (H.2 j (ready_mono hj c))
    refine wpOp_mono (fun a' w' h3 => ⟨h3.2.1, ih (l.setIfInBounds j true) a' w' ?_ (ready_mono hr (Ne.symm c)) h3.1 (h3.2.1 hjn hS) ?_⟩) h2
    · intro k ok hk hki hku hno
      refine hfree k ok hk hki ?_ hno
      by_cases e : j = k
      · subst e; exact hjun
      · rw [getD_set_ne true e] at hku; exact hku
    · rw [Array.setIfInBounds_comm _ _ c]
      exact h3.2.2

/-- The same for an operation that yields its value whatever the world is: nothing need wait for it. -/
theorem AnyG.firstW {i : Nat} {oi : Oper} {v : Value} (hi : ops[i]? = some oi) (hsel : Region.noSelect ops = true) (hQ : ∀ c a w, Q (.panic c) (a.put oi.dst v) w → Q (.panic c) a w) :
    ∀ f l a w, (∀ j oj, ops[j]? = some oj → j ≠ i → l.getD j true = false → (∀ e ∈ oj.after, Region.binds md e = true → e.on ≠ i) → oi.apart ops oj = true) →
      i ∈ Region.ready md ops l → YieldsIf P ops (fun _ => True) oi v a → AnyG P md ops Q S ns f (l.setIfInBounds i true) (a.put oi.dst v) w → AnyG P md ops Q S ns (f + 1) l a w := by
  intro f
  induction f with
  | zero =>
    intro l a w _ hr hy H
    refine ⟨fun h => absurd hr (by rw [h]; simp), fun j hj => ?_⟩
    by_cases c : j = i
    · subst c; exact hy.wpOp hi trivial ⟨fun _ h => h, H⟩
    · have h1 := ready_mono hj c
      rw [H.1] at h1
      exact absurd h1 (by simp)
  | succ f ih =>
    intro l a w hfree hr hy H
    refine ⟨fun h => absurd hr (by rw [h]; simp), fun j hj => ?_⟩
    by_cases c : j = i
    · subst c; exact hy.wpOp hi trivial ⟨fun _ h => h, H⟩
    have hun := (mem_ready.1 hr).1
    obtain ⟨hjun, oj, hoj, hall⟩ := mem_ready.1 hj
    have hnot : ∀ e ∈ oj.after, Region.binds md e = true → e.on ≠ i := by
      intro e he hb heq
      have h1 := hall e he hb
      rw [heq] at h1
      rcases Nat.lt_or_ge i l.size with h' | h'
      · simp [h'] at hun h1; rw [hun] at h1; cases h1
      · simp [Array.getElem?_eq_none h'] at h1
    have h2 := wpOp_putIf hoj (hfree j oj hoj c hjun hnot) (fun cs b => Region.noSelect_spec hsel i oi cs b hi) (fun cs b => Region.noSelect_spec hsel j oj cs b hoj) hQ hy (H.2 j (ready_mono hj c))
    refine wpOp_mono (fun a' w' h3 => ⟨h3.2.1, ih (l.setIfInBounds j true) a' w' ?_ (ready_mono hr (Ne.symm c)) h3.1 ?_⟩) h2
    · intro k ok hk hki hku hno
      refine hfree k ok hk hki ?_ hno
      by_cases e : j = k
      · subst e; exact hjun
      · rw [getD_set_ne true e] at hku; exact hku
    · rw [Array.setIfInBounds_comm _ _ c]
      exact h3.2.2
/-- Take number i first, whatever the world is. -/
theorem AnyG.takeW (i : Nat) {oi : Oper} {v : Value} {f : Nat} {l : Array Bool} {a : Act} {w : World} (hi : ops[i]? = some oi) (hs : Region.noSelect ops = true) (hf : Region.free md ops l i = true) (hr : (Region.ready md ops l).contains i = true)
    (hQ : ∀ c a w, Q (.panic c) (a.put oi.dst v) w → Q (.panic c) a w) (hy : ∀ w0, (execOp a.eval oi).run P w0 = .ok (.value v) w0) (hwn : Region.wanted oi (yielded ops a.tmps) = true)
    (h : AnyG P md ops Q S ns f (l.setIfInBounds i true) (a.put oi.dst v) w) : AnyG P md ops Q S ns (f + 1) l a w :=
  AnyG.firstW hi hs hQ f l a w (Region.free_spec hi hf) (by simpa using hr) (.inl ⟨hwn, fun w0 _ => hy w0⟩) h

/-- Take number i first. -/
theorem AnyG.take (i : Nat) {oi : Oper} {v : Value} {f : Nat} {l : Array Bool} {a : Act} {w : World} (hi : ops[i]? = some oi) (hs : Region.noSelect ops = true) (hf : Region.free md ops l i = true) (hr : (Region.ready md ops l).contains i = true) (hw : ns.all (fun n => waits md ops n i) = true)
    (hQ : ∀ c a w, Q (.panic c) (a.put oi.dst v) w → Q (.panic c) a w) (hS : S w) (hy : ∀ w0, S w0 → (execOp a.eval oi).run P w0 = .ok (.value v) w0) (hwn : Region.wanted oi (yielded ops a.tmps) = true)
    (h : AnyG P md ops Q S ns f (l.setIfInBounds i true) (a.put oi.dst v) w) : AnyG P md ops Q S ns (f + 1) l a w :=
  AnyG.first hi hs hQ hw f l a w (Region.free_spec hi hf) (by simpa using hr) (.inl ⟨hwn, hy⟩) hS h

/-- Number i alone may come up. -/
theorem AnyG.one (i : Nat) {o : Oper} {f : Nat} {l : Array Bool} {a : Act} {w : World} (hr : Region.ready md ops l = [i]) (ho : ops[i]? = some o)
    (h : ∀ K : Act → World → Prop, Shut (∀ a' w', (i ∉ ns → S w') → AnyG P md ops Q S ns f (l.setIfInBounds i true) a' w' → K a' w') → if Region.wanted o (yielded ops a.tmps) = true then Oper.wp P o a w K Q else K (a.put o.dst undef) w) :
    AnyG P md ops Q S ns (f + 1) l a w := by
  refine ⟨fun h0 => absurd (hr.symm.trans h0) (by simp), fun j hj => ?_⟩
  rw [hr] at hj
  obtain rfl := List.mem_singleton.1 hj
  exact wpOp_step ho (fun K hK => h K (fun a' w' hS hW => hK a' w' ⟨fun n _ => hS n, hW⟩))

/-- Numbers i and j may come up. -/
theorem AnyG.two (i j : Nat) {o p : Oper} {f : Nat} {l : Array Bool} {a : Act} {w : World} (hr : Region.ready md ops l = [i, j]) (ho : ops[i]? = some o) (hp : ops[j]? = some p)
    (h : ∀ K : Act → World → Prop, Shut (∀ a' w', (i ∉ ns → S w') → AnyG P md ops Q S ns f (l.setIfInBounds i true) a' w' → K a' w') → if Region.wanted o (yielded ops a.tmps) = true then Oper.wp P o a w K Q else K (a.put o.dst undef) w)
    (h2 : ∀ K : Act → World → Prop, Shut (∀ a' w', (j ∉ ns → S w') → AnyG P md ops Q S ns f (l.setIfInBounds j true) a' w' → K a' w') → if Region.wanted p (yielded ops a.tmps) = true then Oper.wp P p a w K Q else K (a.put p.dst undef) w) :
    AnyG P md ops Q S ns (f + 1) l a w := by
  refine ⟨fun h0 => absurd (hr.symm.trans h0) (by simp), fun k hk => ?_⟩
  rw [hr] at hk
  rcases List.mem_cons.1 hk with rfl | hk
  · exact wpOp_step ho (fun K hK => h K (fun a' w' hS hW => hK a' w' ⟨fun n _ => hS n, hW⟩))
  · obtain rfl := List.mem_singleton.1 hk
    exact wpOp_step hp (fun K hK => h2 K (fun a' w' hS hW => hK a' w' ⟨fun n _ => hS n, hW⟩))

theorem AnyG.done {l : Array Bool} {a : Act} {w : World} (hr : Region.ready md ops l = []) (h : Q .normal a w) : ∀ f, AnyG P md ops Q S ns f l a w
  | 0 => ⟨hr, h⟩
  | _ + 1 => ⟨fun _ => h, by rw [hr]; simp⟩

/-- The beginning. -/
theorem region_g (ns : List Nat) (S : World → Prop) {id : Nat} {a : Act} {w : World} (hm : P.follows .mixedOrders = true) (h : AnyG P .any ops Q S ns ops.size (Array.replicate ops.size false) a w.drew) : (Code.region id ops true).wp P Q a w :=
  wp_region_any hm (AnyG.any _ _ _ _ h)
end
end Go.Proofs.YtmkmpggpjlikaaaDoor

namespace Go.Proofs.YtmkmpggpjlikaaaDoor
open Go.RowKit Num Bit Bn
set_option linter.unusedVariables false
set_option linter.unusedSimpArgs false
set_option maxRecDepth 100000

theorem info3_8 : (Tryd.prog.info? 3).map (fun i => (i.zero, i.size, i.bytes)) = some (some (.int .i64 0), 1, 8) := by kernel_rfl
def iv8 (l : List Int) : List Value := l.map fun n : Int => Value.int .i64 n
def onL (m : Nat) (f : Nat → Bool) (G : Nat) : List Int := (List.range G).map fun j => (bon m f (8 * j) : Int)
def ptL (m : Nat) (f : Nat → Bool) (G : Nat) : List Int := (List.range G).map fun j => (bat m f (8 * j) : Int)
theorem onL_succ (m : Nat) (f : Nat → Bool) (G : Nat) : iv8 (onL m f G) ++ [.int .i64 (bon m f (8 * G))] = iv8 (onL m f (G + 1)) := by
  unfold onL iv8
  rw [List.range_succ, List.map_append, List.map_append]
  rfl
theorem ptL_succ (m : Nat) (f : Nat → Bool) (G : Nat) : iv8 (ptL m f G) ++ [.int .i64 (bat m f (8 * G))] = iv8 (ptL m f (G + 1)) := by
  unfold ptL iv8
  rw [List.range_succ, List.map_append, List.map_append]
  rfl
theorem bclP_succ (m : Nat) (f : Nat → Bool) (p : Nat) : wv (bclP m f p) ++ [.int .u64 (bcl m f p)] = wv (bclP m f (p + 1)) := by
  unfold bclP wv
  rw [List.range_succ, List.map_append, List.map_append]
  rfl
theorem bofP_succ (m : Nat) (f : Nat → Bool) (p : Nat) : bvl (bofP m f p) ++ bvl (Bit.bits (bof m f p) (bwd m f p)) = bvl (bofP m f (p + 1)) := by
  rw [bvl_app, bofP]

/-- The boxes. -/
structure R8 (w wr : World) (m n cap : Nat) (ao : Option Addr) (g : Nat) (ov pv : Value) : Prop where
  b1 : Cel wr w.heap.size [.int .i64 m, .slice ao n cap] 24
  b2 : Cel wr (w.heap.size + 1) [.int .i64 0, .int .i64 0, .int .i64 0, .int .i64 0, .slice none 0 0, .int .i64 0, .slice none 0 0, .slice none 0 0, .slice none 0 0] 31
  bx : Cel wr g [.int .i64 m, .int .i64 0, .int .i64 0, .int .i64 0, .slice none 0 0, .int .i64 0, .slice none 0 0, ov, pv] 31
  hg : w.heap.size + 1 < g
  hw : Below w.heap.size w wr
theorem R8.keep {w wr w' : World} {m n cap : Nat} {ao : Option Addr} {g : Nat} {ov pv : Value} (h : R8 w wr m n cap ao g ov pv) {base : Nat} (hb : Below base wr w') (hg : g < base) : R8 w w' m n cap ao g ov pv :=
  have := h.hg
  ⟨h.b1.keep hb (by omega), h.b2.keep hb (by omega), h.bx.keep hb hg, h.hg, h.hw.trans (hb.mono (by omega))⟩
theorem R8.ones {w wr : World} {m n cap : Nat} {ao : Option Addr} {g : Nat} {ov pv : Value} (h : R8 w wr m n cap ao g ov pv) (v : Value) : R8 w (wr.setCell ⟨g, 7, none⟩ v) m n cap ao g v pv :=
  have := h.hg
  ⟨h.b1.other (by show w.heap.size ≠ g; omega) v, h.b2.other (by show w.heap.size + 1 ≠ g; omega) v, h.bx.set 7 v, h.hg, h.hw.setCell (by show w.heap.size ≤ g; omega) _⟩
theorem R8.pts {w wr : World} {m n cap : Nat} {ao : Option Addr} {g : Nat} {ov pv : Value} (h : R8 w wr m n cap ao g ov pv) (v : Value) : R8 w (wr.setCell ⟨g, 8, none⟩ v) m n cap ao g ov v :=
  have := h.hg
  ⟨h.b1.other (by show w.heap.size ≠ g; omega) v, h.b2.other (by show w.heap.size + 1 ≠ g; omega) v, h.bx.set 8 v, h.hg, h.hw.setCell (by show w.heap.size ≤ g; omega) _⟩

/-- The rows. -/
structure RW (wr : World) (b : Nat) (cv fv ov pv : Value) (p1 p2 G1 G2 m : Nat) (f : Nat → Bool) : Prop where
  c : wr.ownsRow b 46 1 cv p1 (wv (bclP m f p1))
  o : wr.ownsRow b 4 1 fv (bat m f p2) (bvl (bofP m f p2))
  n : wr.ownsRow b 3 1 ov G1 (iv8 (onL m f G1))
  t : wr.ownsRow b 3 1 pv G2 (iv8 (ptL m f G2))
  co : Ap.Apart cv fv
  cn : Ap.Apart cv ov
  ct : Ap.Apart cv pv
  on : Ap.Apart fv ov
  ot : Ap.Apart fv pv
  nt : Ap.Apart ov pv
theorem RW.keep {wr w2 : World} {b : Nat} {cv fv ov pv : Value} {p1 p2 G1 G2 m : Nat} {f : Nat → Bool} (h : RW wr b cv fv ov pv p1 p2 G1 G2 m f) (hb : Below wr.heap.size wr w2) : RW w2 b cv fv ov pv p1 p2 G1 G2 m f :=
  ⟨Ap.owns_below h.c hb, Ap.owns_below h.o hb, Ap.owns_below h.n hb, Ap.owns_below h.t hb, h.co, h.cn, h.ct, h.on, h.ot, h.nt⟩
theorem owns_set8 {w : World} {base e n : Nat} {v u : Value} {vs : List Value} {a : Addr} (h : w.ownsRow base e 1 v n vs) (ha : a.block < base) : (w.setCell a u).ownsRow base e 1 v n vs := by
  obtain ⟨h1, h2 | ⟨g, cap, cur, e1, e2, hh, r⟩⟩ := h
  · exact ⟨h1, .inl h2⟩
  · exact ⟨h1, .inr ⟨g, cap, cur, e1, e2, (Below.heap_setCell w a u g (by omega)).trans hh, r⟩⟩
theorem RW.set {wr : World} {b : Nat} {cv fv ov pv : Value} {p1 p2 G1 G2 m : Nat} {f : Nat → Bool} (h : RW wr b cv fv ov pv p1 p2 G1 G2 m f) {a : Addr} (ha : a.block < b) (u : Value) : RW (wr.setCell a u) b cv fv ov pv p1 p2 G1 G2 m f :=
  ⟨owns_set8 h.c ha, owns_set8 h.o ha, owns_set8 h.n ha, owns_set8 h.t ha, h.co, h.cn, h.ct, h.on, h.ot, h.nt⟩
theorem RW.c' {wr w2 : World} {b : Nat} {cv fv ov pv : Value} {p1 p2 G1 G2 m : Nat} {f : Nat → Bool} (h : RW wr b cv fv ov pv p1 p2 G1 G2 m f) {u : Value} (ho : w2.ownsRow b 46 1 u (p1 + 1) (wv (bclP m f (p1 + 1)))) (hblk : ∀ k, u.ownBlock = some k → (cv.ownBlock = some k ∨ k = wr.heap.size) ∧ k < w2.heap.size) (hkeep : ∀ k, k < wr.heap.size → cv.ownBlock ≠ some k → w2.heap[k]? = wr.heap[k]?) : RW w2 b u fv ov pv (p1 + 1) (p2) (G1) (G2) m f :=
  ⟨ho, (Ap.owns_other h.o hkeep h.co.symm), (Ap.owns_other h.n hkeep h.cn.symm), (Ap.owns_other h.t hkeep h.ct.symm), (Ap.apart_new h.o hblk h.co.symm).symm, (Ap.apart_new h.n hblk h.cn.symm).symm, (Ap.apart_new h.t hblk h.ct.symm).symm, h.on, h.ot, h.nt⟩
theorem RW.o' {wr w2 : World} {b : Nat} {cv fv ov pv : Value} {p1 p2 G1 G2 m : Nat} {f : Nat → Bool} (h : RW wr b cv fv ov pv p1 p2 G1 G2 m f) {u : Value} (ho : w2.ownsRow b 4 1 u (bat m f (p2 + 1)) (bvl (bofP m f (p2 + 1)))) (hblk : ∀ k, u.ownBlock = some k → (fv.ownBlock = some k ∨ k = wr.heap.size) ∧ k < w2.heap.size) (hkeep : ∀ k, k < wr.heap.size → fv.ownBlock ≠ some k → w2.heap[k]? = wr.heap[k]?) : RW w2 b cv u ov pv (p1) (p2 + 1) (G1) (G2) m f :=
  ⟨(Ap.owns_other h.c hkeep h.co), ho, (Ap.owns_other h.n hkeep h.on.symm), (Ap.owns_other h.t hkeep h.ot.symm), (Ap.apart_new h.c hblk h.co), h.cn, h.ct, (Ap.apart_new h.n hblk h.on.symm).symm, (Ap.apart_new h.t hblk h.ot.symm).symm, h.nt⟩
theorem RW.n' {wr w2 : World} {b : Nat} {cv fv ov pv : Value} {p1 p2 G1 G2 m : Nat} {f : Nat → Bool} (h : RW wr b cv fv ov pv p1 p2 G1 G2 m f) {u : Value} (ho : w2.ownsRow b 3 1 u (G1 + 1) (iv8 (onL m f (G1 + 1)))) (hblk : ∀ k, u.ownBlock = some k → (ov.ownBlock = some k ∨ k = wr.heap.size) ∧ k < w2.heap.size) (hkeep : ∀ k, k < wr.heap.size → ov.ownBlock ≠ some k → w2.heap[k]? = wr.heap[k]?) : RW w2 b cv fv u pv (p1) (p2) (G1 + 1) (G2) m f :=
  ⟨(Ap.owns_other h.c hkeep h.cn), (Ap.owns_other h.o hkeep h.on), ho, (Ap.owns_other h.t hkeep h.nt.symm), h.co, (Ap.apart_new h.c hblk h.cn), h.ct, (Ap.apart_new h.o hblk h.on), h.ot, (Ap.apart_new h.t hblk h.nt.symm).symm⟩
theorem RW.t' {wr w2 : World} {b : Nat} {cv fv ov pv : Value} {p1 p2 G1 G2 m : Nat} {f : Nat → Bool} (h : RW wr b cv fv ov pv p1 p2 G1 G2 m f) {u : Value} (ho : w2.ownsRow b 3 1 u (G2 + 1) (iv8 (ptL m f (G2 + 1)))) (hblk : ∀ k, u.ownBlock = some k → (pv.ownBlock = some k ∨ k = wr.heap.size) ∧ k < w2.heap.size) (hkeep : ∀ k, k < wr.heap.size → pv.ownBlock ≠ some k → w2.heap[k]? = wr.heap[k]?) : RW w2 b cv fv ov u (p1) (p2) (G1) (G2 + 1) m f :=
  ⟨(Ap.owns_other h.c hkeep h.ct), (Ap.owns_other h.o hkeep h.ot), (Ap.owns_other h.n hkeep h.nt), ho, h.co, h.cn, (Ap.apart_new h.c hblk h.ct), h.on, (Ap.apart_new h.o hblk h.ot), (Ap.apart_new h.n hblk h.nt)⟩
end Go.Proofs.YtmkmpggpjlikaaaDoor

namespace Go.Proofs.YtmkmpggpjlikaaaDoor
open Go.RowKit Num Bit Bn
set_option linter.unusedVariables false
set_option linter.unusedSimpArgs false
set_option maxRecDepth 100000

theorem wd_own8 {w : World} {base n c : Nat} {ao : Option Addr} {l : List Nat} (h : w.ownsRow base 46 1 (.slice ao n c) n (wv l)) : Wd w ao l := by
  intro h0
  have hlen : (wv l).length = n * 1 := h.1
  have hl : l.length = n := by simp [wv] at hlen; omega
  have hk := fun k hk => h.lt k hk
  have hc := fun g hg => h.cells (g := g) hg
  obtain ⟨_, ⟨e, e2⟩ | ⟨g, cap, cur, e, _⟩⟩ := h
  · omega
  · simp only [Value.slice.injEq] at e
    obtain ⟨rfl, _, rfl⟩ := e
    refine ⟨g, 0, rfl, (hk g rfl).2, fun i hi => ?_⟩
    have hu : (wv l)[i]? = some (.int .u64 (gt l i)) := by
      unfold wv
      rw [List.getElem?_map, gt_get l i hi]
      rfl
    rw [← hc g rfl i _ hu]
    unfold Addr.add
    split
    · subst_vars; rfl
    · simp
theorem wd_base {w w1 w2 : World} {b : Nat} {ao : Option Addr} {l : List Nat} (h : Wd w ao l) (hb : ∀ a, 0 < l.length → ao = some a → a.block < b) (h1 : Below w.heap.size w w1) (h2 : Below b w1 w2) : Wd w2 ao l := by
  intro h0
  obtain ⟨c, off, e, hlt, hc⟩ := h h0
  have hcb := hb _ h0 e
  refine ⟨c, off, e, ?_, fun i hi => ((h2.cell (p := ⟨c, off + i, none⟩) hcb).trans (h1.cell (p := ⟨c, off + i, none⟩) hlt)).trans (hc i hi)⟩
  have := h1.size
  have := h2.size
  omega
theorem below_set8 {base : Nat} {w w' : World} (h : Below base w w') (b i : Nat) (v : Value) (hb : base ≤ b) : Below base w (w'.setCell ⟨b, i, none⟩ v) := h.setCell hb _
def rwN (o : Option (List Bool)) : Nat := (o.map List.length).getD 0
def rwX (o : Option (List Bool)) : List Nat := (o.map frL).getD []
theorem drop_gt (l : List Nat) (q : Nat) (h : q < l.length) : l.drop q = gt l q :: l.drop (q + 1) := by
  rw [List.drop_eq_getElem_cons h]
  congr 1
  unfold gt
  rw [List.getD_eq_getElem?_getD, List.getElem?_eq_getElem h]
  rfl

end Go.Proofs.YtmkmpggpjlikaaaDoor

namespace Go.Proofs.YtmkmpggpjlikaaaDoor
open Go.RowKit
set_option linter.unusedVariables false

/-- Nothing but block g is changed. -/
structure Only (g : Nat) (w w' : World) : Prop where
  os : w'.os = w.os
  tape : w'.tape = w.tape
  output : w'.output = w.output
  size : w'.heap.size = w.heap.size
  block : ∀ k, k ≠ g → w'.heap[k]? = w.heap[k]?
theorem Only.refl (g : Nat) (w : World) : Only g w w := ⟨rfl, rfl, rfl, rfl, fun _ _ => rfl⟩
theorem Only.trans {g : Nat} {a b c : World} (h : Only g a b) (k : Only g b c) : Only g a c := ⟨k.os.trans h.os, k.tape.trans h.tape, k.output.trans h.output, k.size.trans h.size, fun i hi => (k.block i hi).trans (h.block i hi)⟩
theorem Only.below {g base : Nat} {w w' : World} (h : Only g w w') (hb : base ≤ g) : Below base w w' := ⟨h.os, h.tape, h.output, by rw [h.size]; exact Nat.le_refl _, fun k hk => h.block k (by omega)⟩
theorem Only.set {g : Nat} {a w : World} (h : Only g a w) (i : Nat) (v : Value) : Only g a (w.setCell ⟨g, i, none⟩ v) :=
  ⟨h.os, h.tape, h.output, by rw [show (w.setCell ⟨g, i, none⟩ v).heap.size = w.heap.size by simp [World.setCell]]; exact h.size, fun k hk => (Below.heap_setCell w ⟨g, i, none⟩ v k hk).trans (h.block k hk)⟩
theorem Only.row (g : Nat) (w : World) (cs : Array Value) : Only g w (w.setRow g cs) := by
  refine ⟨rfl, rfl, rfl, ?_, fun k hk => ?_⟩
  · simp [World.setRow]
  · simp only [World.setRow, Array.getElem?_modify]
    rw [if_neg (by omega)]
theorem Only.cell {g : Nat} {w w' : World} (h : Only g w w') {p : Addr} (hp : p.block ≠ g) : w'.cell? p = w.cell? p := World.cell?_of_block (w := w) (h.block p.block hp)
theorem Only.cel {g b : Nat} {w w' : World} {cs : List Value} {T : TypeId} (h : Only g w w') (hc : Cel w b cs T) (hb : b ≠ g) : Cel w' b cs T := (h.block b hb).trans hc
theorem Only.wd {g : Nat} {w w' : World} {ao : Option Addr} {xs : List Nat} (h : Only g w w') (hx : Wd w ao xs) (hb : ∀ a, 0 < xs.length → ao = some a → a.block ≠ g) : Wd w' ao xs := by
  intro h0
  obtain ⟨b, off, e, hlt, hc⟩ := hx h0
  have hne := hb _ h0 e
  exact ⟨b, off, e, by rw [h.size]; exact hlt, fun i hi => (h.cell (p := ⟨b, off + i, none⟩) hne).trans (hc i hi)⟩
theorem Only.owns {g base e n : Nat} {w w' : World} {v : Value} {vs : List Value} (h : Only g w w') (ho : w.ownsRow base e 1 v n vs) (hg : g < base) : w'.ownsRow base e 1 v n vs := by
  obtain ⟨h1, h2 | ⟨b, cap, cur, e1, e2, hh, r⟩⟩ := ho
  · exact ⟨h1, .inl h2⟩
  · exact ⟨h1, .inr ⟨b, cap, cur, e1, e2, (h.block b (by omega)).trans hh, r⟩⟩

/-- Words do not lie in a block that holds none. -/
theorem Wd.apart {w : World} {ao : Option Addr} {xs : List Nat} {b : Nat} {cs : List Value} {T : TypeId} (hx : Wd w ao xs) (hc : Cel w b cs T) (hn : ∀ v ∈ cs, ∀ n, v ≠ .int .u64 n) : ∀ a, 0 < xs.length → ao = some a → a.block ≠ b := by
  intro a h0 ha he
  obtain ⟨b', off, e, hlt, hcc⟩ := hx h0
  rw [ha] at e
  obtain rfl := Option.some.inj e
  have he : b' = b := he
  subst he
  have h1 := hcc 0 h0
  unfold World.cell? at h1
  rw [show w.heap[({ block := b', off := off + 0, spot := none } : Addr).block]? = _ from hc] at h1
  have h2 : cs[off + 0]? = some (.int .u64 (Bit.gt xs 0)) := by simpa using h1
  exact hn _ (List.mem_of_getElem? h2) _ rfl
theorem store_cel {ops : Array Oper} {rest : List Oper} {d : Option Tmp} {ty T : TypeId} {ps : String} {af : Array Edge} {a : Act} {w : World} {Q : Exit → Act → World → Prop} {x y : Operand}
    (g : Nat) (old cs : List Value) (hx : a.eval x = .pointer (some ⟨g, 0, none⟩)) (hy : a.eval y = .agg cs.toArray) (hc : Cel w g old T) (lo : old.length = cs.length) (hi : (Tryd.prog.info? T).map (·.size) = some cs.length) (h1 : cs.toArray.all (·.oneCell') = true)
    (h : ∀ w1, Cel w1 g cs T → Only g w w1 → wpList Tryd.prog ops Q rest (a.put d undef) w1) :
    wpList Tryd.prog ops Q (⟨d, .store T x y, ty, ps, af, none⟩ :: rest) a w :=
  wpList_store_row rfl _ x y rfl g _ hx hy _ _ hc (by simpa using hi) (by simpa using lo) h1 (h _ (setRow_heap w g _ _ _ _ hc) (Only.row g w _))
theorem load_cel {ops : Array Oper} {rest : List Oper} {d : Option Tmp} {ty T : TypeId} {ps : String} {af : Array Edge} {a : Act} {w : World} {Q : Exit → Act → World → Prop} {x : Operand}
    (g : Nat) (cs : List Value) {fs : Array Field} (hx : a.eval x = .pointer (some ⟨g, 0, none⟩)) (hc : Cel w g cs T) (hu : Tryd.prog.underlying T = some (.struct fs)) (hi : (Tryd.prog.info? T).map (·.size) = some cs.length)
    (h : wpList Tryd.prog ops Q rest (a.put d (.agg cs.toArray)) w) :
    wpList Tryd.prog ops Q (⟨d, .load T x, ty, ps, af, none⟩ :: rest) a w :=
  wpList_load_row rfl _ x rfl g hx _ _ _ _ hc hu rfl (by simpa using hi) h
theorem result_cel {fn : Func} {p : Tmp} {T : TypeId} {w : World} {tmps : Array Value} {u : Tmp} (h : fn.results = #[.cell p T, .tmp u]) (g : Nat) (cs : List Value) {fs : Array Field} (hp : tmps.getD p undef = .pointer (some ⟨g, 0, none⟩)) (hc : Cel w g cs T) (hu : Tryd.prog.underlying T = some (.struct fs)) (hi : (Tryd.prog.info? T).map (·.size) = some cs.length) :
    (results fn tmps).run Tryd.prog w = .ok (.tuple #[.agg cs.toArray, tmps.getD u undef]) w := by
  have hp' : tmps[p]?.getD undef = .pointer (some ⟨g, 0, none⟩) := by simpa using hp
  have hl := run_loadVar_row (P := Tryd.prog) w g T T cs.toArray (0, 0) _ hc hu rfl (by simpa using hi)
  simp [results, h, hp', asAddr, hl]
theorem result_cel1 {fn : Func} {p : Tmp} {T : TypeId} {w : World} {tmps : Array Value} (h : fn.results = #[.cell p T]) (g : Nat) (cs : List Value) {fs : Array Field} (hp : tmps.getD p undef = .pointer (some ⟨g, 0, none⟩)) (hc : Cel w g cs T) (hu : Tryd.prog.underlying T = some (.struct fs)) (hi : (Tryd.prog.info? T).map (·.size) = some cs.length) :
    (results fn tmps).run Tryd.prog w = .ok (.agg cs.toArray) w := by
  have hp' : tmps[p]?.getD undef = .pointer (some ⟨g, 0, none⟩) := by simpa using hp
  have hl := run_loadVar_row (P := Tryd.prog) w g T T cs.toArray (0, 0) _ hc hu rfl (by simpa using hi)
  simp [results, h, hp', asAddr, hl]
end Go.Proofs.YtmkmpggpjlikaaaDoor

namespace Go.Proofs.YtmkmpggpjlikaaaDoor
open Go.RowKit Num Bit Bn
set_option linter.unusedVariables false
set_option linter.unusedSimpArgs false
set_option maxRecDepth 100000

/-- What is built: the words of the classes, the words of the offsets, the counts, the places. -/
def gN (m : Nat) : Nat := (max 1 (nb m) + 7) / 8
def rC (m : Nat) (f : Nat → Bool) : List Nat := mkS (bclP m f (nb m)) 4 (nb m)
def rO (m : Nat) (f : Nat → Bool) : List Nat := frL (bofP m f (nb m))
def rS (m : Nat) (f : Nat → Bool) : List Int := onL m f (gN m)
def rT (m : Nat) (f : Nat → Bool) : List Int := ptL m f (gN m)
/-- Four rows in memory. -/
structure RO (w : World) (C O : List Nat) (S T : List Int) (bo : Option Addr) (bc : Nat) (qo : Option Addr) (qc : Nat) (so : Option Addr) (sc : Nat) (tO : Option Addr) (tc : Nat) : Prop where
  c : Wd w bo C
  cl : C.length ≤ bc
  o : Wd w qo O
  ol : O.length ≤ qc
  s : Nd w so S
  sl : S.length ≤ sc
  t : Nd w tO T
  tl : T.length ≤ tc
theorem RO.keep {w w' : World} {C O : List Nat} {S T : List Int} {bo : Option Addr} {bc : Nat} {qo : Option Addr} {qc : Nat} {so : Option Addr} {sc : Nat} {tO : Option Addr} {tc : Nat} (h : RO w C O S T bo bc qo qc so sc tO tc) (hb : Below w.heap.size w w') : RO w' C O S T bo bc qo qc so sc tO tc :=
  ⟨h.c.keep hb, h.cl, h.o.keep hb, h.ol, h.s.keep hb, h.sl, h.t.keep hb, h.tl⟩
theorem length_onL (m : Nat) (f : Nat → Bool) (G : Nat) : (onL m f G).length = G := by simp [onL]
theorem length_ptL (m : Nat) (f : Nat → Bool) (G : Nat) : (ptL m f G).length = G := by simp [ptL]
theorem nd_own8 {w : World} {base n c : Nat} {ao : Option Addr} {l : List Int} (h : w.ownsRow base 3 1 (.slice ao n c) n (iv8 l)) : Nd w ao l := by
  intro h0
  have hlen : (iv8 l).length = n * 1 := h.1
  have hl : l.length = n := by simp [iv8] at hlen; omega
  have hk := fun k hk => h.lt k hk
  have hc := fun g hg => h.cells (g := g) hg
  obtain ⟨_, ⟨e, e2⟩ | ⟨g, cap, cur, e, _⟩⟩ := h
  · omega
  · simp only [Value.slice.injEq] at e
    obtain ⟨rfl, _, rfl⟩ := e
    refine ⟨g, 0, rfl, (hk g rfl).2, fun i hi => ?_⟩
    have hu : (iv8 l)[i]? = some (.int .i64 (gi l i)) := by
      unfold iv8 gi
      rw [List.getElem?_map, List.getD_eq_getElem?_getD, List.getElem?_eq_getElem hi]
      rfl
    rw [← hc g rfl i _ hu]
    unfold Addr.add
    split
    · subst_vars; rfl
    · simp
theorem im_ok (m : Nat) (f : Nat → Bool) (hm : m ≤ 1048576) : imE 4 (bclP m f (nb m)) = 0 := by
  unfold imE
  rw [if_neg]
  have := nb_le m hm
  rw [length_bclP]
  rintro (h | h | h | h)
  · omega
  · omega
  · omega
  · refine h fun j hj => ?_
    have h4 := bclP_lt m f (nb m) j
    have := len_le (gt (bclP m f (nb m)) j) 4 h4
    unfold lenI
    rw [Int.toNat_natCast]
    omega
theorem info_r9 : (Tryd.prog.info? 31).map (·.size) = some 9 := by kernel_rfl
theorem Nd.only {g : Nat} {w w' : World} {ao : Option Addr} {l : List Int} (h : Only g w w') (hx : Nd w ao l) (hb : ∀ a, ao = some a → a.block ≠ g) : Nd w' ao l := by
  intro h0
  obtain ⟨b, off, e, hlt, hc⟩ := hx h0
  have hne := hb _ e
  exact ⟨b, off, e, by rw [h.size]; exact hlt, fun i hi => (h.cell (p := ⟨b, off + i, none⟩) hne).trans (hc i hi)⟩
theorem own_src {w : World} {base e n c : Nat} {ao : Option Addr} {vs : List Value} (h : w.ownsRow base e 1 (.slice ao n c) n vs) : 0 < n → ∃ ad, ao = some ad ∧ ∀ j u, vs[j]? = some u → w.cell? (ad.add j) = some u := by
  intro h0
  have hc := fun g hg => h.cells (g := g) hg
  obtain ⟨_, ⟨e1, e2⟩ | ⟨g, cap, cur, e1, _⟩⟩ := h
  · omega
  · simp only [Value.slice.injEq] at e1
    obtain ⟨rfl, _, rfl⟩ := e1
    exact ⟨_, rfl, fun j u hj => hc g rfl j u hj⟩
theorem Hid.mk8 {p : Prop} (h : p) : Hid p := h
end Go.Proofs.YtmkmpggpjlikaaaDoor

namespace Go.Proofs.YtmkmpggpjlikaaaDoor
open Num Bit

def gaE (ok : Bool) (N : Int) (X : List Nat) (i : Int) : Int := if ok then getE N X i else 2
def gaB (ok : Bool) (N : Int) (X : List Nat) (i : Int) : Bool := ok && getB N X i
def grE (ok : Bool) (N : Int) (i : Int) : Int := if ok then (if i < 0 ∨ N < i then 3 else 0) else 2
def grN (ok : Bool) (N : Int) (X : List Nat) (bit : Bool) (i : Int) : Int := if grE ok N i = 0 then (cB X bit i.toNat : Int) else 0
def gsE (ok : Bool) (N : Int) (X : List Nat) (bit : Bool) (k : Int) : Int := if ok then (if (pselO N X bit k).isSome then 0 else 3) else 2
def gsX (ok : Bool) (N : Int) (X : List Nat) (bit : Bool) (k : Int) : Int := if ok then ((pselO N X bit k).getD 0 : Int) else 0
end Go.Proofs.YtmkmpggpjlikaaaDoor

namespace Go.Proofs.YtmkmpggpjlikaaaDoor
open Num Bit Bn
set_option linter.unusedVariables false

/-- What is read out of classes and offsets. -/
def rDec (N k V : Int) (xs : List Nat) (L : Int) (ys : List Nat) : Option (List Bool) := decG N.toNat L ys ((List.range k.toNat).map (numAt V.toNat xs)) 0 []
/-- Is it what is built of the row (m, f)? -/
def rEq (N k V M : Int) (xs : List Nat) (L : Int) (ys : List Nat) (S T : List Int) (m : Nat) (f : Nat → Bool) : Bool :=
  decide (N = m) && ((decide (k = nb m) && (decide (V = 4) && (decide (M = (nb m : Int) * 4) && decide (xs = rC m f)))) && ((decide (L = bat m f (nb m)) && decide (ys = rO m f)) && (decide (S = rS m f) && decide (T = rT m f))))
def rOk (N k V M : Int) (xs : List Nat) (L : Int) (ys : List Nat) (S T : List Int) : Bool :=
  (decide (0 ≤ N ∧ N ≤ 1048576) && (ichk k V M xs && chk L ys)) && rEq N k V M xs L ys S T (rwN (rDec N k V xs L ys)) (bitAt (rwX (rDec N k V xs L ys)))
def rBN (N k V M : Int) (xs : List Nat) (L : Int) (ys : List Nat) (S T : List Int) : Int := if rOk N k V M xs L ys S T then (rwN (rDec N k V xs L ys) : Int) else 0
def rBX (N k V M : Int) (xs : List Nat) (L : Int) (ys : List Nat) (S T : List Int) : List Nat := if rOk N k V M xs L ys S T then rwX (rDec N k V xs L ys) else []
def rzN (N k V M : Int) (xs : List Nat) (L : Int) (ys : List Nat) (S T : List Int) : Int := if rOk N k V M xs L ys S T then M + L + 64 * (S.length : Int) else 0

theorem rw_chk (o : Option (List Bool)) (h : ∀ l, o = some l → l.length ≤ 1048576) : chk (rwN o : Int) (rwX o) = true := by
  cases o with
  | none => decide
  | some l => exact chk_rowOf _ _ (h l rfl)
theorem rw_fit (o : Option (List Bool)) : Fit (rwX o) := by
  cases o with
  | none => intro i; unfold gt; simp [rwX]
  | some l => exact fit_rowOf _ _
theorem rDec_len (N k V : Int) (xs : List Nat) (L : Int) (ys : List Nat) (hN : N ≤ 1048576) : ∀ l, rDec N k V xs L ys = some l → l.length ≤ 1048576 := by
  intro l h
  have := length_decG N.toNat L ys _ 0 [] l (by simp) h
  omega
theorem rOk_out (N k V M : Int) (xs : List Nat) (L : Int) (ys : List Nat) (S T : List Int) (h : rOk N k V M xs L ys S T = true) :
    (0 ≤ N ∧ N ≤ 1048576) ∧ ichk k V M xs = true ∧ chk L ys = true ∧ rEq N k V M xs L ys S T (rwN (rDec N k V xs L ys)) (bitAt (rwX (rDec N k V xs L ys))) = true := by
  unfold rOk at h
  simp only [Bool.and_eq_true, decide_eq_true_eq] at h
  exact ⟨h.1.1, h.1.2.1, h.1.2.2, h.2⟩
theorem rB_chk (N k V M : Int) (xs : List Nat) (L : Int) (ys : List Nat) (S T : List Int) (h : rOk N k V M xs L ys S T = true) : chk (rBN N k V M xs L ys S T) (rBX N k V M xs L ys S T) = true := by
  obtain ⟨h1, _, _, _⟩ := rOk_out _ _ _ _ _ _ _ _ _ h
  unfold rBN rBX
  rw [if_pos h, if_pos h]
  exact rw_chk _ (rDec_len N k V xs L ys h1.2)
theorem rB_fit (N k V M : Int) (xs : List Nat) (L : Int) (ys : List Nat) (S T : List Int) : Fit (rBX N k V M xs L ys S T) := by
  unfold rBX
  split
  · exact rw_fit _
  · intro i; unfold gt; simp
theorem rEq_out (N k V M : Int) (xs : List Nat) (L : Int) (ys : List Nat) (S T : List Int) (m : Nat) (f : Nat → Bool) (h : rEq N k V M xs L ys S T m f = true) :
    N = m ∧ k = nb m ∧ V = 4 ∧ M = (nb m : Int) * 4 ∧ xs = rC m f ∧ L = bat m f (nb m) ∧ ys = rO m f ∧ S = rS m f ∧ T = rT m f := by
  unfold rEq at h
  simp only [Bool.and_eq_true, decide_eq_true_eq] at h
  obtain ⟨h1, ⟨h2, h3, h4, h5⟩, ⟨h6, h7⟩, h8, h9⟩ := h
  exact ⟨h1, h2, h3, h4, h5, h6, h7, h8, h9⟩
theorem rEq_self (m : Nat) (f : Nat → Bool) : rEq m (nb m) 4 ((nb m : Int) * 4) (rC m f) (bat m f (nb m)) (rO m f) (rS m f) (rT m f) m f = true := by
  unfold rEq
  simp
/-- What is built reads back as the row. -/
theorem rDec_built (m : Nat) (f : Nat → Bool) (hm : m ≤ 1048576) : rDec m (nb m) 4 (rC m f) (bat m f (nb m)) (rO m f) = some ((List.range m).map f) := by
  unfold rDec rC rO
  rw [Int.toNat_natCast, Int.toNat_natCast]
  exact dec_built m f hm
theorem bitAt_fr (m : Nat) (f : Nat → Bool) (i : Nat) (h : i < m) : bitAt (frL ((List.range m).map f)) i = f i := by
  rw [fr_row, bitAt_rowOf]
  simp [h]
end Go.Proofs.YtmkmpggpjlikaaaDoor

namespace Go.Proofs.YtmkmpggpjlikaaaDoor
open Go.RowKit Num Bit
set_option linter.unusedVariables false
set_option linter.unusedSimpArgs false
set_option maxRecDepth 100000

theorem r8info_b : (Tryd.prog.info? 24).map (·.size) = some 2 := by kernel_rfl

theorem r8onesI_in (N : Int) (xs : List Nat) (i : Nat) (hk : chk N xs = true) (hi : (i : Int) ≤ N) : onesI N xs i = (cntB xs i : Int) := by
  unfold onesI
  rw [hk, show min (i : Int) N = (i : Int) by omega, Int.toNat_natCast]
  rfl

end Go.Proofs.YtmkmpggpjlikaaaDoor

namespace Go.Proofs.YtmkmpggpjlikaaaDoor
open Go.RowKit Num Bit Bn
set_option linter.unusedVariables false
set_option linter.unusedSimpArgs false
set_option maxRecDepth 100000

def rbN (N : Int) (xs : List Nat) : Int := if chk N xs then N else 0
def rbK (N : Int) (xs : List Nat) : Int := if chk N xs then (nb N.toNat : Int) else 0
def rbV (N : Int) (xs : List Nat) : Int := if chk N xs then 4 else 0
def rbM (N : Int) (xs : List Nat) : Int := if chk N xs then (nb N.toNat : Int) * 4 else 0
def rbC (N : Int) (xs : List Nat) : List Nat := if chk N xs then rC N.toNat (bitAt xs) else []
def rbL (N : Int) (xs : List Nat) : Int := if chk N xs then (bat N.toNat (bitAt xs) (nb N.toNat) : Int) else 0
def rbO (N : Int) (xs : List Nat) : List Nat := if chk N xs then rO N.toNat (bitAt xs) else []
def rbS (N : Int) (xs : List Nat) : List Int := if chk N xs then rS N.toNat (bitAt xs) else []
def rbT (N : Int) (xs : List Nat) : List Int := if chk N xs then rT N.toNat (bitAt xs) else []
def rbE (N : Int) (xs : List Nat) : Int := if chk N xs then 0 else 2

/-- A row in blocks that is handed in. -/
structure RIn (w : World) (N k V M : Int) (ao : Option Addr) (xs : List Nat) (cap : Nat) (L : Int) (qo : Option Addr) (ys : List Nat) (dap : Nat) (so : Option Addr) (S : List Int) (sc : Nat) (tO : Option Addr) (T : List Int) (tc : Nat) : Prop where
  x : Wd w ao xs
  xf : Fit xs
  xc : xs.length ≤ cap
  y : Wd w qo ys
  yf : Fit ys
  yc : ys.length ≤ dap
  s : Nd w so S
  sl : S.length ≤ 1048576
  sc : S.length ≤ sc
  t : Nd w tO T
  tl : T.length ≤ 1048576
  tc : T.length ≤ tc
theorem RIn.keep {w w' : World} {N k V M : Int} {ao : Option Addr} {xs : List Nat} {cap : Nat} {L : Int} {qo : Option Addr} {ys : List Nat} {dap : Nat} {so : Option Addr} {S : List Int} {sc : Nat} {tO : Option Addr} {T : List Int} {tc : Nat} (h : RIn w N k V M ao xs cap L qo ys dap so S sc tO T tc) (hb : Below w.heap.size w w') : RIn w' N k V M ao xs cap L qo ys dap so S sc tO T tc :=
  ⟨h.x.keep hb, h.xf, h.xc, h.y.keep hb, h.yf, h.yc, h.s.keep hb, h.sl, h.sc, h.t.keep hb, h.tl, h.tc⟩

end Go.Proofs.YtmkmpggpjlikaaaDoor
