/-
  Rows that calls make: words that are copied, a row as it is, a longer one, bits that are laid over words, a new row. Plain arithmetic of rows of bits, more: joined rows. The contract of From. The contracts of the document's New, put and From. The contracts of package ints that write: lay (bits laid over words of the call's own), asItIs (a row in words of its own). The contracts of makeable, Make and Of. The contract of the document's Make. The contract of List. The contracts of the document's Make, Of and List, whatever is handed in.
-/
import Derived.Test.YtmkmpggpjlikaaaDoorM00
import Derived.Test.YtmkmpggpjlikaaaDoorM01
import Derived.Laws.CopyOwn
import Derived.OwnWalk
import Derived.Deep.RegionHeld3
import Derived.RegionTactic
import Derived.BigRegion
namespace Go.Proofs.YtmkmpggpjlikaaaDoor
open Go.RowKit Num Bit
set_option maxRecDepth 100000

theorem Tryd.info46 : (Tryd.prog.info? 46).map (fun i => (i.zero, i.size, i.bytes)) = some (some (.int .u64 0), 1, 8) := by kernel_rfl
theorem Tryd.size46 : (Tryd.prog.info? 46).map (·.size) = some 1 := by kernel_rfl

def wv (ys : List Nat) : List Value := ys.map fun y => Value.int .u64 (y : Nat)
def Own (w : World) (g : Nat) (ys : List Nat) : Prop := w.heap[g]? = some (.cells (wv ys).toArray 46 (0, 0))


theorem own_made {w : World} {base g n : Nat} (h : w.ownsRow base 46 1 (.slice (some ⟨g, 0, none⟩) n n) n (madeCells #[.int .u64 0] n).toList) : w.heap[g]? = some (.cells (wv (List.replicate n 0)).toArray 46 (0, 0)) := by
  obtain ⟨_, h | ⟨g', cap, cur, e, _, hh, _, _, hs, ht⟩⟩ := h
  · simp at h
  · simp only [Value.slice.injEq, Option.some.injEq, Addr.mk.injEq] at e
    obtain ⟨⟨rfl, _, _⟩, _, rfl⟩ := e
    rw [hh]
    have e2 : (madeCells #[.int .u64 0] n).toList = wv (List.replicate n 0) := by
      rw [toList_madeCells_one (.int .u64 0) n, wv, List.map_replicate]
      rfl
    rw [e2] at ht
    have e3 : cur.toList.take (n * 1) = cur.toList := List.take_of_length_le (by simp; omega)
    rw [e3] at ht
    rw [← ht]

theorem splice_cp (xs : List Nat) (n : Nat) : splice (wv (List.replicate n 0)) 0 (wv (xs.take n)) = wv (cp xs n) := by
  unfold splice wv cp
  rw [List.take_zero, List.nil_append, List.map_append, Nat.zero_add, List.length_map, List.length_take, ← List.map_drop, List.drop_replicate]
  congr 3
  omega

theorem Own.set_other {w : World} {g : Nat} {ys : List Nat} (h : Own w g ys) {a : Addr} (ha : g ≠ a.block) (v : Value) : Own (w.setCell a v) g ys :=
  (Below.heap_setCell w a v g ha).trans h

theorem size_set (w : World) (a : Addr) (v : Value) : (w.setCell a v).heap.size = w.heap.size := by simp [World.setCell]


theorem box2_cells {w W w' : World} {a b c d : Value} {T U : TypeId} (hW : W = (w.alloc (.cells #[a, b] T)).alloc (.cells #[c, d] U)) (hb : Below W.heap.size W w') :
    (w'.cell? ⟨w.heap.size, 0, none⟩ = some a ∧ w'.cell? ⟨w.heap.size, 1, none⟩ = some b) ∧ (w'.cell? ⟨w.heap.size + 1, 0, none⟩ = some c ∧ w'.cell? ⟨w.heap.size + 1, 1, none⟩ = some d) ∧
    (w'.frozen? ⟨w.heap.size + 1, 0, none⟩ = false ∧ w'.frozen? ⟨w.heap.size + 1, 1, none⟩ = false) ∧ w.heap.size + 1 < w'.heap.size ∧ Below w.heap.size w w' := by
  have hz : W.heap.size = w.heap.size + 2 := by rw [hW]; simp
  refine ⟨⟨?_, ?_⟩, ⟨?_, ?_⟩, ⟨?_, ?_⟩, ?_, ?_⟩
  · rw [hb.cell (p := ⟨w.heap.size, 0, none⟩) (by simp [hz]), hW]; simp
  · rw [hb.cell (p := ⟨w.heap.size, 1, none⟩) (by simp [hz]), hW]; simp
  · rw [hb.cell (p := ⟨w.heap.size + 1, 0, none⟩) (by simp [hz]), hW]; simp
  · rw [hb.cell (p := ⟨w.heap.size + 1, 1, none⟩) (by simp [hz]), hW]; simp
  · rw [hb.frozen (p := ⟨w.heap.size + 1, 0, none⟩) (by simp [hz]), hW]; simp
  · rw [hb.frozen (p := ⟨w.heap.size + 1, 1, none⟩) (by simp [hz]), hW]; simp
  · have := hb.size; omega
  · have h0 : Below w.heap.size w W := by rw [hW]; exact ((below_alloc w _).alloc (by simp) _)
    exact h0.trans (hb.mono (by omega))

/-- A world in which block g alone has turned. -/
structure Turned (g : Nat) (w w' : World) : Prop where
  os : w'.os = w.os
  tape : w'.tape = w.tape
  output : w'.output = w.output
  size : w'.heap.size = w.heap.size
  block : ∀ k, k ≠ g → w'.heap[k]? = w.heap[k]?

theorem Turned.refl (g : Nat) (w : World) : Turned g w w := ⟨rfl, rfl, rfl, rfl, fun _ _ => rfl⟩
theorem Turned.set {g : Nat} {a w : World} (h : Turned g a w) (off : Nat) (v : Value) : Turned g a (w.setCell ⟨g, off, none⟩ v) :=
  ⟨h.os, h.tape, h.output, (size_set _ _ _).trans h.size, fun k hk => (Below.heap_setCell _ _ _ _ hk).trans (h.block k hk)⟩
theorem Turned.cell {g : Nat} {w w' : World} (h : Turned g w w') {p : Addr} (hp : p.block ≠ g) : w'.cell? p = w.cell? p := World.cell?_of_block (w := w) (h.block p.block hp)
theorem Turned.frozen {g : Nat} {w w' : World} (h : Turned g w w') {p : Addr} (hp : p.block ≠ g) : w'.frozen? p = w.frozen? p := World.frozen?_of_block (w := w) (h.block p.block hp)
theorem Turned.below {g B : Nat} {w w' : World} (h : Turned g w w') (hB : B ≤ g) : Below B w w' :=
  ⟨h.os, h.tape, h.output, by rw [h.size]; exact Nat.le_refl _, fun k hk => h.block k (by omega)⟩

theorem length_wv (ys : List Nat) : (wv ys).length = ys.length := by simp [wv]
theorem Own.cell {w : World} {g : Nat} {ys : List Nat} (h : Own w g ys) (j : Nat) (hj : j < ys.length) : w.cell? ⟨g, j, none⟩ = some (.int .u64 (gt ys j)) := by
  unfold World.cell?
  rw [show w.heap[({ block := g, off := j, spot := none } : Addr).block]? = _ from h]
  show (wv ys).toArray[j]? = _
  rw [List.getElem?_toArray, wv, List.getElem?_map, gt_get ys j hj]
  rfl
theorem Own.frozen {w : World} {g : Nat} {ys : List Nat} (h : Own w g ys) (j : Nat) : w.frozen? ⟨g, j, none⟩ = false := by
  unfold World.frozen?
  rw [show w.heap[({ block := g, off := j, spot := none } : Addr).block]? = _ from h]
  simp
theorem Own.lt {w : World} {g : Nat} {ys : List Nat} (h : Own w g ys) : g < w.heap.size := (Array.getElem?_eq_some_iff.1 h).1
theorem Own.set {w : World} {g : Nat} {ys : List Nat} (h : Own w g ys) (j v : Nat) : Own (w.setCell ⟨g, j, none⟩ (.int .u64 v)) g (ys.set j v) := by
  unfold Own at *
  simp only [World.setCell, Array.getElem?_modify]
  rw [if_pos trivial, h]
  simp [wv, List.map_set]
theorem Own.wd {w : World} {g : Nat} {ys : List Nat} (h : Own w g ys) : Wd w (some ⟨g, 0, none⟩) ys :=
  fun _ => ⟨g, 0, rfl, h.lt, fun i hi => by rw [Nat.zero_add]; exact h.cell i hi⟩
theorem Own.keep {w w' : World} {g : Nat} {ys : List Nat} (h : Own w g ys) (hb : Below w.heap.size w w') : Own w' g ys := (hb.block g h.lt).trans h

theorem bne0 (a : Nat) : ((a : Int) != 0) = decide (a ≠ 0) := by
  rw [Bool.eq_iff_iff, bne_iff_ne, decide_eq_true_eq]; omega

theorem turn_cell {g : Nat} {w w' : World} {o : Obj} (hT : Turned g (w.alloc o).drew w') {b j : Nat} (hb : b < w.heap.size) (hg : b ≠ g) {v : Value} (h : w.cell? ⟨b, j, none⟩ = some v) : w'.cell? ⟨b, j, none⟩ = some v :=
  (hT.cell (p := ⟨b, j, none⟩) hg).trans (((below_alloc w o).drew.cell (p := ⟨b, j, none⟩) hb).trans h)
theorem turn_frozen {g : Nat} {w w' : World} {o : Obj} (hT : Turned g (w.alloc o).drew w') {b j : Nat} (hb : b < w.heap.size) (hg : b ≠ g) {v : Bool} (h : w.frozen? ⟨b, j, none⟩ = v) : w'.frozen? ⟨b, j, none⟩ = v :=
  (hT.frozen (p := ⟨b, j, none⟩) hg).trans (((below_alloc w o).drew.frozen (p := ⟨b, j, none⟩) hb).trans h)
theorem turn_box {g : Nat} {w w' : World} {a b : Value} {T : TypeId} (hT : Turned g (w.alloc (.cells #[a, b] T)).drew w') (hg : w.heap.size ≠ g) : w'.cell? ⟨w.heap.size, 0, none⟩ = some a ∧ w'.cell? ⟨w.heap.size, 1, none⟩ = some b :=
  ⟨(hT.cell (p := ⟨w.heap.size, 0, none⟩) hg).trans (by simp), (hT.cell (p := ⟨w.heap.size, 1, none⟩) hg).trans (by simp)⟩

theorem box_frozen {w w' : World} {a b : Value} {T : TypeId} (hb : Below (w.alloc (.cells #[a, b] T)).heap.size (w.alloc (.cells #[a, b] T)) w') :
    w'.frozen? ⟨w.heap.size, 0, none⟩ = false ∧ w'.frozen? ⟨w.heap.size, 1, none⟩ = false := by
  refine ⟨?_, ?_⟩
  · rw [hb.frozen (p := ⟨w.heap.size, 0, none⟩) (by simp)]; simp
  · rw [hb.frozen (p := ⟨w.heap.size, 1, none⟩) (by simp)]; simp

theorem new_ok (n : Int) (k : Nat) (w : World) (h0 : 0 ≤ n) (h1 : n ≤ 1048576) (hk : (n + 63) / 64 = (k : Int)) :
    Calls Tryd.prog 56 #[.int .i64 n] w fun e w' => ∃ g, e = .returned (.tuple #[.agg #[.int .i64 n, .slice (some ⟨g, 0, none⟩) k k], .int .i64 0]) ∧ w.heap.size ≤ g ∧ g < w'.heap.size ∧ Own w' g (List.replicate k 0) ∧ Below w.heap.size w w' := by
  obtain ⟨i0, hi, hz0, hz1, hz2⟩ := info_parts Tryd.info46
  have hk2 : k ≤ 1048576 := by omega
  go_enter Tryd.func56, Tryd.ntmps56
  go_wp2_with (first | (go_at_call 39; refine (need_c _ ?_ ?_ _).mono ?_; (omega); (omega); rintro e w' ⟨rfl, rfl⟩) | (at_make; refine wpList_make_full _ rfl _ _ 22 rfl (w.heap.size + 1) 46 i0 (.int .u64 0) 1 Tryd.underlying22 hi hz0 hz1 .i64 .i64 _ _ k rfl rfl rfl rfl ?b2 ?b3 ?b4 ?_))
  case b2 => rw [hz2]; omega
  case b3 => unfold maxLen; omega
  case b4 => simp
  intro w1 hown hgr
  have hb1 : Below (w.alloc (.cells #[.int .i64 0, .slice none 0 0] 24)).heap.size (w.alloc (.cells #[.int .i64 0, .slice none 0 0] 24)) w1 := (Below.refl _ _).grown hgr (Nat.le_refl _) (fun k h => by cases h)
  have hO : Own w1 (w.heap.size + 1) (List.replicate k 0) := own_made hown
  obtain ⟨k0, k1, hz, hw⟩ := box_cells hb1
  obtain ⟨k2, k3⟩ := box_frozen hb1
  have hlt := hO.lt
  clear hown hgr hi hz0 hz1 hz2 hb1
  go_wp2
  refine bodyPost_ret (v := .tuple #[.agg #[.int .i64 n, .slice (some ⟨w.heap.size + 1, 0, none⟩) k k], .int .i64 0]) (by simp [results, Tryd.results56, go_sem, k0, k1]) rfl ⟨w.heap.size + 1, rfl, by omega, ?_, ?_, ?_⟩
  · rw [size_set, size_set]; exact hlt
  · exact (hO.set_other (by simp) _).set_other (by simp) _
  · exact (hw.setCell (by simp) _).setCell (by simp) _

theorem new_bad (n : Int) (w : World) (h : n < 0 ∨ 1048576 < n) :
    Calls Tryd.prog 56 #[.int .i64 n] w fun e w' => e = .returned (.tuple #[.agg #[.int .i64 0, .slice none 0 0], .int .i64 2]) ∧ Below w.heap.size w w' := by
  rcases h with h | h
  · go_enter Tryd.func56, Tryd.ntmps56
    go_wp2
    exact bodyPost_ret (v := .tuple #[.agg #[.int .i64 0, .slice none 0 0], .int .i64 2]) (by simp [results, Tryd.results56, go_sem]) rfl ⟨rfl, below_alloc w _⟩
  · have h' : ¬ n < 0 := by omega
    go_enter Tryd.func56, Tryd.ntmps56
    go_wp2
    exact bodyPost_ret (v := .tuple #[.agg #[.int .i64 0, .slice none 0 0], .int .i64 2]) (by simp [results, Tryd.results56, go_sem]) rfl ⟨rfl, below_alloc w _⟩

/-- What a call that makes a row leaves: the words lie in memory of its own, and nothing old has turned. -/
def Out (w w' : World) (ao : Option Addr) (ys : List Nat) (cap : Nat) : Prop := Wd w' ao ys ∧ Fit ys ∧ ys.length ≤ cap ∧ Below w.heap.size w w'

theorem rep_row (n k : Nat) (hk : k = (n + 63) / 64) : List.replicate k 0 = rowOf n (fun _ => false) := by
  refine eq_rowOf n _ _ ?_ (by simp; exact hk) ?_
  · intro i
    unfold gt
    rw [List.getD_eq_getElem?_getD, List.getElem?_replicate]
    split <;> simp
  · intro i _
    unfold bitAt gt
    rw [List.getD_eq_getElem?_getD, List.getElem?_replicate]
    split <;> simp

theorem new_c (n : Int) (w : World) :
    Calls Tryd.prog 56 #[.int .i64 n] w fun e w' => ∃ ao cap, e = .returned (.tuple #[.agg #[.int .i64 (newN n), .slice ao (newL n).length cap], .int .i64 (newE n)]) ∧ Out w w' ao (newL n) cap := by
  by_cases h : n < 0 ∨ 1048576 < n
  · refine (new_bad n w h).mono ?_
    rintro e w' ⟨rfl, hb⟩
    have h1 : newE n = 2 := by unfold newE; rw [if_pos h]
    have h2 : newN n = 0 := by unfold newN; rw [h1]; rfl
    have h3 : newL n = [] := by unfold newL; rw [h1]; rfl
    rw [h1, h2, h3]
    exact ⟨none, 0, rfl, fun h => absurd h (by simp), fun i => by unfold gt; simp, by simp, hb⟩
  · obtain ⟨m, rfl⟩ := Int.eq_ofNat_of_zero_le (show 0 ≤ n by omega)
    refine (new_ok m ((m + 63) / 64) w (by omega) (by omega) (by omega)).mono ?_
    rintro e w' ⟨g, rfl, hg, hlt, hO, hb⟩
    have h1 : newE m = 0 := by unfold newE; rw [if_neg h]
    have h2 : newN m = m := by unfold newN; rw [h1]; rfl
    have h3 : newL m = List.replicate ((m + 63) / 64) 0 := by unfold newL; rw [h1, rep_row m _ rfl]; rfl
    rw [h1, h2, h3]
    refine ⟨some ⟨g, 0, none⟩, (m + 63) / 64, by simp, hO.wd, ?_, by simp, hb⟩
    rw [rep_row m _ rfl]; exact fit_rowOf _ _

end Go.Proofs.YtmkmpggpjlikaaaDoor

namespace Go.Proofs.YtmkmpggpjlikaaaDoor
open Num
namespace Bit

/-- The words while the first q words of the second row are laid behind the first. -/
def joinS (xs ys : List Nat) (m k : Nat) : Nat → List Nat
  | 0 => cp xs k
  | q + 1 => putL (joinS xs ys m k q) (m + q * 64) (gt ys q)

theorem length_joinS (xs ys : List Nat) (m k q : Nat) : (joinS xs ys m k q).length = k := by
  induction q with
  | zero => exact length_cp xs k
  | succ q ih => simp only [joinS]; rw [length_putL, ih]

theorem word_lt (M : Nat) (ys : List Nat) (hf : Fit ys) (hk : chk (M : Int) ys = true) (q : Nat) : gt ys q < 2 ^ (min 64 (M - 64 * q)) := by
  refine Nat.lt_pow_two_of_testBit _ fun i hi => ?_
  by_cases h : i < 64
  · have e := chk_high M ys hk (64 * q + i) (by omega)
    unfold bitAt at e
    rw [show (64 * q + i) / 64 = q by omega, show (64 * q + i) % 64 = i by omega] at e
    exact e
  · exact test_big _ _ (hf q) (by omega)

theorem room_joinS (xs ys : List Nat) (m M k : Nat) (hf : Fit ys) (hk : chk (M : Int) ys = true) (hkk : k = (m + M + 63) / 64) (q : Nat) (hq : q < ys.length) : Room (joinS xs ys m k q) (m + q * 64) (gt ys q) := by
  obtain ⟨_, _, hl, _⟩ := chk_out M ys hk
  exact room_of _ _ _ _ (word_lt M ys hf hk q) (by omega) (by rw [length_joinS]; omega)

theorem joinS_bits (xs ys : List Nat) (m M k : Nat) (hfx : Fit xs) (hf : Fit ys) (hk : chk (M : Int) ys = true) (hkk : k = (m + M + 63) / 64) (q : Nat) (hq : q ≤ ys.length) :
    Fit (joinS xs ys m k q) ∧ ∀ i, bitAt (joinS xs ys m k q) i = (bitAt (cp xs k) i || (decide (m ≤ i ∧ i < m + q * 64) && bitAt ys (i - m))) := by
  induction q with
  | zero =>
    refine ⟨fit_cp xs hfx k, fun i => ?_⟩
    simp only [joinS]
    rw [show decide (m ≤ i ∧ i < m + 0 * 64) = false by simp]
    simp
  | succ q ih =>
    obtain ⟨i1, i2⟩ := ih (by omega)
    have hr := room_joinS xs ys m M k hf hk hkk q (by omega)
    refine ⟨fit_putL _ i1 _ _ (hf q) hr, fun i => ?_⟩
    simp only [joinS]
    rw [bitAt_putL _ _ _ (hf q) hr, i2 i, Bool.or_assoc]
    congr 1
    by_cases c1 : m + q * 64 ≤ i
    · rw [show decide (m ≤ i ∧ i < m + q * 64) = false by simp; omega, show decide (m + q * 64 ≤ i) = true by simpa using c1]
      by_cases c2 : i < m + (q + 1) * 64
      · rw [show decide (m ≤ i ∧ i < m + (q + 1) * 64) = true by simp; omega]
        unfold bitAt
        rw [show (i - m) / 64 = q by omega, show (i - m) % 64 = i - (m + q * 64) by omega]
        simp
      · rw [show decide (m ≤ i ∧ i < m + (q + 1) * 64) = false by simp; omega, test_big _ _ (hf q) (by omega)]
        simp
    · rw [show decide (m + q * 64 ≤ i) = false by simpa using c1]
      by_cases c2 : m ≤ i
      · rw [show decide (m ≤ i ∧ i < m + q * 64) = true by simp; omega, show decide (m ≤ i ∧ i < m + (q + 1) * 64) = true by simp; omega]
        simp
      · rw [show decide (m ≤ i ∧ i < m + q * 64) = false by simp; omega, show decide (m ≤ i ∧ i < m + (q + 1) * 64) = false by simp; omega]
        simp

theorem join_row (m M k : Nat) (xs ys : List Nat) (hfx : Fit xs) (hf : Fit ys) (hkx : chk (m : Int) xs = true) (hk : chk (M : Int) ys = true) (hkk : k = (m + M + 63) / 64) :
    joinS xs ys m k ys.length = rowOf (m + M) (fun j => if j < m then bitAt xs j else bitAt ys (j - m)) := by
  obtain ⟨_, _, hlx, _⟩ := chk_out m xs hkx
  obtain ⟨_, _, hl, _⟩ := chk_out M ys hk
  obtain ⟨h1, h2⟩ := joinS_bits xs ys m M k hfx hf hk hkk ys.length (Nat.le_refl _)
  refine eq_rowOf _ _ _ h1 (by rw [length_joinS]; exact hkk) fun i hi => ?_
  rw [length_joinS] at hi
  rw [h2 i]
  have hb : bitAt (cp xs k) i = bitAt xs i := by unfold bitAt; rw [gt_cp xs k _ (by omega)]
  rw [hb]
  by_cases c : i < m
  · rw [if_pos c, show decide (m ≤ i ∧ i < m + ys.length * 64) = false by simp; omega, show decide (i < m + M) = true by simp; omega]
    simp
  · rw [if_neg c, chk_high m xs hkx i (by omega)]
    by_cases c2 : i < m + M
    · rw [show decide (m ≤ i ∧ i < m + ys.length * 64) = true by simp; omega, show decide (i < m + M) = true by simpa using c2]
      simp
    · rw [chk_high M ys hk (i - m) (by omega)]
      simp
end Bit
end Go.Proofs.YtmkmpggpjlikaaaDoor

namespace Go.Proofs.YtmkmpggpjlikaaaDoor
open Go.RowKit Num Bit
set_option maxRecDepth 100000

def bt (l : List Bool) (i : Nat) : Bool := l.getD i false
/-- A slice of bools that reads as a list. -/
def Bl (w : World) (ao : Option Addr) (l : List Bool) : Prop :=
  0 < l.length → ∃ b off, ao = some ⟨b, off, none⟩ ∧ b < w.heap.size ∧ ∀ i, i < l.length → w.cell? ⟨b, off + i, none⟩ = some (.bool (bt l i))
theorem Bl.keep {w w' : World} {ao : Option Addr} {l : List Bool} (h : Bl w ao l) (hb : Below w.heap.size w w') : Bl w' ao l := by
  intro hi
  obtain ⟨b, off, e, hlt, hc⟩ := h hi
  exact ⟨b, off, e, Nat.lt_of_lt_of_le hlt hb.size, fun i hi => (hb.cell (p := ⟨b, off + i, none⟩) hlt).trans (hc i hi)⟩

def fromS (l : List Bool) (q : Nat) : List Nat := rowOf l.length (fun j => decide (j < q) && bt l j)

theorem length_fromS (l : List Bool) (q : Nat) : (fromS l q).length = (l.length + 63) / 64 := length_rowOf _ _

theorem fit_fromS (l : List Bool) (q : Nat) : Fit (fromS l q) := fit_rowOf _ _

theorem from_step (l : List Bool) (q : Nat) (hq : q < l.length) (hl : l.length ≤ 1048576) (hb : bt l q = true) : (fromS l q).set (q / 64) (gt (fromS l q) (q / 64) ||| 2 ^ (q % 64)) = fromS l (q + 1) := by
  have e := set_row_true l.length (fromS l q) (fit_rowOf _ _) (chk_rowOf _ _ hl) q (by omega)
  rw [e, Int.toNat_natCast]
  refine rowOf_congr _ _ _ fun i hi => ?_
  unfold fromS
  rw [bitAt_rowOf]
  by_cases c : i = q
  · subst c; simp [hb]
  · rw [if_neg c]
    by_cases c2 : i < q
    · simp [hi, c2, show i < q + 1 by omega]
    · simp [c2, show ¬ i < q + 1 by omega]

theorem from_skip (l : List Bool) (q : Nat) (hb : bt l q = false) : fromS l q = fromS l (q + 1) := by
  refine rowOf_congr _ _ _ fun i _ => ?_
  by_cases c : i = q
  · subst c; simp [hb]
  · by_cases c2 : i < q
    · simp [c2, show i < q + 1 by omega]
    · simp [c2, show ¬ i < q + 1 by omega]

def frL (l : List Bool) : List Nat := rowOf l.length (bt l)

theorem fromS_all (l : List Bool) : fromS l l.length = frL l := rowOf_congr _ _ _ fun i hi => by simp [hi]

end Go.Proofs.YtmkmpggpjlikaaaDoor

namespace Go.Proofs.YtmkmpggpjlikaaaDoor
open Go.RowKit Num Bit
set_option maxRecDepth 100000

/-- What the document's put makes of the words. -/
def rputL (ys : List Nat) (p : Nat) (x : Bool) : List Nat :=
  if x then ys.set (p / 64) ((gt ys (p / 64) &&& (18446744073709551615 - 2 ^ (p % 64))) ||| 2 ^ (p % 64)) else ys.set (p / 64) (gt ys (p / 64) &&& (18446744073709551615 - 2 ^ (p % 64)))

theorem rput_row (N : Int) (xs : List Nat) (hf : Fit xs) (hk : chk N xs = true) (n : Nat) (hn : (n : Int) < N) (x : Bool) :
    rputL xs n x = rowOf N.toNat (fun j => if j = n then x else bitAt xs j) := by
  cases x with
  | false => exact set_row_false N xs hf hk n hn
  | true =>
    have e := set_row_true N xs hf hk n hn
    rw [← e]
    unfold rputL
    rw [if_pos rfl]
    congr 1
    refine eq_of_bits _ _ (or_lt _ _ (Nat.lt_of_le_of_lt Nat.and_le_left (hf _)) (two_pow_lt _ (by omega))) (or_lt _ _ (hf _) (two_pow_lt _ (by omega))) fun k hk64 => ?_
    rw [Nat.testBit_or, Nat.testBit_or, Nat.testBit_and, test_not_pow _ _ (by omega) hk64, Nat.testBit_two_pow]
    by_cases c : n % 64 = k <;> simp [c]

theorem from_put (l : List Bool) (q : Nat) (hq : q < l.length) (hl : l.length ≤ 1048576) : rputL (fromS l q) q (bt l q) = fromS l (q + 1) := by
  have e := rput_row l.length (fromS l q) (fit_rowOf _ _) (chk_rowOf _ _ hl) q (by omega) (bt l q)
  rw [e, Int.toNat_natCast]
  refine rowOf_congr _ _ _ fun i hi => ?_
  unfold fromS
  rw [bitAt_rowOf]
  by_cases c : i = q
  · subst c; simp
  · rw [if_neg c]
    by_cases c2 : i < q
    · simp [hi, c2, show i < q + 1 by omega]
    · simp [c2, show ¬ i < q + 1 by omega]

end Go.Proofs.YtmkmpggpjlikaaaDoor

namespace Go.Proofs.YtmkmpggpjlikaaaDoor
open Go.RowKit Num Bit
set_option maxRecDepth 100000
set_option linter.unusedVariables false

theorem Turned.drew {g : Nat} {a w : World} (h : Turned g a w) : Turned g a w.drew := ⟨h.os, h.tape, h.output, h.size, h.block⟩
theorem Own.drew {w : World} {g : Nat} {ys : List Nat} (h : Own w g ys) : Own w.drew g ys := h
theorem mask_n (W m : Nat) (hm : maskI (W : Int) = (m : Int)) (w : World) :
    Calls Tryd.prog 55 #[.int .i64 W] w fun e w' => e = .returned (.int .u64 (m : Int)) ∧ w' = w := by
  have h := mask_c (W : Int) w
  rw [hm] at h
  exact h
theorem mask_is (W : Nat) (h : W ≤ 64) : maskI (W : Int) = ((2 ^ W - 1 : Nat) : Int) := by
  unfold maskI
  rw [Int.toNat_natCast, Nat.min_eq_left h]

set_option maxHeartbeats 2000000 in
theorem lay_c (ys : List Nat) (l g cap p W v : Nat) (w : World) (hl : ys.length = l) (hO : Own w g ys) (hf : Fit ys) (hW : 1 ≤ W) (hW2 : W ≤ 64) (hv : v < 18446744073709551616) (hp : p + W ≤ 64 * ys.length) (hpb : p ≤ 1048576) :
    Calls Tryd.prog 65 #[.slice (some ⟨g, 0, none⟩) l cap, .int .i64 p, .int .i64 W, .int .u64 v] w fun e w' => e = .returned (.tuple #[]) ∧ Own w' g (layL ys p W v) ∧ Turned g w w' := by
  subst hl
  obtain ⟨m, hm⟩ : ∃ m : Nat, m = 2 ^ W - 1 := ⟨_, rfl⟩
  have hmm : Hid (maskI (W : Int) = (m : Int)) := by rw [hm]; exact mask_is W hW2
  have hmb : Hid (m < 18446744073709551616) := by
    have := Nat.pow_le_pow_right (n := 2) (j := 64) (by decide) hW2
    rw [show (2 : Nat) ^ 64 = 18446744073709551616 from rfl] at this
    unfold Hid; omega
  have h1 : p / 64 < ys.length := by omega
  have l1' : (p : Int) / 64 < (ys.length : Int) := by omega
  have e1 := hO.cell (p / 64) h1
  have f1 := hO.frozen (p / 64)
  have A1 : Hid (bits .andNot .u64 (gt ys (p / 64) : Int) ((m * 2 ^ (p % 64) % 18446744073709551616 : Nat) : Int) = ((gt ys (p / 64) &&& (18446744073709551615 - m * 2 ^ (p % 64) % 18446744073709551616) : Nat) : Int)) := u64_andNot_nat _ _ (hf _) (Nat.mod_lt _ (by decide))
  have A2 : Hid (bits .or .u64 ((gt ys (p / 64) &&& (18446744073709551615 - m * 2 ^ (p % 64) % 18446744073709551616) : Nat) : Int) ((v * 2 ^ (p % 64) % 18446744073709551616 : Nat) : Int) = (((gt ys (p / 64) &&& (18446744073709551615 - m * 2 ^ (p % 64) % 18446744073709551616)) ||| v * 2 ^ (p % 64) % 18446744073709551616 : Nat) : Int)) := u64_or_nat _ _ (Nat.lt_of_le_of_lt Nat.and_le_left (hf _)) (Nat.mod_lt _ (by decide))
  have HM : Hid (m = 2 ^ W - 1) := hm
  clear hm
  by_cases c : 64 - p % 64 < W
  · have c' : (64 : Int) - (p : Int) % 64 < (W : Int) := by omega
    have h2 : p / 64 + 1 < ys.length := by omega
    have l2' : (p : Int) / 64 + 1 < (ys.length : Int) := by omega
    have e2 := hO.cell (p / 64 + 1) h2
    have f2 := hO.frozen (p / 64 + 1)
    have B1 : Hid (bits .andNot .u64 (gt ys (p / 64 + 1) : Int) ((m / 2 ^ (64 - p % 64) : Nat) : Int) = ((gt ys (p / 64 + 1) &&& (18446744073709551615 - m / 2 ^ (64 - p % 64)) : Nat) : Int)) := u64_andNot_nat _ _ (hf _) (Nat.lt_of_le_of_lt (Nat.div_le_self _ _) hmb.out)
    have B2 : Hid (bits .or .u64 ((gt ys (p / 64 + 1) &&& (18446744073709551615 - m / 2 ^ (64 - p % 64)) : Nat) : Int) ((v / 2 ^ (64 - p % 64) : Nat) : Int) = (((gt ys (p / 64 + 1) &&& (18446744073709551615 - m / 2 ^ (64 - p % 64))) ||| v / 2 ^ (64 - p % 64) : Nat) : Int)) := u64_or_nat _ _ (Nat.lt_of_le_of_lt Nat.and_le_left (hf _)) (Nat.lt_of_le_of_lt (Nat.div_le_self _ _) hv)
    have R : Hid (layL ys p W v = ((ys.set (p / 64) ((gt ys (p / 64) &&& (18446744073709551615 - m * 2 ^ (p % 64) % 18446744073709551616)) ||| v * 2 ^ (p % 64) % 18446744073709551616)).set (p / 64 + 1) ((gt ys (p / 64 + 1) &&& (18446744073709551615 - m / 2 ^ (64 - p % 64))) ||| v / 2 ^ (64 - p % 64)))) := by
      unfold Hid layL lay1; rw [if_pos c, HM.out]
    clear c
    go_enter Tryd.func65, Tryd.ntmps65
    go_wp2_with (go_at_call 55; refine (mask_n _ _ hmm.out _).mono ?_; rintro e w' ⟨rfl, rfl⟩)
    go_region
    go_wp2
    go_region
    go_wp2
    go_end0
    rw [R.out, shl_nat, shl_nat, A1.out, A2.out, shr_cast, shr_cast, B1.out, B2.out]
    exact ⟨rfl, ((hO.set _ _).set _ _).drew.drew, (((Turned.refl _ _).set _ _).set _ _).drew.drew⟩
  · have c' : ¬ (64 : Int) - (p : Int) % 64 < (W : Int) := by omega
    have R : Hid (layL ys p W v = (ys.set (p / 64) ((gt ys (p / 64) &&& (18446744073709551615 - m * 2 ^ (p % 64) % 18446744073709551616)) ||| v * 2 ^ (p % 64) % 18446744073709551616))) := by
      unfold Hid layL lay1; rw [if_neg c, HM.out]
    clear c
    go_enter Tryd.func65, Tryd.ntmps65
    go_wp2_with (go_at_call 55; refine (mask_n _ _ hmm.out _).mono ?_; rintro e w' ⟨rfl, rfl⟩)
    go_region
    go_wp2
    go_end0
    rw [R.out, shl_nat, shl_nat, A1.out, A2.out]
    exact ⟨rfl, (hO.set _ _).drew, ((Turned.refl _ _).set _ _).drew⟩

theorem box4_two {w W w' : World} {a b c d p q r s : Value} {T U : TypeId} (hW : W = (w.alloc (.cells #[a, b, c, d] T)).alloc (.cells #[p, q, r, s] U)) (hb : Below W.heap.size W w') :
    (w'.cell? ⟨w.heap.size, 0, none⟩ = some a ∧ w'.cell? ⟨w.heap.size, 1, none⟩ = some b ∧ w'.cell? ⟨w.heap.size, 2, none⟩ = some c ∧ w'.cell? ⟨w.heap.size, 3, none⟩ = some d) ∧
    (w'.cell? ⟨w.heap.size + 1, 0, none⟩ = some p ∧ w'.cell? ⟨w.heap.size + 1, 1, none⟩ = some q ∧ w'.cell? ⟨w.heap.size + 1, 2, none⟩ = some r ∧ w'.cell? ⟨w.heap.size + 1, 3, none⟩ = some s) ∧
    (w'.frozen? ⟨w.heap.size + 1, 0, none⟩ = false ∧ w'.frozen? ⟨w.heap.size + 1, 1, none⟩ = false ∧ w'.frozen? ⟨w.heap.size + 1, 2, none⟩ = false ∧ w'.frozen? ⟨w.heap.size + 1, 3, none⟩ = false) ∧ w'.frozen? ⟨w.heap.size, 3, none⟩ = false ∧ w.heap.size + 1 < w'.heap.size ∧ Below w.heap.size w w' := by
  have hz : W.heap.size = w.heap.size + 2 := by rw [hW]; simp
  have C : ∀ (b' o : Nat) (v : Value), b' < w.heap.size + 2 → W.cell? ⟨b', o, none⟩ = some v → w'.cell? ⟨b', o, none⟩ = some v := fun b' o v hb' h => (hb.cell (p := ⟨b', o, none⟩) (by rw [hz]; exact hb')).trans h
  have F : ∀ (b' o : Nat), b' < w.heap.size + 2 → W.frozen? ⟨b', o, none⟩ = false → w'.frozen? ⟨b', o, none⟩ = false := fun b' o hb' h => (hb.frozen (p := ⟨b', o, none⟩) (by rw [hz]; exact hb')).trans h
  refine ⟨⟨?_, ?_, ?_, ?_⟩, ⟨?_, ?_, ?_, ?_⟩, ⟨?_, ?_, ?_, ?_⟩, ?_, ?_, ?_⟩
  · exact C _ _ _ (by omega) (by rw [hW]; simp)
  · exact C _ _ _ (by omega) (by rw [hW]; simp)
  · exact C _ _ _ (by omega) (by rw [hW]; simp)
  · exact C _ _ _ (by omega) (by rw [hW]; simp)
  · exact C _ _ _ (by omega) (by rw [hW]; simp)
  · exact C _ _ _ (by omega) (by rw [hW]; simp)
  · exact C _ _ _ (by omega) (by rw [hW]; simp)
  · exact C _ _ _ (by omega) (by rw [hW]; simp)
  · exact F _ _ (by omega) (by rw [hW]; simp)
  · exact F _ _ (by omega) (by rw [hW]; simp)
  · exact F _ _ (by omega) (by rw [hW]; simp)
  · exact F _ _ (by omega) (by rw [hW]; simp)
  · exact F _ _ (by omega) (by rw [hW]; simp)
  · have := hb.size; omega
  · have h0 : Below w.heap.size w W := by rw [hW]; exact ((below_alloc w _).alloc (by simp) _)
    exact h0.trans (hb.mono (by omega))

theorem splice_all (xs : List Nat) : splice (wv (List.replicate xs.length 0)) 0 (wv xs) = wv xs := by
  have h := splice_cp xs xs.length
  rw [List.take_length, cp_self] at h
  exact h

end Go.Proofs.YtmkmpggpjlikaaaDoor

namespace Go.Proofs.YtmkmpggpjlikaaaDoor
open Go.RowKit Num Bit
set_option maxRecDepth 100000
set_option linter.unusedVariables false

theorem imE_zero (W : Int) (l : List Nat) (h : imE W l = 0) : 1 ≤ W ∧ W ≤ 64 ∧ (l.length : Int) * W ≤ 1048576 ∧ ∀ j, j < l.length → lenI (gt l j) ≤ W := by
  unfold imE at h
  by_cases c : W < 1 ∨ 64 < W ∨ 1048576 < (l.length : Int) * W ∨ ¬ (∀ j, j < l.length → lenI (gt l j) ≤ W)
  · rw [if_pos c] at h; omega
  · refine ⟨by omega, by omega, by omega, ?_⟩
    exact Classical.byContradiction fun hc => c (.inr (.inr (.inr hc)))
theorem imE_bad (W : Int) (l : List Nat) (h : imE W l ≠ 0) : imE W l = 2 := by
  unfold imE at *
  split at h
  · rename_i c; rw [if_pos c]
  · exact absurd rfl h
theorem quo_le (W n : Int) (h0 : 1 ≤ W) : n ≤ 1048576 / W ↔ n * W ≤ 1048576 := Int.le_ediv_iff_mul_le (by omega)
theorem quo_bd (W : Int) (h0 : 1 ≤ W) : 0 ≤ 1048576 / W ∧ 1048576 / W ≤ 1048576 := ⟨Int.ediv_nonneg (by decide) (by omega), Int.ediv_le_self _ (by decide)⟩

set_option maxHeartbeats 1000000 in
theorem makeable_ok (W : Int) (al : Option Addr) (l : List Nat) (cap : Nat) (w : World) (hx : Wd w al l) (hf : Fit l) (hE : imE W l = 0) :
    Calls Tryd.prog 63 #[.int .i64 W, .slice al l.length cap] w fun e w' => e = .returned .nilIface ∧ w' = w := by
  obtain ⟨a1, a2, a3, a4⟩ := imE_zero W l hE
  have q1 : (l.length : Int) ≤ 1048576 / W := (quo_le W _ a1).2 a3
  obtain ⟨q2, q3⟩ := quo_bd W a1
  have hll : l.length ≤ 1048576 := by omega
  have HA : Hid (∀ j, j < l.length → lenI (gt l j) ≤ W) := a4
  clear hE a3 a4
  go_enter Tryd.func63, Tryd.ntmps63
  go_wp2_with (go_at_call 71; refine (wide_ok _ ?_ ?_ _).mono ?_; exact a1; exact a2; rintro e w' ⟨rfl, rfl⟩)
  go_loop [23] (fun i => ∃ k : Nat, k ≤ l.length ∧ i = .int .i64 k) (fun i => l.length - (intOf i).toNat)
  case atStart => exact ⟨0, by omega, rfl⟩
  case round =>
    obtain ⟨k, hk, rfl⟩ := hrel
    by_cases hlt : k < l.length
    · obtain ⟨b, off, rfl, hb, hc⟩ := hx (by omega)
      have e1 := hc k hlt
      have hlt3 : (k : Int) < (l.length : Int) := by omega
      have F1 : Hid ((gt l k : Int) < 18446744073709551616) := by unfold Hid; have := hf k; omega
      clear hc
      go_wp2_with (go_at_call 72; refine (narrow_ok _ _ ?_ ?_ ?_ _).mono ?_; (exact Int.natCast_nonneg _); exact F1.out; (exact HA.out k hlt); rintro e w' ⟨rfl, rfl⟩)
      go_round
      case rel => exact ⟨k + 1, by omega, by go_num⟩
      case measure => simp only [intOf]; omega
    · go_wp2
      go_ret
      exact ⟨rfl, rfl⟩

set_option maxHeartbeats 1000000 in
theorem makeable_bad (W : Int) (al : Option Addr) (l : List Nat) (cap : Nat) (w : World) (hx : Wd w al l) (hf : Fit l) (hE : imE W l ≠ 0) (hcap : l.length ≤ 9223372036854775807) :
    Calls Tryd.prog 63 #[.int .i64 W, .slice al l.length cap] w fun e w' => (∃ s, e = .returned (.iface 110 (.agg #[.int .i64 2, .string s]))) ∧ w' = w := by
  by_cases c : W < 1 ∨ 64 < W
  · clear hE
    go_enter Tryd.func63, Tryd.ntmps63
    go_wp2_with (go_at_call 71; refine (wide_bad _ ?_ _).mono ?_; exact c; rintro e w' ⟨⟨s, rfl⟩, rfl⟩)
    go_ret
    exact ⟨⟨_, rfl⟩, rfl⟩
  have a1 : 1 ≤ W := by omega
  have a2 : W ≤ 64 := by omega
  obtain ⟨q2, q3⟩ := quo_bd W a1
  by_cases c2 : 1048576 / W < (l.length : Int)
  · clear hE
    go_enter Tryd.func63, Tryd.ntmps63
    go_wp2_with (go_at_call 71; refine (wide_ok _ ?_ ?_ _).mono ?_; exact a1; exact a2; rintro e w' ⟨rfl, rfl⟩)
    go_ret
    exact ⟨⟨_, rfl⟩, rfl⟩
  have q1 : (l.length : Int) ≤ 1048576 / W := by omega
  have a3 := (quo_le W _ a1).1 q1
  have hll : l.length ≤ 1048576 := by omega
  have HA : Hid (¬ ∀ j, j < l.length → lenI (gt l j) ≤ W) := fun h => hE (by unfold imE; rw [if_neg]; rintro (h1 | h1 | h1 | h1) <;> first | omega | exact h1 h)
  clear hE c c2 a3
  go_enter Tryd.func63, Tryd.ntmps63
  go_wp2_with (go_at_call 71; refine (wide_ok _ ?_ ?_ _).mono ?_; exact a1; exact a2; rintro e w' ⟨rfl, rfl⟩)
  go_loop [23] (fun i => ∃ k : Nat, k ≤ l.length ∧ i = .int .i64 k ∧ Hid (∀ j, j < k → lenI (gt l j) ≤ W)) (fun i => l.length - (intOf i).toNat)
  case atStart => exact ⟨0, by omega, rfl, fun j hj => absurd hj (by omega)⟩
  case round =>
    obtain ⟨k, hk, rfl, H⟩ := hrel
    by_cases hlt : k < l.length
    · obtain ⟨b, off, rfl, hb, hc⟩ := hx (by omega)
      have e1 := hc k hlt
      have hlt3 : (k : Int) < (l.length : Int) := by omega
      have F1 : Hid ((gt l k : Int) < 18446744073709551616) := by unfold Hid; have := hf k; omega
      clear hc
      by_cases hfit : lenI (gt l k) ≤ W
      · have HF : Hid (lenI (gt l k) ≤ W) := hfit
        clear hfit
        go_wp2_with (go_at_call 72; refine (narrow_ok _ _ ?_ ?_ ?_ _).mono ?_; (exact Int.natCast_nonneg _); exact F1.out; exact HF.out; rintro e w' ⟨rfl, rfl⟩)
        go_round
        case rel =>
          refine ⟨k + 1, by omega, by go_num, fun j hj => ?_⟩
          by_cases e : j = k
          · subst e; exact HF.out
          · exact H.out j (by omega)
        case measure => simp only [intOf]; omega
      · have HF : Hid (W < lenI (gt l k)) := by unfold Hid; omega
        clear hfit
        go_wp2_with (go_at_call 72; refine (narrow_bad _ _ ?_ ?_ ?_ _).mono ?_; (exact Int.natCast_nonneg _); exact F1.out; exact HF.out; rintro e w' ⟨⟨s, rfl⟩, rfl⟩)
        go_ret
        exact ⟨⟨_, rfl⟩, rfl⟩
    · exact absurd (fun j hj => H.out j (by omega)) HA.out

set_option maxHeartbeats 2000000 in
theorem make_ok (W : Nat) (al : Option Addr) (l : List Nat) (cap k : Nat) (w : World) (hx : Wd w al l) (hf : Fit l) (hE : imE (W : Int) l = 0) (hk : k = (l.length * W + 63) / 64) :
    Calls Tryd.prog 46 #[.int .i64 W, .slice al l.length cap] w fun e w' => ∃ g, e = .returned (.tuple #[.agg #[.int .i64 l.length, .int .i64 W, .int .i64 ((l.length : Int) * W), .slice (some ⟨g, 0, none⟩) k k], .int .i64 0]) ∧ w.heap.size ≤ g ∧ Own w' g (mkS l W l.length) ∧ Below w.heap.size w w' := by
  obtain ⟨a1, a2, a3, a4⟩ := imE_zero W l hE
  have K : ∀ o, Wd (w.alloc o) al l := fun o => hx.keep (below_alloc w o)
  have hm : l.length * W ≤ 1048576 := by
    have : ((l.length * W : Nat) : Int) ≤ 1048576 := by rw [Int.natCast_mul]; exact a3
    omega
  have hll : l.length ≤ 1048576 := Nat.le_trans (Nat.le_mul_of_pos_right _ (by omega)) hm
  have hmi : (0 : Int) ≤ (l.length : Int) * (W : Int) := Int.mul_nonneg (by omega) (by omega)
  have HK : Hid (k = (l.length * W + 63) / 64) := hk
  have HK1 : Hid (((l.length : Int) * W + 63) / 64 = (k : Int)) := by unfold Hid; rw [← Int.natCast_mul]; omega
  have HE : Hid (imE (W : Int) l = 0) := hE
  have HA : Hid (∀ j, j < l.length → gt l j < 2 ^ W) := fun j hj => (lenI_fit _ _).1 (a4 j hj)
  clear hk hE a4
  go_enter Tryd.func46, Tryd.ntmps46
  go_wp2_with fail
  refine (makeable_ok _ _ _ _ _ (K _) hf HE.out).mono ?_
  rintro e w' ⟨rfl, hw'⟩
  subst hw'
  go_wp2_with fail
  refine (new_ok _ k _ hmi a3 HK1.out).mono ?_
  rintro e w1 ⟨g, rfl, hg1, hg2, hO, hb⟩
  have KF : w1.frozen? ⟨w.heap.size, 0, none⟩ = false ∧ w1.frozen? ⟨w.heap.size, 1, none⟩ = false ∧ w1.frozen? ⟨w.heap.size, 2, none⟩ = false ∧ w1.frozen? ⟨w.heap.size, 3, none⟩ = false :=
    ⟨(hb.frozen (p := ⟨w.heap.size, 0, none⟩) (by simp)).trans (by simp), (hb.frozen (p := ⟨w.heap.size, 1, none⟩) (by simp)).trans (by simp), (hb.frozen (p := ⟨w.heap.size, 2, none⟩) (by simp)).trans (by simp), (hb.frozen (p := ⟨w.heap.size, 3, none⟩) (by simp)).trans (by simp)⟩
  have KK := Box4.new hb
  have hg0 : w.heap.size + 1 ≤ g := by simpa using hg1
  clear hb hg1 K
  obtain ⟨⟨hz, k0, k1, k2, k3⟩, hw⟩ := KK
  obtain ⟨f0, f1, f2, f3⟩ := KF
  go_wp2
  go_loopw [33] (fun i wr => ∃ q : Nat, q ≤ l.length ∧ i = .int .i64 q ∧ Own wr g (mkS l W q) ∧ (wr.cell? ⟨w1.heap.size, 0, none⟩ = some (.int .i64 ((l.length : Int) * W)) ∧ wr.cell? ⟨w1.heap.size, 1, none⟩ = some (.slice (some ⟨g, 0, none⟩) k k)) ∧ (wr.cell? ⟨w.heap.size, 0, none⟩ = some (.int .i64 0) ∧ wr.cell? ⟨w.heap.size, 1, none⟩ = some (.int .i64 0) ∧ wr.cell? ⟨w.heap.size, 2, none⟩ = some (.int .i64 0) ∧ wr.cell? ⟨w.heap.size, 3, none⟩ = some (.slice none 0 0)) ∧ (wr.frozen? ⟨w.heap.size, 0, none⟩ = false ∧ wr.frozen? ⟨w.heap.size, 1, none⟩ = false ∧ wr.frozen? ⟨w.heap.size, 2, none⟩ = false ∧ wr.frozen? ⟨w.heap.size, 3, none⟩ = false) ∧ Below w.heap.size w wr) (fun i _ => l.length - (intOf i).toNat)
  case atStart =>
    have hb := below_alloc w1 (.cells #[.int .i64 ((l.length : Int) * W), .slice (some ⟨g, 0, none⟩) k k] 24)
    refine ⟨0, Nat.zero_le _, rfl, ?_, ⟨by simp, by simp⟩, ⟨(hb.cell (p := ⟨w.heap.size, 0, none⟩) hz).trans k0, (hb.cell (p := ⟨w.heap.size, 1, none⟩) hz).trans k1, (hb.cell (p := ⟨w.heap.size, 2, none⟩) hz).trans k2, (hb.cell (p := ⟨w.heap.size, 3, none⟩) hz).trans k3⟩, ⟨(hb.frozen (p := ⟨w.heap.size, 0, none⟩) hz).trans f0, (hb.frozen (p := ⟨w.heap.size, 1, none⟩) hz).trans f1, (hb.frozen (p := ⟨w.heap.size, 2, none⟩) hz).trans f2, (hb.frozen (p := ⟨w.heap.size, 3, none⟩) hz).trans f3⟩, hw.trans (hb.mono (by omega))⟩
    rw [← mkS_zero, ← rep_row (l.length * W) k HK.out]
    exact hO.keep hb
  case round =>
    obtain ⟨q, hq, rfl, hOr, ⟨r0, r1⟩, ⟨s0, s1, s2, s3⟩, ⟨t0, t1, t2, t3⟩, hwr⟩ := hrel
    by_cases hlt : q < l.length
    · obtain ⟨b, off, rfl, hb, hc⟩ := hx (by omega)
      have e1 := (hwr.cell (p := ⟨b, off + q, none⟩) hb).trans (hc q hlt)
      have hlt3 : (q : Int) < (l.length : Int) := by omega
      have hn := mul_next l.length W q hlt
      have hqW : q * W ≤ 1048576 := by omega
      have hqi : (0 : Int) ≤ (q : Int) * (W : Int) := Int.mul_nonneg (by omega) (by omega)
      have hqi2 : (q : Int) * (W : Int) ≤ 1048576 := by rw [← Int.natCast_mul]; omega
      have FS : Hid (layL (mkS l W q) (q * W) W (gt l q) = mkS l W (q + 1)) := mkS_step l W q (by omega) (by omega) hlt (HA.out q hlt) (hf q)
      have HLN : Hid ((mkS l W q).length = k) := by unfold Hid; rw [length_mkS]; exact HK.out.symm
      have HP : Hid (q * W + W ≤ 64 * (mkS l W q).length) := by unfold Hid; rw [length_mkS]; omega
      have HC : Hid ((q : Int) * (W : Int) = ((q * W : Nat) : Int)) := (Int.natCast_mul q W).symm
      clear hc hn
      go_wp2_with fail
      rw [HC.out]
      refine (lay_c (mkS l W q) k g k (q * W) W (gt l q) _ HLN.out hOr (fit_mkS _ _ _) (by omega) (by omega) (hf q) HP.out hqW).mono ?_
      rintro e w4 ⟨rfl, hO4, hT⟩
      rw [FS.out] at hO4
      have u0 := (hT.cell (p := ⟨w1.heap.size, 0, none⟩) (show w1.heap.size ≠ g by omega)).trans r0
      have u1 := (hT.cell (p := ⟨w1.heap.size, 1, none⟩) (show w1.heap.size ≠ g by omega)).trans r1
      have x0 := (hT.cell (p := ⟨w.heap.size, 0, none⟩) (show w.heap.size ≠ g by omega)).trans s0
      have x1 := (hT.cell (p := ⟨w.heap.size, 1, none⟩) (show w.heap.size ≠ g by omega)).trans s1
      have x2 := (hT.cell (p := ⟨w.heap.size, 2, none⟩) (show w.heap.size ≠ g by omega)).trans s2
      have x3 := (hT.cell (p := ⟨w.heap.size, 3, none⟩) (show w.heap.size ≠ g by omega)).trans s3
      have y0 := (hT.frozen (p := ⟨w.heap.size, 0, none⟩) (show w.heap.size ≠ g by omega)).trans t0
      have y1 := (hT.frozen (p := ⟨w.heap.size, 1, none⟩) (show w.heap.size ≠ g by omega)).trans t1
      have y2 := (hT.frozen (p := ⟨w.heap.size, 2, none⟩) (show w.heap.size ≠ g by omega)).trans t2
      have y3 := (hT.frozen (p := ⟨w.heap.size, 3, none⟩) (show w.heap.size ≠ g by omega)).trans t3
      have hw4 := hwr.trans (hT.below (B := w.heap.size) (by omega))
      clear hT r0 r1 s0 s1 s2 s3 t0 t1 t2 t3 hwr hOr e1
      go_wp2
      exact ⟨⟨q + 1, by omega, by go_num, hO4, ⟨u0, u1⟩, ⟨x0, x1, x2, x3⟩, ⟨y0, y1, y2, y3⟩, hw4⟩, by simp only [intOf]; omega⟩
    · have hq2 : q = l.length := by omega
      rw [hq2] at hOr
      clear hq2
      go_wp2
      refine bodyPost_ret (v := .tuple #[.agg #[.int .i64 l.length, .int .i64 W, .int .i64 ((l.length : Int) * W), .slice (some ⟨g, 0, none⟩) k k], .int .i64 0]) (by simp [results, Tryd.results46, go_sem, s0, s1, s2, s3]) rfl ⟨g, rfl, by omega, ?_, ?_⟩
      · exact (((hOr.set_other (by simp; omega) _).set_other (by simp; omega) _).set_other (by simp; omega) _).set_other (by simp; omega) _
      · exact (((hwr.setCell (by simp) _).setCell (by simp) _).setCell (by simp) _).setCell (by simp) _

/-- As Out, and the words lie in memory that is new. -/
def OutF (w w' : World) (ao : Option Addr) (ys : List Nat) (cap : Nat) : Prop := Wd w' ao ys ∧ Fit ys ∧ ys.length ≤ cap ∧ (∀ a, ao = some a → w.heap.size ≤ a.block) ∧ Below w.heap.size w w'
theorem Wd.set_other {w : World} {ao : Option Addr} {xs : List Nat} (h : Wd w ao xs) {a : Addr} (hn : ∀ p, ao = some p → p.block ≠ a.block) (v : Value) : Wd (w.setCell a v) ao xs := by
  intro hi
  obtain ⟨b, off, e, hlt, hc⟩ := h hi
  have hne := hn _ e
  refine ⟨b, off, e, by rw [size_set]; exact hlt, fun i hi => ?_⟩
  rw [← hc i hi]
  exact World.cell?_of_block (w := w) (a := ⟨b, off + i, none⟩) (Below.heap_setCell w a v b hne)

end Go.Proofs.YtmkmpggpjlikaaaDoor

namespace Go.Proofs.YtmkmpggpjlikaaaDoor
open Go.RowKit Num Bit
set_option maxRecDepth 100000
set_option linter.unusedVariables false

theorem info4 : (Tryd.prog.info? 4).map (fun i => (i.zero, i.size, i.bytes)) = some (some (.bool false), 1, 1) := by kernel_rfl

def bv (l : List Bool) : List Value := l.map fun b => Value.bool b
/-- The bits of numbers of that width, the first q of them. -/
def mb (l : List Nat) (W q : Nat) : List Bool := (List.range q).map fun j => (gt l (j / W)).testBit (j % W)
theorem length_mb (l : List Nat) (W q : Nat) : (mb l W q).length = q := by simp [mb]
theorem bt_mb (l : List Nat) (W q i : Nat) (h : i < q) : bt (mb l W q) i = (gt l (i / W)).testBit (i % W) := by
  unfold bt mb
  rw [List.getD_eq_getElem?_getD, List.getElem?_map, List.getElem?_range h]
  rfl
theorem mb_succ (l : List Nat) (W i k : Nat) (hk : k < W) : bv (mb l W (i * W + k)) ++ [.bool ((gt l i).testBit k)] = bv (mb l W (i * W + k + 1)) := by
  unfold bv mb
  rw [List.range_succ, List.map_append, List.map_append]
  have e1 : (i * W + k) / W = i := by rw [Nat.mul_comm, Nat.mul_add_div (by omega), Nat.div_eq_of_lt hk]; omega
  have e2 : (i * W + k) % W = k := by rw [Nat.mul_comm, Nat.mul_add_mod, Nat.mod_eq_of_lt hk]
  simp only [List.map_cons, List.map_nil, e1, e2]
theorem mb_row (l : List Nat) (W : Nat) : fromS (mb l W (l.length * W)) (mb l W (l.length * W)).length = mkS l W l.length := by
  unfold fromS mkS
  rw [length_mb]
  refine rowOf_congr _ _ _ fun i hi => ?_
  rw [bt_mb _ _ _ _ hi]
theorem shr_bit (y q : Nat) : (((y : Int) / 2 ^ q).tmod 2 == 1) = y.testBit q := by
  rw [bit_tmod _ _ (Int.natCast_nonneg _), bit_test, Int.toNat_natCast, Bool.eq_iff_iff, beq_iff_eq, decide_eq_true_eq]
  omega
theorem bl_owns {w : World} {base n : Nat} {v : Value} {l : List Bool} (h : w.ownsRow base 4 1 v n (bv l)) : ∃ ao cap, v = .slice ao n cap ∧ Bl w ao l ∧ l.length = n := by
  have hn : l.length = n := by have := h.1; simpa [bv] using this
  obtain ⟨h1, ⟨rfl, rfl⟩ | ⟨g, cap, cur, rfl, e2, hh, r, _, hs, ht⟩⟩ := h
  · exact ⟨none, 0, rfl, fun h => absurd h (by omega), hn⟩
  · refine ⟨some ⟨g, 0, none⟩, cap, rfl, fun _ => ⟨g, 0, rfl, (Array.getElem?_eq_some_iff.1 hh).1, fun i hi => ?_⟩, hn⟩
    unfold World.cell?
    rw [show w.heap[({ block := g, off := 0 + i, spot := none } : Addr).block]? = _ from hh]
    have h3 : (cur.toList.take (n * 1))[i]? = some (.bool (bt l i)) := by
      rw [ht, bv, List.getElem?_map]
      unfold bt
      rw [List.getD_eq_getElem?_getD, List.getElem?_eq_getElem hi]
      rfl
    rw [List.getElem?_take_of_lt (by omega)] at h3
    simpa using h3

/-- What stands while the bits are gathered: the result's box, and that nothing old has turned. -/
structure RB (w wr : World) : Prop where
  c0 : wr.cell? ⟨w.heap.size, 0, none⟩ = some (.int .i64 0)
  c1 : wr.cell? ⟨w.heap.size, 1, none⟩ = some (.int .i64 0)
  c2 : wr.cell? ⟨w.heap.size, 2, none⟩ = some (.int .i64 0)
  c3 : wr.cell? ⟨w.heap.size, 3, none⟩ = some (.slice none 0 0)
  f0 : wr.frozen? ⟨w.heap.size, 0, none⟩ = false
  f1 : wr.frozen? ⟨w.heap.size, 1, none⟩ = false
  f2 : wr.frozen? ⟨w.heap.size, 2, none⟩ = false
  f3 : wr.frozen? ⟨w.heap.size, 3, none⟩ = false
  lt : w.heap.size < wr.heap.size
  bel : Below w.heap.size w wr
theorem RB.new (w : World) : RB w (w.alloc (.cells #[.int .i64 0, .int .i64 0, .int .i64 0, .slice none 0 0] 28)) := ⟨by simp, by simp, by simp, by simp, by simp, by simp, by simp, by simp, by simp, below_alloc _ _⟩
theorem RB.keep {w w1 w2 : World} (h : RB w w1) (hb : Below (w.heap.size + 1) w1 w2) : RB w w2 :=
  ⟨(hb.cell (p := ⟨w.heap.size, 0, none⟩) (by simp)).trans h.c0, (hb.cell (p := ⟨w.heap.size, 1, none⟩) (by simp)).trans h.c1, (hb.cell (p := ⟨w.heap.size, 2, none⟩) (by simp)).trans h.c2, (hb.cell (p := ⟨w.heap.size, 3, none⟩) (by simp)).trans h.c3,
   (hb.frozen (p := ⟨w.heap.size, 0, none⟩) (by simp)).trans h.f0, (hb.frozen (p := ⟨w.heap.size, 1, none⟩) (by simp)).trans h.f1, (hb.frozen (p := ⟨w.heap.size, 2, none⟩) (by simp)).trans h.f2, (hb.frozen (p := ⟨w.heap.size, 3, none⟩) (by simp)).trans h.f3,
   Nat.lt_of_lt_of_le h.lt hb.size, h.bel.trans (hb.mono (by omega))⟩

theorem RB.put {w w1 : World} (h : RB w w1) (p q r s : Value) : Box4 ((((w1.setCell ⟨w.heap.size, 0, none⟩ p).setCell ⟨w.heap.size, 1, none⟩ q).setCell ⟨w.heap.size, 2, none⟩ r).setCell ⟨w.heap.size, 3, none⟩ s) w.heap.size p q r s :=
  ⟨by simp only [size_set]; exact h.lt, by simp [go_sem, h.c0], by simp [go_sem, h.c1], by simp [go_sem, h.c2], by simp [go_sem, h.c3]⟩

end Go.Proofs.YtmkmpggpjlikaaaDoor

namespace Go.Proofs.YtmkmpggpjlikaaaDoor
open Go.RowKit Num Bit
set_option maxRecDepth 100000
set_option linter.unusedVariables false

def lsS (n : Nat) (f : Nat → Nat) (k : Nat) : List Nat := (List.range n).map fun i => if i < k then f i else 0
theorem length_lsS (n : Nat) (f : Nat → Nat) (k : Nat) : (lsS n f k).length = n := by simp [lsS]
theorem gt_lsS (n : Nat) (f : Nat → Nat) (k j : Nat) : gt (lsS n f k) j = if j < n ∧ j < k then f j else 0 := by
  unfold lsS gt
  rw [List.getD_eq_getElem?_getD, List.getElem?_map]
  by_cases h : j < n
  · rw [List.getElem?_range h]
    by_cases c : j < k <;> simp [h, c]
  · rw [List.getElem?_eq_none (by simp; omega)]; simp [h]
theorem lsS_zero (n : Nat) (f : Nat → Nat) : List.replicate n 0 = lsS n f 0 := by
  refine list_ext _ _ (by rw [length_lsS]; simp) fun i hi => ?_
  rw [gt_lsS]
  simp only [List.length_replicate] at hi
  unfold gt
  rw [List.getD_eq_getElem?_getD, List.getElem?_replicate]
  simp [hi]
theorem lsS_step (n : Nat) (f : Nat → Nat) (k : Nat) (h : k < n) : (lsS n f k).set k (f k) = lsS n f (k + 1) := by
  refine list_ext _ _ (by rw [List.length_set, length_lsS, length_lsS]) fun i hi => ?_
  rw [gt_set _ _ _ _ (by rw [length_lsS]; exact h), gt_lsS, gt_lsS]
  rw [List.length_set, length_lsS] at hi
  by_cases c : k = i
  · subst c; simp [h]
  · rw [if_neg c]
    by_cases d : i < k
    · simp [hi, d, show i < k + 1 by omega]
    · simp [d, show ¬ i < k + 1 by omega]
theorem lsS_all (n : Nat) (f : Nat → Nat) : lsS n f n = (List.range n).map f := by
  unfold lsS
  refine List.map_congr_left fun i hi => ?_
  rw [if_pos (List.mem_range.1 hi)]
theorem numAt_lt (n : Nat) (h : n ≤ 64) (xs : List Nat) (i : Nat) : numAt n xs i < 18446744073709551616 := by
  have := numOf_lt n (fun k => bitAt xs (i * n + k))
  have h2 := Nat.pow_le_pow_right (n := 2) (j := 64) (by decide) h
  rw [show (2 : Nat) ^ 64 = 18446744073709551616 from rfl] at h2
  unfold numAt
  omega
theorem fit_map (n : Nat) (f : Nat → Nat) (h : ∀ i, f i < 18446744073709551616) : Fit ((List.range n).map f) := by
  rw [← lsS_all]
  intro i
  rw [gt_lsS]
  split
  · exact h i
  · decide
theorem gt_map (n : Nat) (f : Nat → Nat) (j : Nat) (h : j < n) : gt ((List.range n).map f) j = f j := by
  rw [← lsS_all, gt_lsS, if_pos ⟨h, h⟩]

end Go.Proofs.YtmkmpggpjlikaaaDoor

namespace Go.Proofs.YtmkmpggpjlikaaaDoor
open Go.RowKit Num Bit
set_option maxRecDepth 100000
set_option linter.unusedVariables false

/-! The document's List: what is appended lies in memory of the call's own, with room behind it. -/
def OwnC (w : World) (g : Nat) (ys : List Nat) : Prop := ∃ cur, w.heap[g]? = some (.cells cur 46 (0, 0)) ∧ ys.length ≤ cur.size ∧ ∀ j, j < ys.length → cur[j]? = some (.int .u64 (gt ys j))
theorem OwnC.lt {w : World} {g : Nat} {ys : List Nat} (h : OwnC w g ys) : g < w.heap.size := by obtain ⟨cur, hh, _⟩ := h; exact (Array.getElem?_eq_some_iff.1 hh).1
theorem OwnC.cell {w : World} {g : Nat} {ys : List Nat} (h : OwnC w g ys) (j : Nat) (hj : j < ys.length) : w.cell? ⟨g, j, none⟩ = some (.int .u64 (gt ys j)) := by
  obtain ⟨cur, hh, _, hc⟩ := h
  unfold World.cell?
  rw [show w.heap[({ block := g, off := j, spot := none } : Addr).block]? = _ from hh]
  exact hc j hj
theorem OwnC.frozen {w : World} {g : Nat} {ys : List Nat} (h : OwnC w g ys) (j : Nat) : w.frozen? ⟨g, j, none⟩ = false := by
  obtain ⟨cur, hh, _⟩ := h
  unfold World.frozen?
  rw [show w.heap[({ block := g, off := j, spot := none } : Addr).block]? = _ from hh]
  simp
theorem OwnC.wd {w : World} {g : Nat} {ys : List Nat} (h : OwnC w g ys) : Wd w (some ⟨g, 0, none⟩) ys := fun _ => ⟨g, 0, rfl, h.lt, fun i hi => by rw [Nat.zero_add]; exact h.cell i hi⟩
theorem OwnC.set {w : World} {g : Nat} {ys : List Nat} (h : OwnC w g ys) (j v : Nat) (hj : j < ys.length) : OwnC (w.setCell ⟨g, j, none⟩ (.int .u64 v)) g (ys.set j v) := by
  obtain ⟨cur, hh, hs, hc⟩ := h
  refine ⟨cur.setIfInBounds j (.int .u64 v), ?_, by simpa using hs, fun i hi => ?_⟩
  · simp only [World.setCell, Array.getElem?_modify]
    rw [if_pos trivial, hh]
    rfl
  · rw [List.length_set] at hi
    rw [Array.getElem?_setIfInBounds, gt_set ys j i v hj]
    by_cases e : j = i
    · subst e
      rw [if_pos rfl, if_pos rfl, if_pos (by omega)]
    · rw [if_neg e, if_neg e]; exact hc i hi
theorem OwnC.keep {w w' : World} {g : Nat} {ys : List Nat} (h : OwnC w g ys) (hb : Below w.heap.size w w') : OwnC w' g ys := by
  have hl := h.lt
  obtain ⟨cur, hh, r⟩ := h
  exact ⟨cur, (hb.block g hl).trans hh, r⟩
theorem owns_c {w : World} {base n : Nat} {v : Value} {ys : List Nat} (h : w.ownsRow base 46 1 v n (wv ys)) (hn : 0 < n) : ∃ g cap, v = .slice (some ⟨g, 0, none⟩) n cap ∧ base ≤ g ∧ n ≤ cap ∧ ys.length = n ∧ OwnC w g ys := by
  have hl : ys.length = n := by have := h.1; simpa [wv] using this
  obtain ⟨h1, ⟨rfl, rfl⟩ | ⟨g, cap, cur, rfl, e2, hh, r, _, hs, ht⟩⟩ := h
  · omega
  · refine ⟨g, cap, rfl, e2, r, hl, cur, hh, by omega, fun j hj => ?_⟩
    have h3 : (cur.toList.take (n * 1))[j]? = some (.int .u64 (gt ys j)) := by
      rw [ht, wv, List.getElem?_map, gt_get ys j hj]
      rfl
    rw [List.getElem?_take_of_lt (by omega)] at h3
    simpa using h3
theorem wv_succ (m : Nat) (xs : List Nat) (q : Nat) : wv ((List.range q).map (numAt m xs)) ++ [.int .u64 (numAt m xs q)] = wv ((List.range (q + 1)).map (numAt m xs)) := by
  unfold wv
  rw [List.range_succ, List.map_append, List.map_append]
  rfl
theorem owns_below {w w' : World} {base e n : Nat} {v : Value} {vs : List Value} (h : w.ownsRow base e 1 v n vs) (hb : Below w.heap.size w w') : w'.ownsRow base e 1 v n vs := by
  obtain ⟨h1, h2 | ⟨g, cap, cur, e1, e2, hh, r⟩⟩ := h
  · exact ⟨h1, .inl h2⟩
  · exact ⟨h1, .inr ⟨g, cap, cur, e1, e2, (hb.block g ((Array.getElem?_eq_some_iff.1 hh).1)).trans hh, r⟩⟩

end Go.Proofs.YtmkmpggpjlikaaaDoor
