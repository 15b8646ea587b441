/-
  The contracts of the document's answers on rows of numbers that only read: Check, fits, Width, Get. Rows that calls make: words that are copied, a row as it is, a longer one, bits that are laid over words, a new row. Plain arithmetic of rows of bits, more: joined rows. The contract of From. The contracts of the document's New, put and From. The contracts of package ints that write: lay (bits laid over words of the call's own), asItIs (a row in words of its own). The contracts of makeable, Make and Of.
-/
import Derived.Test.YtjkihmjbhiiknaaDoorM03
import Derived.Test.YtjkihmjbhiiknaaDoorM02
import Derived.Test.YtjkihmjbhiiknaaDoorM01
import Derived.Laws.CopyOwn
import Derived.OwnWalk
import Derived.Deep.RegionHeld3
import Derived.RegionTactic
import Derived.BigRegion
namespace Go.Proofs.YtjkihmjbhiiknaaDoor
open Go.RowKit Num Bit
set_option maxRecDepth 100000
set_option linter.unusedVariables false

theorem reffits_c (v W : Int) (h0 : 0 ≤ v) (h1 : v < 18446744073709551616) (w : World) :
    Calls Tryd.prog 71 #[.int .u64 v, .int .i64 W] w fun e w' => e = .returned (.bool (decide (lenI v ≤ W))) ∧ w' = w := by
  go_enter Tryd.func71, Tryd.ntmps71
  go_wp2_with (go_at_call 70; refine (reflen_c _ ?_ ?_ _).mono ?_; exact h0; exact h1; rintro e w' ⟨rfl, rfl⟩)
  go_ret
  exact ⟨rfl, rfl⟩

theorem irefcheck_c (N W M : Int) (ao : Option Addr) (xs : List Nat) (cap : Nat) (w : World) (hx : Wd w ao xs) (hf : Fit xs) :
    Calls Tryd.prog 74 #[.agg #[.int .i64 N, .int .i64 W, .int .i64 M, .slice ao xs.length cap]] w fun e w' => e = .returned (.bool (ichk N W M xs)) ∧ Below w.heap.size w w' := by
  have K : ∀ o, Wd (w.alloc o) ao xs := fun o => hx.keep (below_alloc w o)
  by_cases a1 : 1 ≤ W
  case neg =>
    have d1 : decide (1 ≤ W) = false := by simpa using a1
    have R : Hid (false = ichk N W M xs) := by unfold Hid ichk; rw [show decide (1 ≤ W ∧ W ≤ 64 ∧ 0 ≤ N ∧ N * W = M) = false by simp; omega]; rfl
    go_enter Tryd.func74, Tryd.ntmps74
    go_wp2
    go_ret
    exact ⟨ret_bool R.out, below_alloc w _⟩
  by_cases a2 : W ≤ 64
  case neg =>
    have d2 : decide (W ≤ 64) = false := by simpa using a2
    have R : Hid (false = ichk N W M xs) := by unfold Hid ichk; rw [show decide (1 ≤ W ∧ W ≤ 64 ∧ 0 ≤ N ∧ N * W = M) = false by simp; omega]; rfl
    go_enter Tryd.func74, Tryd.ntmps74
    go_wp2
    go_ret
    exact ⟨ret_bool R.out, below_alloc w _⟩
  by_cases a3 : 0 ≤ N
  case neg =>
    have d3 : decide (0 ≤ N) = false := by simpa using a3
    have R : Hid (false = ichk N W M xs) := by unfold Hid ichk; rw [show decide (1 ≤ W ∧ W ≤ 64 ∧ 0 ≤ N ∧ N * W = M) = false by simp; omega]; rfl
    go_enter Tryd.func74, Tryd.ntmps74
    go_wp2
    go_ret
    exact ⟨ret_bool R.out, below_alloc w _⟩
  by_cases a4 : N ≤ 1048576
  case neg =>
    have d4 : decide (N ≤ 1048576) = false := by simpa using a4
    have R : Hid (false = ichk N W M xs) := by
      unfold Hid
      cases h : ichk N W M xs with
      | false => rfl
      | true => obtain ⟨_, _, _, _, _, _, b7, b8⟩ := ichk_out N W M xs h; omega
    go_enter Tryd.func74, Tryd.ntmps74
    go_wp2
    go_ret
    exact ⟨ret_bool R.out, below_alloc w _⟩
  have b1 : 0 ≤ N * W := Int.mul_nonneg a3 (by omega)
  have b2 : N * W ≤ 1048576 * 64 := Int.mul_le_mul a4 a2 (by omega) (by omega)
  cases hc : chk M xs with
  | false =>
    have R : Hid (false = ichk N W M xs) := by unfold Hid ichk; rw [hc, Bool.and_false]
    go_enter Tryd.func74, Tryd.ntmps74
    go_wp2_with (go_at_call 8; refine (refcheck_c _ _ _ _ _ (K _) hf).mono ?_; rintro e w' ⟨rfl, hb⟩; have KK := Box4.new hb; clear hb; obtain ⟨⟨hz, c0, c1, c2, c3⟩, hw⟩ := KK)
    go_ret
    exact ⟨ret_bool R.out, by assumption⟩
  | true =>
    have R : Hid ((M == N * W) = ichk N W M xs) := by
      unfold Hid ichk
      rw [hc, Bool.and_true, Bool.eq_iff_iff, beq_iff_eq, decide_eq_true_eq]
      omega
    go_enter Tryd.func74, Tryd.ntmps74
    go_wp2_with (go_at_call 8; refine (refcheck_c _ _ _ _ _ (K _) hf).mono ?_; rintro e w' ⟨rfl, hb⟩; have KK := Box4.new hb; clear hb; obtain ⟨⟨hz, c0, c1, c2, c3⟩, hw⟩ := KK)
    go_ret
    exact ⟨ret_bool R.out, by assumption⟩

theorem irefget_c (N W M : Int) (ao : Option Addr) (xs : List Nat) (cap : Nat) (i : Int) (w : World) (hx : Wd w ao xs) (hf : Fit xs) :
    Calls Tryd.prog 81 #[.agg #[.int .i64 N, .int .i64 W, .int .i64 M, .slice ao xs.length cap], .int .i64 i] w fun e w' => e = .returned (.tuple #[.int .u64 (igX N W M xs i), .int .i64 (igE N W M xs i)]) ∧ Below w.heap.size w w' := by
  have K : ∀ o, Wd (w.alloc o) ao xs := fun o => hx.keep (below_alloc w o)
  by_cases hE : igE N W M xs i = 0
  · obtain ⟨hk, i0, i1⟩ := igE_zero N W M xs i hE
    obtain ⟨a1, a2, a3, a4, a5, a6, a7, a8⟩ := ichk_out N W M xs hk
    obtain ⟨q1, q2, q3, q4⟩ := get_place N W M i a1 a2 a3 a4 a7 i0 i1
    have R : Hid (slcX M xs (i * W) W = igX N W M xs i ∧ slcE M xs (i * W) W = igE N W M xs i) := get_slice N W M xs i hk i0 i1
    clear a4 q3 hE
    go_enter Tryd.func81, Tryd.ntmps81
    go_wp2_with fail
    refine (irefcheck_c _ _ _ _ _ _ _ (K _) hf).mono ?_
    rintro e w1 ⟨rfl, hb⟩
    have KK := Box4.new hb
    clear hb K
    obtain ⟨⟨hz, c0, c1, c2, c3⟩, hw⟩ := KK
    go_wp2_with fail
    refine (refslice_c _ _ _ _ _ _ _ (hx.keep hw) hf (by omega) (by omega) (by omega) (by omega)).mono ?_
    rintro e w2 ⟨rfl, hb⟩
    have hw2 := hw.trans (hb.mono hw.size)
    clear hb
    go_wp2
    go_ret2
    exact ⟨ret_pair (congrArg (Value.int IntKind.u64) (congrArg Int.ofNat R.out.1)) (congrArg (Value.int IntKind.i64) R.out.2), hw2⟩
  · have R : Hid (0 = ((igX N W M xs i : Nat) : Int)) := by unfold igX Hid; rw [if_neg hE]; rfl
    cases hk : ichk N W M xs with
    | false =>
      have RE : Hid (2 = igE N W M xs i) := by unfold igE Hid; rw [if_pos hk]
      clear hE
      go_enter Tryd.func81, Tryd.ntmps81
      go_wp2_with (go_at_call 74; refine (irefcheck_c _ _ _ _ _ _ _ (K _) hf).mono ?_; rintro e w' ⟨rfl, hb⟩; have KK := Box4.new hb; clear hb; obtain ⟨⟨hz, c0, c1, c2, c3⟩, hw⟩ := KK)
      go_ret2
      exact ⟨ret_pair (congrArg (Value.int IntKind.u64) R.out) (congrArg (Value.int IntKind.i64) RE.out), by assumption⟩
    | true =>
      have hc : i < 0 ∨ N ≤ i := by
        unfold igE at hE
        rw [if_neg (by simp [hk])] at hE
        by_cases h : i < 0 ∨ N ≤ i
        · exact h
        · rw [if_neg h] at hE; exact absurd rfl hE
      have RE : Hid (3 = igE N W M xs i) := by unfold igE Hid; rw [if_neg (by simp [hk]), if_pos hc]
      clear hE
      by_cases i0 : i < 0
      · clear hc
        go_enter Tryd.func81, Tryd.ntmps81
        go_wp2_with (go_at_call 74; refine (irefcheck_c _ _ _ _ _ _ _ (K _) hf).mono ?_; rintro e w' ⟨rfl, hb⟩; have KK := Box4.new hb; clear hb; obtain ⟨⟨hz, c0, c1, c2, c3⟩, hw⟩ := KK)
        go_ret2
        exact ⟨ret_pair (congrArg (Value.int IntKind.u64) R.out) (congrArg (Value.int IntKind.i64) RE.out), by assumption⟩
      · have i1 : N ≤ i := by omega
        clear hc
        go_enter Tryd.func81, Tryd.ntmps81
        go_wp2_with (go_at_call 74; refine (irefcheck_c _ _ _ _ _ _ _ (K _) hf).mono ?_; rintro e w' ⟨rfl, hb⟩; have KK := Box4.new hb; clear hb; obtain ⟨⟨hz, c0, c1, c2, c3⟩, hw⟩ := KK)
        go_ret2
        exact ⟨ret_pair (congrArg (Value.int IntKind.u64) R.out) (congrArg (Value.int IntKind.i64) RE.out), by assumption⟩
end Go.Proofs.YtjkihmjbhiiknaaDoor

namespace Go.Proofs.YtjkihmjbhiiknaaDoor
open Go.RowKit Num Bit
set_option maxRecDepth 100000

theorem Tryd.info54 : (Tryd.prog.info? 54).map (fun i => (i.zero, i.size, i.bytes)) = some (some (.int .u64 0), 1, 8) := by kernel_rfl
theorem Tryd.size54 : (Tryd.prog.info? 54).map (·.size) = some 1 := by kernel_rfl

def wv (ys : List Nat) : List Value := ys.map fun y => Value.int .u64 (y : Nat)
def Own (w : World) (g : Nat) (ys : List Nat) : Prop := w.heap[g]? = some (.cells (wv ys).toArray 54 (0, 0))


theorem own_made {w : World} {base g n : Nat} (h : w.ownsRow base 54 1 (.slice (some ⟨g, 0, none⟩) n n) n (madeCells #[.int .u64 0] n).toList) : w.heap[g]? = some (.cells (wv (List.replicate n 0)).toArray 54 (0, 0)) := by
  obtain ⟨_, h | ⟨g', cap, cur, e, _, hh, _, _, hs, ht⟩⟩ := h
  · simp at h
  · simp only [Value.slice.injEq, Option.some.injEq, Addr.mk.injEq] at e
    obtain ⟨⟨rfl, _, _⟩, _, rfl⟩ := e
    rw [hh]
    have e2 : (madeCells #[.int .u64 0] n).toList = wv (List.replicate n 0) := by
      rw [toList_madeCells_one (.int .u64 0) n, wv, List.map_replicate]
      rfl
    rw [e2] at ht
    have e3 : cur.toList.take (n * 1) = cur.toList := List.take_of_length_le (by simp; omega)
    rw [e3] at ht
    rw [← ht]

theorem splice_cp (xs : List Nat) (n : Nat) : splice (wv (List.replicate n 0)) 0 (wv (xs.take n)) = wv (cp xs n) := by
  unfold splice wv cp
  rw [List.take_zero, List.nil_append, List.map_append, Nat.zero_add, List.length_map, List.length_take, ← List.map_drop, List.drop_replicate]
  congr 3
  omega

theorem Own.set_other {w : World} {g : Nat} {ys : List Nat} (h : Own w g ys) {a : Addr} (ha : g ≠ a.block) (v : Value) : Own (w.setCell a v) g ys :=
  (Below.heap_setCell w a v g ha).trans h

theorem size_set (w : World) (a : Addr) (v : Value) : (w.setCell a v).heap.size = w.heap.size := by simp [World.setCell]


theorem box2_cells {w W w' : World} {a b c d : Value} {T U : TypeId} (hW : W = (w.alloc (.cells #[a, b] T)).alloc (.cells #[c, d] U)) (hb : Below W.heap.size W w') :
    (w'.cell? ⟨w.heap.size, 0, none⟩ = some a ∧ w'.cell? ⟨w.heap.size, 1, none⟩ = some b) ∧ (w'.cell? ⟨w.heap.size + 1, 0, none⟩ = some c ∧ w'.cell? ⟨w.heap.size + 1, 1, none⟩ = some d) ∧
    (w'.frozen? ⟨w.heap.size + 1, 0, none⟩ = false ∧ w'.frozen? ⟨w.heap.size + 1, 1, none⟩ = false) ∧ w.heap.size + 1 < w'.heap.size ∧ Below w.heap.size w w' := by
  have hz : W.heap.size = w.heap.size + 2 := by rw [hW]; simp
  refine ⟨⟨?_, ?_⟩, ⟨?_, ?_⟩, ⟨?_, ?_⟩, ?_, ?_⟩
  · rw [hb.cell (p := ⟨w.heap.size, 0, none⟩) (by simp [hz]), hW]; simp
  · rw [hb.cell (p := ⟨w.heap.size, 1, none⟩) (by simp [hz]), hW]; simp
  · rw [hb.cell (p := ⟨w.heap.size + 1, 0, none⟩) (by simp [hz]), hW]; simp
  · rw [hb.cell (p := ⟨w.heap.size + 1, 1, none⟩) (by simp [hz]), hW]; simp
  · rw [hb.frozen (p := ⟨w.heap.size + 1, 0, none⟩) (by simp [hz]), hW]; simp
  · rw [hb.frozen (p := ⟨w.heap.size + 1, 1, none⟩) (by simp [hz]), hW]; simp
  · have := hb.size; omega
  · have h0 : Below w.heap.size w W := by rw [hW]; exact ((below_alloc w _).alloc (by simp) _)
    exact h0.trans (hb.mono (by omega))

/-- A world in which block g alone has turned. -/
structure Turned (g : Nat) (w w' : World) : Prop where
  os : w'.os = w.os
  tape : w'.tape = w.tape
  output : w'.output = w.output
  size : w'.heap.size = w.heap.size
  block : ∀ k, k ≠ g → w'.heap[k]? = w.heap[k]?

theorem Turned.refl (g : Nat) (w : World) : Turned g w w := ⟨rfl, rfl, rfl, rfl, fun _ _ => rfl⟩
theorem Turned.set {g : Nat} {a w : World} (h : Turned g a w) (off : Nat) (v : Value) : Turned g a (w.setCell ⟨g, off, none⟩ v) :=
  ⟨h.os, h.tape, h.output, (size_set _ _ _).trans h.size, fun k hk => (Below.heap_setCell _ _ _ _ hk).trans (h.block k hk)⟩
theorem Turned.cell {g : Nat} {w w' : World} (h : Turned g w w') {p : Addr} (hp : p.block ≠ g) : w'.cell? p = w.cell? p := World.cell?_of_block (w := w) (h.block p.block hp)
theorem Turned.frozen {g : Nat} {w w' : World} (h : Turned g w w') {p : Addr} (hp : p.block ≠ g) : w'.frozen? p = w.frozen? p := World.frozen?_of_block (w := w) (h.block p.block hp)
theorem Turned.below {g B : Nat} {w w' : World} (h : Turned g w w') (hB : B ≤ g) : Below B w w' :=
  ⟨h.os, h.tape, h.output, by rw [h.size]; exact Nat.le_refl _, fun k hk => h.block k (by omega)⟩

theorem length_wv (ys : List Nat) : (wv ys).length = ys.length := by simp [wv]
theorem Own.cell {w : World} {g : Nat} {ys : List Nat} (h : Own w g ys) (j : Nat) (hj : j < ys.length) : w.cell? ⟨g, j, none⟩ = some (.int .u64 (gt ys j)) := by
  unfold World.cell?
  rw [show w.heap[({ block := g, off := j, spot := none } : Addr).block]? = _ from h]
  show (wv ys).toArray[j]? = _
  rw [List.getElem?_toArray, wv, List.getElem?_map, gt_get ys j hj]
  rfl
theorem Own.frozen {w : World} {g : Nat} {ys : List Nat} (h : Own w g ys) (j : Nat) : w.frozen? ⟨g, j, none⟩ = false := by
  unfold World.frozen?
  rw [show w.heap[({ block := g, off := j, spot := none } : Addr).block]? = _ from h]
  simp
theorem Own.lt {w : World} {g : Nat} {ys : List Nat} (h : Own w g ys) : g < w.heap.size := (Array.getElem?_eq_some_iff.1 h).1
theorem Own.set {w : World} {g : Nat} {ys : List Nat} (h : Own w g ys) (j v : Nat) : Own (w.setCell ⟨g, j, none⟩ (.int .u64 v)) g (ys.set j v) := by
  unfold Own at *
  simp only [World.setCell, Array.getElem?_modify]
  rw [if_pos trivial, h]
  simp [wv, List.map_set]
theorem Own.wd {w : World} {g : Nat} {ys : List Nat} (h : Own w g ys) : Wd w (some ⟨g, 0, none⟩) ys :=
  fun _ => ⟨g, 0, rfl, h.lt, fun i hi => by rw [Nat.zero_add]; exact h.cell i hi⟩
theorem Own.keep {w w' : World} {g : Nat} {ys : List Nat} (h : Own w g ys) (hb : Below w.heap.size w w') : Own w' g ys := (hb.block g h.lt).trans h

theorem bne0 (a : Nat) : ((a : Int) != 0) = decide (a ≠ 0) := by
  rw [Bool.eq_iff_iff, bne_iff_ne, decide_eq_true_eq]; omega

theorem turn_cell {g : Nat} {w w' : World} {o : Obj} (hT : Turned g (w.alloc o).drew w') {b j : Nat} (hb : b < w.heap.size) (hg : b ≠ g) {v : Value} (h : w.cell? ⟨b, j, none⟩ = some v) : w'.cell? ⟨b, j, none⟩ = some v :=
  (hT.cell (p := ⟨b, j, none⟩) hg).trans (((below_alloc w o).drew.cell (p := ⟨b, j, none⟩) hb).trans h)
theorem turn_frozen {g : Nat} {w w' : World} {o : Obj} (hT : Turned g (w.alloc o).drew w') {b j : Nat} (hb : b < w.heap.size) (hg : b ≠ g) {v : Bool} (h : w.frozen? ⟨b, j, none⟩ = v) : w'.frozen? ⟨b, j, none⟩ = v :=
  (hT.frozen (p := ⟨b, j, none⟩) hg).trans (((below_alloc w o).drew.frozen (p := ⟨b, j, none⟩) hb).trans h)
theorem turn_box {g : Nat} {w w' : World} {a b : Value} {T : TypeId} (hT : Turned g (w.alloc (.cells #[a, b] T)).drew w') (hg : w.heap.size ≠ g) : w'.cell? ⟨w.heap.size, 0, none⟩ = some a ∧ w'.cell? ⟨w.heap.size, 1, none⟩ = some b :=
  ⟨(hT.cell (p := ⟨w.heap.size, 0, none⟩) hg).trans (by simp), (hT.cell (p := ⟨w.heap.size, 1, none⟩) hg).trans (by simp)⟩

theorem box_frozen {w w' : World} {a b : Value} {T : TypeId} (hb : Below (w.alloc (.cells #[a, b] T)).heap.size (w.alloc (.cells #[a, b] T)) w') :
    w'.frozen? ⟨w.heap.size, 0, none⟩ = false ∧ w'.frozen? ⟨w.heap.size, 1, none⟩ = false := by
  refine ⟨?_, ?_⟩
  · rw [hb.frozen (p := ⟨w.heap.size, 0, none⟩) (by simp)]; simp
  · rw [hb.frozen (p := ⟨w.heap.size, 1, none⟩) (by simp)]; simp

theorem new_ok (n : Int) (k : Nat) (w : World) (h0 : 0 ≤ n) (h1 : n ≤ 1048576) (hk : (n + 63) / 64 = (k : Int)) :
    Calls Tryd.prog 46 #[.int .i64 n] w fun e w' => ∃ g, e = .returned (.tuple #[.agg #[.int .i64 n, .slice (some ⟨g, 0, none⟩) k k], .int .i64 0]) ∧ w.heap.size ≤ g ∧ g < w'.heap.size ∧ Own w' g (List.replicate k 0) ∧ Below w.heap.size w w' := by
  obtain ⟨i0, hi, hz0, hz1, hz2⟩ := info_parts Tryd.info54
  have hk2 : k ≤ 1048576 := by omega
  go_enter Tryd.func46, Tryd.ntmps46
  go_wp2_with (first | (go_at_call 48; refine (need_c _ ?_ ?_ _).mono ?_; (omega); (omega); rintro e w' ⟨rfl, rfl⟩) | (at_make; refine wpList_make_full _ rfl _ _ 22 rfl (w.heap.size + 1) 54 i0 (.int .u64 0) 1 Tryd.underlying22 hi hz0 hz1 .i64 .i64 _ _ k rfl rfl rfl rfl ?b2 ?b3 ?b4 ?_))
  case b2 => rw [hz2]; omega
  case b3 => unfold maxLen; omega
  case b4 => simp
  intro w1 hown hgr
  have hb1 : Below (w.alloc (.cells #[.int .i64 0, .slice none 0 0] 24)).heap.size (w.alloc (.cells #[.int .i64 0, .slice none 0 0] 24)) w1 := (Below.refl _ _).grown hgr (Nat.le_refl _) (fun k h => by cases h)
  have hO : Own w1 (w.heap.size + 1) (List.replicate k 0) := own_made hown
  obtain ⟨k0, k1, hz, hw⟩ := box_cells hb1
  obtain ⟨k2, k3⟩ := box_frozen hb1
  have hlt := hO.lt
  clear hown hgr hi hz0 hz1 hz2 hb1
  go_wp2
  refine bodyPost_ret (v := .tuple #[.agg #[.int .i64 n, .slice (some ⟨w.heap.size + 1, 0, none⟩) k k], .int .i64 0]) (by simp [results, Tryd.results46, go_sem, k0, k1]) rfl ⟨w.heap.size + 1, rfl, by omega, ?_, ?_, ?_⟩
  · rw [size_set, size_set]; exact hlt
  · exact (hO.set_other (by simp) _).set_other (by simp) _
  · exact (hw.setCell (by simp) _).setCell (by simp) _

theorem new_bad (n : Int) (w : World) (h : n < 0 ∨ 1048576 < n) :
    Calls Tryd.prog 46 #[.int .i64 n] w fun e w' => e = .returned (.tuple #[.agg #[.int .i64 0, .slice none 0 0], .int .i64 2]) ∧ Below w.heap.size w w' := by
  rcases h with h | h
  · go_enter Tryd.func46, Tryd.ntmps46
    go_wp2
    exact bodyPost_ret (v := .tuple #[.agg #[.int .i64 0, .slice none 0 0], .int .i64 2]) (by simp [results, Tryd.results46, go_sem]) rfl ⟨rfl, below_alloc w _⟩
  · have h' : ¬ n < 0 := by omega
    go_enter Tryd.func46, Tryd.ntmps46
    go_wp2
    exact bodyPost_ret (v := .tuple #[.agg #[.int .i64 0, .slice none 0 0], .int .i64 2]) (by simp [results, Tryd.results46, go_sem]) rfl ⟨rfl, below_alloc w _⟩

/-- What a call that makes a row leaves: the words lie in memory of its own, and nothing old has turned. -/
def Out (w w' : World) (ao : Option Addr) (ys : List Nat) (cap : Nat) : Prop := Wd w' ao ys ∧ Fit ys ∧ ys.length ≤ cap ∧ Below w.heap.size w w'

theorem rep_row (n k : Nat) (hk : k = (n + 63) / 64) : List.replicate k 0 = rowOf n (fun _ => false) := by
  refine eq_rowOf n _ _ ?_ (by simp; exact hk) ?_
  · intro i
    unfold gt
    rw [List.getD_eq_getElem?_getD, List.getElem?_replicate]
    split <;> simp
  · intro i _
    unfold bitAt gt
    rw [List.getD_eq_getElem?_getD, List.getElem?_replicate]
    split <;> simp

theorem new_c (n : Int) (w : World) :
    Calls Tryd.prog 46 #[.int .i64 n] w fun e w' => ∃ ao cap, e = .returned (.tuple #[.agg #[.int .i64 (newN n), .slice ao (newL n).length cap], .int .i64 (newE n)]) ∧ Out w w' ao (newL n) cap := by
  by_cases h : n < 0 ∨ 1048576 < n
  · refine (new_bad n w h).mono ?_
    rintro e w' ⟨rfl, hb⟩
    have h1 : newE n = 2 := by unfold newE; rw [if_pos h]
    have h2 : newN n = 0 := by unfold newN; rw [h1]; rfl
    have h3 : newL n = [] := by unfold newL; rw [h1]; rfl
    rw [h1, h2, h3]
    exact ⟨none, 0, rfl, fun h => absurd h (by simp), fun i => by unfold gt; simp, by simp, hb⟩
  · obtain ⟨m, rfl⟩ := Int.eq_ofNat_of_zero_le (show 0 ≤ n by omega)
    refine (new_ok m ((m + 63) / 64) w (by omega) (by omega) (by omega)).mono ?_
    rintro e w' ⟨g, rfl, hg, hlt, hO, hb⟩
    have h1 : newE m = 0 := by unfold newE; rw [if_neg h]
    have h2 : newN m = m := by unfold newN; rw [h1]; rfl
    have h3 : newL m = List.replicate ((m + 63) / 64) 0 := by unfold newL; rw [h1, rep_row m _ rfl]; rfl
    rw [h1, h2, h3]
    refine ⟨some ⟨g, 0, none⟩, (m + 63) / 64, by simp, hO.wd, ?_, by simp, hb⟩
    rw [rep_row m _ rfl]; exact fit_rowOf _ _

end Go.Proofs.YtjkihmjbhiiknaaDoor

namespace Go.Proofs.YtjkihmjbhiiknaaDoor
open Num
namespace Bit

/-- The words while the first q words of the second row are laid behind the first. -/
def joinS (xs ys : List Nat) (m k : Nat) : Nat → List Nat
  | 0 => cp xs k
  | q + 1 => putL (joinS xs ys m k q) (m + q * 64) (gt ys q)

theorem length_joinS (xs ys : List Nat) (m k q : Nat) : (joinS xs ys m k q).length = k := by
  induction q with
  | zero => exact length_cp xs k
  | succ q ih => simp only [joinS]; rw [length_putL, ih]

theorem word_lt (M : Nat) (ys : List Nat) (hf : Fit ys) (hk : chk (M : Int) ys = true) (q : Nat) : gt ys q < 2 ^ (min 64 (M - 64 * q)) := by
  refine Nat.lt_pow_two_of_testBit _ fun i hi => ?_
  by_cases h : i < 64
  · have e := chk_high M ys hk (64 * q + i) (by omega)
    unfold bitAt at e
    rw [show (64 * q + i) / 64 = q by omega, show (64 * q + i) % 64 = i by omega] at e
    exact e
  · exact test_big _ _ (hf q) (by omega)

theorem room_joinS (xs ys : List Nat) (m M k : Nat) (hf : Fit ys) (hk : chk (M : Int) ys = true) (hkk : k = (m + M + 63) / 64) (q : Nat) (hq : q < ys.length) : Room (joinS xs ys m k q) (m + q * 64) (gt ys q) := by
  obtain ⟨_, _, hl, _⟩ := chk_out M ys hk
  exact room_of _ _ _ _ (word_lt M ys hf hk q) (by omega) (by rw [length_joinS]; omega)

theorem joinS_bits (xs ys : List Nat) (m M k : Nat) (hfx : Fit xs) (hf : Fit ys) (hk : chk (M : Int) ys = true) (hkk : k = (m + M + 63) / 64) (q : Nat) (hq : q ≤ ys.length) :
    Fit (joinS xs ys m k q) ∧ ∀ i, bitAt (joinS xs ys m k q) i = (bitAt (cp xs k) i || (decide (m ≤ i ∧ i < m + q * 64) && bitAt ys (i - m))) := by
  induction q with
  | zero =>
    refine ⟨fit_cp xs hfx k, fun i => ?_⟩
    simp only [joinS]
    rw [show decide (m ≤ i ∧ i < m + 0 * 64) = false by simp]
    simp
  | succ q ih =>
    obtain ⟨i1, i2⟩ := ih (by omega)
    have hr := room_joinS xs ys m M k hf hk hkk q (by omega)
    refine ⟨fit_putL _ i1 _ _ (hf q) hr, fun i => ?_⟩
    simp only [joinS]
    rw [bitAt_putL _ _ _ (hf q) hr, i2 i, Bool.or_assoc]
    congr 1
    by_cases c1 : m + q * 64 ≤ i
    · rw [show decide (m ≤ i ∧ i < m + q * 64) = false by simp; omega, show decide (m + q * 64 ≤ i) = true by simpa using c1]
      by_cases c2 : i < m + (q + 1) * 64
      · rw [show decide (m ≤ i ∧ i < m + (q + 1) * 64) = true by simp; omega]
        unfold bitAt
        rw [show (i - m) / 64 = q by omega, show (i - m) % 64 = i - (m + q * 64) by omega]
        simp
      · rw [show decide (m ≤ i ∧ i < m + (q + 1) * 64) = false by simp; omega, test_big _ _ (hf q) (by omega)]
        simp
    · rw [show decide (m + q * 64 ≤ i) = false by simpa using c1]
      by_cases c2 : m ≤ i
      · rw [show decide (m ≤ i ∧ i < m + q * 64) = true by simp; omega, show decide (m ≤ i ∧ i < m + (q + 1) * 64) = true by simp; omega]
        simp
      · rw [show decide (m ≤ i ∧ i < m + q * 64) = false by simp; omega, show decide (m ≤ i ∧ i < m + (q + 1) * 64) = false by simp; omega]
        simp

theorem join_row (m M k : Nat) (xs ys : List Nat) (hfx : Fit xs) (hf : Fit ys) (hkx : chk (m : Int) xs = true) (hk : chk (M : Int) ys = true) (hkk : k = (m + M + 63) / 64) :
    joinS xs ys m k ys.length = rowOf (m + M) (fun j => if j < m then bitAt xs j else bitAt ys (j - m)) := by
  obtain ⟨_, _, hlx, _⟩ := chk_out m xs hkx
  obtain ⟨_, _, hl, _⟩ := chk_out M ys hk
  obtain ⟨h1, h2⟩ := joinS_bits xs ys m M k hfx hf hk hkk ys.length (Nat.le_refl _)
  refine eq_rowOf _ _ _ h1 (by rw [length_joinS]; exact hkk) fun i hi => ?_
  rw [length_joinS] at hi
  rw [h2 i]
  have hb : bitAt (cp xs k) i = bitAt xs i := by unfold bitAt; rw [gt_cp xs k _ (by omega)]
  rw [hb]
  by_cases c : i < m
  · rw [if_pos c, show decide (m ≤ i ∧ i < m + ys.length * 64) = false by simp; omega, show decide (i < m + M) = true by simp; omega]
    simp
  · rw [if_neg c, chk_high m xs hkx i (by omega)]
    by_cases c2 : i < m + M
    · rw [show decide (m ≤ i ∧ i < m + ys.length * 64) = true by simp; omega, show decide (i < m + M) = true by simpa using c2]
      simp
    · rw [chk_high M ys hk (i - m) (by omega)]
      simp
end Bit
end Go.Proofs.YtjkihmjbhiiknaaDoor

namespace Go.Proofs.YtjkihmjbhiiknaaDoor
open Go.RowKit Num Bit
set_option maxRecDepth 100000

def bt (l : List Bool) (i : Nat) : Bool := l.getD i false
/-- A slice of bools that reads as a list. -/
def Bl (w : World) (ao : Option Addr) (l : List Bool) : Prop :=
  0 < l.length → ∃ b off, ao = some ⟨b, off, none⟩ ∧ b < w.heap.size ∧ ∀ i, i < l.length → w.cell? ⟨b, off + i, none⟩ = some (.bool (bt l i))
theorem Bl.keep {w w' : World} {ao : Option Addr} {l : List Bool} (h : Bl w ao l) (hb : Below w.heap.size w w') : Bl w' ao l := by
  intro hi
  obtain ⟨b, off, e, hlt, hc⟩ := h hi
  exact ⟨b, off, e, Nat.lt_of_lt_of_le hlt hb.size, fun i hi => (hb.cell (p := ⟨b, off + i, none⟩) hlt).trans (hc i hi)⟩

def fromS (l : List Bool) (q : Nat) : List Nat := rowOf l.length (fun j => decide (j < q) && bt l j)

theorem length_fromS (l : List Bool) (q : Nat) : (fromS l q).length = (l.length + 63) / 64 := length_rowOf _ _

theorem fit_fromS (l : List Bool) (q : Nat) : Fit (fromS l q) := fit_rowOf _ _

theorem from_step (l : List Bool) (q : Nat) (hq : q < l.length) (hl : l.length ≤ 1048576) (hb : bt l q = true) : (fromS l q).set (q / 64) (gt (fromS l q) (q / 64) ||| 2 ^ (q % 64)) = fromS l (q + 1) := by
  have e := set_row_true l.length (fromS l q) (fit_rowOf _ _) (chk_rowOf _ _ hl) q (by omega)
  rw [e, Int.toNat_natCast]
  refine rowOf_congr _ _ _ fun i hi => ?_
  unfold fromS
  rw [bitAt_rowOf]
  by_cases c : i = q
  · subst c; simp [hb]
  · rw [if_neg c]
    by_cases c2 : i < q
    · simp [hi, c2, show i < q + 1 by omega]
    · simp [c2, show ¬ i < q + 1 by omega]

theorem from_skip (l : List Bool) (q : Nat) (hb : bt l q = false) : fromS l q = fromS l (q + 1) := by
  refine rowOf_congr _ _ _ fun i _ => ?_
  by_cases c : i = q
  · subst c; simp [hb]
  · by_cases c2 : i < q
    · simp [c2, show i < q + 1 by omega]
    · simp [c2, show ¬ i < q + 1 by omega]

def frL (l : List Bool) : List Nat := rowOf l.length (bt l)

theorem fromS_all (l : List Bool) : fromS l l.length = frL l := rowOf_congr _ _ _ fun i hi => by simp [hi]

end Go.Proofs.YtjkihmjbhiiknaaDoor

namespace Go.Proofs.YtjkihmjbhiiknaaDoor
open Go.RowKit Num Bit
set_option maxRecDepth 100000

theorem refnew_ok (n : Int) (k : Nat) (w : World) (h0 : 0 ≤ n) (h1 : n ≤ 1048576) (hk : (n + 63) / 64 = (k : Int)) :
    Calls Tryd.prog 72 #[.int .i64 n] w fun e w' => ∃ g, e = .returned (.tuple #[.agg #[.int .i64 n, .slice (some ⟨g, 0, none⟩) k k], .int .i64 0]) ∧ w.heap.size ≤ g ∧ g < w'.heap.size ∧ Own w' g (List.replicate k 0) ∧ Below w.heap.size w w' := by
  obtain ⟨i0, hi, hz0, hz1, hz2⟩ := info_parts Tryd.info54
  have hk2 : k ≤ 1048576 := by omega
  go_enter Tryd.func72, Tryd.ntmps72
  go_wp2_with (first | (go_at_call 28; refine (refwords_c _ ?_ ?_ _).mono ?_; (omega); (omega); rintro e w' ⟨rfl, rfl⟩) | (at_make; refine wpList_make_full _ rfl _ _ 22 rfl (w.heap.size + 1) 54 i0 (.int .u64 0) 1 Tryd.underlying22 hi hz0 hz1 .i64 .i64 _ _ k rfl rfl rfl rfl ?b2 ?b3 ?b4 ?_))
  case b2 => rw [hz2]; omega
  case b3 => unfold maxLen; omega
  case b4 => simp
  intro w1 hown hgr
  have hb1 : Below (w.alloc (.cells #[.int .i64 0, .slice none 0 0] 24)).heap.size (w.alloc (.cells #[.int .i64 0, .slice none 0 0] 24)) w1 := (Below.refl _ _).grown hgr (Nat.le_refl _) (fun k h => by cases h)
  have hO : Own w1 (w.heap.size + 1) (List.replicate k 0) := own_made hown
  obtain ⟨k0, k1, hz, hw⟩ := box_cells hb1
  obtain ⟨k2, k3⟩ := box_frozen hb1
  have hlt := hO.lt
  clear hown hgr hi hz0 hz1 hz2 hb1
  go_wp2
  refine bodyPost_ret (v := .tuple #[.agg #[.int .i64 n, .slice (some ⟨w.heap.size + 1, 0, none⟩) k k], .int .i64 0]) (by simp [results, Tryd.results72, go_sem, k0, k1]) rfl ⟨w.heap.size + 1, rfl, by omega, ?_, ?_, ?_⟩
  · rw [size_set, size_set]; exact hlt
  · exact (hO.set_other (by simp) _).set_other (by simp) _
  · exact (hw.setCell (by simp) _).setCell (by simp) _

theorem refnew_bad (n : Int) (w : World) (h : n < 0 ∨ 1048576 < n) :
    Calls Tryd.prog 72 #[.int .i64 n] w fun e w' => e = .returned (.tuple #[.agg #[.int .i64 0, .slice none 0 0], .int .i64 2]) ∧ Below w.heap.size w w' := by
  rcases h with h | h
  · go_enter Tryd.func72, Tryd.ntmps72
    go_wp2
    exact bodyPost_ret (v := .tuple #[.agg #[.int .i64 0, .slice none 0 0], .int .i64 2]) (by simp [results, Tryd.results72, go_sem]) rfl ⟨rfl, below_alloc w _⟩
  · have h' : ¬ n < 0 := by omega
    go_enter Tryd.func72, Tryd.ntmps72
    go_wp2
    exact bodyPost_ret (v := .tuple #[.agg #[.int .i64 0, .slice none 0 0], .int .i64 2]) (by simp [results, Tryd.results72, go_sem]) rfl ⟨rfl, below_alloc w _⟩

theorem refnew_c (n : Int) (w : World) :
    Calls Tryd.prog 72 #[.int .i64 n] w fun e w' => ∃ ao cap, e = .returned (.tuple #[.agg #[.int .i64 (newN n), .slice ao (newL n).length cap], .int .i64 (newE n)]) ∧ Out w w' ao (newL n) cap := by
  by_cases h : n < 0 ∨ 1048576 < n
  · refine (refnew_bad n w h).mono ?_
    rintro e w' ⟨rfl, hb⟩
    have h1 : newE n = 2 := by unfold newE; rw [if_pos h]
    have h2 : newN n = 0 := by unfold newN; rw [h1]; rfl
    have h3 : newL n = [] := by unfold newL; rw [h1]; rfl
    rw [h1, h2, h3]
    exact ⟨none, 0, rfl, fun h => absurd h (by simp), fun i => by unfold gt; simp, by simp, hb⟩
  · obtain ⟨m, rfl⟩ := Int.eq_ofNat_of_zero_le (show 0 ≤ n by omega)
    refine (refnew_ok m ((m + 63) / 64) w (by omega) (by omega) (by omega)).mono ?_
    rintro e w' ⟨g, rfl, hg, hlt, hO, hb⟩
    have h1 : newE m = 0 := by unfold newE; rw [if_neg h]
    have h2 : newN m = m := by unfold newN; rw [h1]; rfl
    have h3 : newL m = List.replicate ((m + 63) / 64) 0 := by unfold newL; rw [h1, rep_row m _ rfl]; rfl
    rw [h1, h2, h3]
    refine ⟨some ⟨g, 0, none⟩, (m + 63) / 64, by simp, hO.wd, ?_, by simp, hb⟩
    rw [rep_row m _ rfl]; exact fit_rowOf _ _

/-- What the document's put makes of the words. -/
def rputL (ys : List Nat) (p : Nat) (x : Bool) : List Nat :=
  if x then ys.set (p / 64) ((gt ys (p / 64) &&& (18446744073709551615 - 2 ^ (p % 64))) ||| 2 ^ (p % 64)) else ys.set (p / 64) (gt ys (p / 64) &&& (18446744073709551615 - 2 ^ (p % 64)))

theorem refput_c (ys : List Nat) (g cap p : Nat) (x : Bool) (w : World) (hO : Own w g ys) (hp : p ≤ 2097152) (hf : Fit ys) (h1 : p / 64 < ys.length) :
    Calls Tryd.prog 73 #[.slice (some ⟨g, 0, none⟩) ys.length cap, .int .i64 p, .bool x] w fun e w' => e = .returned (.tuple #[]) ∧ Own w' g (rputL ys p x) ∧ Turned g w w' := by
  have l1' : (p : Int) / 64 < (ys.length : Int) := by omega
  have e1 := hO.cell (p / 64) h1
  have f1 := hO.frozen (p / 64)
  have SO : Hid (IntKind.u64.wrap ((2 : Int) ^ (p % 64)) = ((2 ^ (p % 64) : Nat) : Int)) := shl_one _ (by omega)
  have SP : Hid (2 ^ (p % 64) < 18446744073709551616) := two_pow_lt _ (by omega)
  have SA : Hid (gt ys (p / 64) &&& (18446744073709551615 - 2 ^ (p % 64)) < 18446744073709551616) := Nat.lt_of_le_of_lt Nat.and_le_left (hf _)
  cases x with
  | false =>
    go_enter Tryd.func73, Tryd.ntmps73
    go_wp2
    go_end0
    rw [SO.out, u64_andNot_nat _ _ (hf _) SP.out]
    exact ⟨rfl, hO.set _ _, (Turned.refl _ _).set _ _⟩
  | true =>
    go_enter Tryd.func73, Tryd.ntmps73
    go_wp2
    go_end0
    rw [SO.out, u64_andNot_nat _ _ (hf _) SP.out, u64_or_nat _ _ SA.out SP.out]
    refine ⟨rfl, ?_, ((Turned.refl _ _).set _ _).set _ _⟩
    have h := (hO.set (p / 64) (gt ys (p / 64) &&& (18446744073709551615 - 2 ^ (p % 64)))).set (p / 64) ((gt ys (p / 64) &&& (18446744073709551615 - 2 ^ (p % 64))) ||| 2 ^ (p % 64))
    rw [List.set_set] at h
    exact h

theorem rput_row (N : Int) (xs : List Nat) (hf : Fit xs) (hk : chk N xs = true) (n : Nat) (hn : (n : Int) < N) (x : Bool) :
    rputL xs n x = rowOf N.toNat (fun j => if j = n then x else bitAt xs j) := by
  cases x with
  | false => exact set_row_false N xs hf hk n hn
  | true =>
    have e := set_row_true N xs hf hk n hn
    rw [← e]
    unfold rputL
    rw [if_pos rfl]
    congr 1
    refine eq_of_bits _ _ (or_lt _ _ (Nat.lt_of_le_of_lt Nat.and_le_left (hf _)) (two_pow_lt _ (by omega))) (or_lt _ _ (hf _) (two_pow_lt _ (by omega))) fun k hk64 => ?_
    rw [Nat.testBit_or, Nat.testBit_or, Nat.testBit_and, test_not_pow _ _ (by omega) hk64, Nat.testBit_two_pow]
    by_cases c : n % 64 = k <;> simp [c]

theorem refput_l (ys : List Nat) (l g cap p : Nat) (x : Bool) (w : World) (hl : ys.length = l) (hO : Own w g ys) (hp : p ≤ 2097152) (hf : Fit ys) (h1 : p / 64 < l) :
    Calls Tryd.prog 73 #[.slice (some ⟨g, 0, none⟩) l cap, .int .i64 p, .bool x] w fun e w' => e = .returned (.tuple #[]) ∧ Own w' g (rputL ys p x) ∧ Turned g w w' := by
  subst hl
  exact refput_c ys g cap p x w hO hp hf h1

theorem from_put (l : List Bool) (q : Nat) (hq : q < l.length) (hl : l.length ≤ 1048576) : rputL (fromS l q) q (bt l q) = fromS l (q + 1) := by
  have e := rput_row l.length (fromS l q) (fit_rowOf _ _) (chk_rowOf _ _ hl) q (by omega) (bt l q)
  rw [e, Int.toNat_natCast]
  refine rowOf_congr _ _ _ fun i hi => ?_
  unfold fromS
  rw [bitAt_rowOf]
  by_cases c : i = q
  · subst c; simp
  · rw [if_neg c]
    by_cases c2 : i < q
    · simp [hi, c2, show i < q + 1 by omega]
    · simp [c2, show ¬ i < q + 1 by omega]

theorem reffrom_ok (ao : Option Addr) (l : List Bool) (cap k : Nat) (w : World) (hx : Bl w ao l) (hl : l.length ≤ 1048576) (hk : k = (l.length + 63) / 64) :
    Calls Tryd.prog 59 #[.slice ao l.length cap] w fun e w' => ∃ g, e = .returned (.tuple #[.agg #[.int .i64 l.length, .slice (some ⟨g, 0, none⟩) k k], .int .i64 0]) ∧ w.heap.size ≤ g ∧ Own w' g (fromS l l.length) ∧ Below w.heap.size w w' := by
  have HK : Hid (k = (l.length + 63) / 64) := hk
  have hk1 : ((l.length : Int) + 63) / 64 = (k : Int) := by omega
  have HK1 : Hid (((l.length : Int) + 63) / 64 = (k : Int)) := hk1
  clear hk hk1
  go_enter Tryd.func59, Tryd.ntmps59
  go_wp2_with fail
  refine (refnew_ok _ k _ (Int.natCast_nonneg _) (by omega) HK1.out).mono ?_
  rintro e w1 ⟨g, rfl, hg1, hg2, hO, hb⟩
  have KK := box_cells hb
  have KF := box_frozen hb
  have hg0 : w.heap.size + 1 ≤ g := by simpa using hg1
  clear hb hg1
  obtain ⟨k0, k1, hz, hw⟩ := KK
  obtain ⟨k2, k3⟩ := KF
  go_wp2
  go_loopw [6] (fun i wr => ∃ q : Nat, q ≤ l.length ∧ i = .int .i64 q ∧ Own wr g (fromS l q) ∧ (wr.cell? ⟨w1.heap.size, 0, none⟩ = some (.int .i64 l.length) ∧ wr.cell? ⟨w1.heap.size, 1, none⟩ = some (.slice (some ⟨g, 0, none⟩) k k)) ∧ (wr.cell? ⟨w.heap.size, 0, none⟩ = some (.int .i64 0) ∧ wr.cell? ⟨w.heap.size, 1, none⟩ = some (.slice none 0 0) ∧ wr.frozen? ⟨w.heap.size, 0, none⟩ = false ∧ wr.frozen? ⟨w.heap.size, 1, none⟩ = false) ∧ Below w.heap.size w wr) (fun i _ => l.length - (intOf i).toNat)
  case atStart =>
    have hb := below_alloc w1 (.cells #[.int .i64 l.length, .slice (some ⟨g, 0, none⟩) k k] 24)
    refine ⟨0, Nat.zero_le _, rfl, ?_, ⟨by simp, by simp⟩, ⟨(hb.cell (p := ⟨w.heap.size, 0, none⟩) hz).trans k0, (hb.cell (p := ⟨w.heap.size, 1, none⟩) hz).trans k1, (hb.frozen (p := ⟨w.heap.size, 0, none⟩) hz).trans k2, (hb.frozen (p := ⟨w.heap.size, 1, none⟩) hz).trans k3⟩, hw.trans (hb.mono (by omega))⟩
    have e1 : fromS l 0 = List.replicate k 0 := by
      rw [rep_row l.length k HK.out]
      exact rowOf_congr _ _ _ fun i _ => by simp
    rw [e1]
    exact hO.keep hb
  case round =>
    obtain ⟨q, hq, rfl, hOr, ⟨r0, r1⟩, ⟨r3, r4, r5, r6⟩, hwr⟩ := hrel
    by_cases hlt : q < l.length
    · obtain ⟨b, off, rfl, hb, hc⟩ := hx (by omega)
      have e1 := (hwr.cell (p := ⟨b, off + q, none⟩) hb).trans (hc q hlt)
      have hlt3 : (q : Int) < (l.length : Int) := by omega
      have HQ : Hid (q / 64 < k) := by have := HK.out; unfold Hid; omega
      have FS : Hid (rputL (fromS l q) q (bt l q) = fromS l (q + 1)) := from_put l q hlt hl
      have HLN : Hid ((fromS l q).length = k) := by unfold Hid; rw [length_fromS]; exact HK.out.symm
      clear hc
      go_wp2
      go_region_held3 (fun w' => w'.cell? ⟨w1.heap.size, 1, none⟩ = some (.slice (some ⟨g, 0, none⟩) k k) ∧ w'.cell? ⟨b, off + q, none⟩ = some (.bool (bt l q))) (first | go_keep | (refine ⟨?_, ?_⟩ <;> assumption))
        (first | (go_at_call 73; refine (refput_l (fromS l q) k g k q (bt l q) _ HLN.out ?_ (by omega) (fit_fromS l q) HQ.out).mono ?_; (exact hOr); rintro e w4 ⟨rfl, hO4, hT⟩; have q0 := (hT.cell (p := ⟨w1.heap.size, 0, none⟩) (show w1.heap.size ≠ g by omega)).trans r0; have q1 : w4.cell? ⟨w1.heap.size, 1, none⟩ = some (.slice (some ⟨g, 0, none⟩) k k) := (hT.cell (p := ⟨w1.heap.size, 1, none⟩) (show w1.heap.size ≠ g by omega)).trans r1; have q2 : w4.cell? ⟨b, off + q, none⟩ = some (.bool (bt l q)) := (hT.cell (p := ⟨b, off + q, none⟩) (show b ≠ g by omega)).trans e1; have q3 := (hT.cell (p := ⟨w.heap.size, 0, none⟩) (show w.heap.size ≠ g by omega)).trans r3; have q4 := (hT.cell (p := ⟨w.heap.size, 1, none⟩) (show w.heap.size ≠ g by omega)).trans r4; have q5 := (hT.frozen (p := ⟨w.heap.size, 0, none⟩) (show w.heap.size ≠ g by omega)).trans r5; have q6 := (hT.frozen (p := ⟨w.heap.size, 1, none⟩) (show w.heap.size ≠ g by omega)).trans r6; have hw4 := hwr.trans (Below.trans (Below.drew (Below.refl _ _)) (hT.below (B := w.heap.size) (by omega))); clear hT))
      go_wp2
      rw [FS.out] at hO4
      exact ⟨⟨q + 1, by omega, by go_num, hO4, ⟨q0, q1⟩, ⟨q3, q4, q5, q6⟩, hw4⟩, by simp only [intOf]; omega⟩
    · have hq2 : q = l.length := by omega
      rw [hq2] at hOr
      clear hq2
      go_wp2
      refine bodyPost_ret (v := .tuple #[.agg #[.int .i64 l.length, .slice (some ⟨g, 0, none⟩) k k], .int .i64 0]) (by simp [results, Tryd.results59, go_sem, r3, r4]) rfl ⟨g, rfl, by omega, ?_, ?_⟩
      · exact (hOr.set_other (by simp; omega) _).set_other (by simp; omega) _
      · exact (hwr.setCell (by simp) _).setCell (by simp) _

theorem reffrom_c (ao : Option Addr) (l : List Bool) (cap : Nat) (w : World) (hx : Bl w ao l) (hl : l.length ≤ 1048576) :
    Calls Tryd.prog 59 #[.slice ao l.length cap] w fun e w' => ∃ bo dap, e = .returned (.tuple #[.agg #[.int .i64 l.length, .slice bo (frL l).length dap], .int .i64 0]) ∧ Out w w' bo (frL l) dap := by
  refine (reffrom_ok ao l cap _ w hx hl rfl).mono ?_
  rintro e w' ⟨g, rfl, _, hO, hb⟩
  rw [fromS_all] at hO
  have e5 : (frL l).length = (l.length + 63) / 64 := length_rowOf _ _
  exact ⟨some ⟨g, 0, none⟩, (l.length + 63) / 64, by rw [e5], hO.wd, fit_rowOf _ _, by omega, hb⟩
end Go.Proofs.YtjkihmjbhiiknaaDoor

namespace Go.Proofs.YtjkihmjbhiiknaaDoor
open Go.RowKit Num Bit
set_option maxRecDepth 100000
set_option linter.unusedVariables false

theorem Turned.drew {g : Nat} {a w : World} (h : Turned g a w) : Turned g a w.drew := ⟨h.os, h.tape, h.output, h.size, h.block⟩
theorem Own.drew {w : World} {g : Nat} {ys : List Nat} (h : Own w g ys) : Own w.drew g ys := h
theorem mask_n (W m : Nat) (hm : maskI (W : Int) = (m : Int)) (w : World) :
    Calls Tryd.prog 53 #[.int .i64 W] w fun e w' => e = .returned (.int .u64 (m : Int)) ∧ w' = w := by
  have h := mask_c (W : Int) w
  rw [hm] at h
  exact h
theorem mask_is (W : Nat) (h : W ≤ 64) : maskI (W : Int) = ((2 ^ W - 1 : Nat) : Int) := by
  unfold maskI
  rw [Int.toNat_natCast, Nat.min_eq_left h]

set_option maxHeartbeats 2000000 in
theorem lay_c (ys : List Nat) (l g cap p W v : Nat) (w : World) (hl : ys.length = l) (hO : Own w g ys) (hf : Fit ys) (hW : 1 ≤ W) (hW2 : W ≤ 64) (hv : v < 18446744073709551616) (hp : p + W ≤ 64 * ys.length) (hpb : p ≤ 1048576) :
    Calls Tryd.prog 69 #[.slice (some ⟨g, 0, none⟩) l cap, .int .i64 p, .int .i64 W, .int .u64 v] w fun e w' => e = .returned (.tuple #[]) ∧ Own w' g (layL ys p W v) ∧ Turned g w w' := by
  subst hl
  obtain ⟨m, hm⟩ : ∃ m : Nat, m = 2 ^ W - 1 := ⟨_, rfl⟩
  have hmm : Hid (maskI (W : Int) = (m : Int)) := by rw [hm]; exact mask_is W hW2
  have hmb : Hid (m < 18446744073709551616) := by
    have := Nat.pow_le_pow_right (n := 2) (j := 64) (by decide) hW2
    rw [show (2 : Nat) ^ 64 = 18446744073709551616 from rfl] at this
    unfold Hid; omega
  have h1 : p / 64 < ys.length := by omega
  have l1' : (p : Int) / 64 < (ys.length : Int) := by omega
  have e1 := hO.cell (p / 64) h1
  have f1 := hO.frozen (p / 64)
  have A1 : Hid (bits .andNot .u64 (gt ys (p / 64) : Int) ((m * 2 ^ (p % 64) % 18446744073709551616 : Nat) : Int) = ((gt ys (p / 64) &&& (18446744073709551615 - m * 2 ^ (p % 64) % 18446744073709551616) : Nat) : Int)) := u64_andNot_nat _ _ (hf _) (Nat.mod_lt _ (by decide))
  have A2 : Hid (bits .or .u64 ((gt ys (p / 64) &&& (18446744073709551615 - m * 2 ^ (p % 64) % 18446744073709551616) : Nat) : Int) ((v * 2 ^ (p % 64) % 18446744073709551616 : Nat) : Int) = (((gt ys (p / 64) &&& (18446744073709551615 - m * 2 ^ (p % 64) % 18446744073709551616)) ||| v * 2 ^ (p % 64) % 18446744073709551616 : Nat) : Int)) := u64_or_nat _ _ (Nat.lt_of_le_of_lt Nat.and_le_left (hf _)) (Nat.mod_lt _ (by decide))
  have HM : Hid (m = 2 ^ W - 1) := hm
  clear hm
  by_cases c : 64 - p % 64 < W
  · have c' : (64 : Int) - (p : Int) % 64 < (W : Int) := by omega
    have h2 : p / 64 + 1 < ys.length := by omega
    have l2' : (p : Int) / 64 + 1 < (ys.length : Int) := by omega
    have e2 := hO.cell (p / 64 + 1) h2
    have f2 := hO.frozen (p / 64 + 1)
    have B1 : Hid (bits .andNot .u64 (gt ys (p / 64 + 1) : Int) ((m / 2 ^ (64 - p % 64) : Nat) : Int) = ((gt ys (p / 64 + 1) &&& (18446744073709551615 - m / 2 ^ (64 - p % 64)) : Nat) : Int)) := u64_andNot_nat _ _ (hf _) (Nat.lt_of_le_of_lt (Nat.div_le_self _ _) hmb.out)
    have B2 : Hid (bits .or .u64 ((gt ys (p / 64 + 1) &&& (18446744073709551615 - m / 2 ^ (64 - p % 64)) : Nat) : Int) ((v / 2 ^ (64 - p % 64) : Nat) : Int) = (((gt ys (p / 64 + 1) &&& (18446744073709551615 - m / 2 ^ (64 - p % 64))) ||| v / 2 ^ (64 - p % 64) : Nat) : Int)) := u64_or_nat _ _ (Nat.lt_of_le_of_lt Nat.and_le_left (hf _)) (Nat.lt_of_le_of_lt (Nat.div_le_self _ _) hv)
    have R : Hid (layL ys p W v = ((ys.set (p / 64) ((gt ys (p / 64) &&& (18446744073709551615 - m * 2 ^ (p % 64) % 18446744073709551616)) ||| v * 2 ^ (p % 64) % 18446744073709551616)).set (p / 64 + 1) ((gt ys (p / 64 + 1) &&& (18446744073709551615 - m / 2 ^ (64 - p % 64))) ||| v / 2 ^ (64 - p % 64)))) := by
      unfold Hid layL lay1; rw [if_pos c, HM.out]
    clear c
    go_enter Tryd.func69, Tryd.ntmps69
    go_wp2_with (go_at_call 53; refine (mask_n _ _ hmm.out _).mono ?_; rintro e w' ⟨rfl, rfl⟩)
    go_region
    go_wp2
    go_region
    go_wp2
    go_end0
    rw [R.out, shl_nat, shl_nat, A1.out, A2.out, shr_cast, shr_cast, B1.out, B2.out]
    exact ⟨rfl, ((hO.set _ _).set _ _).drew.drew, (((Turned.refl _ _).set _ _).set _ _).drew.drew⟩
  · have c' : ¬ (64 : Int) - (p : Int) % 64 < (W : Int) := by omega
    have R : Hid (layL ys p W v = (ys.set (p / 64) ((gt ys (p / 64) &&& (18446744073709551615 - m * 2 ^ (p % 64) % 18446744073709551616)) ||| v * 2 ^ (p % 64) % 18446744073709551616))) := by
      unfold Hid layL lay1; rw [if_neg c, HM.out]
    clear c
    go_enter Tryd.func69, Tryd.ntmps69
    go_wp2_with (go_at_call 53; refine (mask_n _ _ hmm.out _).mono ?_; rintro e w' ⟨rfl, rfl⟩)
    go_region
    go_wp2
    go_end0
    rw [R.out, shl_nat, shl_nat, A1.out, A2.out]
    exact ⟨rfl, (hO.set _ _).drew, ((Turned.refl _ _).set _ _).drew⟩

theorem box4_two {w W w' : World} {a b c d p q r s : Value} {T U : TypeId} (hW : W = (w.alloc (.cells #[a, b, c, d] T)).alloc (.cells #[p, q, r, s] U)) (hb : Below W.heap.size W w') :
    (w'.cell? ⟨w.heap.size, 0, none⟩ = some a ∧ w'.cell? ⟨w.heap.size, 1, none⟩ = some b ∧ w'.cell? ⟨w.heap.size, 2, none⟩ = some c ∧ w'.cell? ⟨w.heap.size, 3, none⟩ = some d) ∧
    (w'.cell? ⟨w.heap.size + 1, 0, none⟩ = some p ∧ w'.cell? ⟨w.heap.size + 1, 1, none⟩ = some q ∧ w'.cell? ⟨w.heap.size + 1, 2, none⟩ = some r ∧ w'.cell? ⟨w.heap.size + 1, 3, none⟩ = some s) ∧
    (w'.frozen? ⟨w.heap.size + 1, 0, none⟩ = false ∧ w'.frozen? ⟨w.heap.size + 1, 1, none⟩ = false ∧ w'.frozen? ⟨w.heap.size + 1, 2, none⟩ = false ∧ w'.frozen? ⟨w.heap.size + 1, 3, none⟩ = false) ∧ w'.frozen? ⟨w.heap.size, 3, none⟩ = false ∧ w.heap.size + 1 < w'.heap.size ∧ Below w.heap.size w w' := by
  have hz : W.heap.size = w.heap.size + 2 := by rw [hW]; simp
  have C : ∀ (b' o : Nat) (v : Value), b' < w.heap.size + 2 → W.cell? ⟨b', o, none⟩ = some v → w'.cell? ⟨b', o, none⟩ = some v := fun b' o v hb' h => (hb.cell (p := ⟨b', o, none⟩) (by rw [hz]; exact hb')).trans h
  have F : ∀ (b' o : Nat), b' < w.heap.size + 2 → W.frozen? ⟨b', o, none⟩ = false → w'.frozen? ⟨b', o, none⟩ = false := fun b' o hb' h => (hb.frozen (p := ⟨b', o, none⟩) (by rw [hz]; exact hb')).trans h
  refine ⟨⟨?_, ?_, ?_, ?_⟩, ⟨?_, ?_, ?_, ?_⟩, ⟨?_, ?_, ?_, ?_⟩, ?_, ?_, ?_⟩
  · exact C _ _ _ (by omega) (by rw [hW]; simp)
  · exact C _ _ _ (by omega) (by rw [hW]; simp)
  · exact C _ _ _ (by omega) (by rw [hW]; simp)
  · exact C _ _ _ (by omega) (by rw [hW]; simp)
  · exact C _ _ _ (by omega) (by rw [hW]; simp)
  · exact C _ _ _ (by omega) (by rw [hW]; simp)
  · exact C _ _ _ (by omega) (by rw [hW]; simp)
  · exact C _ _ _ (by omega) (by rw [hW]; simp)
  · exact F _ _ (by omega) (by rw [hW]; simp)
  · exact F _ _ (by omega) (by rw [hW]; simp)
  · exact F _ _ (by omega) (by rw [hW]; simp)
  · exact F _ _ (by omega) (by rw [hW]; simp)
  · exact F _ _ (by omega) (by rw [hW]; simp)
  · have := hb.size; omega
  · have h0 : Below w.heap.size w W := by rw [hW]; exact ((below_alloc w _).alloc (by simp) _)
    exact h0.trans (hb.mono (by omega))

theorem splice_all (xs : List Nat) : splice (wv (List.replicate xs.length 0)) 0 (wv xs) = wv xs := by
  have h := splice_cp xs xs.length
  rw [List.take_length, cp_self] at h
  exact h

end Go.Proofs.YtjkihmjbhiiknaaDoor

namespace Go.Proofs.YtjkihmjbhiiknaaDoor
open Go.RowKit Num Bit
set_option maxRecDepth 100000
set_option linter.unusedVariables false

theorem imE_zero (W : Int) (l : List Nat) (h : imE W l = 0) : 1 ≤ W ∧ W ≤ 64 ∧ (l.length : Int) * W ≤ 1048576 ∧ ∀ j, j < l.length → lenI (gt l j) ≤ W := by
  unfold imE at h
  by_cases c : W < 1 ∨ 64 < W ∨ 1048576 < (l.length : Int) * W ∨ ¬ (∀ j, j < l.length → lenI (gt l j) ≤ W)
  · rw [if_pos c] at h; omega
  · refine ⟨by omega, by omega, by omega, ?_⟩
    exact Classical.byContradiction fun hc => c (.inr (.inr (.inr hc)))
theorem imE_bad (W : Int) (l : List Nat) (h : imE W l ≠ 0) : imE W l = 2 := by
  unfold imE at *
  split at h
  · rename_i c; rw [if_pos c]
  · exact absurd rfl h
theorem quo_le (W n : Int) (h0 : 1 ≤ W) : n ≤ 1048576 / W ↔ n * W ≤ 1048576 := Int.le_ediv_iff_mul_le (by omega)
theorem quo_bd (W : Int) (h0 : 1 ≤ W) : 0 ≤ 1048576 / W ∧ 1048576 / W ≤ 1048576 := ⟨Int.ediv_nonneg (by decide) (by omega), Int.ediv_le_self _ (by decide)⟩

set_option maxHeartbeats 1000000 in
theorem makeable_ok (W : Int) (al : Option Addr) (l : List Nat) (cap : Nat) (w : World) (hx : Wd w al l) (hf : Fit l) (hE : imE W l = 0) :
    Calls Tryd.prog 67 #[.int .i64 W, .slice al l.length cap] w fun e w' => e = .returned .nilIface ∧ w' = w := by
  obtain ⟨a1, a2, a3, a4⟩ := imE_zero W l hE
  have q1 : (l.length : Int) ≤ 1048576 / W := (quo_le W _ a1).2 a3
  obtain ⟨q2, q3⟩ := quo_bd W a1
  have hll : l.length ≤ 1048576 := by omega
  have HA : Hid (∀ j, j < l.length → lenI (gt l j) ≤ W) := a4
  clear hE a3 a4
  go_enter Tryd.func67, Tryd.ntmps67
  go_wp2_with (go_at_call 78; refine (wide_ok _ ?_ ?_ _).mono ?_; exact a1; exact a2; rintro e w' ⟨rfl, rfl⟩)
  go_loop [23] (fun i => ∃ k : Nat, k ≤ l.length ∧ i = .int .i64 k) (fun i => l.length - (intOf i).toNat)
  case atStart => exact ⟨0, by omega, rfl⟩
  case round =>
    obtain ⟨k, hk, rfl⟩ := hrel
    by_cases hlt : k < l.length
    · obtain ⟨b, off, rfl, hb, hc⟩ := hx (by omega)
      have e1 := hc k hlt
      have hlt3 : (k : Int) < (l.length : Int) := by omega
      have F1 : Hid ((gt l k : Int) < 18446744073709551616) := by unfold Hid; have := hf k; omega
      clear hc
      go_wp2_with (go_at_call 79; refine (narrow_ok _ _ ?_ ?_ ?_ _).mono ?_; (exact Int.natCast_nonneg _); exact F1.out; (exact HA.out k hlt); rintro e w' ⟨rfl, rfl⟩)
      go_round
      case rel => exact ⟨k + 1, by omega, by go_num⟩
      case measure => simp only [intOf]; omega
    · go_wp2
      go_ret
      exact ⟨rfl, rfl⟩

set_option maxHeartbeats 1000000 in
theorem makeable_bad (W : Int) (al : Option Addr) (l : List Nat) (cap : Nat) (w : World) (hx : Wd w al l) (hf : Fit l) (hE : imE W l ≠ 0) (hcap : l.length ≤ 9223372036854775807) :
    Calls Tryd.prog 67 #[.int .i64 W, .slice al l.length cap] w fun e w' => (∃ s, e = .returned (.iface 106 (.agg #[.int .i64 2, .string s]))) ∧ w' = w := by
  by_cases c : W < 1 ∨ 64 < W
  · clear hE
    go_enter Tryd.func67, Tryd.ntmps67
    go_wp2_with (go_at_call 78; refine (wide_bad _ ?_ _).mono ?_; exact c; rintro e w' ⟨⟨s, rfl⟩, rfl⟩)
    go_ret
    exact ⟨⟨_, rfl⟩, rfl⟩
  have a1 : 1 ≤ W := by omega
  have a2 : W ≤ 64 := by omega
  obtain ⟨q2, q3⟩ := quo_bd W a1
  by_cases c2 : 1048576 / W < (l.length : Int)
  · clear hE
    go_enter Tryd.func67, Tryd.ntmps67
    go_wp2_with (go_at_call 78; refine (wide_ok _ ?_ ?_ _).mono ?_; exact a1; exact a2; rintro e w' ⟨rfl, rfl⟩)
    go_ret
    exact ⟨⟨_, rfl⟩, rfl⟩
  have q1 : (l.length : Int) ≤ 1048576 / W := by omega
  have a3 := (quo_le W _ a1).1 q1
  have hll : l.length ≤ 1048576 := by omega
  have HA : Hid (¬ ∀ j, j < l.length → lenI (gt l j) ≤ W) := fun h => hE (by unfold imE; rw [if_neg]; rintro (h1 | h1 | h1 | h1) <;> first | omega | exact h1 h)
  clear hE c c2 a3
  go_enter Tryd.func67, Tryd.ntmps67
  go_wp2_with (go_at_call 78; refine (wide_ok _ ?_ ?_ _).mono ?_; exact a1; exact a2; rintro e w' ⟨rfl, rfl⟩)
  go_loop [23] (fun i => ∃ k : Nat, k ≤ l.length ∧ i = .int .i64 k ∧ Hid (∀ j, j < k → lenI (gt l j) ≤ W)) (fun i => l.length - (intOf i).toNat)
  case atStart => exact ⟨0, by omega, rfl, fun j hj => absurd hj (by omega)⟩
  case round =>
    obtain ⟨k, hk, rfl, H⟩ := hrel
    by_cases hlt : k < l.length
    · obtain ⟨b, off, rfl, hb, hc⟩ := hx (by omega)
      have e1 := hc k hlt
      have hlt3 : (k : Int) < (l.length : Int) := by omega
      have F1 : Hid ((gt l k : Int) < 18446744073709551616) := by unfold Hid; have := hf k; omega
      clear hc
      by_cases hfit : lenI (gt l k) ≤ W
      · have HF : Hid (lenI (gt l k) ≤ W) := hfit
        clear hfit
        go_wp2_with (go_at_call 79; refine (narrow_ok _ _ ?_ ?_ ?_ _).mono ?_; (exact Int.natCast_nonneg _); exact F1.out; exact HF.out; rintro e w' ⟨rfl, rfl⟩)
        go_round
        case rel =>
          refine ⟨k + 1, by omega, by go_num, fun j hj => ?_⟩
          by_cases e : j = k
          · subst e; exact HF.out
          · exact H.out j (by omega)
        case measure => simp only [intOf]; omega
      · have HF : Hid (W < lenI (gt l k)) := by unfold Hid; omega
        clear hfit
        go_wp2_with (go_at_call 79; refine (narrow_bad _ _ ?_ ?_ ?_ _).mono ?_; (exact Int.natCast_nonneg _); exact F1.out; exact HF.out; rintro e w' ⟨⟨s, rfl⟩, rfl⟩)
        go_ret
        exact ⟨⟨_, rfl⟩, rfl⟩
    · exact absurd (fun j hj => H.out j (by omega)) HA.out

set_option maxHeartbeats 2000000 in
theorem make_ok (W : Nat) (al : Option Addr) (l : List Nat) (cap k : Nat) (w : World) (hx : Wd w al l) (hf : Fit l) (hE : imE (W : Int) l = 0) (hk : k = (l.length * W + 63) / 64) :
    Calls Tryd.prog 54 #[.int .i64 W, .slice al l.length cap] w fun e w' => ∃ g, e = .returned (.tuple #[.agg #[.int .i64 l.length, .int .i64 W, .int .i64 ((l.length : Int) * W), .slice (some ⟨g, 0, none⟩) k k], .int .i64 0]) ∧ w.heap.size ≤ g ∧ Own w' g (mkS l W l.length) ∧ Below w.heap.size w w' := by
  obtain ⟨a1, a2, a3, a4⟩ := imE_zero W l hE
  have K : ∀ o, Wd (w.alloc o) al l := fun o => hx.keep (below_alloc w o)
  have hm : l.length * W ≤ 1048576 := by
    have : ((l.length * W : Nat) : Int) ≤ 1048576 := by rw [Int.natCast_mul]; exact a3
    omega
  have hll : l.length ≤ 1048576 := Nat.le_trans (Nat.le_mul_of_pos_right _ (by omega)) hm
  have hmi : (0 : Int) ≤ (l.length : Int) * (W : Int) := Int.mul_nonneg (by omega) (by omega)
  have HK : Hid (k = (l.length * W + 63) / 64) := hk
  have HK1 : Hid (((l.length : Int) * W + 63) / 64 = (k : Int)) := by unfold Hid; rw [← Int.natCast_mul]; omega
  have HE : Hid (imE (W : Int) l = 0) := hE
  have HA : Hid (∀ j, j < l.length → gt l j < 2 ^ W) := fun j hj => (lenI_fit _ _).1 (a4 j hj)
  clear hk hE a4
  go_enter Tryd.func54, Tryd.ntmps54
  go_wp2_with fail
  refine (makeable_ok _ _ _ _ _ (K _) hf HE.out).mono ?_
  rintro e w' ⟨rfl, hw'⟩
  subst hw'
  go_wp2_with fail
  refine (new_ok _ k _ hmi a3 HK1.out).mono ?_
  rintro e w1 ⟨g, rfl, hg1, hg2, hO, hb⟩
  have KF : w1.frozen? ⟨w.heap.size, 0, none⟩ = false ∧ w1.frozen? ⟨w.heap.size, 1, none⟩ = false ∧ w1.frozen? ⟨w.heap.size, 2, none⟩ = false ∧ w1.frozen? ⟨w.heap.size, 3, none⟩ = false :=
    ⟨(hb.frozen (p := ⟨w.heap.size, 0, none⟩) (by simp)).trans (by simp), (hb.frozen (p := ⟨w.heap.size, 1, none⟩) (by simp)).trans (by simp), (hb.frozen (p := ⟨w.heap.size, 2, none⟩) (by simp)).trans (by simp), (hb.frozen (p := ⟨w.heap.size, 3, none⟩) (by simp)).trans (by simp)⟩
  have KK := Box4.new hb
  have hg0 : w.heap.size + 1 ≤ g := by simpa using hg1
  clear hb hg1 K
  obtain ⟨⟨hz, k0, k1, k2, k3⟩, hw⟩ := KK
  obtain ⟨f0, f1, f2, f3⟩ := KF
  go_wp2
  go_loopw [33] (fun i wr => ∃ q : Nat, q ≤ l.length ∧ i = .int .i64 q ∧ Own wr g (mkS l W q) ∧ (wr.cell? ⟨w1.heap.size, 0, none⟩ = some (.int .i64 ((l.length : Int) * W)) ∧ wr.cell? ⟨w1.heap.size, 1, none⟩ = some (.slice (some ⟨g, 0, none⟩) k k)) ∧ (wr.cell? ⟨w.heap.size, 0, none⟩ = some (.int .i64 0) ∧ wr.cell? ⟨w.heap.size, 1, none⟩ = some (.int .i64 0) ∧ wr.cell? ⟨w.heap.size, 2, none⟩ = some (.int .i64 0) ∧ wr.cell? ⟨w.heap.size, 3, none⟩ = some (.slice none 0 0)) ∧ (wr.frozen? ⟨w.heap.size, 0, none⟩ = false ∧ wr.frozen? ⟨w.heap.size, 1, none⟩ = false ∧ wr.frozen? ⟨w.heap.size, 2, none⟩ = false ∧ wr.frozen? ⟨w.heap.size, 3, none⟩ = false) ∧ Below w.heap.size w wr) (fun i _ => l.length - (intOf i).toNat)
  case atStart =>
    have hb := below_alloc w1 (.cells #[.int .i64 ((l.length : Int) * W), .slice (some ⟨g, 0, none⟩) k k] 24)
    refine ⟨0, Nat.zero_le _, rfl, ?_, ⟨by simp, by simp⟩, ⟨(hb.cell (p := ⟨w.heap.size, 0, none⟩) hz).trans k0, (hb.cell (p := ⟨w.heap.size, 1, none⟩) hz).trans k1, (hb.cell (p := ⟨w.heap.size, 2, none⟩) hz).trans k2, (hb.cell (p := ⟨w.heap.size, 3, none⟩) hz).trans k3⟩, ⟨(hb.frozen (p := ⟨w.heap.size, 0, none⟩) hz).trans f0, (hb.frozen (p := ⟨w.heap.size, 1, none⟩) hz).trans f1, (hb.frozen (p := ⟨w.heap.size, 2, none⟩) hz).trans f2, (hb.frozen (p := ⟨w.heap.size, 3, none⟩) hz).trans f3⟩, hw.trans (hb.mono (by omega))⟩
    rw [← mkS_zero, ← rep_row (l.length * W) k HK.out]
    exact hO.keep hb
  case round =>
    obtain ⟨q, hq, rfl, hOr, ⟨r0, r1⟩, ⟨s0, s1, s2, s3⟩, ⟨t0, t1, t2, t3⟩, hwr⟩ := hrel
    by_cases hlt : q < l.length
    · obtain ⟨b, off, rfl, hb, hc⟩ := hx (by omega)
      have e1 := (hwr.cell (p := ⟨b, off + q, none⟩) hb).trans (hc q hlt)
      have hlt3 : (q : Int) < (l.length : Int) := by omega
      have hn := mul_next l.length W q hlt
      have hqW : q * W ≤ 1048576 := by omega
      have hqi : (0 : Int) ≤ (q : Int) * (W : Int) := Int.mul_nonneg (by omega) (by omega)
      have hqi2 : (q : Int) * (W : Int) ≤ 1048576 := by rw [← Int.natCast_mul]; omega
      have FS : Hid (layL (mkS l W q) (q * W) W (gt l q) = mkS l W (q + 1)) := mkS_step l W q (by omega) (by omega) hlt (HA.out q hlt) (hf q)
      have HLN : Hid ((mkS l W q).length = k) := by unfold Hid; rw [length_mkS]; exact HK.out.symm
      have HP : Hid (q * W + W ≤ 64 * (mkS l W q).length) := by unfold Hid; rw [length_mkS]; omega
      have HC : Hid ((q : Int) * (W : Int) = ((q * W : Nat) : Int)) := (Int.natCast_mul q W).symm
      clear hc hn
      go_wp2_with fail
      rw [HC.out]
      refine (lay_c (mkS l W q) k g k (q * W) W (gt l q) _ HLN.out hOr (fit_mkS _ _ _) (by omega) (by omega) (hf q) HP.out hqW).mono ?_
      rintro e w4 ⟨rfl, hO4, hT⟩
      rw [FS.out] at hO4
      have u0 := (hT.cell (p := ⟨w1.heap.size, 0, none⟩) (show w1.heap.size ≠ g by omega)).trans r0
      have u1 := (hT.cell (p := ⟨w1.heap.size, 1, none⟩) (show w1.heap.size ≠ g by omega)).trans r1
      have x0 := (hT.cell (p := ⟨w.heap.size, 0, none⟩) (show w.heap.size ≠ g by omega)).trans s0
      have x1 := (hT.cell (p := ⟨w.heap.size, 1, none⟩) (show w.heap.size ≠ g by omega)).trans s1
      have x2 := (hT.cell (p := ⟨w.heap.size, 2, none⟩) (show w.heap.size ≠ g by omega)).trans s2
      have x3 := (hT.cell (p := ⟨w.heap.size, 3, none⟩) (show w.heap.size ≠ g by omega)).trans s3
      have y0 := (hT.frozen (p := ⟨w.heap.size, 0, none⟩) (show w.heap.size ≠ g by omega)).trans t0
      have y1 := (hT.frozen (p := ⟨w.heap.size, 1, none⟩) (show w.heap.size ≠ g by omega)).trans t1
      have y2 := (hT.frozen (p := ⟨w.heap.size, 2, none⟩) (show w.heap.size ≠ g by omega)).trans t2
      have y3 := (hT.frozen (p := ⟨w.heap.size, 3, none⟩) (show w.heap.size ≠ g by omega)).trans t3
      have hw4 := hwr.trans (hT.below (B := w.heap.size) (by omega))
      clear hT r0 r1 s0 s1 s2 s3 t0 t1 t2 t3 hwr hOr e1
      go_wp2
      exact ⟨⟨q + 1, by omega, by go_num, hO4, ⟨u0, u1⟩, ⟨x0, x1, x2, x3⟩, ⟨y0, y1, y2, y3⟩, hw4⟩, by simp only [intOf]; omega⟩
    · have hq2 : q = l.length := by omega
      rw [hq2] at hOr
      clear hq2
      go_wp2
      refine bodyPost_ret (v := .tuple #[.agg #[.int .i64 l.length, .int .i64 W, .int .i64 ((l.length : Int) * W), .slice (some ⟨g, 0, none⟩) k k], .int .i64 0]) (by simp [results, Tryd.results54, go_sem, s0, s1, s2, s3]) rfl ⟨g, rfl, by omega, ?_, ?_⟩
      · exact (((hOr.set_other (by simp; omega) _).set_other (by simp; omega) _).set_other (by simp; omega) _).set_other (by simp; omega) _
      · exact (((hwr.setCell (by simp) _).setCell (by simp) _).setCell (by simp) _).setCell (by simp) _

/-- As Out, and the words lie in memory that is new. -/
def OutF (w w' : World) (ao : Option Addr) (ys : List Nat) (cap : Nat) : Prop := Wd w' ao ys ∧ Fit ys ∧ ys.length ≤ cap ∧ (∀ a, ao = some a → w.heap.size ≤ a.block) ∧ Below w.heap.size w w'
theorem Wd.set_other {w : World} {ao : Option Addr} {xs : List Nat} (h : Wd w ao xs) {a : Addr} (hn : ∀ p, ao = some p → p.block ≠ a.block) (v : Value) : Wd (w.setCell a v) ao xs := by
  intro hi
  obtain ⟨b, off, e, hlt, hc⟩ := h hi
  have hne := hn _ e
  refine ⟨b, off, e, by rw [size_set]; exact hlt, fun i hi => ?_⟩
  rw [← hc i hi]
  exact World.cell?_of_block (w := w) (a := ⟨b, off + i, none⟩) (Below.heap_setCell w a v b hne)

end Go.Proofs.YtjkihmjbhiiknaaDoor
