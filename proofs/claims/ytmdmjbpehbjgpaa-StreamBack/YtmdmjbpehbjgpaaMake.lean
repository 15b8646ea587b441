/-
  Rows that calls make: words that are copied, a row as it is, a longer one, bits that are laid over words, a new row.
-/
import Derived.Test.YtmdmjbpehbjgpaaRead
import Derived.Test.YtmdmjbpehbjgpaaBit3
import Derived.Laws.CopyOwn
import Derived.OwnWalk
import Derived.Deep.RegionHeld3
namespace Go.Proofs.Ytmdmjbpehbjgpaa
open Go.RowKit Num Bit

theorem Try.info27 : (Try.prog.info? 27).map (fun i => (i.zero, i.size, i.bytes)) = some (some (.int .u64 0), 1, 8) := by kernel_rfl
theorem Try.size27 : (Try.prog.info? 27).map (·.size) = some 1 := by kernel_rfl

def wv (ys : List Nat) : List Value := ys.map fun y => Value.int .u64 (y : Nat)
def Own (w : World) (g : Nat) (ys : List Nat) : Prop := w.heap[g]? = some (.cells (wv ys).toArray 27 (0, 0))


theorem own_made {w : World} {base g n : Nat} (h : w.ownsRow base 27 1 (.slice (some ⟨g, 0, none⟩) n n) n (madeCells #[.int .u64 0] n).toList) : w.heap[g]? = some (.cells (wv (List.replicate n 0)).toArray 27 (0, 0)) := by
  obtain ⟨_, h | ⟨g', cap, cur, e, _, hh, _, _, hs, ht⟩⟩ := h
  · simp at h
  · simp only [Value.slice.injEq, Option.some.injEq, Addr.mk.injEq] at e
    obtain ⟨⟨rfl, _, _⟩, _, rfl⟩ := e
    rw [hh]
    have e2 : (madeCells #[.int .u64 0] n).toList = wv (List.replicate n 0) := by
      rw [toList_madeCells_one (.int .u64 0) n, wv, List.map_replicate]
      rfl
    rw [e2] at ht
    have e3 : cur.toList.take (n * 1) = cur.toList := List.take_of_length_le (by simp; omega)
    rw [e3] at ht
    rw [← ht]

theorem splice_cp (xs : List Nat) (n : Nat) : splice (wv (List.replicate n 0)) 0 (wv (xs.take n)) = wv (cp xs n) := by
  unfold splice wv cp
  rw [List.take_zero, List.nil_append, List.map_append, Nat.zero_add, List.length_map, List.length_take, ← List.map_drop, List.drop_replicate]
  congr 3
  omega

theorem copied_c (ao : Option Addr) (xs : List Nat) (cap : Nat) (n : Nat) (w : World) (hx : Wd w ao xs) (hn : n ≤ 1048576) (hl : xs.length ≤ 1048576) :
    Calls Try.prog 52 #[.slice ao xs.length cap, .int .i64 n] w fun e w' => ∃ g, e = .returned (.slice (some ⟨g, 0, none⟩) n n) ∧ w.heap.size ≤ g ∧ g < w'.heap.size ∧ Own w' g (cp xs n) ∧ Below w.heap.size w w' := by
  obtain ⟨i0, hi, hz0, hz1, hz2⟩ := info_parts Try.info27
  go_enter Try.func52, Try.ntmps52
  go_wp2_with (at_make; refine wpList_make_full _ rfl _ _ 22 rfl w.heap.size 27 i0 (.int .u64 0) 1 Try.underlying22 hi hz0 hz1 .i64 .i64 _ _ n rfl rfl rfl rfl ?b2 ?b3 ?b4 ?_)
  case b2 => rw [hz2]; omega
  case b3 => unfold maxLen; omega
  case b4 => omega
  intro w1 hown hgr
  have hg1 := own_made hown
  have hb1 : Below w.heap.size w w1 := (Below.refl _ _).grown hgr (Nat.le_refl _) (fun k h => by cases h)
  have hx1 := hx.keep hb1
  have hlt : w.heap.size < w1.heap.size := by
    have := (hown.lt w.heap.size rfl).2
    exact this
  have HG : Hid (w1.heap[w.heap.size]? = some (.cells (wv (List.replicate n 0)).toArray 27 (0, 0))) := hg1
  clear hown hgr hg1 hi hz0 hz1 hz2
  go_wp2_with (refine wpList_copy_splice rfl (.tmp 8) (.tmp 9) 22 22 rfl 27 Try.underlying22 Try.size27 (some ⟨w.heap.size, 0, none⟩) ao n n xs.length cap (by rfl) (by rfl) w.heap.size 0 (wv (List.replicate n 0)) 27 HG.out (wv (xs.take n)) ?h1 ?h2 ?h3 ?h4 w.heap.size w hb1 (Nat.le_refl _) ?_)
  case h1 => simp [wv, Nat.min_comm]
  case h2 =>
    intro hp
    obtain ⟨b, off, rfl, hb, hc⟩ := hx1 (by simp [wv] at hp; omega)
    refine ⟨⟨b, off, none⟩, rfl, ?_⟩
    intro j v hj
    have hjl : j < (xs.take n).length := by
      have := (List.getElem?_eq_some_iff.1 hj).1
      simpa [wv] using this
    have hj2 : j < xs.length := by simp at hjl; omega
    have ev : v = .int .u64 (gt xs j) := by
      rw [wv, List.getElem?_map, gt_get (xs.take n) j hjl] at hj
      simp only [Option.map_some, Option.some.injEq] at hj
      rw [← hj]
      unfold gt
      rw [List.getD_eq_getElem?_getD, List.getD_eq_getElem?_getD, List.getElem?_take_of_lt (by simp at hjl; omega)]
    rw [ev, ← hc j hj2]
    unfold Addr.add
    split
    · subst_vars; rfl
    · rfl
  case h3 => simp [wv]; omega
  case h4 => intro v hv; obtain ⟨a, _, rfl⟩ := List.mem_map.1 hv; rfl
  intro w2 H2 hb2
  rw [splice_cp] at H2
  have hl2 : w.heap.size < w2.heap.size := by
    have := H2.out
    exact (Array.getElem?_eq_some_iff.1 this).1
  go_wp2
  go_ret
  exact ⟨w.heap.size, rfl, Nat.le_refl _, hl2, H2.out, hb2⟩

theorem Own.set_other {w : World} {g : Nat} {ys : List Nat} (h : Own w g ys) {a : Addr} (ha : g ≠ a.block) (v : Value) : Own (w.setCell a v) g ys :=
  (Below.heap_setCell w a v g ha).trans h

theorem size_set (w : World) (a : Addr) (v : Value) : (w.setCell a v).heap.size = w.heap.size := by simp [World.setCell]


theorem box2_cells {w W w' : World} {a b c d : Value} {T U : TypeId} (hW : W = (w.alloc (.cells #[a, b] T)).alloc (.cells #[c, d] U)) (hb : Below W.heap.size W w') :
    (w'.cell? ⟨w.heap.size, 0, none⟩ = some a ∧ w'.cell? ⟨w.heap.size, 1, none⟩ = some b) ∧ (w'.cell? ⟨w.heap.size + 1, 0, none⟩ = some c ∧ w'.cell? ⟨w.heap.size + 1, 1, none⟩ = some d) ∧
    (w'.frozen? ⟨w.heap.size + 1, 0, none⟩ = false ∧ w'.frozen? ⟨w.heap.size + 1, 1, none⟩ = false) ∧ w.heap.size + 1 < w'.heap.size ∧ Below w.heap.size w w' := by
  have hz : W.heap.size = w.heap.size + 2 := by rw [hW]; simp
  refine ⟨⟨?_, ?_⟩, ⟨?_, ?_⟩, ⟨?_, ?_⟩, ?_, ?_⟩
  · rw [hb.cell (p := ⟨w.heap.size, 0, none⟩) (by simp [hz]), hW]; simp
  · rw [hb.cell (p := ⟨w.heap.size, 1, none⟩) (by simp [hz]), hW]; simp
  · rw [hb.cell (p := ⟨w.heap.size + 1, 0, none⟩) (by simp [hz]), hW]; simp
  · rw [hb.cell (p := ⟨w.heap.size + 1, 1, none⟩) (by simp [hz]), hW]; simp
  · rw [hb.frozen (p := ⟨w.heap.size + 1, 0, none⟩) (by simp [hz]), hW]; simp
  · rw [hb.frozen (p := ⟨w.heap.size + 1, 1, none⟩) (by simp [hz]), hW]; simp
  · have := hb.size; omega
  · have h0 : Below w.heap.size w W := by rw [hW]; exact ((below_alloc w _).alloc (by simp) _)
    exact h0.trans (hb.mono (by omega))

theorem asItIs_c (N : Int) (ao : Option Addr) (xs : List Nat) (cap : Nat) (w : World) (hx : Wd w ao xs) (hl : xs.length ≤ 1048576) :
    Calls Try.prog 40 #[.agg #[.int .i64 N, .slice ao xs.length cap]] w fun e w' => ∃ g, e = .returned (.agg #[.int .i64 N, .slice (some ⟨g, 0, none⟩) xs.length xs.length]) ∧ w.heap.size ≤ g ∧ g < w'.heap.size ∧ Own w' g xs ∧ Below w.heap.size w w' := by
  go_enter Try.func40, Try.ntmps40
  go_wp2
  go_region_held3 (fun w' => w'.cell? ⟨w.heap.size, 0, none⟩ = some (.int .i64 N) ∧ w'.cell? ⟨w.heap.size, 1, none⟩ = some (.slice ao xs.length cap)) (first | go_keep | (refine ⟨?_, ?_⟩ <;> assumption))
    (first | (go_at_call 52; refine (copied_c _ _ _ _ _ ?_ ?_ ?_).mono ?_; (exact hx.keep (by repeat (first | exact Below.refl _ _ | apply Below.drew | apply below_drewN | refine Below.alloc ?_ (by simp) _))); exact hl; exact hl; rintro e w' ⟨g, rfl, hg1, hg2, hO, hb⟩; have KK := box2_cells (w := w) (w' := w') (a := .int .i64 N) (b := .slice ao xs.length cap) (c := .int .i64 0) (d := .slice none 0 0) (T := 24) (U := 24) (W := (w.alloc (.cells #[.int .i64 N, .slice ao xs.length cap] 24)).alloc (.cells #[.int .i64 0, .slice none 0 0] 24)) rfl (((Below.refl _ _).drew).trans hb); clear hb; obtain ⟨⟨k0, k1⟩, ⟨k2, k3⟩, ⟨k4, k5⟩, hz, hw⟩ := KK))
  go_wp2
  have hg0 : w.heap.size + 2 ≤ g := by simpa using hg1
  refine bodyPost_ret (v := .agg #[.int .i64 N, .slice (some ⟨g, 0, none⟩) xs.length xs.length]) (by simp [results, Try.results40, go_sem, k2, k3]) rfl ⟨g, rfl, by omega, ?_, ?_, ?_⟩
  · rw [size_set, size_set]; exact hg2
  · rw [cp_self] at hO
    exact (hO.set_other (by simp; omega) _).set_other (by simp; omega) _
  · exact (hw.setCell (by simp) _).setCell (by simp) _

theorem longer_c (N : Int) (ao : Option Addr) (xs : List Nat) (cap : Nat) (n : Int) (k : Nat) (w : World) (hx : Wd w ao xs) (hl : xs.length ≤ 1048576) (h0 : 0 ≤ N) (h1 : N ≤ 1048576) (h2 : 0 ≤ n) (h3 : n ≤ 1048576) (hk : (N + n + 63) / 64 = (k : Int)) :
    Calls Try.prog 41 #[.agg #[.int .i64 N, .slice ao xs.length cap], .int .i64 n] w fun e w' => ∃ g, e = .returned (.agg #[.int .i64 (N + n), .slice (some ⟨g, 0, none⟩) k k]) ∧ w.heap.size ≤ g ∧ g < w'.heap.size ∧ Own w' g (cp xs k) ∧ Below w.heap.size w w' := by
  have hk2 : k ≤ 1048576 := by omega
  have hs : IntKind.i64.wrap (N + n) = N + n := wraps_i64 _ (by omega) (by omega)
  go_enter Try.func41, Try.ntmps41
  go_wp2
  go_region_held3 (fun w' => w'.cell? ⟨w.heap.size, 0, none⟩ = some (.int .i64 N) ∧ w'.cell? ⟨w.heap.size, 1, none⟩ = some (.slice ao xs.length cap)) (first | go_keep | (refine ⟨?_, ?_⟩ <;> assumption))
    (first | (go_at_call 50; refine (need_c _ ?_ ?_ _).mono ?_; (omega); (omega); rintro e w' ⟨rfl, rfl⟩) | (go_at_call 52; refine (copied_c _ _ _ _ _ ?_ ?_ ?_).mono ?_; (exact hx.keep (by repeat (first | exact Below.refl _ _ | apply Below.drew | apply below_drewN | refine Below.alloc ?_ (by simp) _))); exact hk2; exact hl; rintro e w' ⟨g, rfl, hg1, hg2, hO, hb⟩; have KK := box2_cells (w := w) (w' := w') (a := .int .i64 N) (b := .slice ao xs.length cap) (c := .int .i64 0) (d := .slice none 0 0) (T := 24) (U := 24) (W := (w.alloc (.cells #[.int .i64 N, .slice ao xs.length cap] 24)).alloc (.cells #[.int .i64 0, .slice none 0 0] 24)) rfl (((Below.refl _ _).drew).trans hb); clear hb; obtain ⟨⟨k0, k1⟩, ⟨k2, k3⟩, ⟨k4, k5⟩, hz, hw⟩ := KK))
  go_wp2
  have hg0 : w.heap.size + 2 ≤ g := by simpa using hg1
  refine bodyPost_ret (v := .agg #[.int .i64 (N + n), .slice (some ⟨g, 0, none⟩) k k]) (by simp [results, Try.results41, go_sem, k2, k3]) rfl ⟨g, rfl, by omega, ?_, ?_, ?_⟩
  · rw [size_set, size_set]; exact hg2
  · exact (hO.set_other (by simp; omega) _).set_other (by simp; omega) _
  · exact (hw.setCell (by simp) _).setCell (by simp) _

/-- A world in which block g alone has turned. -/
structure Turned (g : Nat) (w w' : World) : Prop where
  os : w'.os = w.os
  tape : w'.tape = w.tape
  output : w'.output = w.output
  size : w'.heap.size = w.heap.size
  block : ∀ k, k ≠ g → w'.heap[k]? = w.heap[k]?

theorem Turned.refl (g : Nat) (w : World) : Turned g w w := ⟨rfl, rfl, rfl, rfl, fun _ _ => rfl⟩
theorem Turned.set {g : Nat} {a w : World} (h : Turned g a w) (off : Nat) (v : Value) : Turned g a (w.setCell ⟨g, off, none⟩ v) :=
  ⟨h.os, h.tape, h.output, (size_set _ _ _).trans h.size, fun k hk => (Below.heap_setCell _ _ _ _ hk).trans (h.block k hk)⟩
theorem Turned.cell {g : Nat} {w w' : World} (h : Turned g w w') {p : Addr} (hp : p.block ≠ g) : w'.cell? p = w.cell? p := World.cell?_of_block (w := w) (h.block p.block hp)
theorem Turned.frozen {g : Nat} {w w' : World} (h : Turned g w w') {p : Addr} (hp : p.block ≠ g) : w'.frozen? p = w.frozen? p := World.frozen?_of_block (w := w) (h.block p.block hp)
theorem Turned.below {g B : Nat} {w w' : World} (h : Turned g w w') (hB : B ≤ g) : Below B w w' :=
  ⟨h.os, h.tape, h.output, by rw [h.size]; exact Nat.le_refl _, fun k hk => h.block k (by omega)⟩

theorem length_wv (ys : List Nat) : (wv ys).length = ys.length := by simp [wv]
theorem Own.cell {w : World} {g : Nat} {ys : List Nat} (h : Own w g ys) (j : Nat) (hj : j < ys.length) : w.cell? ⟨g, j, none⟩ = some (.int .u64 (gt ys j)) := by
  unfold World.cell?
  rw [show w.heap[({ block := g, off := j, spot := none } : Addr).block]? = _ from h]
  show (wv ys).toArray[j]? = _
  rw [List.getElem?_toArray, wv, List.getElem?_map, gt_get ys j hj]
  rfl
theorem Own.frozen {w : World} {g : Nat} {ys : List Nat} (h : Own w g ys) (j : Nat) : w.frozen? ⟨g, j, none⟩ = false := by
  unfold World.frozen?
  rw [show w.heap[({ block := g, off := j, spot := none } : Addr).block]? = _ from h]
  simp
theorem Own.lt {w : World} {g : Nat} {ys : List Nat} (h : Own w g ys) : g < w.heap.size := (Array.getElem?_eq_some_iff.1 h).1
theorem Own.set {w : World} {g : Nat} {ys : List Nat} (h : Own w g ys) (j v : Nat) : Own (w.setCell ⟨g, j, none⟩ (.int .u64 v)) g (ys.set j v) := by
  unfold Own at *
  simp only [World.setCell, Array.getElem?_modify]
  rw [if_pos trivial, h]
  simp [wv, List.map_set]
theorem Own.wd {w : World} {g : Nat} {ys : List Nat} (h : Own w g ys) : Wd w (some ⟨g, 0, none⟩) ys :=
  fun _ => ⟨g, 0, rfl, h.lt, fun i hi => by rw [Nat.zero_add]; exact h.cell i hi⟩
theorem Own.keep {w w' : World} {g : Nat} {ys : List Nat} (h : Own w g ys) (hb : Below w.heap.size w w') : Own w' g ys := (hb.block g h.lt).trans h

theorem bne0 (a : Nat) : ((a : Int) != 0) = decide (a ≠ 0) := by
  rw [Bool.eq_iff_iff, bne_iff_ne, decide_eq_true_eq]; omega

theorem put_c (ys : List Nat) (g cap p x : Nat) (w : World) (hO : Own w g ys) (hp : p ≤ 2097152) (hf : Fit ys) (hx : x < 18446744073709551616)
    (hR : Room ys p x) :
    Calls Try.prog 42 #[.slice (some ⟨g, 0, none⟩) ys.length cap, .int .i64 p, .int .u64 x] w fun e w' => e = .returned (.tuple #[]) ∧ Own w' g (putL ys p x) ∧ Turned g w w' := by
  obtain ⟨h1, h2⟩ := hR
  by_cases c1 : x * 2 ^ (p % 64) % 18446744073709551616 = 0
  · by_cases c2 : x / 2 ^ (64 - p % 64) = 0
    · have A : (IntKind.u64.wrap ((x : Int) * 2 ^ (p % 64)) != 0) = false := by rw [shl_nat, bne0]; simpa using c1
      have B : ((x : Int) / 2 ^ (64 - p % 64) != 0) = false := by rw [shr_cast, bne0]; simpa using c2
      have R : Hid (putL ys p x = ys) := by
        unfold putL Hid
        simp only [if_pos c1, if_pos c2]

      have S1 := trivial
      have S2 := trivial
      have S3 : Hid (True) := S1
      have S4 : Hid (True) := S2
      clear h1 h2 c1 c2 S1 S2
      go_enter Try.func42, Try.ntmps42
      go_wp2
      go_end0
      rw [R.out]
      exact ⟨rfl, hO, Turned.refl _ _⟩
    · have l2 := h2 c2
      have l2' : (p : Int) / 64 + 1 < (ys.length : Int) := by omega
      have e2 := hO.cell (p / 64 + 1) l2
      have f2 := hO.frozen (p / 64 + 1)
      have A : (IntKind.u64.wrap ((x : Int) * 2 ^ (p % 64)) != 0) = false := by rw [shl_nat, bne0]; simpa using c1
      have B : ((x : Int) / 2 ^ (64 - p % 64) != 0) = true := by rw [shr_cast, bne0]; simpa using c2
      have R : Hid (putL ys p x = (ys.set (p / 64 + 1) (gt ys (p / 64 + 1) ||| x / 2 ^ (64 - p % 64)))) := by
        unfold putL Hid
        simp only [if_pos c1, if_neg c2]

      have S1 := trivial
      have S2 := u64_or_nat (gt ys (p / 64 + 1)) _ (hf _) (Nat.lt_of_le_of_lt (Nat.div_le_self x (2 ^ (64 - p % 64))) hx)
      have S3 : Hid (True) := S1
      have S4 : Hid (bits .or .u64 (gt ys (p / 64 + 1) : Int) ((x / 2 ^ (64 - p % 64) : Nat) : Int) = ((gt ys (p / 64 + 1) ||| x / 2 ^ (64 - p % 64) : Nat) : Int)) := S2
      clear h1 h2 c1 c2 S1 S2
      go_enter Try.func42, Try.ntmps42
      go_wp2
      go_end0
      rw [R.out, shr_cast, S4.out]
      exact ⟨rfl, hO.set _ _, (Turned.refl _ _).set _ _⟩
  · by_cases c2 : x / 2 ^ (64 - p % 64) = 0
    · have l1 := h1 c1
      have l1' : (p : Int) / 64 < (ys.length : Int) := by omega
      have e1 := hO.cell (p / 64) l1
      have f1 := hO.frozen (p / 64)
      have A : (IntKind.u64.wrap ((x : Int) * 2 ^ (p % 64)) != 0) = true := by rw [shl_nat, bne0]; simpa using c1
      have B : ((x : Int) / 2 ^ (64 - p % 64) != 0) = false := by rw [shr_cast, bne0]; simpa using c2
      have R : Hid (putL ys p x = (ys.set (p / 64) (gt ys (p / 64) ||| x * 2 ^ (p % 64) % 18446744073709551616))) := by
        unfold putL Hid
        simp only [if_neg c1, if_pos c2]

      have S1 := u64_or_nat (gt ys (p / 64)) _ (hf _) (Nat.mod_lt (x * 2 ^ (p % 64)) (show 0 < 18446744073709551616 by decide))
      have S2 := trivial
      have S3 : Hid (bits .or .u64 (gt ys (p / 64) : Int) ((x * 2 ^ (p % 64) % 18446744073709551616 : Nat) : Int) = ((gt ys (p / 64) ||| x * 2 ^ (p % 64) % 18446744073709551616 : Nat) : Int)) := S1
      have S4 : Hid (True) := S2
      clear h1 h2 c1 c2 S1 S2
      go_enter Try.func42, Try.ntmps42
      go_wp2
      go_end0
      rw [R.out, shl_nat, S3.out]
      exact ⟨rfl, hO.set _ _, (Turned.refl _ _).set _ _⟩
    · have l1 := h1 c1
      have l1' : (p : Int) / 64 < (ys.length : Int) := by omega
      have e1 := hO.cell (p / 64) l1
      have f1 := hO.frozen (p / 64)
      have l2 := h2 c2
      have l2' : (p : Int) / 64 + 1 < (ys.length : Int) := by omega
      have e2 := hO.cell (p / 64 + 1) l2
      have f2 := hO.frozen (p / 64 + 1)
      have A : (IntKind.u64.wrap ((x : Int) * 2 ^ (p % 64)) != 0) = true := by rw [shl_nat, bne0]; simpa using c1
      have B : ((x : Int) / 2 ^ (64 - p % 64) != 0) = true := by rw [shr_cast, bne0]; simpa using c2
      have R : Hid (putL ys p x = ((ys.set (p / 64) (gt ys (p / 64) ||| x * 2 ^ (p % 64) % 18446744073709551616)).set (p / 64 + 1) (gt ys (p / 64 + 1) ||| x / 2 ^ (64 - p % 64)))) := by
        unfold putL Hid
        simp only [if_neg c1, if_neg c2]
        rw [gt_set ys _ _ _ l1, if_neg (by omega)]
      have S1 := u64_or_nat (gt ys (p / 64)) _ (hf _) (Nat.mod_lt (x * 2 ^ (p % 64)) (show 0 < 18446744073709551616 by decide))
      have S2 := u64_or_nat (gt ys (p / 64 + 1)) _ (hf _) (Nat.lt_of_le_of_lt (Nat.div_le_self x (2 ^ (64 - p % 64))) hx)
      have S3 : Hid (bits .or .u64 (gt ys (p / 64) : Int) ((x * 2 ^ (p % 64) % 18446744073709551616 : Nat) : Int) = ((gt ys (p / 64) ||| x * 2 ^ (p % 64) % 18446744073709551616 : Nat) : Int)) := S1
      have S4 : Hid (bits .or .u64 (gt ys (p / 64 + 1) : Int) ((x / 2 ^ (64 - p % 64) : Nat) : Int) = ((gt ys (p / 64 + 1) ||| x / 2 ^ (64 - p % 64) : Nat) : Int)) := S2
      clear h1 h2 c1 c2 S1 S2
      go_enter Try.func42, Try.ntmps42
      go_wp2
      go_end0
      rw [R.out, shl_nat, S3.out, shr_cast, S4.out]
      exact ⟨rfl, (hO.set _ _).set _ _, ((Turned.refl _ _).set _ _).set _ _⟩

theorem put_l (ys : List Nat) (l g cap p x : Nat) (w : World) (hl : ys.length = l) (hO : Own w g ys) (hp : p ≤ 2097152) (hf : Fit ys) (hx : x < 18446744073709551616) (hR : Room ys p x) :
    Calls Try.prog 42 #[.slice (some ⟨g, 0, none⟩) l cap, .int .i64 p, .int .u64 x] w fun e w' => e = .returned (.tuple #[]) ∧ Own w' g (putL ys p x) ∧ Turned g w w' := by
  subst hl
  exact put_c ys g cap p x w hO hp hf hx hR

theorem put_i (ys : List Nat) (l g cap p x : Nat) (P : Int) (w : World) (hl : ys.length = l) (hP : P = (p : Int)) (hO : Own w g ys) (hp : p ≤ 2097152) (hf : Fit ys) (hx : x < 18446744073709551616) (hR : Room ys p x) :
    Calls Try.prog 42 #[.slice (some ⟨g, 0, none⟩) l cap, .int .i64 P, .int .u64 x] w fun e w' => e = .returned (.tuple #[]) ∧ Own w' g (putL ys p x) ∧ Turned g w w' := by
  subst hP
  exact put_l ys l g cap p x w hl hO hp hf hx hR

theorem turn_cell {g : Nat} {w w' : World} {o : Obj} (hT : Turned g (w.alloc o).drew w') {b j : Nat} (hb : b < w.heap.size) (hg : b ≠ g) {v : Value} (h : w.cell? ⟨b, j, none⟩ = some v) : w'.cell? ⟨b, j, none⟩ = some v :=
  (hT.cell (p := ⟨b, j, none⟩) hg).trans (((below_alloc w o).drew.cell (p := ⟨b, j, none⟩) hb).trans h)
theorem turn_frozen {g : Nat} {w w' : World} {o : Obj} (hT : Turned g (w.alloc o).drew w') {b j : Nat} (hb : b < w.heap.size) (hg : b ≠ g) {v : Bool} (h : w.frozen? ⟨b, j, none⟩ = v) : w'.frozen? ⟨b, j, none⟩ = v :=
  (hT.frozen (p := ⟨b, j, none⟩) hg).trans (((below_alloc w o).drew.frozen (p := ⟨b, j, none⟩) hb).trans h)
theorem turn_box {g : Nat} {w w' : World} {a b : Value} {T : TypeId} (hT : Turned g (w.alloc (.cells #[a, b] T)).drew w') (hg : w.heap.size ≠ g) : w'.cell? ⟨w.heap.size, 0, none⟩ = some a ∧ w'.cell? ⟨w.heap.size, 1, none⟩ = some b :=
  ⟨(hT.cell (p := ⟨w.heap.size, 0, none⟩) hg).trans (by simp), (hT.cell (p := ⟨w.heap.size, 1, none⟩) hg).trans (by simp)⟩

theorem box_frozen {w w' : World} {a b : Value} {T : TypeId} (hb : Below (w.alloc (.cells #[a, b] T)).heap.size (w.alloc (.cells #[a, b] T)) w') :
    w'.frozen? ⟨w.heap.size, 0, none⟩ = false ∧ w'.frozen? ⟨w.heap.size, 1, none⟩ = false := by
  refine ⟨?_, ?_⟩
  · rw [hb.frozen (p := ⟨w.heap.size, 0, none⟩) (by simp)]; simp
  · rw [hb.frozen (p := ⟨w.heap.size, 1, none⟩) (by simp)]; simp

/-- What a call that makes a row leaves: the words lie in memory of its own, and nothing old has turned. -/
def Out (w w' : World) (ao : Option Addr) (ys : List Nat) (cap : Nat) : Prop := Wd w' ao ys ∧ Fit ys ∧ ys.length ≤ cap ∧ Below w.heap.size w w'

theorem rep_row (n k : Nat) (hk : k = (n + 63) / 64) : List.replicate k 0 = rowOf n (fun _ => false) := by
  refine eq_rowOf n _ _ ?_ (by simp; exact hk) ?_
  · intro i
    unfold gt
    rw [List.getD_eq_getElem?_getD, List.getElem?_replicate]
    split <;> simp
  · intro i _
    unfold bitAt gt
    rw [List.getD_eq_getElem?_getD, List.getElem?_replicate]
    split <;> simp

end Go.Proofs.Ytmdmjbpehbjgpaa
