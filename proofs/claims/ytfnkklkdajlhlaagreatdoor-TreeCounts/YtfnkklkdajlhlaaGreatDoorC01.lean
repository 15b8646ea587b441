/-
  The contracts of Get and Slice. The contracts of the document's answers that only read: Words, Check, At, Get. The contracts of the document's Slice and Ones. Blocks of cells that may be written, whole: what they hold, what a store makes of them, what stays; numbers in memory. The contracts of the document's Numbers and Same. A region that draws its order and ends in a store over a cell that it has read: 'x.f = append(x.f, ..)'. What is held of the world (S) is asked behind every operation but the last ones (numbers ns: the stores), each of which waits for each operation that is taken first. Appends to a row of the call's own, out of whatever source (nothing among them): as a step of a list of operations, and of a region that draws its order. The contract of the document's Build.
-/
import Derived.BigRegion
import Derived.RegionTactic
import Derived.Test.YtfnkklkdajlhlaaGreatDoorC00
import Derived.Deep.RegionHeld3
import Derived.Test.YtfnkklkdajlhlaaGreatDoorRows
import Derived.WalkKit
import Derived.WalkSmall
import Derived.OwnWalk
import Derived.OrdersHeld
import Derived.Deep.AppendLies
import Derived.Deep.DeepCutAuto
import Derived.Deep.CutBlock
set_option linter.unusedVariables false
set_option linter.unusedSimpArgs false
set_option maxRecDepth 100000
set_option maxHeartbeats 16000000
namespace Go.Proofs.YtfnkklkdajlhlaaGreatDoor
open Go.RowKit Num Bit
theorem get_end (xs : List Nat) (hg : Fit xs) (i : Nat) (j k : Nat) (hj : j = i / 64) (hk : k = i % 64) : (bits BinOp.and IntKind.u64 ((gt xs j : Int) / 2 ^ k) 1 == 1) = bitAt xs i := by
 subst hj hk
 have h := hg (i / 64)
 rw [bit_and _ _ (by omega) (by omega)]
 unfold bitAt
 rw [bit_test, Int.toNat_natCast, Bool.eq_iff_iff, beq_iff_eq, decide_eq_true_eq]
 omega
theorem get_c (N : Int) (ao : Option Addr) (xs : List Nat) (cap : Nat) (i : Int) (w : World) (hx : Wd w ao xs) (hg : Fit xs) :
  Calls Tryz.prog 51 #[.agg #[.int .i64 N, .slice ao xs.length cap], .int .i64 i] w fun e w' => e = .returned (.tuple #[.bool (getB N xs i), .int .i64 (getE N xs i)]) ∧ Below w.heap.size w w' := by
 have K : ∀ o, Wd (w.alloc o) ao xs := fun o => hx.keep (below_alloc w o)
 by_cases hE : getE N xs i = 0
 ·have hk : chk N xs = true := by unfold getE at hE; cases h : chk N xs with | true => rfl | false => simp [h] at hE
  have hi : 0 ≤ i ∧ i < N := by
   unfold getE at hE; rw [if_neg (by simp [hk])] at hE
   by_cases h : i < 0 ∨ N ≤ i
   ·rw [if_pos h] at hE; omega
   ·omega
  obtain ⟨hc0, hc1, hc2, _⟩ := chk_out N xs hk
  obtain ⟨n, rfl⟩ := Int.eq_ofNat_of_zero_le hi.1
  obtain ⟨b, off, rfl, hb, hc⟩ := hx (by omega)
  have hE' : (getE N xs n == 0) = true := by simpa using hE
  have hB : Hid (bitAt xs n = getB N xs n) := by unfold getB; rw [hk, show decide (0 ≤ (n : Int) ∧ (n : Int) < N) = true by simpa using hi.2]; simp [Hid]
  have hcj := hc (n / 64) (by omega)
  clear hx hk hc
  obtain ⟨h0, h1⟩ := hi
  have hl : (n : Int) / 64 < (xs.length : Int) := by omega
  clear hc2 
  go_enter Tryz.func51, Tryz.ntmps51
  go_wp2_with (go_at_call 91; refine (place_c _ _ _ _ _ _ (K _)).mono ?_; rintro e w' ⟨rfl, hb⟩; obtain ⟨c0, c1, hz, hw⟩ := box_cells hb; have hcw := (hw.cell (p := ⟨_, off + n / 64, none⟩) (by assumption)).trans hcj; clear hb)
  go_ret2
  exact ⟨ret_pair (congrArg Value.bool ((get_end xs hg n _ _ rfl rfl).trans hB.out)) (congrArg (Value.int IntKind.i64) hE.symm), by assumption⟩
 ·have hE' : (getE N xs i == 0) = false := by simpa using hE
  have hB : Hid (false = getB N xs i) := by
   unfold getB getE at *
   cases h : chk N xs with
   | false => simp [Hid]
   | true =>
    simp only [h] at hE
    by_cases h2 : i < 0 ∨ N ≤ i
    ·have : decide (0 ≤ i ∧ i < N) = false := by simp; omega
     rw [this]; simp [Hid]
    ·simp [h2] at hE
  clear hE
  go_enter Tryz.func51, Tryz.ntmps51
  go_wp2_with (go_at_call 91; refine (place_c _ _ _ _ _ _ (K _)).mono ?_; rintro e w' ⟨rfl, hb⟩; obtain ⟨c0, c1, hz, hw⟩ := box_cells hb; clear hb)
  go_ret2
  exact ⟨ret_pair (congrArg Value.bool hB.out) rfl, by assumption⟩
theorem slice_c (N : Int) (ao : Option Addr) (xs : List Nat) (cap : Nat) (i n : Int) (w : World) (hx : Wd w ao xs) (hg : Fit xs) (_hi : -9223372036854775808 ≤ i) (_hi2 : i ≤ 9223372036854775807) (_hn : -9223372036854775808 ≤ n) (_hn2 : n ≤ 9223372036854775807) :
  Calls Tryz.prog 155 #[.agg #[.int .i64 N, .slice ao xs.length cap], .int .i64 i, .int .i64 n] w fun e w' => e = .returned (.tuple #[.int .u64 (slcX N xs i n), .int .i64 (slcE N xs i n)]) ∧ Below w.heap.size w w' := by
 have K : ∀ o, Wd (w.alloc o) ao xs := fun o => hx.keep (below_alloc w o)
 by_cases hE : slcE N xs i n = 0
 ·have hk : chk N xs = true := by unfold slcE at hE; cases h : chk N xs with | true => rfl | false => simp [h] at hE
  have hi : 0 ≤ n ∧ n ≤ 64 ∧ 0 ≤ i ∧ i ≤ N - n := by
   unfold slcE at hE
   by_cases h : chk N xs = false ∨ n < 0 ∨ 64 < n
   ·rw [if_pos h] at hE; omega
   ·rw [if_neg h] at hE
    by_cases h2 : i < 0 ∨ N - n < i
    ·rw [if_pos h2] at hE; omega
    ·simp [hk] at h; omega
  obtain ⟨hc0, hc1, hc2, _⟩ := chk_out N xs hk
  obtain ⟨hn0, hn1, hi0, hi1⟩ := hi
  by_cases hz : n = 0
  ·subst hz
   have R : Hid (0 = ((slcX N xs i 0 : Nat) : Int)) := by unfold slcX Hid; rw [if_pos hE]; rfl
   have RE : Hid (0 = slcE N xs i 0) := hE.symm
   clear hE hx hc2
   go_enter Tryz.func155, Tryz.ntmps155
   go_wp2_with (go_at_call 92; refine (check_c _ _ _ _ _ (K _)).mono ?_; rintro e w' ⟨rfl, hb⟩; obtain ⟨c0, c1, hz, hw⟩ := box_cells hb; clear hb)
   go_ret2
   exact ⟨ret_pair (congrArg (Value.int IntKind.u64) R.out) (congrArg (Value.int IntKind.i64) RE.out), by assumption⟩
  ·obtain ⟨m, rfl⟩ := Int.eq_ofNat_of_zero_le hi0
   obtain ⟨b, off, rfl, hb, hc⟩ := hx (by omega)
   have hz' : (n == 0) = false := by simpa using hz
   have hcj := hc (m / 64) (by omega)
   have RE : Hid (0 = slcE N xs m n) := hE.symm
   by_cases hl : m / 64 + 1 < xs.length
   ·have hcj2 := hc (m / 64 + 1) hl
    have hl1 : (m : Int) / 64 < (xs.length : Int) := by omega
    have hl2 : (m : Int) / 64 + 1 < (xs.length : Int) := by omega
    have hl3 : xs.length ≤ 16384 := by omega
    clear hE hx hc2 hc hz
    go_enter Tryz.func155, Tryz.ntmps155
    go_wp2_with (first | (go_at_call 92; refine (check_c _ _ _ _ _ (K _)).mono ?_; rintro e w' ⟨rfl, hb⟩; obtain ⟨c0, c1, hz, hw⟩ := box_cells hb; have hcw := (hw.cell (p := ⟨_, off + m / 64, none⟩) (by assumption)).trans hcj; have hcw2 := (hw.cell (p := ⟨_, off + (m / 64 + 1), none⟩) (by assumption)).trans hcj2; clear hb) | (go_at_call 163; refine (mask_c _ _).mono ?_; rintro e w' ⟨rfl, rfl⟩))
    go_ret2
    refine ⟨ret_pair (congrArg (Value.int IntKind.u64) ?_) (congrArg (Value.int IntKind.i64) RE.out), by assumption⟩
    rw [slice_two xs hg m n hn1, slcX, if_pos RE.out.symm, Int.toNat_natCast]
   ·have hl2 : ¬ (m : Int) / 64 + 1 < (xs.length : Int) := by omega
    have hl1 : (m : Int) / 64 < (xs.length : Int) := by omega
    have hl3 : xs.length ≤ 16384 := by omega
    clear hE hx hc2 hc hz
    go_enter Tryz.func155, Tryz.ntmps155
    go_wp2_with (first | (go_at_call 92; refine (check_c _ _ _ _ _ (K _)).mono ?_; rintro e w' ⟨rfl, hb⟩; obtain ⟨c0, c1, hz, hw⟩ := box_cells hb; have hcw := (hw.cell (p := ⟨_, off + m / 64, none⟩) (by assumption)).trans hcj; clear hb) | (go_at_call 163; refine (mask_c _ _).mono ?_; rintro e w' ⟨rfl, rfl⟩))
    go_ret2
    refine ⟨ret_pair (congrArg (Value.int IntKind.u64) ?_) (congrArg (Value.int IntKind.i64) RE.out), by assumption⟩
    rw [slice_one xs hg m n hn1 (by omega), slcX, if_pos RE.out.symm, Int.toNat_natCast]
 ·have R : Hid (0 = ((slcX N xs i n : Nat) : Int)) := by unfold slcX Hid; rw [if_neg hE]; rfl
  cases hk : chk N xs with
  | false =>
   have RE : Hid (2 = slcE N xs i n) := by unfold slcE Hid; rw [if_pos (.inl hk)]
   clear hE
   go_enter Tryz.func155, Tryz.ntmps155
   go_wp2_with (go_at_call 92; refine (check_c _ _ _ _ _ (K _)).mono ?_; rintro e w' ⟨rfl, hb⟩; obtain ⟨c0, c1, hz, hw⟩ := box_cells hb; clear hb)
   go_ret2
   exact ⟨ret_pair (congrArg (Value.int IntKind.u64) R.out) (congrArg (Value.int IntKind.i64) RE.out), by assumption⟩
  | true =>
   obtain ⟨hc0, hc1, _, _⟩ := chk_out N xs hk
   by_cases hn : n < 0
   ·have RE : Hid (2 = slcE N xs i n) := by unfold slcE Hid; rw [if_pos (.inr (.inl hn))]
    clear hE
    go_enter Tryz.func155, Tryz.ntmps155
    go_wp2_with (go_at_call 92; refine (check_c _ _ _ _ _ (K _)).mono ?_; rintro e w' ⟨rfl, hb⟩; obtain ⟨c0, c1, hz, hw⟩ := box_cells hb; clear hb)
    go_ret2
    exact ⟨ret_pair (congrArg (Value.int IntKind.u64) R.out) (congrArg (Value.int IntKind.i64) RE.out), by assumption⟩
   ·by_cases hn2 : 64 < n
    ·have RE : Hid (2 = slcE N xs i n) := by unfold slcE Hid; rw [if_pos (.inr (.inr hn2))]
     clear hE
     go_enter Tryz.func155, Tryz.ntmps155
     go_wp2_with (go_at_call 92; refine (check_c _ _ _ _ _ (K _)).mono ?_; rintro e w' ⟨rfl, hb⟩; obtain ⟨c0, c1, hz, hw⟩ := box_cells hb; clear hb)
     go_ret2
     exact ⟨ret_pair (congrArg (Value.int IntKind.u64) R.out) (congrArg (Value.int IntKind.i64) RE.out), by assumption⟩
    ·have hcond : i < 0 ∨ N - n < i := by
      unfold slcE at hE
      rw [if_neg (by simp [hk]; omega)] at hE
      by_cases h2 : i < 0 ∨ N - n < i
      ·exact h2
      ·rw [if_neg h2] at hE; exact absurd rfl hE
     have RE : Hid (3 = slcE N xs i n) := by unfold slcE Hid; rw [if_neg (by simp [hk]; omega), if_pos hcond]
     clear hE
     by_cases h3 : i < 0
     ·go_enter Tryz.func155, Tryz.ntmps155
      go_wp2_with (go_at_call 92; refine (check_c _ _ _ _ _ (K _)).mono ?_; rintro e w' ⟨rfl, hb⟩; obtain ⟨c0, c1, hz, hw⟩ := box_cells hb; clear hb)
      go_ret2
      exact ⟨ret_pair (congrArg (Value.int IntKind.u64) R.out) (congrArg (Value.int IntKind.i64) RE.out), by assumption⟩
     ·have h4 : N - n < i := by omega
      clear hcond
      go_enter Tryz.func155, Tryz.ntmps155
      go_wp2_with (go_at_call 92; refine (check_c _ _ _ _ _ (K _)).mono ?_; rintro e w' ⟨rfl, hb⟩; obtain ⟨c0, c1, hz, hw⟩ := box_cells hb; clear hb)
      go_ret2
      exact ⟨ret_pair (congrArg (Value.int IntKind.u64) R.out) (congrArg (Value.int IntKind.i64) RE.out), by assumption⟩
end Go.Proofs.YtfnkklkdajlhlaaGreatDoor
namespace Go.Proofs.YtfnkklkdajlhlaaGreatDoor
open Go.RowKit
def Cel (w : World) (b : Nat) (cs : List Value) (T : TypeId) : Prop := w.heap[b]? = some (.cells cs.toArray T (0, 0))
theorem Cel.lt {w : World} {b : Nat} {cs : List Value} {T : TypeId} (h : Cel w b cs T) : b < w.heap.size := (Array.getElem?_eq_some_iff.1 h).1
theorem Cel.cell {w : World} {b : Nat} {cs : List Value} {T : TypeId} (h : Cel w b cs T) (i : Nat) {v : Value} (hv : cs[i]? = some v) : w.cell? ⟨b, i, none⟩ = some v := by
 unfold World.cell?
 rw [show w.heap[({ block := b, off := i, spot := none } : Addr).block]? = _ from h]
 simpa using hv
theorem Cel.frozen {w : World} {b : Nat} {cs : List Value} {T : TypeId} (h : Cel w b cs T) (i : Nat) : w.frozen? ⟨b, i, none⟩ = false := by
 unfold World.frozen?
 rw [show w.heap[({ block := b, off := i, spot := none } : Addr).block]? = _ from h]
 simp
theorem Cel.set {w : World} {b : Nat} {cs : List Value} {T : TypeId} (h : Cel w b cs T) (i : Nat) (v : Value) : Cel (w.setCell ⟨b, i, none⟩ v) b (cs.set i v) T := by
 unfold Cel at h ⊢
 simp only [World.setCell, Array.getElem?_modify]
 rw [if_pos trivial, h]
 simp
theorem Cel.other {w : World} {b : Nat} {cs : List Value} {T : TypeId} (h : Cel w b cs T) {a : Addr} (ha : b ≠ a.block) (v : Value) : Cel (w.setCell a v) b cs T := (Below.heap_setCell w a v b ha).trans h
theorem Cel.keep {w w' : World} {b base : Nat} {cs : List Value} {T : TypeId} (h : Cel w b cs T) (hb : Below base w w') (hlt : b < base) : Cel w' b cs T := (hb.block b hlt).trans h
theorem Cel.kept {w w' : World} {b : Nat} {cs : List Value} {T : TypeId} (h : Cel w b cs T) (hb : Below w.heap.size w w') : Cel w' b cs T := h.keep hb h.lt
theorem Cel.drew {w : World} {b : Nat} {cs : List Value} {T : TypeId} (h : Cel w b cs T) : Cel w.drew b cs T := h
theorem Cel.new (w : World) (cs : List Value) (T : TypeId) : Cel (w.alloc (.cells cs.toArray T)) w.heap.size cs T := by
 show (w.heap.push (.cells cs.toArray T))[w.heap.size]? = _
 simp
theorem Cel.new2 (w : World) (o : Obj) (cs : List Value) (T : TypeId) : Cel ((w.alloc o).alloc (.cells cs.toArray T)) (w.heap.size + 1) cs T := by
 have := Cel.new (w.alloc o) cs T
 simpa using this
theorem Cel.alloc {w : World} {b : Nat} {cs : List Value} {T : TypeId} (h : Cel w b cs T) (o : Obj) : Cel (w.alloc o) b cs T := h.kept ((Below.refl _ _).alloc (Nat.le_refl _) _)
theorem yc1 {w W : World} {cs : List Value} {T : TypeId} (h : W = w.alloc (.cells cs.toArray T)) : Cel W w.heap.size cs T := h ▸ Cel.new w cs T
theorem yc2 {w W : World} {o : Obj} {cs : List Value} {T : TypeId} (h : W = (w.alloc o).alloc (.cells cs.toArray T)) : Cel W (w.heap.size + 1) cs T := h ▸ Cel.new2 w o cs T
theorem yc3 {w W : World} {o : Obj} {cs : List Value} {T : TypeId} (h : W = (w.alloc (.cells cs.toArray T)).alloc o) : Cel W w.heap.size cs T := h ▸ (Cel.new w cs T).alloc o
end Go.Proofs.YtfnkklkdajlhlaaGreatDoor
namespace Go.Proofs.YtfnkklkdajlhlaaGreatDoor
open Go.RowKit Num Bit
end Go.Proofs.YtfnkklkdajlhlaaGreatDoor
namespace Go.Proofs.YtfnkklkdajlhlaaGreatDoor
open Go
section
variable {P : Program} {ops : Array Oper} {Q : Exit → Act → World → Prop} {md : Region.Mode} {S : World → Prop} {ns : List Nat}
def AnyG (P : Program) (md : Region.Mode) (ops : Array Oper) (Q : Exit → Act → World → Prop) (S : World → Prop) (ns : List Nat) : Nat → Array Bool → Act → World → Prop
 | 0, l, a, w => Region.ready md ops l = [] ∧ Q .normal a w
 | f + 1, l, a, w => (Region.ready md ops l = [] → Q .normal a w) ∧ ∀ i ∈ Region.ready md ops l, wpOp P ops Q i (fun a' w' => (i ∉ ns → S w → S w') ∧ AnyG P md ops Q S ns f (l.setIfInBounds i true) a' w') a w
theorem AnyG.any : ∀ f l a w, AnyG P md ops Q S ns f l a w → wpAny P md ops Q f l a w
 | 0, _, _, _, h => h
 | f + 1, _, _, _, h => ⟨h.1, fun i hi => wpOp_mono (fun a' w' h' => AnyG.any f _ a' w' h'.2) (h.2 i hi)⟩
def waits (md : Region.Mode) (ops : Array Oper) (n i : Nat) : Bool :=
 match ops[n]? with
 | some o => o.after.any fun e => Region.binds md e && e.on == i
 | none => true
theorem waits_not {n i : Nat} {l : Array Bool} (hw : waits md ops n i = true) (hi : l.getD i true = false) : n ∉ Region.ready md ops l := by
 intro hn
 obtain ⟨_, o, ho, hall⟩ := mem_ready.1 hn
 unfold waits at hw
 rw [ho] at hw
 obtain ⟨e, he, hb⟩ := Array.any_eq_true'.1 hw
 simp only [Bool.and_eq_true, beq_iff_eq] at hb
 have h1 := hall e he hb.1
 rw [hb.2] at h1
 rcases Nat.lt_or_ge i l.size with h' | h'
 ·simp [h'] at hi h1; rw [hi] at h1; cases h1
 ·simp [Array.getElem?_eq_none h'] at h1
theorem AnyG.first {i : Nat} {oi : Oper} {v : Value} (hi : ops[i]? = some oi) (hsel : Region.noSelect ops = true) (hQ : ∀ c a w, Q (.panic c) (a.put oi.dst v) w → Q (.panic c) a w) (hw : ns.all (fun n => waits md ops n i) = true) :
  ∀ f l a w, (∀ j oj, ops[j]? = some oj → j ≠ i → l.getD j true = false → (∀ e ∈ oj.after, Region.binds md e = true → e.on ≠ i) → oi.apart ops oj = true) →
   i ∈ Region.ready md ops l → YieldsIf P ops S oi v a → S w → AnyG P md ops Q S ns f (l.setIfInBounds i true) (a.put oi.dst v) w → AnyG P md ops Q S ns (f + 1) l a w := by
 intro f
 induction f with
 | zero =>
  intro l a w _ hr hy hS H
  refine ⟨fun h => absurd hr (by rw [h]; simp), fun j hj => ?_⟩
  by_cases c : j = i
  ·subst c; exact hy.wpOp hi hS ⟨fun _ h => h, H⟩
  ·have h1 := ready_mono hj c
   rw [H.1] at h1
   exact absurd h1 (by simp)
 | succ f ih =>
  intro l a w hfree hr hy hS H
  refine ⟨fun h => absurd hr (by rw [h]; simp), fun j hj => ?_⟩
  by_cases c : j = i
  ·subst c; exact hy.wpOp hi hS ⟨fun _ h => h, H⟩
  have hun := (mem_ready.1 hr).1
  have hjn : j ∉ ns := fun e => waits_not (List.all_eq_true.1 hw j e) hun hj
  obtain ⟨hjun, oj, hoj, hall⟩ := mem_ready.1 hj
  have hnot : ∀ e ∈ oj.after, Region.binds md e = true → e.on ≠ i := by
   intro e he hb heq
   have h1 := hall e he hb
   rw [heq] at h1
   rcases Nat.lt_or_ge i l.size with h' | h'
   ·simp [h'] at hun h1; rw [hun] at h1; cases h1
   ·simp [Array.getElem?_eq_none h'] at h1
  have h2 := wpOp_putIf hoj (hfree j oj hoj c hjun hnot) (fun cs b => Region.noSelect_spec hsel i oi cs b hi) (fun cs b => Region.noSelect_spec hsel j oj cs b hoj) hQ hy (H.2 j (ready_mono hj c))
  refine wpOp_mono (fun a' w' h3 => ⟨h3.2.1, ih (l.setIfInBounds j true) a' w' ?_ (ready_mono hr (Ne.symm c)) h3.1 (h3.2.1 hjn hS) ?_⟩) h2
  ·intro k ok hk hki hku hno
   refine hfree k ok hk hki ?_ hno
   by_cases e : j = k
   ·subst e; exact hjun
   ·rw [getD_set_ne true e] at hku; exact hku
  ·rw [Array.setIfInBounds_comm _ _ c]
   exact h3.2.2
theorem AnyG.firstW {i : Nat} {oi : Oper} {v : Value} (hi : ops[i]? = some oi) (hsel : Region.noSelect ops = true) (hQ : ∀ c a w, Q (.panic c) (a.put oi.dst v) w → Q (.panic c) a w) :
  ∀ f l a w, (∀ j oj, ops[j]? = some oj → j ≠ i → l.getD j true = false → (∀ e ∈ oj.after, Region.binds md e = true → e.on ≠ i) → oi.apart ops oj = true) →
   i ∈ Region.ready md ops l → YieldsIf P ops (fun _ => True) oi v a → AnyG P md ops Q S ns f (l.setIfInBounds i true) (a.put oi.dst v) w → AnyG P md ops Q S ns (f + 1) l a w := by
 intro f
 induction f with
 | zero =>
  intro l a w _ hr hy H
  refine ⟨fun h => absurd hr (by rw [h]; simp), fun j hj => ?_⟩
  by_cases c : j = i
  ·subst c; exact hy.wpOp hi trivial ⟨fun _ h => h, H⟩
  ·have h1 := ready_mono hj c
   rw [H.1] at h1
   exact absurd h1 (by simp)
 | succ f ih =>
  intro l a w hfree hr hy H
  refine ⟨fun h => absurd hr (by rw [h]; simp), fun j hj => ?_⟩
  by_cases c : j = i
  ·subst c; exact hy.wpOp hi trivial ⟨fun _ h => h, H⟩
  have hun := (mem_ready.1 hr).1
  obtain ⟨hjun, oj, hoj, hall⟩ := mem_ready.1 hj
  have hnot : ∀ e ∈ oj.after, Region.binds md e = true → e.on ≠ i := by
   intro e he hb heq
   have h1 := hall e he hb
   rw [heq] at h1
   rcases Nat.lt_or_ge i l.size with h' | h'
   ·simp [h'] at hun h1; rw [hun] at h1; cases h1
   ·simp [Array.getElem?_eq_none h'] at h1
  have h2 := wpOp_putIf hoj (hfree j oj hoj c hjun hnot) (fun cs b => Region.noSelect_spec hsel i oi cs b hi) (fun cs b => Region.noSelect_spec hsel j oj cs b hoj) hQ hy (H.2 j (ready_mono hj c))
  refine wpOp_mono (fun a' w' h3 => ⟨h3.2.1, ih (l.setIfInBounds j true) a' w' ?_ (ready_mono hr (Ne.symm c)) h3.1 ?_⟩) h2
  ·intro k ok hk hki hku hno
   refine hfree k ok hk hki ?_ hno
   by_cases e : j = k
   ·subst e; exact hjun
   ·rw [getD_set_ne true e] at hku; exact hku
  ·rw [Array.setIfInBounds_comm _ _ c]
   exact h3.2.2
theorem AnyG.takeW (i : Nat) {oi : Oper} {v : Value} {f : Nat} {l : Array Bool} {a : Act} {w : World} (hi : ops[i]? = some oi) (hs : Region.noSelect ops = true) (hf : Region.free md ops l i = true) (hr : (Region.ready md ops l).contains i = true)
  (hQ : ∀ c a w, Q (.panic c) (a.put oi.dst v) w → Q (.panic c) a w) (hy : ∀ w0, (execOp a.eval oi).run P w0 = .ok (.value v) w0) (hwn : Region.wanted oi (yielded ops a.tmps) = true)
  (h : AnyG P md ops Q S ns f (l.setIfInBounds i true) (a.put oi.dst v) w) : AnyG P md ops Q S ns (f + 1) l a w :=
 AnyG.firstW hi hs hQ f l a w (Region.free_spec hi hf) (by simpa using hr) (.inl ⟨hwn, fun w0 _ => hy w0⟩) h
theorem AnyG.take (i : Nat) {oi : Oper} {v : Value} {f : Nat} {l : Array Bool} {a : Act} {w : World} (hi : ops[i]? = some oi) (hs : Region.noSelect ops = true) (hf : Region.free md ops l i = true) (hr : (Region.ready md ops l).contains i = true) (hw : ns.all (fun n => waits md ops n i) = true)
  (hQ : ∀ c a w, Q (.panic c) (a.put oi.dst v) w → Q (.panic c) a w) (hS : S w) (hy : ∀ w0, S w0 → (execOp a.eval oi).run P w0 = .ok (.value v) w0) (hwn : Region.wanted oi (yielded ops a.tmps) = true)
  (h : AnyG P md ops Q S ns f (l.setIfInBounds i true) (a.put oi.dst v) w) : AnyG P md ops Q S ns (f + 1) l a w :=
 AnyG.first hi hs hQ hw f l a w (Region.free_spec hi hf) (by simpa using hr) (.inl ⟨hwn, hy⟩) hS h
theorem AnyG.tf (i : Nat) {oi : Oper} {v : Value} {f : Nat} {l : Array Bool} {a b : Act} {w : World} (hS : S w) (hi : ops[i]? = some oi) (hy : ∀ w0, S w0 → (execOp a.eval oi).run P w0 = .ok (.value v) w0) (h : AnyG P md ops Q S ns f (l.setIfInBounds i true) b w) (hs : Region.noSelect ops = true := by kernel_rfl) (hf : Region.free md ops l i = true := by kernel_rfl) (hr : (Region.ready md ops l).contains i = true := by kernel_rfl) (hw : ns.all (fun n => waits md ops n i) = true := by kernel_rfl)
  (hQ : ∀ c a w, Q (.panic c) (a.put oi.dst v) w → Q (.panic c) a w := by exact fun _ _ _ h => h) (hwn : Region.wanted oi (yielded ops a.tmps) = true := by rfl) (ha : a.put oi.dst v = b := by first | (simp only [Act.put, yq0, yq1, yq2, yq3, yq4, yq5]; try with_reducible rfl) | with_reducible rfl) : AnyG P md ops Q S ns (f + 1) l a w :=
 AnyG.take i hi hs hf hr hw hQ hS hy hwn (ha ▸ h)
theorem AnyG.tk (i : Nat) {oi : Oper} {v : Value} {f : Nat} {l : Array Bool} {a b : Act} {w : World} (hS : S w) (h : AnyG P md ops Q S ns f (l.setIfInBounds i true) b w) (hi : ops[i]? = some oi := by rfl) (hs : Region.noSelect ops = true := by kernel_rfl) (hf : Region.free md ops l i = true := by kernel_rfl) (hr : (Region.ready md ops l).contains i = true := by kernel_rfl) (hw : ns.all (fun n => waits md ops n i) = true := by kernel_rfl)
  (hQ : ∀ c a w, Q (.panic c) (a.put oi.dst v) w → Q (.panic c) a w := by exact fun _ _ _ h => h) (hy : ∀ w0, S w0 → (execOp a.eval oi).run P w0 = .ok (.value v) w0 := by intro w0 h0; go_simp; try with_reducible rfl) (hwn : Region.wanted oi (yielded ops a.tmps) = true := by rfl) (ha : a.put oi.dst v = b := by first | (simp only [Act.put, yq0, yq1, yq2, yq3, yq4, yq5]; try with_reducible rfl) | with_reducible rfl) : AnyG P md ops Q S ns (f + 1) l a w :=
 AnyG.take i hi hs hf hr hw hQ hS hy hwn (ha ▸ h)
theorem AnyG.one (i : Nat) {o : Oper} {f : Nat} {l : Array Bool} {a : Act} {w : World} (hr : Region.ready md ops l = [i]) (ho : ops[i]? = some o)
  (h : ∀ K : Act → World → Prop, Shut (∀ a' w', (i ∉ ns → S w') → AnyG P md ops Q S ns f (l.setIfInBounds i true) a' w' → K a' w') → if Region.wanted o (yielded ops a.tmps) = true then Oper.wp P o a w K Q else K (a.put o.dst undef) w) :
  AnyG P md ops Q S ns (f + 1) l a w := by
 refine ⟨fun h0 => absurd (hr.symm.trans h0) (by simp), fun j hj => ?_⟩
 rw [hr] at hj
 obtain rfl := List.mem_singleton.1 hj
 exact wpOp_step ho (fun K hK => h K (fun a' w' hS hW => hK a' w' ⟨fun n _ => hS n, hW⟩))
theorem AnyG.o1 (i : Nat) {o : Oper} {f : Nat} {l : Array Bool} {a : Act} {w : World}
  (h : ∀ K : Act → World → Prop, Shut (∀ a' w', (i ∉ ns → S w') → AnyG P md ops Q S ns f (l.setIfInBounds i true) a' w' → K a' w') → if Region.wanted o (yielded ops a.tmps) = true then Oper.wp P o a w K Q else K (a.put o.dst undef) w) (hr : Region.ready md ops l = [i] := by kernel_rfl) (ho : ops[i]? = some o := by rfl) :
  AnyG P md ops Q S ns (f + 1) l a w := AnyG.one i hr ho h
theorem AnyG.two (i j : Nat) {o p : Oper} {f : Nat} {l : Array Bool} {a : Act} {w : World} (hr : Region.ready md ops l = [i, j]) (ho : ops[i]? = some o) (hp : ops[j]? = some p)
  (h : ∀ K : Act → World → Prop, Shut (∀ a' w', (i ∉ ns → S w') → AnyG P md ops Q S ns f (l.setIfInBounds i true) a' w' → K a' w') → if Region.wanted o (yielded ops a.tmps) = true then Oper.wp P o a w K Q else K (a.put o.dst undef) w)
  (h2 : ∀ K : Act → World → Prop, Shut (∀ a' w', (j ∉ ns → S w') → AnyG P md ops Q S ns f (l.setIfInBounds j true) a' w' → K a' w') → if Region.wanted p (yielded ops a.tmps) = true then Oper.wp P p a w K Q else K (a.put p.dst undef) w) :
  AnyG P md ops Q S ns (f + 1) l a w := by
 refine ⟨fun h0 => absurd (hr.symm.trans h0) (by simp), fun k hk => ?_⟩
 rw [hr] at hk
 rcases List.mem_cons.1 hk with rfl | hk
 ·exact wpOp_step ho (fun K hK => h K (fun a' w' hS hW => hK a' w' ⟨fun n _ => hS n, hW⟩))
 ·obtain rfl := List.mem_singleton.1 hk
  exact wpOp_step hp (fun K hK => h2 K (fun a' w' hS hW => hK a' w' ⟨fun n _ => hS n, hW⟩))
theorem AnyG.done {l : Array Bool} {a : Act} {w : World} (hr : Region.ready md ops l = []) (h : Q .normal a w) : ∀ f, AnyG P md ops Q S ns f l a w
 | 0 => ⟨hr, h⟩
 | _ + 1 => ⟨fun _ => h, by rw [hr]; simp⟩
theorem region_g (ns : List Nat) (S : World → Prop) {id : Nat} {a : Act} {w : World} (hm : P.follows .mixedOrders = true) (h : AnyG P .any ops Q S ns ops.size (Array.replicate ops.size false) a w.drew) : (Code.region id ops true).wp P Q a w :=
 wp_region_any hm (AnyG.any _ _ _ _ h)
end
section
variable {P : Program} {ops : Array Oper} {Q : Exit → Act → World → Prop} {md : Region.Mode} {S : World → Prop} {ns : List Nat}
theorem AnyG.skip (i : Nat) {oi : Oper} {f : Nat} {l : Array Bool} {a : Act} {w : World} (hi : ops[i]? = some oi) (hs : Region.noSelect ops = true) (hf : Region.free md ops l i = true) (hr : (Region.ready md ops l).contains i = true) (hw : ns.all (fun n => waits md ops n i) = true)
  (hQ : ∀ c a w, Q (.panic c) (a.put oi.dst undef) w → Q (.panic c) a w) (hS : S w) (hwn : Region.wanted oi (yielded ops a.tmps) = false)
  (h : AnyG P md ops Q S ns f (l.setIfInBounds i true) (a.put oi.dst undef) w) : AnyG P md ops Q S ns (f + 1) l a w :=
 AnyG.first hi hs hQ hw f l a w (Region.free_spec hi hf) (by simpa using hr) (.inr ⟨hwn, rfl⟩) hS h
theorem AnyG.sk (i : Nat) {oi : Oper} {f : Nat} {l : Array Bool} {a b : Act} {w : World} (hS : S w) (h : AnyG P md ops Q S ns f (l.setIfInBounds i true) b w) (hi : ops[i]? = some oi := by rfl) (hs : Region.noSelect ops = true := by kernel_rfl) (hf : Region.free md ops l i = true := by kernel_rfl) (hr : (Region.ready md ops l).contains i = true := by kernel_rfl) (hw : ns.all (fun n => waits md ops n i) = true := by kernel_rfl)
  (hQ : ∀ c a w, Q (.panic c) (a.put oi.dst undef) w → Q (.panic c) a w := by exact fun _ _ _ h => h) (hwn : Region.wanted oi (yielded ops a.tmps) = false := by rfl) (ha : a.put oi.dst undef = b := by first | (simp only [Act.put, yq0, yq1, yq2, yq3, yq4, yq5]; try with_reducible rfl) | with_reducible rfl) : AnyG P md ops Q S ns (f + 1) l a w :=
 AnyG.skip i hi hs hf hr hw hQ hS hwn (ha ▸ h)
end
end Go.Proofs.YtfnkklkdajlhlaaGreatDoor
namespace Go.Proofs.YtfnkklkdajlhlaaGreatDoor
open Go.RowKit
namespace Ap
theorem owns_below {w w' : World} {base e n : Nat} {v : Value} {vs : List Value} (h : w.ownsRow base e 1 v n vs) (hb : Below w.heap.size w w') : w'.ownsRow base e 1 v n vs := by
 obtain ⟨h1, h2 | ⟨g, cap, cur, e1, e2, hh, r⟩⟩ := h
 ·exact ⟨h1, .inl h2⟩
 ·exact ⟨h1, .inr ⟨g, cap, cur, e1, e2, (hb.block g ((Array.getElem?_eq_some_iff.1 hh).1)).trans hh, r⟩⟩
theorem owns_shape {w : World} {base e n : Nat} {v : Value} {vs : List Value} (h : w.ownsRow base e 1 v n vs) : ∃ ao cap, v = .slice ao n cap ∧ n ≤ cap ∧ (∀ k, v.ownBlock = some k → base ≤ k ∧ k < w.heap.size) := by
 have hl := h.lt
 obtain ⟨h1, ⟨rfl, rfl⟩ | ⟨g, cap, cur, rfl, e2, hh, r, _⟩⟩ := h
 ·exact ⟨none, 0, rfl, Nat.le_refl _, hl⟩
 ·exact ⟨some ⟨g, 0, none⟩, cap, rfl, r, hl⟩
theorem run_append_zero (w : World) (base : Nat) (t ty e : TypeId) (i : TypeInfo) (size : Nat) (ht : Tryz.prog.underlying t = some (.slice e)) (hi : Tryz.prog.info? e = some i)
  (v : Value) (n : Nat) (vs : List Value) (hown : w.ownsRow base e size v n vs) (xa : Option Addr) (c : Nat) :
  (Builtin.append_ #[t, t] ty #[v, .slice xa 0 c]).run Tryz.prog w = .ok v w := by
 have hc := fun ad : Addr => run_firstCells_some (P := Tryz.prog) w i.size 0 ad 0 c [] (by simp) (by simp)
 rcases hown.2 with ⟨rfl, rfl⟩ | ⟨g, cap, cur, rfl, _, _, hnc, _⟩
 ·cases xa with
  | none => simp [Builtin.append_, run_underlying ht, sizeOf, typeInfo, hi, Builtin.lenOf, Builtin.firstCells]
  | some ad => simp [Builtin.append_, run_underlying ht, sizeOf, typeInfo, hi, Builtin.lenOf, hc]
 ·cases xa with
  | none => simp [Builtin.append_, run_underlying ht, sizeOf, typeInfo, hi, Builtin.lenOf, Builtin.firstCells, hnc, storeCells]
  | some ad => simp [Builtin.append_, run_underlying ht, sizeOf, typeInfo, hi, Builtin.lenOf, hc, hnc, storeCells]
theorem step_append_u {ops : Array Oper} {o : Oper} {a : Act} {w : World} {K : Act → World → Prop} {Q : Exit → Act → World → Prop} {E : Prop} (hgd : o.guard = none) (s x : Operand) (t : TypeId)
  (ho : o.op = .call { callee := .builtin .append, args := #[s, x], argTypes := #[t, t] })
  (base : Nat) (e : TypeId) (i : TypeInfo) (z : Value) (bytes : Nat) (ht : Tryz.prog.underlying t = some (.slice e)) (hi : Tryz.prog.info? e = some i) (hz : i.zero = some z)
  (hsize : i.size = 1) (hby : i.bytes = bytes) (hzs : z.cells.size = 1)
  (v : Value) (n : Nat) (vs : List Value) (hs : a.eval s = v) (hown : w.ownsRow base e 1 v n vs)
  (xa : Option Addr) (m c : Nat) (news : List Value) (hx : a.eval x = .slice xa m c) (hl : news.length = m) (hsrc : 0 < m → ∃ ad, xa = some ad ∧ ∀ j u, news[j]? = some u → w.cell? (ad.add j) = some u) (h1 : ∀ u ∈ news, u.oneCell' = true)
  (h63 : n + m ≤ maxLen) (hbytes : (n + m) * bytes ≤ 140737488355328) (hbase : base ≤ w.heap.size)
  (h : ∀ ao cap w', w'.ownsRow base e 1 (.slice ao (n + m) cap) (n + m) (vs ++ news) → n + m ≤ cap → Below base w w' → (∀ k, (Value.slice ao (n + m) cap).ownBlock = some k → (v.ownBlock = some k ∨ k = w.heap.size) ∧ k < w'.heap.size) → (∀ k, k < w.heap.size → v.ownBlock ≠ some k → w'.heap[k]? = w.heap[k]?) → w.heap.size ≤ w'.heap.size → K (a.put o.dst (.slice ao (n + m) cap)) w') :
  if Region.wanted o (yielded ops a.tmps) = true then Oper.wp Tryz.prog o a w K Q else E := by
 have hw : Region.wanted o (yielded ops a.tmps) = true := by simp [Region.wanted, hgd]
 rw [if_pos hw]
 by_cases hm : m = 0
 ·subst hm
  have hn : news = [] := List.eq_nil_of_length_eq_zero hl
  subst hn
  have hr := run_append_zero w base t o.type e i 1 ht hi v n vs hown xa c
  obtain ⟨ao, cap, rfl, hc, hk⟩ := owns_shape hown
  unfold Oper.wp execOp
  simp only [ho, resolve, invoke, builtin, Sem.run_bind, Sem.run_pure, Result.andThen_ok, List.map_toArray, List.map_cons, List.map_nil, hs, hx, hr]
  refine h ao cap w (by simpa using hown) hc (Below.refl _ _) (fun k e => ⟨.inl e, (hk k e).2⟩) (fun _ _ _ => rfl) (Nat.le_refl _)
 ·obtain ⟨ad, rfl, hn⟩ := hsrc (by omega)
  refine wp_append_lies w s x t ho base e i z 1 bytes ht hi hz hsize hby hzs (by decide) v n vs hs hown ad m c news hx (by omega) hn h1 (by omega) h63 hbytes hbase w.heap.size rfl ?_
  intro g cap w' o1 o2 o3 o4
  refine h (some ⟨g, 0, none⟩) cap w' o1 ?_ ?_ ?_ ?_ o2.size
  ·obtain ⟨_, h | ⟨g', cap', cur, e', _, hh, hle, _⟩⟩ := o1
   ·simp at h
   ·simp only [Value.slice.injEq] at e'
    omega
  ·exact (Below.refl _ _).grown o2 hbase (fun k hk => (hown.lt k hk).1)
  ·intro k hk
   simp only [Value.ownBlock, Option.some.injEq] at hk
   subst hk
   exact ⟨o3, o4⟩
  ·intro k hk hne
   exact o2.block k hk (fun q => hne q.symm)
theorem wpList_append_u {ops : Array Oper} {rest : List Oper} {o : Oper} {a : Act} {w : World} {Q : Exit → Act → World → Prop} (hgd : o.guard = none) (s x : Operand) (t : TypeId)
  (ho : o.op = .call { callee := .builtin .append, args := #[s, x], argTypes := #[t, t] })
  (base : Nat) (e : TypeId) (i : TypeInfo) (z : Value) (bytes : Nat) (ht : Tryz.prog.underlying t = some (.slice e)) (hi : Tryz.prog.info? e = some i) (hz : i.zero = some z)
  (hsize : i.size = 1) (hby : i.bytes = bytes) (hzs : z.cells.size = 1)
  (v : Value) (n : Nat) (vs : List Value) (hs : a.eval s = v) (hown : w.ownsRow base e 1 v n vs)
  (xa : Option Addr) (m c : Nat) (news : List Value) (hx : a.eval x = .slice xa m c) (hl : news.length = m) (hsrc : 0 < m → ∃ ad, xa = some ad ∧ ∀ j u, news[j]? = some u → w.cell? (ad.add j) = some u) (h1 : ∀ u ∈ news, u.oneCell' = true)
  (h63 : n + m ≤ maxLen) (hbytes : (n + m) * bytes ≤ 140737488355328) (hbase : base ≤ w.heap.size)
  (h : ∀ ao cap w', w'.ownsRow base e 1 (.slice ao (n + m) cap) (n + m) (vs ++ news) → n + m ≤ cap → Below base w w' → wpList Tryz.prog ops Q rest (a.put o.dst (.slice ao (n + m) cap)) w') : wpList Tryz.prog ops Q (o :: rest) a w :=
 wpList_plain hgd fun K hK => by
  have hw : Region.wanted o (yielded ops a.tmps) = true := by simp [Region.wanted, hgd]
  have := step_append_u (ops := ops) (o := o) (a := a) (w := w) (K := K) (Q := Q) (E := True) hgd s x t ho base e i z bytes ht hi hz hsize hby hzs v n vs hs hown xa m c news hx hl hsrc h1 h63 hbytes hbase (fun ao cap w' h1 h2 h3 _ _ _ => hK _ _ (h ao cap w' h1 h2 h3))
  rw [if_pos hw] at this
  exact this
def Apart (u v : Value) : Prop := ∀ k, u.ownBlock = some k → v.ownBlock ≠ some k
theorem Apart.symm {u v : Value} (h : Apart u v) : Apart v u := fun k hk hu => h k hu hk
theorem apart_nil (v : Value) : Apart v (.slice none 0 0) := fun k _ h => by cases h
theorem owns_other {w w' : World} {base e n : Nat} {v u : Value} {vs : List Value} (h : w.ownsRow base e 1 v n vs) (hkeep : ∀ k, k < w.heap.size → u.ownBlock ≠ some k → w'.heap[k]? = w.heap[k]?) (ha : Apart v u) : w'.ownsRow base e 1 v n vs := by
 have hl := h.lt
 obtain ⟨h1, h2 | ⟨g, cap, cur, e1, e2, hh, r⟩⟩ := h
 ·exact ⟨h1, .inl h2⟩
 ·subst e1
  exact ⟨h1, .inr ⟨g, cap, cur, rfl, e2, (hkeep g (hl g rfl).2 (ha g rfl)).trans hh, r⟩⟩
theorem apart_new {w w' : World} {base e n : Nat} {v u u' : Value} {vs : List Value} (h : w.ownsRow base e 1 v n vs) (hn : ∀ k, u'.ownBlock = some k → (u.ownBlock = some k ∨ k = w.heap.size) ∧ k < w'.heap.size) (ha : Apart v u) : Apart v u' := by
 intro k hk hu
 rcases (hn k hu).1 with c | c
 ·exact ha k hk c
 ·have := (h.lt k hk).2
  omega
theorem wpList_append_x {ops : Array Oper} {rest : List Oper} {o : Oper} {a : Act} {w : World} {Q : Exit → Act → World → Prop} (hgd : o.guard = none) (s x : Operand) (t : TypeId)
  (ho : o.op = .call { callee := .builtin .append, args := #[s, x], argTypes := #[t, t] })
  (base : Nat) (e : TypeId) (i : TypeInfo) (z : Value) (bytes : Nat) (ht : Tryz.prog.underlying t = some (.slice e)) (hi : Tryz.prog.info? e = some i) (hz : i.zero = some z)
  (hsize : i.size = 1) (hby : i.bytes = bytes) (hzs : z.cells.size = 1)
  (v : Value) (n : Nat) (vs : List Value) (hs : a.eval s = v) (hown : w.ownsRow base e 1 v n vs)
  (xa : Option Addr) (m c : Nat) (news : List Value) (hx : a.eval x = .slice xa m c) (hl : news.length = m) (hsrc : 0 < m → ∃ ad, xa = some ad ∧ ∀ j u, news[j]? = some u → w.cell? (ad.add j) = some u) (h1 : ∀ u ∈ news, u.oneCell' = true)
  (h63 : n + m ≤ maxLen) (hbytes : (n + m) * bytes ≤ 140737488355328) (hbase : base ≤ w.heap.size)
  (h : ∀ ao cap w', w'.ownsRow base e 1 (.slice ao (n + m) cap) (n + m) (vs ++ news) → n + m ≤ cap → Below base w w' → (∀ k, (Value.slice ao (n + m) cap).ownBlock = some k → (v.ownBlock = some k ∨ k = w.heap.size) ∧ k < w'.heap.size) → (∀ k, k < w.heap.size → v.ownBlock ≠ some k → w'.heap[k]? = w.heap[k]?) → w.heap.size ≤ w'.heap.size → wpList Tryz.prog ops Q rest (a.put o.dst (.slice ao (n + m) cap)) w') : wpList Tryz.prog ops Q (o :: rest) a w :=
 wpList_plain hgd fun K hK => by
  have hw : Region.wanted o (yielded ops a.tmps) = true := by simp [Region.wanted, hgd]
  have := step_append_u (ops := ops) (o := o) (a := a) (w := w) (K := K) (Q := Q) (E := True) hgd s x t ho base e i z bytes ht hi hz hsize hby hzs v n vs hs hown xa m c news hx hl hsrc h1 h63 hbytes hbase (fun ao cap w' h1 h2 h3 h4 h5 h6 => hK _ _ (h ao cap w' h1 h2 h3 h4 h5 h6))
  rw [if_pos hw] at this
  exact this
end Ap
end Go.Proofs.YtfnkklkdajlhlaaGreatDoor
namespace Go.Proofs.YtfnkklkdajlhlaaGreatDoor
open Go.RowKit Num Bit
def iv (l : List Int) : List Value := l.map fun n : Int => Value.int .i64 n
theorem length_iv (l : List Int) : (iv l).length = l.length := by simp [iv]
theorem iv_snoc (l : List Int) (v : Int) : iv l ++ [.int .i64 v] = iv (l ++ [v]) := by simp [iv]
theorem iv_get (l : List Int) (i : Nat) (h : i < l.length) : (iv l)[i]? = some (.int .i64 (gi l i)) := by
 unfold iv
 rw [List.getElem?_map, gi_get l i h]; rfl
theorem supP_succ (N : Int) (xs : List Nat) (q : Nat) : supP N xs (q + 1) = supP N xs q ++ [supI N xs q] := by
 unfold supP; rw [List.range_succ, List.map_append]; rfl
theorem nd_own {w : World} {base n c : Nat} {ao : Option Addr} {l : List Int} (h : w.ownsRow base 3 1 (.slice ao n c) n (iv l)) : Nd w ao l := by
 intro h0
 have hlen : (iv l).length = n * 1 := h.1
 rw [length_iv] at hlen
 have hk := fun k hk => h.lt k hk
 have hc := fun g hg => h.cells (g := g) hg
 obtain ⟨_, ⟨e, e2⟩ | ⟨g, cap, cur, e, _⟩⟩ := h
 ·omega
 ·simp only [Value.slice.injEq] at e
  obtain ⟨rfl, _, rfl⟩ := e
  refine ⟨g, 0, rfl, (hk g rfl).2, fun i hi => ?_⟩
  rw [← hc g rfl i _ (iv_get l i hi)]
  unfold Addr.add
  split
  ·subst_vars; rfl
  ·simp
theorem owns_set {w : World} {base e n : Nat} {v u : Value} {vs : List Value} {a : Addr} (h : w.ownsRow base e 1 v n vs) (ha : a.block < base) : (w.setCell a u).ownsRow base e 1 v n vs := by
 obtain ⟨h1, h2 | ⟨g, cap, cur, e1, e2, hh, r⟩⟩ := h
 ·exact ⟨h1, .inl h2⟩
 ·exact ⟨h1, .inr ⟨g, cap, cur, e1, e2, (Below.heap_setCell w a u g (by omega)).trans hh, r⟩⟩
def Sup (w : World) (bs : Nat) (l : List Int) : Prop := ∀ i, i < l.length → w.cell? ⟨bs, i, none⟩ = some (.int .i64 (gi l i))
theorem below_set {base : Nat} {w w' : World} (h : Below base w w') (b i : Nat) (v : Value) (hb : base ≤ b) : Below base w (w'.setCell ⟨b, i, none⟩ v) := h.setCell hb _
theorem Hid.mk' {p : Prop} (h : p) : Hid p := h
structure BI (w wr : World) (m n cap : Nat) (ao : Option Addr) (g : Nat) (sv tv : Value) : Prop where
 b1 : Cel wr w.heap.size [.int .i64 m, .slice ao n cap] 33
 b2 : Cel wr (w.heap.size + 1) [.int .i64 0, .slice none 0 0, .slice none 0 0, .slice none 0 0] 37
 bx : Cel wr g [.int .i64 m, .slice ao n cap, sv, tv] 37
 hg : w.heap.size + 1 < g
 hw : Below w.heap.size w wr
end Go.Proofs.YtfnkklkdajlhlaaGreatDoor
