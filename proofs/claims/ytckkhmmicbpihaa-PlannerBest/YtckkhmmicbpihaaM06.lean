/-
  Plain: sums over all symbols, and over those that stand: costs, and what lengths need. What the document's Lengths and Cost are told by (out of huff's templates Jg, Jk, Jo, Kf). The contracts of the document's counted and Cost. The contracts of the document's total and rows. The contracts of the document's worst and block.
-/
import Derived.Test.YtckkhmmicbpihaaM05
import Derived.Test.YtckkhmmicbpihaaM04
import Derived.Test.YtckkhmmicbpihaaM03
import Derived.Test.YtckkhmmicbpihaaM01
import Derived.Deep.WholeRow
import Derived.Laws.ResultCell
namespace Go.Proofs.Ytckkhmmicbpihaa.Hv
open Hm Hn Ho Hp Hr

def tot (f : Nat → Nat) : Nat → Nat
  | 0 => 0
  | k + 1 => tot f k + f k
theorem used_succ (cnt : Nat → Nat) (k : Nat) : used cnt (k + 1) = used cnt k ++ (if 0 < cnt k then [k] else []) := by
  unfold used
  rw [List.range_succ, List.filter_append]
  congr 1
  by_cases h : 0 < cnt k
  · rw [if_pos h]
    simp [h]
  · rw [if_neg h]
    simp [h]
theorem sum_used (cnt f : Nat → Nat) (k : Nat) : ((used cnt (k + 1)).map f).sum = ((used cnt k).map f).sum + (if 0 < cnt k then f k else 0) := by
  rw [used_succ, List.map_append, List.sum_append]
  split <;> simp
theorem tot_used (cnt D : Nat → Nat) (k : Nat) : tot (fun c => cnt c * D c) k = ((used cnt k).map fun c => cnt c * D c).sum := by
  induction k with
  | zero => rfl
  | succ k ih =>
    rw [sum_used, tot, ih]
    by_cases h : 0 < cnt k
    · rw [if_pos h]
    · rw [if_neg h, show cnt k = 0 by omega, Nat.zero_mul]
theorem used_need (cnt o : Nat → Nat) (k : Nat) (h : ∀ c ∈ used cnt k, 0 < o c) : ((used cnt k).map fun c => 2 ^ (40 - o c)).sum ≤ need o (fun _ => true) k := by
  induction k with
  | zero => exact Nat.le_refl _
  | succ k ih =>
    have h1 := ih (fun c hc => h c (by rw [used_succ]; exact List.mem_append_left _ hc))
    have tp := Nat.two_pow_pos (40 - o k)
    rw [sum_used]
    unfold need
    by_cases g : 0 < cnt k
    · have := h k (mem_used.2 ⟨by omega, g⟩)
      rw [if_pos g, if_pos ⟨this, rfl⟩]
      omega
    · rw [if_neg g]
      split <;> omega
theorem need_used (cnt D : Nat → Nat) (k : Nat) (h : ∀ c, c < k → (0 < D c ↔ 0 < cnt c)) : need D (fun _ => true) k = ((used cnt k).map fun c => 2 ^ (40 - D c)).sum := by
  induction k with
  | zero => rfl
  | succ k ih =>
    rw [sum_used, need, ih (fun c hc => h c (by omega))]
    congr 1
    by_cases g : 0 < cnt k
    · rw [if_pos g, if_pos ⟨(h k (by omega)).2 g, rfl⟩]
    · rw [if_neg g, if_neg (fun e => g ((h k (by omega)).1 e.1))]
theorem need_fine {cnt D : Nat → Nat} {k : Nat} (F : Fine cnt k D) : need D (fun _ => true) k = 2 ^ 40 := by
  rw [need_used cnt D k, F.sum]
  intro c hc
  constructor
  · intro h
    refine Nat.pos_of_ne_zero fun e => ?_
    have := F.none c (fun g => by have := (mem_used.1 g).2; omega)
    omega
  · intro h
    exact (F.some c (mem_used.2 ⟨hc, h⟩)).1
/-- No lengths that fit cost less: over all symbols. -/
theorem best_all (cnt : Nat → Nat) (k : Nat) (hk : k ≤ 256) (hB : ∀ c, cnt c ≤ 1048576) (o : Nat → Nat) (ho : ∀ c, c < k → 0 < cnt c → 0 < o c) (h40 : ∀ c, c < k → o c ≤ 40) (hs : need o (fun _ => true) k ≤ 2 ^ 40) :
    tot (fun c => cnt c * hlen cnt k c) k ≤ tot (fun c => cnt c * o c) k := by
  have hu : ∀ c ∈ used cnt k, 1 ≤ o c ∧ o c ≤ 40 := fun c hc => by
    have := mem_used.1 hc
    exact ⟨ho c this.1 this.2, h40 c this.1⟩
  rw [tot_used, tot_used]
  exact no_less cnt k hk hB o hu (Nat.le_trans (used_need cnt o k (fun c hc => (hu c hc).1)) hs)
end Go.Proofs.Ytckkhmmicbpihaa.Hv

namespace Go.Proofs.Ytckkhmmicbpihaa
open Go.RowKit Num Hp
set_option linter.unusedVariables false
set_option linter.unusedSimpArgs false
set_option maxRecDepth 100000
def bad (top n : Int) : Bool := decide (n < 0) || decide (top < n)
theorem gi_mem {l : List Int} {i : Nat} (h : i < l.length) : gi l i ∈ l := by
  unfold gi
  rw [List.getD_eq_getElem?_getD, List.getElem?_eq_getElem h]
  exact List.getElem_mem h
theorem any_true {l : List Int} {top : Int} {i : Nat} (h : i < l.length) (hb : bad top (gi l i) = true) : l.any (bad top) = true := List.any_eq_true.2 ⟨_, gi_mem h, hb⟩
theorem any_false {l : List Int} {top : Int} (h : ∀ i, i < l.length → bad top (gi l i) = false) : l.any (bad top) = false := by
  refine Bool.eq_false_iff.2 fun e => ?_
  obtain ⟨x, hx, hb⟩ := List.any_eq_true.1 e
  obtain ⟨i, hi, rfl⟩ := List.mem_iff_getElem.1 hx
  have := h i hi
  unfold gi at this
  rw [List.getD_eq_getElem?_getD, List.getElem?_eq_getElem hi] at this
  rw [show (some l[i]).getD 0 = l[i] from rfl, hb] at this
  cases this
/-- 256 of them, each from 0 to top. -/
def win (l : List Int) (top : Int) : Bool := decide (l.length = 256) && !l.any (bad top)
/-- The counts as numbers. -/
def cntOf (l : List Int) (c : Nat) : Nat := (gi l c).toNat
/-- Numbers as cells. -/
def ivh (l : List Nat) : List Value := l.map fun n : Nat => Value.int .i64 (n : Int)
theorem length_ivh (l : List Nat) : (ivh l).length = l.length := by simp [ivh]
theorem ivh_get (l : List Nat) (i : Nat) (h : i < l.length) : (ivh l)[i]? = some (.int .i64 (l.getD i 0 : Nat)) := by
  unfold ivh
  rw [List.getElem?_map, List.getElem?_eq_getElem h, List.getD_eq_getElem?_getD, List.getElem?_eq_getElem h]
  rfl
theorem ivh_set (l : List Nat) (i v : Nat) : (ivh l).set i (.int .i64 (v : Nat)) = ivh (l.set i v) := by simp [ivh, List.map_set]
theorem info_i64 : (Try.prog.info? 3).map (fun i => (i.zero, i.size, i.bytes)) = some (some (.int .i64 0), 1, 8) := by kernel_rfl
theorem cel_made1 {w : World} {base g n : Nat} (h : w.ownsRow base 3 1 (.slice (some ⟨g, 0, none⟩) n n) n (madeCells #[.int .i64 0] n).toList) : Cel w g (ivh (List.replicate n 0)) 3 := by
  obtain ⟨_, h | ⟨g', cap, cur, e, _, hh, _, _, hs, ht⟩⟩ := h
  · simp at h
  · simp only [Value.slice.injEq, Option.some.injEq, Addr.mk.injEq] at e
    obtain ⟨⟨rfl, _, _⟩, _, rfl⟩ := e
    unfold Cel
    rw [hh]
    have e2 : (madeCells #[.int .i64 0] n).toList = ivh (List.replicate n 0) := by
      rw [toList_madeCells_one (.int .i64 0) n, ivh, List.map_replicate]
      rfl
    rw [e2] at ht
    have e3 : cur.toList.take (n * 1) = cur.toList := List.take_of_length_le (by simp; omega)
    rw [e3] at ht
    rw [← ht]
/-- The lengths of counts. -/
def hls (l : List Int) : List Nat := (List.range 256).map (hlen (cntOf l) 256)
theorem win_len {l : List Int} {top : Int} (h : win l top = true) : l.length = 256 ∧ ∀ i, i < l.length → 0 ≤ gi l i ∧ gi l i ≤ top := by
  unfold win at h
  simp only [Bool.and_eq_true, decide_eq_true_eq, Bool.not_eq_true'] at h
  refine ⟨h.1, fun i hi => ?_⟩
  have := Bool.eq_false_iff.1 h.2
  have hb : ¬ bad top (gi l i) = true := fun e => this (any_true hi e)
  unfold bad at hb
  simp only [Bool.or_eq_true, decide_eq_true_eq] at hb
  omega
theorem cntI_le {l : List Int} (h : ∀ i, i < l.length → 0 ≤ gi l i ∧ gi l i ≤ 1048576) (c : Nat) : cntOf l c ≤ 1048576 := by
  unfold cntOf
  by_cases g : c < l.length
  · have := h c g; omega
  · have : gi l c = 0 := by unfold gi; rw [List.getD_eq_getElem?_getD, List.getElem?_eq_none (by omega)]; rfl
    omega
/-- A new row of 256 numbers. -/
def LO (w : World) (ys : List Nat) (e : Ending) (w' : World) : Prop := ∃ g, e = .returned (.tuple #[.slice (some ⟨g, 0, none⟩) 256 256, .int .i64 0]) ∧ Cel w' g (ivh ys) 3 ∧ w.heap.size ≤ g ∧ Below w.heap.size w w'
theorem LO.mk {w : World} {ys : List Nat} {e : Ending} {w' : World} (g : Nat) (h1 : e = .returned (.tuple #[.slice (some ⟨g, 0, none⟩) 256 256, .int .i64 0])) (h2 : Cel w' g (ivh ys) 3) (h3 : w.heap.size ≤ g) (h4 : Below w.heap.size w w') : LO w ys e w' := ⟨g, h1, h2, h3, h4⟩
/-- What counts cost at these lengths. -/
def costv (c l : List Int) : Nat := if win c 1048576 && win l 40 then Hv.tot (fun i => cntOf c i * cntOf l i) 256 else 0
end Go.Proofs.Ytckkhmmicbpihaa

namespace Go.Proofs.Ytckkhmmicbpihaa
open Go.RowKit Num Hp
set_option linter.unusedVariables false
set_option linter.unusedSimpArgs false
set_option maxRecDepth 100000

theorem bad_neg {top x : Int} (h : x < 0) : bad top x = true := by unfold bad; simp [h]
theorem bad_gt {top x : Int} (h : top < x) : bad top x = true := by unfold bad; simp [h]
theorem bad_no {top x : Int} (h : ¬ x < 0) (h2 : ¬ top < x) : bad top x = false := by unfold bad; simp [h, h2]
theorem win_bad {l : List Int} {top : Int} {i : Nat} (h : i < l.length) (hb : bad top (gi l i) = true) : win l top = false := by
  unfold win; rw [any_true h hb]; simp
theorem win_fine {l : List Int} {top : Int} (h : ∀ i, i < l.length → bad top (gi l i) = false) : win l top = decide (l.length = 256) := by
  unfold win; rw [any_false h]; simp
theorem more_fine {l : List Int} {top : Int} {k : Nat} (H : ∀ j, j < k → bad top (gi l j) = false) (h : bad top (gi l k) = false) : ∀ j, j < k + 1 → bad top (gi l j) = false := fun j hj => by
  by_cases e : j = k
  · subst e; exact h
  · exact H j (by omega)
set_option maxHeartbeats 2000000 in
theorem rcnt_c (ao : Option Addr) (l : List Int) (cap : Nat) (w : World) (hx : Nd w ao l) (hl : l.length ≤ 1048576) :
    Calls Try.prog 73 #[.slice ao l.length cap] w fun e w' => e = .returned (.bool (win l 1048576)) ∧ Below w.heap.size w w' := by
  go_enter Try.func73, Try.ntmps73
  go_wp2
  go_loopw [3] (fun i wr => ∃ k : Nat, k ≤ l.length ∧ i = .int .i64 k ∧ Hid (∀ j, j < k → bad 1048576 (gi l j) = false) ∧ Hid (Below w.heap.size w wr)) (fun i _ => l.length - (intOf i).toNat)
  case atStart => exact ⟨0, by omega, rfl, fun j hj => absurd hj (by omega), Below.refl _ _⟩
  case round =>
    obtain ⟨k, hk, rfl, H, hw⟩ := hrel
    by_cases hlt : k < l.length
    · obtain ⟨b, off, rfl, hb, hcc⟩ := hx (by omega)
      have e1 := (hw.out.cell (p := ⟨b, off + k, none⟩) hb).trans (hcc k hlt)
      have hltz : (k : Int) < (l.length : Int) := by omega
      clear hcc
      by_cases h1 : gi l k < 0
      · have HR := hide (win_bad hlt (bad_neg (top := 1048576) h1))
        generalize gi l k = x at *
        go_wp2
        go_ret
        rw [HR.out]
        exact ⟨rfl, hw.out⟩
      · by_cases h2 : (1048576 : Int) < gi l k
        · have HR := hide (win_bad hlt (bad_gt h2))
          generalize gi l k = x at *
          go_wp2
          go_ret
          rw [HR.out]
          exact ⟨rfl, hw.out⟩
        · have HN := hide (more_fine H.out (bad_no h1 h2))
          generalize gi l k = x at *
          go_wp2
          exact ⟨⟨k + 1, by omega, by go_num, HN, hw⟩, by simp only [intOf]; omega⟩
    · obtain rfl : k = l.length := by omega
      have HR : Hid (((l.length : Int) == 256) = win l 1048576) := by
        show _ = win l 1048576
        rw [win_fine H.out, Bool.eq_iff_iff]
        simp
        omega
      go_wp2
      go_ret
      exact ⟨ret_bool HR.out, hw.out⟩

theorem tot_step (a b : Nat → Nat) (q : Nat) : Hv.tot (fun i => a i * b i) (q + 1) = Hv.tot (fun i => a i * b i) q + a q * b q := rfl
set_option maxHeartbeats 4000000 in
theorem rcost_c (ao : Option Addr) (c : List Int) (cap : Nat) (bo : Option Addr) (l : List Int) (dap : Nat) (w : World) (hx : Nd w ao c) (hy : Nd w bo l) (hc : c.length ≤ 1048576) (hl : l.length ≤ 1048576) :
    Calls Try.prog 55 #[.slice ao c.length cap, .slice bo l.length dap] w fun e w' => e = .returned (.int .i64 (costv c l : Nat)) ∧ Below w.heap.size w w' := by
  have C1 := hide (rcnt_c ao c cap w hx hc)
  cases k1 : win c 1048576 with
  | false =>
    have R : Hid (costv c l = 0) := by show costv c l = 0; unfold costv; rw [k1]; rfl
    rw [k1] at C1
    clear hx hy k1
    go_enter Try.func55, Try.ntmps55
    go_wp2_with fail
    refine (C1.out).mono ?_
    rintro e w1 ⟨rfl, hb⟩
    go_wp2
    go_ret
    rw [R.out]
    exact ⟨rfl, hb⟩
  | true =>
    rw [k1] at C1
    by_cases k2 : l.length = 256
    · have k2z : ((l.length : Int) != 256) = false := by simp; omega
      obtain ⟨c256, cb⟩ := win_len k1
      obtain ⟨A, hA⟩ : ∃ A, Hid (A = cntOf c) := ⟨_, rfl⟩
      have TA : ∀ i, A i ≤ 1048576 := by rw [hA.out]; exact cntI_le cb
      have HTA := hide TA
      obtain ⟨b, off, rfl, hbw, hcc⟩ := hx (by omega)
      obtain ⟨b2, off2, rfl, hbw2, hcc2⟩ := hy (by omega)
      have HCC : Hid (∀ i, i < 256 → w.cell? ⟨b, off + i, none⟩ = some (.int .i64 (A i : Nat))) := fun i hi => by
        have h1 := hcc i (by omega)
        have h2 := cb i (by omega)
        rw [hA.out]
        unfold cntOf
        rw [h1]
        congr 2
        omega
      have HCD : Hid (∀ i, i < 256 → w.cell? ⟨b2, off2 + i, none⟩ = some (.int .i64 (gi l i))) := fun i hi => hcc2 i (by omega)
      have HK1 := hide k1
      have HK2 := hide k2
      have hcl : c.length ≤ 256 := by omega
      have hcg : 256 ≤ c.length := by omega
      have hlg : 256 ≤ l.length := by omega
      clear hcc hcc2 cb TA k1 k2 c256 hx hy
      go_enter Try.func55, Try.ntmps55
      go_wp2_with fail
      refine (C1.out).mono ?_
      rintro e w1 ⟨rfl, hb⟩
      have HB3 := hide hb
      clear hb C1
      go_wp2
      go_loopw [5, 6] (fun vs vi wr => ∃ (q s : Nat), q ≤ 256 ∧ s ≤ q * 41943040 ∧ vi = .int .i64 q ∧ vs = .int .i64 s ∧ Hid (s = Hv.tot (fun i => A i * cntOf l i) q) ∧ Hid (∀ j, j < q → bad 40 (gi l j) = false) ∧ Hid (Below w.heap.size w wr)) (fun _ vi _ => 256 - (intOf vi).toNat)
      case atStart => exact ⟨0, 0, Nat.zero_le _, Nat.zero_le _, rfl, rfl, rfl, fun j hj => absurd hj (by omega), HB3⟩
      case round =>
        clear HB3
        obtain ⟨q, s, hq, hs, rfl, rfl, HI, H, HB⟩ := hrel
        by_cases hlt : q < 256
        · have hltz : (q : Int) < (256 : Int) := by omega
          have hlt1 : (q : Int) < (c.length : Int) := by omega
          have hlt2 : (q : Int) < (l.length : Int) := by omega
          have e1 := (HB.out.cell (p := ⟨b, off + q, none⟩) hbw).trans (HCC.out q (by omega))
          have e2 := (HB.out.cell (p := ⟨b2, off2 + q, none⟩) hbw2).trans (HCD.out q (by omega))
          by_cases h1 : gi l q < 0
          · have HR : Hid (costv c l = 0) := by show costv c l = 0; unfold costv; rw [win_bad (i := q) (by omega) (bad_neg (top := 40) h1)]; simp
            generalize gi l q = x at *
            go_wp2
            go_ret
            rw [HR.out]
            exact ⟨rfl, HB.out⟩
          · by_cases h2 : (40 : Int) < gi l q
            · have HR : Hid (costv c l = 0) := by show costv c l = 0; unfold costv; rw [win_bad (i := q) (by omega) (bad_gt (top := 40) h2)]; simp
              generalize gi l q = x at *
              go_wp2
              go_ret
              rw [HR.out]
              exact ⟨rfl, HB.out⟩
            · have HN := hide (more_fine H.out (bad_no h1 h2))
              obtain ⟨y, hy⟩ : ∃ y : Nat, gi l q = y := ⟨(gi l q).toNat, by omega⟩
              have hyc : cntOf l q = y := by unfold cntOf; omega
              have HI1 : Hid (s + A q * y = Hv.tot (fun i => A i * cntOf l i) (q + 1)) := by show _ = Hv.tot _ _; rw [tot_step, ← HI.out, hyc]
              have b1 := HTA.out q
              have y40 : y ≤ 40 := by omega
              rw [hy] at e2 h1 h2
              clear hy hyc H HI
              generalize A q = x at *
              have xy : x * y ≤ 1048576 * 40 := Nat.mul_le_mul b1 y40
              have exy : (x : Int) * (y : Int) = ((x * y : Nat) : Int) := by rw [Int.natCast_mul]
              have hs2 : s + x * y ≤ (q + 1) * 41943040 := by omega
              have hs3 : q * 41943040 ≤ 255 * 41943040 := Nat.mul_le_mul_right _ (by omega)
              have hs4 : s ≤ 10695475200 := by omega
              clear hs hs3
              generalize x * y = z at *
              go_wp2
              go_quiet (fail)
              go_wp2
              exact ⟨⟨q + 1, s + z, by omega, hs2, by go_num, by go_num, HI1, HN, below_drewN HB.out _⟩, by simp only [intOf]; omega⟩
        · obtain rfl : q = 256 := by omega
          have HR : Hid (costv c l = s) := by
            show costv c l = s
            unfold costv
            rw [HK1.out, win_fine (fun i hi => H.out i (by have := HK2.out; omega)), HI.out, hA.out]
            simp [HK2.out]
          go_wp2
          go_ret
          rw [HR.out]
          exact ⟨rfl, HB.out⟩
    · have k2z : ((l.length : Int) != 256) = true := by simp; omega
      have R : Hid (costv c l = 0) := by
        show costv c l = 0
        have : win l 40 = false := by unfold win; simp [k2]
        unfold costv; rw [this]; simp
      clear hx hy k1 k2
      go_enter Try.func55, Try.ntmps55
      go_wp2_with fail
      refine (C1.out).mono ?_
      rintro e w1 ⟨rfl, hb⟩
      go_wp2
      go_ret
      rw [R.out]
      exact ⟨rfl, hb⟩
end Go.Proofs.Ytckkhmmicbpihaa

namespace Go.Proofs.Ytckkhmmicbpihaa
open Go.RowKit Num Hp
set_option linter.unusedVariables false
set_option linter.unusedSimpArgs false
set_option maxRecDepth 100000

namespace Pn
/-- May counts be? -/
def okT (l : List Int) : Bool := win l 8192 && decide (Hv.tot (cntOf l) 256 ≤ 8192)
def totI (l : List Int) : Int := if okT l = true then (Hv.tot (cntOf l) 256 : Nat) else -1
/-- How many of the symbols below q have this bit. -/
def os (v : Nat → Nat) (b q : Nat) : Nat := Hv.tot (fun c => if c / 2 ^ b % 2 = 1 then v c else 0) q
theorem os_le (v : Nat → Nat) (b : Nat) : ∀ q, os v b q ≤ Hv.tot v q
  | 0 => Nat.le_refl _
  | q + 1 => by
    have := os_le v b q
    unfold os at this ⊢
    rw [Hv.tot, Hv.tot]
    split <;> omega
theorem tot_mono (v : Nat → Nat) {a b : Nat} (h : a ≤ b) : Hv.tot v a ≤ Hv.tot v b := by
  induction b with
  | zero => rw [show a = 0 by omega]; exact Nat.le_refl _
  | succ b ih =>
    by_cases e : a = b + 1
    · rw [e]; exact Nat.le_refl _
    · have := ih (by omega)
      rw [Hv.tot]
      omega
/-- Rows of the first q bits, from the highest. -/
def rws (k : Int) (v : Nat → Nat) (n q : Nat) : Nat := Hv.tot (fun i => row k n (os v (7 - i) 256)) q
theorem row_le (k : Int) {n m : Nat} (hn : n ≤ 1048576) (hm : m ≤ n) : row k n m ≤ 85 * n + 145 := by
  unfold row
  split
  · have := up_le n 64 (by omega)
    have : n / 512 ≤ n := Nat.div_le_self _ _
    omega
  · split
    · have := up_le n 15 (by omega)
      have := up_le (up n 15) 8 (by omega)
      omega
    · split
      · have := fano_le hn hm
        omega
      · omega
end Pn
set_option maxHeartbeats 2000000 in
theorem rtotal_c (ao : Option Addr) (l : List Int) (cap : Nat) (w : World) (hx : Nd w ao l) (hl : l.length ≤ 1048576) :
    Calls Try.prog 28 #[.slice ao l.length cap] w fun e w' => e = .returned (.int .i64 (Pn.totI l)) ∧ w' = w := by
  by_cases k2 : l.length = 256
  · have k2z : ((l.length : Int) != 256) = false := by simp; omega
    have HK2 := hide k2
    obtain ⟨b, off, rfl, hbw, hcc⟩ := hx (by omega)
    have HCD : Hid (∀ i, i < l.length → w.cell? ⟨b, off + i, none⟩ = some (.int .i64 (gi l i))) := fun i hi => hcc i hi
    have l256 : l.length ≤ 256 := by omega
    clear hcc k2 hx
    go_enter Try.func28, Try.ntmps28
    go_wp2
    go_loopw [3, 4] (fun vn vi wr => ∃ (q s : Nat), q ≤ l.length ∧ s ≤ q * 8192 ∧ vi = .int .i64 q ∧ vn = .int .i64 s ∧ Hid (s = Hv.tot (cntOf l) q) ∧ Hid (∀ j, j < q → bad 8192 (gi l j) = false) ∧ wr = w) (fun _ vi _ => l.length - (intOf vi).toNat)
    case atStart => exact ⟨0, 0, Nat.zero_le _, Nat.zero_le _, rfl, rfl, rfl, fun j hj => absurd hj (by omega), rfl⟩
    case round =>
      obtain ⟨q, s, hq, hs, rfl, rfl, HI, H, hw⟩ := hrel
      subst hw
      by_cases hlt : q < l.length
      · have hltz : (q : Int) < (l.length : Int) := by omega
        have c1 := HCD.out q hlt
        by_cases h1 : gi l q < 0
        · have HR : Hid (Pn.totI l = -1) := by show Pn.totI l = -1; unfold Pn.totI Pn.okT; rw [win_bad hlt (bad_neg (top := 8192) h1)]; rfl
          generalize gi l q = x at *
          go_wp2
          go_ret
          rw [HR.out]
          exact ⟨rfl, rfl⟩
        · by_cases h2 : (8192 : Int) < gi l q
          · have HR : Hid (Pn.totI l = -1) := by show Pn.totI l = -1; unfold Pn.totI Pn.okT; rw [win_bad hlt (bad_gt (top := 8192) h2)]; rfl
            generalize gi l q = x at *
            go_wp2
            go_ret
            rw [HR.out]
            exact ⟨rfl, rfl⟩
          · have HN := hide (more_fine H.out (bad_no h1 h2))
            obtain ⟨y, hy⟩ : ∃ y : Nat, gi l q = y := ⟨(gi l q).toNat, by omega⟩
            have hyc : cntOf l q = y := by unfold cntOf; omega
            have HI1 : Hid (s + y = Hv.tot (cntOf l) (q + 1)) := by show _ = _; rw [Hv.tot, hyc, HI.out]
            rw [hy] at c1 h1 h2
            clear hy hyc H HI
            go_wp2
            exact ⟨⟨q + 1, s + y, by omega, by omega, by go_num, by go_num, HI1, HN, trivial⟩, by simp only [intOf]; omega⟩
      · obtain rfl : q = l.length := by omega
        have HW : Hid (win l 8192 = true) := by show win l 8192 = true; rw [win_fine H.out]; exact decide_eq_true HK2.out
        have hs2 := HI.out
        rw [HK2.out] at hs2
        by_cases h3 : 8192 < s
        · have HR : Hid (Pn.totI l = -1) := by show Pn.totI l = -1; unfold Pn.totI Pn.okT; rw [HW.out, ← hs2, decide_eq_false (by omega)]; rfl
          have h3z : (8192 : Int) < (s : Int) := by omega
          clear hs2 HI H HCD
          go_wp2
          go_ret
          rw [HR.out]
          exact ⟨rfl, rfl⟩
        · have HR : Hid (Pn.totI l = (s : Int)) := by show Pn.totI l = _; unfold Pn.totI Pn.okT; rw [HW.out, ← hs2, decide_eq_true (by omega)]; rfl
          have h3z : ¬ (8192 : Int) < (s : Int) := by omega
          clear hs2 HI H HCD
          go_wp2
          go_ret
          rw [HR.out]
          exact ⟨rfl, rfl⟩
  · have k2z : ((l.length : Int) != 256) = true := by simp; omega
    have R : Hid (Pn.totI l = -1) := by
      show Pn.totI l = -1
      have : win l 8192 = false := by unfold win; simp [k2]
      unfold Pn.totI Pn.okT; rw [this]; rfl
    clear hx k2
    go_enter Try.func28, Try.ntmps28
    go_wp2
    go_ret
    rw [R.out]
    exact ⟨rfl, rfl⟩
set_option maxHeartbeats 4000000 in
theorem rrows_c (k : Int) (ao : Option Addr) (l : List Int) (cap : Nat) (w : World) (hx : Nd w ao l) (hw : win l 8192 = true) (ht : Hv.tot (cntOf l) 256 ≤ 8192) :
    Calls Try.prog 51 #[.int .i64 k, .slice ao l.length cap, .int .i64 (Hv.tot (cntOf l) 256 : Nat)] w fun e w' => e = .returned (.int .i64 (Pn.rws k (cntOf l) (Hv.tot (cntOf l) 256) 8 : Nat)) ∧ w' = w := by
  obtain ⟨h256, hbd⟩ := win_len hw
  obtain ⟨v, hv⟩ : ∃ v, Hid (v = cntOf l) := ⟨_, rfl⟩
  obtain ⟨b, off, rfl, hbw, hcc⟩ := hx (by omega)
  have HCC : Hid (∀ i, i < 256 → w.cell? ⟨b, off + i, none⟩ = some (.int .i64 (v i : Nat))) := fun i hi => by
    have h1 := hcc i (by omega)
    have h2 := hbd i (by omega)
    rw [hv.out]
    unfold cntOf
    rw [h1]
    congr 2
    omega
  rw [← hv.out] at ht ⊢
  obtain ⟨n, hn⟩ : ∃ n, Hid (n = Hv.tot v 256) := ⟨_, rfl⟩
  rw [← hn.out] at ht ⊢
  have RC := hide fun (m : Nat) (hm : m ≤ n) w0 => (rrow_c k n m w0)
  have RV : Hid (∀ m : Nat, m ≤ n → Pn.rowI k n m = Pn.row k n m ∧ Pn.row k n m ≤ 700000) := fun m hm => ⟨rowI_in (by omega) hm, by have := Pn.row_le k (n := n) (m := m) (by omega) hm; omega⟩
  rw [h256]
  clear hcc hbd h256 hx hw
  go_enter Try.func51, Try.ntmps51
  go_wp2
  go_loopw [7, 8] (fun vs vb wr => ∃ (i s : Nat), i ≤ 8 ∧ s ≤ i * 700000 ∧ vb = .int .i64 (7 - (i : Int)) ∧ vs = .int .i64 s ∧ Hid (s = Pn.rws k v n i) ∧ wr = w) (fun _ vb _ => (intOf vb + 1).toNat)
  case atStart => exact ⟨0, 0, Nat.zero_le _, Nat.zero_le _, rfl, rfl, rfl, rfl⟩
  case round =>
    obtain ⟨i, s, hi, hs, rfl, rfl, HS, hw⟩ := hrel
    subst hw
    by_cases hlt : i < 8
    · obtain ⟨t, ht7⟩ : ∃ t : Nat, t = 7 - i := ⟨_, rfl⟩
      have htz : 7 - (i : Int) = (t : Int) := by omega
      have t7 : t ≤ 7 := by omega
      have HT7 := hide ht7
      clear ht7
      rw [htz]
      go_wp2
      go_loopw [9, 10] (fun vo vc wr2 => ∃ (q o : Nat), q ≤ 256 ∧ o ≤ n ∧ vc = .int .i64 q ∧ vo = .int .i64 o ∧ Hid (o = Pn.os v t q) ∧ wr2 = wr) (fun _ vc _ => 256 - (intOf vc).toNat)
      case atStart => exact ⟨0, 0, Nat.zero_le _, Nat.zero_le _, rfl, rfl, rfl, rfl⟩
      case round =>
        obtain ⟨q, o, hq, ho, rfl, rfl, HO, hw⟩ := hrel
        subst hw
        by_cases hlq : q < 256
        · have hlqz : (q : Int) < 256 := by omega
          have c1 := HCC.out q hlq
          obtain ⟨d, hd⟩ : ∃ d, d = q / 2 ^ t := ⟨_, rfl⟩
          have ed : (q : Int) / 2 ^ t = (d : Int) := by rw [hd, Int.natCast_ediv, Int.natCast_pow]; rfl
          have hdq : d ≤ q := by rw [hd]; exact Nat.div_le_self _ _
          have OM : Hid (∀ x, x = Pn.os v t (q + 1) → x ≤ n) := fun x hx => by
            have h1 := Pn.os_le v t (q + 1)
            have h2 := Pn.tot_mono v (show q + 1 ≤ 256 by omega)
            have h3 := hn.out
            omega
          by_cases hb : d % 2 = 1
          · have HO1 : Hid (o + v q = Pn.os v t (q + 1)) := by
              show _ = _
              rw [HO.out]
              unfold Pn.os
              rw [Hv.tot, if_pos (by rw [← hd]; exact hb)]
            have hle := OM.out _ HO1.out
            have hbz : (((d : Int)).tmod 2 == 1) = true := by
              rw [Int.tmod_eq_emod_of_nonneg (by omega)]
              simp
              omega
            have hby : ((d : Int) % 2 == 1) = true := by
              simp
              omega
            clear hd HO OM hb
            generalize v q = y at *
            go_wp2
            exact ⟨⟨q + 1, o + y, by omega, hle, by go_num, by go_num, HO1, trivial⟩, by simp only [intOf]; omega⟩
          · have HO1 : Hid (o = Pn.os v t (q + 1)) := by
              show _ = _
              rw [HO.out]
              unfold Pn.os
              rw [Hv.tot, if_neg (by rw [← hd]; exact hb)]
              rfl
            have hbz : (((d : Int)).tmod 2 == 1) = false := by
              rw [Int.tmod_eq_emod_of_nonneg (by omega)]
              simp
              omega
            have hby : ((d : Int) % 2 == 1) = false := by
              simp
              omega
            clear hd HO OM hb
            go_wp2
            exact ⟨⟨q + 1, o, by omega, ho, by go_num, rfl, HO1, trivial⟩, by simp only [intOf]; omega⟩
        · obtain rfl : q = 256 := by omega
          have R1 := hide (RC.out o ho wr)
          obtain ⟨e1, e2⟩ := RV.out o ho
          rw [e1] at R1
          have HS1 : Hid (s + Pn.row k n o = Pn.rws k v n (i + 1)) := by
            show _ = _
            rw [HS.out, HO.out, HT7.out]
            rfl
          generalize Pn.row k n o = y at *
          clear HS HO RC RV e1 HCC
          go_wp2_with fail
          refine (R1.out).mono ?_
          rintro e w1 ⟨rfl, rfl⟩
          go_wp2
          exact ⟨⟨i + 1, s + y, by omega, by omega, by go_num, by go_num, HS1, trivial⟩, by simp only [intOf]; omega⟩
    · obtain rfl : i = 8 := by omega
      go_wp2
      go_ret
      rw [← HS.out]
      exact ⟨rfl, rfl⟩
end Go.Proofs.Ytckkhmmicbpihaa

namespace Go.Proofs.Ytckkhmmicbpihaa
open Go.RowKit Num Hp
set_option linter.unusedVariables false
set_option linter.unusedSimpArgs false
set_option maxRecDepth 100000

namespace Pn
/-- The greatest of the first q. -/
def wsq (k : Int) (s : Nat) : Nat → Nat
  | 0 => 0
  | q + 1 => max (wsq k s q) (row k s q)
def wst (k : Int) (s : Nat) : Nat := wsq k s (s + 1)
theorem wsq_le (k : Int) {s : Nat} (hs : s ≤ 1048576) : ∀ q, q ≤ s + 1 → wsq k s q ≤ 85 * s + 145
  | 0, _ => Nat.zero_le _
  | q + 1, h => by
    have := wsq_le k hs q (by omega)
    have := row_le k hs (show q ≤ s by omega)
    rw [wsq]
    omega
def blk (i k : Int) (s : Nat) : Nat := if i = 1 then 8 * wst k s else if i = 3 then 8 * wst k s + 256 else 1536 + min 255 s * wst k s
theorem blk_le (i k : Int) {s : Nat} (hs : s ≤ 8192) : blk i k s ≤ 200000000 := by
  have h : wst k s ≤ 700000 := by
    have := wsq_le k (s := s) (by omega) (s + 1) (Nat.le_refl _)
    unfold wst
    omega
  unfold blk
  split
  · omega
  · split
    · omega
    · have := Nat.mul_le_mul (Nat.min_le_left 255 s) h
      omega
end Pn
set_option maxHeartbeats 2000000 in
theorem rworst_c (k : Int) (s : Nat) (hs : s ≤ 8192) (w : World) :
    Calls Try.prog 72 #[.int .i64 k, .int .i64 (s : Nat)] w fun e w' => e = .returned (.int .i64 (Pn.wst k s : Nat)) ∧ w' = w := by
  have RC := hide fun (m : Nat) w0 => (rrow_c k s m w0)
  have RV : Hid (∀ m : Nat, m ≤ s → Pn.rowI k s m = Pn.row k s m ∧ Pn.row k s m ≤ 700000) := fun m hm => ⟨rowI_in (by omega) hm, by have := Pn.row_le k (n := s) (m := m) (by omega) hm; omega⟩
  go_enter Try.func72, Try.ntmps72
  go_wp2
  go_loopw [5, 6] (fun vn vo wr => ∃ (q n : Nat), q ≤ s + 1 ∧ n ≤ 700000 ∧ vo = .int .i64 q ∧ vn = .int .i64 n ∧ Hid (n = Pn.wsq k s q) ∧ wr = w) (fun _ vo _ => s + 1 - (intOf vo).toNat)
  case atStart => exact ⟨0, 0, Nat.zero_le _, Nat.zero_le _, rfl, rfl, rfl, rfl⟩
  case round =>
    obtain ⟨q, n, hq, hn, rfl, rfl, HN, hw⟩ := hrel
    subst hw
    by_cases hlt : q ≤ s
    · have hltz : (q : Int) ≤ (s : Int) := by omega
      have R1 := hide (RC.out q wr)
      obtain ⟨e1, e2⟩ := RV.out q hlt
      rw [e1] at R1
      have HN1 : Hid (max n (Pn.row k s q) = Pn.wsq k s (q + 1)) := by show _ = _; rw [HN.out]; rfl
      generalize Pn.row k s q = y at *
      clear HN RC RV e1
      by_cases hc : y ≤ n
      · have hcz : (y : Int) ≤ (n : Int) := by omega
        rw [show max n y = n by omega] at HN1
        go_wp2_with fail
        refine (R1.out).mono ?_
        rintro e w1 ⟨rfl, rfl⟩
        go_wp2
        exact ⟨⟨q + 1, n, by omega, hn, by go_num, rfl, HN1, trivial⟩, by simp only [intOf]; omega⟩
      · have hcz : ¬ (y : Int) ≤ (n : Int) := by omega
        rw [show max n y = y by omega] at HN1
        go_wp2_with fail
        refine (R1.out).mono ?_
        rintro e w1 ⟨rfl, rfl⟩
        go_wp2
        exact ⟨⟨q + 1, y, by omega, e2, by go_num, rfl, HN1, trivial⟩, by simp only [intOf]; omega⟩
    · obtain rfl : q = s + 1 := by omega
      have HN1 : Hid (n = Pn.wst k s) := HN.out
      have hltz : ¬ ((s + 1 : Nat) : Int) ≤ (s : Int) := by omega
      clear HN
      go_wp2
      go_ret
      rw [HN1.out]
      exact ⟨rfl, rfl⟩
set_option maxHeartbeats 2000000 in
theorem rblock_c (a i g k m : Int) (s : Nat) (hs : s ≤ 8192) (w : World) :
    Calls Try.prog 53 #[.agg #[.int .i64 a, .int .i64 i, .int .i64 g, .int .i64 k, .int .i64 m], .int .i64 (s : Nat)] w fun e w' => e = .returned (.int .i64 (Pn.blk i k s : Nat)) ∧ Below w.heap.size w w' := by
  have R1 := hide (rworst_c k s hs)
  have hw : Pn.wst k s ≤ 700000 := by
    have := Pn.wsq_le k (s := s) (by omega) (s + 1) (Nat.le_refl _)
    unfold Pn.wst
    omega
  have E : Hid (Pn.blk i k s = if i = 1 then 8 * Pn.wst k s else if i = 3 then 8 * Pn.wst k s + 256 else 1536 + min 255 s * Pn.wst k s) := rfl
  obtain ⟨W, hW⟩ : ∃ W, W = w.alloc (.cells #[.int .i64 a, .int .i64 i, .int .i64 g, .int .i64 k, .int .i64 m] 23) := ⟨_, rfl⟩
  have bW := hide (show Below w.heap.size w W by rw [hW]; exact below_alloc w _)
  have B1 : Cel W w.heap.size [.int .i64 a, .int .i64 i, .int .i64 g, .int .i64 k, .int .i64 m] 23 := by rw [hW]; exact Cel.new w _ _
  have c1 := B1.cell 1 rfl
  have c3 := B1.cell 3 rfl
  generalize Pn.wst k s = y at *
  clear B1
  by_cases h1 : i = 1
  · subst h1
    rw [if_pos rfl] at E
    go_enter Try.func53, Try.ntmps53
    go_wp2_with fail
    rw [← hW]
    go_wp2_with fail
    refine (R1.out _).mono ?_
    rintro e w1 ⟨rfl, rfl⟩
    clear hW
    go_wp2
    go_ret
    rw [E.out]
    exact ⟨by go_num, bW.out⟩
  · have h1z : (i == 1) = false := by simp; omega
    rw [if_neg h1] at E
    by_cases h3 : i = 3
    · subst h3
      rw [if_pos rfl] at E
      go_enter Try.func53, Try.ntmps53
      go_wp2_with fail
      rw [← hW]
      go_wp2_with fail
      refine (R1.out _).mono ?_
      rintro e w1 ⟨rfl, rfl⟩
      clear hW
      go_wp2
      go_ret
      rw [E.out]
      exact ⟨by go_num, bW.out⟩
    · have h3z : (i == 3) = false := by simp; omega
      rw [if_neg h3] at E
      by_cases hm : s < 255
      · have hmz : ¬ (255 : Int) ≤ (s : Int) := by omega
        rw [show min 255 s = s by omega] at E
        have hp := Nat.mul_le_mul (show s ≤ 255 by omega) hw
        have ez : (s : Int) * (y : Int) = ((s * y : Nat) : Int) := by rw [Int.natCast_mul]
        generalize s * y = p at *
        go_enter Try.func53, Try.ntmps53
        go_wp2_with fail
        rw [← hW]
        go_wp2_with fail
        refine (R1.out _).mono ?_
        rintro e w1 ⟨rfl, rfl⟩
        clear hW
        go_wp2
        go_ret
        rw [E.out]
        exact ⟨by go_num, bW.out⟩
      · have hmy : (255 : Int) ≤ (s : Int) := by omega
        rw [show min 255 s = 255 by omega] at E
        go_enter Try.func53, Try.ntmps53
        go_wp2_with fail
        rw [← hW]
        go_wp2_with fail
        refine (R1.out _).mono ?_
        rintro e w1 ⟨rfl, rfl⟩
        clear hW
        go_wp2
        go_ret
        rw [E.out]
        exact ⟨by go_num, bW.out⟩
end Go.Proofs.Ytckkhmmicbpihaa
