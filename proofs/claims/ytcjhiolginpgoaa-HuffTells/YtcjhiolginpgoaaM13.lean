/-
  The contract of the program's measure. Plain arithmetic of rows of bits, more: what is laid over words (put), words that are copied, and the rows that append and join make. Rows that calls make: words that are copied, a row as it is, a longer one, bits that are laid over words, a new row.
-/
import Derived.Test.YtcjhiolginpgoaaM07
import Derived.Test.YtcjhiolginpgoaaM05
import Derived.Test.YtcjhiolginpgoaaM04
import Derived.Test.YtcjhiolginpgoaaM11
import Derived.Laws.CopyOwn
import Derived.OwnWalk
import Derived.Deep.RegionHeld3
namespace Go.Proofs.Ytcjhiolginpgoaa
open Go.RowKit Num Bit Ji
set_option linter.unusedVariables false
set_option linter.unusedSimpArgs false
set_option maxRecDepth 100000

theorem jmeas_1 (g n : Nat) (f : Nat → T4) (w : World) (hT : TH w g f) (hn : n ≤ 1) :
    Calls Try.prog 22 #[.pointer (some ⟨g, 0, none⟩), .int .i64 (n : Nat)] w fun e w' => e = .returned (.tuple #[]) ∧ SO g w (fun F => F = f) w' := by
  have HT := hide hT
  have h0 : ¬ (0 : Int) ≤ 2 * (n : Int) - 3 := by omega
  clear hT
  go_enter Try.func22, Try.ntmps22
  go_wp2
  go_loopw [4] (fun vi wr => vi = .int .i64 (2 * (n : Int) - 3) ∧ wr = w) (fun vi _ => 0)
  case atStart => exact ⟨by go_num, rfl⟩
  case round =>
    obtain ⟨rfl, hw⟩ := hrel
    subst hw
    go_wp2
    refine bodyPost_end (results_none rfl _ _ _) rfl ?_
    exact ⟨rfl, SO.mk _ HT.out rfl (Bar.refl _ _)⟩

set_option maxHeartbeats 4000000 in
theorem jmeas_2 (g n : Nat) (D : Nat → Nat) (f : Nat → T4) (S : Nat → List Nat) (hh : Nat → Nat → Nat) (w : World) (hT : TH w g f) (h2 : 2 ≤ n) (hn : n ≤ 256) (T : Tree n D f S hh) :
    Calls Try.prog 22 #[.pointer (some ⟨g, 0, none⟩), .int .i64 (n : Nat)] w fun e w' => e = .returned (.tuple #[]) ∧ SO g w (fun F => Ms n D f F S hh 0) w' := by
  have HT := hide hT
  have HTr := hide T
  have HM := hide (Ms.start T)
  clear hT T
  go_enter Try.func22, Try.ntmps22
  go_wp2
  go_loopw [4] (fun vi wr => ∃ (k : Nat) (F : Nat → T4), k ≤ 2 * n - 2 ∧ vi = .int .i64 ((k : Int) - 1) ∧ Hid (TH wr g F) ∧ Hid (Bar g w wr) ∧ Hid (Ms n D f F S hh k)) (fun vi _ => (intOf vi + 1).toNat)
  case atStart => exact ⟨2 * n - 2, f, Nat.le_refl _, by congr 1; omega, HT, Bar.refl _ _, HM⟩
  case round =>
    clear HT HM
    obtain ⟨k, F, hk, rfl, HH, HB, HI⟩ := hrel
    by_cases hk0 : k = 0
    · subst hk0
      have hz : ¬ (0 : Int) ≤ ((0 : Nat) : Int) - 1 := by omega
      go_wp2
      refine bodyPost_end (results_none rfl _ _ _) rfl ?_
      exact ⟨rfl, SO.mk _ HH.out HI.out HB.out⟩
    · obtain ⟨i, rfl⟩ : ∃ i, k = i + 1 := ⟨k - 1, by omega⟩
      have zi : ((i + 1 : Nat) : Int) - 1 = (i : Int) := by omega
      obtain ⟨m1, m2, m3, m4⟩ := HI.out.step HTr.out (by omega)
      obtain ⟨p, hp⟩ : ∃ p, Hid (p = (F i).it) := ⟨_, rfl⟩
      rw [← hp.out] at m1 m2 m3 m4
      obtain ⟨q, hq⟩ : ∃ q, Hid (q = (F p).ln) := ⟨_, rfl⟩
      rw [← hq.out] at m3 m4
      have HM := hide m4
      have i511 : (i : Int) < 511 := by omega
      have p511 : (p : Int) < 511 := by omega
      have i5 : i < 511 := by omega
      have p5 : p < 511 := by omega
      have q5 : q ≤ 512 := by omega
      have i6 : i + 1 ≤ 2 * n - 2 := hk
      clear m4 HI m1 m2 m3
      rw [zi]
      clear zi hk hk0
      go_wp2
      refine region_g [17] (fun w' => TH w' g F) (by kernel_rfl) ?_
      have hS : TH wr.drew g F := HH.out.drew
      have HB2 : Hid (Bar g w wr.drew) := HB.out.drew
      generalize wr.drew = Y at *
      refine AnyG.take 0 (v := ?vv1) rfl (by kernel_rfl) (by kernel_rfl) (by kernel_rfl) (by kernel_rfl) (fun _ _ _ h => h) hS ?hy1 (by rfl) ?rest1
      case hy1 =>
        intro w0 h0
        go_simp
        try with_reducible rfl
      simp only [Act.put, List.getElem_toArray, List.getElem_cons_zero, List.getElem_cons_succ, List.setIfInBounds_toArray, List.set_cons_zero, List.set_cons_succ]
      refine AnyG.take 1 (v := ?vv2) rfl (by kernel_rfl) (by kernel_rfl) (by kernel_rfl) (by kernel_rfl) (fun _ _ _ h => h) hS ?hy2 (by rfl) ?rest2
      case hy2 =>
        intro w0 h0
        go_simp
        try with_reducible rfl
      simp only [Act.put, List.getElem_toArray, List.getElem_cons_zero, List.getElem_cons_succ, List.setIfInBounds_toArray, List.set_cons_zero, List.set_cons_succ]
      refine AnyG.take 2 (v := ?vv3) rfl (by kernel_rfl) (by kernel_rfl) (by kernel_rfl) (by kernel_rfl) (fun _ _ _ h => h) hS ?hy3 (by rfl) ?rest3
      case hy3 =>
        intro w0 h0
        go_simp
        try with_reducible rfl
      simp only [Act.put, List.getElem_toArray, List.getElem_cons_zero, List.getElem_cons_succ, List.setIfInBounds_toArray, List.set_cons_zero, List.set_cons_succ]
      refine AnyG.take 3 (v := ?vv4) rfl (by kernel_rfl) (by kernel_rfl) (by kernel_rfl) (by kernel_rfl) (fun _ _ _ h => h) hS ?hy4 (by rfl) ?rest4
      case hy4 =>
        intro w0 h0
        go_simp
        try with_reducible rfl
      simp only [Act.put, List.getElem_toArray, List.getElem_cons_zero, List.getElem_cons_succ, List.setIfInBounds_toArray, List.set_cons_zero, List.set_cons_succ]
      refine AnyG.take 4 (v := ?vv5) rfl (by kernel_rfl) (by kernel_rfl) (by kernel_rfl) (by kernel_rfl) (fun _ _ _ h => h) hS ?hy5 (by rfl) ?rest5
      case hy5 =>
        intro w0 h0
        go_simp
        try with_reducible rfl
      simp only [Act.put, List.getElem_toArray, List.getElem_cons_zero, List.getElem_cons_succ, List.setIfInBounds_toArray, List.set_cons_zero, List.set_cons_succ]
      refine AnyG.take 5 (v := ?vv6) rfl (by kernel_rfl) (by kernel_rfl) (by kernel_rfl) (by kernel_rfl) (fun _ _ _ h => h) hS ?hy6 (by rfl) ?rest6
      case hy6 =>
        intro w0 h0
        go_simp
        try with_reducible rfl
      simp only [Act.put, List.getElem_toArray, List.getElem_cons_zero, List.getElem_cons_succ, List.setIfInBounds_toArray, List.set_cons_zero, List.set_cons_succ]
      refine AnyG.take 6 (v := ?vv7) rfl (by kernel_rfl) (by kernel_rfl) (by kernel_rfl) (by kernel_rfl) (fun _ _ _ h => h) hS ?hy7 (by rfl) ?rest7
      case hy7 =>
        intro w0 h0
        go_simp
        try with_reducible rfl
      simp only [Act.put, List.getElem_toArray, List.getElem_cons_zero, List.getElem_cons_succ, List.setIfInBounds_toArray, List.set_cons_zero, List.set_cons_succ]
      refine AnyG.take 7 (v := ?vv8) rfl (by kernel_rfl) (by kernel_rfl) (by kernel_rfl) (by kernel_rfl) (fun _ _ _ h => h) hS ?hy8 (by rfl) ?rest8
      case hy8 =>
        intro w0 h0
        go_simp
        try with_reducible rfl
      simp only [Act.put, List.getElem_toArray, List.getElem_cons_zero, List.getElem_cons_succ, List.setIfInBounds_toArray, List.set_cons_zero, List.set_cons_succ]
      refine AnyG.take 8 (v := ?vv9) rfl (by kernel_rfl) (by kernel_rfl) (by kernel_rfl) (by kernel_rfl) (fun _ _ _ h => h) hS ?hy9 (by rfl) ?rest9
      case hy9 =>
        intro w0 h0
        have k0 := h0.c2 i i5
        have k1 := h0.c3 p p5
        rw [← hp.out] at k0
        rw [← hq.out] at k1
        go_simp
        try with_reducible rfl
      simp only [Act.put, List.getElem_toArray, List.getElem_cons_zero, List.getElem_cons_succ, List.setIfInBounds_toArray, List.set_cons_zero, List.set_cons_succ]
      refine AnyG.take 9 (v := ?vv10) rfl (by kernel_rfl) (by kernel_rfl) (by kernel_rfl) (by kernel_rfl) (fun _ _ _ h => h) hS ?hy10 (by rfl) ?rest10
      case hy10 =>
        intro w0 h0
        go_simp
        try with_reducible rfl
      simp only [Act.put, List.getElem_toArray, List.getElem_cons_zero, List.getElem_cons_succ, List.setIfInBounds_toArray, List.set_cons_zero, List.set_cons_succ]
      refine AnyG.take 10 (v := ?vv11) rfl (by kernel_rfl) (by kernel_rfl) (by kernel_rfl) (by kernel_rfl) (fun _ _ _ h => h) hS ?hy11 (by rfl) ?rest11
      case hy11 =>
        intro w0 h0
        go_simp
        try with_reducible rfl
      simp only [Act.put, List.getElem_toArray, List.getElem_cons_zero, List.getElem_cons_succ, List.setIfInBounds_toArray, List.set_cons_zero, List.set_cons_succ]
      refine AnyG.take 11 (v := ?vv12) rfl (by kernel_rfl) (by kernel_rfl) (by kernel_rfl) (by kernel_rfl) (fun _ _ _ h => h) hS ?hy12 (by rfl) ?rest12
      case hy12 =>
        intro w0 h0
        go_simp
        try with_reducible rfl
      simp only [Act.put, List.getElem_toArray, List.getElem_cons_zero, List.getElem_cons_succ, List.setIfInBounds_toArray, List.set_cons_zero, List.set_cons_succ]
      refine AnyG.take 12 (v := ?vv13) rfl (by kernel_rfl) (by kernel_rfl) (by kernel_rfl) (by kernel_rfl) (fun _ _ _ h => h) hS ?hy13 (by rfl) ?rest13
      case hy13 =>
        intro w0 h0
        have k0 := h0.c2 i i5
        have k1 := h0.c3 p p5
        rw [← hp.out] at k0
        rw [← hq.out] at k1
        go_simp
        try with_reducible rfl
      simp only [Act.put, List.getElem_toArray, List.getElem_cons_zero, List.getElem_cons_succ, List.setIfInBounds_toArray, List.set_cons_zero, List.set_cons_succ]
      have wsum : IntKind.i64.wrap ((q : Int) + 1) = ((q + 1 : Nat) : Int) := by rw [IntKind.wrap_i64]; omega
      refine AnyG.take 13 (v := ?vv14) rfl (by kernel_rfl) (by kernel_rfl) (by kernel_rfl) (by kernel_rfl) (fun _ _ _ h => h) hS ?hy14 (by rfl) ?rest14
      case hy14 =>
        intro w0 h0
        go_simp
        try with_reducible rfl
      simp only [Act.put, List.getElem_toArray, List.getElem_cons_zero, List.getElem_cons_succ, List.setIfInBounds_toArray, List.set_cons_zero, List.set_cons_succ]
      refine AnyG.takeW 14 (v := ?vv15) rfl (by kernel_rfl) (by kernel_rfl) (by kernel_rfl) (fun _ _ _ h => h) ?hy15 (by rfl) ?rest15
      case hy15 =>
        intro w0
        go_simp
        try with_reducible rfl
      simp only [Act.put, List.getElem_toArray, List.getElem_cons_zero, List.getElem_cons_succ, List.setIfInBounds_toArray, List.set_cons_zero, List.set_cons_succ]
      refine AnyG.takeW 15 (v := ?vv16) rfl (by kernel_rfl) (by kernel_rfl) (by kernel_rfl) (fun _ _ _ h => h) ?hy16 (by rfl) ?rest16
      case hy16 =>
        intro w0
        go_simp
        try with_reducible rfl
      simp only [Act.put, List.getElem_toArray, List.getElem_cons_zero, List.getElem_cons_succ, List.setIfInBounds_toArray, List.set_cons_zero, List.set_cons_succ]
      refine AnyG.takeW 16 (v := ?vv17) rfl (by kernel_rfl) (by kernel_rfl) (by kernel_rfl) (fun _ _ _ h => h) ?hy17 (by rfl) ?rest17
      case hy17 =>
        intro w0
        go_simp
        try with_reducible rfl
      simp only [Act.put, List.getElem_toArray, List.getElem_cons_zero, List.getElem_cons_succ, List.setIfInBounds_toArray, List.set_cons_zero, List.set_cons_succ]
      clear wsum
      refine AnyG.one 17 (by kernel_rfl) rfl ?_
      intro K hK
      have n0 := hS.c3 i i5
      have f0 := hS.frozen (i * 4 + 3)
      go_simp
      refine hK.out _ _ (fun h => absurd (by decide) h) ?_
      clear hK K
      try simp only [Act.put, List.getElem_toArray, List.getElem_cons_zero, List.getElem_cons_succ, List.setIfInBounds_toArray, List.set_cons_zero, List.set_cons_succ]
      refine AnyG.done (by kernel_rfl) ?_ _
      clear n0 f0
      have HT1 := hide (hS.setLn i (q + 1) i5)
      have HB3 := hide (HB2.out.set (i * 4 + 3) (.int .i64 ((q + 1 : Nat) : Int)))
      clear hS HB2 HH HB
      go_wp2
      exact ⟨⟨i, _, by omega, by go_num, HT1, HB3, HM⟩, by simp only [intOf]; omega⟩
end Go.Proofs.Ytcjhiolginpgoaa

namespace Go.Proofs.Ytcjhiolginpgoaa
open Num
namespace Bit

def cp (xs : List Nat) (n : Nat) : List Nat := xs.take n ++ List.replicate (n - xs.length) 0

theorem length_cp (xs : List Nat) (n : Nat) : (cp xs n).length = n := by simp [cp]; omega

theorem cp_self (xs : List Nat) : cp xs xs.length = xs := by simp [cp]

theorem gt_cp (xs : List Nat) (n i : Nat) (h : i < n) : gt (cp xs n) i = gt xs i := by
  unfold gt cp
  rw [List.getD_eq_getElem?_getD, List.getD_eq_getElem?_getD]
  by_cases hi : i < xs.length
  · rw [List.getElem?_append_left (by simp; omega), List.getElem?_take_of_lt h]
  · rw [List.getElem?_append_right (by simp; omega), List.getElem?_replicate, List.getElem?_eq_none (l := xs) (by omega)]
    split <;> rfl

theorem fit_cp (xs : List Nat) (hf : Fit xs) (n : Nat) : Fit (cp xs n) := by
  intro i
  by_cases h : i < n
  · rw [gt_cp xs n i h]; exact hf i
  · rw [gt_out _ _ (by rw [length_cp]; omega)]; decide

/-- What put makes of the words. -/
def putL (ys : List Nat) (p x : Nat) : List Nat :=
  let a := if x * 2 ^ (p % 64) % 18446744073709551616 = 0 then ys else ys.set (p / 64) (gt ys (p / 64) ||| x * 2 ^ (p % 64) % 18446744073709551616)
  if x / 2 ^ (64 - p % 64) = 0 then a else a.set (p / 64 + 1) (gt a (p / 64 + 1) ||| x / 2 ^ (64 - p % 64))

theorem length_putL (ys : List Nat) (p x : Nat) : (putL ys p x).length = ys.length := by
  unfold putL
  simp only
  split <;> split <;> simp

def Room (ys : List Nat) (p x : Nat) : Prop := (x * 2 ^ (p % 64) % 18446744073709551616 ≠ 0 → p / 64 < ys.length) ∧ (x / 2 ^ (64 - p % 64) ≠ 0 → p / 64 + 1 < ys.length)

theorem gt_putL (ys : List Nat) (p x : Nat) (h : Room ys p x) (j : Nat) :
    gt (putL ys p x) j = gt ys j ||| (if j = p / 64 then x * 2 ^ (p % 64) % 18446744073709551616 else if j = p / 64 + 1 then x / 2 ^ (64 - p % 64) else 0) := by
  obtain ⟨h1, h2⟩ := h
  unfold putL
  simp only
  by_cases c1 : x * 2 ^ (p % 64) % 18446744073709551616 = 0
  · rw [if_pos c1]
    by_cases c2 : x / 2 ^ (64 - p % 64) = 0
    · rw [if_pos c2, c1, c2]; split <;> (try split) <;> simp
    · rw [if_neg c2, gt_set _ _ _ _ (h2 c2), c1]
      by_cases e : j = p / 64
      · rw [if_pos e, if_neg (by omega)]; simp
      · rw [if_neg e]
        by_cases e2 : j = p / 64 + 1
        · rw [if_pos e2, if_pos e2.symm, e2]
        · rw [if_neg e2, if_neg (fun q => e2 q.symm)]; simp
  · rw [if_neg c1]
    have hl := h1 c1
    by_cases c2 : x / 2 ^ (64 - p % 64) = 0
    · rw [if_pos c2, gt_set _ _ _ _ hl, c2]
      by_cases e : j = p / 64
      · rw [if_pos e, if_pos e.symm, e]
      · rw [if_neg e, if_neg (fun q => e q.symm)]; split <;> simp
    · rw [if_neg c2, gt_set _ _ _ _ (by rw [List.length_set]; exact h2 c2), gt_set _ _ _ _ hl, gt_set _ _ _ _ hl]
      by_cases e : j = p / 64
      · rw [if_pos e, if_neg (by omega), if_pos e.symm, e]
      · rw [if_neg e, if_neg (show ¬ p / 64 = j from fun q => e q.symm), if_neg (show ¬ p / 64 = p / 64 + 1 by omega)]
        by_cases e2 : j = p / 64 + 1
        · rw [if_pos e2, if_pos e2.symm, e2]
        · rw [if_neg e2, if_neg (fun q => e2 q.symm)]; simp

theorem fit_putL (ys : List Nat) (hf : Fit ys) (p x : Nat) (hx : x < 18446744073709551616) (h : Room ys p x) : Fit (putL ys p x) := by
  intro j
  rw [gt_putL ys p x h j]
  refine or_lt _ _ (hf j) ?_
  split
  · exact Nat.mod_lt _ (by decide)
  · split
    · exact Nat.lt_of_le_of_lt (Nat.div_le_self _ _) hx
    · decide

theorem bitAt_putL (ys : List Nat) (p x : Nat) (hx : x < 18446744073709551616) (h : Room ys p x) (i : Nat) : bitAt (putL ys p x) i = (bitAt ys i || (decide (p ≤ i) && x.testBit (i - p))) := by
  unfold bitAt
  rw [gt_putL ys p x h, Nat.testBit_or]
  congr 1
  have hm : i % 64 < 64 := Nat.mod_lt _ (by decide)
  by_cases e : i / 64 = p / 64
  · rw [if_pos e, test_shl _ _ _ hm]
    by_cases c : p ≤ i
    · rw [show decide (p % 64 ≤ i % 64) = true by simp; omega, show decide (p ≤ i) = true by simpa using c, show i % 64 - p % 64 = i - p by omega]
    · rw [show decide (p % 64 ≤ i % 64) = false by simp; omega, show decide (p ≤ i) = false by simpa using c]; rfl
  · rw [if_neg e]
    by_cases e2 : i / 64 = p / 64 + 1
    · rw [if_pos e2, test_shr, show decide (p ≤ i) = true by simp; omega, show 64 - p % 64 + i % 64 = i - p by omega]; rfl
    · rw [if_neg e2, Nat.zero_testBit]
      by_cases c : p ≤ i
      · rw [test_big x _ hx (by omega)]; simp
      · simp [c]

theorem room_of (ys : List Nat) (p x m : Nat) (hx : x < 2 ^ m) (hm : m ≤ 64) (hl : p + m ≤ 64 * ys.length) : Room ys p x := by
  have hp : 0 < 2 ^ (64 - p % 64) := Nat.pow_pos (by decide)
  constructor
  · intro h
    by_cases c : m = 0
    · subst c
      have : x = 0 := by simpa using hx
      subst this; simp at h
    · omega
  · intro h
    by_cases c : m ≤ 64 - p % 64
    · have : x < 2 ^ (64 - p % 64) := Nat.lt_of_lt_of_le hx (Nat.pow_le_pow_right (by decide) c)
      exact absurd (Nat.div_eq_of_lt this) h
    · omega

/-- Append: the bits of the row, then those of the number. -/
theorem append_row (N : Int) (xs : List Nat) (hf : Fit xs) (hk : chk N xs = true) (x : Nat) (n : Nat) (hn : n ≤ 64) (k : Nat) (hkk : k = (N.toNat + n + 63) / 64) :
    putL (cp xs k) N.toNat (x % 2 ^ n) = rowOf (N.toNat + n) (fun j => if j < N.toNat then bitAt xs j else x.testBit (j - N.toNat)) := by
  obtain ⟨h0, h1, hl, _⟩ := chk_out N xs hk
  have hlt : x % 2 ^ n < 2 ^ n := Nat.mod_lt _ (Nat.pow_pos (by decide))
  have hlt2 : x % 2 ^ n < 18446744073709551616 := Nat.lt_of_lt_of_le hlt (Nat.pow_le_pow_right (n := 2) (j := 64) (by decide) hn)
  have hr : Room (cp xs k) N.toNat (x % 2 ^ n) := room_of _ _ _ n hlt hn (by rw [length_cp]; omega)
  refine eq_rowOf _ _ _ (fit_putL _ (fit_cp xs hf k) _ _ hlt2 hr) (by rw [length_putL, length_cp]; exact hkk) fun i hi => ?_
  rw [length_putL, length_cp] at hi
  rw [bitAt_putL _ _ _ hlt2 hr, Nat.testBit_mod_two_pow]
  have hb : bitAt (cp xs k) i = bitAt xs i := by unfold bitAt; rw [gt_cp xs k _ (by omega)]
  rw [hb]
  by_cases c : i < N.toNat
  · rw [if_pos c]; simp [show ¬ N.toNat ≤ i by omega, show i < N.toNat + n by omega]
  · rw [if_neg c, chk_high N xs hk i (by omega)]
    by_cases c2 : i < N.toNat + n
    · simp [c2, show N.toNat ≤ i by omega, show i - N.toNat < n by omega]
    · simp [c2, show ¬ i - N.toNat < n by omega]
end Bit
end Go.Proofs.Ytcjhiolginpgoaa

namespace Go.Proofs.Ytcjhiolginpgoaa
open Go.RowKit Num Bit

theorem Try.info31 : (Try.prog.info? 31).map (fun i => (i.zero, i.size, i.bytes)) = some (some (.int .u64 0), 1, 8) := by kernel_rfl
theorem Try.size31 : (Try.prog.info? 31).map (·.size) = some 1 := by kernel_rfl

def wv (ys : List Nat) : List Value := ys.map fun y => Value.int .u64 (y : Nat)
def Own (w : World) (g : Nat) (ys : List Nat) : Prop := w.heap[g]? = some (.cells (wv ys).toArray 31 (0, 0))


theorem own_made {w : World} {base g n : Nat} (h : w.ownsRow base 31 1 (.slice (some ⟨g, 0, none⟩) n n) n (madeCells #[.int .u64 0] n).toList) : w.heap[g]? = some (.cells (wv (List.replicate n 0)).toArray 31 (0, 0)) := by
  obtain ⟨_, h | ⟨g', cap, cur, e, _, hh, _, _, hs, ht⟩⟩ := h
  · simp at h
  · simp only [Value.slice.injEq, Option.some.injEq, Addr.mk.injEq] at e
    obtain ⟨⟨rfl, _, _⟩, _, rfl⟩ := e
    rw [hh]
    have e2 : (madeCells #[.int .u64 0] n).toList = wv (List.replicate n 0) := by
      rw [toList_madeCells_one (.int .u64 0) n, wv, List.map_replicate]
      rfl
    rw [e2] at ht
    have e3 : cur.toList.take (n * 1) = cur.toList := List.take_of_length_le (by simp; omega)
    rw [e3] at ht
    rw [← ht]

theorem splice_cp (xs : List Nat) (n : Nat) : splice (wv (List.replicate n 0)) 0 (wv (xs.take n)) = wv (cp xs n) := by
  unfold splice wv cp
  rw [List.take_zero, List.nil_append, List.map_append, Nat.zero_add, List.length_map, List.length_take, ← List.map_drop, List.drop_replicate]
  congr 3
  omega

theorem copied_c (ao : Option Addr) (xs : List Nat) (cap : Nat) (n : Nat) (w : World) (hx : Wd w ao xs) (hn : n ≤ 1048576) (hl : xs.length ≤ 1048576) :
    Calls Try.prog 54 #[.slice ao xs.length cap, .int .i64 n] w fun e w' => ∃ g, e = .returned (.slice (some ⟨g, 0, none⟩) n n) ∧ w.heap.size ≤ g ∧ g < w'.heap.size ∧ Own w' g (cp xs n) ∧ Below w.heap.size w w' := by
  obtain ⟨i0, hi, hz0, hz1, hz2⟩ := info_parts Try.info31
  go_enter Try.func54, Try.ntmps54
  go_wp2_with (at_make; refine wpList_make_full _ rfl _ _ 43 rfl w.heap.size 31 i0 (.int .u64 0) 1 Try.underlying43 hi hz0 hz1 .i64 .i64 _ _ n rfl rfl rfl rfl ?b2 ?b3 ?b4 ?_)
  case b2 => rw [hz2]; omega
  case b3 => unfold maxLen; omega
  case b4 => omega
  intro w1 hown hgr
  have hg1 := own_made hown
  have hb1 : Below w.heap.size w w1 := (Below.refl _ _).grown hgr (Nat.le_refl _) (fun k h => by cases h)
  have hx1 := hx.keep hb1
  have hlt : w.heap.size < w1.heap.size := by
    have := (hown.lt w.heap.size rfl).2
    exact this
  have HG : Hid (w1.heap[w.heap.size]? = some (.cells (wv (List.replicate n 0)).toArray 31 (0, 0))) := hg1
  clear hown hgr hg1 hi hz0 hz1 hz2
  go_wp2_with (refine wpList_copy_splice rfl (.tmp 8) (.tmp 9) 43 43 rfl 31 Try.underlying43 Try.size31 (some ⟨w.heap.size, 0, none⟩) ao n n xs.length cap (by rfl) (by rfl) w.heap.size 0 (wv (List.replicate n 0)) 31 HG.out (wv (xs.take n)) ?h1 ?h2 ?h3 ?h4 w.heap.size w hb1 (Nat.le_refl _) ?_)
  case h1 => simp [wv, Nat.min_comm]
  case h2 =>
    intro hp
    obtain ⟨b, off, rfl, hb, hc⟩ := hx1 (by simp [wv] at hp; omega)
    refine ⟨⟨b, off, none⟩, rfl, ?_⟩
    intro j v hj
    have hjl : j < (xs.take n).length := by
      have := (List.getElem?_eq_some_iff.1 hj).1
      simpa [wv] using this
    have hj2 : j < xs.length := by simp at hjl; omega
    have ev : v = .int .u64 (gt xs j) := by
      rw [wv, List.getElem?_map, gt_get (xs.take n) j hjl] at hj
      simp only [Option.map_some, Option.some.injEq] at hj
      rw [← hj]
      unfold gt
      rw [List.getD_eq_getElem?_getD, List.getD_eq_getElem?_getD, List.getElem?_take_of_lt (by simp at hjl; omega)]
    rw [ev, ← hc j hj2]
    unfold Addr.add
    split
    · subst_vars; rfl
    · rfl
  case h3 => simp [wv]; omega
  case h4 => intro v hv; obtain ⟨a, _, rfl⟩ := List.mem_map.1 hv; rfl
  intro w2 H2 hb2
  rw [splice_cp] at H2
  have hl2 : w.heap.size < w2.heap.size := by
    have := H2.out
    exact (Array.getElem?_eq_some_iff.1 this).1
  go_wp2
  go_ret
  exact ⟨w.heap.size, rfl, Nat.le_refl _, hl2, H2.out, hb2⟩

theorem Own.set_other {w : World} {g : Nat} {ys : List Nat} (h : Own w g ys) {a : Addr} (ha : g ≠ a.block) (v : Value) : Own (w.setCell a v) g ys :=
  (Below.heap_setCell w a v g ha).trans h

theorem size_set (w : World) (a : Addr) (v : Value) : (w.setCell a v).heap.size = w.heap.size := by simp [World.setCell]


theorem box2_cells {w W w' : World} {a b c d : Value} {T U : TypeId} (hW : W = (w.alloc (.cells #[a, b] T)).alloc (.cells #[c, d] U)) (hb : Below W.heap.size W w') :
    (w'.cell? ⟨w.heap.size, 0, none⟩ = some a ∧ w'.cell? ⟨w.heap.size, 1, none⟩ = some b) ∧ (w'.cell? ⟨w.heap.size + 1, 0, none⟩ = some c ∧ w'.cell? ⟨w.heap.size + 1, 1, none⟩ = some d) ∧
    (w'.frozen? ⟨w.heap.size + 1, 0, none⟩ = false ∧ w'.frozen? ⟨w.heap.size + 1, 1, none⟩ = false) ∧ w.heap.size + 1 < w'.heap.size ∧ Below w.heap.size w w' := by
  have hz : W.heap.size = w.heap.size + 2 := by rw [hW]; simp
  refine ⟨⟨?_, ?_⟩, ⟨?_, ?_⟩, ⟨?_, ?_⟩, ?_, ?_⟩
  · rw [hb.cell (p := ⟨w.heap.size, 0, none⟩) (by simp [hz]), hW]; simp
  · rw [hb.cell (p := ⟨w.heap.size, 1, none⟩) (by simp [hz]), hW]; simp
  · rw [hb.cell (p := ⟨w.heap.size + 1, 0, none⟩) (by simp [hz]), hW]; simp
  · rw [hb.cell (p := ⟨w.heap.size + 1, 1, none⟩) (by simp [hz]), hW]; simp
  · rw [hb.frozen (p := ⟨w.heap.size + 1, 0, none⟩) (by simp [hz]), hW]; simp
  · rw [hb.frozen (p := ⟨w.heap.size + 1, 1, none⟩) (by simp [hz]), hW]; simp
  · have := hb.size; omega
  · have h0 : Below w.heap.size w W := by rw [hW]; exact ((below_alloc w _).alloc (by simp) _)
    exact h0.trans (hb.mono (by omega))

theorem asItIs_c (N : Int) (ao : Option Addr) (xs : List Nat) (cap : Nat) (w : World) (hx : Wd w ao xs) (hl : xs.length ≤ 1048576) :
    Calls Try.prog 44 #[.agg #[.int .i64 N, .slice ao xs.length cap]] w fun e w' => ∃ g, e = .returned (.agg #[.int .i64 N, .slice (some ⟨g, 0, none⟩) xs.length xs.length]) ∧ w.heap.size ≤ g ∧ g < w'.heap.size ∧ Own w' g xs ∧ Below w.heap.size w w' := by
  go_enter Try.func44, Try.ntmps44
  go_wp2
  go_region_held3 (fun w' => w'.cell? ⟨w.heap.size, 0, none⟩ = some (.int .i64 N) ∧ w'.cell? ⟨w.heap.size, 1, none⟩ = some (.slice ao xs.length cap)) (first | go_keep | (refine ⟨?_, ?_⟩ <;> assumption))
    (first | (go_at_call 54; refine (copied_c _ _ _ _ _ ?_ ?_ ?_).mono ?_; (exact hx.keep (by repeat (first | exact Below.refl _ _ | apply Below.drew | apply below_drewN | refine Below.alloc ?_ (by simp) _))); exact hl; exact hl; rintro e w' ⟨g, rfl, hg1, hg2, hO, hb⟩; have KK := box2_cells (w := w) (w' := w') (a := .int .i64 N) (b := .slice ao xs.length cap) (c := .int .i64 0) (d := .slice none 0 0) (T := 45) (U := 45) (W := (w.alloc (.cells #[.int .i64 N, .slice ao xs.length cap] 45)).alloc (.cells #[.int .i64 0, .slice none 0 0] 45)) rfl (((Below.refl _ _).drew).trans hb); clear hb; obtain ⟨⟨k0, k1⟩, ⟨k2, k3⟩, ⟨k4, k5⟩, hz, hw⟩ := KK))
  go_wp2
  have hg0 : w.heap.size + 2 ≤ g := by simpa using hg1
  refine bodyPost_ret (v := .agg #[.int .i64 N, .slice (some ⟨g, 0, none⟩) xs.length xs.length]) (by simp [results, Try.results44, go_sem, k2, k3]) rfl ⟨g, rfl, by omega, ?_, ?_, ?_⟩
  · rw [size_set, size_set]; exact hg2
  · rw [cp_self] at hO
    exact (hO.set_other (by simp; omega) _).set_other (by simp; omega) _
  · exact (hw.setCell (by simp) _).setCell (by simp) _

theorem longer_c (N : Int) (ao : Option Addr) (xs : List Nat) (cap : Nat) (n : Int) (k : Nat) (w : World) (hx : Wd w ao xs) (hl : xs.length ≤ 1048576) (h0 : 0 ≤ N) (h1 : N ≤ 1048576) (h2 : 0 ≤ n) (h3 : n ≤ 1048576) (hk : (N + n + 63) / 64 = (k : Int)) :
    Calls Try.prog 45 #[.agg #[.int .i64 N, .slice ao xs.length cap], .int .i64 n] w fun e w' => ∃ g, e = .returned (.agg #[.int .i64 (N + n), .slice (some ⟨g, 0, none⟩) k k]) ∧ w.heap.size ≤ g ∧ g < w'.heap.size ∧ Own w' g (cp xs k) ∧ Below w.heap.size w w' := by
  have hk2 : k ≤ 1048576 := by omega
  have hs : IntKind.i64.wrap (N + n) = N + n := wraps_i64 _ (by omega) (by omega)
  go_enter Try.func45, Try.ntmps45
  go_wp2
  go_region_held3 (fun w' => w'.cell? ⟨w.heap.size, 0, none⟩ = some (.int .i64 N) ∧ w'.cell? ⟨w.heap.size, 1, none⟩ = some (.slice ao xs.length cap)) (first | go_keep | (refine ⟨?_, ?_⟩ <;> assumption))
    (first | (go_at_call 49; refine (need_c _ ?_ ?_ _).mono ?_; (omega); (omega); rintro e w' ⟨rfl, rfl⟩) | (go_at_call 54; refine (copied_c _ _ _ _ _ ?_ ?_ ?_).mono ?_; (exact hx.keep (by repeat (first | exact Below.refl _ _ | apply Below.drew | apply below_drewN | refine Below.alloc ?_ (by simp) _))); exact hk2; exact hl; rintro e w' ⟨g, rfl, hg1, hg2, hO, hb⟩; have KK := box2_cells (w := w) (w' := w') (a := .int .i64 N) (b := .slice ao xs.length cap) (c := .int .i64 0) (d := .slice none 0 0) (T := 45) (U := 45) (W := (w.alloc (.cells #[.int .i64 N, .slice ao xs.length cap] 45)).alloc (.cells #[.int .i64 0, .slice none 0 0] 45)) rfl (((Below.refl _ _).drew).trans hb); clear hb; obtain ⟨⟨k0, k1⟩, ⟨k2, k3⟩, ⟨k4, k5⟩, hz, hw⟩ := KK))
  go_wp2
  have hg0 : w.heap.size + 2 ≤ g := by simpa using hg1
  refine bodyPost_ret (v := .agg #[.int .i64 (N + n), .slice (some ⟨g, 0, none⟩) k k]) (by simp [results, Try.results45, go_sem, k2, k3]) rfl ⟨g, rfl, by omega, ?_, ?_, ?_⟩
  · rw [size_set, size_set]; exact hg2
  · exact (hO.set_other (by simp; omega) _).set_other (by simp; omega) _
  · exact (hw.setCell (by simp) _).setCell (by simp) _

/-- A world in which block g alone has turned. -/
structure Turned (g : Nat) (w w' : World) : Prop where
  os : w'.os = w.os
  tape : w'.tape = w.tape
  output : w'.output = w.output
  size : w'.heap.size = w.heap.size
  block : ∀ k, k ≠ g → w'.heap[k]? = w.heap[k]?

theorem Turned.refl (g : Nat) (w : World) : Turned g w w := ⟨rfl, rfl, rfl, rfl, fun _ _ => rfl⟩
theorem Turned.set {g : Nat} {a w : World} (h : Turned g a w) (off : Nat) (v : Value) : Turned g a (w.setCell ⟨g, off, none⟩ v) :=
  ⟨h.os, h.tape, h.output, (size_set _ _ _).trans h.size, fun k hk => (Below.heap_setCell _ _ _ _ hk).trans (h.block k hk)⟩
theorem Turned.cell {g : Nat} {w w' : World} (h : Turned g w w') {p : Addr} (hp : p.block ≠ g) : w'.cell? p = w.cell? p := World.cell?_of_block (w := w) (h.block p.block hp)
theorem Turned.frozen {g : Nat} {w w' : World} (h : Turned g w w') {p : Addr} (hp : p.block ≠ g) : w'.frozen? p = w.frozen? p := World.frozen?_of_block (w := w) (h.block p.block hp)
theorem Turned.below {g B : Nat} {w w' : World} (h : Turned g w w') (hB : B ≤ g) : Below B w w' :=
  ⟨h.os, h.tape, h.output, by rw [h.size]; exact Nat.le_refl _, fun k hk => h.block k (by omega)⟩

theorem length_wv (ys : List Nat) : (wv ys).length = ys.length := by simp [wv]
theorem Own.cell {w : World} {g : Nat} {ys : List Nat} (h : Own w g ys) (j : Nat) (hj : j < ys.length) : w.cell? ⟨g, j, none⟩ = some (.int .u64 (gt ys j)) := by
  unfold World.cell?
  rw [show w.heap[({ block := g, off := j, spot := none } : Addr).block]? = _ from h]
  show (wv ys).toArray[j]? = _
  rw [List.getElem?_toArray, wv, List.getElem?_map, gt_get ys j hj]
  rfl
theorem Own.frozen {w : World} {g : Nat} {ys : List Nat} (h : Own w g ys) (j : Nat) : w.frozen? ⟨g, j, none⟩ = false := by
  unfold World.frozen?
  rw [show w.heap[({ block := g, off := j, spot := none } : Addr).block]? = _ from h]
  simp
theorem Own.lt {w : World} {g : Nat} {ys : List Nat} (h : Own w g ys) : g < w.heap.size := (Array.getElem?_eq_some_iff.1 h).1
theorem Own.set {w : World} {g : Nat} {ys : List Nat} (h : Own w g ys) (j v : Nat) : Own (w.setCell ⟨g, j, none⟩ (.int .u64 v)) g (ys.set j v) := by
  unfold Own at *
  simp only [World.setCell, Array.getElem?_modify]
  rw [if_pos trivial, h]
  simp [wv, List.map_set]
theorem Own.wd {w : World} {g : Nat} {ys : List Nat} (h : Own w g ys) : Wd w (some ⟨g, 0, none⟩) ys :=
  fun _ => ⟨g, 0, rfl, h.lt, fun i hi => by rw [Nat.zero_add]; exact h.cell i hi⟩
theorem Own.keep {w w' : World} {g : Nat} {ys : List Nat} (h : Own w g ys) (hb : Below w.heap.size w w') : Own w' g ys := (hb.block g h.lt).trans h

theorem bne0 (a : Nat) : ((a : Int) != 0) = decide (a ≠ 0) := by
  rw [Bool.eq_iff_iff, bne_iff_ne, decide_eq_true_eq]; omega

theorem put_c (ys : List Nat) (g cap p x : Nat) (w : World) (hO : Own w g ys) (hp : p ≤ 2097152) (hf : Fit ys) (hx : x < 18446744073709551616)
    (hR : Room ys p x) :
    Calls Try.prog 46 #[.slice (some ⟨g, 0, none⟩) ys.length cap, .int .i64 p, .int .u64 x] w fun e w' => e = .returned (.tuple #[]) ∧ Own w' g (putL ys p x) ∧ Turned g w w' := by
  obtain ⟨h1, h2⟩ := hR
  by_cases c1 : x * 2 ^ (p % 64) % 18446744073709551616 = 0
  · by_cases c2 : x / 2 ^ (64 - p % 64) = 0
    · have A : (IntKind.u64.wrap ((x : Int) * 2 ^ (p % 64)) != 0) = false := by rw [shl_nat, bne0]; simpa using c1
      have B : ((x : Int) / 2 ^ (64 - p % 64) != 0) = false := by rw [shr_cast, bne0]; simpa using c2
      have R : Hid (putL ys p x = ys) := by
        unfold putL Hid
        simp only [if_pos c1, if_pos c2]

      have S1 := trivial
      have S2 := trivial
      have S3 : Hid (True) := S1
      have S4 : Hid (True) := S2
      clear h1 h2 c1 c2 S1 S2
      go_enter Try.func46, Try.ntmps46
      go_wp2
      go_end0
      rw [R.out]
      exact ⟨rfl, hO, Turned.refl _ _⟩
    · have l2 := h2 c2
      have l2' : (p : Int) / 64 + 1 < (ys.length : Int) := by omega
      have e2 := hO.cell (p / 64 + 1) l2
      have f2 := hO.frozen (p / 64 + 1)
      have A : (IntKind.u64.wrap ((x : Int) * 2 ^ (p % 64)) != 0) = false := by rw [shl_nat, bne0]; simpa using c1
      have B : ((x : Int) / 2 ^ (64 - p % 64) != 0) = true := by rw [shr_cast, bne0]; simpa using c2
      have R : Hid (putL ys p x = (ys.set (p / 64 + 1) (gt ys (p / 64 + 1) ||| x / 2 ^ (64 - p % 64)))) := by
        unfold putL Hid
        simp only [if_pos c1, if_neg c2]

      have S1 := trivial
      have S2 := u64_or_nat (gt ys (p / 64 + 1)) _ (hf _) (Nat.lt_of_le_of_lt (Nat.div_le_self x (2 ^ (64 - p % 64))) hx)
      have S3 : Hid (True) := S1
      have S4 : Hid (bits .or .u64 (gt ys (p / 64 + 1) : Int) ((x / 2 ^ (64 - p % 64) : Nat) : Int) = ((gt ys (p / 64 + 1) ||| x / 2 ^ (64 - p % 64) : Nat) : Int)) := S2
      clear h1 h2 c1 c2 S1 S2
      go_enter Try.func46, Try.ntmps46
      go_wp2
      go_end0
      rw [R.out, shr_cast, S4.out]
      exact ⟨rfl, hO.set _ _, (Turned.refl _ _).set _ _⟩
  · by_cases c2 : x / 2 ^ (64 - p % 64) = 0
    · have l1 := h1 c1
      have l1' : (p : Int) / 64 < (ys.length : Int) := by omega
      have e1 := hO.cell (p / 64) l1
      have f1 := hO.frozen (p / 64)
      have A : (IntKind.u64.wrap ((x : Int) * 2 ^ (p % 64)) != 0) = true := by rw [shl_nat, bne0]; simpa using c1
      have B : ((x : Int) / 2 ^ (64 - p % 64) != 0) = false := by rw [shr_cast, bne0]; simpa using c2
      have R : Hid (putL ys p x = (ys.set (p / 64) (gt ys (p / 64) ||| x * 2 ^ (p % 64) % 18446744073709551616))) := by
        unfold putL Hid
        simp only [if_neg c1, if_pos c2]

      have S1 := u64_or_nat (gt ys (p / 64)) _ (hf _) (Nat.mod_lt (x * 2 ^ (p % 64)) (show 0 < 18446744073709551616 by decide))
      have S2 := trivial
      have S3 : Hid (bits .or .u64 (gt ys (p / 64) : Int) ((x * 2 ^ (p % 64) % 18446744073709551616 : Nat) : Int) = ((gt ys (p / 64) ||| x * 2 ^ (p % 64) % 18446744073709551616 : Nat) : Int)) := S1
      have S4 : Hid (True) := S2
      clear h1 h2 c1 c2 S1 S2
      go_enter Try.func46, Try.ntmps46
      go_wp2
      go_end0
      rw [R.out, shl_nat, S3.out]
      exact ⟨rfl, hO.set _ _, (Turned.refl _ _).set _ _⟩
    · have l1 := h1 c1
      have l1' : (p : Int) / 64 < (ys.length : Int) := by omega
      have e1 := hO.cell (p / 64) l1
      have f1 := hO.frozen (p / 64)
      have l2 := h2 c2
      have l2' : (p : Int) / 64 + 1 < (ys.length : Int) := by omega
      have e2 := hO.cell (p / 64 + 1) l2
      have f2 := hO.frozen (p / 64 + 1)
      have A : (IntKind.u64.wrap ((x : Int) * 2 ^ (p % 64)) != 0) = true := by rw [shl_nat, bne0]; simpa using c1
      have B : ((x : Int) / 2 ^ (64 - p % 64) != 0) = true := by rw [shr_cast, bne0]; simpa using c2
      have R : Hid (putL ys p x = ((ys.set (p / 64) (gt ys (p / 64) ||| x * 2 ^ (p % 64) % 18446744073709551616)).set (p / 64 + 1) (gt ys (p / 64 + 1) ||| x / 2 ^ (64 - p % 64)))) := by
        unfold putL Hid
        simp only [if_neg c1, if_neg c2]
        rw [gt_set ys _ _ _ l1, if_neg (by omega)]
      have S1 := u64_or_nat (gt ys (p / 64)) _ (hf _) (Nat.mod_lt (x * 2 ^ (p % 64)) (show 0 < 18446744073709551616 by decide))
      have S2 := u64_or_nat (gt ys (p / 64 + 1)) _ (hf _) (Nat.lt_of_le_of_lt (Nat.div_le_self x (2 ^ (64 - p % 64))) hx)
      have S3 : Hid (bits .or .u64 (gt ys (p / 64) : Int) ((x * 2 ^ (p % 64) % 18446744073709551616 : Nat) : Int) = ((gt ys (p / 64) ||| x * 2 ^ (p % 64) % 18446744073709551616 : Nat) : Int)) := S1
      have S4 : Hid (bits .or .u64 (gt ys (p / 64 + 1) : Int) ((x / 2 ^ (64 - p % 64) : Nat) : Int) = ((gt ys (p / 64 + 1) ||| x / 2 ^ (64 - p % 64) : Nat) : Int)) := S2
      clear h1 h2 c1 c2 S1 S2
      go_enter Try.func46, Try.ntmps46
      go_wp2
      go_end0
      rw [R.out, shl_nat, S3.out, shr_cast, S4.out]
      exact ⟨rfl, (hO.set _ _).set _ _, ((Turned.refl _ _).set _ _).set _ _⟩

theorem put_l (ys : List Nat) (l g cap p x : Nat) (w : World) (hl : ys.length = l) (hO : Own w g ys) (hp : p ≤ 2097152) (hf : Fit ys) (hx : x < 18446744073709551616) (hR : Room ys p x) :
    Calls Try.prog 46 #[.slice (some ⟨g, 0, none⟩) l cap, .int .i64 p, .int .u64 x] w fun e w' => e = .returned (.tuple #[]) ∧ Own w' g (putL ys p x) ∧ Turned g w w' := by
  subst hl
  exact put_c ys g cap p x w hO hp hf hx hR

theorem put_i (ys : List Nat) (l g cap p x : Nat) (P : Int) (w : World) (hl : ys.length = l) (hP : P = (p : Int)) (hO : Own w g ys) (hp : p ≤ 2097152) (hf : Fit ys) (hx : x < 18446744073709551616) (hR : Room ys p x) :
    Calls Try.prog 46 #[.slice (some ⟨g, 0, none⟩) l cap, .int .i64 P, .int .u64 x] w fun e w' => e = .returned (.tuple #[]) ∧ Own w' g (putL ys p x) ∧ Turned g w w' := by
  subst hP
  exact put_l ys l g cap p x w hl hO hp hf hx hR

theorem turn_cell {g : Nat} {w w' : World} {o : Obj} (hT : Turned g (w.alloc o).drew w') {b j : Nat} (hb : b < w.heap.size) (hg : b ≠ g) {v : Value} (h : w.cell? ⟨b, j, none⟩ = some v) : w'.cell? ⟨b, j, none⟩ = some v :=
  (hT.cell (p := ⟨b, j, none⟩) hg).trans (((below_alloc w o).drew.cell (p := ⟨b, j, none⟩) hb).trans h)
theorem turn_frozen {g : Nat} {w w' : World} {o : Obj} (hT : Turned g (w.alloc o).drew w') {b j : Nat} (hb : b < w.heap.size) (hg : b ≠ g) {v : Bool} (h : w.frozen? ⟨b, j, none⟩ = v) : w'.frozen? ⟨b, j, none⟩ = v :=
  (hT.frozen (p := ⟨b, j, none⟩) hg).trans (((below_alloc w o).drew.frozen (p := ⟨b, j, none⟩) hb).trans h)
theorem turn_box {g : Nat} {w w' : World} {a b : Value} {T : TypeId} (hT : Turned g (w.alloc (.cells #[a, b] T)).drew w') (hg : w.heap.size ≠ g) : w'.cell? ⟨w.heap.size, 0, none⟩ = some a ∧ w'.cell? ⟨w.heap.size, 1, none⟩ = some b :=
  ⟨(hT.cell (p := ⟨w.heap.size, 0, none⟩) hg).trans (by simp), (hT.cell (p := ⟨w.heap.size, 1, none⟩) hg).trans (by simp)⟩

theorem box_frozen {w w' : World} {a b : Value} {T : TypeId} (hb : Below (w.alloc (.cells #[a, b] T)).heap.size (w.alloc (.cells #[a, b] T)) w') :
    w'.frozen? ⟨w.heap.size, 0, none⟩ = false ∧ w'.frozen? ⟨w.heap.size, 1, none⟩ = false := by
  refine ⟨?_, ?_⟩
  · rw [hb.frozen (p := ⟨w.heap.size, 0, none⟩) (by simp)]; simp
  · rw [hb.frozen (p := ⟨w.heap.size, 1, none⟩) (by simp)]; simp

/-- What a call that makes a row leaves: the words lie in memory of its own, and nothing old has turned. -/
def Out (w w' : World) (ao : Option Addr) (ys : List Nat) (cap : Nat) : Prop := Wd w' ao ys ∧ Fit ys ∧ ys.length ≤ cap ∧ Below w.heap.size w w'

theorem rep_row (n k : Nat) (hk : k = (n + 63) / 64) : List.replicate k 0 = rowOf n (fun _ => false) := by
  refine eq_rowOf n _ _ ?_ (by simp; exact hk) ?_
  · intro i
    unfold gt
    rw [List.getD_eq_getElem?_getD, List.getElem?_replicate]
    split <;> simp
  · intro i _
    unfold bitAt gt
    rw [List.getD_eq_getElem?_getD, List.getElem?_replicate]
    split <;> simp

end Go.Proofs.Ytcjhiolginpgoaa
