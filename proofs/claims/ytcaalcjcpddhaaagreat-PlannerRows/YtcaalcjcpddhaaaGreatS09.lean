/-
  The contracts of the landed sum and with. Plain: the parts of a stable sort in place: what insertion, merging by rotation and blocks make of a row, told as a function of places.
-/
import Derived.Test.YtcaalcjcpddhaaaGreatS07
set_option linter.unusedVariables false
set_option linter.unusedSimpArgs false
set_option maxRecDepth 100000
namespace Go.Proofs.YtcaalcjcpddhaaaGreat.Zz
open Go.RowKit Num Hp
namespace Pn
def sumN (l : List Int) : Nat := if okT l = true then Hv.tot (cntOf l) 256 else 0
theorem okT_over {l : List Int} {q s : Nat} (hq : q < 256) (hs : s = Hv.tot (cntOf l) q) (h : (8192 : Int) - (s : Int) < gi l q) (h0 : ¬ gi l q < 0) : okT l = false := by
 refine Bool.eq_false_iff.2 fun g => ?_
 unfold okT at g
 simp only [Bool.and_eq_true, decide_eq_true_eq] at g
 have a := tot_mono (cntOf l) (show q + 1 ≤ 256 by omega)
 rw [Hv.tot, ← hs] at a
 have b : cntOf l q = (gi l q).toNat := rfl
 omega
end Pn
set_option maxHeartbeats 2000000 in
theorem psum_c (ao : Option Addr) (l : List Int) (cap : Nat) (w : World) (hx : Nd w ao l) (hl : l.length ≤ 1048576) :
  Calls Tryz.prog 47 #[.slice ao l.length cap] w fun e w' => e = .returned (.tuple #[.int .i64 (Pn.sumN l : Nat), .bool (Pn.okT l)]) ∧ w' = w := by
 by_cases k2 : l.length = 256
 ·have k2z : ((l.length : Int) != 256) = false := by simp; omega
  have HK2 := hide k2
  obtain ⟨b, off, rfl, hbw, hcc⟩ := hx (by omega)
  have HCD : Hid (∀ i, i < l.length → w.cell? ⟨b, off + i, none⟩ = some (.int .i64 (gi l i))) := fun i hi => hcc i hi
  have l256 : l.length ≤ 256 := by omega
  clear hcc k2 hx
  go_enter Tryz.func47, Tryz.ntmps47
  go_wp2
  go_loopw [4, 12] (fun vn vi wr => ∃ (q s : Nat), q ≤ l.length ∧ s ≤ 8192 ∧ vi = .int .i64 q ∧ vn = .int .i64 s ∧ Hid (s = Hv.tot (cntOf l) q) ∧ Hid (∀ j, j < q → bad 8192 (gi l j) = false) ∧ wr = w) (fun _ vi _ => l.length - (intOf vi).toNat)
  case atStart => exact ⟨0, 0, Nat.zero_le _, Nat.zero_le _, rfl, rfl, rfl, fun j hj => absurd hj (by omega), rfl⟩
  case round =>
   obtain ⟨q, s, hq, hs, rfl, rfl, HI, H, hw⟩ := hrel
   subst hw
   by_cases hlt : q < l.length
   ·have hltz : (q : Int) < (l.length : Int) := by omega
    have c1 := HCD.out q hlt
    by_cases h1 : gi l q < 0
    ·have HR : Hid (Pn.okT l = false ∧ Pn.sumN l = 0) := by
      have : Pn.okT l = false := by unfold Pn.okT; rw [win_bad hlt (bad_neg (top := 8192) h1)]; rfl
      exact ⟨this, by unfold Pn.sumN; rw [if_neg (by rw [this]; decide)]⟩
     generalize gi l q = x at *
     clear HI H HCD
     go_wp2
     go_ret2
     rw [HR.out.1, HR.out.2]
     exact ⟨rfl, rfl⟩
    ·by_cases h2 : (8192 : Int) - (s : Int) < gi l q
     ·have HR : Hid (Pn.okT l = false ∧ Pn.sumN l = 0) := by
       have : Pn.okT l = false := Pn.okT_over (by omega) HI.out h2 h1
       exact ⟨this, by unfold Pn.sumN; rw [if_neg (by rw [this]; decide)]⟩
      generalize gi l q = x at *
      clear HI H HCD
      go_wp2
      go_ret2
      rw [HR.out.1, HR.out.2]
      exact ⟨rfl, rfl⟩
     ·have HN := hide (more_fine H.out (bad_no h1 (show ¬ (8192 : Int) < gi l q by omega)))
      obtain ⟨y, hy⟩ : ∃ y : Nat, gi l q = y := ⟨(gi l q).toNat, by omega⟩
      have hyc : cntOf l q = y := by unfold cntOf; omega
      have HI1 : Hid (s + y = Hv.tot (cntOf l) (q + 1)) := by show _ = _; rw [Hv.tot, hyc, HI.out]
      rw [hy] at c1 h1 h2
      clear hy hyc H HI
      go_wp2
      exact ⟨⟨q + 1, s + y, by omega, by omega, by go_num, by go_num, HI1, HN, trivial⟩, by simp only [intOf]; omega⟩
   ·obtain rfl : q = l.length := by omega
    have HW : Hid (win l 8192 = true) := by show win l 8192 = true; rw [win_fine H.out]; exact decide_eq_true HK2.out
    have hs2 := HI.out
    rw [HK2.out] at hs2
    have HR : Hid (Pn.okT l = true ∧ Pn.sumN l = s) := by
     have : Pn.okT l = true := by unfold Pn.okT; rw [HW.out, ← hs2, decide_eq_true hs]; rfl
     exact ⟨this, by unfold Pn.sumN; rw [if_pos this, ← hs2]⟩
    clear hs2 HI H HCD
    go_wp2
    go_ret2
    rw [HR.out.1, HR.out.2]
    exact ⟨rfl, rfl⟩
 ·have k2z : ((l.length : Int) != 256) = true := by simp; omega
  have HR : Hid (Pn.okT l = false ∧ Pn.sumN l = 0) := by
   have : win l 8192 = false := by unfold win; simp [k2]
   have : Pn.okT l = false := by unfold Pn.okT; rw [this]; rfl
   exact ⟨this, by unfold Pn.sumN; rw [if_neg (by rw [this]; decide)]⟩
  clear hx k2
  go_enter Tryz.func47, Tryz.ntmps47
  go_wp2
  go_ret2
  rw [HR.out.1, HR.out.2]
  exact ⟨rfl, rfl⟩
set_option maxHeartbeats 2000000 in
theorem pwith_c (a b c : Nat) (t : Bool) (ha : a ≤ 1048576) (hb : b ≤ 1048576) (hc : c ≤ 1048576) (w : World) :
  Calls Tryz.prog 80 #[.agg #[.int .i64 (a : Nat), .int .i64 (b : Nat)], .int .i64 (c : Nat), .bool t] w fun e w' => e = .returned (.agg #[.int .i64 (a + c : Nat), .int .i64 (b + (if t = true then c else 0) : Nat)]) ∧ Below w.heap.size w w' := by
 have hB := hide fun o o' => show Below w.heap.size w ((w.alloc o).alloc o') from (below_alloc w _).alloc (by simp) _
 obtain ⟨d, hd⟩ : ∃ d, d = a + c := ⟨_, rfl⟩
 have hd2 : d ≤ 2097152 := by omega
 have e1 : ((a : Nat) : Int) + (c : Int) = (d : Int) := by omega
 rw [← hd]
 clear hd
 cases t with
 | false =>
  rw [if_neg (by decide), Nat.add_zero]
  go_enter Tryz.func80, Tryz.ntmps80
  go_wp2
  have A := Cel.new2 w (.cells #[.int .i64 d, .int .i64 b] 139) [.int .i64 d, .int .i64 b] 139
  have x0 := A.cell 0 rfl
  have x1 := A.cell 1 rfl
  refine bodyPost_ret (v := .agg #[.int .i64 d, .int .i64 b]) (by simp [results, Tryz.results80, go_sem, x0, x1]) rfl ?_
  exact ⟨rfl, hB.out _ _⟩
 | true =>
  rw [if_pos rfl]
  obtain ⟨f, hf⟩ : ∃ f, f = b + c := ⟨_, rfl⟩
  have hf2 : f ≤ 2097152 := by omega
  have e2 : ((b : Nat) : Int) + (c : Int) = (f : Int) := by omega
  rw [← hf]
  clear hf
  go_enter Tryz.func80, Tryz.ntmps80
  go_wp2
  have A := Cel.new2 w (.cells #[.int .i64 d, .int .i64 f] 139) [.int .i64 d, .int .i64 f] 139
  have x0 := A.cell 0 rfl
  have x1 := A.cell 1 rfl
  refine bodyPost_ret (v := .agg #[.int .i64 d, .int .i64 f]) (by simp [results, Tryz.results80, go_sem, x0, x1]) rfl ?_
  exact ⟨rfl, hB.out _ _⟩
end Go.Proofs.YtcaalcjcpddhaaaGreat.Zz
namespace Go.Proofs.YtcaalcjcpddhaaaGreat.Zz.Sx
variable {α : Type}
structure Im (a b : Nat) (f f' : Nat → α) : Prop where
 out : ∀ k, k < a ∨ b ≤ k → f' k = f k
 inn : ∀ k, a ≤ k → k < b → ∃ j, a ≤ j ∧ j < b ∧ f' k = f j
theorem Im.refl (a b : Nat) (f : Nat → α) : Im a b f f := ⟨fun _ _ => rfl, fun k h1 h2 => ⟨k, h1, h2, rfl⟩⟩
theorem Im.trans {a b : Nat} {f g h : Nat → α} (x : Im a b f g) (y : Im a b g h) : Im a b f h :=
 ⟨fun k hk => (y.out k hk).trans (x.out k hk), fun k h1 h2 => by
  obtain ⟨j, j1, j2, e⟩ := y.inn k h1 h2
  obtain ⟨i, i1, i2, e2⟩ := x.inn j j1 j2
  exact ⟨i, i1, i2, e.trans e2⟩⟩
theorem Im.wide {a b a' b' : Nat} {f g : Nat → α} (x : Im a b f g) (h1 : a' ≤ a) (h2 : b ≤ b') : Im a' b' f g :=
 ⟨fun k hk => x.out k (by omega), fun k g1 g2 => by
  by_cases c : a ≤ k ∧ k < b
  ·obtain ⟨j, j1, j2, e⟩ := x.inn k c.1 c.2
   exact ⟨j, by omega, by omega, e⟩
  ·exact ⟨k, g1, g2, x.out k (by omega)⟩⟩
def swp (f : Nat → α) (i j : Nat) : Nat → α := fun k => if k = i then f j else if k = j then f i else f k
def Up (lt : α → α → Prop) (a b : Nat) (f : Nat → α) : Prop := ∀ i j, a ≤ i → i < j → j < b → lt (f i) (f j)
theorem Up.cut {lt : α → α → Prop} {a b a' b' : Nat} {f : Nat → α} (h : Up lt a b f) (h1 : a ≤ a') (h2 : b' ≤ b) : Up lt a' b' f := fun i j g1 g2 g3 => h i j (by omega) g2 (by omega)
theorem Up.same {lt : α → α → Prop} {a b : Nat} {f g : Nat → α} (h : Up lt a b f) (e : ∀ k, a ≤ k → k < b → g k = f k) : Up lt a b g := fun i j g1 g2 g3 => by
 rw [e i g1 (by omega), e j (by omega) g3]; exact h i j g1 g2 g3
def Cr (c : α → α → Bool) (lt : α → α → Prop) (x y : α) : Prop := (c y x = true → lt y x) ∧ (c y x = false → lt x y)
section ins
variable {c : α → α → Bool} {lt : α → α → Prop} (tr : ∀ x y z, lt x y → lt y z → lt x z)
structure Ins (lt : α → α → Prop) (a i j : Nat) (f0 f : Nat → α) : Prop where
 le : a ≤ j ∧ j ≤ i
 out : ∀ k, k < a ∨ i < k → f k = f0 k
 x : f j = f0 i
 up : ∀ p q, a ≤ p → p < q → q ≤ i → q ≠ j → lt (f p) (f q)
 low : ∀ p, a ≤ p → p ≤ i → p ≠ j → ∃ k, a ≤ k ∧ k < i ∧ f p = f0 k
theorem Ins.start {a i : Nat} {f0 f : Nat → α} (ha : a ≤ i) (im : Im a i f0 f) (up : Up lt a i f) : Ins lt a i i f0 f :=
 ⟨⟨ha, Nat.le_refl _⟩, fun k hk => im.out k (by omega), im.out i (by omega), fun p q h1 h2 h3 h4 => up p q h1 h2 (by omega), fun p h1 h2 h3 => im.inn p h1 (by omega)⟩
theorem Ins.step {a b i j : Nat} {f0 f : Nat → α} (h : Ins lt a i (j + 1) f0 f) (ha : a ≤ j) (hb : i < b) (cr : ∀ p q, a ≤ p → p < q → q < b → Cr c lt (f0 p) (f0 q)) (hc : c (f (j + 1)) (f j) = true) : Ins lt a i j f0 (swp f (j + 1) j) := by
 have hl := h.le
 have e1 : swp f (j + 1) j (j + 1) = f j := by unfold swp; rw [if_pos rfl]
 have e2 : swp f (j + 1) j j = f (j + 1) := by unfold swp; rw [if_neg (by omega), if_pos rfl]
 have e3 : ∀ k, k ≠ j → k ≠ j + 1 → swp f (j + 1) j k = f k := fun k h1 h2 => by unfold swp; rw [if_neg h2, if_neg h1]
 have L : lt (f (j + 1)) (f j) := by
  obtain ⟨k, k1, k2, ek⟩ := h.low j ha (by omega) (by omega)
  rw [ek, h.x] at hc ⊢
  exact (cr k i k1 k2 hb).1 hc
 refine ⟨⟨ha, by omega⟩, fun k hk => by rw [e3 k (by omega) (by omega)]; exact h.out k hk, by rw [e2]; exact h.x, ?_, ?_⟩
 ·intro p q h1 h2 h3 h4
  by_cases c1 : q = j + 1
  ·subst c1
   rw [e1]
   by_cases c2 : p = j
   ·subst c2; rw [e2]; exact L
   ·rw [e3 p c2 (by omega)]; exact h.up p j h1 (by omega) (by omega) (by omega)
  ·rw [e3 q h4 c1]
   by_cases c2 : p = j
   ·subst c2; rw [e2]; exact h.up (p + 1) q (by omega) (by omega) h3 c1
   ·by_cases c3 : p = j + 1
    ·subst c3; rw [e1]; exact h.up j q ha (by omega) h3 c1
    ·rw [e3 p c2 c3]; exact h.up p q h1 h2 h3 c1
 ·intro p h1 h2 h3
  by_cases c3 : p = j + 1
  ·subst c3; rw [e1]; exact h.low j ha (by omega) (by omega)
  ·rw [e3 p h3 c3]; exact h.low p h1 h2 c3
include tr in
theorem Ins.stop {a b i j : Nat} {f0 f : Nat → α} (h : Ins lt a i j f0 f) (hb : i < b) (cr : ∀ p q, a ≤ p → p < q → q < b → Cr c lt (f0 p) (f0 q)) (hc : j = a ∨ c (f j) (f (j - 1)) = false) : Im a (i + 1) f0 f ∧ Up lt a (i + 1) f := by
 have hl := h.le
 refine ⟨⟨fun k hk => h.out k (by omega), fun k h1 h2 => ?_⟩, ?_⟩
 ·by_cases e : k = j
  ·subst e; exact ⟨i, by omega, by omega, h.x⟩
  ·obtain ⟨k', k1, k2, ek⟩ := h.low k h1 (by omega) e
   exact ⟨k', k1, by omega, ek⟩
 ·intro p q h1 h2 h3
  by_cases e : q = j
  ·subst e
   rcases hc with hc | hc
   ·omega
   ·have L : lt (f (q - 1)) (f q) := by
     obtain ⟨k, k1, k2, ek⟩ := h.low (q - 1) (by omega) (by omega) (by omega)
     rw [ek, h.x] at hc ⊢
     exact (cr k i k1 k2 hb).2 hc
    by_cases e2 : p = q - 1
    ·rw [e2]; exact L
    ·exact tr _ _ _ (h.up p (q - 1) h1 (by omega) (by omega) (by omega)) L
  ·exact h.up p q h1 h2 (by omega) e
end ins
section merge
variable {c : α → α → Bool} {lt : α → α → Prop} (tr : ∀ x y z, lt x y → lt y z → lt x z)
structure Mg (c : α → α → Bool) (lt : α → α → Prop) (a m b : Nat) (f : Nat → α) : Prop where
 upl : Up lt a m f
 upr : Up lt m b f
 cr : ∀ p q, a ≤ p → p < m → m ≤ q → q < b → Cr c lt (f p) (f q)
structure B1 (lt : α → α → Prop) (a m b i j : Nat) (f : Nat → α) : Prop where
 le : m ≤ i ∧ i ≤ j ∧ j ≤ b
 lo : ∀ q, m ≤ q → q < i → lt (f q) (f a)
 hi : ∀ q, j ≤ q → q < b → lt (f a) (f q)
theorem B1.start (lt : α → α → Prop) (a m b : Nat) (f : Nat → α) (h : m ≤ b) : B1 lt a m b m b f := ⟨⟨Nat.le_refl _, h, Nat.le_refl _⟩, fun q h1 h2 => by omega, fun q h1 h2 => by omega⟩
include tr in
theorem B1.up {a m b i j h : Nat} {f : Nat → α} (M : Mg c lt a m b f) (B : B1 lt a m b i j f) (am : a < m) (h1 : i ≤ h) (h2 : h < j) (hc : c (f h) (f a) = true) : B1 lt a m b (h + 1) j f := by
 have hl := B.le
 have L := (M.cr a h (by omega) am (by omega) (by omega)).1 hc
 refine ⟨by omega, fun q g1 g2 => ?_, B.hi⟩
 by_cases e : q = h
 ·rw [e]; exact L
 ·exact tr _ _ _ (M.upr q h g1 (by omega) (by omega)) L
include tr in
theorem B1.down {a m b i j h : Nat} {f : Nat → α} (M : Mg c lt a m b f) (B : B1 lt a m b i j f) (am : a < m) (h1 : i ≤ h) (h2 : h < j) (hc : c (f h) (f a) = false) : B1 lt a m b i h f := by
 have hl := B.le
 have L := (M.cr a h (by omega) am (by omega) (by omega)).2 hc
 refine ⟨by omega, B.lo, fun q g1 g2 => ?_⟩
 by_cases e : q = h
 ·rw [e]; exact L
 ·exact tr _ _ _ L (M.upr h q (by omega) (by omega) g2)
def shl (f : Nat → α) (a k : Nat) : Nat → α := fun p => if a ≤ p ∧ p < k then f (p + 1) else if p = k then f a else f p
theorem shl_start (f : Nat → α) (a : Nat) : shl f a a = f := by
 funext p; unfold shl; rw [if_neg (by omega)]; split
 ·rename_i h; rw [h]
 ·rfl
theorem shl_step (f : Nat → α) (a k : Nat) (h : a ≤ k) : swp (shl f a k) k (k + 1) = shl f a (k + 1) := by
 funext p; unfold swp shl
 by_cases c1 : p = k
 ·subst c1
  rw [if_pos rfl, if_neg (by omega), if_neg (by omega), if_pos (by omega)]
 ·by_cases c2 : p = k + 1
  ·subst c2
   rw [if_neg (by omega), if_pos rfl, if_neg (by omega), if_pos rfl, if_neg (by omega), if_pos rfl]
  ·rw [if_neg c1, if_neg c2]
   by_cases c3 : a ≤ p ∧ p < k
   ·rw [if_pos c3, if_pos (by omega)]
   ·rw [if_neg c3, if_neg c1, if_neg (by omega), if_neg c2]
theorem B1.done {a b i : Nat} {f : Nat → α} (M : Mg c lt a (a + 1) b f) (B : B1 lt a (a + 1) b i i f) : Im a b f (shl f a (i - 1)) ∧ Up lt a b (shl f a (i - 1)) := by
 have hl := B.le
 have e1 : ∀ p, a ≤ p → p < i - 1 → shl f a (i - 1) p = f (p + 1) := fun p h1 h2 => by unfold shl; rw [if_pos ⟨h1, h2⟩]
 have e2 : shl f a (i - 1) (i - 1) = f a := by unfold shl; rw [if_neg (by omega), if_pos rfl]
 have e3 : ∀ p, p < a ∨ i ≤ p → shl f a (i - 1) p = f p := fun p h => by unfold shl; rw [if_neg (by omega), if_neg (by omega)]
 refine ⟨⟨fun k hk => e3 k (by omega), fun k h1 h2 => ?_⟩, fun p q h1 h2 h3 => ?_⟩
 ·by_cases c1 : k < i - 1
  ·exact ⟨k + 1, by omega, by omega, e1 k h1 c1⟩
  ·by_cases c2 : k = i - 1
   ·rw [c2, e2]; exact ⟨a, Nat.le_refl _, by omega, rfl⟩
   ·exact ⟨k, h1, h2, e3 k (by omega)⟩
 ·by_cases c1 : q < i - 1
  ·rw [e1 p h1 (by omega), e1 q (by omega) c1]; exact M.upr _ _ (by omega) (by omega) (by omega)
  ·by_cases c2 : q = i - 1
   ·rw [c2, e2, e1 p h1 (by omega)]; exact B.lo _ (by omega) (by omega)
   ·rw [e3 q (by omega)]
    by_cases c3 : p < i - 1
    ·rw [e1 p h1 c3]; exact M.upr _ _ (by omega) (by omega) (by omega)
    ·by_cases c4 : p = i - 1
     ·rw [c4, e2]; exact B.hi q (by omega) h3
     ·rw [e3 p (by omega)]; exact M.upr _ _ (by omega) (by omega) (by omega)
structure B2 (lt : α → α → Prop) (a m i j : Nat) (f : Nat → α) : Prop where
 le : a ≤ i ∧ i ≤ j ∧ j ≤ m
 lo : ∀ q, a ≤ q → q < i → lt (f q) (f m)
 hi : ∀ q, j ≤ q → q < m → lt (f m) (f q)
theorem B2.start (lt : α → α → Prop) (a m : Nat) (f : Nat → α) (h : a ≤ m) : B2 lt a m a m f := ⟨⟨Nat.le_refl _, h, Nat.le_refl _⟩, fun q h1 h2 => by omega, fun q h1 h2 => by omega⟩
include tr in
theorem B2.up {a m b i j h : Nat} {f : Nat → α} (M : Mg c lt a m b f) (B : B2 lt a m i j f) (mb : m < b) (h1 : i ≤ h) (h2 : h < j) (hc : c (f m) (f h) = false) : B2 lt a m (h + 1) j f := by
 have hl := B.le
 have L := (M.cr h m (by omega) (by omega) (by omega) mb).2 hc
 refine ⟨by omega, fun q g1 g2 => ?_, B.hi⟩
 by_cases e : q = h
 ·rw [e]; exact L
 ·exact tr _ _ _ (M.upl q h g1 (by omega) (by omega)) L
include tr in
theorem B2.down {a m b i j h : Nat} {f : Nat → α} (M : Mg c lt a m b f) (B : B2 lt a m i j f) (mb : m < b) (h1 : i ≤ h) (h2 : h < j) (hc : c (f m) (f h) = true) : B2 lt a m i h f := by
 have hl := B.le
 have L := (M.cr h m (by omega) (by omega) (by omega) mb).1 hc
 refine ⟨by omega, B.lo, fun q g1 g2 => ?_⟩
 by_cases e : q = h
 ·rw [e]; exact L
 ·exact tr _ _ _ L (M.upl h q (by omega) (by omega) g2)
def shr (f : Nat → α) (m k : Nat) : Nat → α := fun p => if k < p ∧ p ≤ m then f (p - 1) else if p = k then f m else f p
theorem shr_start (f : Nat → α) (m : Nat) : shr f m m = f := by
 funext p; unfold shr; rw [if_neg (by omega)]; split
 ·rename_i h; rw [h]
 ·rfl
theorem shr_step (f : Nat → α) (m k : Nat) (h : k + 1 ≤ m) : swp (shr f m (k + 1)) (k + 1) k = shr f m k := by
 funext p; unfold swp shr
 by_cases c1 : p = k + 1
 ·subst c1
  rw [if_pos rfl, if_neg (by omega), if_neg (by omega), if_pos (by omega), Nat.add_sub_cancel]
 ·by_cases c2 : p = k
  ·subst c2
   rw [if_neg (by omega), if_pos rfl, if_neg (by omega), if_pos rfl, if_neg (by omega), if_pos rfl]
  ·rw [if_neg c1, if_neg c2]
   by_cases c3 : k + 1 < p ∧ p ≤ m
   ·rw [if_pos c3, if_pos (by omega)]
   ·rw [if_neg c3, if_neg c1, if_neg (by omega), if_neg c2]
theorem B2.done {a m i : Nat} {f : Nat → α} (M : Mg c lt a m (m + 1) f) (B : B2 lt a m i i f) : Im a (m + 1) f (shr f m i) ∧ Up lt a (m + 1) (shr f m i) := by
 have hl := B.le
 have e1 : ∀ p, i < p → p ≤ m → shr f m i p = f (p - 1) := fun p h1 h2 => by unfold shr; rw [if_pos ⟨h1, h2⟩]
 have e2 : shr f m i i = f m := by unfold shr; rw [if_neg (by omega), if_pos rfl]
 have e3 : ∀ p, p < i ∨ m < p → shr f m i p = f p := fun p h => by unfold shr; rw [if_neg (by omega), if_neg (by omega)]
 refine ⟨⟨fun k hk => e3 k (by omega), fun k h1 h2 => ?_⟩, fun p q h1 h2 h3 => ?_⟩
 ·by_cases c1 : i < k
  ·exact ⟨k - 1, by omega, by omega, e1 k c1 (by omega)⟩
  ·by_cases c2 : k = i
   ·rw [c2, e2]; exact ⟨m, by omega, by omega, rfl⟩
   ·exact ⟨k, h1, h2, e3 k (by omega)⟩
 ·by_cases c1 : p < i
  ·rw [e3 p (by omega)]
   by_cases c2 : q < i
   ·rw [e3 q (by omega)]; exact M.upl _ _ h1 h2 (by omega)
   ·by_cases c3 : q = i
    ·rw [c3, e2]; exact B.lo p h1 c1
    ·rw [e1 q (by omega) (by omega)]; exact M.upl _ _ h1 (by omega) (by omega)
  ·rw [e1 q (by omega) (by omega)]
   by_cases c3 : p = i
   ·rw [c3, e2]; exact B.hi _ (by omega) (by omega)
   ·rw [e1 p (by omega) (by omega)]; exact M.upl _ _ (by omega) (by omega) (by omega)
def swr (f : Nat → α) (a b t : Nat) : Nat → α := fun p => if a ≤ p ∧ p < a + t then f (p - a + b) else if b ≤ p ∧ p < b + t then f (p - b + a) else f p
theorem swr_start (f : Nat → α) (a b : Nat) : swr f a b 0 = f := by
 funext p; unfold swr; rw [if_neg (by omega), if_neg (by omega)]
theorem swr_step (f : Nat → α) (a b t : Nat) (h : a + t < b) : swp (swr f a b t) (a + t) (b + t) = swr f a b (t + 1) := by
 funext p; unfold swp swr
 by_cases c1 : p = a + t
 ·subst c1
  rw [if_pos rfl, if_neg (by omega), if_neg (by omega), if_pos (by omega)]
  congr 1; omega
 ·by_cases c2 : p = b + t
  ·subst c2
   rw [if_neg c1, if_pos rfl, if_neg (by omega), if_neg (by omega), if_neg (by omega), if_pos (by omega)]
   congr 1; omega
  ·rw [if_neg c1, if_neg c2]
   by_cases c3 : a ≤ p ∧ p < a + t
   ·rw [if_pos c3, if_pos (by omega)]
   ·rw [if_neg c3, if_neg (show ¬ (a ≤ p ∧ p < a + (t + 1)) by omega)]
    by_cases c4 : b ≤ p ∧ p < b + t
    ·rw [if_pos c4, if_pos (by omega)]
    ·rw [if_neg c4, if_neg (by omega)]
def rot (f : Nat → α) (a m b : Nat) : Nat → α := fun p => if a ≤ p ∧ p < a + (b - m) then f (p + (m - a)) else if a + (b - m) ≤ p ∧ p < b then f (p - (b - m)) else f p
theorem rot_left (f : Nat → α) (m i j : Nat) (hi : i ≤ m) (h0 : 0 < j) (h : j < i) : rot (swr f (m - i) m j) (m - (i - j)) m (m + j) = rot f (m - i) m (m + j) := by
 funext p
 unfold rot
 by_cases c1 : m - i ≤ p ∧ p < m - i + (m + j - m)
 ·rw [if_neg (by omega), if_neg (by omega), if_pos c1]
  unfold swr
  rw [if_pos (by omega)]
  congr 1; omega
 ·rw [if_neg c1]
  by_cases c2 : m - i + (m + j - m) ≤ p ∧ p < m + j
  ·rw [if_pos c2]
   by_cases c3 : p < m - (i - j) + (m + j - m)
   ·rw [if_pos (by omega)]
    unfold swr
    rw [if_neg (by omega), if_pos (by omega)]
    congr 1; omega
   ·rw [if_neg (by omega), if_pos (by omega)]
    unfold swr
    rw [if_neg (by omega), if_neg (by omega)]
  ·rw [if_neg c2, if_neg (by omega), if_neg (by omega)]
   unfold swr
   rw [if_neg (by omega), if_neg (by omega)]
theorem rot_right (f : Nat → α) (m i j : Nat) (hi : i ≤ m) (h0 : 0 < i) (h : i < j) : rot (swr f (m - i) (m + j - i) i) (m - i) m (m + (j - i)) = rot f (m - i) m (m + j) := by
 funext p
 unfold rot
 by_cases c1 : m - i ≤ p ∧ p < m - i + (m + j - m)
 ·rw [if_pos c1]
  by_cases c3 : p < m - i + (m + (j - i) - m)
  ·rw [if_pos (by omega)]
   unfold swr
   rw [if_neg (by omega), if_neg (by omega)]
  ·rw [if_neg (by omega), if_pos (by omega)]
   unfold swr
   rw [if_pos (by omega)]
   congr 1; omega
 ·rw [if_neg c1]
  by_cases c2 : m - i + (m + j - m) ≤ p ∧ p < m + j
  ·rw [if_pos c2, if_neg (by omega), if_neg (by omega)]
   unfold swr
   rw [if_neg (by omega), if_pos (by omega)]
   congr 1; omega
  ·rw [if_neg c2, if_neg (by omega), if_neg (by omega)]
   unfold swr
   rw [if_neg (by omega), if_neg (by omega)]
theorem rot_same (f : Nat → α) (m i : Nat) (hi : i ≤ m) : swr f (m - i) m i = rot f (m - i) m (m + i) := by
 funext p
 unfold rot swr
 by_cases c1 : m - i ≤ p ∧ p < m - i + i
 ·rw [if_pos c1, if_pos (by omega)]; congr 1; omega
 ·rw [if_neg c1, if_neg (show ¬ (m - i ≤ p ∧ p < m - i + (m + i - m)) by omega)]
  by_cases c2 : m ≤ p ∧ p < m + i
  ·rw [if_pos c2, if_pos (by omega)]; congr 1; omega
  ·rw [if_neg c2, if_neg (by omega)]
theorem rot_none (f : Nat → α) (a m b : Nat) (h1 : a ≤ m) (h2 : m ≤ b) (h : a = m ∨ m = b) : rot f a m b = f := by
 funext p
 unfold rot
 rcases h with rfl | rfl
 ·by_cases c1 : a ≤ p ∧ p < a + (b - a)
  ·rw [if_pos c1]; congr 1; omega
  ·rw [if_neg c1, if_neg (by omega)]
 ·rw [if_neg (by omega)]
  by_cases c1 : a + (m - m) ≤ p ∧ p < m
  ·rw [if_pos c1]; congr 1; omega
  ·rw [if_neg c1]
structure B3 (lt : α → α → Prop) (p s0 r0 s r : Nat) (f : Nat → α) : Prop where
 le : s0 ≤ s ∧ s ≤ r ∧ r ≤ r0
 lo : ∀ q, s0 ≤ q → q < s → lt (f q) (f (p - q))
 hi : ∀ q, r ≤ q → q < r0 → lt (f (p - q)) (f q)
theorem B3.start (lt : α → α → Prop) (p s0 r0 : Nat) (f : Nat → α) (h : s0 ≤ r0) : B3 lt p s0 r0 s0 r0 f := ⟨⟨Nat.le_refl _, h, Nat.le_refl _⟩, fun q h1 h2 => by omega, fun q h1 h2 => by omega⟩
structure Bd (a m b mid s0 r0 : Nat) : Prop where
 md : a < mid ∧ mid < b
 am : a < m ∧ m < b
 c : (mid < m ∧ s0 = mid + m - b ∧ r0 = mid ∧ b ≤ mid + m) ∨ (m ≤ mid ∧ s0 = a ∧ r0 = m)
 half : a + b ≤ 2 * mid + 1 ∧ 2 * mid ≤ a + b
include tr in
theorem B3.up {a m b mid s0 r0 s r h : Nat} {f : Nat → α} (M : Mg c lt a m b f) (D : Bd a m b mid s0 r0) (B : B3 lt (mid + m - 1) s0 r0 s r f) (h1 : s ≤ h) (h2 : h < r) (hc : c (f (mid + m - 1 - h)) (f h) = false) : B3 lt (mid + m - 1) s0 r0 (h + 1) r f := by
 have hl := B.le
 have hm := D.md
 have ha := D.am
 have hh := D.half
 have hq : a ≤ h ∧ h < m ∧ m ≤ mid + m - 1 - h ∧ mid + m - 1 - h < b := by rcases D.c with d | d <;> omega
 have L := (M.cr h (mid + m - 1 - h) hq.1 hq.2.1 hq.2.2.1 hq.2.2.2).2 hc
 refine ⟨by omega, fun q g1 g2 => ?_, B.hi⟩
 by_cases e : q = h
 ·rw [e]; exact L
 ·have hs : a ≤ q ∧ mid + m - 1 - q < b := by rcases D.c with d | d <;> omega
  exact tr _ _ _ (M.upl q h hs.1 (by omega) hq.2.1) (tr _ _ _ L (M.upr _ _ hq.2.2.1 (by omega) hs.2))
include tr in
theorem B3.down {a m b mid s0 r0 s r h : Nat} {f : Nat → α} (M : Mg c lt a m b f) (D : Bd a m b mid s0 r0) (B : B3 lt (mid + m - 1) s0 r0 s r f) (h1 : s ≤ h) (h2 : h < r) (hc : c (f (mid + m - 1 - h)) (f h) = true) : B3 lt (mid + m - 1) s0 r0 s h f := by
 have hl := B.le
 have hm := D.md
 have ha := D.am
 have hh := D.half
 have hq : a ≤ h ∧ h < m ∧ m ≤ mid + m - 1 - h ∧ mid + m - 1 - h < b := by rcases D.c with d | d <;> omega
 have L := (M.cr h (mid + m - 1 - h) hq.1 hq.2.1 hq.2.2.1 hq.2.2.2).1 hc
 refine ⟨by omega, B.lo, fun q g1 g2 => ?_⟩
 by_cases e : q = h
 ·rw [e]; exact L
 ·have hs : q < m ∧ m ≤ mid + m - 1 - q := by rcases D.c with d | d <;> omega
  exact tr _ _ _ (M.upr _ _ hs.2 (by omega) hq.2.2.2) (tr _ _ _ L (M.upl h q hq.1 (by omega) hs.1))
structure Sp (c : α → α → Bool) (lt : α → α → Prop) (a s mid e b : Nat) (f g : Nat → α) : Prop where
 im : Im a b f g
 l : Mg c lt a s mid g
 r : Mg c lt mid e b g
 lr : ∀ p q, a ≤ p → p < mid → mid ≤ q → q < b → lt (g p) (g q)
 le : a ≤ s ∧ s ≤ mid ∧ mid ≤ e ∧ e ≤ b
include tr in
theorem split {a m b mid s0 r0 s : Nat} {f : Nat → α} (M : Mg c lt a m b f) (D : Bd a m b mid s0 r0) (B : B3 lt (mid + m - 1) s0 r0 s s f) : Sp c lt a s mid (mid + m - s) b f (rot f s m (mid + m - s)) := by
 have hl := B.le
 have hm := D.md
 have ha := D.am
 have hh := D.half
 have hs : a ≤ s ∧ s ≤ mid ∧ s ≤ m ∧ m ≤ mid + m - s ∧ mid + m - s ≤ b := by rcases D.c with d | d <;> omega
 have e1 : ∀ p, p < s ∨ mid + m - s ≤ p → rot f s m (mid + m - s) p = f p := fun p h => by unfold rot; rw [if_neg (by omega), if_neg (by omega)]
 have e2 : ∀ p, s ≤ p → p < mid → rot f s m (mid + m - s) p = f (p + (m - s)) := fun p h1 h2 => by unfold rot; rw [if_pos (by omega)]
 have e3 : ∀ p, mid ≤ p → p < mid + m - s → rot f s m (mid + m - s) p = f (p - (mid - s)) := fun p h1 h2 => by
  unfold rot; rw [if_neg (by omega), if_pos (by omega)]; congr 1; omega
 -- the left's low against the right's high, the right's low against the left's high
 have X : ∀ p q, a ≤ p → p < s → mid + m - s ≤ q → q < b → lt (f p) (f q) := fun p q h1 h2 h3 h4 => by
  have hs0 : s0 ≤ s - 1 := by rcases D.c with d | d <;> omega
  have L := B.lo (s - 1) hs0 (by omega)
  rw [show mid + m - 1 - (s - 1) = mid + m - s by omega] at L
  have L2 : lt (f p) (f (mid + m - s)) := by
   by_cases e : p = s - 1
   ·rw [e]; exact L
   ·exact tr _ _ _ (M.upl p (s - 1) h1 (by omega) (by omega)) L
  by_cases e : q = mid + m - s
  ·rw [e]; exact L2
  ·exact tr _ _ _ L2 (M.upr _ q (by omega) (by omega) h4)
 have Y : ∀ p q, s ≤ p → p < m → m ≤ q → q < mid + m - s → lt (f q) (f p) := fun p q h1 h2 h3 h4 => by
  have hr0 : s < r0 := by rcases D.c with d | d <;> omega
  have L := B.hi s (Nat.le_refl _) hr0
  have L2 : lt (f (mid + m - 1 - s)) (f p) := by
   by_cases e : p = s
   ·rw [e]; exact L
   ·exact tr _ _ _ L (M.upl s p (by omega) (by omega) h2)
  by_cases e : q = mid + m - 1 - s
  ·rw [e]; exact L2
  ·exact tr _ _ _ (M.upr q _ h3 (by omega) (by omega)) L2
 refine ⟨⟨fun k hk => e1 k (by omega), fun k h1 h2 => ?_⟩, ⟨?_, ?_, ?_⟩, ⟨?_, ?_, ?_⟩, ?_, by omega⟩
 ·by_cases c1 : s ≤ k ∧ k < mid
  ·exact ⟨_, by omega, by omega, e2 k c1.1 c1.2⟩
  ·by_cases c2 : mid ≤ k ∧ k < mid + m - s
   ·exact ⟨_, by omega, by omega, e3 k c2.1 c2.2⟩
   ·exact ⟨k, h1, h2, e1 k (by omega)⟩
 ·exact (M.upl.cut (Nat.le_refl _) (by omega)).same fun k h1 h2 => e1 k (by omega)
 ·intro i j g1 g2 g3
  rw [e2 i g1 (by omega), e2 j (by omega) g3]
  exact M.upr _ _ (by omega) (by omega) (by omega)
 ·intro p q h1 h2 h3 h4
  rw [e1 p (by omega), e2 q h3 h4]
  exact M.cr _ _ h1 (by omega) (by omega) (by omega)
 ·intro i j g1 g2 g3
  rw [e3 i g1 (by omega), e3 j (by omega) g3]
  exact M.upl _ _ (by omega) (by omega) (by omega)
 ·exact (M.upr.cut (by omega) (Nat.le_refl _)).same fun k h1 h2 => e1 k (by omega)
 ·intro p q h1 h2 h3 h4
  rw [e3 p h1 h2, e1 q (by omega)]
  exact M.cr _ _ (by omega) (by omega) (by omega) h4
 ·intro p q h1 h2 h3 h4
  by_cases c1 : p < s
  ·rw [e1 p (by omega)]
   by_cases c2 : q < mid + m - s
   ·rw [e3 q h3 c2]; exact M.upl _ _ h1 (by omega) (by omega)
   ·rw [e1 q (by omega)]; exact X p q h1 c1 (by omega) h4
  ·rw [e2 p (by omega) h2]
   by_cases c2 : q < mid + m - s
   ·rw [e3 q h3 c2]; exact Y _ _ (by omega) (by omega) (by omega) (by omega)
   ·rw [e1 q (by omega)]; exact M.upr _ _ (by omega) (by omega) h4
theorem Mg.none {a m b : Nat} {f : Nat → α} (M : Mg c lt a m b f) (h1 : a ≤ m) (h2 : m ≤ b) (h : ¬ (a < m ∧ m < b)) : Im a b f f ∧ Up lt a b f := by
 refine ⟨Im.refl _ _ _, ?_⟩
 by_cases e : a = m
 ·rw [e]; exact M.upr
 ·rw [show b = m by omega]; exact M.upl
theorem Sp.done {a s mid e b : Nat} {f g g1 g2 : Nat → α} (S : Sp c lt a s mid e b f g) (i1 : Im a mid g g1) (u1 : Up lt a mid g1) (i2 : Im mid b g1 g2) (u2 : Up lt mid b g2) : Im a b f g2 ∧ Up lt a b g2 := by
 have hl := S.le
 refine ⟨S.im.trans ((i1.wide (Nat.le_refl _) (by omega)).trans (i2.wide (by omega) (Nat.le_refl _))), fun p q h1 h2 h3 => ?_⟩
 by_cases c1 : q < mid
 ·rw [i2.out p (by omega), i2.out q (by omega)]; exact u1 p q h1 h2 c1
 ·by_cases c2 : p < mid
  ·rw [i2.out p (by omega)]
   obtain ⟨p', p1, p2, ep⟩ := i1.inn p h1 c2
   obtain ⟨q', q1, q2, eq⟩ := i2.inn q (by omega) h3
   rw [ep, eq, i1.out q' (by omega)]
   exact S.lr p' q' p1 p2 q1 q2
  ·exact u2 p q (by omega) h2 h3
theorem Sp.right {a s mid e b : Nat} {f g g1 : Nat → α} (S : Sp c lt a s mid e b f g) (i1 : Im a mid g g1) : Mg c lt mid e b g1 := by
 have hl := S.le
 refine ⟨S.r.upl.same fun k h1 h2 => i1.out k (by omega), S.r.upr.same fun k h1 h2 => i1.out k (by omega), fun p q h1 h2 h3 h4 => ?_⟩
 rw [i1.out p (by omega), i1.out q (by omega)]
 exact S.r.cr p q h1 h2 h3 h4
end merge
section blocks
variable {c : α → α → Bool} {lt : α → α → Prop} (tr : ∀ x y z, lt x y → lt y z → lt x z)
structure Sg (lt : α → α → Prop) (lo hi : Nat) (f0 f : Nat → α) : Prop where
 inn : ∀ k, lo ≤ k → k < hi → ∃ j, lo ≤ j ∧ j < hi ∧ f k = f0 j
 up : Up lt lo hi f
theorem Sg.same {lo hi : Nat} {f0 f g : Nat → α} (h : Sg lt lo hi f0 f) (e : ∀ k, lo ≤ k → k < hi → g k = f k) : Sg lt lo hi f0 g :=
 ⟨fun k h1 h2 => by rw [e k h1 h2]; exact h.inn k h1 h2, h.up.same e⟩
theorem Sg.of {lo hi : Nat} {f0 f g : Nat → α} (e : ∀ k, lo ≤ k → k < hi → f k = f0 k) (im : Im lo hi f g) (up : Up lt lo hi g) : Sg lt lo hi f0 g :=
 ⟨fun k h1 h2 => by
  obtain ⟨j, j1, j2, ej⟩ := im.inn k h1 h2
  exact ⟨j, j1, j2, ej.trans (e j j1 j2)⟩, up⟩
theorem Sg.mg {a m b : Nat} {f0 f : Nat → α} (x : Sg lt a m f0 f) (y : Sg lt m b f0 f) (n : Nat) (hb : b ≤ n) (cr : ∀ p q, p < q → q < n → Cr c lt (f0 p) (f0 q)) : Mg c lt a m b f :=
 ⟨x.up, y.up, fun p q h1 h2 h3 h4 => by
  obtain ⟨p', p1, p2, ep⟩ := x.inn p h1 h2
  obtain ⟨q', q1, q2, eq⟩ := y.inn q h3 h4
  rw [ep, eq]
  exact cr p' q' (by omega) (by omega)⟩
theorem Sg.merged {a m b : Nat} {f0 f g : Nat → α} (x : Sg lt a m f0 f) (y : Sg lt m b f0 f) (am : a ≤ m) (mb : m ≤ b) (im : Im a b f g) (up : Up lt a b g) : Sg lt a b f0 g :=
 ⟨fun k h1 h2 => by
  obtain ⟨j, j1, j2, ej⟩ := im.inn k h1 h2
  by_cases c1 : j < m
  ·obtain ⟨i, i1, i2, ei⟩ := x.inn j j1 c1
   exact ⟨i, i1, by omega, ej.trans ei⟩
  ·obtain ⟨i, i1, i2, ei⟩ := y.inn j (by omega) j2
   exact ⟨i, by omega, i2, ej.trans ei⟩, up⟩
structure Bk (lt : α → α → Prop) (s n : Nat) (f0 f : Nat → α) : Prop where
 out : ∀ k, n ≤ k → f k = f0 k
 sg : ∀ lo, s ∣ lo → lo < n → Sg lt lo (min n (lo + s)) f0 f
structure Bf (lt : α → α → Prop) (s n a : Nat) (f0 f : Nat → α) : Prop where
 dv : s ∣ a
 out : ∀ k, a ≤ k → f k = f0 k
 sg : ∀ lo, s ∣ lo → lo < a → Sg lt lo (min n (lo + s)) f0 f
theorem Bf.start (lt : α → α → Prop) (s n : Nat) (f0 : Nat → α) : Bf lt s n 0 f0 f0 := ⟨Nat.dvd_zero _, fun _ _ => rfl, fun lo _ h => by omega⟩
theorem dvd_at {s a lo : Nat} (h0 : 0 < s) (h1 : s ∣ a) (h2 : s ∣ lo) (h3 : a ≤ lo) (h4 : lo < a + s) : lo = a := by
 have h := Nat.dvd_sub h2 h1
 have := Nat.eq_zero_of_dvd_of_lt h (by omega)
 omega
theorem dvd_le {s a lo : Nat} (h1 : s ∣ a) (h2 : s ∣ lo) (h3 : lo < a) : lo + s ≤ a := by
 have h := Nat.dvd_sub h1 h2
 have := Nat.le_of_dvd (by omega) h
 omega
theorem Bf.step {s n a : Nat} {f0 f g : Nat → α} (h0 : 0 < s) (B : Bf lt s n a f0 f) (hn : a + s ≤ n) (im : Im a (a + s) f g) (up : Up lt a (a + s) g) : Bf lt s n (a + s) f0 g := by
 refine ⟨Nat.dvd_add B.dv (Nat.dvd_refl _), fun k hk => (im.out k (by omega)).trans (B.out k (by omega)), fun lo h1 h2 => ?_⟩
 by_cases c1 : lo < a
 ·have := dvd_le B.dv h1 c1
  exact (B.sg lo h1 c1).same fun k g1 g2 => im.out k (by omega)
 ·obtain rfl := dvd_at h0 B.dv h1 (by omega) h2
  rw [show min n (lo + s) = lo + s by omega]
  exact Sg.of (fun k g1 _ => B.out k g1) im up
theorem Bf.last {s n a : Nat} {f0 f g : Nat → α} (h0 : 0 < s) (B : Bf lt s n a f0 f) (hn : n < a + s) (ha : a ≤ n) (im : Im a n f g) (up : Up lt a n g) : Bk lt s n f0 g := by
 refine ⟨fun k hk => (im.out k (by omega)).trans (B.out k (by omega)), fun lo h1 h2 => ?_⟩
 by_cases c1 : lo < a
 ·have := dvd_le B.dv h1 c1
  exact (B.sg lo h1 c1).same fun k g1 g2 => im.out k (by omega)
 ·obtain rfl := dvd_at h0 B.dv h1 (by omega) (by omega)
  rw [show min n (lo + s) = n by omega]
  exact Sg.of (fun k g1 _ => B.out k g1) im up
structure Br (lt : α → α → Prop) (s n a : Nat) (f0 f : Nat → α) : Prop where
 dv : 2 * s ∣ a
 an : a ≤ n
 out : ∀ k, n ≤ k → f k = f0 k
 big : ∀ lo, 2 * s ∣ lo → lo < a → Sg lt lo (min n (lo + 2 * s)) f0 f
 sml : ∀ lo, s ∣ lo → a ≤ lo → lo < n → Sg lt lo (min n (lo + s)) f0 f
theorem Bk.round {s n : Nat} {f0 f : Nat → α} (B : Bk lt s n f0 f) : Br lt s n 0 f0 f := ⟨Nat.dvd_zero _, Nat.zero_le _, B.out, fun lo _ h => by omega, fun lo h1 _ h2 => B.sg lo h1 h2⟩
theorem Br.half {s n a : Nat} {f0 f : Nat → α} (B : Br lt s n a f0 f) : s ∣ a := Nat.dvd_trans (Nat.dvd_mul_left s 2) B.dv
theorem Br.parts {s n a : Nat} {f0 f : Nat → α} (h0 : 0 < s) (B : Br lt s n a f0 f) (hn : a + s < n) : Sg lt a (a + s) f0 f ∧ Sg lt (a + s) (min n (a + 2 * s)) f0 f := by
 have h1 := B.sml a B.half (Nat.le_refl _) (by omega)
 have h2 := B.sml (a + s) (Nat.dvd_add B.half (Nat.dvd_refl _)) (by omega) hn
 rw [show min n (a + s) = a + s by omega] at h1
 rw [show a + s + s = a + 2 * s by omega] at h2
 exact ⟨h1, h2⟩
theorem Br.mg {s n a b : Nat} {f0 f : Nat → α} (h0 : 0 < s) (B : Br lt s n a f0 f) (hn : a + s < n) (hb : b = min n (a + 2 * s)) (cr : ∀ p q, p < q → q < n → Cr c lt (f0 p) (f0 q)) : Mg c lt a (a + s) b f := by
 obtain ⟨x, y⟩ := B.parts h0 hn
 rw [hb]
 exact x.mg y n (by omega) cr
theorem Br.step {s n a : Nat} {f0 f g : Nat → α} (h0 : 0 < s) (B : Br lt s n a f0 f) (hn : a + 2 * s ≤ n) (im : Im a (a + 2 * s) f g) (up : Up lt a (a + 2 * s) g) : Br lt s n (a + 2 * s) f0 g := by
 obtain ⟨x, y⟩ := B.parts h0 (by omega)
 rw [show min n (a + 2 * s) = a + 2 * s by omega] at y
 have z := x.merged y (by omega) (by omega) im up
 refine ⟨Nat.dvd_add B.dv (Nat.dvd_refl _), hn, fun k hk => (im.out k (by omega)).trans (B.out k hk), fun lo h1 h2 => ?_, fun lo h1 h2 h3 => ?_⟩
 ·by_cases c1 : lo < a
  ·have := dvd_le B.dv h1 c1
   exact (B.big lo h1 c1).same fun k g1 g2 => im.out k (by omega)
  ·obtain rfl := dvd_at (by omega) B.dv h1 (by omega) h2
   rw [show min n (lo + 2 * s) = lo + 2 * s by omega]
   exact z
 ·exact (B.sml lo h1 (by omega) h3).same fun k g1 g2 => im.out k (by omega)
theorem Br.last {s n a : Nat} {f0 f g : Nat → α} (h0 : 0 < s) (B : Br lt s n a f0 f) (hn : n < a + 2 * s) (ha : a + s < n) (im : Im a n f g) (up : Up lt a n g) : Bk lt (2 * s) n f0 g := by
 obtain ⟨x, y⟩ := B.parts h0 ha
 rw [show min n (a + 2 * s) = n by omega] at y
 have z := x.merged y (by omega) (by omega) im up
 refine ⟨fun k hk => (im.out k (by omega)).trans (B.out k hk), fun lo h1 h2 => ?_⟩
 by_cases c1 : lo < a
 ·have := dvd_le B.dv h1 c1
  exact (B.big lo h1 c1).same fun k g1 g2 => im.out k (by omega)
 ·obtain rfl := dvd_at (by omega) B.dv h1 (by omega) (by omega)
  rw [show min n (lo + 2 * s) = n by omega]
  exact z
theorem Br.none {s n a : Nat} {f0 f : Nat → α} (h0 : 0 < s) (B : Br lt s n a f0 f) (hn : n < a + 2 * s) (ha : n ≤ a + s) : Bk lt (2 * s) n f0 f := by
 refine ⟨B.out, fun lo h1 h2 => ?_⟩
 by_cases c1 : lo < a
 ·exact B.big lo h1 c1
 ·obtain rfl := dvd_at (by omega) B.dv h1 (by omega) (by omega)
  have := B.sml lo B.half (Nat.le_refl _) h2
  rw [show min n (lo + s) = n by omega] at this
  rw [show min n (lo + 2 * s) = n by omega]
  exact this
theorem Bk.done {s n : Nat} {f0 f : Nat → α} (B : Bk lt s n f0 f) (h : n ≤ s) : Im 0 n f0 f ∧ Up lt 0 n f := by
 by_cases c : 0 < n
 ·have := B.sg 0 (Nat.dvd_zero _) c
  rw [show min n (0 + s) = n by omega] at this
  exact ⟨⟨fun k hk => B.out k (by omega), this.inn⟩, this.up⟩
 ·exact ⟨⟨fun k hk => B.out k (by omega), fun k _ h2 => by omega⟩, fun i j _ h1 h2 => by omega⟩
end blocks
end Go.Proofs.YtcaalcjcpddhaaaGreat.Zz.Sx
