/-
  A region that draws its order and ends in a store over a cell that it has read: 'x.f = append(x.f, ..)'. What is held of the world (S) is asked behind every operation but the last ones (numbers ns: the stores), each of which waits for each operation that is taken first. Plain: ends that begin so stand together. Plain arithmetic of rows of bits: words of 64 bits in a list, the bit at a place, the row of given bits, counts. Nothing of the program is in here. Plain: no lengths that fit cost less than the ones of the two least things, again and again.
-/
import Derived.OrdersHeld
import Derived.Deep.RegionHeld3
import Derived.Test.YtckkhmmicbpihaaM03
import Derived.Test.YtckkhmmicbpihaaM00
namespace Go.Proofs.Ytckkhmmicbpihaa
open Go

section
variable {P : Program} {ops : Array Oper} {Q : Exit → Act → World → Prop} {md : Region.Mode} {S : World → Prop} {ns : List Nat}

def AnyG (P : Program) (md : Region.Mode) (ops : Array Oper) (Q : Exit → Act → World → Prop) (S : World → Prop) (ns : List Nat) : Nat → Array Bool → Act → World → Prop
  | 0, l, a, w => Region.ready md ops l = [] ∧ Q .normal a w
  | f + 1, l, a, w => (Region.ready md ops l = [] → Q .normal a w) ∧ ∀ i ∈ Region.ready md ops l, wpOp P ops Q i (fun a' w' => (i ∉ ns → S w → S w') ∧ AnyG P md ops Q S ns f (l.setIfInBounds i true) a' w') a w

theorem AnyG.any : ∀ f l a w, AnyG P md ops Q S ns f l a w → wpAny P md ops Q f l a w
  | 0, _, _, _, h => h
  | f + 1, _, _, _, h => ⟨h.1, fun i hi => wpOp_mono (fun a' w' h' => AnyG.any f _ a' w' h'.2) (h.2 i hi)⟩

/-- Operation n waits for operation i (or there is no such operation). -/
def waits (md : Region.Mode) (ops : Array Oper) (n i : Nat) : Bool :=
  match ops[n]? with
  | some o => o.after.any fun e => Region.binds md e && e.on == i
  | none => true

theorem waits_not {n i : Nat} {l : Array Bool} (hw : waits md ops n i = true) (hi : l.getD i true = false) : n ∉ Region.ready md ops l := by
  intro hn
  obtain ⟨_, o, ho, hall⟩ := mem_ready.1 hn
  unfold waits at hw
  rw [ho] at hw
  obtain ⟨e, he, hb⟩ := Array.any_eq_true'.1 hw
  simp only [Bool.and_eq_true, beq_iff_eq] at hb
  have h1 := hall e he hb.1
  rw [hb.2] at h1
  rcases Nat.lt_or_ge i l.size with h' | h'
  · simp [h'] at hi h1; rw [hi] at h1; cases h1
  · simp [Array.getElem?_eq_none h'] at h1

theorem AnyG.first {i : Nat} {oi : Oper} {v : Value} (hi : ops[i]? = some oi) (hsel : Region.noSelect ops = true) (hQ : ∀ c a w, Q (.panic c) (a.put oi.dst v) w → Q (.panic c) a w) (hw : ns.all (fun n => waits md ops n i) = true) :
    ∀ f l a w, (∀ j oj, ops[j]? = some oj → j ≠ i → l.getD j true = false → (∀ e ∈ oj.after, Region.binds md e = true → e.on ≠ i) → oi.apart ops oj = true) →
      i ∈ Region.ready md ops l → YieldsIf P ops S oi v a → S w → AnyG P md ops Q S ns f (l.setIfInBounds i true) (a.put oi.dst v) w → AnyG P md ops Q S ns (f + 1) l a w := by
  intro f
  induction f with
  | zero =>
    intro l a w _ hr hy hS H
    refine ⟨fun h => absurd hr (by rw [h]; simp), fun j hj => ?_⟩
    by_cases c : j = i
    · subst c; exact hy.wpOp hi hS ⟨fun _ h => h, H⟩
    · have h1 := ready_mono hj c
      rw [H.1] at h1
      exact absurd h1 (by simp)
  | succ f ih =>
    intro l a w hfree hr hy hS H
    refine ⟨fun h => absurd hr (by rw [h]; simp), fun j hj => ?_⟩
    by_cases c : j = i
    · subst c; exact hy.wpOp hi hS ⟨fun _ h => h, H⟩
    have hun := (mem_ready.1 hr).1
    have hjn : j ∉ ns := fun e => waits_not (List.all_eq_true.1 hw j e) hun hj
    obtain ⟨hjun, oj, hoj, hall⟩ := mem_ready.1 hj
    have hnot : ∀ e ∈ oj.after, Region.binds md e = true → e.on ≠ i := by
      intro e he hb heq
      have h1 := hall e he hb
      rw [heq] at h1
      rcases Nat.lt_or_ge i l.size with h' | h'
      · simp [h'] at hun h1; rw [hun] at h1; cases h1
      · simp [Array.getElem?_eq_none h'] at h1
    have h2 := wpOp_putIf hoj (hfree j oj hoj c hjun hnot) (fun cs b => Region.noSelect_spec hsel i oi cs b hi) (fun cs b => Region.noSelect_spec hsel j oj cs b hoj) hQ hy (H.2 j (ready_mono hj c))
    refine wpOp_mono (fun a' w' h3 => ⟨h3.2.1, ih (l.setIfInBounds j true) a' w' ?_ (ready_mono hr (Ne.symm c)) h3.1 (h3.2.1 hjn hS) ?_⟩) h2
    · intro k ok hk hki hku hno
      refine hfree k ok hk hki ?_ hno
      by_cases e : j = k
      · subst e; exact hjun
      · rw [getD_set_ne true e] at hku; exact hku
    · rw [Array.setIfInBounds_comm _ _ c]
      exact h3.2.2

/-- The same for an operation that yields its value whatever the world is: nothing need wait for it. -/
theorem AnyG.firstW {i : Nat} {oi : Oper} {v : Value} (hi : ops[i]? = some oi) (hsel : Region.noSelect ops = true) (hQ : ∀ c a w, Q (.panic c) (a.put oi.dst v) w → Q (.panic c) a w) :
    ∀ f l a w, (∀ j oj, ops[j]? = some oj → j ≠ i → l.getD j true = false → (∀ e ∈ oj.after, Region.binds md e = true → e.on ≠ i) → oi.apart ops oj = true) →
      i ∈ Region.ready md ops l → YieldsIf P ops (fun _ => True) oi v a → AnyG P md ops Q S ns f (l.setIfInBounds i true) (a.put oi.dst v) w → AnyG P md ops Q S ns (f + 1) l a w := by
  intro f
  induction f with
  | zero =>
    intro l a w _ hr hy H
    refine ⟨fun h => absurd hr (by rw [h]; simp), fun j hj => ?_⟩
    by_cases c : j = i
    · subst c; exact hy.wpOp hi trivial ⟨fun _ h => h, H⟩
    · have h1 := ready_mono hj c
      rw [H.1] at h1
      exact absurd h1 (by simp)
  | succ f ih =>
    intro l a w hfree hr hy H
    refine ⟨fun h => absurd hr (by rw [h]; simp), fun j hj => ?_⟩
    by_cases c : j = i
    · subst c; exact hy.wpOp hi trivial ⟨fun _ h => h, H⟩
    have hun := (mem_ready.1 hr).1
    obtain ⟨hjun, oj, hoj, hall⟩ := mem_ready.1 hj
    have hnot : ∀ e ∈ oj.after, Region.binds md e = true → e.on ≠ i := by
      intro e he hb heq
      have h1 := hall e he hb
      rw [heq] at h1
      rcases Nat.lt_or_ge i l.size with h' | h'
      · simp [h'] at hun h1; rw [hun] at h1; cases h1
      · simp [Array.getElem?_eq_none h'] at h1
    have h2 := wpOp_putIf hoj (hfree j oj hoj c hjun hnot) (fun cs b => Region.noSelect_spec hsel i oi cs b hi) (fun cs b => Region.noSelect_spec hsel j oj cs b hoj) hQ hy (H.2 j (ready_mono hj c))
    refine wpOp_mono (fun a' w' h3 => ⟨h3.2.1, ih (l.setIfInBounds j true) a' w' ?_ (ready_mono hr (Ne.symm c)) h3.1 ?_⟩) h2
    · intro k ok hk hki hku hno
      refine hfree k ok hk hki ?_ hno
      by_cases e : j = k
      · subst e; exact hjun
      · rw [getD_set_ne true e] at hku; exact hku
    · rw [Array.setIfInBounds_comm _ _ c]
      exact h3.2.2
/-- Take number i first, whatever the world is. -/
theorem AnyG.takeW (i : Nat) {oi : Oper} {v : Value} {f : Nat} {l : Array Bool} {a : Act} {w : World} (hi : ops[i]? = some oi) (hs : Region.noSelect ops = true) (hf : Region.free md ops l i = true) (hr : (Region.ready md ops l).contains i = true)
    (hQ : ∀ c a w, Q (.panic c) (a.put oi.dst v) w → Q (.panic c) a w) (hy : ∀ w0, (execOp a.eval oi).run P w0 = .ok (.value v) w0) (hwn : Region.wanted oi (yielded ops a.tmps) = true)
    (h : AnyG P md ops Q S ns f (l.setIfInBounds i true) (a.put oi.dst v) w) : AnyG P md ops Q S ns (f + 1) l a w :=
  AnyG.firstW hi hs hQ f l a w (Region.free_spec hi hf) (by simpa using hr) (.inl ⟨hwn, fun w0 _ => hy w0⟩) h

/-- Take number i first. -/
theorem AnyG.take (i : Nat) {oi : Oper} {v : Value} {f : Nat} {l : Array Bool} {a : Act} {w : World} (hi : ops[i]? = some oi) (hs : Region.noSelect ops = true) (hf : Region.free md ops l i = true) (hr : (Region.ready md ops l).contains i = true) (hw : ns.all (fun n => waits md ops n i) = true)
    (hQ : ∀ c a w, Q (.panic c) (a.put oi.dst v) w → Q (.panic c) a w) (hS : S w) (hy : ∀ w0, S w0 → (execOp a.eval oi).run P w0 = .ok (.value v) w0) (hwn : Region.wanted oi (yielded ops a.tmps) = true)
    (h : AnyG P md ops Q S ns f (l.setIfInBounds i true) (a.put oi.dst v) w) : AnyG P md ops Q S ns (f + 1) l a w :=
  AnyG.first hi hs hQ hw f l a w (Region.free_spec hi hf) (by simpa using hr) (.inl ⟨hwn, hy⟩) hS h

/-- Number i alone may come up. -/
theorem AnyG.one (i : Nat) {o : Oper} {f : Nat} {l : Array Bool} {a : Act} {w : World} (hr : Region.ready md ops l = [i]) (ho : ops[i]? = some o)
    (h : ∀ K : Act → World → Prop, Shut (∀ a' w', (i ∉ ns → S w') → AnyG P md ops Q S ns f (l.setIfInBounds i true) a' w' → K a' w') → if Region.wanted o (yielded ops a.tmps) = true then Oper.wp P o a w K Q else K (a.put o.dst undef) w) :
    AnyG P md ops Q S ns (f + 1) l a w := by
  refine ⟨fun h0 => absurd (hr.symm.trans h0) (by simp), fun j hj => ?_⟩
  rw [hr] at hj
  obtain rfl := List.mem_singleton.1 hj
  exact wpOp_step ho (fun K hK => h K (fun a' w' hS hW => hK a' w' ⟨fun n _ => hS n, hW⟩))

/-- Numbers i and j may come up. -/
theorem AnyG.two (i j : Nat) {o p : Oper} {f : Nat} {l : Array Bool} {a : Act} {w : World} (hr : Region.ready md ops l = [i, j]) (ho : ops[i]? = some o) (hp : ops[j]? = some p)
    (h : ∀ K : Act → World → Prop, Shut (∀ a' w', (i ∉ ns → S w') → AnyG P md ops Q S ns f (l.setIfInBounds i true) a' w' → K a' w') → if Region.wanted o (yielded ops a.tmps) = true then Oper.wp P o a w K Q else K (a.put o.dst undef) w)
    (h2 : ∀ K : Act → World → Prop, Shut (∀ a' w', (j ∉ ns → S w') → AnyG P md ops Q S ns f (l.setIfInBounds j true) a' w' → K a' w') → if Region.wanted p (yielded ops a.tmps) = true then Oper.wp P p a w K Q else K (a.put p.dst undef) w) :
    AnyG P md ops Q S ns (f + 1) l a w := by
  refine ⟨fun h0 => absurd (hr.symm.trans h0) (by simp), fun k hk => ?_⟩
  rw [hr] at hk
  rcases List.mem_cons.1 hk with rfl | hk
  · exact wpOp_step ho (fun K hK => h K (fun a' w' hS hW => hK a' w' ⟨fun n _ => hS n, hW⟩))
  · obtain rfl := List.mem_singleton.1 hk
    exact wpOp_step hp (fun K hK => h2 K (fun a' w' hS hW => hK a' w' ⟨fun n _ => hS n, hW⟩))

theorem AnyG.done {l : Array Bool} {a : Act} {w : World} (hr : Region.ready md ops l = []) (h : Q .normal a w) : ∀ f, AnyG P md ops Q S ns f l a w
  | 0 => ⟨hr, h⟩
  | _ + 1 => ⟨fun _ => h, by rw [hr]; simp⟩

/-- The beginning. -/
theorem region_g (ns : List Nat) (S : World → Prop) {id : Nat} {a : Act} {w : World} (hm : P.follows .mixedOrders = true) (h : AnyG P .any ops Q S ns ops.size (Array.replicate ops.size false) a w.drew) : (Code.region id ops true).wp P Q a w :=
  wp_region_any hm (AnyG.any _ _ _ _ h)
end
end Go.Proofs.Ytckkhmmicbpihaa

namespace Go.Proofs.Ytckkhmmicbpihaa.Su
set_option linter.unusedVariables false

theorem betw : ∀ (p a b c : List Nat), lt a b = true → lt b c = true → p <+: a → p <+: c → p <+: b
  | [], _, b, _, _, _, _, _ => List.nil_prefix
  | q :: p, [], _, _, _, _, h, _ => absurd h (by simp)
  | q :: p, _ :: _, _, [], _, _, _, h => absurd h (by simp)
  | q :: p, x :: a, [], _, h, _, _, _ => by simp [lt] at h
  | q :: p, x :: a, y :: b, z :: c, h1, h2, h3, h4 => by
    obtain ⟨rfl, g3⟩ := List.cons_prefix_cons.1 h3
    obtain ⟨rfl, g4⟩ := List.cons_prefix_cons.1 h4
    simp only [lt, Bool.or_eq_true, Bool.and_eq_true, decide_eq_true_eq] at h1 h2
    rcases h1 with h1 | ⟨rfl, h1⟩
    · rcases h2 with h2 | ⟨rfl, h2⟩
      · omega
      · omega
    · rcases h2 with h2 | ⟨_, h2⟩
      · omega
      · exact List.cons_prefix_cons.2 ⟨rfl, betw p a b c h1 h2 g3 g4⟩
/-- Does the end at i begin with p? -/
def Bp (t p : List Nat) (i : Nat) : Bool := decide (p <+: t.drop i)
theorem so_conv {t l : List Nat} (p : List Nat) (hl : So t l) {i j k x y z : Nat} (hij : i < j) (hjk : j < k) (hx : l[i]? = some x) (hy : l[j]? = some y) (hz : l[k]? = some z) (h1 : Bp t p x = true) (h2 : Bp t p z = true) : Bp t p y = true := by
  obtain ⟨hi, rfl⟩ := List.getElem?_eq_some_iff.1 hx
  obtain ⟨hj, rfl⟩ := List.getElem?_eq_some_iff.1 hy
  obtain ⟨hk, rfl⟩ := List.getElem?_eq_some_iff.1 hz
  have a1 := List.pairwise_iff_getElem.1 hl i j hi hj hij
  have a2 := List.pairwise_iff_getElem.1 hl j k hj hk hjk
  exact decide_eq_true (betw p _ _ _ a1 a2 (of_decide_eq_true h1) (of_decide_eq_true h2))
/-- How many of the first i begin to be so. -/
def rs (b : Nat → Bool) : Nat → Nat
  | 0 => 0
  | i + 1 => rs b i + (b i && (i == 0 || !b (i - 1))).toNat
theorem rs_one {b : Nat → Bool} {n : Nat} (h : ∀ i j k, i < j → j < k → k < n → b i = true → b k = true → b j = true) : ∀ i, i ≤ n → rs b i ≤ 1 ∧ (0 < rs b i → ∃ k, k < i ∧ b k = true)
  | 0, _ => ⟨Nat.zero_le _, fun h => absurd h (Nat.lt_irrefl _)⟩
  | i + 1, hi => by
    obtain ⟨h1, h2⟩ := rs_one h i (by omega)
    rw [rs]
    cases e : (b i && (i == 0 || !b (i - 1))) with
    | false => exact ⟨by simpa using h1, fun q => by
        obtain ⟨k, hk, hb⟩ := h2 (by simpa using q)
        exact ⟨k, by omega, hb⟩⟩
    | true =>
      simp only [Bool.and_eq_true, Bool.or_eq_true, beq_iff_eq, Bool.not_eq_true'] at e
      obtain ⟨e1, e2⟩ := e
      have h0 : rs b i = 0 := by
        rcases e2 with rfl | e2
        · rfl
        · by_cases q : 0 < rs b i
          · obtain ⟨k, hk, hb⟩ := h2 q
            by_cases e3 : k = i - 1
            · rw [← e3, hb] at e2; cases e2
            · have := h k (i - 1) i (by omega) (by omega) (by omega) hb e1
              rw [e2] at this
              cases this
          · omega
      rw [h0]
      exact ⟨by decide, fun _ => ⟨i, by omega, e1⟩⟩
/-- How many of the first i are so. -/
def ct (b : Nat → Bool) : Nat → Nat
  | 0 => 0
  | i + 1 => ct b i + (b i).toNat
theorem ct_filter (b : Nat → Bool) : ∀ n, ct b n = ((List.range n).filter b).length
  | 0 => rfl
  | n + 1 => by
    rw [ct, ct_filter b n, List.range_succ, List.filter_append, List.length_append]
    cases h : b n <;> simp [h]
theorem ct_le (b : Nat → Bool) : ∀ n, ct b n ≤ n
  | 0 => Nat.le_refl _
  | n + 1 => by have := ct_le b n; have := Bool.toNat_le (b n); rw [ct]; omega
/-- Counted in whatever order, there are as many. -/
theorem ct_perm {l : List Nat} {n : Nat} (b : Nat → Bool) (h : l.Perm (List.range n)) : ct (fun i => b (l.getD i 0)) n = ct b n := by
  have hl : l.length = n := by rw [h.length_eq, List.length_range]
  rw [ct_filter b n, ← (h.filter b).length_eq, ct_filter]
  have e : ∀ m : List Nat, ((List.range m.length).filter fun i => b (m.getD i 0)).length = (m.filter b).length := fun m => by
    have e1 : (List.range m.length).map (fun i => m.getD i 0) = m := by
      refine List.ext_getElem (by simp) fun i h1 h2 => ?_
      rw [List.getElem_map, List.getElem_range, List.getD_eq_getElem?_getD, List.getElem?_eq_getElem h2]
      rfl
    conv => rhs; rw [← e1, List.filter_map, List.length_map]
    rfl
  have := e l
  rw [hl] at this
  exact this
end Go.Proofs.Ytckkhmmicbpihaa.Su

namespace Go.Proofs.Ytckkhmmicbpihaa
open Num
namespace Bit

def gt (xs : List Nat) (i : Nat) : Nat := xs.getD i 0
def bitAt (xs : List Nat) (i : Nat) : Bool := (gt xs (i / 64)).testBit (i % 64)
def Fit (xs : List Nat) : Prop := ∀ i, gt xs i < 18446744073709551616

def chk (N : Int) (xs : List Nat) : Bool := decide (0 ≤ N ∧ N ≤ 1048576 ∧ (xs.length : Int) = (N + 63) / 64 ∧ (N % 64 = 0 ∨ gt xs (xs.length - 1) < 2 ^ (N % 64).toNat))

def numOf : Nat → (Nat → Bool) → Nat
  | 0, _ => 0
  | n + 1, f => numOf n f + if f n then 2 ^ n else 0

theorem numOf_lt (n : Nat) (f : Nat → Bool) : numOf n f < 2 ^ n := by
  induction n with
  | zero => simp [numOf]
  | succ n ih => simp only [numOf, Nat.pow_succ]; split <;> omega

theorem numOf_congr (n : Nat) (f g : Nat → Bool) (h : ∀ k, k < n → f k = g k) : numOf n f = numOf n g := by
  induction n with
  | zero => rfl
  | succ n ih => simp only [numOf]; rw [ih (fun k hk => h k (by omega)), h n (by omega)]

theorem testBit_numOf (n : Nat) (f : Nat → Bool) (k : Nat) : (numOf n f).testBit k = (decide (k < n) && f k) := by
  induction n with
  | zero => simp [numOf]
  | succ n ih =>
    simp only [numOf]
    have hlt := numOf_lt n f
    by_cases hf : f n = true
    · rw [if_pos hf, Nat.add_comm]
      have e : 2 ^ n + numOf n f = 2 ^ n ||| numOf n f := by
        have := Nat.two_pow_add_eq_or_of_lt hlt 1
        simpa using this
      rw [e, Nat.testBit_or, Nat.testBit_two_pow, ih]
      by_cases hk : n = k
      · subst hk; simp [hf]
      · by_cases h2 : k < n
        · simp [hk, h2, show k < n + 1 by omega]
        · simp [hk, h2, show ¬ k < n + 1 by omega]
    · rw [if_neg hf, Nat.add_zero, ih]
      by_cases hk : n = k
      · subst hk; simp [hf]
      · by_cases h2 : k < n
        · simp [h2, show k < n + 1 by omega]
        · simp [h2, show ¬ k < n + 1 by omega]

theorem eq_numOf (n x : Nat) (f : Nat → Bool) (h : ∀ k, x.testBit k = (decide (k < n) && f k)) : x = numOf n f := by
  refine Nat.eq_of_testBit_eq fun k => ?_
  rw [h k, testBit_numOf]

theorem eq_of_bits (x y : Nat) (hx : x < 18446744073709551616) (hy : y < 18446744073709551616) (h : ∀ k, k < 64 → x.testBit k = y.testBit k) : x = y := by
  refine Nat.eq_of_testBit_eq fun k => ?_
  by_cases hk : k < 64
  · exact h k hk
  · have p : 18446744073709551616 ≤ 2 ^ k := Nat.pow_le_pow_right (n := 2) (by decide) (show 64 ≤ k by omega)
    rw [Nat.testBit_lt_two_pow (by omega), Nat.testBit_lt_two_pow (by omega)]

def rowOf (n : Nat) (f : Nat → Bool) : List Nat := (List.range ((n + 63) / 64)).map fun j => numOf 64 fun k => decide (64 * j + k < n) && f (64 * j + k)

theorem length_rowOf (n : Nat) (f : Nat → Bool) : (rowOf n f).length = (n + 63) / 64 := by simp [rowOf]

theorem gt_rowOf (n : Nat) (f : Nat → Bool) (j : Nat) : gt (rowOf n f) j = if j < (n + 63) / 64 then numOf 64 (fun k => decide (64 * j + k < n) && f (64 * j + k)) else 0 := by
  unfold gt rowOf
  by_cases h : j < (n + 63) / 64
  · rw [if_pos h, List.getD_eq_getElem?_getD, List.getElem?_map, List.getElem?_range h]; rfl
  · rw [if_neg h, List.getD_eq_getElem?_getD, List.getElem?_eq_none (by simp; omega)]; rfl

theorem bitAt_rowOf (n : Nat) (f : Nat → Bool) (i : Nat) : bitAt (rowOf n f) i = (decide (i < n) && f i) := by
  unfold bitAt
  rw [gt_rowOf]
  have hm : i % 64 < 64 := Nat.mod_lt _ (by decide)
  have hd : 64 * (i / 64) + i % 64 = i := Nat.div_add_mod i 64
  by_cases h : i / 64 < (n + 63) / 64
  · rw [if_pos h, testBit_numOf, hd]
    simp [hm]
  · rw [if_neg h, Nat.zero_testBit, show decide (i < n) = false by simp; omega]
    rfl

theorem fit_rowOf (n : Nat) (f : Nat → Bool) : Fit (rowOf n f) := by
  intro j
  rw [gt_rowOf]
  split
  · exact numOf_lt 64 _
  · decide

theorem gt_out (xs : List Nat) (i : Nat) (h : xs.length ≤ i) : gt xs i = 0 := by
  unfold gt; rw [List.getD_eq_getElem?_getD, List.getElem?_eq_none h]; rfl

theorem gt_get (xs : List Nat) (i : Nat) (h : i < xs.length) : xs[i]? = some (gt xs i) := by
  unfold gt; rw [List.getD_eq_getElem?_getD, List.getElem?_eq_getElem h]; rfl

theorem gt_set (xs : List Nat) (i j v : Nat) (h : i < xs.length) : gt (xs.set i v) j = if i = j then v else gt xs j := by
  unfold gt
  rw [List.getD_eq_getElem?_getD, List.getD_eq_getElem?_getD, List.getElem?_set]
  by_cases e : i = j
  · subst e; simp [h]
  · simp [e]

theorem list_ext (xs ys : List Nat) (hl : xs.length = ys.length) (h : ∀ i, i < xs.length → gt xs i = gt ys i) : xs = ys := by
  refine List.ext_getElem? fun i => ?_
  by_cases hi : i < xs.length
  · rw [gt_get xs i hi, gt_get ys i (by omega), h i hi]
  · rw [List.getElem?_eq_none (by omega), List.getElem?_eq_none (by omega)]

/-- Words of the right number, all bits as they should be: the row. -/
theorem eq_rowOf (n : Nat) (f : Nat → Bool) (xs : List Nat) (hg : Fit xs) (hl : xs.length = (n + 63) / 64) (h : ∀ i, i < 64 * xs.length → bitAt xs i = (decide (i < n) && f i)) : xs = rowOf n f := by
  refine list_ext _ _ (by rw [length_rowOf]; exact hl) fun j hj => ?_
  refine eq_of_bits _ _ (hg j) (fit_rowOf n f j) fun k hk => ?_
  have h1 := h (64 * j + k) (by omega)
  have h2 := bitAt_rowOf n f (64 * j + k)
  unfold bitAt at h1 h2
  rw [show (64 * j + k) / 64 = j by omega, show (64 * j + k) % 64 = k by omega] at h1 h2
  rw [h1, h2]

theorem rowOf_congr (n : Nat) (f g : Nat → Bool) (h : ∀ i, i < n → f i = g i) : rowOf n f = rowOf n g := by
  refine eq_rowOf n g _ (fit_rowOf n f) (length_rowOf n f) fun i _ => ?_
  rw [bitAt_rowOf]
  by_cases hi : i < n
  · rw [h i hi]
  · simp [hi]

theorem chk_out (N : Int) (xs : List Nat) (h : chk N xs = true) : 0 ≤ N ∧ N ≤ 1048576 ∧ (xs.length : Int) = (N + 63) / 64 ∧ (N % 64 = 0 ∨ gt xs (xs.length - 1) < 2 ^ (N % 64).toNat) := by
  unfold chk at h; exact of_decide_eq_true h

/-- Behind N no bit of a row that may be is 1. -/
theorem chk_high (N : Int) (xs : List Nat) (h : chk N xs = true) (i : Nat) (hi : N ≤ (i : Int)) : bitAt xs i = false := by
  obtain ⟨h0, h1, hl, ht⟩ := chk_out N xs h
  unfold bitAt
  by_cases hlt : i / 64 < xs.length
  · have e : i / 64 = xs.length - 1 := by omega
    rcases ht with ht | ht
    · omega
    · rw [e]
      refine Nat.testBit_lt_two_pow (Nat.lt_of_lt_of_le ht (Nat.pow_le_pow_right (by decide) ?_))
      omega
  · rw [gt_out xs _ (by omega), Nat.zero_testBit]

/-- A row that may be is the row of its bits. -/
theorem chk_row (N : Int) (xs : List Nat) (hg : Fit xs) (h : chk N xs = true) : xs = rowOf N.toNat (bitAt xs) := by
  obtain ⟨h0, h1, hl, _⟩ := chk_out N xs h
  refine eq_rowOf _ _ xs hg (by omega) fun i _ => ?_
  by_cases hi : i < N.toNat
  · simp [hi]
  · rw [chk_high N xs h i (by omega)]; simp [hi]

theorem chk_rowOf (n : Nat) (f : Nat → Bool) (h : n ≤ 1048576) : chk (n : Int) (rowOf n f) = true := by
  unfold chk
  rw [decide_eq_true_eq, length_rowOf]
  refine ⟨by omega, by omega, by omega, ?_⟩
  by_cases hz : n % 64 = 0
  · exact .inl (by omega)
  · refine .inr ?_
    refine Nat.lt_pow_two_of_testBit _ fun k hk => ?_
    by_cases hk2 : k < 64
    · have e := bitAt_rowOf n f (64 * ((n + 63) / 64 - 1) + k)
      unfold bitAt at e
      rw [show (64 * ((n + 63) / 64 - 1) + k) / 64 = (n + 63) / 64 - 1 by omega, show (64 * ((n + 63) / 64 - 1) + k) % 64 = k by omega] at e
      rw [e, show decide (64 * ((n + 63) / 64 - 1) + k < n) = false by simp; omega]
      rfl
    · exact Nat.testBit_lt_two_pow (Nat.lt_of_lt_of_le (fit_rowOf n f _) (Nat.pow_le_pow_right (n := 2) (by decide) (show 64 ≤ k by omega)))

/-- How many of the first bits are 1. -/
def cntB (xs : List Nat) : Nat → Nat
  | 0 => 0
  | k + 1 => cntB xs k + if bitAt xs k then 1 else 0

theorem bit_test (x i : Nat) : x.testBit i = decide (x / 2 ^ i % 2 = 1) := by
  rw [Nat.testBit_eq_decide_div_mod_eq]

theorem cntB_word (xs : List Nat) (k r : Nat) (hr : r ≤ 64) : cntB xs (64 * k + r) = cntB xs (64 * k) + cnt (gt xs k) r := by
  induction r with
  | zero => rfl
  | succ r ih =>
    rw [← Nat.add_assoc]
    simp only [cntB, cnt]
    rw [ih (by omega)]
    unfold bitAt
    rw [show (64 * k + r) / 64 = k by omega, show (64 * k + r) % 64 = r by omega, bit_test]
    have : gt xs k / 2 ^ r % 2 < 2 := Nat.mod_lt _ (by decide)
    by_cases h : gt xs k / 2 ^ r % 2 = 1
    · simp [h]; omega
    · have h0 : gt xs k / 2 ^ r % 2 = 0 := by omega
      simp [h0]

theorem cntB_le (xs : List Nat) (k : Nat) : cntB xs k ≤ k := by
  induction k with
  | zero => exact Nat.le_refl _
  | succ k ih => simp only [cntB]; split <;> omega

theorem cntB_mono (xs : List Nat) (k d : Nat) : cntB xs k ≤ cntB xs (k + d) := by
  induction d with
  | zero => exact Nat.le_refl _
  | succ d ih => rw [← Nat.add_assoc]; simp only [cntB]; omega

theorem cntB_congr (xs ys : List Nat) (k : Nat) (h : ∀ i, i < k → bitAt xs i = bitAt ys i) : cntB xs k = cntB ys k := by
  induction k with
  | zero => rfl
  | succ k ih => simp only [cntB]; rw [ih (fun i hi => h i (by omega)), h k (by omega)]

def onesI (N : Int) (xs : List Nat) (n : Int) : Int := if chk N xs then (cntB xs (min n N).toNat : Int) else 0
def getE (N : Int) (xs : List Nat) (i : Int) : Int := if chk N xs = false then 2 else if i < 0 ∨ N ≤ i then 3 else 0
def getB (N : Int) (xs : List Nat) (i : Int) : Bool := chk N xs && (decide (0 ≤ i ∧ i < N) && bitAt xs i.toNat)
def slcE (N : Int) (xs : List Nat) (at_ n : Int) : Int := if chk N xs = false ∨ n < 0 ∨ 64 < n then 2 else if at_ < 0 ∨ N - n < at_ then 3 else 0
def slcX (N : Int) (xs : List Nat) (at_ n : Int) : Nat := if slcE N xs at_ n = 0 then numOf n.toNat (fun k => bitAt xs (at_.toNat + k)) else 0
def setL (N : Int) (xs : List Nat) (i : Int) (x : Bool) : List Nat := if getE N xs i = 0 then rowOf N.toNat (fun j => if j = i.toNat then x else bitAt xs j) else xs
def appE (N : Int) (xs : List Nat) (n : Int) : Int := if chk N xs = false ∨ n < 0 ∨ 64 < n ∨ 1048576 < N + n then 2 else 0
def appN (N : Int) (xs : List Nat) (n : Int) : Int := if appE N xs n = 0 then N + n else N
def appL (N : Int) (xs : List Nat) (x : Nat) (n : Int) : List Nat := if appE N xs n = 0 then rowOf (N + n).toNat (fun j => if j < N.toNat then bitAt xs j else x.testBit (j - N.toNat)) else xs
def joinE (N : Int) (xs : List Nat) (M : Int) (ys : List Nat) : Int := if chk N xs = false ∨ chk M ys = false ∨ 1048576 < N + M then 2 else 0
def joinN (N : Int) (xs : List Nat) (M : Int) (ys : List Nat) : Int := if joinE N xs M ys = 0 then N + M else N
def joinL (N : Int) (xs : List Nat) (M : Int) (ys : List Nat) : List Nat := if joinE N xs M ys = 0 then rowOf (N + M).toNat (fun j => if j < N.toNat then bitAt xs j else bitAt ys (j - N.toNat)) else xs
def newE (n : Int) : Int := if n < 0 ∨ 1048576 < n then 2 else 0
def newN (n : Int) : Int := if newE n = 0 then n else 0
def newL (n : Int) : List Nat := if newE n = 0 then rowOf n.toNat (fun _ => false) else []
def fromN (l : List Bool) : Int := if newE l.length = 0 then l.length else 0
def fromL (l : List Bool) : List Nat := if newE l.length = 0 then rowOf l.length (fun i => l.getD i false) else []
end Bit
end Go.Proofs.Ytckkhmmicbpihaa

namespace Go.Proofs.Ytckkhmmicbpihaa.Hm

/-- The cost of weights and lengths. -/
def cost : List Nat → List Nat → Nat
  | w :: ws, l :: ls => w * l + cost ws ls
  | _, _ => 0
/-- How much of 2 to the power of M lengths need. -/
def kraft (M : Nat) : List Nat → Nat
  | [] => 0
  | l :: ls => 2 ^ (M - l) + kraft M ls
def Rises : List Nat → Prop
  | [] => True
  | w :: ws => (∀ x ∈ ws, w ≤ x) ∧ Rises ws
def ins (x : Nat) : List Nat → List Nat
  | [] => [x]
  | w :: ws => if x ≤ w then x :: w :: ws else w :: ins x ws
theorem length_ins (x : Nat) (ws : List Nat) : (ins x ws).length = ws.length + 1 := by
  induction ws with
  | nil => rfl
  | cons w ws ih =>
    unfold ins
    split
    · rfl
    · simp [ih]
theorem mem_ins {x y : Nat} {ws : List Nat} : y ∈ ins x ws ↔ y = x ∨ y ∈ ws := by
  induction ws with
  | nil => simp [ins]
  | cons w ws ih =>
    unfold ins
    split
    · simp
    · simp only [List.mem_cons, ih]
      constructor
      · rintro (h | h | h)
        · exact .inr (.inl h)
        · exact .inl h
        · exact .inr (.inr h)
      · rintro (h | h | h)
        · exact .inr (.inl h)
        · exact .inl h
        · exact .inr (.inr h)
theorem rises_ins (x : Nat) (ws : List Nat) (h : Rises ws) : Rises (ins x ws) := by
  induction ws with
  | nil => exact ⟨fun y hy => (List.not_mem_nil hy).elim, trivial⟩
  | cons w ws ih =>
    unfold ins
    split
    · rename_i c
      refine ⟨fun y hy => ?_, h⟩
      rcases List.mem_cons.1 hy with rfl | hy
      · exact c
      · exact Nat.le_trans c (h.1 y hy)
    · rename_i c
      refine ⟨fun y hy => ?_, ih h.2⟩
      rcases mem_ins.1 hy with rfl | hy
      · omega
      · exact h.1 y hy
/-- What the way of the two least costs. -/
def huff : Nat → List Nat → Nat
  | n + 1, a :: b :: r => (a + b) + huff n (ins (a + b) r)
  | _, _ => 0

theorem kraft_perm {M : Nat} {a b : List Nat} (h : a.Perm b) : kraft M a = kraft M b := by
  induction h with
  | nil => rfl
  | cons x _ ih => simp only [kraft, ih]
  | swap x y l => simp only [kraft]; omega
  | trans _ _ h1 h2 => exact h1.trans h2
theorem kraft_dvd {M m : Nat} (hm : m ≤ M) (ls : List Nat) (h : ∀ x ∈ ls, x ≤ m) : ∃ k, kraft M ls = k * 2 ^ (M - m) := by
  induction ls with
  | nil => exact ⟨0, by simp [kraft]⟩
  | cons l ls ih =>
    obtain ⟨k, hk⟩ := ih (fun x hx => h x (List.mem_cons_of_mem _ hx))
    have hl := h l List.mem_cons_self
    refine ⟨2 ^ (m - l) + k, ?_⟩
    rw [kraft, hk, Nat.add_mul, ← Nat.pow_add]
    congr 2
    omega
/-- The greatest length to the front weight. -/
theorem swap_max (ws : List Nat) : ∀ (w : Nat) (ls : List Nat) (l : Nat), ls.length = ws.length → (∀ x ∈ ws, w ≤ x) → ∃ m ls', (m :: ls').Perm (l :: ls) ∧ ls'.length = ls.length ∧ (∀ x ∈ ls', x ≤ m) ∧ w * m + cost ws ls' ≤ w * l + cost ws ls := by
  induction ws with
  | nil =>
    intro w ls l hl _
    obtain rfl := List.eq_nil_of_length_eq_zero hl
    exact ⟨l, [], List.Perm.refl _, rfl, fun x hx => (List.not_mem_nil hx).elim, Nat.le_refl _⟩
  | cons v ws ih =>
    intro w ls l hl hw
    match ls, hl with
    | k :: ls, hl =>
      have hv : w ≤ v := hw v List.mem_cons_self
      have hl' : ls.length = ws.length := by simpa using hl
      -- the greatest of l and the rest behind k, at w
      obtain ⟨m, ls', p, len, mx, c⟩ := ih w ls l hl' (fun x hx => hw x (List.mem_cons_of_mem _ hx))
      by_cases g : k ≤ m
      · refine ⟨m, k :: ls', ?_, by simp [len], ?_, ?_⟩
        · exact (List.Perm.swap k m ls').trans ((List.Perm.cons k p).trans (List.Perm.swap l k ls))
        · intro x hx
          rcases List.mem_cons.1 hx with rfl | hx
          · exact g
          · exact mx x hx
        · simp only [cost]
          omega
      · refine ⟨k, m :: ls', ?_, by simp [len], ?_, ?_⟩
        · exact (List.Perm.cons k p).trans (List.Perm.swap l k ls)
        · intro x hx
          rcases List.mem_cons.1 hx with rfl | hx
          · omega
          · have := mx x hx; omega
        · simp only [cost]
          have h1 : w * k + v * m ≤ w * m + v * k := by
            obtain ⟨d, rfl⟩ : ∃ d, v = w + d := ⟨v - w, by omega⟩
            obtain ⟨e, rfl⟩ : ∃ e, k = m + e := ⟨k - m, by omega⟩
            have : d * m ≤ d * (m + e) := Nat.mul_le_mul_left d (by omega)
            rw [Nat.add_mul, Nat.add_mul]
            omega
          omega
theorem cost_ins (x y : Nat) (ws : List Nat) : ∀ ls : List Nat, ls.length = ws.length → ∃ ls', ls'.Perm (y :: ls) ∧ ls'.length = ls.length + 1 ∧ cost (ins x ws) ls' = x * y + cost ws ls := by
  induction ws with
  | nil =>
    intro ls hl
    obtain rfl := List.eq_nil_of_length_eq_zero hl
    exact ⟨[y], List.Perm.refl _, rfl, rfl⟩
  | cons w ws ih =>
    intro ls hl
    match ls, hl with
    | l :: ls, hl =>
      unfold ins
      split
      · exact ⟨y :: l :: ls, List.Perm.refl _, rfl, rfl⟩
      · obtain ⟨ls', p, len, e⟩ := ih ls (by simpa using hl)
        refine ⟨l :: ls', (List.Perm.cons l p).trans (List.Perm.swap y l ls), by simp [len], ?_⟩
        simp only [cost, e]
        omega
/-- No lengths that fit cost less. -/
theorem best (M : Nat) : ∀ (n : Nat) (ws ls : List Nat), ws.length ≤ n → ls.length = ws.length → Rises ws → (∀ l ∈ ls, l ≤ M) → kraft M ls ≤ 2 ^ M → huff n ws ≤ cost ws ls := by
  intro n
  induction n with
  | zero =>
    intro ws ls h1 _ _ _ _
    unfold huff
    exact Nat.zero_le _
  | succ n ih =>
    intro ws ls h1 h2 hr hM hk
    match ws, ls, h2 with
    | [], _, _ => exact Nat.zero_le _
    | [_], _, _ => exact Nat.zero_le _
    | a :: b :: r, la :: lb :: lr, h2 =>
      have hlen : lr.length = r.length := by simpa using h2
      obtain ⟨m1, q1, p1, len1, mx1, c1⟩ := swap_max (b :: r) a (lb :: lr) la (by simp [hlen]) hr.1
      match q1, len1 with
      | l2 :: q1, len1 =>
        have len1' : q1.length = r.length := by simp at len1; omega
        obtain ⟨m2, q2, p2, len2, mx2, c2⟩ := swap_max r b q1 l2 len1' hr.2.1
        have hm21 : m2 ≤ m1 := mx1 m2 (p2.subset List.mem_cons_self)
        have P : (m1 :: m2 :: q2).Perm (la :: lb :: lr) := (List.Perm.cons m1 p2).trans p1
        have hM2 : m2 ≤ M := hM m2 (P.subset (by simp))
        have hM1 : m1 ≤ M := hM m1 (P.subset (by simp))
        have K : 2 ^ (M - m1) + (2 ^ (M - m2) + kraft M q2) ≤ 2 ^ M := by
          have := kraft_perm (M := M) P
          simp only [kraft] at this hk
          omega
        obtain ⟨k, hkk⟩ := kraft_dvd hM2 q2 mx2
        have e0 : 2 ^ M = 2 ^ m2 * 2 ^ (M - m2) := by rw [← Nat.pow_add]; congr 1; omega
        have pos1 : 0 < 2 ^ (M - m1) := Nat.two_pow_pos _
        have pos2 : 0 < 2 ^ (M - m2) := Nat.two_pow_pos _
        have k2 : k + 2 ≤ 2 ^ m2 := by
          refine Nat.lt_of_mul_lt_mul_right (a := 2 ^ (M - m2)) ?_
          rw [← e0, Nat.add_mul, Nat.one_mul, ← hkk]
          omega
        have m2p : 1 ≤ m2 := by
          rcases Nat.eq_zero_or_pos m2 with e | e
          · rw [e] at k2
            simp at k2
          · exact e
        obtain ⟨ls', p', len', ec⟩ := cost_ins (a + b) (m2 - 1) r q2 (by omega)
        have K2 : kraft M ls' ≤ 2 ^ M := by
          rw [kraft_perm p', kraft, hkk, e0]
          have e1 : 2 ^ (M - (m2 - 1)) = 2 * 2 ^ (M - m2) := by
            rw [show M - (m2 - 1) = (M - m2) + 1 by omega, Nat.pow_succ]; omega
          rw [e1, ← Nat.add_mul]
          exact Nat.mul_le_mul_right _ (by omega)
        have I := ih (ins (a + b) r) ls' (by rw [length_ins]; simp at h1; omega) (by rw [length_ins]; omega) (rises_ins _ _ hr.2.2) (fun l hl => by
          rcases List.mem_cons.1 (p'.subset hl) with rfl | hl
          · omega
          · exact hM l (P.subset (by simp [hl]))) K2
        rw [ec] at I
        have s1 : a * m2 ≤ a * m1 := Nat.mul_le_mul_left a hm21
        have s2 : (a + b) * (m2 - 1) + (a + b) = (a + b) * m2 := by
          obtain ⟨d, rfl⟩ : ∃ d, m2 = d + 1 := ⟨m2 - 1, by omega⟩
          rw [Nat.add_sub_cancel, Nat.mul_succ]
        have s3 : (a + b) * m2 = a * m2 + b * m2 := Nat.add_mul _ _ _
        show (a + b) + huff n (ins (a + b) r) ≤ _
        simp only [cost] at c1 c2 ⊢
        omega
end Go.Proofs.Ytckkhmmicbpihaa.Hm
