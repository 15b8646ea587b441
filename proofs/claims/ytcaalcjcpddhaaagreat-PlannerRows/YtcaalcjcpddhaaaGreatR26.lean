/-
  Plain: names of beginnings, twice as long each time; rows that have each number once, and their inverses. Rows of numbers of the call's own; the contracts of the document's Numbers and Inverse. The contracts of the document's up, fano and Row. A region that draws its order and ends in a store over a cell that it has read: 'x.f = append(x.f, ..)'. What is held of the world (S) is asked behind every operation but the last ones (numbers ns: the stores), each of which waits for each operation that is taken first. Plain: ends that begin so stand together. Plain arithmetic of rows of bits: words of 64 bits in a list, the bit at a place, the row of given bits, counts. Nothing of the program is in here.
-/
import Derived.Test.YtcaalcjcpddhaaaGreatR24
import Derived.Test.YtcaalcjcpddhaaaGreatR25
import Derived.BigQuiet
import Derived.Laws.OwnMore
import Derived.Test.YtcaalcjcpddhaaaGreatR17
import Derived.OrdersHeld
import Derived.Deep.RegionHeld3
namespace Go.Proofs.YtcaalcjcpddhaaaGreat.Zz.Su
set_option linter.unusedVariables false

def bg (t : List Nat) (w i : Nat) : List Nat := (t.drop i).take w
def Nm (t : List Nat) (w : Nat) (f : Nat → Nat) : Prop := ∀ i j, i ≤ t.length → j ≤ t.length → (f i < f j ↔ lt (bg t w i) (bg t w j) = true)
def Pm (l : List Nat) : Prop := l.Perm (List.range l.length)
theorem pig : ∀ (n : Nat) (l : List Nat), l.Nodup → (∀ x ∈ l, x < n) → l.length ≤ n
 | 0, l, _, h => by
  cases l with
  | nil => exact Nat.le_refl _
  | cons a l => exact absurd (h a (List.mem_cons_self ..)) (Nat.not_lt_zero _)
 | n + 1, l, hn, h => by
  by_cases hm : n ∈ l
  ·have h1 := pig n (l.erase n) (hn.erase n) fun x hx => by
    obtain ⟨h2, h3⟩ := (hn.mem_erase_iff).1 hx
    have := h x h3
    omega
   rw [List.length_erase_of_mem hm] at h1
   omega
  ·have := pig n l hn fun x hx => by
    have := h x hx
    have : x ≠ n := fun e => hm (e ▸ hx)
    omega
   omega
def inv (l : List Nat) : List Nat := (List.range l.length).map fun x => l.idxOf x
end Go.Proofs.YtcaalcjcpddhaaaGreat.Zz.Su

namespace Go.Proofs.YtcaalcjcpddhaaaGreat.Zz
open Go.RowKit
set_option linter.unusedVariables false
set_option linter.unusedSimpArgs false
set_option maxRecDepth 100000

def toI (l : List Nat) : List Int := l.map fun x : Nat => (x : Int)
theorem length_toI (l : List Nat) : (toI l).length = l.length := by simp [toI]
theorem gi_toI (l : List Nat) (i : Nat) : gi (toI l) i = (gt l i : Int) := by
 unfold gi toI gt
 rw [List.getD_eq_getElem?_getD, List.getD_eq_getElem?_getD, List.getElem?_map]
 cases l[i]? <;> rfl
def iv (l : List Nat) : List Value := l.map fun x : Nat => Value.int .i64 (x : Int)
theorem length_iv (l : List Nat) : (iv l).length = l.length := by simp [iv]
theorem iv_get (l : List Nat) (i : Nat) (h : i < l.length) : (iv l)[i]? = some (.int .i64 (gt l i)) := by
 unfold iv
 rw [List.getElem?_map, gt_get l i h]; rfl
theorem nd_own {w : World} {base n c : Nat} {ao : Option Addr} {l : List Nat} (h : w.ownsRow base 3 1 (.slice ao n c) n (iv l)) : Nd w ao (toI l) := by
 intro h0
 rw [length_toI] at h0
 have hlen : (iv l).length = n * 1 := h.1
 rw [length_iv] at hlen
 have hk := fun k hk => h.lt k hk
 have hc := fun g hg => h.cells (g := g) hg
 obtain ⟨_, ⟨e, e2⟩ | ⟨g, cap, cur, e, _⟩⟩ := h
 ·omega
 ·simp only [Value.slice.injEq] at e
  obtain ⟨rfl, _, rfl⟩ := e
  refine ⟨g, 0, rfl, (hk g rfl).2, fun i hi => ?_⟩
  rw [length_toI] at hi
  rw [gi_toI, ← hc g rfl i _ (iv_get l i hi)]
  unfold Addr.add
  split
  ·subst_vars; rfl
  ·simp
def bv (l : List Bool) : List Value := l.map Value.bool
theorem Tryz.info4 : (Tryz.prog.info? 4).map (fun i => (i.zero, i.size, i.bytes)) = some (some (.bool false), 1, 1) := by kernel_rfl
namespace Su
theorem list_ext {xs ys : List Nat} (hl : xs.length = ys.length) (h : ∀ i, i < xs.length → gt xs i = gt ys i) : xs = ys := by
 refine List.ext_getElem? fun i => ?_
 by_cases c : i < xs.length
 ·rw [gt_get xs i c, gt_get ys i (by omega), h i c]
 ·rw [List.getElem?_eq_none (by omega), List.getElem?_eq_none (by omega)]
theorem gt_set (ys : List Nat) (j i v : Nat) (hj : j < ys.length) : gt (ys.set j v) i = if j = i then v else gt ys i := by
 unfold gt
 rw [List.getD_eq_getElem?_getD, List.getD_eq_getElem?_getD, List.getElem?_set]
 by_cases c : j = i
 ·subst c; simp [hj]
 ·simp [c]
theorem gt_map (f : Nat → Nat) (n i : Nat) (h : i < n) : gt ((List.range n).map f) i = f i := by
 unfold gt
 rw [List.getD_eq_getElem?_getD, List.getElem?_map, List.getElem?_range h]; rfl
end Su
set_option maxHeartbeats 2000000 in
theorem rnum_c (ao : Option Addr) (l : List Int) (cap : Nat) (bo : Option Addr) (m : List Int) (dap : Nat) (w : World) (hx : Nd w ao l) (hy : Nd w bo m) (hl : l.length ≤ 1048576) :
  Calls Tryz.prog 95 #[.slice ao l.length cap, .slice bo m.length dap] w fun e w' => e = .returned (.bool (decide (l = m))) ∧ Below w.heap.size w w' := by
 by_cases h2 : l.length = m.length
 ·have h2' : ((l.length : Int) != (m.length : Int)) = false := by simp [h2]
  have H2 : Hid (l.length = m.length) := h2
  have h3 : l.length ≤ m.length := by omega
  clear h2
  go_enter Tryz.func95, Tryz.ntmps95
  go_wp2
  go_loopw [5] (fun i wr => ∃ k : Nat, k ≤ l.length ∧ i = .int .i64 k ∧ Hid (∀ j, j < k → gi l j = gi m j) ∧ Below w.heap.size w wr) (fun i _ => l.length - (intOf i).toNat)
  case atStart => exact ⟨0, by omega, rfl, fun j hj => absurd hj (by omega), Below.refl _ _⟩
  case round =>
   obtain ⟨k, hk, rfl, H, hw⟩ := hrel
   by_cases hlt : k < l.length
   ·obtain ⟨b, off, rfl, hb, hc⟩ := hx (by omega)
    obtain ⟨d, off2, rfl, hd, hc2⟩ := hy (by omega)
    have e1 := (hw.cell (p := ⟨b, off + k, none⟩) hb).trans (hc k hlt)
    have e2 := (hw.cell (p := ⟨d, off2 + k, none⟩) hd).trans (hc2 k (by omega))
    have hlt2 : k < m.length := by omega
    have hlt3 : (k : Int) < (l.length : Int) := by omega
    have hlt4 : (k : Int) < (m.length : Int) := by omega
    clear hc hc2
    by_cases hv : gi l k = gi m k
    ·have hne : (gi l k != gi m k) = false := by simp [hv]
     go_wp2
     go_quiet (fail)
     go_wp2
     refine ⟨⟨k + 1, by omega, by go_num, ?_, below_drewN hw _⟩, by simp only [intOf]; omega⟩
     intro j hj
     by_cases e : j = k
     ·subst e; exact hv
     ·exact H.out j (by omega)
    ·have hne : (gi l k != gi m k) = true := by simp [hv]
     have R : Hid (decide (l = m) = false) := by
      show decide (l = m) = false
      simp only [decide_eq_false_iff_not]
      intro e; subst e; exact hv rfl
     go_wp2
     go_quiet (fail)
     go_wp2
     go_ret
     rw [R.out]
     exact ⟨rfl, below_drewN hw _⟩
   ·have R : Hid (decide (l = m) = true) := by
     show decide (l = m) = true
     simp only [decide_eq_true_eq]
     exact gi_ext H2.out (fun i hi => H.out i (by omega))
    go_wp2
    go_ret
    rw [R.out]
    exact ⟨rfl, hw⟩
 ·have h2' : ((l.length : Int) != (m.length : Int)) = true := by simp; omega
  have R : Hid (decide (l = m) = false) := by
   show decide (l = m) = false
   simp only [decide_eq_false_iff_not]
   intro e; subst e; exact h2 rfl
  go_enter Tryz.func95, Tryz.ntmps95
  go_wp2
  go_ret
  rw [R.out]
  exact ⟨rfl, Below.refl _ _⟩
end Go.Proofs.YtcaalcjcpddhaaaGreat.Zz

namespace Go.Proofs.YtcaalcjcpddhaaaGreat.Zz
open Go.RowKit Num
set_option linter.unusedVariables false
set_option linter.unusedSimpArgs false
set_option maxRecDepth 100000

theorem wq (k b d : Nat) (hd : d = k / b) (h : d ≤ 4611686018427387904) : wrap64 ((k : Int) / (b : Int)) = (d : Int) := by
 have e : (k : Int) / (b : Int) = (d : Int) := by rw [hd]; rfl
 rw [e]
 clear e hd
 unfold wrap64
 omega
theorem rowI_in {k : Int} {n m : Nat} (hn : n ≤ 1048576) (hm : m ≤ n) : Pn.rowI k n m = Pn.row k n m := by
 unfold Pn.rowI
 rw [if_pos ⟨by omega, by omega, by omega, by omega⟩, Int.toNat_natCast, Int.toNat_natCast]
theorem rowI_out {k n m : Int} (h : ¬ (0 ≤ n ∧ n ≤ 1048576 ∧ 0 ≤ m ∧ m ≤ n)) : Pn.rowI k n m = 0 := by
 unfold Pn.rowI
 rw [if_neg h]
end Go.Proofs.YtcaalcjcpddhaaaGreat.Zz

namespace Go.Proofs.YtcaalcjcpddhaaaGreat.Zz
open Go

section
variable {P : Program} {ops : Array Oper} {Q : Exit → Act → World → Prop} {md : Region.Mode} {S : World → Prop} {ns : List Nat}

def AnyG (P : Program) (md : Region.Mode) (ops : Array Oper) (Q : Exit → Act → World → Prop) (S : World → Prop) (ns : List Nat) : Nat → Array Bool → Act → World → Prop
 | 0, l, a, w => Region.ready md ops l = [] ∧ Q .normal a w
 | f + 1, l, a, w => (Region.ready md ops l = [] → Q .normal a w) ∧ ∀ i ∈ Region.ready md ops l, wpOp P ops Q i (fun a' w' => (i ∉ ns → S w → S w') ∧ AnyG P md ops Q S ns f (l.setIfInBounds i true) a' w') a w
theorem AnyG.any : ∀ f l a w, AnyG P md ops Q S ns f l a w → wpAny P md ops Q f l a w
 | 0, _, _, _, h => h
 | f + 1, _, _, _, h => ⟨h.1, fun i hi => wpOp_mono (fun a' w' h' => AnyG.any f _ a' w' h'.2) (h.2 i hi)⟩
def waits (md : Region.Mode) (ops : Array Oper) (n i : Nat) : Bool :=
 match ops[n]? with
 | some o => o.after.any fun e => Region.binds md e && e.on == i
 | none => true
theorem waits_not {n i : Nat} {l : Array Bool} (hw : waits md ops n i = true) (hi : l.getD i true = false) : n ∉ Region.ready md ops l := by
 intro hn
 obtain ⟨_, o, ho, hall⟩ := mem_ready.1 hn
 unfold waits at hw
 rw [ho] at hw
 obtain ⟨e, he, hb⟩ := Array.any_eq_true'.1 hw
 simp only [Bool.and_eq_true, beq_iff_eq] at hb
 have h1 := hall e he hb.1
 rw [hb.2] at h1
 rcases Nat.lt_or_ge i l.size with h' | h'
 ·simp [h'] at hi h1; rw [hi] at h1; cases h1
 ·simp [Array.getElem?_eq_none h'] at h1
theorem AnyG.first {i : Nat} {oi : Oper} {v : Value} (hi : ops[i]? = some oi) (hsel : Region.noSelect ops = true) (hQ : ∀ c a w, Q (.panic c) (a.put oi.dst v) w → Q (.panic c) a w) (hw : ns.all (fun n => waits md ops n i) = true) :
  ∀ f l a w, (∀ j oj, ops[j]? = some oj → j ≠ i → l.getD j true = false → (∀ e ∈ oj.after, Region.binds md e = true → e.on ≠ i) → oi.apart ops oj = true) →
   i ∈ Region.ready md ops l → YieldsIf P ops S oi v a → S w → AnyG P md ops Q S ns f (l.setIfInBounds i true) (a.put oi.dst v) w → AnyG P md ops Q S ns (f + 1) l a w := by
 intro f
 induction f with
 | zero =>
  intro l a w _ hr hy hS H
  refine ⟨fun h => absurd hr (by rw [h]; simp), fun j hj => ?_⟩
  by_cases c : j = i
  ·subst c; exact hy.wpOp hi hS ⟨fun _ h => h, H⟩
  ·have h1 := ready_mono hj c
   rw [H.1] at h1
   exact absurd h1 (by simp)
 | succ f ih =>
  intro l a w hfree hr hy hS H
  refine ⟨fun h => absurd hr (by rw [h]; simp), fun j hj => ?_⟩
  by_cases c : j = i
  ·subst c; exact hy.wpOp hi hS ⟨fun _ h => h, H⟩
  have hun := (mem_ready.1 hr).1
  have hjn : j ∉ ns := fun e => waits_not (List.all_eq_true.1 hw j e) hun hj
  obtain ⟨hjun, oj, hoj, hall⟩ := mem_ready.1 hj
  have hnot : ∀ e ∈ oj.after, Region.binds md e = true → e.on ≠ i := by
   intro e he hb heq
   have h1 := hall e he hb
   rw [heq] at h1
   rcases Nat.lt_or_ge i l.size with h' | h'
   ·simp [h'] at hun h1; rw [hun] at h1; cases h1
   ·simp [Array.getElem?_eq_none h'] at h1
  have h2 := wpOp_putIf hoj (hfree j oj hoj c hjun hnot) (fun cs b => Region.noSelect_spec hsel i oi cs b hi) (fun cs b => Region.noSelect_spec hsel j oj cs b hoj) hQ hy (H.2 j (ready_mono hj c))
  refine wpOp_mono (fun a' w' h3 => ⟨h3.2.1, ih (l.setIfInBounds j true) a' w' ?_ (ready_mono hr (Ne.symm c)) h3.1 (h3.2.1 hjn hS) ?_⟩) h2
  ·intro k ok hk hki hku hno
   refine hfree k ok hk hki ?_ hno
   by_cases e : j = k
   ·subst e; exact hjun
   ·rw [getD_set_ne true e] at hku; exact hku
  ·rw [Array.setIfInBounds_comm _ _ c]
   exact h3.2.2
theorem AnyG.firstW {i : Nat} {oi : Oper} {v : Value} (hi : ops[i]? = some oi) (hsel : Region.noSelect ops = true) (hQ : ∀ c a w, Q (.panic c) (a.put oi.dst v) w → Q (.panic c) a w) :
  ∀ f l a w, (∀ j oj, ops[j]? = some oj → j ≠ i → l.getD j true = false → (∀ e ∈ oj.after, Region.binds md e = true → e.on ≠ i) → oi.apart ops oj = true) →
   i ∈ Region.ready md ops l → YieldsIf P ops (fun _ => True) oi v a → AnyG P md ops Q S ns f (l.setIfInBounds i true) (a.put oi.dst v) w → AnyG P md ops Q S ns (f + 1) l a w := by
 intro f
 induction f with
 | zero =>
  intro l a w _ hr hy H
  refine ⟨fun h => absurd hr (by rw [h]; simp), fun j hj => ?_⟩
  by_cases c : j = i
  ·subst c; exact hy.wpOp hi trivial ⟨fun _ h => h, H⟩
  ·have h1 := ready_mono hj c
   rw [H.1] at h1
   exact absurd h1 (by simp)
 | succ f ih =>
  intro l a w hfree hr hy H
  refine ⟨fun h => absurd hr (by rw [h]; simp), fun j hj => ?_⟩
  by_cases c : j = i
  ·subst c; exact hy.wpOp hi trivial ⟨fun _ h => h, H⟩
  have hun := (mem_ready.1 hr).1
  obtain ⟨hjun, oj, hoj, hall⟩ := mem_ready.1 hj
  have hnot : ∀ e ∈ oj.after, Region.binds md e = true → e.on ≠ i := by
   intro e he hb heq
   have h1 := hall e he hb
   rw [heq] at h1
   rcases Nat.lt_or_ge i l.size with h' | h'
   ·simp [h'] at hun h1; rw [hun] at h1; cases h1
   ·simp [Array.getElem?_eq_none h'] at h1
  have h2 := wpOp_putIf hoj (hfree j oj hoj c hjun hnot) (fun cs b => Region.noSelect_spec hsel i oi cs b hi) (fun cs b => Region.noSelect_spec hsel j oj cs b hoj) hQ hy (H.2 j (ready_mono hj c))
  refine wpOp_mono (fun a' w' h3 => ⟨h3.2.1, ih (l.setIfInBounds j true) a' w' ?_ (ready_mono hr (Ne.symm c)) h3.1 ?_⟩) h2
  ·intro k ok hk hki hku hno
   refine hfree k ok hk hki ?_ hno
   by_cases e : j = k
   ·subst e; exact hjun
   ·rw [getD_set_ne true e] at hku; exact hku
  ·rw [Array.setIfInBounds_comm _ _ c]
   exact h3.2.2
theorem AnyG.takeW (i : Nat) {oi : Oper} {v : Value} {f : Nat} {l : Array Bool} {a : Act} {w : World} (hi : ops[i]? = some oi) (hs : Region.noSelect ops = true) (hf : Region.free md ops l i = true) (hr : (Region.ready md ops l).contains i = true)
  (hQ : ∀ c a w, Q (.panic c) (a.put oi.dst v) w → Q (.panic c) a w) (hy : ∀ w0, (execOp a.eval oi).run P w0 = .ok (.value v) w0) (hwn : Region.wanted oi (yielded ops a.tmps) = true)
  (h : AnyG P md ops Q S ns f (l.setIfInBounds i true) (a.put oi.dst v) w) : AnyG P md ops Q S ns (f + 1) l a w :=
 AnyG.firstW hi hs hQ f l a w (Region.free_spec hi hf) (by simpa using hr) (.inl ⟨hwn, fun w0 _ => hy w0⟩) h
theorem AnyG.take (i : Nat) {oi : Oper} {v : Value} {f : Nat} {l : Array Bool} {a : Act} {w : World} (hi : ops[i]? = some oi) (hs : Region.noSelect ops = true) (hf : Region.free md ops l i = true) (hr : (Region.ready md ops l).contains i = true) (hw : ns.all (fun n => waits md ops n i) = true)
  (hQ : ∀ c a w, Q (.panic c) (a.put oi.dst v) w → Q (.panic c) a w) (hS : S w) (hy : ∀ w0, S w0 → (execOp a.eval oi).run P w0 = .ok (.value v) w0) (hwn : Region.wanted oi (yielded ops a.tmps) = true)
  (h : AnyG P md ops Q S ns f (l.setIfInBounds i true) (a.put oi.dst v) w) : AnyG P md ops Q S ns (f + 1) l a w :=
 AnyG.first hi hs hQ hw f l a w (Region.free_spec hi hf) (by simpa using hr) (.inl ⟨hwn, hy⟩) hS h
theorem AnyG.one (i : Nat) {o : Oper} {f : Nat} {l : Array Bool} {a : Act} {w : World} (hr : Region.ready md ops l = [i]) (ho : ops[i]? = some o)
  (h : ∀ K : Act → World → Prop, Shut (∀ a' w', (i ∉ ns → S w') → AnyG P md ops Q S ns f (l.setIfInBounds i true) a' w' → K a' w') → if Region.wanted o (yielded ops a.tmps) = true then Oper.wp P o a w K Q else K (a.put o.dst undef) w) :
  AnyG P md ops Q S ns (f + 1) l a w := by
 refine ⟨fun h0 => absurd (hr.symm.trans h0) (by simp), fun j hj => ?_⟩
 rw [hr] at hj
 obtain rfl := List.mem_singleton.1 hj
 exact wpOp_step ho (fun K hK => h K (fun a' w' hS hW => hK a' w' ⟨fun n _ => hS n, hW⟩))
theorem AnyG.two (i j : Nat) {o p : Oper} {f : Nat} {l : Array Bool} {a : Act} {w : World} (hr : Region.ready md ops l = [i, j]) (ho : ops[i]? = some o) (hp : ops[j]? = some p)
  (h : ∀ K : Act → World → Prop, Shut (∀ a' w', (i ∉ ns → S w') → AnyG P md ops Q S ns f (l.setIfInBounds i true) a' w' → K a' w') → if Region.wanted o (yielded ops a.tmps) = true then Oper.wp P o a w K Q else K (a.put o.dst undef) w)
  (h2 : ∀ K : Act → World → Prop, Shut (∀ a' w', (j ∉ ns → S w') → AnyG P md ops Q S ns f (l.setIfInBounds j true) a' w' → K a' w') → if Region.wanted p (yielded ops a.tmps) = true then Oper.wp P p a w K Q else K (a.put p.dst undef) w) :
  AnyG P md ops Q S ns (f + 1) l a w := by
 refine ⟨fun h0 => absurd (hr.symm.trans h0) (by simp), fun k hk => ?_⟩
 rw [hr] at hk
 rcases List.mem_cons.1 hk with rfl | hk
 ·exact wpOp_step ho (fun K hK => h K (fun a' w' hS hW => hK a' w' ⟨fun n _ => hS n, hW⟩))
 ·obtain rfl := List.mem_singleton.1 hk
  exact wpOp_step hp (fun K hK => h2 K (fun a' w' hS hW => hK a' w' ⟨fun n _ => hS n, hW⟩))
theorem AnyG.done {l : Array Bool} {a : Act} {w : World} (hr : Region.ready md ops l = []) (h : Q .normal a w) : ∀ f, AnyG P md ops Q S ns f l a w
 | 0 => ⟨hr, h⟩
 | _ + 1 => ⟨fun _ => h, by rw [hr]; simp⟩
theorem region_g (ns : List Nat) (S : World → Prop) {id : Nat} {a : Act} {w : World} (hm : P.follows .mixedOrders = true) (h : AnyG P .any ops Q S ns ops.size (Array.replicate ops.size false) a w.drew) : (Code.region id ops true).wp P Q a w :=
 wp_region_any hm (AnyG.any _ _ _ _ h)
end
end Go.Proofs.YtcaalcjcpddhaaaGreat.Zz

namespace Go.Proofs.YtcaalcjcpddhaaaGreat.Zz.Su
set_option linter.unusedVariables false

def ct (b : Nat → Bool) : Nat → Nat
 | 0 => 0
 | i + 1 => ct b i + (b i).toNat
end Go.Proofs.YtcaalcjcpddhaaaGreat.Zz.Su

namespace Go.Proofs.YtcaalcjcpddhaaaGreat.Zz
open Num
namespace Bit

def gt (xs : List Nat) (i : Nat) : Nat := xs.getD i 0
def bitAt (xs : List Nat) (i : Nat) : Bool := (gt xs (i / 64)).testBit (i % 64)
def Fit (xs : List Nat) : Prop := ∀ i, gt xs i < 18446744073709551616
def chk (N : Int) (xs : List Nat) : Bool := decide (0 ≤ N ∧ N ≤ 1048576 ∧ (xs.length : Int) = (N + 63) / 64 ∧ (N % 64 = 0 ∨ gt xs (xs.length - 1) < 2 ^ (N % 64).toNat))
def numOf : Nat → (Nat → Bool) → Nat
 | 0, _ => 0
 | n + 1, f => numOf n f + if f n then 2 ^ n else 0
theorem numOf_lt (n : Nat) (f : Nat → Bool) : numOf n f < 2 ^ n := by
 induction n with
 | zero => simp [numOf]
 | succ n ih => simp only [numOf, Nat.pow_succ]; split <;> omega
theorem testBit_numOf (n : Nat) (f : Nat → Bool) (k : Nat) : (numOf n f).testBit k = (decide (k < n) && f k) := by
 induction n with
 | zero => simp [numOf]
 | succ n ih =>
  simp only [numOf]
  have hlt := numOf_lt n f
  by_cases hf : f n = true
  ·rw [if_pos hf, Nat.add_comm]
   have e : 2 ^ n + numOf n f = 2 ^ n ||| numOf n f := by
    have := Nat.two_pow_add_eq_or_of_lt hlt 1
    simpa using this
   rw [e, Nat.testBit_or, Nat.testBit_two_pow, ih]
   by_cases hk : n = k
   ·subst hk; simp [hf]
   ·by_cases h2 : k < n
    ·simp [hk, h2, show k < n + 1 by omega]
    ·simp [hk, h2, show ¬ k < n + 1 by omega]
  ·rw [if_neg hf, Nat.add_zero, ih]
   by_cases hk : n = k
   ·subst hk; simp [hf]
   ·by_cases h2 : k < n
    ·simp [h2, show k < n + 1 by omega]
    ·simp [h2, show ¬ k < n + 1 by omega]
theorem eq_numOf (n x : Nat) (f : Nat → Bool) (h : ∀ k, x.testBit k = (decide (k < n) && f k)) : x = numOf n f := by
 refine Nat.eq_of_testBit_eq fun k => ?_
 rw [h k, testBit_numOf]
theorem eq_of_bits (x y : Nat) (hx : x < 18446744073709551616) (hy : y < 18446744073709551616) (h : ∀ k, k < 64 → x.testBit k = y.testBit k) : x = y := by
 refine Nat.eq_of_testBit_eq fun k => ?_
 by_cases hk : k < 64
 ·exact h k hk
 ·have p : 18446744073709551616 ≤ 2 ^ k := Nat.pow_le_pow_right (n := 2) (by decide) (show 64 ≤ k by omega)
  rw [Nat.testBit_lt_two_pow (by omega), Nat.testBit_lt_two_pow (by omega)]
def rowOf (n : Nat) (f : Nat → Bool) : List Nat := (List.range ((n + 63) / 64)).map fun j => numOf 64 fun k => decide (64 * j + k < n) && f (64 * j + k)
theorem length_rowOf (n : Nat) (f : Nat → Bool) : (rowOf n f).length = (n + 63) / 64 := by simp [rowOf]
theorem gt_rowOf (n : Nat) (f : Nat → Bool) (j : Nat) : gt (rowOf n f) j = if j < (n + 63) / 64 then numOf 64 (fun k => decide (64 * j + k < n) && f (64 * j + k)) else 0 := by
 unfold gt rowOf
 by_cases h : j < (n + 63) / 64
 ·rw [if_pos h, List.getD_eq_getElem?_getD, List.getElem?_map, List.getElem?_range h]; rfl
 ·rw [if_neg h, List.getD_eq_getElem?_getD, List.getElem?_eq_none (by simp; omega)]; rfl
theorem bitAt_rowOf (n : Nat) (f : Nat → Bool) (i : Nat) : bitAt (rowOf n f) i = (decide (i < n) && f i) := by
 unfold bitAt
 rw [gt_rowOf]
 have hm : i % 64 < 64 := Nat.mod_lt _ (by decide)
 have hd : 64 * (i / 64) + i % 64 = i := Nat.div_add_mod i 64
 by_cases h : i / 64 < (n + 63) / 64
 ·rw [if_pos h, testBit_numOf, hd]
  simp [hm]
 ·rw [if_neg h, Nat.zero_testBit, show decide (i < n) = false by simp; omega]
  rfl
theorem fit_rowOf (n : Nat) (f : Nat → Bool) : Fit (rowOf n f) := by
 intro j
 rw [gt_rowOf]
 split
 ·exact numOf_lt 64 _
 ·decide
theorem gt_out (xs : List Nat) (i : Nat) (h : xs.length ≤ i) : gt xs i = 0 := by
 unfold gt; rw [List.getD_eq_getElem?_getD, List.getElem?_eq_none h]; rfl
theorem gt_get (xs : List Nat) (i : Nat) (h : i < xs.length) : xs[i]? = some (gt xs i) := by
 unfold gt; rw [List.getD_eq_getElem?_getD, List.getElem?_eq_getElem h]; rfl
theorem gt_set (xs : List Nat) (i j v : Nat) (h : i < xs.length) : gt (xs.set i v) j = if i = j then v else gt xs j := by
 unfold gt
 rw [List.getD_eq_getElem?_getD, List.getD_eq_getElem?_getD, List.getElem?_set]
 by_cases e : i = j
 ·subst e; simp [h]
 ·simp [e]
theorem list_ext (xs ys : List Nat) (hl : xs.length = ys.length) (h : ∀ i, i < xs.length → gt xs i = gt ys i) : xs = ys := by
 refine List.ext_getElem? fun i => ?_
 by_cases hi : i < xs.length
 ·rw [gt_get xs i hi, gt_get ys i (by omega), h i hi]
 ·rw [List.getElem?_eq_none (by omega), List.getElem?_eq_none (by omega)]
theorem eq_rowOf (n : Nat) (f : Nat → Bool) (xs : List Nat) (hg : Fit xs) (hl : xs.length = (n + 63) / 64) (h : ∀ i, i < 64 * xs.length → bitAt xs i = (decide (i < n) && f i)) : xs = rowOf n f := by
 refine list_ext _ _ (by rw [length_rowOf]; exact hl) fun j hj => ?_
 refine eq_of_bits _ _ (hg j) (fit_rowOf n f j) fun k hk => ?_
 have h1 := h (64 * j + k) (by omega)
 have h2 := bitAt_rowOf n f (64 * j + k)
 unfold bitAt at h1 h2
 rw [show (64 * j + k) / 64 = j by omega, show (64 * j + k) % 64 = k by omega] at h1 h2
 rw [h1, h2]
theorem rowOf_congr (n : Nat) (f g : Nat → Bool) (h : ∀ i, i < n → f i = g i) : rowOf n f = rowOf n g := by
 refine eq_rowOf n g _ (fit_rowOf n f) (length_rowOf n f) fun i _ => ?_
 rw [bitAt_rowOf]
 by_cases hi : i < n
 ·rw [h i hi]
 ·simp [hi]
theorem chk_out (N : Int) (xs : List Nat) (h : chk N xs = true) : 0 ≤ N ∧ N ≤ 1048576 ∧ (xs.length : Int) = (N + 63) / 64 ∧ (N % 64 = 0 ∨ gt xs (xs.length - 1) < 2 ^ (N % 64).toNat) := by
 unfold chk at h; exact of_decide_eq_true h
theorem chk_high (N : Int) (xs : List Nat) (h : chk N xs = true) (i : Nat) (hi : N ≤ (i : Int)) : bitAt xs i = false := by
 obtain ⟨h0, h1, hl, ht⟩ := chk_out N xs h
 unfold bitAt
 by_cases hlt : i / 64 < xs.length
 ·have e : i / 64 = xs.length - 1 := by omega
  rcases ht with ht | ht
  ·omega
  ·rw [e]
   refine Nat.testBit_lt_two_pow (Nat.lt_of_lt_of_le ht (Nat.pow_le_pow_right (by decide) ?_))
   omega
 ·rw [gt_out xs _ (by omega), Nat.zero_testBit]
theorem chk_row (N : Int) (xs : List Nat) (hg : Fit xs) (h : chk N xs = true) : xs = rowOf N.toNat (bitAt xs) := by
 obtain ⟨h0, h1, hl, _⟩ := chk_out N xs h
 refine eq_rowOf _ _ xs hg (by omega) fun i _ => ?_
 by_cases hi : i < N.toNat
 ·simp [hi]
 ·rw [chk_high N xs h i (by omega)]; simp [hi]
theorem chk_rowOf (n : Nat) (f : Nat → Bool) (h : n ≤ 1048576) : chk (n : Int) (rowOf n f) = true := by
 unfold chk
 rw [decide_eq_true_eq, length_rowOf]
 refine ⟨by omega, by omega, by omega, ?_⟩
 by_cases hz : n % 64 = 0
 ·exact .inl (by omega)
 ·refine .inr ?_
  refine Nat.lt_pow_two_of_testBit _ fun k hk => ?_
  by_cases hk2 : k < 64
  ·have e := bitAt_rowOf n f (64 * ((n + 63) / 64 - 1) + k)
   unfold bitAt at e
   rw [show (64 * ((n + 63) / 64 - 1) + k) / 64 = (n + 63) / 64 - 1 by omega, show (64 * ((n + 63) / 64 - 1) + k) % 64 = k by omega] at e
   rw [e, show decide (64 * ((n + 63) / 64 - 1) + k < n) = false by simp; omega]
   rfl
  ·exact Nat.testBit_lt_two_pow (Nat.lt_of_lt_of_le (fit_rowOf n f _) (Nat.pow_le_pow_right (n := 2) (by decide) (show 64 ≤ k by omega)))
def cntB (xs : List Nat) : Nat → Nat
 | 0 => 0
 | k + 1 => cntB xs k + if bitAt xs k then 1 else 0
theorem bit_test (x i : Nat) : x.testBit i = decide (x / 2 ^ i % 2 = 1) := by
 rw [Nat.testBit_eq_decide_div_mod_eq]
theorem cntB_le (xs : List Nat) (k : Nat) : cntB xs k ≤ k := by
 induction k with
 | zero => exact Nat.le_refl _
 | succ k ih => simp only [cntB]; split <;> omega
def onesI (N : Int) (xs : List Nat) (n : Int) : Int := if chk N xs then (cntB xs (min n N).toNat : Int) else 0
def slcE (N : Int) (xs : List Nat) (at_ n : Int) : Int := if chk N xs = false ∨ n < 0 ∨ 64 < n then 2 else if at_ < 0 ∨ N - n < at_ then 3 else 0
def slcX (N : Int) (xs : List Nat) (at_ n : Int) : Nat := if slcE N xs at_ n = 0 then numOf n.toNat (fun k => bitAt xs (at_.toNat + k)) else 0
end Bit
end Go.Proofs.YtcaalcjcpddhaaaGreat.Zz
