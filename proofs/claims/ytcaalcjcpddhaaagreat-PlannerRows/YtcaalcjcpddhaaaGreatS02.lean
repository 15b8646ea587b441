/-
  Plain: the order of ends is one alone, and there is one; bytes as a string, compared. Plain: names of beginnings, twice as long each time; rows that have each number once, and their inverses. Rows of numbers of the call's own; the contracts of the document's Numbers and Inverse. The contracts of the document's up, fano and Row. A region that draws its order and ends in a store over a cell that it has read: 'x.f = append(x.f, ..)'. What is held of the world (S) is asked behind every operation but the last ones (numbers ns: the stores), each of which waits for each operation that is taken first. Plain: ends that begin so stand together.
-/
import Derived.Test.YtcaalcjcpddhaaaGreatS01
import Derived.BigQuiet
import Derived.Laws.OwnMore
import Derived.OrdersHeld
import Derived.Deep.RegionHeld3
set_option linter.unusedVariables false
set_option linter.unusedSimpArgs false
set_option maxRecDepth 100000
namespace Go.Proofs.YtcaalcjcpddhaaaGreat.Zz
theorem Bytes.drop {t : List Nat} (h : Bytes t) (i : Nat) : Bytes (t.drop i) := fun x hx => h x (List.mem_of_mem_drop hx)
theorem Bytes.take {t : List Nat} (h : Bytes t) (i : Nat) : Bytes (t.take i) := fun x hx => h x (List.mem_of_mem_take hx)
end Go.Proofs.YtcaalcjcpddhaaaGreat.Zz
namespace Go.Proofs.YtcaalcjcpddhaaaGreat.Zz
open Go.RowKit
def toI (l : List Nat) : List Int := l.map fun x : Nat => (x : Int)
end Go.Proofs.YtcaalcjcpddhaaaGreat.Zz
namespace Go.Proofs.YtcaalcjcpddhaaaGreat.Zz
open Go.RowKit Num
theorem wq (k b d : Nat) (hd : d = k / b) (h : d ≤ 4611686018427387904) : wrap64 ((k : Int) / (b : Int)) = (d : Int) := by
 have e : (k : Int) / (b : Int) = (d : Int) := by rw [hd]; rfl
 rw [e]
 clear e hd
 unfold wrap64
 omega
theorem rowI_in {k : Int} {n m : Nat} (hn : n ≤ 1048576) (hm : m ≤ n) : Pn.rowI k n m = Pn.row k n m := by
 unfold Pn.rowI
 rw [if_pos ⟨by omega, by omega, by omega, by omega⟩, Int.toNat_natCast, Int.toNat_natCast]
theorem rowI_out {k n m : Int} (h : ¬ (0 ≤ n ∧ n ≤ 1048576 ∧ 0 ≤ m ∧ m ≤ n)) : Pn.rowI k n m = 0 := by
 unfold Pn.rowI
 rw [if_neg h]
end Go.Proofs.YtcaalcjcpddhaaaGreat.Zz
namespace Go.Proofs.YtcaalcjcpddhaaaGreat.Zz
open Go
section
variable {P : Program} {ops : Array Oper} {Q : Exit → Act → World → Prop} {md : Region.Mode} {S : World → Prop} {ns : List Nat}
def AnyG (P : Program) (md : Region.Mode) (ops : Array Oper) (Q : Exit → Act → World → Prop) (S : World → Prop) (ns : List Nat) : Nat → Array Bool → Act → World → Prop
 | 0, l, a, w => Region.ready md ops l = [] ∧ Q .normal a w
 | f + 1, l, a, w => (Region.ready md ops l = [] → Q .normal a w) ∧ ∀ i ∈ Region.ready md ops l, wpOp P ops Q i (fun a' w' => (i ∉ ns → S w → S w') ∧ AnyG P md ops Q S ns f (l.setIfInBounds i true) a' w') a w
theorem AnyG.any : ∀ f l a w, AnyG P md ops Q S ns f l a w → wpAny P md ops Q f l a w
 | 0, _, _, _, h => h
 | f + 1, _, _, _, h => ⟨h.1, fun i hi => wpOp_mono (fun a' w' h' => AnyG.any f _ a' w' h'.2) (h.2 i hi)⟩
def waits (md : Region.Mode) (ops : Array Oper) (n i : Nat) : Bool :=
 match ops[n]? with
 | some o => o.after.any fun e => Region.binds md e && e.on == i
 | none => true
theorem waits_not {n i : Nat} {l : Array Bool} (hw : waits md ops n i = true) (hi : l.getD i true = false) : n ∉ Region.ready md ops l := by
 intro hn
 obtain ⟨_, o, ho, hall⟩ := mem_ready.1 hn
 unfold waits at hw
 rw [ho] at hw
 obtain ⟨e, he, hb⟩ := Array.any_eq_true'.1 hw
 simp only [Bool.and_eq_true, beq_iff_eq] at hb
 have h1 := hall e he hb.1
 rw [hb.2] at h1
 rcases Nat.lt_or_ge i l.size with h' | h'
 ·simp [h'] at hi h1; rw [hi] at h1; cases h1
 ·simp [Array.getElem?_eq_none h'] at h1
theorem AnyG.first {i : Nat} {oi : Oper} {v : Value} (hi : ops[i]? = some oi) (hsel : Region.noSelect ops = true) (hQ : ∀ c a w, Q (.panic c) (a.put oi.dst v) w → Q (.panic c) a w) (hw : ns.all (fun n => waits md ops n i) = true) :
  ∀ f l a w, (∀ j oj, ops[j]? = some oj → j ≠ i → l.getD j true = false → (∀ e ∈ oj.after, Region.binds md e = true → e.on ≠ i) → oi.apart ops oj = true) →
   i ∈ Region.ready md ops l → YieldsIf P ops S oi v a → S w → AnyG P md ops Q S ns f (l.setIfInBounds i true) (a.put oi.dst v) w → AnyG P md ops Q S ns (f + 1) l a w := by
 intro f
 induction f with
 | zero =>
  intro l a w _ hr hy hS H
  refine ⟨fun h => absurd hr (by rw [h]; simp), fun j hj => ?_⟩
  by_cases c : j = i
  ·subst c; exact hy.wpOp hi hS ⟨fun _ h => h, H⟩
  ·have h1 := ready_mono hj c
   rw [H.1] at h1
   exact absurd h1 (by simp)
 | succ f ih =>
  intro l a w hfree hr hy hS H
  refine ⟨fun h => absurd hr (by rw [h]; simp), fun j hj => ?_⟩
  by_cases c : j = i
  ·subst c; exact hy.wpOp hi hS ⟨fun _ h => h, H⟩
  have hun := (mem_ready.1 hr).1
  have hjn : j ∉ ns := fun e => waits_not (List.all_eq_true.1 hw j e) hun hj
  obtain ⟨hjun, oj, hoj, hall⟩ := mem_ready.1 hj
  have hnot : ∀ e ∈ oj.after, Region.binds md e = true → e.on ≠ i := by
   intro e he hb heq
   have h1 := hall e he hb
   rw [heq] at h1
   rcases Nat.lt_or_ge i l.size with h' | h'
   ·simp [h'] at hun h1; rw [hun] at h1; cases h1
   ·simp [Array.getElem?_eq_none h'] at h1
  have h2 := wpOp_putIf hoj (hfree j oj hoj c hjun hnot) (fun cs b => Region.noSelect_spec hsel i oi cs b hi) (fun cs b => Region.noSelect_spec hsel j oj cs b hoj) hQ hy (H.2 j (ready_mono hj c))
  refine wpOp_mono (fun a' w' h3 => ⟨h3.2.1, ih (l.setIfInBounds j true) a' w' ?_ (ready_mono hr (Ne.symm c)) h3.1 (h3.2.1 hjn hS) ?_⟩) h2
  ·intro k ok hk hki hku hno
   refine hfree k ok hk hki ?_ hno
   by_cases e : j = k
   ·subst e; exact hjun
   ·rw [getD_set_ne true e] at hku; exact hku
  ·rw [Array.setIfInBounds_comm _ _ c]
   exact h3.2.2
theorem AnyG.firstW {i : Nat} {oi : Oper} {v : Value} (hi : ops[i]? = some oi) (hsel : Region.noSelect ops = true) (hQ : ∀ c a w, Q (.panic c) (a.put oi.dst v) w → Q (.panic c) a w) :
  ∀ f l a w, (∀ j oj, ops[j]? = some oj → j ≠ i → l.getD j true = false → (∀ e ∈ oj.after, Region.binds md e = true → e.on ≠ i) → oi.apart ops oj = true) →
   i ∈ Region.ready md ops l → YieldsIf P ops (fun _ => True) oi v a → AnyG P md ops Q S ns f (l.setIfInBounds i true) (a.put oi.dst v) w → AnyG P md ops Q S ns (f + 1) l a w := by
 intro f
 induction f with
 | zero =>
  intro l a w _ hr hy H
  refine ⟨fun h => absurd hr (by rw [h]; simp), fun j hj => ?_⟩
  by_cases c : j = i
  ·subst c; exact hy.wpOp hi trivial ⟨fun _ h => h, H⟩
  ·have h1 := ready_mono hj c
   rw [H.1] at h1
   exact absurd h1 (by simp)
 | succ f ih =>
  intro l a w hfree hr hy H
  refine ⟨fun h => absurd hr (by rw [h]; simp), fun j hj => ?_⟩
  by_cases c : j = i
  ·subst c; exact hy.wpOp hi trivial ⟨fun _ h => h, H⟩
  have hun := (mem_ready.1 hr).1
  obtain ⟨hjun, oj, hoj, hall⟩ := mem_ready.1 hj
  have hnot : ∀ e ∈ oj.after, Region.binds md e = true → e.on ≠ i := by
   intro e he hb heq
   have h1 := hall e he hb
   rw [heq] at h1
   rcases Nat.lt_or_ge i l.size with h' | h'
   ·simp [h'] at hun h1; rw [hun] at h1; cases h1
   ·simp [Array.getElem?_eq_none h'] at h1
  have h2 := wpOp_putIf hoj (hfree j oj hoj c hjun hnot) (fun cs b => Region.noSelect_spec hsel i oi cs b hi) (fun cs b => Region.noSelect_spec hsel j oj cs b hoj) hQ hy (H.2 j (ready_mono hj c))
  refine wpOp_mono (fun a' w' h3 => ⟨h3.2.1, ih (l.setIfInBounds j true) a' w' ?_ (ready_mono hr (Ne.symm c)) h3.1 ?_⟩) h2
  ·intro k ok hk hki hku hno
   refine hfree k ok hk hki ?_ hno
   by_cases e : j = k
   ·subst e; exact hjun
   ·rw [getD_set_ne true e] at hku; exact hku
  ·rw [Array.setIfInBounds_comm _ _ c]
   exact h3.2.2
theorem AnyG.takeW (i : Nat) {oi : Oper} {v : Value} {f : Nat} {l : Array Bool} {a : Act} {w : World} (hi : ops[i]? = some oi) (hs : Region.noSelect ops = true) (hf : Region.free md ops l i = true) (hr : (Region.ready md ops l).contains i = true)
  (hQ : ∀ c a w, Q (.panic c) (a.put oi.dst v) w → Q (.panic c) a w) (hy : ∀ w0, (execOp a.eval oi).run P w0 = .ok (.value v) w0) (hwn : Region.wanted oi (yielded ops a.tmps) = true)
  (h : AnyG P md ops Q S ns f (l.setIfInBounds i true) (a.put oi.dst v) w) : AnyG P md ops Q S ns (f + 1) l a w :=
 AnyG.firstW hi hs hQ f l a w (Region.free_spec hi hf) (by simpa using hr) (.inl ⟨hwn, fun w0 _ => hy w0⟩) h
theorem AnyG.take (i : Nat) {oi : Oper} {v : Value} {f : Nat} {l : Array Bool} {a : Act} {w : World} (hi : ops[i]? = some oi) (hs : Region.noSelect ops = true) (hf : Region.free md ops l i = true) (hr : (Region.ready md ops l).contains i = true) (hw : ns.all (fun n => waits md ops n i) = true)
  (hQ : ∀ c a w, Q (.panic c) (a.put oi.dst v) w → Q (.panic c) a w) (hS : S w) (hy : ∀ w0, S w0 → (execOp a.eval oi).run P w0 = .ok (.value v) w0) (hwn : Region.wanted oi (yielded ops a.tmps) = true)
  (h : AnyG P md ops Q S ns f (l.setIfInBounds i true) (a.put oi.dst v) w) : AnyG P md ops Q S ns (f + 1) l a w :=
 AnyG.first hi hs hQ hw f l a w (Region.free_spec hi hf) (by simpa using hr) (.inl ⟨hwn, hy⟩) hS h
theorem AnyG.one (i : Nat) {o : Oper} {f : Nat} {l : Array Bool} {a : Act} {w : World} (hr : Region.ready md ops l = [i]) (ho : ops[i]? = some o)
  (h : ∀ K : Act → World → Prop, Shut (∀ a' w', (i ∉ ns → S w') → AnyG P md ops Q S ns f (l.setIfInBounds i true) a' w' → K a' w') → if Region.wanted o (yielded ops a.tmps) = true then Oper.wp P o a w K Q else K (a.put o.dst undef) w) :
  AnyG P md ops Q S ns (f + 1) l a w := by
 refine ⟨fun h0 => absurd (hr.symm.trans h0) (by simp), fun j hj => ?_⟩
 rw [hr] at hj
 obtain rfl := List.mem_singleton.1 hj
 exact wpOp_step ho (fun K hK => h K (fun a' w' hS hW => hK a' w' ⟨fun n _ => hS n, hW⟩))
theorem AnyG.two (i j : Nat) {o p : Oper} {f : Nat} {l : Array Bool} {a : Act} {w : World} (hr : Region.ready md ops l = [i, j]) (ho : ops[i]? = some o) (hp : ops[j]? = some p)
  (h : ∀ K : Act → World → Prop, Shut (∀ a' w', (i ∉ ns → S w') → AnyG P md ops Q S ns f (l.setIfInBounds i true) a' w' → K a' w') → if Region.wanted o (yielded ops a.tmps) = true then Oper.wp P o a w K Q else K (a.put o.dst undef) w)
  (h2 : ∀ K : Act → World → Prop, Shut (∀ a' w', (j ∉ ns → S w') → AnyG P md ops Q S ns f (l.setIfInBounds j true) a' w' → K a' w') → if Region.wanted p (yielded ops a.tmps) = true then Oper.wp P p a w K Q else K (a.put p.dst undef) w) :
  AnyG P md ops Q S ns (f + 1) l a w := by
 refine ⟨fun h0 => absurd (hr.symm.trans h0) (by simp), fun k hk => ?_⟩
 rw [hr] at hk
 rcases List.mem_cons.1 hk with rfl | hk
 ·exact wpOp_step ho (fun K hK => h K (fun a' w' hS hW => hK a' w' ⟨fun n _ => hS n, hW⟩))
 ·obtain rfl := List.mem_singleton.1 hk
  exact wpOp_step hp (fun K hK => h2 K (fun a' w' hS hW => hK a' w' ⟨fun n _ => hS n, hW⟩))
theorem AnyG.done {l : Array Bool} {a : Act} {w : World} (hr : Region.ready md ops l = []) (h : Q .normal a w) : ∀ f, AnyG P md ops Q S ns f l a w
 | 0 => ⟨hr, h⟩
 | _ + 1 => ⟨fun _ => h, by rw [hr]; simp⟩
theorem region_g (ns : List Nat) (S : World → Prop) {id : Nat} {a : Act} {w : World} (hm : P.follows .mixedOrders = true) (h : AnyG P .any ops Q S ns ops.size (Array.replicate ops.size false) a w.drew) : (Code.region id ops true).wp P Q a w :=
 wp_region_any hm (AnyG.any _ _ _ _ h)
end
end Go.Proofs.YtcaalcjcpddhaaaGreat.Zz
