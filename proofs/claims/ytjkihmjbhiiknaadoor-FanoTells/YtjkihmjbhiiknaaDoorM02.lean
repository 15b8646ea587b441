/-
  A region that draws its order and ends in a store over a cell that it has read: 'x.f = append(x.f, ..)'. What is held of the world (S) is asked behind every operation but the last ones (numbers ns: the stores), each of which waits for each operation that is taken first. A region that draws its order, in a round of a range over a function, every function let in: taken as one line of operations (as Rg does outside of rounds). Nothing of the program is in here. A range over a function, every function let in: what an iterator promises (Goes), what a round keeps (Kept), and one law for the statement. Nothing of the program is in here. The contracts of the word functions and of the document's answers: for every word and numbers each call returns what the plain functions of YtjkihmjbhiiknaaDoorNum say, and leaves the world as it was. Words in memory: a slice of words that reads as a list of numbers (Wd), a row of words that a call has made (Own), and what stays of them while other memory grows. The contracts of the calls of package bits that only read: Check, Get, Ones, Slice, and small of the law. An argument of the type api.Bits, opened: its number, its words, where they lie. Numbers in memory (a slice of ints that reads as a list), boxes of four cells, and an argument of the type api.Plain, opened. The contract of Same, the law that two rows are one.
-/
import Derived.OrdersHeld
import Derived.Deep.RegionHeld3
import Derived.OrdersIn
import Derived.RangeFuncCalls
import Derived.RangeFuncIn
import Derived.RangeFuncRecord
import Derived.RangeFuncLeaves
import Derived.RangeFuncSeq
import Derived.Below
import Derived.Test.YtjkihmjbhiiknaaDoorRows
import Derived.Test.YtjkihmjbhiiknaaDoorM00
import Derived.WalkKit
import Derived.WalkSpells
import Derived.WalkLawsBesides
import Derived.WalkSmall
import Derived.Deep.QuietTactic
import Derived.BigQuiet
import Derived.Deep.DrawnRows
import Derived.ProofKit
import Derived.OpenShut
import Derived.Lib.SmallJoins
import Derived.Test.YtjkihmjbhiiknaaDoorM01
import Derived.OwnWalk
import Derived.Deep.AppendLies
import Derived.Deep.Strs
namespace Go.Proofs.YtjkihmjbhiiknaaDoor
open Go

section
variable {P : Program} {ops : Array Oper} {Q : Exit → Act → World → Prop} {md : Region.Mode} {S : World → Prop} {ns : List Nat}

def AnyG (P : Program) (md : Region.Mode) (ops : Array Oper) (Q : Exit → Act → World → Prop) (S : World → Prop) (ns : List Nat) : Nat → Array Bool → Act → World → Prop
  | 0, l, a, w => Region.ready md ops l = [] ∧ Q .normal a w
  | f + 1, l, a, w => (Region.ready md ops l = [] → Q .normal a w) ∧ ∀ i ∈ Region.ready md ops l, wpOp P ops Q i (fun a' w' => (i ∉ ns → S w → S w') ∧ AnyG P md ops Q S ns f (l.setIfInBounds i true) a' w') a w

theorem AnyG.any : ∀ f l a w, AnyG P md ops Q S ns f l a w → wpAny P md ops Q f l a w
  | 0, _, _, _, h => h
  | f + 1, _, _, _, h => ⟨h.1, fun i hi => wpOp_mono (fun a' w' h' => AnyG.any f _ a' w' h'.2) (h.2 i hi)⟩

/-- Operation n waits for operation i (or there is no such operation). -/
def waits (md : Region.Mode) (ops : Array Oper) (n i : Nat) : Bool :=
  match ops[n]? with
  | some o => o.after.any fun e => Region.binds md e && e.on == i
  | none => true

theorem waits_not {n i : Nat} {l : Array Bool} (hw : waits md ops n i = true) (hi : l.getD i true = false) : n ∉ Region.ready md ops l := by
  intro hn
  obtain ⟨_, o, ho, hall⟩ := mem_ready.1 hn
  unfold waits at hw
  rw [ho] at hw
  obtain ⟨e, he, hb⟩ := Array.any_eq_true'.1 hw
  simp only [Bool.and_eq_true, beq_iff_eq] at hb
  have h1 := hall e he hb.1
  rw [hb.2] at h1
  rcases Nat.lt_or_ge i l.size with h' | h'
  · simp [h'] at hi h1; rw [hi] at h1; cases h1
  · simp [Array.getElem?_eq_none h'] at h1

theorem AnyG.first {i : Nat} {oi : Oper} {v : Value} (hi : ops[i]? = some oi) (hsel : Region.noSelect ops = true) (hQ : ∀ c a w, Q (.panic c) (a.put oi.dst v) w → Q (.panic c) a w) (hw : ns.all (fun n => waits md ops n i) = true) :
    ∀ f l a w, (∀ j oj, ops[j]? = some oj → j ≠ i → l.getD j true = false → (∀ e ∈ oj.after, Region.binds md e = true → e.on ≠ i) → oi.apart ops oj = true) →
      i ∈ Region.ready md ops l → YieldsIf P ops S oi v a → S w → AnyG P md ops Q S ns f (l.setIfInBounds i true) (a.put oi.dst v) w → AnyG P md ops Q S ns (f + 1) l a w := by
  intro f
  induction f with
  | zero =>
    intro l a w _ hr hy hS H
    refine ⟨fun h => absurd hr (by rw [h]; simp), fun j hj => ?_⟩
    by_cases c : j = i
    · subst c; exact hy.wpOp hi hS ⟨fun _ h => h, H⟩
    · have h1 := ready_mono hj c
      rw [H.1] at h1
      exact absurd h1 (by simp)
  | succ f ih =>
    intro l a w hfree hr hy hS H
    refine ⟨fun h => absurd hr (by rw [h]; simp), fun j hj => ?_⟩
    by_cases c : j = i
    · subst c; exact hy.wpOp hi hS ⟨fun _ h => h, H⟩
    have hun := (mem_ready.1 hr).1
    have hjn : j ∉ ns := fun e => waits_not (List.all_eq_true.1 hw j e) hun hj
    obtain ⟨hjun, oj, hoj, hall⟩ := mem_ready.1 hj
    have hnot : ∀ e ∈ oj.after, Region.binds md e = true → e.on ≠ i := by
      intro e he hb heq
      have h1 := hall e he hb
      rw [heq] at h1
      rcases Nat.lt_or_ge i l.size with h' | h'
      · simp [h'] at hun h1; rw [hun] at h1; cases h1
      · simp [Array.getElem?_eq_none h'] at h1
    have h2 := wpOp_putIf hoj (hfree j oj hoj c hjun hnot) (fun cs b => Region.noSelect_spec hsel i oi cs b hi) (fun cs b => Region.noSelect_spec hsel j oj cs b hoj) hQ hy (H.2 j (ready_mono hj c))
    refine wpOp_mono (fun a' w' h3 => ⟨h3.2.1, ih (l.setIfInBounds j true) a' w' ?_ (ready_mono hr (Ne.symm c)) h3.1 (h3.2.1 hjn hS) ?_⟩) h2
    · intro k ok hk hki hku hno
      refine hfree k ok hk hki ?_ hno
      by_cases e : j = k
      · subst e; exact hjun
      · rw [getD_set_ne true e] at hku; exact hku
    · rw [Array.setIfInBounds_comm _ _ c]
      exact h3.2.2

/-- The same for an operation that yields its value whatever the world is: nothing need wait for it. -/
theorem AnyG.firstW {i : Nat} {oi : Oper} {v : Value} (hi : ops[i]? = some oi) (hsel : Region.noSelect ops = true) (hQ : ∀ c a w, Q (.panic c) (a.put oi.dst v) w → Q (.panic c) a w) :
    ∀ f l a w, (∀ j oj, ops[j]? = some oj → j ≠ i → l.getD j true = false → (∀ e ∈ oj.after, Region.binds md e = true → e.on ≠ i) → oi.apart ops oj = true) →
      i ∈ Region.ready md ops l → YieldsIf P ops (fun _ => True) oi v a → AnyG P md ops Q S ns f (l.setIfInBounds i true) (a.put oi.dst v) w → AnyG P md ops Q S ns (f + 1) l a w := by
  intro f
  induction f with
  | zero =>
    intro l a w _ hr hy H
    refine ⟨fun h => absurd hr (by rw [h]; simp), fun j hj => ?_⟩
    by_cases c : j = i
    · subst c; exact hy.wpOp hi trivial ⟨fun _ h => h, H⟩
    · have h1 := ready_mono hj c
      rw [H.1] at h1
      exact absurd h1 (by simp)
  | succ f ih =>
    intro l a w hfree hr hy H
    refine ⟨fun h => absurd hr (by rw [h]; simp), fun j hj => ?_⟩
    by_cases c : j = i
    · subst c; exact hy.wpOp hi trivial ⟨fun _ h => h, H⟩
    have hun := (mem_ready.1 hr).1
    obtain ⟨hjun, oj, hoj, hall⟩ := mem_ready.1 hj
    have hnot : ∀ e ∈ oj.after, Region.binds md e = true → e.on ≠ i := by
      intro e he hb heq
      have h1 := hall e he hb
      rw [heq] at h1
      rcases Nat.lt_or_ge i l.size with h' | h'
      · simp [h'] at hun h1; rw [hun] at h1; cases h1
      · simp [Array.getElem?_eq_none h'] at h1
    have h2 := wpOp_putIf hoj (hfree j oj hoj c hjun hnot) (fun cs b => Region.noSelect_spec hsel i oi cs b hi) (fun cs b => Region.noSelect_spec hsel j oj cs b hoj) hQ hy (H.2 j (ready_mono hj c))
    refine wpOp_mono (fun a' w' h3 => ⟨h3.2.1, ih (l.setIfInBounds j true) a' w' ?_ (ready_mono hr (Ne.symm c)) h3.1 ?_⟩) h2
    · intro k ok hk hki hku hno
      refine hfree k ok hk hki ?_ hno
      by_cases e : j = k
      · subst e; exact hjun
      · rw [getD_set_ne true e] at hku; exact hku
    · rw [Array.setIfInBounds_comm _ _ c]
      exact h3.2.2
/-- Take number i first, whatever the world is. -/
theorem AnyG.takeW (i : Nat) {oi : Oper} {v : Value} {f : Nat} {l : Array Bool} {a : Act} {w : World} (hi : ops[i]? = some oi) (hs : Region.noSelect ops = true) (hf : Region.free md ops l i = true) (hr : (Region.ready md ops l).contains i = true)
    (hQ : ∀ c a w, Q (.panic c) (a.put oi.dst v) w → Q (.panic c) a w) (hy : ∀ w0, (execOp a.eval oi).run P w0 = .ok (.value v) w0) (hwn : Region.wanted oi (yielded ops a.tmps) = true)
    (h : AnyG P md ops Q S ns f (l.setIfInBounds i true) (a.put oi.dst v) w) : AnyG P md ops Q S ns (f + 1) l a w :=
  AnyG.firstW hi hs hQ f l a w (Region.free_spec hi hf) (by simpa using hr) (.inl ⟨hwn, fun w0 _ => hy w0⟩) h

/-- Take number i first. -/
theorem AnyG.take (i : Nat) {oi : Oper} {v : Value} {f : Nat} {l : Array Bool} {a : Act} {w : World} (hi : ops[i]? = some oi) (hs : Region.noSelect ops = true) (hf : Region.free md ops l i = true) (hr : (Region.ready md ops l).contains i = true) (hw : ns.all (fun n => waits md ops n i) = true)
    (hQ : ∀ c a w, Q (.panic c) (a.put oi.dst v) w → Q (.panic c) a w) (hS : S w) (hy : ∀ w0, S w0 → (execOp a.eval oi).run P w0 = .ok (.value v) w0) (hwn : Region.wanted oi (yielded ops a.tmps) = true)
    (h : AnyG P md ops Q S ns f (l.setIfInBounds i true) (a.put oi.dst v) w) : AnyG P md ops Q S ns (f + 1) l a w :=
  AnyG.first hi hs hQ hw f l a w (Region.free_spec hi hf) (by simpa using hr) (.inl ⟨hwn, hy⟩) hS h

/-- Number i alone may come up. -/
theorem AnyG.one (i : Nat) {o : Oper} {f : Nat} {l : Array Bool} {a : Act} {w : World} (hr : Region.ready md ops l = [i]) (ho : ops[i]? = some o)
    (h : ∀ K : Act → World → Prop, Shut (∀ a' w', (i ∉ ns → S w') → AnyG P md ops Q S ns f (l.setIfInBounds i true) a' w' → K a' w') → if Region.wanted o (yielded ops a.tmps) = true then Oper.wp P o a w K Q else K (a.put o.dst undef) w) :
    AnyG P md ops Q S ns (f + 1) l a w := by
  refine ⟨fun h0 => absurd (hr.symm.trans h0) (by simp), fun j hj => ?_⟩
  rw [hr] at hj
  obtain rfl := List.mem_singleton.1 hj
  exact wpOp_step ho (fun K hK => h K (fun a' w' hS hW => hK a' w' ⟨fun n _ => hS n, hW⟩))

/-- Numbers i and j may come up. -/
theorem AnyG.two (i j : Nat) {o p : Oper} {f : Nat} {l : Array Bool} {a : Act} {w : World} (hr : Region.ready md ops l = [i, j]) (ho : ops[i]? = some o) (hp : ops[j]? = some p)
    (h : ∀ K : Act → World → Prop, Shut (∀ a' w', (i ∉ ns → S w') → AnyG P md ops Q S ns f (l.setIfInBounds i true) a' w' → K a' w') → if Region.wanted o (yielded ops a.tmps) = true then Oper.wp P o a w K Q else K (a.put o.dst undef) w)
    (h2 : ∀ K : Act → World → Prop, Shut (∀ a' w', (j ∉ ns → S w') → AnyG P md ops Q S ns f (l.setIfInBounds j true) a' w' → K a' w') → if Region.wanted p (yielded ops a.tmps) = true then Oper.wp P p a w K Q else K (a.put p.dst undef) w) :
    AnyG P md ops Q S ns (f + 1) l a w := by
  refine ⟨fun h0 => absurd (hr.symm.trans h0) (by simp), fun k hk => ?_⟩
  rw [hr] at hk
  rcases List.mem_cons.1 hk with rfl | hk
  · exact wpOp_step ho (fun K hK => h K (fun a' w' hS hW => hK a' w' ⟨fun n _ => hS n, hW⟩))
  · obtain rfl := List.mem_singleton.1 hk
    exact wpOp_step hp (fun K hK => h2 K (fun a' w' hS hW => hK a' w' ⟨fun n _ => hS n, hW⟩))

theorem AnyG.done {l : Array Bool} {a : Act} {w : World} (hr : Region.ready md ops l = []) (h : Q .normal a w) : ∀ f, AnyG P md ops Q S ns f l a w
  | 0 => ⟨hr, h⟩
  | _ + 1 => ⟨fun _ => h, by rw [hr]; simp⟩

/-- The beginning. -/
theorem region_g (ns : List Nat) (S : World → Prop) {id : Nat} {a : Act} {w : World} (hm : P.follows .mixedOrders = true) (h : AnyG P .any ops Q S ns ops.size (Array.replicate ops.size false) a w.drew) : (Code.region id ops true).wp P Q a w :=
  wp_region_any hm (AnyG.any _ _ _ _ h)
end
end Go.Proofs.YtjkihmjbhiiknaaDoor

namespace Go.Proofs.YtjkihmjbhiiknaaDoor
open Go

section
variable {P : Program} {ops : Array Oper} {Q : Exit → Act → World → Prop} {md : Region.Mode} {S : World → Prop} {ns : List Nat} {F : Fence} {n : Nat}

/-- No operation is a defer statement. -/
def noDefer (ops : Array Oper) : Bool := ops.toList.all fun o => match o.op with | .defer _ => false | _ => true
theorem noDefer_spec {j : Nat} {o : Oper} (h : noDefer ops = true) (hj : ops[j]? = some o) : ∀ c, o.op ≠ .defer c := by
  intro c e
  unfold noDefer at h
  rw [List.all_eq_true] at h
  have hm : o ∈ ops.toList := by
    rw [← Array.getElem?_toList] at hj
    exact List.mem_of_getElem? hj
  have := h o hm
  rw [e] at this
  cases this

theorem yields_wpOpIn {i : Nat} {o : Oper} {v : Value} {a : Act} {K : Act → World → Prop} {w : World} (hF : ∀ f, F.fn f) (hi : ops[i]? = some o) (hd : ∀ c, o.op ≠ .defer c) (hy : YieldsIf P ops S o v a) (hS : S w) (h : K (a.put o.dst v) w) : wpOpIn F n P ops Q i K a w := by
  unfold wpOpIn
  simp only [hi]
  rcases hy with ⟨hw, hv⟩ | ⟨hw, rfl⟩
  · rw [if_pos hw]
    refine ⟨fun f _ => hF f, ?_⟩
    rw [Oper.semAt_eq _ _ _ hd, hv w hS]
    exact h
  · rw [if_neg (by rw [hw]; simp)]
    exact ⟨fun f _ => hF f, h⟩

theorem wpOpIn_late {j : Nat} {oi oj : Oper} {v : Value} {K : Act → World → Prop} {a : Act} {w : World} (hF : ∀ f, F.fn f) (hj : ops[j]? = some oj) (hd : ∀ c, oj.op ≠ .defer c) (hap : oi.apart ops oj = true)
    (hsi : ∀ cs b, oi.op ≠ .select cs b) (hsj : ∀ cs b, oj.op ≠ .select cs b) (hQ : ∀ c a w, Q (.panic c) (a.put oi.dst v) w → Q (.panic c) a w)
    (hy : YieldsIf P ops S oi v a) (h : wpOpIn F n P ops Q j K (a.put oi.dst v) w) :
    wpOpIn F n P ops Q j (fun a' w' => YieldsIf P ops S oi v a' ∧ K (a'.put oi.dst v) w') a w := by
  obtain ⟨h1, h2, h3⟩ := Oper.apart_spec hap
  have keep : ∀ u, YieldsIf P ops S oi v (a.put oj.dst u) := fun u => hy.of_same (execOp_put oi hsi a oj.dst u h3) (wanted_put oi a oj.dst u h3)
  have fit : ∀ u w', K ((a.put oi.dst v).put oj.dst u) w' → YieldsIf P ops S oi v (a.put oj.dst u) ∧ K ((a.put oj.dst u).put oi.dst v) w' := fun u w' hk => ⟨keep u, by rw [← Act.put_comm a v u h2]; exact hk⟩
  unfold wpOpIn at h ⊢
  simp only [hj] at h ⊢
  rw [wanted_put oj a oi.dst v h1] at h
  by_cases hw : Region.wanted oj (yielded ops a.tmps) = true
  · rw [if_pos hw] at h ⊢
    refine ⟨fun f _ => hF f, ?_⟩
    have h := h.2
    rw [Oper.semAt_eq _ _ _ hd, execOp_put oj hsj a oi.dst v h1] at h
    rw [Oper.semAt_eq _ _ _ hd]
    generalize (execOp a.eval oj).run P w = r at h ⊢
    match r, h with
    | .ok (.value u) w', h => exact fit u w' h
    | .ok .skip w', h => exact fit undef w' h
    | .ok (.defer d) w', h =>
      have kd : YieldsIf P ops S oi v { a with defers := d :: a.defers } := hy.of_same rfl rfl
      refine ⟨kd.of_same (execOp_put oi hsi _ oj.dst undef h3) (wanted_put oi _ oj.dst undef h3), ?_⟩
      rw [← Act.put_comm _ v undef h2, ← Act.put_defers]
      exact h
    | .ok (.enter f args) w', h =>
      refine ⟨h.1, h.2.mono fun e w2 he => ?_⟩
      match e, he with
      | .returned u, he => exact fit u w2 he
      | .panicked c, he => exact hQ _ _ _ he
      | .outgrown, he => exact he
    | .ok (.row row args) w', h => exact ⟨h.1, RowsIn.mono h.2 fun u w2 he => fit u w2 he⟩
    | .ok (.round l f tmps assign body) w', h =>
      refine ⟨h.1, RoundIn.mono h.2 fun e w2 he => ?_⟩
      match e, he with
      | .returned u, he => exact fit u w2 he
      | .panicked c, he => exact hQ _ _ _ he
      | .outgrown, he => exact he
    | .halt (.panic u) w', h => exact hQ _ _ _ h
  · rw [if_neg hw] at h ⊢
    exact ⟨fun f _ => hF f, fit undef w h.2⟩

def AnyI (F : Fence) (n : Nat) (P : Program) (md : Region.Mode) (ops : Array Oper) (Q : Exit → Act → World → Prop) (S : World → Prop) (ns : List Nat) : Nat → Array Bool → Act → World → Prop
  | 0, l, a, w => Region.ready md ops l = [] ∧ Q .normal a w
  | f + 1, l, a, w => (Region.ready md ops l = [] → Q .normal a w) ∧ ∀ i ∈ Region.ready md ops l, wpOpIn F n P ops Q i (fun a' w' => (i ∉ ns → S w → S w') ∧ AnyI F n P md ops Q S ns f (l.setIfInBounds i true) a' w') a w

theorem AnyI.any : ∀ f l a w, AnyI F n P md ops Q S ns f l a w → wpAnyIn F n P md ops Q f l a w
  | 0, _, _, _, h => h
  | f + 1, _, _, _, h => ⟨h.1, fun i hi => wpOpIn_mono (fun a' w' h' => AnyI.any f _ a' w' h'.2) (h.2 i hi)⟩

theorem AnyI.first {i : Nat} {oi : Oper} {v : Value} (hF : ∀ f, F.fn f) (hi : ops[i]? = some oi) (hsel : Region.noSelect ops = true) (hdef : noDefer ops = true) (hQ : ∀ c a w, Q (.panic c) (a.put oi.dst v) w → Q (.panic c) a w) (hw : ns.all (fun n => waits md ops n i) = true) :
    ∀ f l a w, (∀ j oj, ops[j]? = some oj → j ≠ i → l.getD j true = false → (∀ e ∈ oj.after, Region.binds md e = true → e.on ≠ i) → oi.apart ops oj = true) →
      i ∈ Region.ready md ops l → YieldsIf P ops S oi v a → S w → AnyI F n P md ops Q S ns f (l.setIfInBounds i true) (a.put oi.dst v) w → AnyI F n P md ops Q S ns (f + 1) l a w := by
  intro f
  induction f with
  | zero =>
    intro l a w _ hr hy hS H
    refine ⟨fun h => absurd hr (by rw [h]; simp), fun j hj => ?_⟩
    by_cases c : j = i
    · subst c; exact yields_wpOpIn hF hi (noDefer_spec hdef hi) hy hS ⟨fun _ h => h, H⟩
    · have h1 := ready_mono hj c
      rw [H.1] at h1
      exact absurd h1 (by simp)
  | succ f ih =>
    intro l a w hfree hr hy hS H
    refine ⟨fun h => absurd hr (by rw [h]; simp), fun j hj => ?_⟩
    by_cases c : j = i
    · subst c; exact yields_wpOpIn hF hi (noDefer_spec hdef hi) hy hS ⟨fun _ h => h, H⟩
    have hun := (mem_ready.1 hr).1
    have hjn : j ∉ ns := fun e => waits_not (List.all_eq_true.1 hw j e) hun hj
    obtain ⟨hjun, oj, hoj, hall⟩ := mem_ready.1 hj
    have hnot : ∀ e ∈ oj.after, Region.binds md e = true → e.on ≠ i := by
      intro e he hb heq
      have h1 := hall e he hb
      rw [heq] at h1
      rcases Nat.lt_or_ge i l.size with h' | h'
      · simp [h'] at hun h1; rw [hun] at h1; cases h1
      · simp [Array.getElem?_eq_none h'] at h1
    have h2 := wpOpIn_late hF hoj (noDefer_spec hdef hoj) (hfree j oj hoj c hjun hnot) (fun cs b => Region.noSelect_spec hsel i oi cs b hi) (fun cs b => Region.noSelect_spec hsel j oj cs b hoj) hQ hy (H.2 j (ready_mono hj c))
    refine wpOpIn_mono (fun a' w' h3 => ⟨h3.2.1, ih (l.setIfInBounds j true) a' w' ?_ (ready_mono hr (Ne.symm c)) h3.1 (h3.2.1 hjn hS) ?_⟩) h2
    · intro k ok hk hki hku hno
      refine hfree k ok hk hki ?_ hno
      by_cases e : j = k
      · subst e; exact hjun
      · rw [getD_set_ne true e] at hku; exact hku
    · rw [Array.setIfInBounds_comm _ _ c]
      exact h3.2.2

/-- Take number i first. -/
theorem AnyI.take (i : Nat) {oi : Oper} {v : Value} {f : Nat} {l : Array Bool} {a : Act} {w : World} (hF : ∀ f, F.fn f) (hi : ops[i]? = some oi) (hs : Region.noSelect ops = true) (hdef : noDefer ops = true) (hf : Region.free md ops l i = true) (hr : (Region.ready md ops l).contains i = true) (hw : ns.all (fun n => waits md ops n i) = true)
    (hQ : ∀ c a w, Q (.panic c) (a.put oi.dst v) w → Q (.panic c) a w) (hS : S w) (hy : ∀ w0, S w0 → (execOp a.eval oi).run P w0 = .ok (.value v) w0) (hwn : Region.wanted oi (yielded ops a.tmps) = true)
    (h : AnyI F n P md ops Q S ns f (l.setIfInBounds i true) (a.put oi.dst v) w) : AnyI F n P md ops Q S ns (f + 1) l a w :=
  AnyI.first hF hi hs hdef hQ hw f l a w (Region.free_spec hi hf) (by simpa using hr) (.inl ⟨hwn, hy⟩) hS h

/-- Number i alone may come up, and is wanted. -/
theorem AnyI.one (i : Nat) {o : Oper} {f : Nat} {l : Array Bool} {a : Act} {w : World} (hF : ∀ f, F.fn f) (hr : Region.ready md ops l = [i]) (ho : ops[i]? = some o) (hd : ∀ c, o.op ≠ .defer c) (hwn : Region.wanted o (yielded ops a.tmps) = true)
    (h : ∀ K : Act → World → Prop, Shut (∀ a' w', (i ∉ ns → S w') → AnyI F n P md ops Q S ns f (l.setIfInBounds i true) a' w' → K a' w') → o.uponIn F n P a K Q ((execOp a.eval o).run P w)) :
    AnyI F n P md ops Q S ns (f + 1) l a w := by
  refine ⟨fun h0 => absurd (hr.symm.trans h0) (by simp), fun j hj => ?_⟩
  rw [hr] at hj
  obtain rfl := List.mem_singleton.1 hj
  refine wpOpIn_step ho (fun K hK => ?_)
  rw [if_pos hwn]
  refine ⟨fun f _ => hF f, ?_⟩
  rw [Oper.semAt_eq _ _ _ hd]
  exact h K (fun a' w' hS hW => hK a' w' ⟨fun n _ => hS n, hW⟩)

theorem AnyI.done {l : Array Bool} {a : Act} {w : World} (hr : Region.ready md ops l = []) (h : Q .normal a w) : ∀ f, AnyI F n P md ops Q S ns f l a w
  | 0 => ⟨hr, h⟩
  | _ + 1 => ⟨fun _ => h, by rw [hr]; simp⟩

/-- The beginning. -/
theorem region_i (ns : List Nat) (S : World → Prop) {id : Nat} {a : Act} {w : World} (hm : P.follows .mixedOrders = true) (h : AnyI F n P .any ops Q S ns ops.size (Array.replicate ops.size false) a w.drew) : (Code.region id ops true).wpIn F n P Q a w :=
  wpIn_region_any hm (AnyI.any _ _ _ _ h)
end
end Go.Proofs.YtjkihmjbhiiknaaDoor

namespace Go.Proofs.YtjkihmjbhiiknaaDoor
open Go Go.RowKit

/-- The blocks of K stay as they are. -/
structure Kept (K : Nat → Prop) (W W' : World) : Prop where
  os : W'.os = W.os
  tape : W'.tape = W.tape
  output : W'.output = W.output
  size : W.heap.size ≤ W'.heap.size
  same : ∀ b, K b → b < W.heap.size → W'.heap[b]? = W.heap[b]?
theorem Kept.refl (K : Nat → Prop) (W : World) : Kept K W W := ⟨rfl, rfl, rfl, Nat.le_refl _, fun _ _ _ => rfl⟩
theorem Kept.trans {K : Nat → Prop} {a b c : World} (h : Kept K a b) (k : Kept K b c) : Kept K a c :=
  ⟨k.os.trans h.os, k.tape.trans h.tape, k.output.trans h.output, Nat.le_trans h.size k.size, fun x hx hl => (k.same x hx (Nat.lt_of_lt_of_le hl h.size)).trans (h.same x hx hl)⟩
theorem Kept.less {K K' : Nat → Prop} {a b : World} (h : Kept K a b) (hk : ∀ x, K' x → K x) : Kept K' a b := ⟨h.os, h.tape, h.output, h.size, fun x hx hl => h.same x (hk x hx) hl⟩
theorem Kept.of {K : Nat → Prop} {a b : World} (h : Below a.heap.size a b) : Kept K a b := ⟨h.os, h.tape, h.output, h.size, fun x _ hl => h.block x hl⟩
theorem Kept.setCell {K : Nat → Prop} {a b : World} (h : Kept K a b) {p : Addr} (hp : ¬ K p.block) (v : Value) : Kept K a (b.setCell p v) :=
  h.trans ⟨rfl, rfl, rfl, by simp [World.setCell], fun x hx _ => Below.heap_setCell _ _ _ _ (fun e => hp (e ▸ hx))⟩
theorem Kept.putObj {K : Nat → Prop} {a b : World} (h : Kept K a b) {r : Nat} (hp : ¬ K r) (o : Obj) : Kept K a (b.putObj r o) :=
  h.trans ⟨rfl, rfl, rfl, by simp, fun x hx _ => World.putObj_heap_other (fun e => hp (e ▸ hx))⟩
theorem below_putObj {B : Nat} {W : World} {r : Nat} (h : B ≤ r) (o : Obj) : Below B W (W.putObj r o) :=
  ⟨rfl, rfl, rfl, by simp, fun x hx => World.putObj_heap_other (by omega)⟩
theorem Kept.below {K : Nat → Prop} {B : Nat} {a b : World} (h : Kept K a b) (hB : ∀ x, x < B → K x) (hs : B ≤ a.heap.size) : Below B a b :=
  ⟨h.os, h.tape, h.output, h.size, fun x hx => h.same x (hB x hx) (by omega)⟩

theorem wide_any (f : FuncId) : Fence.wide.fn f := trivial
theorem inRound_any (l : Nat) (f : FuncId) : (Fence.wide.inRound l).fn f := trivial
theorem round_any {n m : Nat} {P : Program} {l : Nat} {f : FuncId} {tmps : Array Value} {assign body : Code} {w : World} {R : Ending → World → Prop} (h : RoundIn Fence.wide n P l f tmps assign body w R) : RoundIn Fence.wide m P l f tmps assign body w R :=
  ⟨h.1, fun c cs _ => h.2 c cs (room_wide _)⟩
theorem yield_any {n m : Nat} {P : Program} {l : Nat} {args : Array Value} {W : World} {R : Ending → World → Prop} (h : YieldAt Fence.wide n P l args W R) : YieldAt Fence.wide m P l args W R := by
  obtain ⟨fn, tmps, assign, body, hy, hR⟩ := h
  exact ⟨fn, tmps, assign, body, hy, round_any hR⟩

/-- What an iterator promises: round q is handed 'enc q'; it ends behind the N-th, or where a round says 'no more'. It leaves what lay when it was called as it lay; a round keeps the blocks of K. -/
def Goes (P : Program) (g : Nat) (lb : Array Value) (N : Nat) (enc : Nat → Array Value) (K : Nat → Prop) (w : World) : Prop :=
  ∀ (l : Nat) (J Jx : Nat → World → Prop) (W : World), Below w.heap.size w W → (∀ b, W.heap.size ≤ b → K b) →
    (∀ q W1 W2, J q W1 → Below W.heap.size W1 W2 → J q W2) → (∀ q W1 W2, Jx q W1 → Below W.heap.size W1 W2 → Jx q W2) →
    (∀ q W1, q < N → J q W1 → W.heap.size ≤ W1.heap.size → YieldAt Fence.wide 0 P l (enc q) W1 fun e W2 =>
      Kept K W1 W2 ∧ ((e = .returned (.bool true) ∧ J (q + 1) W2) ∨ (e = .returned (.bool false) ∧ Jx q W2))) →
    J 0 W →
    Calls P g (#[.func (.yield l) #[] #[]] ++ lb) W fun e W' => (∃ v, e = .returned v) ∧ (J N W' ∨ ∃ q, q < N ∧ Jx q W')

theorem Goes.enc {P : Program} {g : Nat} {lb : Array Value} {N : Nat} {enc enc' : Nat → Array Value} {K : Nat → Prop} {w : World} (h : Goes P g lb N enc K w) (he : ∀ q, q < N → enc q = enc' q) : Goes P g lb N enc' K w :=
  fun l J Jx W h1 h2 h3 h4 h5 h6 => h l J Jx W h1 h2 h3 h4 (fun q W1 hq hj hz => by rw [he q hq]; exact h5 q W1 hq hj hz) h6

/-- How the body of a round is left. -/
def roundEnd (K : Nat → Prop) (I Ix : Nat → World → Prop) (q : Nat) (W : World) : Exit → Act → World → Prop
  | .normal, _, W' => Kept K W W' ∧ I (q + 1) W'
  | .ret, _, W' => Kept K W W' ∧ Ix q W'
  | _, _, _ => False

theorem range_law {P : Program} {g : Operand} {ps : Array Tmp} {assign body : Code} {Q : Exit → Act → World → Prop} {a : Act} {w : World} {gf : Nat} {lb : Array Value} {N : Nat} {enc : Nat → Array Value} {K : Nat → Prop}
    (hg : a.eval g = .func (.func gf) #[] lb) (eg : ∀ args w, (callFunc gf args).run P w = .ok (.enter gf args) w) (hps : ∀ q, (enc q).size = ps.size)
    (hseq : Goes P gf lb N enc (fun b => K b ∧ b ≠ w.heap.size + 1) w) (hK : ∀ b, w.heap.size ≤ b → K b)
    (I Ix : Nat → World → Prop) (hI : ∀ q W1 W2, I q W1 → Below w.heap.size W1 W2 → I q W2) (hIx : ∀ q W1 W2, Ix q W1 → Below w.heap.size W1 W2 → Ix q W2) (h0 : I 0 w) (a₁ : Nat → Act)
    (hassign : ∀ (l q : Nat) (W : World) (K : Act → World → Prop), K (a₁ q) W → assign.wpIn (Fence.wide.inRound l) 0 P (Exit.then K fun _ _ _ => False) { tmps := (ps.zip (enc q)).foldl (fun t (p, v) => t.setIfInBounds p v) a.tmps, defers := [] } W)
    (hbody : ∀ (l q : Nat) (W : World), q < N → I q W → w.heap.size + 2 ≤ W.heap.size → body.wpIn (Fence.wide.inRound l) 0 P (roundEnd K I Ix q W) (a₁ q) W)
    (hdone : ∀ (D : Nat) (W : World), w.heap.size ≤ D → I N W → W.heap[D]? = some (.deferred (some [])) → Q .normal { a with defers := { target := .collected D, args := #[] } :: a.defers } W)
    (hstop : ∀ (D q : Nat) (W : World), w.heap.size ≤ D → q < N → Ix q W → W.heap[D]? = some (.deferred (some [])) → Q .ret { a with defers := { target := .collected D, args := #[] } :: a.defers } W) :
    (Code.rangeFunc g ps assign body).wp P Q a w := by
  refine (wpIn_wide (n := 0)).1 (wpIn_rangeFunc fun fn _ => ?_)
  let rc : LoopState → Option Code → Loop := fun st pe => { state := st, pending := pe, fn, tmps := a.tmps, params := ps, assign, body, defers := w.heap.size }
  let W1 := (w.alloc (.deferred (some []))).alloc (.loop (rc .ready none))
  have z1 : W1.heap.size = w.heap.size + 2 := by simp [W1]
  have hL1 : W1.heap[w.heap.size + 1]? = some (.loop (rc .ready none)) := by
    have := World.alloc_heap_new (w.alloc (.deferred (some []))) (.loop (rc .ready none))
    rwa [World.size_alloc] at this
  have hD1 : W1.heap[w.heap.size]? = some (.deferred (some [])) := (Below.heap_alloc _ _ _ (by simp)).trans (World.alloc_heap_new w _)
  have b1 : Below w.heap.size w W1 := ((Below.refl _ w).alloc (Nat.le_refl _) _).alloc (by simp) _
  refine ⟨w.heap.size + 1, [{ target := .collected w.heap.size, args := #[] }], W1, { target := .fn (.func gf) lb, args := #[.func (.yield (w.heap.size + 1)) #[] #[]] }, W1, gf, #[.func (.yield (w.heap.size + 1)) #[] #[]] ++ lb, W1, run_enterLoop_outer _ _ _ _ _, ?_, fun _ _ => trivial, ?_, fun h => by simp [Fence.wide] at h, ?_⟩
  · simp only [resolve, hg]
    simp [go_sem]
  · simp [invoke, go_sem, eg]
  refine callsIn_wide.2 ((hseq (w.heap.size + 1) (fun q W => I q W ∧ W.heap[w.heap.size + 1]? = some (.loop (rc .ready none)) ∧ W.heap[w.heap.size]? = some (.deferred (some []))) (fun q W => Ix q W ∧ W.heap[w.heap.size + 1]? = some (.loop (rc .done (some .ret))) ∧ W.heap[w.heap.size]? = some (.deferred (some []))) W1 b1 ?_ ?_ ?_ ?_ ⟨hI _ _ _ h0 b1, hL1, hD1⟩).mono ?_)
  · exact fun b hb => ⟨hK b (by omega), by omega⟩
  · exact fun q A B h hb => ⟨hI q A B h.1 (hb.mono (by omega)), (hb.block _ (by omega)).trans h.2.1, (hb.block _ (by omega)).trans h.2.2⟩
  · exact fun q A B h hb => ⟨hIx q A B h.1 (hb.mono (by omega)), (hb.block _ (by omega)).trans h.2.1, (hb.block _ (by omega)).trans h.2.2⟩
  · rintro q W hq ⟨hi, hl, hd⟩ hz
    have hlt : w.heap.size + 1 < W.heap.size := by omega
    refine ⟨fn, _, assign, body, run_yield (P := P) (args := enc q) hl (hps q), roundIn_of_wpIn trivial (hassign _ q W _ ⟨_, run_beginRound hl rfl, ?_⟩)⟩
    let Wb := W.putObj (w.heap.size + 1) (.loop { rc .ready none with state := .busy })
    have zb : Wb.heap.size = W.heap.size := by simp [Wb]
    have bb : Below w.heap.size W Wb := below_putObj (by omega) _
    have hlb : Wb.heap[w.heap.size + 1]? = some (.loop { rc .ready none with state := .busy }) := World.putObj_heap_same hlt
    have hdb : Wb.heap[w.heap.size]? = some (.deferred (some [])) := (World.putObj_heap_other (by omega)).trans hd
    have kb : Kept (fun b => K b ∧ b ≠ w.heap.size + 1) W Wb := (Kept.refl _ W).putObj (fun h => h.2 rfl) _
    refine wpIn_mono (hbody _ q Wb hq (hI q _ _ hi bb) (by omega)) ?_
    have fin : ∀ (j : Option Code) (W3 : World), Kept K Wb W3 → (Instr.endRound (w.heap.size + 1) j).run P W3 = .ok (.bool j.isNone) (W3.putObj (w.heap.size + 1) (.loop (rc (if j.isNone then .ready else .done) j))) ∧ Kept (fun b => K b ∧ b ≠ w.heap.size + 1) W (W3.putObj (w.heap.size + 1) (.loop (rc (if j.isNone then .ready else .done) j))) ∧ Below w.heap.size W3 (W3.putObj (w.heap.size + 1) (.loop (rc (if j.isNone then .ready else .done) j))) ∧ (W3.putObj (w.heap.size + 1) (.loop (rc (if j.isNone then .ready else .done) j))).heap[w.heap.size + 1]? = some (.loop (rc (if j.isNone then .ready else .done) j)) ∧ (W3.putObj (w.heap.size + 1) (.loop (rc (if j.isNone then .ready else .done) j))).heap[w.heap.size]? = some (.deferred (some [])) := fun j W3 hk => by
      have h3 := (hk.same _ (hK _ (by omega)) (by omega)).trans hlb
      have hd3 := (hk.same _ (hK _ (by omega)) (by omega)).trans hdb
      refine ⟨run_endRound (P := P) j h3, ?_, below_putObj (by omega) _, World.putObj_heap_same ?_, (World.putObj_heap_other (by omega)).trans hd3⟩
      · exact (kb.trans (hk.less fun _ h => h.1)).putObj (fun h => h.2 rfl) _
      · have := hk.size
        omega
    intro e a3 W3 hp
    match e, hp with
    | .normal, hp =>
      obtain ⟨f1, f2, f3, f4, f5⟩ := fin none W3 hp.1
      exact ⟨_, _, f1, f2, .inl ⟨rfl, hI _ _ _ hp.2 f3, f4, f5⟩⟩
    | .ret, hp =>
      obtain ⟨f1, f2, f3, f4, f5⟩ := fin (some .ret) W3 hp.1
      exact ⟨_, _, f1, f2, .inr ⟨rfl, hIx _ _ _ hp.2 f3, f4, f5⟩⟩
  · rintro e W2 ⟨⟨v, rfl⟩, ⟨hi, hl, hd⟩ | ⟨q, hq, hi, hl, hd⟩⟩
    · exact ⟨none, _, run_endLoop (P := P) hl (by simp [rc]), hdone _ _ (Nat.le_refl _) (hI _ _ _ hi (below_putObj (by omega) _)) ((World.putObj_heap_other (by omega)).trans hd)⟩
    · exact ⟨some .ret, _, run_endLoop (P := P) hl (by simp [rc]), wpIn_ret (hstop _ q _ (Nat.le_refl _) hq (hIx _ _ _ hi (below_putObj (by omega) _)) ((World.putObj_heap_other (by omega)).trans hd))⟩

/-- A function that has such a statement leaves. -/
theorem marks_end {P : Program} {fn : Func} {R : Ending → World → Prop} {tmps : Array Value} {D : Nat} {W : World} {v : Value} (hD : W.heap[D]? = some (.deferred (some [])))
    (hr : (results fn tmps).run P (W.putObj D (.deferred none)) = .ok v (W.putObj D (.deferred none))) (h : R (.returned v) (W.putObj D (.deferred none))) :
    bodyPostM Fence.wide 0 P fn R .normal { tmps := tmps, defers := [{ target := .collected D, args := #[] }] } W :=
  ⟨by simp, .inl ⟨_, _, rfl, run_takeDeferred hD, v, hr, h⟩⟩
theorem marks_ret {P : Program} {fn : Func} {R : Ending → World → Prop} {tmps : Array Value} {D : Nat} {W : World} {v : Value} (hD : W.heap[D]? = some (.deferred (some [])))
    (hr : (results fn tmps).run P (W.putObj D (.deferred none)) = .ok v (W.putObj D (.deferred none))) (h : R (.returned v) (W.putObj D (.deferred none))) :
    bodyPostM Fence.wide 0 P fn R .ret { tmps := tmps, defers := [{ target := .collected D, args := #[] }] } W :=
  ⟨by simp, .inl ⟨_, _, rfl, run_takeDeferred hD, v, hr, h⟩⟩
end Go.Proofs.YtjkihmjbhiiknaaDoor

namespace Go.Proofs.YtjkihmjbhiiknaaDoor
open Go.RowKit Num

theorem u64_wf (x : Int) (h : (Lit.int .u64 x).wf = true) : 0 ≤ x ∧ x < 18446744073709551616 := by
  simp only [Lit.wf, IntKind.min, IntKind.max, IntKind.signed, IntKind.bits, Bool.and_eq_true] at h
  simp at h
  omega

theorem i64_wf (x : Int) (h : (Lit.int .i64 x).wf = true) : -9223372036854775808 ≤ x ∧ x ≤ 9223372036854775807 := by
  simp only [Lit.wf, IntKind.min, IntKind.max, IntKind.signed, IntKind.bits, Bool.and_eq_true, decide_eq_true_eq] at h
  simp at h
  omega

theorem ones_c (x : Int) (h0 : 0 ≤ x) (h1 : x < 18446744073709551616) (w : World) :
    Calls Tryd.prog 64 #[.int .u64 x] w fun e w' => e = .returned (.int .i64 (popI x)) ∧ w' = w := by
  obtain ⟨n, rfl⟩ := Int.eq_ofNat_of_zero_le h0
  go_enter Tryd.func64, Tryd.ntmps64
  go_wp2
  go_ret
  refine ⟨congrArg Ending.returned (congrArg (Value.int IntKind.i64) ?_), rfl⟩
  unfold popI
  rw [Int.toNat_natCast]
  exact pop_end n (by omega) _ _ _ _ _ _ rfl rfl rfl rfl rfl rfl

set_option maxRecDepth 100000 in
theorem len64_c (x : Int) (h0 : 0 ≤ x) (h1 : x < 18446744073709551616) (w : World) :
    Calls Tryd.prog 77 #[.int .u64 x] w fun e w' => e = .returned (.int .i64 (lenI x)) ∧ w' = w := by
  have hs := Lib.len8tab_size
  go_enter Tryd.func77, Tryd.ntmps77
  go_wp2
  all_goals (go_ret; refine ⟨congrArg Ending.returned (congrArg (Value.int IntKind.i64) ?_), rfl⟩)
  · exact len_end x (x / 4294967296 / 65536 / 256) 56 56 rfl (by omega) (by omega) (by omega) _
  · exact len_end x (x / 4294967296 / 65536) 48 48 rfl (by omega) (by omega) (by omega) _
  · exact len_end x (x / 4294967296 / 256) 40 40 rfl (by omega) (by omega) (by omega) _
  · exact len_end x (x / 4294967296) 32 32 rfl (by omega) (by omega) (by omega) _
  · exact len_end x (x / 65536 / 256) 24 24 rfl (by omega) (by omega) (by omega) _
  · exact len_end x (x / 65536) 16 16 rfl (by omega) (by omega) (by omega) _
  · exact len_end x (x / 256) 8 8 rfl (by omega) (by omega) (by omega) _
  · exact len_end0 x _

theorem mask_c (n : Int) (w : World) :
    Calls Tryd.prog 53 #[.int .i64 n] w fun e w' => e = .returned (.int .u64 (maskI n)) ∧ w' = w := by
  by_cases c : n ≤ 0
  · go_enter Tryd.func53, Tryd.ntmps53
    go_wp2
    go_ret
    exact ⟨congrArg Ending.returned (congrArg (Value.int IntKind.u64) (mask_neg n c).symm), rfl⟩
  · have c' : 0 ≤ n := by omega
    go_enter Tryd.func53, Tryd.ntmps53
    go_wp2
    go_ret
    exact ⟨congrArg Ending.returned (congrArg (Value.int IntKind.u64) (mask_end n)), rfl⟩

theorem pop_c (x : Int) (h0 : 0 ≤ x) (h1 : x < 18446744073709551616) (w : World) :
    Calls Tryd.prog 49 #[.int .u64 x] w fun e w' => e = .returned (.int .i64 (popI x)) ∧ w' = w := by
  go_enter Tryd.func49, Tryd.ntmps49
  go_wp2_with (go_at_call 64; refine (ones_c _ ?_ ?_ _).mono ?_; exact h0; exact h1; rintro e w' ⟨rfl, rfl⟩)
  go_ret
  exact ⟨rfl, rfl⟩

theorem len_c (x : Int) (h0 : 0 ≤ x) (h1 : x < 18446744073709551616) (w : World) :
    Calls Tryd.prog 66 #[.int .u64 x] w fun e w' => e = .returned (.int .i64 (lenI x)) ∧ w' = w := by
  go_enter Tryd.func66, Tryd.ntmps66
  go_wp2_with (go_at_call 77; refine (len64_c _ ?_ ?_ _).mono ?_; exact h0; exact h1; rintro e w' ⟨rfl, rfl⟩)
  go_ret
  exact ⟨rfl, rfl⟩

theorem rank_c (x n : Int) (h0 : 0 ≤ x) (h1 : x < 18446744073709551616) (w : World) :
    Calls Tryd.prog 50 #[.int .u64 x, .int .i64 n] w fun e w' => e = .returned (.int .i64 (rankI x n)) ∧ w' = w := by
  have hb := and_mask_bounds x n h0 h1
  go_enter Tryd.func50, Tryd.ntmps50
  go_wp2_with (first | (go_at_call 53; refine (mask_c _ _).mono ?_; rintro e w' ⟨rfl, rfl⟩) | (go_at_call 49; refine (pop_c _ ?_ ?_ _).mono ?_; exact hb.1; exact hb.2; rintro e w' ⟨rfl, rfl⟩))
  go_ret
  exact ⟨congrArg Ending.returned (congrArg (Value.int IntKind.i64) (pop_mask x n h0 h1)), rfl⟩

theorem refmask_c (n : Int) (_h0 : -9223372036854775808 ≤ n) (_h1 : n ≤ 9223372036854775807) (w : World) :
    Calls Tryd.prog 29 #[.int .i64 n] w fun e w' => e = .returned (.int .u64 (maskI n)) ∧ w' = w := by
  go_enter Tryd.func29, Tryd.ntmps29
  go_wp2
  go_loop [3, 4] (fun b i => ∃ p : Nat, p ≤ 64 ∧ i = .int .i64 p ∧ b = .int .u64 (maskI p) ∧ Hid (p = 0 ∨ (p : Int) ≤ n))
    (fun _ i => 64 - (intOf i).toNat)
  case atStart => exact ⟨0, by omega, rfl, rfl, Or.inl rfl⟩
  case round =>
    obtain ⟨p, hp, rfl, rfl, H⟩ := hrel
    go_wp2
    · have hlt : (p : Int) < 64 := by assumption
      have hn : (p : Int) < n := by assumption
      have g := mask_grow p (by omega)
      go_round
      case rel => exact ⟨p + 1, by omega, by go_num, by rw [g], Or.inr (by omega)⟩
      case measure => simp only [intOf]; omega
    · have hn : n ≤ (p : Int) := by assumption
      go_ret
      exact ⟨congrArg Ending.returned (congrArg (Value.int IntKind.u64) (mask_here n p H.out (Or.inl hn) hp)), rfl⟩
    · have hn : (64 : Int) ≤ (p : Int) := by assumption
      go_ret
      exact ⟨congrArg Ending.returned (congrArg (Value.int IntKind.u64) (mask_here n p H.out (Or.inr (by omega)) hp)), rfl⟩

theorem reflen_c (x : Int) (h0 : 0 ≤ x) (h1 : x < 18446744073709551616) (w : World) :
    Calls Tryd.prog 70 #[.int .u64 x] w fun e w' => e = .returned (.int .i64 (lenI x)) ∧ w' = w := by
  go_enter Tryd.func70, Tryd.ntmps70
  go_wp2
  go_loop [3] (fun i => ∃ p : Nat, p ≤ 64 ∧ i = .int .i64 p ∧ Hid (x.toNat < 2 ^ p))
    (fun i => (intOf i).toNat)
  case atStart => exact ⟨64, by omega, rfl, show x.toNat < 2 ^ 64 by omega⟩
  case round =>
    obtain ⟨p, hp, rfl, H⟩ := hrel
    go_wp2
    · have hlt : 0 < p := by assumption
      have ht : ((x / 2 ^ (p - 1)).tmod 2 == 1) = true := by assumption
      rw [bit_tmod x (p - 1) h0] at ht
      simp only [beq_iff_eq] at ht
      have g := H.out
      have l := len_eq x.toNat (p - 1) (by rw [show p - 1 + 1 = p by omega]; exact g) (by omega)
      go_ret
      refine ⟨congrArg Ending.returned (congrArg (Value.int IntKind.i64) ?_), rfl⟩
      unfold lenI
      omega
    · have hlt : 0 < p := by assumption
      have ht : ((x / 2 ^ (p - 1)).tmod 2 == 1) = false := by assumption
      rw [bit_tmod x (p - 1) h0] at ht
      simp only [beq_eq_false_iff_ne, ne_eq] at ht
      have g := H.out
      have l := len_down x.toNat (p - 1) (by rw [show p - 1 + 1 = p by omega]; exact g) (by omega)
      go_round
      case rel => exact ⟨p - 1, by omega, by go_num, l⟩
      case measure => simp only [intOf]; omega
    · have hlt : ¬ 0 < p := by assumption
      have g : x.toNat < 2 ^ p := H.out
      have l := len_le x.toNat p g
      go_ret
      refine ⟨congrArg Ending.returned (congrArg (Value.int IntKind.i64) ?_), rfl⟩
      unfold lenI
      omega
end Go.Proofs.YtjkihmjbhiiknaaDoor

namespace Go.Proofs.YtjkihmjbhiiknaaDoor
open Go.RowKit Num Bit
set_option maxRecDepth 100000

def Wd (w : World) (ao : Option Addr) (xs : List Nat) : Prop :=
  0 < xs.length → ∃ b off, ao = some ⟨b, off, none⟩ ∧ b < w.heap.size ∧ ∀ i, i < xs.length → w.cell? ⟨b, off + i, none⟩ = some (.int .u64 (gt xs i))

theorem Wd.keep {w w' : World} {ao : Option Addr} {xs : List Nat} (h : Wd w ao xs) (hb : Below w.heap.size w w') : Wd w' ao xs := by
  intro hi
  obtain ⟨b, off, e, hlt, hc⟩ := h hi
  exact ⟨b, off, e, Nat.lt_of_lt_of_le hlt hb.size, fun i hi => (hb.cell (p := ⟨b, off + i, none⟩) hlt).trans (hc i hi)⟩

theorem below_alloc (w : World) (o : Obj) : Below w.heap.size w (w.alloc o) := (Below.refl _ _).alloc (Nat.le_refl _) _

/-- A box of two cells, and what a call that turns nothing old leaves of it. -/
theorem box_cells {w w' : World} {a b : Value} {T : TypeId} (hb : Below (w.alloc (.cells #[a, b] T)).heap.size (w.alloc (.cells #[a, b] T)) w') :
    w'.cell? ⟨w.heap.size, 0, none⟩ = some a ∧ w'.cell? ⟨w.heap.size, 1, none⟩ = some b ∧ w.heap.size < w'.heap.size ∧ Below w.heap.size w w' := by
  have hz : (w.alloc (.cells #[a, b] T)).heap.size = w.heap.size + 1 := by simp
  refine ⟨?_, ?_, ?_, ?_⟩
  · rw [hb.cell (p := ⟨w.heap.size, 0, none⟩) (by simp)]; simp
  · rw [hb.cell (p := ⟨w.heap.size, 1, none⟩) (by simp)]; simp
  · have := hb.size; omega
  · exact (below_alloc w _).trans (hb.mono (by omega))

theorem ret_bool {a b : Bool} (h : a = b) : Ending.returned (.bool a) = .returned (.bool b) := by rw [h]
theorem ret_int {k : IntKind} {a b : Int} (h : a = b) : Ending.returned (.int k a) = .returned (.int k b) := by rw [h]
theorem ret_pair {a b c d : Value} (h : a = b) (h2 : c = d) : Ending.returned (.tuple #[a, c]) = .returned (.tuple #[b, d]) := by rw [h, h2]
end Go.Proofs.YtjkihmjbhiiknaaDoor

namespace Go.Proofs.YtjkihmjbhiiknaaDoor
open Go.RowKit Num Bit
set_option maxRecDepth 100000

theorem need_c (n : Int) (h0 : 0 ≤ n) (h1 : n ≤ 2097152) (w : World) :
    Calls Tryd.prog 48 #[.int .i64 n] w fun e w' => e = .returned (.int .i64 ((n + 63) / 64)) ∧ w' = w := by
  go_enter Tryd.func48, Tryd.ntmps48
  go_wp2
  go_ret
  exact ⟨congrArg (fun a => Ending.returned (Value.int IntKind.i64 (a / 64))) (by omega), rfl⟩

theorem chk_end (N : Int) (xs : List Nat) (h1 : 0 ≤ N) (h2 : N ≤ 1048576) (h3 : (xs.length : Int) = (N + 63) / 64) (h4 : ¬ N % 64 = 0) (j : Nat) (hj : j = xs.length - 1) (k : Nat) (hk : k = (N % 64).toNat) :
    ((gt xs j : Int) / 2 ^ k == 0) = chk N xs := by
  subst hj hk
  unfold chk
  rw [Bool.eq_iff_iff, beq_iff_eq, decide_eq_true_eq]
  have e : ((gt xs (xs.length - 1) : Int) / 2 ^ (N % 64).toNat) = ((gt xs (xs.length - 1) / 2 ^ (N % 64).toNat : Nat) : Int) := by
    rw [Int.natCast_ediv, Int.natCast_pow]; rfl
  rw [e]
  have hp : 0 < 2 ^ (N % 64).toNat := Nat.pow_pos (by decide)
  constructor
  · intro h
    refine ⟨h1, h2, h3, .inr ?_⟩
    have : gt xs (xs.length - 1) / 2 ^ (N % 64).toNat = 0 := by omega
    exact (Nat.div_eq_zero_iff_lt hp).1 this
  · rintro ⟨_, _, _, h | h⟩
    · exact absurd h h4
    · rw [Nat.div_eq_of_lt h]; rfl

theorem check_c (N : Int) (ao : Option Addr) (xs : List Nat) (cap : Nat) (w : World) (hx : Wd w ao xs) :
    Calls Tryd.prog 30 #[.agg #[.int .i64 N, .slice ao xs.length cap]] w fun e w' => e = .returned (.bool (chk N xs)) ∧ Below w.heap.size w w' := by
  by_cases h1 : N < 0
  · have hd : decide (N < 0) = true := by simpa using h1
    have r : false = chk N xs := by unfold chk; rw [eq_comm, decide_eq_false_iff_not]; omega
    have R : Hid (false = chk N xs) := r
    clear r hx
    go_enter Tryd.func30, Tryd.ntmps30
    go_wp2
    go_quiet (fail)
    go_wp2
    go_ret
    exact ⟨ret_bool R.out, below_drewN ((Below.refl _ _).alloc (Nat.le_refl _) _) _⟩
  have hd : decide (N < 0) = false := by simpa using h1
  by_cases h2 : N > 1048576
  · have hd2 : decide (1048576 < N) = true := by simpa using h2
    have r : false = chk N xs := by unfold chk; rw [eq_comm, decide_eq_false_iff_not]; omega
    have R : Hid (false = chk N xs) := r
    clear r hx
    go_enter Tryd.func30, Tryd.ntmps30
    go_wp2
    go_quiet (fail)
    go_wp2
    go_ret
    exact ⟨ret_bool R.out, below_drewN ((Below.refl _ _).alloc (Nat.le_refl _) _) _⟩
  have hd2 : decide (1048576 < N) = false := by simpa using h2
  by_cases h3 : (xs.length : Int) = (N + 63) / 64
  · have h3' : ((xs.length : Int) != (N + 63) / 64) = false := by simpa using h3
    by_cases h4 : N % 64 = 0
    · have h4' : (N % 64 == 0) = true := by simpa using h4
      have r : true = chk N xs := by unfold chk; rw [eq_comm, decide_eq_true_eq]; omega
      have R : Hid (true = chk N xs) := r
      clear r hx h3 h4
      go_enter Tryd.func30, Tryd.ntmps30
      go_wp2
      go_quiet ((go_at_call 48; exact Calls.quiet_of_same (need_c _ (by omega) (by omega) _)))
      go_wp2
      go_ret
      exact ⟨ret_bool R.out, below_drewN ((Below.refl _ _).alloc (Nat.le_refl _) _) _⟩
    · have h4' : (N % 64 == 0) = false := by simpa using h4
      have hl : 1 ≤ xs.length := by omega
      have hl2 : xs.length ≤ 16384 := by omega
      obtain ⟨b, off, rfl, hb, hc⟩ := hx hl
      have R : Hid (((gt xs (xs.length - 1) : Int) / 2 ^ (N % 64).toNat == 0) = chk N xs) := chk_end N xs (by omega) (by omega) h3 h4 _ rfl _ rfl
      have hc1 := hc (xs.length - 1) (by omega)
      clear hx h3 h4 hc
      go_enter Tryd.func30, Tryd.ntmps30
      go_wp2
      go_quiet ((go_at_call 48; exact Calls.quiet_of_same (need_c _ (by omega) (by omega) _)))
      go_wp2
      go_ret
      exact ⟨ret_bool R.out, below_drewN ((Below.refl _ _).alloc (Nat.le_refl _) _) _⟩
  · have h3' : ((xs.length : Int) != (N + 63) / 64) = true := by simpa using h3
    have r : false = chk N xs := by unfold chk; rw [eq_comm, decide_eq_false_iff_not]; omega
    have R : Hid (false = chk N xs) := r
    clear r hx
    go_enter Tryd.func30, Tryd.ntmps30
    go_wp2
    go_quiet ((go_at_call 48; exact Calls.quiet_of_same (need_c _ (by omega) (by omega) _)))
    go_wp2
    go_ret
    exact ⟨ret_bool R.out, below_drewN ((Below.refl _ _).alloc (Nat.le_refl _) _) _⟩

end Go.Proofs.YtjkihmjbhiiknaaDoor

namespace Go.Proofs.YtjkihmjbhiiknaaDoor
open Go.ChangeShapes Go.WideShapes Go.ChangeAt Go.RowKit Go.Joins Num Bit
set_option maxRecDepth 100000

theorem own : ownKnob Tryd.prog.godebug = none := by kernel_rfl
theorem laidOut : laidOutB Tryd.prog = true := by kernel_rfl
theorem Tryd.cells24 : Tryd.prog.cellsOf 24 = 2 := by kernel_rfl
theorem Tryd.cells54 : Tryd.prog.cellsOf 54 = 1 := by kernel_rfl

theorem cell_lt {w : World} {b o : Nat} {s : Option Nat} {v : Value} (h : w.cell? ⟨b, o, s⟩ = some v) : b < w.heap.size ∧ s = none := by
  unfold World.cell? at h
  simp only at h
  split at h
  · rename_i hh
    refine ⟨(Array.getElem?_eq_some_iff.1 hh).1, ?_⟩
    cases s with
    | none => rfl
    | some x => simp at h
  · simp at h

theorem wd_of (w : World) (a : Addr) (len : Nat) (zs : List Int) (hl : len ≤ zs.length) (hc : ∀ i, i < zs.length → w.cell? (a.add i) = some (.int .u64 (zs.getD i 0))) (hw : ∀ n ∈ zs, (Lit.int .u64 n).wf = true) :
    ∃ xs : List Nat, xs.length = len ∧ Wd w (some a) xs ∧ Fit xs := by
  have hb : ∀ i, i < zs.length → 0 ≤ zs.getD i 0 ∧ zs.getD i 0 < 18446744073709551616 := by
    intro i hi
    have : zs.getD i 0 = zs[i] := by rw [List.getD_eq_getElem?_getD, List.getElem?_eq_getElem hi]; rfl
    rw [this]
    exact u64_wf _ (hw _ (List.getElem_mem hi))
  have hg : ∀ i, i < len → (gt ((zs.take len).map Int.toNat) i : Int) = zs.getD i 0 := by
    intro i hi
    have h := hb i (by omega)
    unfold gt
    rw [List.getD_eq_getElem?_getD, List.getElem?_map, List.getElem?_take_of_lt hi, List.getElem?_eq_getElem (by omega : i < zs.length)]
    rw [List.getD_eq_getElem?_getD, List.getElem?_eq_getElem (by omega : i < zs.length)] at h ⊢
    simp only [Option.map_some, Option.getD_some] at h ⊢
    omega
  refine ⟨(zs.take len).map Int.toNat, by simp; omega, ?_, ?_⟩
  · intro h0
    obtain ⟨b, off, s⟩ := a
    have h00 : 0 < zs.length := by simp at h0; omega
    have c0 := hc 0 h00
    have k := cell_lt (show w.cell? ⟨b, off, s⟩ = _ from c0)
    obtain ⟨k1, rfl⟩ := k
    refine ⟨b, off, rfl, k1, fun i hi => ?_⟩
    have hi2 : i < len := by simp at hi; omega
    have ci := hc i (by omega)
    rw [hg i hi2, ← ci]
    unfold Addr.add
    split
    · subst_vars; rfl
    · rfl
  · intro i
    by_cases hi : i < len
    · have h := hb i (by omega)
      have e := hg i hi
      omega
    · rw [gt_out _ _ (by simp; omega)]; decide

/-- WHAT A WALK IS TOLD OF AN ARGUMENT OF THE TYPE api.Bits. -/
def IsBits (w : World) (v : Value) (N : Int) (ao : Option Addr) (xs : List Nat) (cap : Nat) : Prop :=
  v = .agg #[.int .i64 N, .slice ao xs.length cap] ∧ (-9223372036854775808 ≤ N ∧ N ≤ 9223372036854775807) ∧ Wd w ao xs ∧ Fit xs ∧ xs.length ≤ cap

theorem open_bits {H : Type} {enc : TypeId × Value → H} {W : World} {base : Nat} {v : Value} {d : DataW H} {p : List MemPlace} (hv : Value.okWide Tryd.prog W .any base 24 v) (h : DataW.Trod enc Tryd.prog W 0 (fun _ => true) true 24 v d p) :
    ∃ N ao xs cap, IsBits W v N ao xs cap := by
  obtain ⟨c0, c1, y0, y1, m, rfl, rfl, rfl, hy0, hy1⟩ := open_agg2 Tryd.underlying24 (by kernel_rfl) Tryd.cells24 hv h
  obtain ⟨a, e0, _, wa⟩ := DataW.trod_int Tryd.underlying3 hy0
  simp at e0
  subst e0
  rcases open_ints Tryd.underlying22 Tryd.underlying54 Tryd.cells54 hy1 with ⟨hcs, _⟩ | ⟨x, l, c, zs, hcs, _, hl, hm, hz, _, hcell, hwz⟩
  · simp at hcs
    subst hcs
    exact ⟨a, none, [], 0, rfl, i64_wf a wa, fun h => absurd h (by simp), fun i => by unfold gt; simp, by simp⟩
  · simp at hcs
    subst hcs
    have hz2 : zs.length = c := by simpa using hz
    obtain ⟨xs, hx1, hx2, hx3⟩ := wd_of W x l zs (by omega) hcell hwz
    subst hx1
    exact ⟨a, some x, xs, c, rfl, i64_wf a wa, hx2, hx3, hl⟩
end Go.Proofs.YtjkihmjbhiiknaaDoor

namespace Go.Proofs.YtjkihmjbhiiknaaDoor
open Go.ChangeShapes Go.WideShapes Go.ChangeAt Go.RowKit Go.Joins Go.Deep Num Bit
set_option linter.unusedVariables false
set_option maxRecDepth 100000

/-- A slice of ints that reads as a list. -/
def Nd (w : World) (ao : Option Addr) (l : List Int) : Prop :=
  0 < l.length → ∃ b off, ao = some ⟨b, off, none⟩ ∧ b < w.heap.size ∧ ∀ i, i < l.length → w.cell? ⟨b, off + i, none⟩ = some (.int .i64 (gi l i))
theorem Nd.keep {w w' : World} {ao : Option Addr} {l : List Int} (h : Nd w ao l) (hb : Below w.heap.size w w') : Nd w' ao l := by
  intro hi
  obtain ⟨b, off, e, hlt, hc⟩ := h hi
  exact ⟨b, off, e, Nat.lt_of_lt_of_le hlt hb.size, fun i hi => (hb.cell (p := ⟨b, off + i, none⟩) hlt).trans (hc i hi)⟩
theorem nd0 (w : World) (ao : Option Addr) : Nd w ao [] := fun h => absurd h (by simp)
theorem wd0' (w : World) (ao : Option Addr) : Wd w ao [] := fun h => absurd h (by simp)
def FitI (l : List Int) : Prop := ∀ i, -9223372036854775808 ≤ gi l i ∧ gi l i ≤ 9223372036854775807

theorem Tryd.cells3 : Tryd.prog.cellsOf 3 = 1 := by kernel_rfl
theorem Tryd.cells64 : Tryd.prog.cellsOf 64 = 1 := by kernel_rfl
theorem Tryd.cells22 : Tryd.prog.cellsOf 22 = 1 := by kernel_rfl
theorem Tryd.info3 : (Tryd.prog.info? 3).map (fun i => (i.zero, i.size, i.bytes)) = some (some (.int .i64 0), 1, 8) := by kernel_rfl

theorem nd_of (w : World) (a : Addr) (len : Nat) (zs : List Int) (hl : len ≤ zs.length) (hc : ∀ i, i < zs.length → w.cell? (a.add i) = some (.int .i64 (zs.getD i 0))) (hw : ∀ n ∈ zs, (Lit.int .i64 n).wf = true) :
    ∃ l : List Int, l.length = len ∧ Nd w (some a) l ∧ FitI l := by
  have hlen : (zs.take len).length = len := by simp; omega
  have hg : ∀ i, i < len → gi (zs.take len) i = zs.getD i 0 := by
    intro i hi
    unfold gi
    rw [List.getD_eq_getElem?_getD, List.getD_eq_getElem?_getD, List.getElem?_take_of_lt hi]
  refine ⟨zs.take len, hlen, ?_, ?_⟩
  · intro h0
    obtain ⟨b, off, s⟩ := a
    have c0 := hc 0 (by omega)
    obtain ⟨k1, rfl⟩ := cell_lt (show w.cell? ⟨b, off, s⟩ = _ from c0)
    refine ⟨b, off, rfl, k1, fun i hi => ?_⟩
    have ci := hc i (by omega)
    rw [hg i (by omega), ← ci]
    unfold Addr.add
    split
    · subst_vars; rfl
    · rfl
  · intro i
    by_cases c : i < len
    · rw [hg i c]
      have : zs.getD i 0 = zs[i] := by rw [List.getD_eq_getElem?_getD, List.getElem?_eq_getElem (by omega)]; rfl
      rw [this]
      exact i64_wf _ (hw _ (List.getElem_mem (by omega)))
    · unfold gi
      rw [List.getD_eq_getElem?_getD, List.getElem?_eq_none (by omega)]
      decide
theorem open_is {H : Type} {enc : TypeId × Value → H} {W : World} {n : Nat} {c : Value} {y : DataW H × List MemPlace} (h : DataW.trod enc Tryd.prog W 0 (fun _ => true) true n 64 [c] = some y) :
    ∃ ao l cap, c = .slice ao (List.length l) cap ∧ Nd W ao l ∧ FitI l ∧ l.length ≤ cap := by
  rcases open_ints Tryd.underlying64 Tryd.underlying3 Tryd.cells3 h with ⟨hcs, _⟩ | ⟨x, l, cp, zs, hcs, _, hl, hm, hz, _, hcell, hwz⟩
  · simp at hcs
    subst hcs
    exact ⟨none, [], 0, rfl, nd0 _ _, fun i => by unfold gi; simp, by simp⟩
  · simp at hcs
    subst hcs
    have hz2 : zs.length = cp := by simpa using hz
    obtain ⟨xs, hx1, hx2, hx3⟩ := nd_of W x l zs (by omega) hcell hwz
    subst hx1
    exact ⟨some x, xs, cp, rfl, hx2, hx3, hl⟩
theorem array4 {cs : Array Value} (h : cs.size = 4) : ∃ a b c d, cs = #[a, b, c, d] := by
  obtain ⟨l⟩ := cs
  match l, h with
  | [a, b, c, d], _ => exact ⟨a, b, c, d, rfl⟩

end Go.Proofs.YtjkihmjbhiiknaaDoor

namespace Go.Proofs.YtjkihmjbhiiknaaDoor
open Go.RowKit Num Bit

theorem same_end {xs ys : List Nat} (hl : xs.length = ys.length) (k : Nat) (hk : ¬ k < xs.length) (h : ∀ j, j < k → gt xs j = gt ys j) : xs = ys :=
  list_ext xs ys hl fun i hi => h i (by omega)

theorem same_c (N : Int) (ao : Option Addr) (xs : List Nat) (cap : Nat) (M : Int) (bo : Option Addr) (ys : List Nat) (dap : Nat) (w : World) (hx : Wd w ao xs) (hy : Wd w bo ys) (hl : xs.length ≤ 1048576) :
    Calls Tryd.prog 25 #[.agg #[.int .i64 N, .slice ao xs.length cap], .agg #[.int .i64 M, .slice bo ys.length dap]] w fun e w' => e = .returned (.bool (decide (N = M) && decide (xs = ys))) ∧ Below w.heap.size w w' := by
  by_cases h1 : N = M
  · subst h1
    by_cases h2 : xs.length = ys.length
    · have h1' : (N != N) = false := by simp
      have h2' : ((xs.length : Int) != (ys.length : Int)) = false := by simp [h2]
      have H2 : Hid (xs.length = ys.length) := h2
      have h3 : xs.length ≤ ys.length := by omega
      clear h2
      go_enter Tryd.func25, Tryd.ntmps25
      go_wp2
      go_loopw [5] (fun i wr => ∃ k : Nat, k ≤ xs.length ∧ i = .int .i64 k ∧ Hid (∀ j, j < k → gt xs j = gt ys j) ∧ wr.cell? ⟨w.heap.size, 1, none⟩ = some (.slice ao xs.length cap) ∧ wr.cell? ⟨w.heap.size + 1, 1, none⟩ = some (.slice bo ys.length dap) ∧ Below w.heap.size w wr) (fun i _ => xs.length - (intOf i).toNat)
      case atStart => exact ⟨0, by omega, rfl, fun j hj => absurd hj (by omega), by simp, by simp, ((Below.refl _ _).alloc (Nat.le_refl _) _).alloc (by simp) _⟩
      case round =>
        obtain ⟨k, hk, rfl, H, c1, d1, hw⟩ := hrel
        by_cases hlt : k < xs.length
        · obtain ⟨b, off, rfl, hb, hc⟩ := hx (by omega)
          obtain ⟨d, off2, rfl, hd, hc2⟩ := hy (by omega)
          have e1 := (hw.cell (p := ⟨b, off + k, none⟩) hb).trans (hc k hlt)
          have e2 := (hw.cell (p := ⟨d, off2 + k, none⟩) hd).trans (hc2 k (by omega))
          have hlt2 : k < ys.length := by omega
          have hlt3 : (k : Int) < (xs.length : Int) := by omega
          have hlt4 : (k : Int) < (ys.length : Int) := by omega
          clear hc hc2
          go_wp2
          go_quiet (fail)
          go_wp2
          · have hne : ((gt xs k : Int) != (gt ys k : Int)) = true := by assumption
            go_ret
            refine ⟨ret_bool ?_, below_drewN hw _⟩
            have : ¬ xs = ys := fun e => by subst e; simp at hne
            simp [this]
          · have heq : ((gt xs k : Int) != (gt ys k : Int)) = false := by assumption
            refine ⟨⟨k + 1, by omega, by go_num, ?_, c1, d1, below_drewN hw _⟩, by simp only [intOf]; omega⟩
            intro j hj
            by_cases e : j = k
            · subst e; have h2 : (gt xs j : Int) = (gt ys j : Int) := by simpa using heq
              omega
            · exact H.out j (by omega)
        · go_wp2
          go_ret
          exact ⟨ret_bool (by simp [same_end H2.out k hlt H.out]), by assumption⟩
    · have h1' : (N != N) = false := by simp
      have h2' : ((xs.length : Int) != (ys.length : Int)) = true := by simp; omega
      have R : Hid (false = (decide (N = N) && decide (xs = ys))) := by
        have : ¬ xs = ys := fun e => h2 (by rw [e])
        simp [this, Hid]
      clear h2
      go_enter Tryd.func25, Tryd.ntmps25
      go_wp2
      go_ret
      exact ⟨ret_bool R.out, ((Below.refl _ _).alloc (Nat.le_refl _) _).alloc (by simp) _⟩
  · have h1' : (N != M) = true := by simpa using h1
    have R : Hid (false = (decide (N = M) && decide (xs = ys))) := by simp [h1, Hid]
    clear h1
    go_enter Tryd.func25, Tryd.ntmps25
    go_wp2
    go_ret
    exact ⟨ret_bool R.out, ((Below.refl _ _).alloc (Nat.le_refl _) _).alloc (by simp) _⟩

end Go.Proofs.YtjkihmjbhiiknaaDoor
