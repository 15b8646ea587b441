/-
  A region that draws its order and ends in a store over a cell that it has read: 'x.f = append(x.f, ..)'. What is held of the world (S) is asked behind every operation but the last ones (numbers ns: the stores), each of which waits for each operation that is taken first. Appends to a row of the call's own, out of whatever source (nothing among them): as a step of a list of operations, and of a region that draws its order.
-/
import Derived.OrdersHeld
import Derived.Deep.RegionHeld3
import Derived.Test.YtcaalcjcpddhaaaGreatRows
import Derived.WalkKit
import Derived.OwnWalk
import Derived.Deep.AppendLies
set_option linter.unusedVariables false
set_option linter.unusedSimpArgs false
set_option maxRecDepth 100000
namespace Go.Proofs.YtcaalcjcpddhaaaGreat
open Go
section
variable {P : Program} {ops : Array Oper} {Q : Exit → Act → World → Prop} {md : Region.Mode} {S : World → Prop} {ns : List Nat}
def AnyG (P : Program) (md : Region.Mode) (ops : Array Oper) (Q : Exit → Act → World → Prop) (S : World → Prop) (ns : List Nat) : Nat → Array Bool → Act → World → Prop
 | 0, l, a, w => Region.ready md ops l = [] ∧ Q .normal a w
 | f + 1, l, a, w => (Region.ready md ops l = [] → Q .normal a w) ∧ ∀ i ∈ Region.ready md ops l, wpOp P ops Q i (fun a' w' => (i ∉ ns → S w → S w') ∧ AnyG P md ops Q S ns f (l.setIfInBounds i true) a' w') a w
theorem AnyG.any : ∀ f l a w, AnyG P md ops Q S ns f l a w → wpAny P md ops Q f l a w
 | 0, _, _, _, h => h
 | f + 1, _, _, _, h => ⟨h.1, fun i hi => wpOp_mono (fun a' w' h' => AnyG.any f _ a' w' h'.2) (h.2 i hi)⟩
def waits (md : Region.Mode) (ops : Array Oper) (n i : Nat) : Bool :=
 match ops[n]? with
 | some o => o.after.any fun e => Region.binds md e && e.on == i
 | none => true
theorem waits_not {n i : Nat} {l : Array Bool} (hw : waits md ops n i = true) (hi : l.getD i true = false) : n ∉ Region.ready md ops l := by
 intro hn
 obtain ⟨_, o, ho, hall⟩ := mem_ready.1 hn
 unfold waits at hw
 rw [ho] at hw
 obtain ⟨e, he, hb⟩ := Array.any_eq_true'.1 hw
 simp only [Bool.and_eq_true, beq_iff_eq] at hb
 have h1 := hall e he hb.1
 rw [hb.2] at h1
 rcases Nat.lt_or_ge i l.size with h' | h'
 ·simp [h'] at hi h1; rw [hi] at h1; cases h1
 ·simp [Array.getElem?_eq_none h'] at h1
theorem AnyG.first {i : Nat} {oi : Oper} {v : Value} (hi : ops[i]? = some oi) (hsel : Region.noSelect ops = true) (hQ : ∀ c a w, Q (.panic c) (a.put oi.dst v) w → Q (.panic c) a w) (hw : ns.all (fun n => waits md ops n i) = true) :
  ∀ f l a w, (∀ j oj, ops[j]? = some oj → j ≠ i → l.getD j true = false → (∀ e ∈ oj.after, Region.binds md e = true → e.on ≠ i) → oi.apart ops oj = true) →
   i ∈ Region.ready md ops l → YieldsIf P ops S oi v a → S w → AnyG P md ops Q S ns f (l.setIfInBounds i true) (a.put oi.dst v) w → AnyG P md ops Q S ns (f + 1) l a w := by
 intro f
 induction f with
 | zero =>
  intro l a w _ hr hy hS H
  refine ⟨fun h => absurd hr (by rw [h]; simp), fun j hj => ?_⟩
  by_cases c : j = i
  ·subst c; exact hy.wpOp hi hS ⟨fun _ h => h, H⟩
  ·have h1 := ready_mono hj c
   rw [H.1] at h1
   exact absurd h1 (by simp)
 | succ f ih =>
  intro l a w hfree hr hy hS H
  refine ⟨fun h => absurd hr (by rw [h]; simp), fun j hj => ?_⟩
  by_cases c : j = i
  ·subst c; exact hy.wpOp hi hS ⟨fun _ h => h, H⟩
  have hun := (mem_ready.1 hr).1
  have hjn : j ∉ ns := fun e => waits_not (List.all_eq_true.1 hw j e) hun hj
  obtain ⟨hjun, oj, hoj, hall⟩ := mem_ready.1 hj
  have hnot : ∀ e ∈ oj.after, Region.binds md e = true → e.on ≠ i := by
   intro e he hb heq
   have h1 := hall e he hb
   rw [heq] at h1
   rcases Nat.lt_or_ge i l.size with h' | h'
   ·simp [h'] at hun h1; rw [hun] at h1; cases h1
   ·simp [Array.getElem?_eq_none h'] at h1
  have h2 := wpOp_putIf hoj (hfree j oj hoj c hjun hnot) (fun cs b => Region.noSelect_spec hsel i oi cs b hi) (fun cs b => Region.noSelect_spec hsel j oj cs b hoj) hQ hy (H.2 j (ready_mono hj c))
  refine wpOp_mono (fun a' w' h3 => ⟨h3.2.1, ih (l.setIfInBounds j true) a' w' ?_ (ready_mono hr (Ne.symm c)) h3.1 (h3.2.1 hjn hS) ?_⟩) h2
  ·intro k ok hk hki hku hno
   refine hfree k ok hk hki ?_ hno
   by_cases e : j = k
   ·subst e; exact hjun
   ·rw [getD_set_ne true e] at hku; exact hku
  ·rw [Array.setIfInBounds_comm _ _ c]
   exact h3.2.2
theorem AnyG.firstW {i : Nat} {oi : Oper} {v : Value} (hi : ops[i]? = some oi) (hsel : Region.noSelect ops = true) (hQ : ∀ c a w, Q (.panic c) (a.put oi.dst v) w → Q (.panic c) a w) :
  ∀ f l a w, (∀ j oj, ops[j]? = some oj → j ≠ i → l.getD j true = false → (∀ e ∈ oj.after, Region.binds md e = true → e.on ≠ i) → oi.apart ops oj = true) →
   i ∈ Region.ready md ops l → YieldsIf P ops (fun _ => True) oi v a → AnyG P md ops Q S ns f (l.setIfInBounds i true) (a.put oi.dst v) w → AnyG P md ops Q S ns (f + 1) l a w := by
 intro f
 induction f with
 | zero =>
  intro l a w _ hr hy H
  refine ⟨fun h => absurd hr (by rw [h]; simp), fun j hj => ?_⟩
  by_cases c : j = i
  ·subst c; exact hy.wpOp hi trivial ⟨fun _ h => h, H⟩
  ·have h1 := ready_mono hj c
   rw [H.1] at h1
   exact absurd h1 (by simp)
 | succ f ih =>
  intro l a w hfree hr hy H
  refine ⟨fun h => absurd hr (by rw [h]; simp), fun j hj => ?_⟩
  by_cases c : j = i
  ·subst c; exact hy.wpOp hi trivial ⟨fun _ h => h, H⟩
  have hun := (mem_ready.1 hr).1
  obtain ⟨hjun, oj, hoj, hall⟩ := mem_ready.1 hj
  have hnot : ∀ e ∈ oj.after, Region.binds md e = true → e.on ≠ i := by
   intro e he hb heq
   have h1 := hall e he hb
   rw [heq] at h1
   rcases Nat.lt_or_ge i l.size with h' | h'
   ·simp [h'] at hun h1; rw [hun] at h1; cases h1
   ·simp [Array.getElem?_eq_none h'] at h1
  have h2 := wpOp_putIf hoj (hfree j oj hoj c hjun hnot) (fun cs b => Region.noSelect_spec hsel i oi cs b hi) (fun cs b => Region.noSelect_spec hsel j oj cs b hoj) hQ hy (H.2 j (ready_mono hj c))
  refine wpOp_mono (fun a' w' h3 => ⟨h3.2.1, ih (l.setIfInBounds j true) a' w' ?_ (ready_mono hr (Ne.symm c)) h3.1 ?_⟩) h2
  ·intro k ok hk hki hku hno
   refine hfree k ok hk hki ?_ hno
   by_cases e : j = k
   ·subst e; exact hjun
   ·rw [getD_set_ne true e] at hku; exact hku
  ·rw [Array.setIfInBounds_comm _ _ c]
   exact h3.2.2
theorem AnyG.takeW (i : Nat) {oi : Oper} {v : Value} {f : Nat} {l : Array Bool} {a : Act} {w : World} (hi : ops[i]? = some oi) (hs : Region.noSelect ops = true) (hf : Region.free md ops l i = true) (hr : (Region.ready md ops l).contains i = true)
  (hQ : ∀ c a w, Q (.panic c) (a.put oi.dst v) w → Q (.panic c) a w) (hy : ∀ w0, (execOp a.eval oi).run P w0 = .ok (.value v) w0) (hwn : Region.wanted oi (yielded ops a.tmps) = true)
  (h : AnyG P md ops Q S ns f (l.setIfInBounds i true) (a.put oi.dst v) w) : AnyG P md ops Q S ns (f + 1) l a w :=
 AnyG.firstW hi hs hQ f l a w (Region.free_spec hi hf) (by simpa using hr) (.inl ⟨hwn, fun w0 _ => hy w0⟩) h
theorem AnyG.take (i : Nat) {oi : Oper} {v : Value} {f : Nat} {l : Array Bool} {a : Act} {w : World} (hi : ops[i]? = some oi) (hs : Region.noSelect ops = true) (hf : Region.free md ops l i = true) (hr : (Region.ready md ops l).contains i = true) (hw : ns.all (fun n => waits md ops n i) = true)
  (hQ : ∀ c a w, Q (.panic c) (a.put oi.dst v) w → Q (.panic c) a w) (hS : S w) (hy : ∀ w0, S w0 → (execOp a.eval oi).run P w0 = .ok (.value v) w0) (hwn : Region.wanted oi (yielded ops a.tmps) = true)
  (h : AnyG P md ops Q S ns f (l.setIfInBounds i true) (a.put oi.dst v) w) : AnyG P md ops Q S ns (f + 1) l a w :=
 AnyG.first hi hs hQ hw f l a w (Region.free_spec hi hf) (by simpa using hr) (.inl ⟨hwn, hy⟩) hS h
theorem AnyG.one (i : Nat) {o : Oper} {f : Nat} {l : Array Bool} {a : Act} {w : World} (hr : Region.ready md ops l = [i]) (ho : ops[i]? = some o)
  (h : ∀ K : Act → World → Prop, Shut (∀ a' w', (i ∉ ns → S w') → AnyG P md ops Q S ns f (l.setIfInBounds i true) a' w' → K a' w') → if Region.wanted o (yielded ops a.tmps) = true then Oper.wp P o a w K Q else K (a.put o.dst undef) w) :
  AnyG P md ops Q S ns (f + 1) l a w := by
 refine ⟨fun h0 => absurd (hr.symm.trans h0) (by simp), fun j hj => ?_⟩
 rw [hr] at hj
 obtain rfl := List.mem_singleton.1 hj
 exact wpOp_step ho (fun K hK => h K (fun a' w' hS hW => hK a' w' ⟨fun n _ => hS n, hW⟩))
theorem AnyG.two (i j : Nat) {o p : Oper} {f : Nat} {l : Array Bool} {a : Act} {w : World} (hr : Region.ready md ops l = [i, j]) (ho : ops[i]? = some o) (hp : ops[j]? = some p)
  (h : ∀ K : Act → World → Prop, Shut (∀ a' w', (i ∉ ns → S w') → AnyG P md ops Q S ns f (l.setIfInBounds i true) a' w' → K a' w') → if Region.wanted o (yielded ops a.tmps) = true then Oper.wp P o a w K Q else K (a.put o.dst undef) w)
  (h2 : ∀ K : Act → World → Prop, Shut (∀ a' w', (j ∉ ns → S w') → AnyG P md ops Q S ns f (l.setIfInBounds j true) a' w' → K a' w') → if Region.wanted p (yielded ops a.tmps) = true then Oper.wp P p a w K Q else K (a.put p.dst undef) w) :
  AnyG P md ops Q S ns (f + 1) l a w := by
 refine ⟨fun h0 => absurd (hr.symm.trans h0) (by simp), fun k hk => ?_⟩
 rw [hr] at hk
 rcases List.mem_cons.1 hk with rfl | hk
 ·exact wpOp_step ho (fun K hK => h K (fun a' w' hS hW => hK a' w' ⟨fun n _ => hS n, hW⟩))
 ·obtain rfl := List.mem_singleton.1 hk
  exact wpOp_step hp (fun K hK => h2 K (fun a' w' hS hW => hK a' w' ⟨fun n _ => hS n, hW⟩))
theorem AnyG.done {l : Array Bool} {a : Act} {w : World} (hr : Region.ready md ops l = []) (h : Q .normal a w) : ∀ f, AnyG P md ops Q S ns f l a w
 | 0 => ⟨hr, h⟩
 | _ + 1 => ⟨fun _ => h, by rw [hr]; simp⟩
theorem region_g (ns : List Nat) (S : World → Prop) {id : Nat} {a : Act} {w : World} (hm : P.follows .mixedOrders = true) (h : AnyG P .any ops Q S ns ops.size (Array.replicate ops.size false) a w.drew) : (Code.region id ops true).wp P Q a w :=
 wp_region_any hm (AnyG.any _ _ _ _ h)
end
section
variable {P : Program} {ops : Array Oper} {Q : Exit → Act → World → Prop} {md : Region.Mode} {S : World → Prop} {ns : List Nat}
end
end Go.Proofs.YtcaalcjcpddhaaaGreat
namespace Go.Proofs.YtcaalcjcpddhaaaGreat
open Go.RowKit
namespace Ap
theorem owns_below {w w' : World} {base e n : Nat} {v : Value} {vs : List Value} (h : w.ownsRow base e 1 v n vs) (hb : Below w.heap.size w w') : w'.ownsRow base e 1 v n vs := by
 obtain ⟨h1, h2 | ⟨g, cap, cur, e1, e2, hh, r⟩⟩ := h
 ·exact ⟨h1, .inl h2⟩
 ·exact ⟨h1, .inr ⟨g, cap, cur, e1, e2, (hb.block g ((Array.getElem?_eq_some_iff.1 hh).1)).trans hh, r⟩⟩
theorem owns_shape {w : World} {base e n : Nat} {v : Value} {vs : List Value} (h : w.ownsRow base e 1 v n vs) : ∃ ao cap, v = .slice ao n cap ∧ n ≤ cap ∧ (∀ k, v.ownBlock = some k → base ≤ k ∧ k < w.heap.size) := by
 have hl := h.lt
 obtain ⟨h1, ⟨rfl, rfl⟩ | ⟨g, cap, cur, rfl, e2, hh, r, _⟩⟩ := h
 ·exact ⟨none, 0, rfl, Nat.le_refl _, hl⟩
 ·exact ⟨some ⟨g, 0, none⟩, cap, rfl, r, hl⟩
theorem run_append_zero (w : World) (base : Nat) (t ty e : TypeId) (i : TypeInfo) (size : Nat) (ht : Tryz.prog.underlying t = some (.slice e)) (hi : Tryz.prog.info? e = some i)
  (v : Value) (n : Nat) (vs : List Value) (hown : w.ownsRow base e size v n vs) (xa : Option Addr) (c : Nat) :
  (Builtin.append_ #[t, t] ty #[v, .slice xa 0 c]).run Tryz.prog w = .ok v w := by
 have hc := fun ad : Addr => run_firstCells_some (P := Tryz.prog) w i.size 0 ad 0 c [] (by simp) (by simp)
 rcases hown.2 with ⟨rfl, rfl⟩ | ⟨g, cap, cur, rfl, _, _, hnc, _⟩
 ·cases xa with
  | none => simp [Builtin.append_, run_underlying ht, sizeOf, typeInfo, hi, Builtin.lenOf, Builtin.firstCells]
  | some ad => simp [Builtin.append_, run_underlying ht, sizeOf, typeInfo, hi, Builtin.lenOf, hc]
 ·cases xa with
  | none => simp [Builtin.append_, run_underlying ht, sizeOf, typeInfo, hi, Builtin.lenOf, Builtin.firstCells, hnc, storeCells]
  | some ad => simp [Builtin.append_, run_underlying ht, sizeOf, typeInfo, hi, Builtin.lenOf, hc, hnc, storeCells]
theorem step_append_u {ops : Array Oper} {o : Oper} {a : Act} {w : World} {K : Act → World → Prop} {Q : Exit → Act → World → Prop} {E : Prop} (hgd : o.guard = none) (s x : Operand) (t : TypeId)
  (ho : o.op = .call { callee := .builtin .append, args := #[s, x], argTypes := #[t, t] })
  (base : Nat) (e : TypeId) (i : TypeInfo) (z : Value) (bytes : Nat) (ht : Tryz.prog.underlying t = some (.slice e)) (hi : Tryz.prog.info? e = some i) (hz : i.zero = some z)
  (hsize : i.size = 1) (hby : i.bytes = bytes) (hzs : z.cells.size = 1)
  (v : Value) (n : Nat) (vs : List Value) (hs : a.eval s = v) (hown : w.ownsRow base e 1 v n vs)
  (xa : Option Addr) (m c : Nat) (news : List Value) (hx : a.eval x = .slice xa m c) (hl : news.length = m) (hsrc : 0 < m → ∃ ad, xa = some ad ∧ ∀ j u, news[j]? = some u → w.cell? (ad.add j) = some u) (h1 : ∀ u ∈ news, u.oneCell' = true)
  (h63 : n + m ≤ maxLen) (hbytes : (n + m) * bytes ≤ 140737488355328) (hbase : base ≤ w.heap.size)
  (h : ∀ ao cap w', w'.ownsRow base e 1 (.slice ao (n + m) cap) (n + m) (vs ++ news) → n + m ≤ cap → Below base w w' → (∀ k, (Value.slice ao (n + m) cap).ownBlock = some k → (v.ownBlock = some k ∨ k = w.heap.size) ∧ k < w'.heap.size) → (∀ k, k < w.heap.size → v.ownBlock ≠ some k → w'.heap[k]? = w.heap[k]?) → w.heap.size ≤ w'.heap.size → K (a.put o.dst (.slice ao (n + m) cap)) w') :
  if Region.wanted o (yielded ops a.tmps) = true then Oper.wp Tryz.prog o a w K Q else E := by
 have hw : Region.wanted o (yielded ops a.tmps) = true := by simp [Region.wanted, hgd]
 rw [if_pos hw]
 by_cases hm : m = 0
 ·subst hm
  have hn : news = [] := List.eq_nil_of_length_eq_zero hl
  subst hn
  have hr := run_append_zero w base t o.type e i 1 ht hi v n vs hown xa c
  obtain ⟨ao, cap, rfl, hc, hk⟩ := owns_shape hown
  unfold Oper.wp execOp
  simp only [ho, resolve, invoke, builtin, Sem.run_bind, Sem.run_pure, Result.andThen_ok, List.map_toArray, List.map_cons, List.map_nil, hs, hx, hr]
  refine h ao cap w (by simpa using hown) hc (Below.refl _ _) (fun k e => ⟨.inl e, (hk k e).2⟩) (fun _ _ _ => rfl) (Nat.le_refl _)
 ·obtain ⟨ad, rfl, hn⟩ := hsrc (by omega)
  refine wp_append_lies w s x t ho base e i z 1 bytes ht hi hz hsize hby hzs (by decide) v n vs hs hown ad m c news hx (by omega) hn h1 (by omega) h63 hbytes hbase w.heap.size rfl ?_
  intro g cap w' o1 o2 o3 o4
  refine h (some ⟨g, 0, none⟩) cap w' o1 ?_ ?_ ?_ ?_ o2.size
  ·obtain ⟨_, h | ⟨g', cap', cur, e', _, hh, hle, _⟩⟩ := o1
   ·simp at h
   ·simp only [Value.slice.injEq] at e'
    omega
  ·exact (Below.refl _ _).grown o2 hbase (fun k hk => (hown.lt k hk).1)
  ·intro k hk
   simp only [Value.ownBlock, Option.some.injEq] at hk
   subst hk
   exact ⟨o3, o4⟩
  ·intro k hk hne
   exact o2.block k hk (fun q => hne q.symm)
theorem wpList_append_u {ops : Array Oper} {rest : List Oper} {o : Oper} {a : Act} {w : World} {Q : Exit → Act → World → Prop} (hgd : o.guard = none) (s x : Operand) (t : TypeId)
  (ho : o.op = .call { callee := .builtin .append, args := #[s, x], argTypes := #[t, t] })
  (base : Nat) (e : TypeId) (i : TypeInfo) (z : Value) (bytes : Nat) (ht : Tryz.prog.underlying t = some (.slice e)) (hi : Tryz.prog.info? e = some i) (hz : i.zero = some z)
  (hsize : i.size = 1) (hby : i.bytes = bytes) (hzs : z.cells.size = 1)
  (v : Value) (n : Nat) (vs : List Value) (hs : a.eval s = v) (hown : w.ownsRow base e 1 v n vs)
  (xa : Option Addr) (m c : Nat) (news : List Value) (hx : a.eval x = .slice xa m c) (hl : news.length = m) (hsrc : 0 < m → ∃ ad, xa = some ad ∧ ∀ j u, news[j]? = some u → w.cell? (ad.add j) = some u) (h1 : ∀ u ∈ news, u.oneCell' = true)
  (h63 : n + m ≤ maxLen) (hbytes : (n + m) * bytes ≤ 140737488355328) (hbase : base ≤ w.heap.size)
  (h : ∀ ao cap w', w'.ownsRow base e 1 (.slice ao (n + m) cap) (n + m) (vs ++ news) → n + m ≤ cap → Below base w w' → wpList Tryz.prog ops Q rest (a.put o.dst (.slice ao (n + m) cap)) w') : wpList Tryz.prog ops Q (o :: rest) a w :=
 wpList_plain hgd fun K hK => by
  have hw : Region.wanted o (yielded ops a.tmps) = true := by simp [Region.wanted, hgd]
  have := step_append_u (ops := ops) (o := o) (a := a) (w := w) (K := K) (Q := Q) (E := True) hgd s x t ho base e i z bytes ht hi hz hsize hby hzs v n vs hs hown xa m c news hx hl hsrc h1 h63 hbytes hbase (fun ao cap w' h1 h2 h3 _ _ _ => hK _ _ (h ao cap w' h1 h2 h3))
  rw [if_pos hw] at this
  exact this
def Apart (u v : Value) : Prop := ∀ k, u.ownBlock = some k → v.ownBlock ≠ some k
theorem Apart.symm {u v : Value} (h : Apart u v) : Apart v u := fun k hk hu => h k hu hk
theorem apart_nil (v : Value) : Apart v (.slice none 0 0) := fun k _ h => by cases h
theorem owns_other {w w' : World} {base e n : Nat} {v u : Value} {vs : List Value} (h : w.ownsRow base e 1 v n vs) (hkeep : ∀ k, k < w.heap.size → u.ownBlock ≠ some k → w'.heap[k]? = w.heap[k]?) (ha : Apart v u) : w'.ownsRow base e 1 v n vs := by
 have hl := h.lt
 obtain ⟨h1, h2 | ⟨g, cap, cur, e1, e2, hh, r⟩⟩ := h
 ·exact ⟨h1, .inl h2⟩
 ·subst e1
  exact ⟨h1, .inr ⟨g, cap, cur, rfl, e2, (hkeep g (hl g rfl).2 (ha g rfl)).trans hh, r⟩⟩
theorem apart_new {w w' : World} {base e n : Nat} {v u u' : Value} {vs : List Value} (h : w.ownsRow base e 1 v n vs) (hn : ∀ k, u'.ownBlock = some k → (u.ownBlock = some k ∨ k = w.heap.size) ∧ k < w'.heap.size) (ha : Apart v u) : Apart v u' := by
 intro k hk hu
 rcases (hn k hu).1 with c | c
 ·exact ha k hk c
 ·have := (h.lt k hk).2
  omega
theorem wpList_append_x {ops : Array Oper} {rest : List Oper} {o : Oper} {a : Act} {w : World} {Q : Exit → Act → World → Prop} (hgd : o.guard = none) (s x : Operand) (t : TypeId)
  (ho : o.op = .call { callee := .builtin .append, args := #[s, x], argTypes := #[t, t] })
  (base : Nat) (e : TypeId) (i : TypeInfo) (z : Value) (bytes : Nat) (ht : Tryz.prog.underlying t = some (.slice e)) (hi : Tryz.prog.info? e = some i) (hz : i.zero = some z)
  (hsize : i.size = 1) (hby : i.bytes = bytes) (hzs : z.cells.size = 1)
  (v : Value) (n : Nat) (vs : List Value) (hs : a.eval s = v) (hown : w.ownsRow base e 1 v n vs)
  (xa : Option Addr) (m c : Nat) (news : List Value) (hx : a.eval x = .slice xa m c) (hl : news.length = m) (hsrc : 0 < m → ∃ ad, xa = some ad ∧ ∀ j u, news[j]? = some u → w.cell? (ad.add j) = some u) (h1 : ∀ u ∈ news, u.oneCell' = true)
  (h63 : n + m ≤ maxLen) (hbytes : (n + m) * bytes ≤ 140737488355328) (hbase : base ≤ w.heap.size)
  (h : ∀ ao cap w', w'.ownsRow base e 1 (.slice ao (n + m) cap) (n + m) (vs ++ news) → n + m ≤ cap → Below base w w' → (∀ k, (Value.slice ao (n + m) cap).ownBlock = some k → (v.ownBlock = some k ∨ k = w.heap.size) ∧ k < w'.heap.size) → (∀ k, k < w.heap.size → v.ownBlock ≠ some k → w'.heap[k]? = w.heap[k]?) → w.heap.size ≤ w'.heap.size → wpList Tryz.prog ops Q rest (a.put o.dst (.slice ao (n + m) cap)) w') : wpList Tryz.prog ops Q (o :: rest) a w :=
 wpList_plain hgd fun K hK => by
  have hw : Region.wanted o (yielded ops a.tmps) = true := by simp [Region.wanted, hgd]
  have := step_append_u (ops := ops) (o := o) (a := a) (w := w) (K := K) (Q := Q) (E := True) hgd s x t ho base e i z bytes ht hi hz hsize hby hzs v n vs hs hown xa m c news hx hl hsrc h1 h63 hbytes hbase (fun ao cap w' h1 h2 h3 h4 h5 h6 => hK _ _ (h ao cap w' h1 h2 h3 h4 h5 h6))
  rw [if_pos hw] at this
  exact this
end Ap
end Go.Proofs.YtcaalcjcpddhaaaGreat
