/-
  A region that draws its order, in a round of a range over a function, every function let in: taken as one line of operations (as Rg does outside of rounds). Nothing of the program is in here. A range over a function, every function let in: what an iterator promises (Goes), what a round keeps (Kept), and one law for the statement. Nothing of the program is in here. The landed upTo: what it promises. The landed least, of numbers; worst. A range over a function whose variable is a struct (each round makes it anew).
-/
import Derived.OrdersIn
import Derived.RangeFuncCalls
import Derived.RangeFuncIn
import Derived.RangeFuncRecord
import Derived.RangeFuncLeaves
import Derived.RangeFuncSeq
import Derived.Below
import Derived.Test.YtcaalcjcpddhaaaGreatS07
import Derived.Shelf.Abstract
import Derived.OwnWalkIn
import Derived.TacticsInMore
import Derived.LoopNIn
import Derived.LoopIn
set_option linter.unusedVariables false
set_option linter.unusedSimpArgs false
set_option maxRecDepth 100000
namespace Go.Proofs.YtcaalcjcpddhaaaGreat.Zz
open Go
section
variable {P : Program} {ops : Array Oper} {Q : Exit → Act → World → Prop} {md : Region.Mode} {S : World → Prop} {ns : List Nat} {F : Fence} {n : Nat}
def noDefer (ops : Array Oper) : Bool := ops.toList.all fun o => match o.op with | .defer _ => false | _ => true
theorem noDefer_spec {j : Nat} {o : Oper} (h : noDefer ops = true) (hj : ops[j]? = some o) : ∀ c, o.op ≠ .defer c := by
 intro c e
 unfold noDefer at h
 rw [List.all_eq_true] at h
 have hm : o ∈ ops.toList := by
  rw [← Array.getElem?_toList] at hj
  exact List.mem_of_getElem? hj
 have := h o hm
 rw [e] at this
 cases this
theorem yields_wpOpIn {i : Nat} {o : Oper} {v : Value} {a : Act} {K : Act → World → Prop} {w : World} (hF : ∀ f, F.fn f) (hi : ops[i]? = some o) (hd : ∀ c, o.op ≠ .defer c) (hy : YieldsIf P ops S o v a) (hS : S w) (h : K (a.put o.dst v) w) : wpOpIn F n P ops Q i K a w := by
 unfold wpOpIn
 simp only [hi]
 rcases hy with ⟨hw, hv⟩ | ⟨hw, rfl⟩
 ·rw [if_pos hw]
  refine ⟨fun f _ => hF f, ?_⟩
  rw [Oper.semAt_eq _ _ _ hd, hv w hS]
  exact h
 ·rw [if_neg (by rw [hw]; simp)]
  exact ⟨fun f _ => hF f, h⟩
theorem wpOpIn_late {j : Nat} {oi oj : Oper} {v : Value} {K : Act → World → Prop} {a : Act} {w : World} (hF : ∀ f, F.fn f) (hj : ops[j]? = some oj) (hd : ∀ c, oj.op ≠ .defer c) (hap : oi.apart ops oj = true)
  (hsi : ∀ cs b, oi.op ≠ .select cs b) (hsj : ∀ cs b, oj.op ≠ .select cs b) (hQ : ∀ c a w, Q (.panic c) (a.put oi.dst v) w → Q (.panic c) a w)
  (hy : YieldsIf P ops S oi v a) (h : wpOpIn F n P ops Q j K (a.put oi.dst v) w) :
  wpOpIn F n P ops Q j (fun a' w' => YieldsIf P ops S oi v a' ∧ K (a'.put oi.dst v) w') a w := by
 obtain ⟨h1, h2, h3⟩ := Oper.apart_spec hap
 have keep : ∀ u, YieldsIf P ops S oi v (a.put oj.dst u) := fun u => hy.of_same (execOp_put oi hsi a oj.dst u h3) (wanted_put oi a oj.dst u h3)
 have fit : ∀ u w', K ((a.put oi.dst v).put oj.dst u) w' → YieldsIf P ops S oi v (a.put oj.dst u) ∧ K ((a.put oj.dst u).put oi.dst v) w' := fun u w' hk => ⟨keep u, by rw [← Act.put_comm a v u h2]; exact hk⟩
 unfold wpOpIn at h ⊢
 simp only [hj] at h ⊢
 rw [wanted_put oj a oi.dst v h1] at h
 by_cases hw : Region.wanted oj (yielded ops a.tmps) = true
 ·rw [if_pos hw] at h ⊢
  refine ⟨fun f _ => hF f, ?_⟩
  have h := h.2
  rw [Oper.semAt_eq _ _ _ hd, execOp_put oj hsj a oi.dst v h1] at h
  rw [Oper.semAt_eq _ _ _ hd]
  generalize (execOp a.eval oj).run P w = r at h ⊢
  match r, h with
  | .ok (.value u) w', h => exact fit u w' h
  | .ok .skip w', h => exact fit undef w' h
  | .ok (.defer d) w', h =>
   have kd : YieldsIf P ops S oi v { a with defers := d :: a.defers } := hy.of_same rfl rfl
   refine ⟨kd.of_same (execOp_put oi hsi _ oj.dst undef h3) (wanted_put oi _ oj.dst undef h3), ?_⟩
   rw [← Act.put_comm _ v undef h2, ← Act.put_defers]
   exact h
  | .ok (.enter f args) w', h =>
   refine ⟨h.1, h.2.mono fun e w2 he => ?_⟩
   match e, he with
   | .returned u, he => exact fit u w2 he
   | .panicked c, he => exact hQ _ _ _ he
   | .outgrown, he => exact he
  | .ok (.row row args) w', h => exact ⟨h.1, RowsIn.mono h.2 fun u w2 he => fit u w2 he⟩
  | .ok (.round l f tmps assign body) w', h =>
   refine ⟨h.1, RoundIn.mono h.2 fun e w2 he => ?_⟩
   match e, he with
   | .returned u, he => exact fit u w2 he
   | .panicked c, he => exact hQ _ _ _ he
   | .outgrown, he => exact he
  | .halt (.panic u) w', h => exact hQ _ _ _ h
 ·rw [if_neg hw] at h ⊢
  exact ⟨fun f _ => hF f, fit undef w h.2⟩
def AnyI (F : Fence) (n : Nat) (P : Program) (md : Region.Mode) (ops : Array Oper) (Q : Exit → Act → World → Prop) (S : World → Prop) (ns : List Nat) : Nat → Array Bool → Act → World → Prop
 | 0, l, a, w => Region.ready md ops l = [] ∧ Q .normal a w
 | f + 1, l, a, w => (Region.ready md ops l = [] → Q .normal a w) ∧ ∀ i ∈ Region.ready md ops l, wpOpIn F n P ops Q i (fun a' w' => (i ∉ ns → S w → S w') ∧ AnyI F n P md ops Q S ns f (l.setIfInBounds i true) a' w') a w
theorem AnyI.any : ∀ f l a w, AnyI F n P md ops Q S ns f l a w → wpAnyIn F n P md ops Q f l a w
 | 0, _, _, _, h => h
 | f + 1, _, _, _, h => ⟨h.1, fun i hi => wpOpIn_mono (fun a' w' h' => AnyI.any f _ a' w' h'.2) (h.2 i hi)⟩
theorem AnyI.first {i : Nat} {oi : Oper} {v : Value} (hF : ∀ f, F.fn f) (hi : ops[i]? = some oi) (hsel : Region.noSelect ops = true) (hdef : noDefer ops = true) (hQ : ∀ c a w, Q (.panic c) (a.put oi.dst v) w → Q (.panic c) a w) (hw : ns.all (fun n => waits md ops n i) = true) :
  ∀ f l a w, (∀ j oj, ops[j]? = some oj → j ≠ i → l.getD j true = false → (∀ e ∈ oj.after, Region.binds md e = true → e.on ≠ i) → oi.apart ops oj = true) →
   i ∈ Region.ready md ops l → YieldsIf P ops S oi v a → S w → AnyI F n P md ops Q S ns f (l.setIfInBounds i true) (a.put oi.dst v) w → AnyI F n P md ops Q S ns (f + 1) l a w := by
 intro f
 induction f with
 | zero =>
  intro l a w _ hr hy hS H
  refine ⟨fun h => absurd hr (by rw [h]; simp), fun j hj => ?_⟩
  by_cases c : j = i
  ·subst c; exact yields_wpOpIn hF hi (noDefer_spec hdef hi) hy hS ⟨fun _ h => h, H⟩
  ·have h1 := ready_mono hj c
   rw [H.1] at h1
   exact absurd h1 (by simp)
 | succ f ih =>
  intro l a w hfree hr hy hS H
  refine ⟨fun h => absurd hr (by rw [h]; simp), fun j hj => ?_⟩
  by_cases c : j = i
  ·subst c; exact yields_wpOpIn hF hi (noDefer_spec hdef hi) hy hS ⟨fun _ h => h, H⟩
  have hun := (mem_ready.1 hr).1
  have hjn : j ∉ ns := fun e => waits_not (List.all_eq_true.1 hw j e) hun hj
  obtain ⟨hjun, oj, hoj, hall⟩ := mem_ready.1 hj
  have hnot : ∀ e ∈ oj.after, Region.binds md e = true → e.on ≠ i := by
   intro e he hb heq
   have h1 := hall e he hb
   rw [heq] at h1
   rcases Nat.lt_or_ge i l.size with h' | h'
   ·simp [h'] at hun h1; rw [hun] at h1; cases h1
   ·simp [Array.getElem?_eq_none h'] at h1
  have h2 := wpOpIn_late hF hoj (noDefer_spec hdef hoj) (hfree j oj hoj c hjun hnot) (fun cs b => Region.noSelect_spec hsel i oi cs b hi) (fun cs b => Region.noSelect_spec hsel j oj cs b hoj) hQ hy (H.2 j (ready_mono hj c))
  refine wpOpIn_mono (fun a' w' h3 => ⟨h3.2.1, ih (l.setIfInBounds j true) a' w' ?_ (ready_mono hr (Ne.symm c)) h3.1 (h3.2.1 hjn hS) ?_⟩) h2
  ·intro k ok hk hki hku hno
   refine hfree k ok hk hki ?_ hno
   by_cases e : j = k
   ·subst e; exact hjun
   ·rw [getD_set_ne true e] at hku; exact hku
  ·rw [Array.setIfInBounds_comm _ _ c]
   exact h3.2.2
theorem AnyI.take (i : Nat) {oi : Oper} {v : Value} {f : Nat} {l : Array Bool} {a : Act} {w : World} (hF : ∀ f, F.fn f) (hi : ops[i]? = some oi) (hs : Region.noSelect ops = true) (hdef : noDefer ops = true) (hf : Region.free md ops l i = true) (hr : (Region.ready md ops l).contains i = true) (hw : ns.all (fun n => waits md ops n i) = true)
  (hQ : ∀ c a w, Q (.panic c) (a.put oi.dst v) w → Q (.panic c) a w) (hS : S w) (hy : ∀ w0, S w0 → (execOp a.eval oi).run P w0 = .ok (.value v) w0) (hwn : Region.wanted oi (yielded ops a.tmps) = true)
  (h : AnyI F n P md ops Q S ns f (l.setIfInBounds i true) (a.put oi.dst v) w) : AnyI F n P md ops Q S ns (f + 1) l a w :=
 AnyI.first hF hi hs hdef hQ hw f l a w (Region.free_spec hi hf) (by simpa using hr) (.inl ⟨hwn, hy⟩) hS h
theorem AnyI.one (i : Nat) {o : Oper} {f : Nat} {l : Array Bool} {a : Act} {w : World} (hF : ∀ f, F.fn f) (hr : Region.ready md ops l = [i]) (ho : ops[i]? = some o) (hd : ∀ c, o.op ≠ .defer c) (hwn : Region.wanted o (yielded ops a.tmps) = true)
  (h : ∀ K : Act → World → Prop, Shut (∀ a' w', (i ∉ ns → S w') → AnyI F n P md ops Q S ns f (l.setIfInBounds i true) a' w' → K a' w') → o.uponIn F n P a K Q ((execOp a.eval o).run P w)) :
  AnyI F n P md ops Q S ns (f + 1) l a w := by
 refine ⟨fun h0 => absurd (hr.symm.trans h0) (by simp), fun j hj => ?_⟩
 rw [hr] at hj
 obtain rfl := List.mem_singleton.1 hj
 refine wpOpIn_step ho (fun K hK => ?_)
 rw [if_pos hwn]
 refine ⟨fun f _ => hF f, ?_⟩
 rw [Oper.semAt_eq _ _ _ hd]
 exact h K (fun a' w' hS hW => hK a' w' ⟨fun n _ => hS n, hW⟩)
end
end Go.Proofs.YtcaalcjcpddhaaaGreat.Zz
namespace Go.Proofs.YtcaalcjcpddhaaaGreat.Zz
open Go Go.RowKit
structure Kept (K : Nat → Prop) (W W' : World) : Prop where
 os : W'.os = W.os
 tape : W'.tape = W.tape
 output : W'.output = W.output
 size : W.heap.size ≤ W'.heap.size
 same : ∀ b, K b → b < W.heap.size → W'.heap[b]? = W.heap[b]?
theorem Kept.refl (K : Nat → Prop) (W : World) : Kept K W W := ⟨rfl, rfl, rfl, Nat.le_refl _, fun _ _ _ => rfl⟩
theorem Kept.trans {K : Nat → Prop} {a b c : World} (h : Kept K a b) (k : Kept K b c) : Kept K a c :=
 ⟨k.os.trans h.os, k.tape.trans h.tape, k.output.trans h.output, Nat.le_trans h.size k.size, fun x hx hl => (k.same x hx (Nat.lt_of_lt_of_le hl h.size)).trans (h.same x hx hl)⟩
theorem Kept.less {K K' : Nat → Prop} {a b : World} (h : Kept K a b) (hk : ∀ x, K' x → K x) : Kept K' a b := ⟨h.os, h.tape, h.output, h.size, fun x hx hl => h.same x (hk x hx) hl⟩
theorem Kept.of {K : Nat → Prop} {a b : World} (h : Below a.heap.size a b) : Kept K a b := ⟨h.os, h.tape, h.output, h.size, fun x _ hl => h.block x hl⟩
theorem Kept.setCell {K : Nat → Prop} {a b : World} (h : Kept K a b) {p : Addr} (hp : ¬ K p.block) (v : Value) : Kept K a (b.setCell p v) :=
 h.trans ⟨rfl, rfl, rfl, by simp [World.setCell], fun x hx _ => Below.heap_setCell _ _ _ _ (fun e => hp (e ▸ hx))⟩
theorem Kept.putObj {K : Nat → Prop} {a b : World} (h : Kept K a b) {r : Nat} (hp : ¬ K r) (o : Obj) : Kept K a (b.putObj r o) :=
 h.trans ⟨rfl, rfl, rfl, by simp, fun x hx _ => World.putObj_heap_other (fun e => hp (e ▸ hx))⟩
theorem below_putObj {B : Nat} {W : World} {r : Nat} (h : B ≤ r) (o : Obj) : Below B W (W.putObj r o) :=
 ⟨rfl, rfl, rfl, by simp, fun x hx => World.putObj_heap_other (by omega)⟩
theorem Kept.below {K : Nat → Prop} {B : Nat} {a b : World} (h : Kept K a b) (hB : ∀ x, x < B → K x) (hs : B ≤ a.heap.size) : Below B a b :=
 ⟨h.os, h.tape, h.output, h.size, fun x hx => h.same x (hB x hx) (by omega)⟩
def Goes (P : Program) (g : Nat) (lb : Array Value) (N : Nat) (enc : Nat → Array Value) (K : Nat → Prop) (w : World) : Prop :=
 ∀ (l : Nat) (J Jx : Nat → World → Prop) (W : World), Below w.heap.size w W → (∀ b, W.heap.size ≤ b → K b) →
  (∀ q W1 W2, J q W1 → Below W.heap.size W1 W2 → J q W2) → (∀ q W1 W2, Jx q W1 → Below W.heap.size W1 W2 → Jx q W2) →
  (∀ q W1, q < N → J q W1 → W.heap.size ≤ W1.heap.size → YieldAt Fence.wide 0 P l (enc q) W1 fun e W2 =>
   Kept K W1 W2 ∧ ((e = .returned (.bool true) ∧ J (q + 1) W2) ∨ (e = .returned (.bool false) ∧ Jx q W2))) →
  J 0 W →
  Calls P g (#[.func (.yield l) #[] #[]] ++ lb) W fun e W' => (∃ v, e = .returned v) ∧ (J N W' ∨ ∃ q, q < N ∧ Jx q W')
theorem Goes.enc {P : Program} {g : Nat} {lb : Array Value} {N : Nat} {enc enc' : Nat → Array Value} {K : Nat → Prop} {w : World} (h : Goes P g lb N enc K w) (he : ∀ q, q < N → enc q = enc' q) : Goes P g lb N enc' K w :=
 fun l J Jx W h1 h2 h3 h4 h5 h6 => h l J Jx W h1 h2 h3 h4 (fun q W1 hq hj hz => by rw [he q hq]; exact h5 q W1 hq hj hz) h6
def roundEnd (K : Nat → Prop) (I Ix : Nat → World → Prop) (q : Nat) (W : World) : Exit → Act → World → Prop
 | .normal, _, W' => Kept K W W' ∧ I (q + 1) W'
 | .ret, _, W' => Kept K W W' ∧ Ix q W'
 | _, _, _ => False
theorem range_law {P : Program} {g : Operand} {ps : Array Tmp} {assign body : Code} {Q : Exit → Act → World → Prop} {a : Act} {w : World} {gf : Nat} {lb : Array Value} {N : Nat} {enc : Nat → Array Value} {K : Nat → Prop}
  (hg : a.eval g = .func (.func gf) #[] lb) (eg : ∀ args w, (callFunc gf args).run P w = .ok (.enter gf args) w) (hps : ∀ q, (enc q).size = ps.size)
  (hseq : Goes P gf lb N enc (fun b => K b ∧ b ≠ w.heap.size + 1) w) (hK : ∀ b, w.heap.size ≤ b → K b)
  (I Ix : Nat → World → Prop) (hI : ∀ q W1 W2, I q W1 → Below w.heap.size W1 W2 → I q W2) (hIx : ∀ q W1 W2, Ix q W1 → Below w.heap.size W1 W2 → Ix q W2) (h0 : I 0 w) (a₁ : Nat → Act)
  (hassign : ∀ (l q : Nat) (W : World) (K : Act → World → Prop), K (a₁ q) W → assign.wpIn (Fence.wide.inRound l) 0 P (Exit.then K fun _ _ _ => False) { tmps := (ps.zip (enc q)).foldl (fun t (p, v) => t.setIfInBounds p v) a.tmps, defers := [] } W)
  (hbody : ∀ (l q : Nat) (W : World), q < N → I q W → w.heap.size + 2 ≤ W.heap.size → body.wpIn (Fence.wide.inRound l) 0 P (roundEnd K I Ix q W) (a₁ q) W)
  (hdone : ∀ (D : Nat) (W : World), w.heap.size ≤ D → I N W → W.heap[D]? = some (.deferred (some [])) → Q .normal { a with defers := { target := .collected D, args := #[] } :: a.defers } W)
  (hstop : ∀ (D q : Nat) (W : World), w.heap.size ≤ D → q < N → Ix q W → W.heap[D]? = some (.deferred (some [])) → Q .ret { a with defers := { target := .collected D, args := #[] } :: a.defers } W) :
  (Code.rangeFunc g ps assign body).wp P Q a w := by
 refine (wpIn_wide (n := 0)).1 (wpIn_rangeFunc fun fn _ => ?_)
 let rc : LoopState → Option Code → Loop := fun st pe => { state := st, pending := pe, fn, tmps := a.tmps, params := ps, assign, body, defers := w.heap.size }
 let W1 := (w.alloc (.deferred (some []))).alloc (.loop (rc .ready none))
 have z1 : W1.heap.size = w.heap.size + 2 := by simp [W1]
 have hL1 : W1.heap[w.heap.size + 1]? = some (.loop (rc .ready none)) := by
  have := World.alloc_heap_new (w.alloc (.deferred (some []))) (.loop (rc .ready none))
  rwa [World.size_alloc] at this
 have hD1 : W1.heap[w.heap.size]? = some (.deferred (some [])) := (Below.heap_alloc _ _ _ (by simp)).trans (World.alloc_heap_new w _)
 have b1 : Below w.heap.size w W1 := ((Below.refl _ w).alloc (Nat.le_refl _) _).alloc (by simp) _
 refine ⟨w.heap.size + 1, [{ target := .collected w.heap.size, args := #[] }], W1, { target := .fn (.func gf) lb, args := #[.func (.yield (w.heap.size + 1)) #[] #[]] }, W1, gf, #[.func (.yield (w.heap.size + 1)) #[] #[]] ++ lb, W1, run_enterLoop_outer _ _ _ _ _, ?_, fun _ _ => trivial, ?_, fun h => by simp [Fence.wide] at h, ?_⟩
 ·simp only [resolve, hg]
  simp [go_sem]
 ·simp [invoke, go_sem, eg]
 refine callsIn_wide.2 ((hseq (w.heap.size + 1) (fun q W => I q W ∧ W.heap[w.heap.size + 1]? = some (.loop (rc .ready none)) ∧ W.heap[w.heap.size]? = some (.deferred (some []))) (fun q W => Ix q W ∧ W.heap[w.heap.size + 1]? = some (.loop (rc .done (some .ret))) ∧ W.heap[w.heap.size]? = some (.deferred (some []))) W1 b1 ?_ ?_ ?_ ?_ ⟨hI _ _ _ h0 b1, hL1, hD1⟩).mono ?_)
 ·exact fun b hb => ⟨hK b (by omega), by omega⟩
 ·exact fun q A B h hb => ⟨hI q A B h.1 (hb.mono (by omega)), (hb.block _ (by omega)).trans h.2.1, (hb.block _ (by omega)).trans h.2.2⟩
 ·exact fun q A B h hb => ⟨hIx q A B h.1 (hb.mono (by omega)), (hb.block _ (by omega)).trans h.2.1, (hb.block _ (by omega)).trans h.2.2⟩
 ·rintro q W hq ⟨hi, hl, hd⟩ hz
  have hlt : w.heap.size + 1 < W.heap.size := by omega
  refine ⟨fn, _, assign, body, run_yield (P := P) (args := enc q) hl (hps q), roundIn_of_wpIn trivial (hassign _ q W _ ⟨_, run_beginRound hl rfl, ?_⟩)⟩
  let Wb := W.putObj (w.heap.size + 1) (.loop { rc .ready none with state := .busy })
  have zb : Wb.heap.size = W.heap.size := by simp [Wb]
  have bb : Below w.heap.size W Wb := below_putObj (by omega) _
  have hlb : Wb.heap[w.heap.size + 1]? = some (.loop { rc .ready none with state := .busy }) := World.putObj_heap_same hlt
  have hdb : Wb.heap[w.heap.size]? = some (.deferred (some [])) := (World.putObj_heap_other (by omega)).trans hd
  have kb : Kept (fun b => K b ∧ b ≠ w.heap.size + 1) W Wb := (Kept.refl _ W).putObj (fun h => h.2 rfl) _
  refine wpIn_mono (hbody _ q Wb hq (hI q _ _ hi bb) (by omega)) ?_
  have fin : ∀ (j : Option Code) (W3 : World), Kept K Wb W3 → (Instr.endRound (w.heap.size + 1) j).run P W3 = .ok (.bool j.isNone) (W3.putObj (w.heap.size + 1) (.loop (rc (if j.isNone then .ready else .done) j))) ∧ Kept (fun b => K b ∧ b ≠ w.heap.size + 1) W (W3.putObj (w.heap.size + 1) (.loop (rc (if j.isNone then .ready else .done) j))) ∧ Below w.heap.size W3 (W3.putObj (w.heap.size + 1) (.loop (rc (if j.isNone then .ready else .done) j))) ∧ (W3.putObj (w.heap.size + 1) (.loop (rc (if j.isNone then .ready else .done) j))).heap[w.heap.size + 1]? = some (.loop (rc (if j.isNone then .ready else .done) j)) ∧ (W3.putObj (w.heap.size + 1) (.loop (rc (if j.isNone then .ready else .done) j))).heap[w.heap.size]? = some (.deferred (some [])) := fun j W3 hk => by
   have h3 := (hk.same _ (hK _ (by omega)) (by omega)).trans hlb
   have hd3 := (hk.same _ (hK _ (by omega)) (by omega)).trans hdb
   refine ⟨run_endRound (P := P) j h3, ?_, below_putObj (by omega) _, World.putObj_heap_same ?_, (World.putObj_heap_other (by omega)).trans hd3⟩
   ·exact (kb.trans (hk.less fun _ h => h.1)).putObj (fun h => h.2 rfl) _
   ·have := hk.size
    omega
  intro e a3 W3 hp
  match e, hp with
  | .normal, hp =>
   obtain ⟨f1, f2, f3, f4, f5⟩ := fin none W3 hp.1
   exact ⟨_, _, f1, f2, .inl ⟨rfl, hI _ _ _ hp.2 f3, f4, f5⟩⟩
  | .ret, hp =>
   obtain ⟨f1, f2, f3, f4, f5⟩ := fin (some .ret) W3 hp.1
   exact ⟨_, _, f1, f2, .inr ⟨rfl, hIx _ _ _ hp.2 f3, f4, f5⟩⟩
 ·rintro e W2 ⟨⟨v, rfl⟩, ⟨hi, hl, hd⟩ | ⟨q, hq, hi, hl, hd⟩⟩
  ·exact ⟨none, _, run_endLoop (P := P) hl (by simp [rc]), hdone _ _ (Nat.le_refl _) (hI _ _ _ hi (below_putObj (by omega) _)) ((World.putObj_heap_other (by omega)).trans hd)⟩
  ·exact ⟨some .ret, _, run_endLoop (P := P) hl (by simp [rc]), wpIn_ret (hstop _ q _ (Nat.le_refl _) hq (hIx _ _ _ hi (below_putObj (by omega) _)) ((World.putObj_heap_other (by omega)).trans hd))⟩
theorem marks_end {P : Program} {fn : Func} {R : Ending → World → Prop} {tmps : Array Value} {D : Nat} {W : World} {v : Value} (hD : W.heap[D]? = some (.deferred (some [])))
  (hr : (results fn tmps).run P (W.putObj D (.deferred none)) = .ok v (W.putObj D (.deferred none))) (h : R (.returned v) (W.putObj D (.deferred none))) :
  bodyPostM Fence.wide 0 P fn R .normal { tmps := tmps, defers := [{ target := .collected D, args := #[] }] } W :=
 ⟨by simp, .inl ⟨_, _, rfl, run_takeDeferred hD, v, hr, h⟩⟩
end Go.Proofs.YtcaalcjcpddhaaaGreat.Zz
namespace Go.Proofs.YtcaalcjcpddhaaaGreat.Zz
open Go.RowKit Go.Shelf Num
attribute [local go_sem] Oper.semAt_some
theorem Kept.cel {K : Nat → Prop} {W W' : World} {b : Nat} {cs : List Value} {T : TypeId} (h : Kept K W W') (hc : Cel W b cs T) (hK : K b) : Cel W' b cs T := (h.same b hK hc.lt).trans hc
theorem Kept.more {K : Nat → Prop} {D : Nat} {a b c : World} (h : Kept K a b) (hb : Below D b c) (hD : a.heap.size ≤ D) : Kept K a c :=
 ⟨hb.os.trans h.os, hb.tape.trans h.tape, hb.output.trans h.output, Nat.le_trans h.size hb.size, fun x hx hl => (hb.block x (by omega)).trans (h.same x hx hl)⟩
theorem Cel.at {w : World} {b b' : Nat} {cs : List Value} {T : TypeId} (h : Cel w b cs T) (e : b = b') : Cel w b' cs T := e ▸ h
theorem Cel.put {w : World} {b D : Nat} {cs : List Value} {T : TypeId} (h : Cel w b cs T) (o : Obj) (e : b ≠ D) : Cel (w.putObj D o) b cs T := (World.putObj_heap_other e).trans h
set_option maxHeartbeats 4000000 in
theorem upTo1_goes (g n : Nat) (hn : n ≤ 8192) (K : Nat → Prop) (w : World) (hc : Cel w g [.int .i64 (n : Nat)] 3) (hK : K g) :
  Goes Tryz.prog 118 #[.pointer (some ⟨g, 0, none⟩)] (n + 1) (fun q => #[.int .i64 (q : Nat)]) K w := by
 intro l J Jx W hW hKW hJ hJx hY h0
 refine (callsIn_wide (n := 0)).1 (callsIn_of_wp Tryz.func118 rfl trivial ?_)
 simp only [Tryz.ntmps118, List.size_toArray, List.length_cons, List.length_nil, Nat.reduceAdd, Nat.reduceSub, Array.replicate_succ, Array.replicate_zero, List.push_toArray, List.append_toArray, List.nil_append, List.cons_append]
 replace hc := hide (hc.kept hW)
 gi_wp2
 gi_loopw [3] (fun iv wr => ∃ q : Nat, q ≤ n + 1 ∧ iv = .int .i64 (q : Nat) ∧ Hid (J q wr) ∧ Hid (Cel wr g [.int .i64 (n : Nat)] 3) ∧ W.heap.size ≤ wr.heap.size) (fun k _ => n + 1 - (intOf k).toNat)
 case atStart => exact ⟨0, Nat.zero_le _, rfl, h0, hc, Nat.le_refl _⟩
 case round =>
  clear hc
  obtain ⟨q, hq, rfl, HJ, HC, hz⟩ := hrel
  have c0 := HC.out.cell 0 rfl
  by_cases hle : q ≤ n
  ·have hlez : (q : Int) ≤ (n : Int) := by omega
   have Y := hY q wr (by omega) HJ.out hz
   obtain ⟨fn, tmps, assign, body, hy, hR⟩ := Y
   have HLT : Hid (q < n + 1) := by show _ < _; omega
   gi_wp2
   refine ⟨rfl, hR.mono ?_⟩
   rintro e W3 ⟨hkp, ⟨rfl, hJ3⟩ | ⟨rfl, hJx3⟩⟩
   ·have HJ3 : Hid (J (q + 1) W3) := hJ3
    have HC3 := hide (hkp.cel HC.out hK)
    have hz3 := Nat.le_trans hz hkp.size
    clear hJ3 hkp HJ HC hY hJ hJx c0
    gi_wp2
    exact ⟨⟨q + 1, by omega, by go_num, HJ3, HC3, hz3⟩, by simp only [intOf]; omega⟩
   ·have HF : Hid (∃ q, q < n + 1 ∧ Jx q W3) := ⟨q, HLT.out, hJx3⟩
    clear hJx3 hkp HJ HC hY hJ hJx c0
    gi_wp2
    refine bodyPost_end (results_none rfl _ _ _) rfl ?_
    exact ⟨⟨_, rfl⟩, .inr HF.out⟩
  ·obtain rfl : q = n + 1 := by omega
   have hlez : ¬ ((n + 1 : Nat) : Int) ≤ (n : Int) := by omega
   have HJ3 := hide HJ.out
   clear HJ HC hY hJ hJx
   gi_wp2
   refine ⟨(fun _ h => by cases h), ?_⟩
   gi_wp2
   refine bodyPost_end (results_none rfl _ _ _) rfl ?_
   exact ⟨⟨_, rfl⟩, .inl HJ3.out⟩
theorem pspared_c (k : Int) (s q gk gs : Nat) (w : World) (ck : Cel w gk [.int .i64 k] 3) (cs : Cel w gs [.int .i64 (s : Nat)] 3) (hq : q ≤ s) (hs : s ≤ 8192) :
  Calls Tryz.prog 114 #[.int .i64 (q : Nat), .pointer (some ⟨gk, 0, none⟩), .pointer (some ⟨gs, 0, none⟩)] w fun e w' => e = .returned (.int .i64 (-(Pn.row k s q : Nat))) ∧ w' = w := by
 have R := hide fun w0 => prow0_c k s q w0
 rw [rowI_in (by omega) hq] at R
 have hle := Pn.row_le k (n := s) (m := q) (by omega) hq
 have c0 := ck.cell 0 rfl
 have c1 := cs.cell 0 rfl
 generalize Pn.row k s q = y at *
 clear ck cs
 go_enter Tryz.func114, Tryz.ntmps114
 go_wp2_with fail
 refine (R.out _).mono ?_
 rintro e w1 ⟨rfl, rfl⟩
 go_wp2
 go_ret
 exact ⟨by go_num, rfl⟩
def lw (k : Int) (s q : Nat) : Int := if q = 0 then 9223372036854775807 else -(Pn.row k s (Pn.wsA k s q) : Nat)
theorem lw_new {k : Int} {s q : Nat} (h : -(Pn.row k s q : Nat) < lw k s q) : Pn.wsA k s (q + 1) = q ∧ lw k s (q + 1) = -(Pn.row k s q : Nat) := by
 have e : Pn.wsA k s (q + 1) = q := by
  unfold lw at h
  rw [Pn.wsA]
  by_cases c : q = 0
  ·rw [if_pos c, c]
  ·rw [if_neg c] at h ⊢
   rw [if_pos (by omega)]
 refine ⟨e, ?_⟩
 unfold lw
 rw [if_neg (Nat.succ_ne_zero q), e]
theorem lw_old {k : Int} {s q : Nat} (hr : Pn.row k s q ≤ 1048576) (h : ¬ -(Pn.row k s q : Nat) < lw k s q) : Pn.wsA k s (q + 1) = Pn.wsA k s q ∧ lw k s (q + 1) = lw k s q := by
 unfold lw at h ⊢
 rw [if_neg (Nat.succ_ne_zero q), Pn.wsA]
 by_cases c : q = 0
 ·rw [if_pos c] at h
  omega
 ·rw [if_neg c] at h ⊢
  rw [if_neg (by omega), if_neg c]
  exact ⟨rfl, rfl⟩
set_option maxHeartbeats 4000000 in
theorem pleastI_c (k : Int) (s gU gk gs : Nat) (w : World) (hs : s ≤ 8192) (cU : Cel w gU [.int .i64 (s : Nat)] 3) (ck : Cel w gk [.int .i64 k] 3) (cs : Cel w gs [.int .i64 (s : Nat)] 3) :
  Calls Tryz.prog 115 #[.func (.func 118) #[] #[.pointer (some ⟨gU, 0, none⟩)], .func (.func 114) #[] #[.pointer (some ⟨gk, 0, none⟩), .pointer (some ⟨gs, 0, none⟩)]] w fun e w' => e = .returned (.int .i64 (Pn.wsA k s (s + 1) : Nat)) ∧ Below w.heap.size w w' := by
 refine (callsIn_wide (n := 0)).1 (callsIn_of_wp_marks Tryz.func115 rfl trivial ?_)
 simp only [Tryz.ntmps115, List.size_toArray, List.length_cons, List.length_nil, Nat.reduceAdd, Nat.reduceSub, Array.replicate_succ, Array.replicate_zero, List.push_toArray, List.append_toArray, List.nil_append, List.cons_append]
 refine wpIn_wide.2 ?_
 obtain ⟨W1, hW1⟩ : ∃ W1, W1 = ((w.alloc (.cells #[.func (.func 114) #[] #[.pointer (some ⟨gk, 0, none⟩), .pointer (some ⟨gs, 0, none⟩)]] 100)).alloc (.cells #[.int .i64 0] 3)).alloc (.cells #[.int .i64 9223372036854775807] 3) := ⟨_, rfl⟩
 have z1 : W1.heap.size = w.heap.size + 3 := by rw [hW1]; simp
 have b1 : Below w.heap.size w W1 := by rw [hW1]; exact (((below_alloc w _).alloc (by simp only [World.size_alloc]; omega) _).alloc (by simp only [World.size_alloc]; omega) _)
 have c0 : Cel W1 w.heap.size [.func (.func 114) #[] #[.pointer (some ⟨gk, 0, none⟩), .pointer (some ⟨gs, 0, none⟩)]] 100 := by rw [hW1]; exact ((((Cel.new _ _ _).alloc _).alloc _)).at rfl
 have c1 : Cel W1 (w.heap.size + 1) [.int .i64 0] 3 := by rw [hW1]; exact (((Cel.new _ _ _).alloc _)).at (by simp)
 have c2 : Cel W1 (w.heap.size + 1 + 1) [.int .i64 9223372036854775807] 3 := by rw [hW1]; exact ((Cel.new _ _ _)).at (by simp)
 have lU := cU.lt
 have lk := ck.lt
 have ls := cs.lt
 replace cU := cU.kept b1
 replace ck := ck.kept b1
 replace cs := cs.kept b1
 go_wp2_with fail
 rw [← hW1]
 clear hW1
 have G := upTo1_goes gU s hs (fun b => (b ≠ w.heap.size + 1 ∧ b ≠ w.heap.size + 1 + 1) ∧ b ≠ W1.heap.size + 1) W1 cU (by omega)
 refine range_law (gf := 118) (lb := #[.pointer (some ⟨gU, 0, none⟩)]) (K := fun b => b ≠ w.heap.size + 1 ∧ b ≠ w.heap.size + 1 + 1) rfl (enters_of Tryz.func118 (by kernel_rfl) rfl) (fun _ => rfl) G (fun b hb => by omega)
  (fun q Wc => Kept (fun b => b ≠ w.heap.size + 1 ∧ b ≠ w.heap.size + 1 + 1) W1 Wc ∧ Cel Wc (w.heap.size + 1) [.int .i64 (Pn.wsA k s q : Nat)] 3 ∧ Cel Wc (w.heap.size + 1 + 1) [.int .i64 (lw k s q)] 3) (fun q Wc => False) (fun q A B h hb => ⟨h.1.more hb (Nat.le_refl _), h.2.1.keep hb (by omega), h.2.2.keep hb (by omega)⟩) (fun q A B h hb => h) ⟨Kept.refl _ _, c1, c2⟩
  (fun q => { tmps := #[.func (.func 118) #[] #[.pointer (some ⟨gU, 0, none⟩)], .func (.func 114) #[] #[.pointer (some ⟨gk, 0, none⟩), .pointer (some ⟨gs, 0, none⟩)], undef, .pointer (some ⟨w.heap.size, 0, none⟩), .int .i64 0, .pointer (some ⟨w.heap.size + 1, 0, none⟩), .pointer (some ⟨w.heap.size + 1 + 1, 0, none⟩), .int .i64 (q : Nat), undef, .func (.func 118) #[] #[.pointer (some ⟨gU, 0, none⟩)], .int .i64 (q : Nat), undef, undef, undef, undef, undef, undef, undef, undef, undef], defers := [] }) ?assign ?body ?done ?stop
 case assign =>
  intro l1 q Wc K1 hK1
  gi_wp2
  exact hK1
 case body =>
  rintro l1 q Wc hq ⟨hk, cF, cL⟩ hz
  have cB := (hk.cel c0 (by omega)).cell 0 rfl
  have L := hide (pspared_c k s q gk gs Wc (hk.cel ck (by omega)) (hk.cel cs (by omega)) (by omega) hs)
  have hr := Pn.row_le k (n := s) (m := q) (by omega) (by omega)
  have l0 := cL.cell 0 rfl
  have f0 := cF.cell 0 rfl
  have ff := cF.frozen 0
  have HF := hide cF
  have HL := hide cL
  have HK := hide hk
  clear G hk cF cL c0 c1 c2 cU ck cs
  by_cases hc : -(Pn.row k s q : Nat) < lw k s q
  ·obtain ⟨e1, e2⟩ := lw_new hc
   have HX : Hid (Kept (fun b => b ≠ w.heap.size + 1 ∧ b ≠ w.heap.size + 1 + 1) Wc ((Wc.setCell ⟨w.heap.size + 1, 0, none⟩ (.int .i64 (q : Nat))).setCell ⟨w.heap.size + 1 + 1, 0, none⟩ (.int .i64 (-(Pn.row k s q : Nat))))) := ((Kept.refl _ _).setCell (fun h => h.1 rfl) _).setCell (fun h => h.2 rfl) _
   have HF2 : Hid (Cel ((Wc.setCell ⟨w.heap.size + 1, 0, none⟩ (.int .i64 (q : Nat))).setCell ⟨w.heap.size + 1 + 1, 0, none⟩ (.int .i64 (-(Pn.row k s q : Nat)))) (w.heap.size + 1) [.int .i64 (Pn.wsA k s (q + 1) : Nat)] 3) := by
    show Cel _ _ _ _
    rw [e1]
    exact (HF.out.set 0 (.int .i64 (q : Nat))).other (by show w.heap.size + 1 ≠ w.heap.size + 1 + 1; omega) _
   have l1 := (HL.out.other (a := ⟨w.heap.size + 1, 0, none⟩) (by show w.heap.size + 1 + 1 ≠ w.heap.size + 1; omega) (.int .i64 (q : Nat)))
   have HL2 : Hid (Cel ((Wc.setCell ⟨w.heap.size + 1, 0, none⟩ (.int .i64 (q : Nat))).setCell ⟨w.heap.size + 1 + 1, 0, none⟩ (.int .i64 (-(Pn.row k s q : Nat)))) (w.heap.size + 1 + 1) [.int .i64 (lw k s (q + 1))] 3) := by
    show Cel _ _ _ _
    rw [e2]
    exact l1.set 0 _
   have l2 := l1.cell 0 rfl
   have l3 := l1.frozen 0
   clear l1 e1 e2 HF HL
   generalize Pn.row k s q = y at *
   gi_wp2_with fail
   refine ⟨trivial, rfl, ?_⟩
   refine (CallsIn.inRound l1 (callsIn_wide.2 L.out)).mono ?_
   rintro e w2 ⟨rfl, rfl⟩
   gi_wp2
   exact ⟨HX.out, HK.out.trans HX.out, HF2.out, HL2.out⟩
  ·obtain ⟨e1, e2⟩ := lw_old (by omega) hc
   have HF2 : Hid (Cel Wc (w.heap.size + 1) [.int .i64 (Pn.wsA k s (q + 1) : Nat)] 3) := by show Cel _ _ _ _; rw [e1]; exact HF.out
   have HL2 : Hid (Cel Wc (w.heap.size + 1 + 1) [.int .i64 (lw k s (q + 1))] 3) := by show Cel _ _ _ _; rw [e2]; exact HL.out
   clear HF HL e1 e2
   generalize Pn.row k s q = y at *
   gi_wp2_with fail
   refine ⟨trivial, rfl, ?_⟩
   refine (CallsIn.inRound l1 (callsIn_wide.2 L.out)).mono ?_
   rintro e w2 ⟨rfl, rfl⟩
   gi_wp2
   exact ⟨Kept.refl _ _, HK.out, HF2.out, HL2.out⟩
 case done =>
  rintro D Wc hD ⟨hk, cF, cL⟩ hd
  have r0 := cF.cell 0 rfl
  have hB := hide (b1.trans ((hk.below (B := w.heap.size) (fun x h => by omega) (by omega))))
  have hd2 := hide hd
  clear G hk cF cL c0 c1 c2 cU ck cs hd
  go_wp2
  exact marks_end hd2.out (v := .int .i64 (Pn.wsA k s (s + 1) : Nat)) (by simp [results, Tryz.results115, go_sem]) ⟨rfl, hB.out.trans (below_putObj (by omega) _)⟩
 case stop =>
  rintro D q Wc hD hq h hd
  exact h.elim
end Go.Proofs.YtcaalcjcpddhaaaGreat.Zz
namespace Go.Proofs.YtcaalcjcpddhaaaGreat.Zz
open Go Go.RowKit
theorem range_lawA {P : Program} {g : Operand} {ps : Array Tmp} {assign body : Code} {Q : Exit → Act → World → Prop} {a : Act} {w : World} {gf : Nat} {lb : Array Value} {N : Nat} {enc : Nat → Array Value} {K : Nat → Prop}
  (hg : a.eval g = .func (.func gf) #[] lb) (eg : ∀ args w, (callFunc gf args).run P w = .ok (.enter gf args) w) (hps : ∀ q, (enc q).size = ps.size)
  (hseq : Goes P gf lb N enc (fun b => K b ∧ b ≠ w.heap.size + 1) w) (hK : ∀ b, w.heap.size ≤ b → K b)
  (I Ix : Nat → World → Prop) (hI : ∀ q W1 W2, I q W1 → Below w.heap.size W1 W2 → I q W2) (hIx : ∀ q W1 W2, Ix q W1 → Below w.heap.size W1 W2 → Ix q W2) (h0 : I 0 w) (A : Nat → Act → World → Prop) (hA : ∀ q a1 W1 o, A q a1 W1 → A q a1 (W1.putObj (w.heap.size + 1) o))
  (hassign : ∀ (l q : Nat) (W : World) (K : Act → World → Prop), w.heap.size + 2 ≤ W.heap.size → (∀ a1 W', Below W.heap.size W W' → A q a1 W' → K a1 W') → assign.wpIn (Fence.wide.inRound l) 0 P (Exit.then K fun _ _ _ => False) { tmps := (ps.zip (enc q)).foldl (fun t (p, v) => t.setIfInBounds p v) a.tmps, defers := [] } W)
  (hbody : ∀ (l q : Nat) (a1 : Act) (W : World), q < N → I q W → A q a1 W → w.heap.size + 2 ≤ W.heap.size → body.wpIn (Fence.wide.inRound l) 0 P (roundEnd K I Ix q W) a1 W)
  (hdone : ∀ (D : Nat) (W : World), w.heap.size ≤ D → I N W → W.heap[D]? = some (.deferred (some [])) → Q .normal { a with defers := { target := .collected D, args := #[] } :: a.defers } W)
  (hstop : ∀ (D q : Nat) (W : World), w.heap.size ≤ D → q < N → Ix q W → W.heap[D]? = some (.deferred (some [])) → Q .ret { a with defers := { target := .collected D, args := #[] } :: a.defers } W) :
  (Code.rangeFunc g ps assign body).wp P Q a w := by
 refine (wpIn_wide (n := 0)).1 (wpIn_rangeFunc fun fn _ => ?_)
 let rc : LoopState → Option Code → Loop := fun st pe => { state := st, pending := pe, fn, tmps := a.tmps, params := ps, assign, body, defers := w.heap.size }
 let W1 := (w.alloc (.deferred (some []))).alloc (.loop (rc .ready none))
 have z1 : W1.heap.size = w.heap.size + 2 := by simp [W1]
 have hL1 : W1.heap[w.heap.size + 1]? = some (.loop (rc .ready none)) := by
  have := World.alloc_heap_new (w.alloc (.deferred (some []))) (.loop (rc .ready none))
  rwa [World.size_alloc] at this
 have hD1 : W1.heap[w.heap.size]? = some (.deferred (some [])) := (Below.heap_alloc _ _ _ (by simp)).trans (World.alloc_heap_new w _)
 have b1 : Below w.heap.size w W1 := ((Below.refl _ w).alloc (Nat.le_refl _) _).alloc (by simp) _
 refine ⟨w.heap.size + 1, [{ target := .collected w.heap.size, args := #[] }], W1, { target := .fn (.func gf) lb, args := #[.func (.yield (w.heap.size + 1)) #[] #[]] }, W1, gf, #[.func (.yield (w.heap.size + 1)) #[] #[]] ++ lb, W1, run_enterLoop_outer _ _ _ _ _, ?_, fun _ _ => trivial, ?_, fun h => by simp [Fence.wide] at h, ?_⟩
 ·simp only [resolve, hg]
  simp [go_sem]
 ·simp [invoke, go_sem, eg]
 refine callsIn_wide.2 ((hseq (w.heap.size + 1) (fun q W => I q W ∧ W.heap[w.heap.size + 1]? = some (.loop (rc .ready none)) ∧ W.heap[w.heap.size]? = some (.deferred (some []))) (fun q W => Ix q W ∧ W.heap[w.heap.size + 1]? = some (.loop (rc .done (some .ret))) ∧ W.heap[w.heap.size]? = some (.deferred (some []))) W1 b1 ?_ ?_ ?_ ?_ ⟨hI _ _ _ h0 b1, hL1, hD1⟩).mono ?_)
 ·exact fun b hb => ⟨hK b (by omega), by omega⟩
 ·exact fun q A B h hb => ⟨hI q A B h.1 (hb.mono (by omega)), (hb.block _ (by omega)).trans h.2.1, (hb.block _ (by omega)).trans h.2.2⟩
 ·exact fun q A B h hb => ⟨hIx q A B h.1 (hb.mono (by omega)), (hb.block _ (by omega)).trans h.2.1, (hb.block _ (by omega)).trans h.2.2⟩
 ·rintro q W hq ⟨hi, hl, hd⟩ hz
  have hlt : w.heap.size + 1 < W.heap.size := by omega
  refine ⟨fn, _, assign, body, run_yield (P := P) (args := enc q) hl (hps q), roundIn_of_wpIn trivial (hassign _ q W _ (by omega) fun a1 W' hbW haW => ⟨_, run_beginRound ((hbW.block _ hlt).trans hl) rfl, ?_⟩)⟩
  let Wb := W'.putObj (w.heap.size + 1) (.loop { rc .ready none with state := .busy })
  have zW := hbW.size
  have zb : Wb.heap.size = W'.heap.size := by simp [Wb]
  have bb : Below w.heap.size W Wb := (hbW.mono (by omega)).trans (below_putObj (by omega) _)
  have hlb : Wb.heap[w.heap.size + 1]? = some (.loop { rc .ready none with state := .busy }) := World.putObj_heap_same (by omega)
  have hdb : Wb.heap[w.heap.size]? = some (.deferred (some [])) := (World.putObj_heap_other (by omega)).trans ((hbW.block _ (by omega)).trans hd)
  have kb : Kept (fun b => K b ∧ b ≠ w.heap.size + 1) W Wb := (Kept.of hbW).putObj (fun h => h.2 rfl) _
  refine wpIn_mono (hbody _ q a1 Wb hq (hI q _ _ hi bb) (hA q a1 W' _ haW) (by omega)) ?_
  have fin : ∀ (j : Option Code) (W3 : World), Kept K Wb W3 → (Instr.endRound (w.heap.size + 1) j).run P W3 = .ok (.bool j.isNone) (W3.putObj (w.heap.size + 1) (.loop (rc (if j.isNone then .ready else .done) j))) ∧ Kept (fun b => K b ∧ b ≠ w.heap.size + 1) W (W3.putObj (w.heap.size + 1) (.loop (rc (if j.isNone then .ready else .done) j))) ∧ Below w.heap.size W3 (W3.putObj (w.heap.size + 1) (.loop (rc (if j.isNone then .ready else .done) j))) ∧ (W3.putObj (w.heap.size + 1) (.loop (rc (if j.isNone then .ready else .done) j))).heap[w.heap.size + 1]? = some (.loop (rc (if j.isNone then .ready else .done) j)) ∧ (W3.putObj (w.heap.size + 1) (.loop (rc (if j.isNone then .ready else .done) j))).heap[w.heap.size]? = some (.deferred (some [])) := fun j W3 hk => by
   have h3 := (hk.same _ (hK _ (by omega)) (by omega)).trans hlb
   have hd3 := (hk.same _ (hK _ (by omega)) (by omega)).trans hdb
   refine ⟨run_endRound (P := P) j h3, ?_, below_putObj (by omega) _, World.putObj_heap_same ?_, (World.putObj_heap_other (by omega)).trans hd3⟩
   ·exact (kb.trans (hk.less fun _ h => h.1)).putObj (fun h => h.2 rfl) _
   ·have := hk.size
    omega
  intro e a3 W3 hp
  match e, hp with
  | .normal, hp =>
   obtain ⟨f1, f2, f3, f4, f5⟩ := fin none W3 hp.1
   exact ⟨_, _, f1, f2, .inl ⟨rfl, hI _ _ _ hp.2 f3, f4, f5⟩⟩
  | .ret, hp =>
   obtain ⟨f1, f2, f3, f4, f5⟩ := fin (some .ret) W3 hp.1
   exact ⟨_, _, f1, f2, .inr ⟨rfl, hIx _ _ _ hp.2 f3, f4, f5⟩⟩
 ·rintro e W2 ⟨⟨v, rfl⟩, ⟨hi, hl, hd⟩ | ⟨q, hq, hi, hl, hd⟩⟩
  ·exact ⟨none, _, run_endLoop (P := P) hl (by simp [rc]), hdone _ _ (Nat.le_refl _) (hI _ _ _ hi (below_putObj (by omega) _)) ((World.putObj_heap_other (by omega)).trans hd)⟩
  ·exact ⟨some .ret, _, run_endLoop (P := P) hl (by simp [rc]), wpIn_ret (hstop _ q _ (Nat.le_refl _) hq (hIx _ _ _ hi (below_putObj (by omega) _)) ((World.putObj_heap_other (by omega)).trans hd))⟩
end Go.Proofs.YtcaalcjcpddhaaaGreat.Zz
