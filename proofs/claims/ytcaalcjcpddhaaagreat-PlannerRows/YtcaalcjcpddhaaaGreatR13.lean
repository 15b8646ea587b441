/-
  A region that draws its order, in a round of a range over a function, every function let in: taken as one line of operations (as Rg does outside of rounds). Nothing of the program is in here. A range over a function, every function let in: what an iterator promises (Goes), what a round keeps (Kept), and one law for the statement. Nothing of the program is in here. The contract of the program's ofOnes: what it makes tells the places of the bits that are 1. The contracts of the document's places and width of layer 9. The contract of the document's width of layer 9; rows of bools of the call's own. The contracts of the program's width, lowSize, highSize, ofBit and set. A struct out of a block of its own, whole, its cells not looked into: as a step of a list of operations (guarded or not), and of a region that draws its order. The contracts of the program's places: what it makes tells the places of a row by places.
-/
import Derived.OrdersHeld
import Derived.OrdersIn
import Derived.RangeFuncCalls
import Derived.Test.YtcaalcjcpddhaaaGreatR03
import Derived.RangeFuncIn
import Derived.RangeFuncRecord
import Derived.RangeFuncLeaves
import Derived.RangeFuncSeq
import Derived.Below
import Derived.Test.YtcaalcjcpddhaaaGreatR12
import Derived.Test.YtcaalcjcpddhaaaGreatR01
import Derived.Test.YtcaalcjcpddhaaaGreatR02
import Derived.Shelf.Abstract
import Derived.WalkKit
import Derived.OwnWalkIn
import Derived.TacticsInMore
import Derived.LoopNIn
import Derived.LoopIn
import Derived.Test.YtcaalcjcpddhaaaGreatR07
import Derived.Test.YtcaalcjcpddhaaaGreatR09
import Derived.Test.YtcaalcjcpddhaaaGreatR06
import Derived.Test.YtcaalcjcpddhaaaGreatR05
namespace Go.Proofs.YtcaalcjcpddhaaaGreat
open Go

section
variable {P : Program} {ops : Array Oper} {Q : Exit → Act → World → Prop} {md : Region.Mode} {S : World → Prop} {ns : List Nat} {F : Fence} {n : Nat}

end
end Go.Proofs.YtcaalcjcpddhaaaGreat

namespace Go.Proofs.YtcaalcjcpddhaaaGreat
open Go Go.RowKit

structure Kept (K : Nat → Prop) (W W' : World) : Prop where
 os : W'.os = W.os
 tape : W'.tape = W.tape
 output : W'.output = W.output
 size : W.heap.size ≤ W'.heap.size
 same : ∀ b, K b → b < W.heap.size → W'.heap[b]? = W.heap[b]?
theorem Kept.refl (K : Nat → Prop) (W : World) : Kept K W W := ⟨rfl, rfl, rfl, Nat.le_refl _, fun _ _ _ => rfl⟩
theorem Kept.trans {K : Nat → Prop} {a b c : World} (h : Kept K a b) (k : Kept K b c) : Kept K a c :=
 ⟨k.os.trans h.os, k.tape.trans h.tape, k.output.trans h.output, Nat.le_trans h.size k.size, fun x hx hl => (k.same x hx (Nat.lt_of_lt_of_le hl h.size)).trans (h.same x hx hl)⟩
theorem Kept.less {K K' : Nat → Prop} {a b : World} (h : Kept K a b) (hk : ∀ x, K' x → K x) : Kept K' a b := ⟨h.os, h.tape, h.output, h.size, fun x hx hl => h.same x (hk x hx) hl⟩
theorem Kept.of {K : Nat → Prop} {a b : World} (h : Below a.heap.size a b) : Kept K a b := ⟨h.os, h.tape, h.output, h.size, fun x _ hl => h.block x hl⟩
theorem Kept.setCell {K : Nat → Prop} {a b : World} (h : Kept K a b) {p : Addr} (hp : ¬ K p.block) (v : Value) : Kept K a (b.setCell p v) :=
 h.trans ⟨rfl, rfl, rfl, by simp [World.setCell], fun x hx _ => Below.heap_setCell _ _ _ _ (fun e => hp (e ▸ hx))⟩
theorem Kept.putObj {K : Nat → Prop} {a b : World} (h : Kept K a b) {r : Nat} (hp : ¬ K r) (o : Obj) : Kept K a (b.putObj r o) :=
 h.trans ⟨rfl, rfl, rfl, by simp, fun x hx _ => World.putObj_heap_other (fun e => hp (e ▸ hx))⟩
theorem below_putObj {B : Nat} {W : World} {r : Nat} (h : B ≤ r) (o : Obj) : Below B W (W.putObj r o) :=
 ⟨rfl, rfl, rfl, by simp, fun x hx => World.putObj_heap_other (by omega)⟩
theorem Kept.below {K : Nat → Prop} {B : Nat} {a b : World} (h : Kept K a b) (hB : ∀ x, x < B → K x) (hs : B ≤ a.heap.size) : Below B a b :=
 ⟨h.os, h.tape, h.output, h.size, fun x hx => h.same x (hB x hx) (by omega)⟩
def Goes (P : Program) (g : Nat) (lb : Array Value) (N : Nat) (enc : Nat → Array Value) (K : Nat → Prop) (w : World) : Prop :=
 ∀ (l : Nat) (J Jx : Nat → World → Prop) (W : World), Below w.heap.size w W → (∀ b, W.heap.size ≤ b → K b) →
  (∀ q W1 W2, J q W1 → Below W.heap.size W1 W2 → J q W2) → (∀ q W1 W2, Jx q W1 → Below W.heap.size W1 W2 → Jx q W2) →
  (∀ q W1, q < N → J q W1 → W.heap.size ≤ W1.heap.size → YieldAt Fence.wide 0 P l (enc q) W1 fun e W2 =>
   Kept K W1 W2 ∧ ((e = .returned (.bool true) ∧ J (q + 1) W2) ∨ (e = .returned (.bool false) ∧ Jx q W2))) →
  J 0 W →
  Calls P g (#[.func (.yield l) #[] #[]] ++ lb) W fun e W' => (∃ v, e = .returned v) ∧ (J N W' ∨ ∃ q, q < N ∧ Jx q W')
def roundEnd (K : Nat → Prop) (I Ix : Nat → World → Prop) (q : Nat) (W : World) : Exit → Act → World → Prop
 | .normal, _, W' => Kept K W W' ∧ I (q + 1) W'
 | .ret, _, W' => Kept K W W' ∧ Ix q W'
 | _, _, _ => False
theorem range_law {P : Program} {g : Operand} {ps : Array Tmp} {assign body : Code} {Q : Exit → Act → World → Prop} {a : Act} {w : World} {gf : Nat} {lb : Array Value} {N : Nat} {enc : Nat → Array Value} {K : Nat → Prop}
  (hg : a.eval g = .func (.func gf) #[] lb) (eg : ∀ args w, (callFunc gf args).run P w = .ok (.enter gf args) w) (hps : ∀ q, (enc q).size = ps.size)
  (hseq : Goes P gf lb N enc (fun b => K b ∧ b ≠ w.heap.size + 1) w) (hK : ∀ b, w.heap.size ≤ b → K b)
  (I Ix : Nat → World → Prop) (hI : ∀ q W1 W2, I q W1 → Below w.heap.size W1 W2 → I q W2) (hIx : ∀ q W1 W2, Ix q W1 → Below w.heap.size W1 W2 → Ix q W2) (h0 : I 0 w) (a₁ : Nat → Act)
  (hassign : ∀ (l q : Nat) (W : World) (K : Act → World → Prop), K (a₁ q) W → assign.wpIn (Fence.wide.inRound l) 0 P (Exit.then K fun _ _ _ => False) { tmps := (ps.zip (enc q)).foldl (fun t (p, v) => t.setIfInBounds p v) a.tmps, defers := [] } W)
  (hbody : ∀ (l q : Nat) (W : World), q < N → I q W → w.heap.size + 2 ≤ W.heap.size → body.wpIn (Fence.wide.inRound l) 0 P (roundEnd K I Ix q W) (a₁ q) W)
  (hdone : ∀ (D : Nat) (W : World), w.heap.size ≤ D → I N W → W.heap[D]? = some (.deferred (some [])) → Q .normal { a with defers := { target := .collected D, args := #[] } :: a.defers } W)
  (hstop : ∀ (D q : Nat) (W : World), w.heap.size ≤ D → q < N → Ix q W → W.heap[D]? = some (.deferred (some [])) → Q .ret { a with defers := { target := .collected D, args := #[] } :: a.defers } W) :
  (Code.rangeFunc g ps assign body).wp P Q a w := by
 refine (wpIn_wide (n := 0)).1 (wpIn_rangeFunc fun fn _ => ?_)
 let rc : LoopState → Option Code → Loop := fun st pe => { state := st, pending := pe, fn, tmps := a.tmps, params := ps, assign, body, defers := w.heap.size }
 let W1 := (w.alloc (.deferred (some []))).alloc (.loop (rc .ready none))
 have z1 : W1.heap.size = w.heap.size + 2 := by simp [W1]
 have hL1 : W1.heap[w.heap.size + 1]? = some (.loop (rc .ready none)) := by
  have := World.alloc_heap_new (w.alloc (.deferred (some []))) (.loop (rc .ready none))
  rwa [World.size_alloc] at this
 have hD1 : W1.heap[w.heap.size]? = some (.deferred (some [])) := (Below.heap_alloc _ _ _ (by simp)).trans (World.alloc_heap_new w _)
 have b1 : Below w.heap.size w W1 := ((Below.refl _ w).alloc (Nat.le_refl _) _).alloc (by simp) _
 refine ⟨w.heap.size + 1, [{ target := .collected w.heap.size, args := #[] }], W1, { target := .fn (.func gf) lb, args := #[.func (.yield (w.heap.size + 1)) #[] #[]] }, W1, gf, #[.func (.yield (w.heap.size + 1)) #[] #[]] ++ lb, W1, run_enterLoop_outer _ _ _ _ _, ?_, fun _ _ => trivial, ?_, fun h => by simp [Fence.wide] at h, ?_⟩
 ·simp only [resolve, hg]
  simp [go_sem]
 ·simp [invoke, go_sem, eg]
 refine callsIn_wide.2 ((hseq (w.heap.size + 1) (fun q W => I q W ∧ W.heap[w.heap.size + 1]? = some (.loop (rc .ready none)) ∧ W.heap[w.heap.size]? = some (.deferred (some []))) (fun q W => Ix q W ∧ W.heap[w.heap.size + 1]? = some (.loop (rc .done (some .ret))) ∧ W.heap[w.heap.size]? = some (.deferred (some []))) W1 b1 ?_ ?_ ?_ ?_ ⟨hI _ _ _ h0 b1, hL1, hD1⟩).mono ?_)
 ·exact fun b hb => ⟨hK b (by omega), by omega⟩
 ·exact fun q A B h hb => ⟨hI q A B h.1 (hb.mono (by omega)), (hb.block _ (by omega)).trans h.2.1, (hb.block _ (by omega)).trans h.2.2⟩
 ·exact fun q A B h hb => ⟨hIx q A B h.1 (hb.mono (by omega)), (hb.block _ (by omega)).trans h.2.1, (hb.block _ (by omega)).trans h.2.2⟩
 ·rintro q W hq ⟨hi, hl, hd⟩ hz
  have hlt : w.heap.size + 1 < W.heap.size := by omega
  refine ⟨fn, _, assign, body, run_yield (P := P) (args := enc q) hl (hps q), roundIn_of_wpIn trivial (hassign _ q W _ ⟨_, run_beginRound hl rfl, ?_⟩)⟩
  let Wb := W.putObj (w.heap.size + 1) (.loop { rc .ready none with state := .busy })
  have zb : Wb.heap.size = W.heap.size := by simp [Wb]
  have bb : Below w.heap.size W Wb := below_putObj (by omega) _
  have hlb : Wb.heap[w.heap.size + 1]? = some (.loop { rc .ready none with state := .busy }) := World.putObj_heap_same hlt
  have hdb : Wb.heap[w.heap.size]? = some (.deferred (some [])) := (World.putObj_heap_other (by omega)).trans hd
  have kb : Kept (fun b => K b ∧ b ≠ w.heap.size + 1) W Wb := (Kept.refl _ W).putObj (fun h => h.2 rfl) _
  refine wpIn_mono (hbody _ q Wb hq (hI q _ _ hi bb) (by omega)) ?_
  have fin : ∀ (j : Option Code) (W3 : World), Kept K Wb W3 → (Instr.endRound (w.heap.size + 1) j).run P W3 = .ok (.bool j.isNone) (W3.putObj (w.heap.size + 1) (.loop (rc (if j.isNone then .ready else .done) j))) ∧ Kept (fun b => K b ∧ b ≠ w.heap.size + 1) W (W3.putObj (w.heap.size + 1) (.loop (rc (if j.isNone then .ready else .done) j))) ∧ Below w.heap.size W3 (W3.putObj (w.heap.size + 1) (.loop (rc (if j.isNone then .ready else .done) j))) ∧ (W3.putObj (w.heap.size + 1) (.loop (rc (if j.isNone then .ready else .done) j))).heap[w.heap.size + 1]? = some (.loop (rc (if j.isNone then .ready else .done) j)) ∧ (W3.putObj (w.heap.size + 1) (.loop (rc (if j.isNone then .ready else .done) j))).heap[w.heap.size]? = some (.deferred (some [])) := fun j W3 hk => by
   have h3 := (hk.same _ (hK _ (by omega)) (by omega)).trans hlb
   have hd3 := (hk.same _ (hK _ (by omega)) (by omega)).trans hdb
   refine ⟨run_endRound (P := P) j h3, ?_, below_putObj (by omega) _, World.putObj_heap_same ?_, (World.putObj_heap_other (by omega)).trans hd3⟩
   ·exact (kb.trans (hk.less fun _ h => h.1)).putObj (fun h => h.2 rfl) _
   ·have := hk.size
    omega
  intro e a3 W3 hp
  match e, hp with
  | .normal, hp =>
   obtain ⟨f1, f2, f3, f4, f5⟩ := fin none W3 hp.1
   exact ⟨_, _, f1, f2, .inl ⟨rfl, hI _ _ _ hp.2 f3, f4, f5⟩⟩
  | .ret, hp =>
   obtain ⟨f1, f2, f3, f4, f5⟩ := fin (some .ret) W3 hp.1
   exact ⟨_, _, f1, f2, .inr ⟨rfl, hIx _ _ _ hp.2 f3, f4, f5⟩⟩
 ·rintro e W2 ⟨⟨v, rfl⟩, ⟨hi, hl, hd⟩ | ⟨q, hq, hi, hl, hd⟩⟩
  ·exact ⟨none, _, run_endLoop (P := P) hl (by simp [rc]), hdone _ _ (Nat.le_refl _) (hI _ _ _ hi (below_putObj (by omega) _)) ((World.putObj_heap_other (by omega)).trans hd)⟩
  ·exact ⟨some .ret, _, run_endLoop (P := P) hl (by simp [rc]), wpIn_ret (hstop _ q _ (Nat.le_refl _) hq (hIx _ _ _ hi (below_putObj (by omega) _)) ((World.putObj_heap_other (by omega)).trans hd))⟩
theorem marks_end {P : Program} {fn : Func} {R : Ending → World → Prop} {tmps : Array Value} {D : Nat} {W : World} {v : Value} (hD : W.heap[D]? = some (.deferred (some [])))
  (hr : (results fn tmps).run P (W.putObj D (.deferred none)) = .ok v (W.putObj D (.deferred none))) (h : R (.returned v) (W.putObj D (.deferred none))) :
  bodyPostM Fence.wide 0 P fn R .normal { tmps := tmps, defers := [{ target := .collected D, args := #[] }] } W :=
 ⟨by simp, .inl ⟨_, _, rfl, run_takeDeferred hD, v, hr, h⟩⟩
end Go.Proofs.YtcaalcjcpddhaaaGreat

namespace Go.Proofs.YtcaalcjcpddhaaaGreat
open Go.RowKit Go.Shelf Num Bit
set_option linter.unusedVariables false
set_option linter.unusedSimpArgs false
set_option maxRecDepth 100000
attribute [local go_sem] Oper.semAt_some

theorem Kept.cel {K : Nat → Prop} {W W' : World} {b : Nat} {cs : List Value} {T : TypeId} (h : Kept K W W') (hc : Cel W b cs T) (hK : K b) : Cel W' b cs T := (h.same b hK hc.lt).trans hc
end Go.Proofs.YtcaalcjcpddhaaaGreat

namespace Go.Proofs.YtcaalcjcpddhaaaGreat
open Go.RowKit Num Bit
set_option linter.unusedVariables false
set_option linter.unusedSimpArgs false
set_option maxRecDepth 100000

theorem info3_9 : (Tryz.prog.info? 3).map (fun i => (i.zero, i.size, i.bytes)) = some (some (.int .i64 0), 1, 8) := by kernel_rfl
def lz (l : List Nat) : List Int := l.map fun n : Nat => (n : Int)
def lv (l : List Nat) : List Value := l.map fun n : Nat => Value.int .i64 (n : Int)
theorem length_lz (l : List Nat) : (lz l).length = l.length := by simp [lz]
theorem length_lv (l : List Nat) : (lv l).length = l.length := by simp [lv]
theorem gi_lz (l : List Nat) (i : Nat) : gi (lz l) i = (gt l i : Int) := by
 unfold gi lz gt
 rw [List.getD_eq_getElem?_getD, List.getD_eq_getElem?_getD, List.getElem?_map]
 cases l[i]? <;> rfl
theorem lv_snoc (l : List Nat) (v : Nat) : lv l ++ [.int .i64 (v : Int)] = lv (l ++ [v]) := by simp [lv]
theorem nd_own9 {w : World} {base n c : Nat} {ao : Option Addr} {l : List Nat} (h : w.ownsRow base 3 1 (.slice ao n c) n (lv l)) : Nd w ao (lz l) := by
 intro h0
 rw [length_lz] at h0
 have hlen : (lv l).length = n * 1 := h.1
 rw [length_lv] at hlen
 have hk := fun k hk => h.lt k hk
 have hc := fun g hg => h.cells (g := g) hg
 obtain ⟨_, ⟨e, e2⟩ | ⟨g, cap, cur, e, _⟩⟩ := h
 ·omega
 ·simp only [Value.slice.injEq] at e
  obtain ⟨rfl, _, rfl⟩ := e
  refine ⟨g, 0, rfl, (hk g rfl).2, fun i hi => ?_⟩
  rw [length_lz] at hi
  have hu : (lv l)[i]? = some (.int .i64 (gi (lz l) i)) := by
   rw [gi_lz]
   unfold lv gt
   rw [List.getElem?_map, List.getD_eq_getElem?_getD, List.getElem?_eq_getElem hi]
   rfl
  rw [← hc g rfl i _ hu]
  unfold Addr.add
  split
  ·subst_vars; rfl
  ·simp
theorem Hid.mk9 {p : Prop} (h : p) : Hid p := h
set_option maxHeartbeats 2000000 in
theorem places_c (m : Nat) (ao : Option Addr) (xs : List Nat) (cap : Nat) (w : World) (hx : Wd w ao xs) (hk : chk (m : Int) xs = true) :
  Calls Tryz.prog 39 #[.agg #[.int .i64 m, .slice ao xs.length cap]] w fun e w' => ∃ v, e = .returned v ∧ w'.ownsRow (w.heap.size + 1) 3 1 v (plc (bitAt xs) m).length (lv (plc (bitAt xs) m)) ∧ Below w.heap.size w w' := by
 obtain ⟨h0, h1, h2, -⟩ := chk_out (m : Int) xs hk
 have HL : Hid (∀ j, j < m → j / 64 < xs.length) := fun j hj => by omega
 obtain ⟨i3, hi3, za3, zb3, zc3⟩ := info_parts info3_9
 have hm : m ≤ 1048576 := by omega
 clear h2
 obtain ⟨W, hW⟩ : ∃ W, W = w.alloc (.cells #[.int .i64 m, .slice ao xs.length cap] 24) := ⟨_, rfl⟩
 have bW : Below w.heap.size w W := by rw [hW]; exact below_alloc w _
 have B1 : Cel W w.heap.size [.int .i64 m, .slice ao xs.length cap] 24 := by rw [hW]; exact Cel.new w _ _
 go_enter Tryz.func39, Tryz.ntmps39
 go_wp2
 rw [← hW]
 clear hW
 go_loopw [3, 4] (fun v i wr => ∃ q : Nat, q ≤ m ∧ i = .int .i64 q ∧ wr.ownsRow (w.heap.size + 1) 3 1 v (plc (bitAt xs) q).length (lv (plc (bitAt xs) q)) ∧ Cel wr w.heap.size [.int .i64 m, .slice ao xs.length cap] 24 ∧ Below w.heap.size w wr) (fun _ i _ => m - (intOf i).toNat)
 case atStart => exact ⟨0, Nat.zero_le _, rfl, World.ownsRow_nil _ _ _ _, B1, bW⟩
 case round =>
  obtain ⟨q, hq, rfl, hown, hC, hwr⟩ := hrel
  clear B1 bW
  have r0 := hC.cell 0 rfl
  have r1 := hC.cell 1 rfl
  obtain ⟨vo, vc, rfl, hvc, -⟩ := Ap.owns_shape hown
  have ple := plc_le (bitAt xs) q
  by_cases hlt : q < m
  ·have hlt2 : (q : Int) < (m : Int) := by omega
   have C2 : Hid (∀ w0, Below w.heap.size w w0 → Calls Tryz.prog 22 #[.agg #[.int .i64 m, .slice ao xs.length cap], .int .i64 q] w0 fun e w' => e = .returned (.bool (bitAt xs q)) ∧ Below w0.heap.size w0 w') := fun w0 h => at_c m ao xs cap q w0 (hx.keep h) (HL.out _ hlt) (by omega)
   go_wp2_with fail
   refine (C2.out _ hwr).mono ?_
   rintro e w2 ⟨rfl, hb2⟩
   have hw2 := hwr.trans (hb2.mono hwr.size)
   have hC2 := hC.kept hb2
   have own2 := Ap.owns_below hown hb2
   clear hb2 r0 r1 C2 hC hown hwr
   cases hbit : bitAt xs q with
   | true =>
    have HP : Hid (plc (bitAt xs) (q + 1) = plc (bitAt xs) q ++ [q]) := by show _ = _; rw [plc_succ, hbit]; rfl
    have bA := below_alloc w2 (.cells #[.int .i64 (q : Int)] 3)
    have own3 := Ap.owns_below own2 bA
    have src3 : (w2.alloc (.cells #[.int .i64 (q : Int)] 3)).cell? ⟨w2.heap.size, 0, none⟩ = some (.int .i64 (q : Int)) := (Cel.new w2 [.int .i64 (q : Int)] 3).cell 0 rfl
    have hw3 := hw2.trans (bA.mono hw2.size)
    have hC3 := hC2.kept bA
    have g3 : w.heap.size + 1 ≤ (w2.alloc (.cells #[.int .i64 (q : Int)] 3)).heap.size := hC3.lt
    generalize plc (bitAt xs) q = l at *
    go_wp2_with (at_builtin; refine Ap.wpList_append_u rfl _ _ 26 rfl (w.heap.size + 1) 3 i3 (.int .i64 0) 8 Tryz.underlying26 hi3 za3 zb3 zc3 rfl (.slice vo l.length vc) l.length (lv l) rfl own3 (some ⟨w2.heap.size, 0, none⟩) 1 1 [.int .i64 (q : Int)] rfl rfl ?d1 ?d2 ?d3 ?d4 ?d5 ?_)
    case d1 => exact fun _ => ⟨_, rfl, fun j u hj => by
     match j, hj with
     | 0, hj => simp at hj; subst hj; exact src3⟩
    case d2 => intro u hu; simp at hu; subst hu; rfl
    case d3 => unfold maxLen; omega
    case d4 => omega
    case d5 => exact g3
    intro so sc w4 own4 hle4 hB4
    rw [lv_snoc] at own4
    have HO : Hid (w4.ownsRow (w.heap.size + 1) 3 1 (.slice so (l.length + 1) sc) (plc (bitAt xs) (q + 1)).length (lv (plc (bitAt xs) (q + 1)))) := by
     show w4.ownsRow _ _ _ _ _ _
     rw [HP.out, List.length_append]
     exact own4
    have hC4 := hC3.keep hB4 (Nat.lt_succ_self _)
    have hw4 := hw3.trans (hB4.mono (Nat.le_succ _))
    clear own4 own3 own2 hB4 hC3 hC2 hw3 hw2 bA src3 g3 HP
    go_wp2
    exact ⟨⟨q + 1, by omega, by go_num, HO.out, hC4, hw4⟩, by simp only [intOf]; omega⟩
   | false =>
    have HP : plc (bitAt xs) (q + 1) = plc (bitAt xs) q := by rw [plc_succ, hbit]; simp
    have HO : Hid (w2.ownsRow (w.heap.size + 1) 3 1 (.slice vo (plc (bitAt xs) q).length vc) (plc (bitAt xs) (q + 1)).length (lv (plc (bitAt xs) (q + 1)))) := by
     show w2.ownsRow _ _ _ _ _ _
     rw [HP]
     exact own2
    clear own2 HP
    go_wp2
    exact ⟨⟨q + 1, by omega, by go_num, HO.out, hC2, hw2⟩, by simp only [intOf]; omega⟩
  ·obtain rfl : q = m := by omega
   have HO := Hid.mk9 (And.intro hown hwr)
   clear hown hC
   go_wp2
   go_ret
   exact ⟨_, rfl, HO.out.1, HO.out.2⟩
end Go.Proofs.YtcaalcjcpddhaaaGreat

namespace Go.Proofs.YtcaalcjcpddhaaaGreat
open Go.RowKit Num Bit
set_option linter.unusedVariables false
set_option linter.unusedSimpArgs false
set_option maxRecDepth 100000

theorem len_pos (x : Nat) (h0 : 0 < x) (h : x < 18446744073709551616) : 1 ≤ Go.bitLen x := by
 obtain ⟨p, hp, h1, _, _, _⟩ := long (x : Int) (by omega) (by omega) (by omega)
 unfold lenI at hp
 rw [Int.toNat_natCast] at hp
 omega
set_option maxHeartbeats 2000000 in
theorem f9width_c (n m : Nat) (hn : n ≤ 1048576) (hm : m ≤ n) (w : World) :
  Calls Tryz.prog 67 #[.int .i64 n, .int .i64 m] w fun e w' => e = .returned (.int .i64 (wdF n m)) ∧ Below w.heap.size w w' := by
 by_cases h0 : m = 0
 ·subst h0
  rw [show wdF n 0 = 0 from rfl]
  go_enter Tryz.func67, Tryz.ntmps67
  go_wp2
  go_ret
  exact ⟨rfl, Below.refl _ _⟩
 ·have m0 : ((m : Int) == 0) = false := by simp; omega
  have m1 : ¬ (m : Int) = 0 := by omega
  obtain ⟨d, hd⟩ : ∃ d, d = n / m := ⟨_, rfl⟩
  have d1 : 1 ≤ d := by rw [hd]; exact Nat.div_pos hm (by omega)
  have d2 : d ≤ 1048576 := by rw [hd]; exact Nat.le_trans (Nat.div_le_self n m) hn
  have e1 : (n : Int) / (m : Int) = (d : Int) := by rw [hd]; exact (Int.natCast_ediv n m).symm
  have e2 : (n : Int).tdiv (m : Int) = (d : Int) := by rw [Int.tdiv_eq_ediv_of_nonneg (by omega)]; exact e1
  obtain ⟨z, hz⟩ : ∃ z, Go.bitLen d = z + 1 := ⟨Go.bitLen d - 1, by have := len_pos d (by omega) (by omega); omega⟩
  have hw : wdF n m = z := by unfold wdF; rw [if_neg h0, ← hd, hz]; rfl
  have lz_ := len_le d 21 (by omega)
  rw [hw]
  have L : Hid (∀ w0, Calls Tryz.prog 63 #[.int .u64 d] w0 fun e w' => e = .returned (.int .i64 ((z : Int) + 1)) ∧ w' = w0) := fun w0 => by
   have := reflen_c (d : Int) (by omega) (by omega) w0
   unfold lenI at this
   rw [Int.toNat_natCast, hz] at this
   exact this
  rw [hz] at lz_
  clear hz hw hd
  go_enter Tryz.func67, Tryz.ntmps67
  go_wp2_with fail
  refine (L.out _).mono ?_
  rintro e w1 ⟨rfl, h1⟩
  rw [h1]
  clear h1 w1
  go_wp2
  go_ret
  exact ⟨rfl, Below.refl _ _⟩
def bvs (n : Nat) (f : Nat → Bool) : List Value := (List.range n).map fun j => .bool (f j)
def bls (n : Nat) (f : Nat → Bool) : List Bool := (List.range n).map f
theorem length_bvs (n : Nat) (f : Nat → Bool) : (bvs n f).length = n := by simp [bvs]
theorem bvs_get (n : Nat) (f : Nat → Bool) (i : Nat) (h : i < n) : (bvs n f)[i]? = some (.bool (f i)) := by
 unfold bvs
 rw [List.getElem?_map, List.getElem?_range h]
 rfl
theorem bvs_set (n : Nat) (f : Nat → Bool) (j : Nat) : (bvs n f).set j (.bool true) = bvs n (fun t => f t || j == t) := by
 refine List.ext_getElem? fun i => ?_
 rw [List.getElem?_set, length_bvs]
 by_cases c : i < n
 ·rw [bvs_get n _ i c, bvs_get n _ i c]
  by_cases d : j = i
  ·subst d; simp [c]
  ·rw [if_neg d]; simp [d]
 ·have e : ∀ g, (bvs n g)[i]? = none := fun g => List.getElem?_eq_none (by rw [length_bvs]; omega)
  rw [e, e]
  by_cases d : j = i
  ·subst d; simp [c]
  ·rw [if_neg d]
theorem bvs_congr (n : Nat) (f g : Nat → Bool) (h : ∀ i, i < n → f i = g i) : bvs n f = bvs n g := by
 unfold bvs
 exact List.map_congr_left fun i hi => by rw [h i (List.mem_range.1 hi)]
theorem bcel_made {w : World} {base g n : Nat} (h : w.ownsRow base 4 1 (.slice (some ⟨g, 0, none⟩) n n) n (madeCells #[.bool false] n).toList) : Cel w g (bvs n fun _ => false) 4 := by
 obtain ⟨_, h | ⟨g', cap, cur, e, _, hh, _, _, hs, ht⟩⟩ := h
 ·simp at h
 ·simp only [Value.slice.injEq, Option.some.injEq, Addr.mk.injEq] at e
  obtain ⟨⟨rfl, _, _⟩, _, rfl⟩ := e
  unfold Cel
  rw [hh]
  have e2 : (madeCells #[.bool false] n).toList = bvs n fun _ => false := by
   rw [toList_madeCells_one (.bool false) n]
   symm
   rw [List.eq_replicate_iff]
   refine ⟨length_bvs _ _, fun b hb => ?_⟩
   unfold bvs at hb
   rw [List.mem_map] at hb
   obtain ⟨_, _, rfl⟩ := hb
   rfl
  rw [e2] at ht
  have e3 : cur.toList.take (n * 1) = cur.toList := List.take_of_length_le (by simp; omega)
  rw [e3] at ht
  rw [← ht]
theorem bl_cel {w : World} {g n : Nat} {f : Nat → Bool} (h : Cel w g (bvs n f) 4) : Bl w (some ⟨g, 0, none⟩) (bls n f) := by
 intro h0
 have hl : (bls n f).length = n := by simp [bls]
 refine ⟨g, 0, rfl, h.lt, fun i hi => ?_⟩
 rw [hl] at hi
 have e : bt (bls n f) i = f i := by
  unfold bt bls
  rw [List.getD_eq_getElem?_getD, List.getElem?_map, List.getElem?_range hi]
  rfl
 rw [e, Nat.zero_add]
 exact h.cell i (bvs_get n f i hi)
end Go.Proofs.YtcaalcjcpddhaaaGreat

namespace Go.Proofs.YtcaalcjcpddhaaaGreat
open Go.RowKit Num Bit
set_option linter.unusedVariables false
set_option linter.unusedSimpArgs false
set_option maxRecDepth 100000

def loN (n m : Nat) : Nat := if wdF n m = 0 then 0 else m
end Go.Proofs.YtcaalcjcpddhaaaGreat

namespace Go.Proofs.YtcaalcjcpddhaaaGreat
open Go.RowKit
set_option linter.unusedVariables false

theorem load_obj {ops : Array Oper} {rest : List Oper} {d : Option Tmp} {ty T : TypeId} {ps : String} {af : Array Edge} {gd : Option (Nat × Bool)} {a : Act} {w : World} {Q : Exit → Act → World → Prop} {x : Operand}
  (g : Nat) (cs : List Value) {fs : Array Field} (hwn : Region.wanted (⟨d, .load T x, ty, ps, af, gd⟩ : Oper) (yielded ops a.tmps) = true) (hx : a.eval x = .pointer (some ⟨g, 0, none⟩)) (hc : Cel w g cs T) (hu : Tryz.prog.underlying T = some (.struct fs)) (hi : (Tryz.prog.info? T).map (·.size) = some cs.length)
  (h : wpList Tryz.prog ops Q rest (a.put d (.agg cs.toArray)) w) :
  wpList Tryz.prog ops Q (⟨d, .load T x, ty, ps, af, gd⟩ :: rest) a w :=
 wpList_step fun K hK => by
  rw [if_pos hwn]
  exact wp_load_row T x rfl g hx T cs.toArray (0, 0) _ hc hu rfl (by simpa using hi) (hK _ _ h)
theorem run_load_obj {T : TypeId} {w : World} {x : Operand} {ρ : Operand → Value} {d : Option Tmp} {ty : TypeId} {ps : String} {af : Array Edge} {gd : Option (Nat × Bool)}
  (g : Nat) (cs : List Value) {fs : Array Field} (hx : ρ x = .pointer (some ⟨g, 0, none⟩)) (hc : Cel w g cs T) (hu : Tryz.prog.underlying T = some (.struct fs)) (hi : (Tryz.prog.info? T).map (·.size) = some cs.length) :
  (execOp ρ (⟨d, .load T x, ty, ps, af, gd⟩ : Oper)).run Tryz.prog w = .ok (.value (.agg cs.toArray)) w := by
 have hl := run_loadVar_row (P := Tryz.prog) w g T T cs.toArray (0, 0) _ hc hu rfl (by simpa using hi)
 unfold execOp
 simp only [hx, Instr.loadAt, Instr.sureAddr, Sem.run_bind, Sem.run_pure, Result.andThen_ok, hl]
end Go.Proofs.YtcaalcjcpddhaaaGreat

namespace Go.Proofs.YtcaalcjcpddhaaaGreat
open Go.RowKit Go.Shelf Num Bit
set_option linter.unusedVariables false
set_option linter.unusedSimpArgs false
set_option maxRecDepth 100000
attribute [local go_sem] Oper.semAt_some

def plq (n mm : Nat) (xs : List Nat) (hh : Nat) (ys : List Nat) (q : Nat) : Nat := (gt (plc (bitAt ys) hh) q - q) * 2 ^ wdF n mm + numAt (wdF n mm) xs q
structure Fits (n mm kn vn : Nat) (LM : Int) (xs : List Nat) (hh : Nat) (ys : List Nat) : Prop where
 hn : n ≤ 1048576
 hm : mm ≤ n
 ik : ichk (kn : Int) (vn : Int) LM xs = true
 ck : chk (hh : Int) ys = true
 on : (plc (bitAt ys) hh).length = mm
 hv : vn = max (wdF n mm) 1
 hk : kn = loN n mm
 hh : hh = mm + n / 2 ^ wdF n mm + 1
theorem fpl_plq {n mm kn vn : Nat} {LM : Int} {xs : List Nat} {hh : Nat} {ys : List Nat} (h : Fits n mm kn vn LM xs hh ys) (q : Nat) (hq : q < mm) : fpl (wdF n mm) ((List.range kn).map (numAt vn xs)) (plc (bitAt ys) hh) q = plq n mm xs hh ys q := by
 unfold fpl plq
 congr 1
 by_cases c : wdF n mm = 0
 ·rw [if_pos c, c]
  rfl
 ·have e1 : vn = wdF n mm := by rw [h.hv]; omega
  have e2 : kn = mm := by rw [h.hk]; unfold loN; rw [if_neg c]
  rw [if_neg c, e1, e2]
  have e3 : gt ((List.range mm).map (numAt (wdF n mm) xs)) q = numAt (wdF n mm) xs q := by
   unfold gt
   rw [List.getD_eq_getElem?_getD, List.getElem?_map, List.getElem?_range hq]
   rfl
  rw [e3]
  exact Nat.mod_eq_of_lt (numOf_lt _ _)
theorem Kept.more {K : Nat → Prop} {D : Nat} {a b c : World} (h : Kept K a b) (hb : Below D b c) (hD : a.heap.size ≤ D) : Kept K a c :=
 ⟨hb.os.trans h.os, hb.tape.trans h.tape, hb.output.trans h.output, Nat.le_trans h.size hb.size, fun x hx hl => (hb.block x (by omega)).trans (h.same x hx hl)⟩
end Go.Proofs.YtcaalcjcpddhaaaGreat
