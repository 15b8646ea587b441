/-
  The landed upTo: what it promises. The landed least, of numbers; worst. A range over a function whose variable is a struct (each round makes it anew). The contracts of the landed sum and with.
-/
import Derived.Test.YtcaalcjcpddhaaaGreatR29
import Derived.Test.YtcaalcjcpddhaaaGreatR31
import Derived.Shelf.Abstract
import Derived.WalkKit
import Derived.OwnWalkIn
import Derived.TacticsInMore
import Derived.LoopNIn
import Derived.LoopIn
namespace Go.Proofs.YtcaalcjcpddhaaaGreat.Zz
open Go.RowKit Go.Shelf Num
set_option linter.unusedVariables false
set_option linter.unusedSimpArgs false
set_option maxRecDepth 100000
attribute [local go_sem] Oper.semAt_some

theorem Kept.cel {K : Nat → Prop} {W W' : World} {b : Nat} {cs : List Value} {T : TypeId} (h : Kept K W W') (hc : Cel W b cs T) (hK : K b) : Cel W' b cs T := (h.same b hK hc.lt).trans hc
theorem Kept.more {K : Nat → Prop} {D : Nat} {a b c : World} (h : Kept K a b) (hb : Below D b c) (hD : a.heap.size ≤ D) : Kept K a c :=
 ⟨hb.os.trans h.os, hb.tape.trans h.tape, hb.output.trans h.output, Nat.le_trans h.size hb.size, fun x hx hl => (hb.block x (by omega)).trans (h.same x hx hl)⟩
theorem Cel.at {w : World} {b b' : Nat} {cs : List Value} {T : TypeId} (h : Cel w b cs T) (e : b = b') : Cel w b' cs T := e ▸ h
theorem Cel.put {w : World} {b D : Nat} {cs : List Value} {T : TypeId} (h : Cel w b cs T) (o : Obj) (e : b ≠ D) : Cel (w.putObj D o) b cs T := (World.putObj_heap_other e).trans h
set_option maxHeartbeats 4000000 in
theorem upTo1_goes (g n : Nat) (hn : n ≤ 8192) (K : Nat → Prop) (w : World) (hc : Cel w g [.int .i64 (n : Nat)] 3) (hK : K g) :
  Goes Tryz.prog 118 #[.pointer (some ⟨g, 0, none⟩)] (n + 1) (fun q => #[.int .i64 (q : Nat)]) K w := by
 intro l J Jx W hW hKW hJ hJx hY h0
 refine (callsIn_wide (n := 0)).1 (callsIn_of_wp Tryz.func118 rfl trivial ?_)
 simp only [Tryz.ntmps118, List.size_toArray, List.length_cons, List.length_nil, Nat.reduceAdd, Nat.reduceSub, Array.replicate_succ, Array.replicate_zero, List.push_toArray, List.append_toArray, List.nil_append, List.cons_append]
 replace hc := hide (hc.kept hW)
 gi_wp2
 gi_loopw [3] (fun iv wr => ∃ q : Nat, q ≤ n + 1 ∧ iv = .int .i64 (q : Nat) ∧ Hid (J q wr) ∧ Hid (Cel wr g [.int .i64 (n : Nat)] 3) ∧ W.heap.size ≤ wr.heap.size) (fun k _ => n + 1 - (intOf k).toNat)
 case atStart => exact ⟨0, Nat.zero_le _, rfl, h0, hc, Nat.le_refl _⟩
 case round =>
  clear hc
  obtain ⟨q, hq, rfl, HJ, HC, hz⟩ := hrel
  have c0 := HC.out.cell 0 rfl
  by_cases hle : q ≤ n
  ·have hlez : (q : Int) ≤ (n : Int) := by omega
   have Y := hY q wr (by omega) HJ.out hz
   obtain ⟨fn, tmps, assign, body, hy, hR⟩ := Y
   have HLT : Hid (q < n + 1) := by show _ < _; omega
   gi_wp2
   refine ⟨rfl, hR.mono ?_⟩
   rintro e W3 ⟨hkp, ⟨rfl, hJ3⟩ | ⟨rfl, hJx3⟩⟩
   ·have HJ3 : Hid (J (q + 1) W3) := hJ3
    have HC3 := hide (hkp.cel HC.out hK)
    have hz3 := Nat.le_trans hz hkp.size
    clear hJ3 hkp HJ HC hY hJ hJx c0
    gi_wp2
    exact ⟨⟨q + 1, by omega, by go_num, HJ3, HC3, hz3⟩, by simp only [intOf]; omega⟩
   ·have HF : Hid (∃ q, q < n + 1 ∧ Jx q W3) := ⟨q, HLT.out, hJx3⟩
    clear hJx3 hkp HJ HC hY hJ hJx c0
    gi_wp2
    refine bodyPost_end (results_none rfl _ _ _) rfl ?_
    exact ⟨⟨_, rfl⟩, .inr HF.out⟩
  ·obtain rfl : q = n + 1 := by omega
   have hlez : ¬ ((n + 1 : Nat) : Int) ≤ (n : Int) := by omega
   have HJ3 := hide HJ.out
   clear HJ HC hY hJ hJx
   gi_wp2
   refine ⟨(fun _ h => by cases h), ?_⟩
   gi_wp2
   refine bodyPost_end (results_none rfl _ _ _) rfl ?_
   exact ⟨⟨_, rfl⟩, .inl HJ3.out⟩
theorem pspared_c (k : Int) (s q gk gs : Nat) (w : World) (ck : Cel w gk [.int .i64 k] 3) (cs : Cel w gs [.int .i64 (s : Nat)] 3) (hq : q ≤ s) (hs : s ≤ 8192) :
  Calls Tryz.prog 114 #[.int .i64 (q : Nat), .pointer (some ⟨gk, 0, none⟩), .pointer (some ⟨gs, 0, none⟩)] w fun e w' => e = .returned (.int .i64 (-(Pn.row k s q : Nat))) ∧ w' = w := by
 have R := hide fun w0 => prow0_c k s q w0
 rw [rowI_in (by omega) hq] at R
 have hle := Pn.row_le k (n := s) (m := q) (by omega) hq
 have c0 := ck.cell 0 rfl
 have c1 := cs.cell 0 rfl
 generalize Pn.row k s q = y at *
 clear ck cs
 go_enter Tryz.func114, Tryz.ntmps114
 go_wp2_with fail
 refine (R.out _).mono ?_
 rintro e w1 ⟨rfl, rfl⟩
 go_wp2
 go_ret
 exact ⟨by go_num, rfl⟩
def lw (k : Int) (s q : Nat) : Int := if q = 0 then 9223372036854775807 else -(Pn.row k s (Pn.wsA k s q) : Nat)
theorem lw_new {k : Int} {s q : Nat} (h : -(Pn.row k s q : Nat) < lw k s q) : Pn.wsA k s (q + 1) = q ∧ lw k s (q + 1) = -(Pn.row k s q : Nat) := by
 have e : Pn.wsA k s (q + 1) = q := by
  unfold lw at h
  rw [Pn.wsA]
  by_cases c : q = 0
  ·rw [if_pos c, c]
  ·rw [if_neg c] at h ⊢
   rw [if_pos (by omega)]
 refine ⟨e, ?_⟩
 unfold lw
 rw [if_neg (Nat.succ_ne_zero q), e]
theorem lw_old {k : Int} {s q : Nat} (hr : Pn.row k s q ≤ 1048576) (h : ¬ -(Pn.row k s q : Nat) < lw k s q) : Pn.wsA k s (q + 1) = Pn.wsA k s q ∧ lw k s (q + 1) = lw k s q := by
 unfold lw at h ⊢
 rw [if_neg (Nat.succ_ne_zero q), Pn.wsA]
 by_cases c : q = 0
 ·rw [if_pos c] at h
  omega
 ·rw [if_neg c] at h ⊢
  rw [if_neg (by omega), if_neg c]
  exact ⟨rfl, rfl⟩
set_option maxHeartbeats 4000000 in
theorem pleastI_c (k : Int) (s gU gk gs : Nat) (w : World) (hs : s ≤ 8192) (cU : Cel w gU [.int .i64 (s : Nat)] 3) (ck : Cel w gk [.int .i64 k] 3) (cs : Cel w gs [.int .i64 (s : Nat)] 3) :
  Calls Tryz.prog 115 #[.func (.func 118) #[] #[.pointer (some ⟨gU, 0, none⟩)], .func (.func 114) #[] #[.pointer (some ⟨gk, 0, none⟩), .pointer (some ⟨gs, 0, none⟩)]] w fun e w' => e = .returned (.int .i64 (Pn.wsA k s (s + 1) : Nat)) ∧ Below w.heap.size w w' := by
 refine (callsIn_wide (n := 0)).1 (callsIn_of_wp_marks Tryz.func115 rfl trivial ?_)
 simp only [Tryz.ntmps115, List.size_toArray, List.length_cons, List.length_nil, Nat.reduceAdd, Nat.reduceSub, Array.replicate_succ, Array.replicate_zero, List.push_toArray, List.append_toArray, List.nil_append, List.cons_append]
 refine wpIn_wide.2 ?_
 obtain ⟨W1, hW1⟩ : ∃ W1, W1 = ((w.alloc (.cells #[.func (.func 114) #[] #[.pointer (some ⟨gk, 0, none⟩), .pointer (some ⟨gs, 0, none⟩)]] 100)).alloc (.cells #[.int .i64 0] 3)).alloc (.cells #[.int .i64 9223372036854775807] 3) := ⟨_, rfl⟩
 have z1 : W1.heap.size = w.heap.size + 3 := by rw [hW1]; simp
 have b1 : Below w.heap.size w W1 := by rw [hW1]; exact (((below_alloc w _).alloc (by simp only [World.size_alloc]; omega) _).alloc (by simp only [World.size_alloc]; omega) _)
 have c0 : Cel W1 w.heap.size [.func (.func 114) #[] #[.pointer (some ⟨gk, 0, none⟩), .pointer (some ⟨gs, 0, none⟩)]] 100 := by rw [hW1]; exact ((((Cel.new _ _ _).alloc _).alloc _)).at rfl
 have c1 : Cel W1 (w.heap.size + 1) [.int .i64 0] 3 := by rw [hW1]; exact (((Cel.new _ _ _).alloc _)).at (by simp)
 have c2 : Cel W1 (w.heap.size + 1 + 1) [.int .i64 9223372036854775807] 3 := by rw [hW1]; exact ((Cel.new _ _ _)).at (by simp)
 have lU := cU.lt
 have lk := ck.lt
 have ls := cs.lt
 replace cU := cU.kept b1
 replace ck := ck.kept b1
 replace cs := cs.kept b1
 go_wp2_with fail
 rw [← hW1]
 clear hW1
 have G := upTo1_goes gU s hs (fun b => (b ≠ w.heap.size + 1 ∧ b ≠ w.heap.size + 1 + 1) ∧ b ≠ W1.heap.size + 1) W1 cU (by omega)
 refine range_law (gf := 118) (lb := #[.pointer (some ⟨gU, 0, none⟩)]) (K := fun b => b ≠ w.heap.size + 1 ∧ b ≠ w.heap.size + 1 + 1) rfl (enters_of Tryz.func118 (by kernel_rfl) rfl) (fun _ => rfl) G (fun b hb => by omega)
  (fun q Wc => Kept (fun b => b ≠ w.heap.size + 1 ∧ b ≠ w.heap.size + 1 + 1) W1 Wc ∧ Cel Wc (w.heap.size + 1) [.int .i64 (Pn.wsA k s q : Nat)] 3 ∧ Cel Wc (w.heap.size + 1 + 1) [.int .i64 (lw k s q)] 3) (fun q Wc => False) (fun q A B h hb => ⟨h.1.more hb (Nat.le_refl _), h.2.1.keep hb (by omega), h.2.2.keep hb (by omega)⟩) (fun q A B h hb => h) ⟨Kept.refl _ _, c1, c2⟩
  (fun q => { tmps := #[.func (.func 118) #[] #[.pointer (some ⟨gU, 0, none⟩)], .func (.func 114) #[] #[.pointer (some ⟨gk, 0, none⟩), .pointer (some ⟨gs, 0, none⟩)], undef, .pointer (some ⟨w.heap.size, 0, none⟩), .int .i64 0, .pointer (some ⟨w.heap.size + 1, 0, none⟩), .pointer (some ⟨w.heap.size + 1 + 1, 0, none⟩), .int .i64 (q : Nat), undef, .func (.func 118) #[] #[.pointer (some ⟨gU, 0, none⟩)], .int .i64 (q : Nat), undef, undef, undef, undef, undef, undef, undef, undef, undef], defers := [] }) ?assign ?body ?done ?stop
 case assign =>
  intro l1 q Wc K1 hK1
  gi_wp2
  exact hK1
 case body =>
  rintro l1 q Wc hq ⟨hk, cF, cL⟩ hz
  have cB := (hk.cel c0 (by omega)).cell 0 rfl
  have L := hide (pspared_c k s q gk gs Wc (hk.cel ck (by omega)) (hk.cel cs (by omega)) (by omega) hs)
  have hr := Pn.row_le k (n := s) (m := q) (by omega) (by omega)
  have l0 := cL.cell 0 rfl
  have f0 := cF.cell 0 rfl
  have ff := cF.frozen 0
  have HF := hide cF
  have HL := hide cL
  have HK := hide hk
  clear G hk cF cL c0 c1 c2 cU ck cs
  by_cases hc : -(Pn.row k s q : Nat) < lw k s q
  ·obtain ⟨e1, e2⟩ := lw_new hc
   have HX : Hid (Kept (fun b => b ≠ w.heap.size + 1 ∧ b ≠ w.heap.size + 1 + 1) Wc ((Wc.setCell ⟨w.heap.size + 1, 0, none⟩ (.int .i64 (q : Nat))).setCell ⟨w.heap.size + 1 + 1, 0, none⟩ (.int .i64 (-(Pn.row k s q : Nat))))) := ((Kept.refl _ _).setCell (fun h => h.1 rfl) _).setCell (fun h => h.2 rfl) _
   have HF2 : Hid (Cel ((Wc.setCell ⟨w.heap.size + 1, 0, none⟩ (.int .i64 (q : Nat))).setCell ⟨w.heap.size + 1 + 1, 0, none⟩ (.int .i64 (-(Pn.row k s q : Nat)))) (w.heap.size + 1) [.int .i64 (Pn.wsA k s (q + 1) : Nat)] 3) := by
    show Cel _ _ _ _
    rw [e1]
    exact (HF.out.set 0 (.int .i64 (q : Nat))).other (by show w.heap.size + 1 ≠ w.heap.size + 1 + 1; omega) _
   have l1 := (HL.out.other (a := ⟨w.heap.size + 1, 0, none⟩) (by show w.heap.size + 1 + 1 ≠ w.heap.size + 1; omega) (.int .i64 (q : Nat)))
   have HL2 : Hid (Cel ((Wc.setCell ⟨w.heap.size + 1, 0, none⟩ (.int .i64 (q : Nat))).setCell ⟨w.heap.size + 1 + 1, 0, none⟩ (.int .i64 (-(Pn.row k s q : Nat)))) (w.heap.size + 1 + 1) [.int .i64 (lw k s (q + 1))] 3) := by
    show Cel _ _ _ _
    rw [e2]
    exact l1.set 0 _
   have l2 := l1.cell 0 rfl
   have l3 := l1.frozen 0
   clear l1 e1 e2 HF HL
   generalize Pn.row k s q = y at *
   gi_wp2_with fail
   refine ⟨trivial, rfl, ?_⟩
   refine (CallsIn.inRound l1 (callsIn_wide.2 L.out)).mono ?_
   rintro e w2 ⟨rfl, rfl⟩
   gi_wp2
   exact ⟨HX.out, HK.out.trans HX.out, HF2.out, HL2.out⟩
  ·obtain ⟨e1, e2⟩ := lw_old (by omega) hc
   have HF2 : Hid (Cel Wc (w.heap.size + 1) [.int .i64 (Pn.wsA k s (q + 1) : Nat)] 3) := by show Cel _ _ _ _; rw [e1]; exact HF.out
   have HL2 : Hid (Cel Wc (w.heap.size + 1 + 1) [.int .i64 (lw k s (q + 1))] 3) := by show Cel _ _ _ _; rw [e2]; exact HL.out
   clear HF HL e1 e2
   generalize Pn.row k s q = y at *
   gi_wp2_with fail
   refine ⟨trivial, rfl, ?_⟩
   refine (CallsIn.inRound l1 (callsIn_wide.2 L.out)).mono ?_
   rintro e w2 ⟨rfl, rfl⟩
   gi_wp2
   exact ⟨Kept.refl _ _, HK.out, HF2.out, HL2.out⟩
 case done =>
  rintro D Wc hD ⟨hk, cF, cL⟩ hd
  have r0 := cF.cell 0 rfl
  have hB := hide (b1.trans ((hk.below (B := w.heap.size) (fun x h => by omega) (by omega))))
  have hd2 := hide hd
  clear G hk cF cL c0 c1 c2 cU ck cs hd
  go_wp2
  exact marks_end hd2.out (v := .int .i64 (Pn.wsA k s (s + 1) : Nat)) (by simp [results, Tryz.results115, go_sem]) ⟨rfl, hB.out.trans (below_putObj (by omega) _)⟩
 case stop =>
  rintro D q Wc hD hq h hd
  exact h.elim
end Go.Proofs.YtcaalcjcpddhaaaGreat.Zz

namespace Go.Proofs.YtcaalcjcpddhaaaGreat.Zz
open Go Go.RowKit

theorem range_lawA {P : Program} {g : Operand} {ps : Array Tmp} {assign body : Code} {Q : Exit → Act → World → Prop} {a : Act} {w : World} {gf : Nat} {lb : Array Value} {N : Nat} {enc : Nat → Array Value} {K : Nat → Prop}
  (hg : a.eval g = .func (.func gf) #[] lb) (eg : ∀ args w, (callFunc gf args).run P w = .ok (.enter gf args) w) (hps : ∀ q, (enc q).size = ps.size)
  (hseq : Goes P gf lb N enc (fun b => K b ∧ b ≠ w.heap.size + 1) w) (hK : ∀ b, w.heap.size ≤ b → K b)
  (I Ix : Nat → World → Prop) (hI : ∀ q W1 W2, I q W1 → Below w.heap.size W1 W2 → I q W2) (hIx : ∀ q W1 W2, Ix q W1 → Below w.heap.size W1 W2 → Ix q W2) (h0 : I 0 w) (A : Nat → Act → World → Prop) (hA : ∀ q a1 W1 o, A q a1 W1 → A q a1 (W1.putObj (w.heap.size + 1) o))
  (hassign : ∀ (l q : Nat) (W : World) (K : Act → World → Prop), w.heap.size + 2 ≤ W.heap.size → (∀ a1 W', Below W.heap.size W W' → A q a1 W' → K a1 W') → assign.wpIn (Fence.wide.inRound l) 0 P (Exit.then K fun _ _ _ => False) { tmps := (ps.zip (enc q)).foldl (fun t (p, v) => t.setIfInBounds p v) a.tmps, defers := [] } W)
  (hbody : ∀ (l q : Nat) (a1 : Act) (W : World), q < N → I q W → A q a1 W → w.heap.size + 2 ≤ W.heap.size → body.wpIn (Fence.wide.inRound l) 0 P (roundEnd K I Ix q W) a1 W)
  (hdone : ∀ (D : Nat) (W : World), w.heap.size ≤ D → I N W → W.heap[D]? = some (.deferred (some [])) → Q .normal { a with defers := { target := .collected D, args := #[] } :: a.defers } W)
  (hstop : ∀ (D q : Nat) (W : World), w.heap.size ≤ D → q < N → Ix q W → W.heap[D]? = some (.deferred (some [])) → Q .ret { a with defers := { target := .collected D, args := #[] } :: a.defers } W) :
  (Code.rangeFunc g ps assign body).wp P Q a w := by
 refine (wpIn_wide (n := 0)).1 (wpIn_rangeFunc fun fn _ => ?_)
 let rc : LoopState → Option Code → Loop := fun st pe => { state := st, pending := pe, fn, tmps := a.tmps, params := ps, assign, body, defers := w.heap.size }
 let W1 := (w.alloc (.deferred (some []))).alloc (.loop (rc .ready none))
 have z1 : W1.heap.size = w.heap.size + 2 := by simp [W1]
 have hL1 : W1.heap[w.heap.size + 1]? = some (.loop (rc .ready none)) := by
  have := World.alloc_heap_new (w.alloc (.deferred (some []))) (.loop (rc .ready none))
  rwa [World.size_alloc] at this
 have hD1 : W1.heap[w.heap.size]? = some (.deferred (some [])) := (Below.heap_alloc _ _ _ (by simp)).trans (World.alloc_heap_new w _)
 have b1 : Below w.heap.size w W1 := ((Below.refl _ w).alloc (Nat.le_refl _) _).alloc (by simp) _
 refine ⟨w.heap.size + 1, [{ target := .collected w.heap.size, args := #[] }], W1, { target := .fn (.func gf) lb, args := #[.func (.yield (w.heap.size + 1)) #[] #[]] }, W1, gf, #[.func (.yield (w.heap.size + 1)) #[] #[]] ++ lb, W1, run_enterLoop_outer _ _ _ _ _, ?_, fun _ _ => trivial, ?_, fun h => by simp [Fence.wide] at h, ?_⟩
 ·simp only [resolve, hg]
  simp [go_sem]
 ·simp [invoke, go_sem, eg]
 refine callsIn_wide.2 ((hseq (w.heap.size + 1) (fun q W => I q W ∧ W.heap[w.heap.size + 1]? = some (.loop (rc .ready none)) ∧ W.heap[w.heap.size]? = some (.deferred (some []))) (fun q W => Ix q W ∧ W.heap[w.heap.size + 1]? = some (.loop (rc .done (some .ret))) ∧ W.heap[w.heap.size]? = some (.deferred (some []))) W1 b1 ?_ ?_ ?_ ?_ ⟨hI _ _ _ h0 b1, hL1, hD1⟩).mono ?_)
 ·exact fun b hb => ⟨hK b (by omega), by omega⟩
 ·exact fun q A B h hb => ⟨hI q A B h.1 (hb.mono (by omega)), (hb.block _ (by omega)).trans h.2.1, (hb.block _ (by omega)).trans h.2.2⟩
 ·exact fun q A B h hb => ⟨hIx q A B h.1 (hb.mono (by omega)), (hb.block _ (by omega)).trans h.2.1, (hb.block _ (by omega)).trans h.2.2⟩
 ·rintro q W hq ⟨hi, hl, hd⟩ hz
  have hlt : w.heap.size + 1 < W.heap.size := by omega
  refine ⟨fn, _, assign, body, run_yield (P := P) (args := enc q) hl (hps q), roundIn_of_wpIn trivial (hassign _ q W _ (by omega) fun a1 W' hbW haW => ⟨_, run_beginRound ((hbW.block _ hlt).trans hl) rfl, ?_⟩)⟩
  let Wb := W'.putObj (w.heap.size + 1) (.loop { rc .ready none with state := .busy })
  have zW := hbW.size
  have zb : Wb.heap.size = W'.heap.size := by simp [Wb]
  have bb : Below w.heap.size W Wb := (hbW.mono (by omega)).trans (below_putObj (by omega) _)
  have hlb : Wb.heap[w.heap.size + 1]? = some (.loop { rc .ready none with state := .busy }) := World.putObj_heap_same (by omega)
  have hdb : Wb.heap[w.heap.size]? = some (.deferred (some [])) := (World.putObj_heap_other (by omega)).trans ((hbW.block _ (by omega)).trans hd)
  have kb : Kept (fun b => K b ∧ b ≠ w.heap.size + 1) W Wb := (Kept.of hbW).putObj (fun h => h.2 rfl) _
  refine wpIn_mono (hbody _ q a1 Wb hq (hI q _ _ hi bb) (hA q a1 W' _ haW) (by omega)) ?_
  have fin : ∀ (j : Option Code) (W3 : World), Kept K Wb W3 → (Instr.endRound (w.heap.size + 1) j).run P W3 = .ok (.bool j.isNone) (W3.putObj (w.heap.size + 1) (.loop (rc (if j.isNone then .ready else .done) j))) ∧ Kept (fun b => K b ∧ b ≠ w.heap.size + 1) W (W3.putObj (w.heap.size + 1) (.loop (rc (if j.isNone then .ready else .done) j))) ∧ Below w.heap.size W3 (W3.putObj (w.heap.size + 1) (.loop (rc (if j.isNone then .ready else .done) j))) ∧ (W3.putObj (w.heap.size + 1) (.loop (rc (if j.isNone then .ready else .done) j))).heap[w.heap.size + 1]? = some (.loop (rc (if j.isNone then .ready else .done) j)) ∧ (W3.putObj (w.heap.size + 1) (.loop (rc (if j.isNone then .ready else .done) j))).heap[w.heap.size]? = some (.deferred (some [])) := fun j W3 hk => by
   have h3 := (hk.same _ (hK _ (by omega)) (by omega)).trans hlb
   have hd3 := (hk.same _ (hK _ (by omega)) (by omega)).trans hdb
   refine ⟨run_endRound (P := P) j h3, ?_, below_putObj (by omega) _, World.putObj_heap_same ?_, (World.putObj_heap_other (by omega)).trans hd3⟩
   ·exact (kb.trans (hk.less fun _ h => h.1)).putObj (fun h => h.2 rfl) _
   ·have := hk.size
    omega
  intro e a3 W3 hp
  match e, hp with
  | .normal, hp =>
   obtain ⟨f1, f2, f3, f4, f5⟩ := fin none W3 hp.1
   exact ⟨_, _, f1, f2, .inl ⟨rfl, hI _ _ _ hp.2 f3, f4, f5⟩⟩
  | .ret, hp =>
   obtain ⟨f1, f2, f3, f4, f5⟩ := fin (some .ret) W3 hp.1
   exact ⟨_, _, f1, f2, .inr ⟨rfl, hIx _ _ _ hp.2 f3, f4, f5⟩⟩
 ·rintro e W2 ⟨⟨v, rfl⟩, ⟨hi, hl, hd⟩ | ⟨q, hq, hi, hl, hd⟩⟩
  ·exact ⟨none, _, run_endLoop (P := P) hl (by simp [rc]), hdone _ _ (Nat.le_refl _) (hI _ _ _ hi (below_putObj (by omega) _)) ((World.putObj_heap_other (by omega)).trans hd)⟩
  ·exact ⟨some .ret, _, run_endLoop (P := P) hl (by simp [rc]), wpIn_ret (hstop _ q _ (Nat.le_refl _) hq (hIx _ _ _ hi (below_putObj (by omega) _)) ((World.putObj_heap_other (by omega)).trans hd))⟩
end Go.Proofs.YtcaalcjcpddhaaaGreat.Zz

namespace Go.Proofs.YtcaalcjcpddhaaaGreat.Zz
open Go.RowKit Num Hp
set_option linter.unusedVariables false
set_option linter.unusedSimpArgs false
set_option maxRecDepth 100000

namespace Pn
def sumN (l : List Int) : Nat := if okT l = true then Hv.tot (cntOf l) 256 else 0
theorem okT_over {l : List Int} {q s : Nat} (hq : q < 256) (hs : s = Hv.tot (cntOf l) q) (h : (8192 : Int) - (s : Int) < gi l q) (h0 : ¬ gi l q < 0) : okT l = false := by
 refine Bool.eq_false_iff.2 fun g => ?_
 unfold okT at g
 simp only [Bool.and_eq_true, decide_eq_true_eq] at g
 have a := tot_mono (cntOf l) (show q + 1 ≤ 256 by omega)
 rw [Hv.tot, ← hs] at a
 have b : cntOf l q = (gi l q).toNat := rfl
 omega
end Pn
set_option maxHeartbeats 2000000 in
theorem psum_c (ao : Option Addr) (l : List Int) (cap : Nat) (w : World) (hx : Nd w ao l) (hl : l.length ≤ 1048576) :
  Calls Tryz.prog 47 #[.slice ao l.length cap] w fun e w' => e = .returned (.tuple #[.int .i64 (Pn.sumN l : Nat), .bool (Pn.okT l)]) ∧ w' = w := by
 by_cases k2 : l.length = 256
 ·have k2z : ((l.length : Int) != 256) = false := by simp; omega
  have HK2 := hide k2
  obtain ⟨b, off, rfl, hbw, hcc⟩ := hx (by omega)
  have HCD : Hid (∀ i, i < l.length → w.cell? ⟨b, off + i, none⟩ = some (.int .i64 (gi l i))) := fun i hi => hcc i hi
  have l256 : l.length ≤ 256 := by omega
  clear hcc k2 hx
  go_enter Tryz.func47, Tryz.ntmps47
  go_wp2
  go_loopw [4, 12] (fun vn vi wr => ∃ (q s : Nat), q ≤ l.length ∧ s ≤ 8192 ∧ vi = .int .i64 q ∧ vn = .int .i64 s ∧ Hid (s = Hv.tot (cntOf l) q) ∧ Hid (∀ j, j < q → bad 8192 (gi l j) = false) ∧ wr = w) (fun _ vi _ => l.length - (intOf vi).toNat)
  case atStart => exact ⟨0, 0, Nat.zero_le _, Nat.zero_le _, rfl, rfl, rfl, fun j hj => absurd hj (by omega), rfl⟩
  case round =>
   obtain ⟨q, s, hq, hs, rfl, rfl, HI, H, hw⟩ := hrel
   subst hw
   by_cases hlt : q < l.length
   ·have hltz : (q : Int) < (l.length : Int) := by omega
    have c1 := HCD.out q hlt
    by_cases h1 : gi l q < 0
    ·have HR : Hid (Pn.okT l = false ∧ Pn.sumN l = 0) := by
      have : Pn.okT l = false := by unfold Pn.okT; rw [win_bad hlt (bad_neg (top := 8192) h1)]; rfl
      exact ⟨this, by unfold Pn.sumN; rw [if_neg (by rw [this]; decide)]⟩
     generalize gi l q = x at *
     clear HI H HCD
     go_wp2
     go_ret2
     rw [HR.out.1, HR.out.2]
     exact ⟨rfl, rfl⟩
    ·by_cases h2 : (8192 : Int) - (s : Int) < gi l q
     ·have HR : Hid (Pn.okT l = false ∧ Pn.sumN l = 0) := by
       have : Pn.okT l = false := Pn.okT_over (by omega) HI.out h2 h1
       exact ⟨this, by unfold Pn.sumN; rw [if_neg (by rw [this]; decide)]⟩
      generalize gi l q = x at *
      clear HI H HCD
      go_wp2
      go_ret2
      rw [HR.out.1, HR.out.2]
      exact ⟨rfl, rfl⟩
     ·have HN := hide (more_fine H.out (bad_no h1 (show ¬ (8192 : Int) < gi l q by omega)))
      obtain ⟨y, hy⟩ : ∃ y : Nat, gi l q = y := ⟨(gi l q).toNat, by omega⟩
      have hyc : cntOf l q = y := by unfold cntOf; omega
      have HI1 : Hid (s + y = Hv.tot (cntOf l) (q + 1)) := by show _ = _; rw [Hv.tot, hyc, HI.out]
      rw [hy] at c1 h1 h2
      clear hy hyc H HI
      go_wp2
      exact ⟨⟨q + 1, s + y, by omega, by omega, by go_num, by go_num, HI1, HN, trivial⟩, by simp only [intOf]; omega⟩
   ·obtain rfl : q = l.length := by omega
    have HW : Hid (win l 8192 = true) := by show win l 8192 = true; rw [win_fine H.out]; exact decide_eq_true HK2.out
    have hs2 := HI.out
    rw [HK2.out] at hs2
    have HR : Hid (Pn.okT l = true ∧ Pn.sumN l = s) := by
     have : Pn.okT l = true := by unfold Pn.okT; rw [HW.out, ← hs2, decide_eq_true hs]; rfl
     exact ⟨this, by unfold Pn.sumN; rw [if_pos this, ← hs2]⟩
    clear hs2 HI H HCD
    go_wp2
    go_ret2
    rw [HR.out.1, HR.out.2]
    exact ⟨rfl, rfl⟩
 ·have k2z : ((l.length : Int) != 256) = true := by simp; omega
  have HR : Hid (Pn.okT l = false ∧ Pn.sumN l = 0) := by
   have : win l 8192 = false := by unfold win; simp [k2]
   have : Pn.okT l = false := by unfold Pn.okT; rw [this]; rfl
   exact ⟨this, by unfold Pn.sumN; rw [if_neg (by rw [this]; decide)]⟩
  clear hx k2
  go_enter Tryz.func47, Tryz.ntmps47
  go_wp2
  go_ret2
  rw [HR.out.1, HR.out.2]
  exact ⟨rfl, rfl⟩
set_option maxHeartbeats 2000000 in
theorem pwith_c (a b c : Nat) (t : Bool) (ha : a ≤ 1048576) (hb : b ≤ 1048576) (hc : c ≤ 1048576) (w : World) :
  Calls Tryz.prog 80 #[.agg #[.int .i64 (a : Nat), .int .i64 (b : Nat)], .int .i64 (c : Nat), .bool t] w fun e w' => e = .returned (.agg #[.int .i64 (a + c : Nat), .int .i64 (b + (if t = true then c else 0) : Nat)]) ∧ Below w.heap.size w w' := by
 have hB := hide fun o o' => show Below w.heap.size w ((w.alloc o).alloc o') from (below_alloc w _).alloc (by simp) _
 obtain ⟨d, hd⟩ : ∃ d, d = a + c := ⟨_, rfl⟩
 have hd2 : d ≤ 2097152 := by omega
 have e1 : ((a : Nat) : Int) + (c : Int) = (d : Int) := by omega
 rw [← hd]
 clear hd
 cases t with
 | false =>
  rw [if_neg (by decide), Nat.add_zero]
  go_enter Tryz.func80, Tryz.ntmps80
  go_wp2
  have A := Cel.new2 w (.cells #[.int .i64 d, .int .i64 b] 139) [.int .i64 d, .int .i64 b] 139
  have x0 := A.cell 0 rfl
  have x1 := A.cell 1 rfl
  refine bodyPost_ret (v := .agg #[.int .i64 d, .int .i64 b]) (by simp [results, Tryz.results80, go_sem, x0, x1]) rfl ?_
  exact ⟨rfl, hB.out _ _⟩
 | true =>
  rw [if_pos rfl]
  obtain ⟨f, hf⟩ : ∃ f, f = b + c := ⟨_, rfl⟩
  have hf2 : f ≤ 2097152 := by omega
  have e2 : ((b : Nat) : Int) + (c : Int) = (f : Int) := by omega
  rw [← hf]
  clear hf
  go_enter Tryz.func80, Tryz.ntmps80
  go_wp2
  have A := Cel.new2 w (.cells #[.int .i64 d, .int .i64 f] 139) [.int .i64 d, .int .i64 f] 139
  have x0 := A.cell 0 rfl
  have x1 := A.cell 1 rfl
  refine bodyPost_ret (v := .agg #[.int .i64 d, .int .i64 f]) (by simp [results, Tryz.results80, go_sem, x0, x1]) rfl ?_
  exact ⟨rfl, hB.out _ _⟩
end Go.Proofs.YtcaalcjcpddhaaaGreat.Zz
