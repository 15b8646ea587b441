/-
  A range over a function whose variable is a struct (each round makes it anew). The contracts of the landed sum and with.
-/
import Derived.Test.YtckkhmmicbpihaaM17
import Derived.Test.YtckkhmmicbpihaaM16
namespace Go.Proofs.Ytckkhmmicbpihaa
open Go Go.RowKit

theorem range_lawA {P : Program} {g : Operand} {ps : Array Tmp} {assign body : Code} {Q : Exit → Act → World → Prop} {a : Act} {w : World} {gf : Nat} {lb : Array Value} {N : Nat} {enc : Nat → Array Value} {K : Nat → Prop}
    (hg : a.eval g = .func (.func gf) #[] lb) (eg : ∀ args w, (callFunc gf args).run P w = .ok (.enter gf args) w) (hps : ∀ q, (enc q).size = ps.size)
    (hseq : Goes P gf lb N enc (fun b => K b ∧ b ≠ w.heap.size + 1) w) (hK : ∀ b, w.heap.size ≤ b → K b)
    (I Ix : Nat → World → Prop) (hI : ∀ q W1 W2, I q W1 → Below w.heap.size W1 W2 → I q W2) (hIx : ∀ q W1 W2, Ix q W1 → Below w.heap.size W1 W2 → Ix q W2) (h0 : I 0 w) (A : Nat → Act → World → Prop) (hA : ∀ q a1 W1 o, A q a1 W1 → A q a1 (W1.putObj (w.heap.size + 1) o))
    (hassign : ∀ (l q : Nat) (W : World) (K : Act → World → Prop), w.heap.size + 2 ≤ W.heap.size → (∀ a1 W', Below W.heap.size W W' → A q a1 W' → K a1 W') → assign.wpIn (Fence.wide.inRound l) 0 P (Exit.then K fun _ _ _ => False) { tmps := (ps.zip (enc q)).foldl (fun t (p, v) => t.setIfInBounds p v) a.tmps, defers := [] } W)
    (hbody : ∀ (l q : Nat) (a1 : Act) (W : World), q < N → I q W → A q a1 W → w.heap.size + 2 ≤ W.heap.size → body.wpIn (Fence.wide.inRound l) 0 P (roundEnd K I Ix q W) a1 W)
    (hdone : ∀ (D : Nat) (W : World), w.heap.size ≤ D → I N W → W.heap[D]? = some (.deferred (some [])) → Q .normal { a with defers := { target := .collected D, args := #[] } :: a.defers } W)
    (hstop : ∀ (D q : Nat) (W : World), w.heap.size ≤ D → q < N → Ix q W → W.heap[D]? = some (.deferred (some [])) → Q .ret { a with defers := { target := .collected D, args := #[] } :: a.defers } W) :
    (Code.rangeFunc g ps assign body).wp P Q a w := by
  refine (wpIn_wide (n := 0)).1 (wpIn_rangeFunc fun fn _ => ?_)
  let rc : LoopState → Option Code → Loop := fun st pe => { state := st, pending := pe, fn, tmps := a.tmps, params := ps, assign, body, defers := w.heap.size }
  let W1 := (w.alloc (.deferred (some []))).alloc (.loop (rc .ready none))
  have z1 : W1.heap.size = w.heap.size + 2 := by simp [W1]
  have hL1 : W1.heap[w.heap.size + 1]? = some (.loop (rc .ready none)) := by
    have := World.alloc_heap_new (w.alloc (.deferred (some []))) (.loop (rc .ready none))
    rwa [World.size_alloc] at this
  have hD1 : W1.heap[w.heap.size]? = some (.deferred (some [])) := (Below.heap_alloc _ _ _ (by simp)).trans (World.alloc_heap_new w _)
  have b1 : Below w.heap.size w W1 := ((Below.refl _ w).alloc (Nat.le_refl _) _).alloc (by simp) _
  refine ⟨w.heap.size + 1, [{ target := .collected w.heap.size, args := #[] }], W1, { target := .fn (.func gf) lb, args := #[.func (.yield (w.heap.size + 1)) #[] #[]] }, W1, gf, #[.func (.yield (w.heap.size + 1)) #[] #[]] ++ lb, W1, run_enterLoop_outer _ _ _ _ _, ?_, fun _ _ => trivial, ?_, fun h => by simp [Fence.wide] at h, ?_⟩
  · simp only [resolve, hg]
    simp [go_sem]
  · simp [invoke, go_sem, eg]
  refine callsIn_wide.2 ((hseq (w.heap.size + 1) (fun q W => I q W ∧ W.heap[w.heap.size + 1]? = some (.loop (rc .ready none)) ∧ W.heap[w.heap.size]? = some (.deferred (some []))) (fun q W => Ix q W ∧ W.heap[w.heap.size + 1]? = some (.loop (rc .done (some .ret))) ∧ W.heap[w.heap.size]? = some (.deferred (some []))) W1 b1 ?_ ?_ ?_ ?_ ⟨hI _ _ _ h0 b1, hL1, hD1⟩).mono ?_)
  · exact fun b hb => ⟨hK b (by omega), by omega⟩
  · exact fun q A B h hb => ⟨hI q A B h.1 (hb.mono (by omega)), (hb.block _ (by omega)).trans h.2.1, (hb.block _ (by omega)).trans h.2.2⟩
  · exact fun q A B h hb => ⟨hIx q A B h.1 (hb.mono (by omega)), (hb.block _ (by omega)).trans h.2.1, (hb.block _ (by omega)).trans h.2.2⟩
  · rintro q W hq ⟨hi, hl, hd⟩ hz
    have hlt : w.heap.size + 1 < W.heap.size := by omega
    refine ⟨fn, _, assign, body, run_yield (P := P) (args := enc q) hl (hps q), roundIn_of_wpIn trivial (hassign _ q W _ (by omega) fun a1 W' hbW haW => ⟨_, run_beginRound ((hbW.block _ hlt).trans hl) rfl, ?_⟩)⟩
    let Wb := W'.putObj (w.heap.size + 1) (.loop { rc .ready none with state := .busy })
    have zW := hbW.size
    have zb : Wb.heap.size = W'.heap.size := by simp [Wb]
    have bb : Below w.heap.size W Wb := (hbW.mono (by omega)).trans (below_putObj (by omega) _)
    have hlb : Wb.heap[w.heap.size + 1]? = some (.loop { rc .ready none with state := .busy }) := World.putObj_heap_same (by omega)
    have hdb : Wb.heap[w.heap.size]? = some (.deferred (some [])) := (World.putObj_heap_other (by omega)).trans ((hbW.block _ (by omega)).trans hd)
    have kb : Kept (fun b => K b ∧ b ≠ w.heap.size + 1) W Wb := (Kept.of hbW).putObj (fun h => h.2 rfl) _
    refine wpIn_mono (hbody _ q a1 Wb hq (hI q _ _ hi bb) (hA q a1 W' _ haW) (by omega)) ?_
    have fin : ∀ (j : Option Code) (W3 : World), Kept K Wb W3 → (Instr.endRound (w.heap.size + 1) j).run P W3 = .ok (.bool j.isNone) (W3.putObj (w.heap.size + 1) (.loop (rc (if j.isNone then .ready else .done) j))) ∧ Kept (fun b => K b ∧ b ≠ w.heap.size + 1) W (W3.putObj (w.heap.size + 1) (.loop (rc (if j.isNone then .ready else .done) j))) ∧ Below w.heap.size W3 (W3.putObj (w.heap.size + 1) (.loop (rc (if j.isNone then .ready else .done) j))) ∧ (W3.putObj (w.heap.size + 1) (.loop (rc (if j.isNone then .ready else .done) j))).heap[w.heap.size + 1]? = some (.loop (rc (if j.isNone then .ready else .done) j)) ∧ (W3.putObj (w.heap.size + 1) (.loop (rc (if j.isNone then .ready else .done) j))).heap[w.heap.size]? = some (.deferred (some [])) := fun j W3 hk => by
      have h3 := (hk.same _ (hK _ (by omega)) (by omega)).trans hlb
      have hd3 := (hk.same _ (hK _ (by omega)) (by omega)).trans hdb
      refine ⟨run_endRound (P := P) j h3, ?_, below_putObj (by omega) _, World.putObj_heap_same ?_, (World.putObj_heap_other (by omega)).trans hd3⟩
      · exact (kb.trans (hk.less fun _ h => h.1)).putObj (fun h => h.2 rfl) _
      · have := hk.size
        omega
    intro e a3 W3 hp
    match e, hp with
    | .normal, hp =>
      obtain ⟨f1, f2, f3, f4, f5⟩ := fin none W3 hp.1
      exact ⟨_, _, f1, f2, .inl ⟨rfl, hI _ _ _ hp.2 f3, f4, f5⟩⟩
    | .ret, hp =>
      obtain ⟨f1, f2, f3, f4, f5⟩ := fin (some .ret) W3 hp.1
      exact ⟨_, _, f1, f2, .inr ⟨rfl, hIx _ _ _ hp.2 f3, f4, f5⟩⟩
  · rintro e W2 ⟨⟨v, rfl⟩, ⟨hi, hl, hd⟩ | ⟨q, hq, hi, hl, hd⟩⟩
    · exact ⟨none, _, run_endLoop (P := P) hl (by simp [rc]), hdone _ _ (Nat.le_refl _) (hI _ _ _ hi (below_putObj (by omega) _)) ((World.putObj_heap_other (by omega)).trans hd)⟩
    · exact ⟨some .ret, _, run_endLoop (P := P) hl (by simp [rc]), wpIn_ret (hstop _ q _ (Nat.le_refl _) hq (hIx _ _ _ hi (below_putObj (by omega) _)) ((World.putObj_heap_other (by omega)).trans hd))⟩

end Go.Proofs.Ytckkhmmicbpihaa

namespace Go.Proofs.Ytckkhmmicbpihaa
open Go.RowKit Num Hp
set_option linter.unusedVariables false
set_option linter.unusedSimpArgs false
set_option maxRecDepth 100000

namespace Pn
def sumN (l : List Int) : Nat := if okT l = true then Hv.tot (cntOf l) 256 else 0
theorem okT_over {l : List Int} {q s : Nat} (hq : q < 256) (hs : s = Hv.tot (cntOf l) q) (h : (8192 : Int) - (s : Int) < gi l q) (h0 : ¬ gi l q < 0) : okT l = false := by
  refine Bool.eq_false_iff.2 fun g => ?_
  unfold okT at g
  simp only [Bool.and_eq_true, decide_eq_true_eq] at g
  have a := tot_mono (cntOf l) (show q + 1 ≤ 256 by omega)
  rw [Hv.tot, ← hs] at a
  have b : cntOf l q = (gi l q).toNat := rfl
  omega
end Pn
set_option maxHeartbeats 2000000 in
theorem psum_c (ao : Option Addr) (l : List Int) (cap : Nat) (w : World) (hx : Nd w ao l) (hl : l.length ≤ 1048576) :
    Calls Try.prog 38 #[.slice ao l.length cap] w fun e w' => e = .returned (.tuple #[.int .i64 (Pn.sumN l : Nat), .bool (Pn.okT l)]) ∧ w' = w := by
  by_cases k2 : l.length = 256
  · have k2z : ((l.length : Int) != 256) = false := by simp; omega
    have HK2 := hide k2
    obtain ⟨b, off, rfl, hbw, hcc⟩ := hx (by omega)
    have HCD : Hid (∀ i, i < l.length → w.cell? ⟨b, off + i, none⟩ = some (.int .i64 (gi l i))) := fun i hi => hcc i hi
    have l256 : l.length ≤ 256 := by omega
    clear hcc k2 hx
    go_enter Try.func38, Try.ntmps38
    go_wp2
    go_loopw [4, 12] (fun vn vi wr => ∃ (q s : Nat), q ≤ l.length ∧ s ≤ 8192 ∧ vi = .int .i64 q ∧ vn = .int .i64 s ∧ Hid (s = Hv.tot (cntOf l) q) ∧ Hid (∀ j, j < q → bad 8192 (gi l j) = false) ∧ wr = w) (fun _ vi _ => l.length - (intOf vi).toNat)
    case atStart => exact ⟨0, 0, Nat.zero_le _, Nat.zero_le _, rfl, rfl, rfl, fun j hj => absurd hj (by omega), rfl⟩
    case round =>
      obtain ⟨q, s, hq, hs, rfl, rfl, HI, H, hw⟩ := hrel
      subst hw
      by_cases hlt : q < l.length
      · have hltz : (q : Int) < (l.length : Int) := by omega
        have c1 := HCD.out q hlt
        by_cases h1 : gi l q < 0
        · have HR : Hid (Pn.okT l = false ∧ Pn.sumN l = 0) := by
            have : Pn.okT l = false := by unfold Pn.okT; rw [win_bad hlt (bad_neg (top := 8192) h1)]; rfl
            exact ⟨this, by unfold Pn.sumN; rw [if_neg (by rw [this]; decide)]⟩
          generalize gi l q = x at *
          clear HI H HCD
          go_wp2
          go_ret2
          rw [HR.out.1, HR.out.2]
          exact ⟨rfl, rfl⟩
        · by_cases h2 : (8192 : Int) - (s : Int) < gi l q
          · have HR : Hid (Pn.okT l = false ∧ Pn.sumN l = 0) := by
              have : Pn.okT l = false := Pn.okT_over (by omega) HI.out h2 h1
              exact ⟨this, by unfold Pn.sumN; rw [if_neg (by rw [this]; decide)]⟩
            generalize gi l q = x at *
            clear HI H HCD
            go_wp2
            go_ret2
            rw [HR.out.1, HR.out.2]
            exact ⟨rfl, rfl⟩
          · have HN := hide (more_fine H.out (bad_no h1 (show ¬ (8192 : Int) < gi l q by omega)))
            obtain ⟨y, hy⟩ : ∃ y : Nat, gi l q = y := ⟨(gi l q).toNat, by omega⟩
            have hyc : cntOf l q = y := by unfold cntOf; omega
            have HI1 : Hid (s + y = Hv.tot (cntOf l) (q + 1)) := by show _ = _; rw [Hv.tot, hyc, HI.out]
            rw [hy] at c1 h1 h2
            clear hy hyc H HI
            go_wp2
            exact ⟨⟨q + 1, s + y, by omega, by omega, by go_num, by go_num, HI1, HN, trivial⟩, by simp only [intOf]; omega⟩
      · obtain rfl : q = l.length := by omega
        have HW : Hid (win l 8192 = true) := by show win l 8192 = true; rw [win_fine H.out]; exact decide_eq_true HK2.out
        have hs2 := HI.out
        rw [HK2.out] at hs2
        have HR : Hid (Pn.okT l = true ∧ Pn.sumN l = s) := by
          have : Pn.okT l = true := by unfold Pn.okT; rw [HW.out, ← hs2, decide_eq_true hs]; rfl
          exact ⟨this, by unfold Pn.sumN; rw [if_pos this, ← hs2]⟩
        clear hs2 HI H HCD
        go_wp2
        go_ret2
        rw [HR.out.1, HR.out.2]
        exact ⟨rfl, rfl⟩
  · have k2z : ((l.length : Int) != 256) = true := by simp; omega
    have HR : Hid (Pn.okT l = false ∧ Pn.sumN l = 0) := by
      have : win l 8192 = false := by unfold win; simp [k2]
      have : Pn.okT l = false := by unfold Pn.okT; rw [this]; rfl
      exact ⟨this, by unfold Pn.sumN; rw [if_neg (by rw [this]; decide)]⟩
    clear hx k2
    go_enter Try.func38, Try.ntmps38
    go_wp2
    go_ret2
    rw [HR.out.1, HR.out.2]
    exact ⟨rfl, rfl⟩
set_option maxHeartbeats 2000000 in
theorem pwith_c (a b c : Nat) (t : Bool) (ha : a ≤ 1048576) (hb : b ≤ 1048576) (hc : c ≤ 1048576) (w : World) :
    Calls Try.prog 64 #[.agg #[.int .i64 (a : Nat), .int .i64 (b : Nat)], .int .i64 (c : Nat), .bool t] w fun e w' => e = .returned (.agg #[.int .i64 (a + c : Nat), .int .i64 (b + (if t = true then c else 0) : Nat)]) ∧ Below w.heap.size w w' := by
  have hB := hide fun o o' => show Below w.heap.size w ((w.alloc o).alloc o') from (below_alloc w _).alloc (by simp) _
  obtain ⟨d, hd⟩ : ∃ d, d = a + c := ⟨_, rfl⟩
  have hd2 : d ≤ 2097152 := by omega
  have e1 : ((a : Nat) : Int) + (c : Int) = (d : Int) := by omega
  rw [← hd]
  clear hd
  cases t with
  | false =>
    rw [if_neg (by decide), Nat.add_zero]
    go_enter Try.func64, Try.ntmps64
    go_wp2
    have A := Cel.new2 w (.cells #[.int .i64 d, .int .i64 b] 96) [.int .i64 d, .int .i64 b] 96
    have x0 := A.cell 0 rfl
    have x1 := A.cell 1 rfl
    refine bodyPost_ret (v := .agg #[.int .i64 d, .int .i64 b]) (by simp [results, Try.results64, go_sem, x0, x1]) rfl ?_
    exact ⟨rfl, hB.out _ _⟩
  | true =>
    rw [if_pos rfl]
    obtain ⟨f, hf⟩ : ∃ f, f = b + c := ⟨_, rfl⟩
    have hf2 : f ≤ 2097152 := by omega
    have e2 : ((b : Nat) : Int) + (c : Int) = (f : Int) := by omega
    rw [← hf]
    clear hf
    go_enter Try.func64, Try.ntmps64
    go_wp2
    have A := Cel.new2 w (.cells #[.int .i64 d, .int .i64 f] 96) [.int .i64 d, .int .i64 f] 96
    have x0 := A.cell 0 rfl
    have x1 := A.cell 1 rfl
    refine bodyPost_ret (v := .agg #[.int .i64 d, .int .i64 f]) (by simp [results, Try.results64, go_sem, x0, x1]) rfl ?_
    exact ⟨rfl, hB.out _ _⟩
end Go.Proofs.Ytckkhmmicbpihaa
