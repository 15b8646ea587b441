/-
  The library's Clone at words. The library's Search. The contracts of the program's copied, count and sought. The contract of the program's Build. The library's Equal, Clone and Search at the types that package plain asks.
-/
import Derived.Test.YtpeecabfcgijhaaGreatDoorT02
import Derived.Laws.Cover3
import Derived.Test.YtpeecabfcgijhaaGreatDoorT13
import Derived.Test.YtpeecabfcgijhaaGreatDoorT03
set_option linter.unusedVariables false
set_option linter.unusedSimpArgs false
set_option maxRecDepth 100000
set_option maxHeartbeats 16000000
namespace Go.Proofs.YtpeecabfcgijhaaGreatDoor
open Go.RowKit Num Bit
theorem info52 : (Tryz.prog.info? 61).map (fun i => (i.zero, i.size, i.bytes)) = some (some (.int .u64 0), 1, 8) := by kernel_rfl
def pwv (ys : List Nat) : List Value := ys.map fun y : Nat => Value.int .u64 (y : Int)
theorem length_pwv (ys : List Nat) : (pwv ys).length = ys.length := by simp [pwv]
theorem pwv_get (l : List Nat) (i : Nat) (h : i < l.length) : (pwv l)[i]? = some (.int .u64 (gt l i)) := by
 unfold pwv
 rw [List.getElem?_map, gt_get l i h]; rfl
theorem wd_own {w : World} {base n c : Nat} {ao : Option Addr} {l : List Nat} (h : w.ownsRow base 61 1 (.slice ao n c) n (pwv l)) : Wd w ao l := by
 intro h0
 have hlen : (pwv l).length = n * 1 := h.1
 rw [length_pwv] at hlen
 have hk := fun k hk => h.lt k hk
 have hc := fun g hg => h.cells (g := g) hg
 obtain ⟨_, ⟨e, e2⟩ | ⟨g, cap, cur, e, _⟩⟩ := h
 ·omega
 ·simp only [Value.slice.injEq] at e
  obtain ⟨rfl, _, rfl⟩ := e
  refine ⟨g, 0, rfl, (hk g rfl).2, fun i hi => ?_⟩
  rw [← hc g rfl i _ (pwv_get l i hi)]
  unfold Addr.add
  split
  ·subst_vars; rfl
  ·simp
theorem eq_nil (a : Option Addr) (l c : Nat) (w : World) : (binOp .eql 22 (.slice a l c) (.slice none 0 0)).run Tryz.prog w = .ok (.bool a.isNone) w := by
 simp only [binOp]
 simp [run_equal_slice_nil w 22 61 a l c Tryz.underlying22]
theorem clone_c (ao : Option Addr) (xs : List Nat) (cap : Nat) (w : World) (hx : Wd w ao xs) (hl : xs.length ≤ 1048576) :
  Calls Tryz.prog 121 #[.slice ao xs.length cap] w fun e w' => ∃ bo bc, e = .returned (.slice bo xs.length bc) ∧ Wd w' bo xs ∧ xs.length ≤ bc ∧ Below w.heap.size w w' := by
 cases ao with
 | none =>
  have h0 : xs = [] := by
   cases xs with
   | nil => rfl
   | cons a t =>
    obtain ⟨b, off, e, _⟩ := hx (by simp)
    cases e
  subst h0
  have hq := eq_nil none 0 cap
  have hq2 : (none : Option Addr).isNone = true := rfl
  go_enter Tryz.func121, Tryz.ntmps121
  go_wp2
  go_ret
  exact ⟨none, 0, rfl, wd0' _ _, Nat.le_refl _, Below.refl _ _⟩
 | some a =>
  obtain ⟨i0, hi, hz0, hz1, hz2⟩ := info_parts info52
  have hq := eq_nil (some a) xs.length cap
  have hq2 : (some a).isNone = false := rfl
  go_enter Tryz.func121, Tryz.ntmps121
  go_wp2_with (at_builtin; refine Ap.wpList_append_u (by rfl) _ _ _ (by rfl) w.heap.size 61 i0 (.int .u64 0) 8 Tryz.underlying22 hi hz0 hz1 hz2 rfl (.slice (some ⟨w.heap.size, 0, none⟩) 0 0) 0 [] (by rfl) ?c0 (some a) xs.length cap (pwv xs) (by rfl) (length_pwv xs) ?c1 ?c2 ?c3 ?c4 ?c5 ?_)
  case c0 =>
   exact ⟨rfl, .inr ⟨w.heap.size, 0, #[], rfl, Nat.le_refl _, Cel.new w [] 61, Nat.le_refl _, by simp⟩⟩
  case c1 =>
   intro h0
   refine ⟨a, rfl, fun j u hj => ?_⟩
   obtain ⟨b, off, e, hlt, hc⟩ := hx h0
   obtain rfl := Option.some.inj e
   have hjl : j < xs.length := by
    have := (List.getElem?_eq_some_iff.1 hj).1
    rw [length_pwv] at this
    exact this
   rw [pwv_get xs j hjl] at hj
   obtain rfl := Option.some.inj hj
   rw [show (Addr.add ⟨b, off, none⟩ j) = ⟨b, off + j, none⟩ by unfold Addr.add; split <;> (try subst_vars) <;> rfl]
   rw [(below_alloc w _).cell (p := ⟨b, off + j, none⟩) hlt]
   exact hc j hjl
  case c2 => intro u hu; obtain ⟨y, _, rfl⟩ := List.mem_map.1 hu; rfl
  case c3 => unfold maxLen; omega
  case c4 => omega
  case c5 => simp
  intro bo bc w1 hown hle hb
  have hB : Below w.heap.size w w1 := (below_alloc w _).trans hb
  have hW := wd_own hown
  have HF : Hid (Wd w1 bo xs ∧ xs.length ≤ bc ∧ Below w.heap.size w w1) := ⟨hW, hle, hB⟩
  clear hown hb hW hB hx hq hi hz0 hz1 hz2
  go_wp2
  go_ret
  exact ⟨bo, bc, rfl, HF.out⟩
theorem search_c (n : Nat) (hn : n ≤ 1048576) (c1 c2 c3 : Addr) (p : Nat → Bool) (w : World)
  (hf : Hid (∀ (i : Nat) w0, i < n → Below w.heap.size w w0 → Calls Tryz.prog 141 #[.int .i64 i, .pointer (some c1), .pointer (some c2), .pointer (some c3)] w0 fun e w' => e = .returned (.bool (p i)) ∧ Below w0.heap.size w0 w')) (hp : Hid (∀ i j, i ≤ j → p i = true → p j = true)) :
  Calls Tryz.prog 140 #[.int .i64 n, .func (.func 141) #[] #[.pointer (some c1), .pointer (some c2), .pointer (some c3)]] w fun e w' => ∃ j : Nat, e = .returned (.int .i64 j) ∧ j ≤ n ∧ (∀ i, i < j → p i = false) ∧ (∀ i, j ≤ i → i < n → p i = true) ∧ Below w.heap.size w w' := by
 go_enter Tryz.func140, Tryz.ntmps140
 go_wp2
 go_loopw [5, 6] (fun s t wr => ∃ i j : Nat, i ≤ j ∧ j ≤ n ∧ s = .int .i64 i ∧ t = .int .i64 j ∧ Hid (∀ q, q < i → p q = false) ∧ Hid (∀ q, j ≤ q → q < n → p q = true) ∧ Below w.heap.size w wr) (fun s t _ => (intOf t).toNat - (intOf s).toNat)
 case atStart => exact ⟨0, n, by omega, by omega, rfl, rfl, fun q hq => absurd hq (by omega), fun q h1 h2 => absurd h1 (by omega), Below.refl _ _⟩
 case round =>
  obtain ⟨i, j, hij, hj, rfl, rfl, H1, H2, hw⟩ := hrel
  by_cases hlt : i < j
  ·have hlt2 : (i : Int) < (j : Int) := by omega
   have hm : (((i + j) / 2 : Nat) : Int) = ((i : Int) + (j : Int)) / 2 := by omega
   have C : Hid (Calls Tryz.prog 141 #[.int .i64 (((i : Int) + (j : Int)) / 2), .pointer (some c1), .pointer (some c2), .pointer (some c3)] wr fun e w' => e = .returned (.bool (p ((i + j) / 2))) ∧ Below wr.heap.size wr w') := by
    have := hf.out ((i + j) / 2) wr (by omega) hw
    rw [hm] at this
    exact this
   have mu : IntKind.i64.wrap (((i : Int) + (j : Int)) / 2 + 1) = ((i : Int) + (j : Int)) / 2 + 1 := by rw [IntKind.wrap_i64]; omega
   clear hf
   go_wp2_with fail
   refine C.out.mono ?_
   rintro e w1 ⟨rfl, hb⟩
   have hw1 := hw.trans (hb.mono hw.size)
   clear hb C
   cases hq : p ((i + j) / 2) with
   | true =>
    go_wp2
    refine ⟨⟨i, (i + j) / 2, by omega, by omega, rfl, by rw [hm], H1, ?_, hw1⟩, by simp only [intOf]; omega⟩
    intro q h1 h2
    exact hp.out _ _ h1 hq
   | false =>
    go_wp2
    refine ⟨⟨(i + j) / 2 + 1, j, by omega, by omega, by rw [← hm]; rfl, rfl, ?_, H2, hw1⟩, by simp only [intOf]; omega⟩
    intro q h1
    cases hq2 : p q with
    | false => rfl
    | true =>
     have := hp.out q ((i + j) / 2) (by omega) hq2
     rw [hq] at this
     exact this.symm
  ·have hlt2 : ¬ (i : Int) < (j : Int) := by omega
   go_wp2
   go_ret
   exact ⟨i, rfl, by omega, H1.out, fun q h1 h2 => H2.out q (by omega) h2, hw⟩
def COut (N : Int) (xs : List Nat) (w : World) (e : Ending) (w' : World) : Prop := ∃ bo bc, e = .returned (.agg #[.int .i64 N, .slice bo xs.length bc]) ∧ Wd w' bo xs ∧ xs.length ≤ bc ∧ Below w.heap.size w w'
theorem pcopied_c (N : Int) (ao : Option Addr) (xs : List Nat) (cap : Nat) (w : World) (hx : Wd w ao xs) (hl : xs.length ≤ 1048576) :
  Calls Tryz.prog 65 #[.agg #[.int .i64 N, .slice ao xs.length cap]] w (COut N xs w) := by
 go_enter Tryz.func65, Tryz.ntmps65
 go_wp2
 obtain ⟨W, hW⟩ : ∃ W, W = (w.alloc (.cells #[.int .i64 N, .slice ao xs.length cap] 24)).alloc (.cells #[.int .i64 0, .slice none 0 0] 24) := ⟨_, rfl⟩
 have bW := yb2 hW
 have B1 := yc3 hW
 have B2 := yc2 hW
 rw [← hW]
 clear hW
 refine region_g [6] (fun w' => Cel w' w.heap.size [.int .i64 N, .slice ao xs.length cap] 24 ∧ Cel w' (w.heap.size + 1) [.int .i64 0, .slice none 0 0] 24) (by kernel_rfl) ?_
 have hS : Cel W.drew w.heap.size [.int .i64 N, .slice ao xs.length cap] 24 ∧ Cel W.drew (w.heap.size + 1) [.int .i64 0, .slice none 0 0] 24 := ⟨B1, B2⟩
 have bW2 : Below w.heap.size w W.drew := bW.drew
 generalize W.drew = V at *
 clear B1 B2 bW
 refine AnyG.tk 0 hS ?_
 refine AnyG.tf 1 hS rfl (fun w0 h0 => by have c0 := h0.1.cell 0 rfl; go_simp; try with_reducible rfl) ?_
 refine AnyG.tk 2 hS ?_
 refine AnyG.tf 3 hS rfl (fun w0 h0 => by have c1 := h0.1.cell 1 rfl; go_simp; try with_reducible rfl) ?_
 refine AnyG.o1 4 ?_
 intro K hK
 go_simp
 refine (clone_c _ _ _ _ (hx.keep bW2) hl).mono ?_
 rintro e w2 ⟨bo, bc, rfl, hO, hle, hb⟩
 have hS2 := And.intro (hS.1.kept hb) (hS.2.kept hb)
 have bw2 := bW2.trans (hb.mono bW2.size)
 refine hK.out _ _ (fun _ => hS2) ?_
 clear hK K
 try simp only [Act.put, yq3, yq4, yq5]
 refine AnyG.tk 5 hS2 ?_
 refine AnyG.o1 6 ?_
 intro K hK
 have x0 := hS2.2.cell 0 rfl
 have x1 := hS2.2.cell 1 rfl
 have f0 := hS2.2.frozen 0
 have f1 := hS2.2.frozen 1
 go_simp
 refine hK.out _ _ (fun h => absurd (by decide) h) ?_
 clear hK K
 try simp only [Act.put, yq3, yq4, yq5]
 refine AnyG.done (by kernel_rfl) ?_ _
 have hC := (hS2.2.set 0 (.int .i64 N)).set 1 (.slice bo xs.length bc)
 have oW : Only (w.heap.size + 1) w2 ((w2.setCell ⟨w.heap.size + 1, 0, none⟩ (.int .i64 N)).setCell ⟨w.heap.size + 1, 1, none⟩ (.slice bo xs.length bc)) := ((Only.refl _ _).set 0 _).set 1 _
 have hW2 := oW.wd hO (hO.apart hS2.2 (by intro v hv n; simp at hv; rcases hv with rfl | rfl <;> simp))
 have HF : Hid (Wd ((w2.setCell ⟨w.heap.size + 1, 0, none⟩ (.int .i64 N)).setCell ⟨w.heap.size + 1, 1, none⟩ (.slice bo xs.length bc)) bo xs ∧ xs.length ≤ bc ∧ Below w.heap.size w ((w2.setCell ⟨w.heap.size + 1, 0, none⟩ (.int .i64 N)).setCell ⟨w.heap.size + 1, 1, none⟩ (.slice bo xs.length bc))) := ⟨hW2, hle, bw2.trans (oW.below (Nat.le_succ _))⟩
 have k0 := hC.cell 0 rfl
 have k1 := hC.cell 1 rfl
 clear hW2 oW hC hO hle bw2 hS2 hS hb bW2 x0 x1 f0 f1
 go_wp2
 exact bodyPost_ret (v := .agg #[.int .i64 N, .slice bo xs.length bc]) (by simp [results, Tryz.results65, go_sem, k0, k1]) rfl ⟨bo, bc, rfl, HF.out⟩
structure PB (w3 wr : World) (m n : Nat) (bo : Option Addr) (bc : Nat) (sv tv : Value) (G T : Nat) (xs : List Nat) : Prop where
 bx : Cel wr w3.heap.size [.int .i64 (m : Int), .slice bo n bc, sv, tv] 29
 hb : Below w3.heap.size w3 wr
 o1 : wr.ownsRow (w3.heap.size + 1) 3 1 sv G (iv (supP (m : Int) xs G))
 o2 : wr.ownsRow (w3.heap.size + 1) 3 1 tv T (iv (subP (m : Int) xs T))
 ap : Ap.Apart sv tv
theorem PB.keep {w3 wr w' : World} {m n : Nat} {bo : Option Addr} {bc : Nat} {sv tv : Value} {G T : Nat} {xs : List Nat} (h : PB w3 wr m n bo bc sv tv G T xs) (hb : Below wr.heap.size wr w') : PB w3 w' m n bo bc sv tv G T xs :=
 ⟨h.bx.kept hb, h.hb.trans (hb.mono h.hb.size), Ap.owns_below h.o1 hb, Ap.owns_below h.o2 hb, h.ap⟩
theorem PB.sup {w3 wr w2 : World} {m n : Nat} {bo : Option Addr} {bc : Nat} {sv tv u : Value} {G T : Nat} {xs : List Nat} (h : PB w3 wr m n bo bc sv tv G T xs) (ho : w2.ownsRow (w3.heap.size + 1) 3 1 u (G + 1) (iv (supP (m : Int) xs (G + 1)))) (hB : Below (w3.heap.size + 1) wr w2)
  (hblk : ∀ k, u.ownBlock = some k → (sv.ownBlock = some k ∨ k = wr.heap.size) ∧ k < w2.heap.size) (hkeep : ∀ k, k < wr.heap.size → sv.ownBlock ≠ some k → w2.heap[k]? = wr.heap[k]?) :
  PB w3 (w2.setCell ⟨w3.heap.size, 2, none⟩ u) m n bo bc u tv (G + 1) T xs :=
 ⟨(h.bx.keep hB (Nat.lt_succ_self _)).set 2 u, (h.hb.trans (hB.mono (Nat.le_succ _))).setCell (Nat.le_refl _) _, owns_set ho (Nat.lt_succ_self _), owns_set (Ap.owns_other h.o2 hkeep h.ap.symm) (Nat.lt_succ_self _), (Ap.apart_new h.o2 hblk h.ap.symm).symm⟩
theorem PB.sub {w3 wr w2 : World} {m n : Nat} {bo : Option Addr} {bc : Nat} {sv tv u : Value} {G T T2 : Nat} {xs : List Nat} (h : PB w3 wr m n bo bc sv tv G T xs) (ho : w2.ownsRow (w3.heap.size + 1) 3 1 u T2 (iv (subP (m : Int) xs T2))) (hB : Below (w3.heap.size + 1) wr w2)
  (hblk : ∀ k, u.ownBlock = some k → (tv.ownBlock = some k ∨ k = wr.heap.size) ∧ k < w2.heap.size) (hkeep : ∀ k, k < wr.heap.size → tv.ownBlock ≠ some k → w2.heap[k]? = wr.heap[k]?) :
  PB w3 (w2.setCell ⟨w3.heap.size, 3, none⟩ u) m n bo bc sv u G T2 xs :=
 ⟨(h.bx.keep hB (Nat.lt_succ_self _)).set 3 u, (h.hb.trans (hB.mono (Nat.le_succ _))).setCell (Nat.le_refl _) _, owns_set (Ap.owns_other h.o1 hkeep h.ap) (Nat.lt_succ_self _), owns_set ho (Nat.lt_succ_self _), Ap.apart_new h.o1 hblk h.ap⟩
theorem equal_c (ao : Option Addr) (l : List Int) (n cap : Nat) (hn : n = l.length) (bo : Option Addr) (m : List Int) (k dap : Nat) (hk : k = m.length) (w : World) (hx : Nd w ao l) (hy : Nd w bo m) (hl : l.length ≤ 1048576) :
  Calls Tryz.prog 107 #[.slice ao n cap, .slice bo k dap] w fun e w' => e = .returned (.bool (decide (l = m))) ∧ Below w.heap.size w w' := by
 subst hn hk
 by_cases h2 : l.length = m.length
 ·have h2' : ((l.length : Int) != (m.length : Int)) = false := by simp [h2]
  have H2 : Hid (l.length = m.length) := h2
  have h3 : l.length ≤ m.length := by omega
  clear h2
  go_enter Tryz.func107, Tryz.ntmps107
  go_wp2
  go_loopw [13] (fun i wr => ∃ k : Nat, k ≤ l.length ∧ i = .int .i64 k ∧ Hid (∀ j, j < k → gi l j = gi m j) ∧ Below w.heap.size w wr) (fun i _ => l.length - (intOf i).toNat)
  case atStart => exact ⟨0, by omega, rfl, fun j hj => absurd hj (by omega), Below.refl _ _⟩
  case round =>
   obtain ⟨k, hk, rfl, H, hw⟩ := hrel
   by_cases hlt : k < l.length
   ·obtain ⟨b, off, rfl, hb, hc⟩ := hx (by omega)
    obtain ⟨d, off2, rfl, hd, hc2⟩ := hy (by omega)
    have e1 := (hw.cell (p := ⟨b, off + k, none⟩) hb).trans (hc k hlt)
    have e2 := (hw.cell (p := ⟨d, off2 + k, none⟩) hd).trans (hc2 k (by omega))
    have hlt2 : k < m.length := by omega
    have hlt3 : (k : Int) < (l.length : Int) := by omega
    have hlt4 : (k : Int) < (m.length : Int) := by omega
    clear hc hc2
    by_cases hv : gi l k = gi m k
    ·have hne : (gi l k != gi m k) = false := by simp [hv]
     go_wp2
     go_quiet (fail)
     go_wp2
     refine ⟨⟨k + 1, by omega, by go_num, ?_, below_drewN hw _⟩, by simp only [intOf]; omega⟩
     intro j hj
     by_cases e : j = k
     ·subst e; exact hv
     ·exact H.out j (by omega)
    ·have hne : (gi l k != gi m k) = true := by simp [hv]
     have R : Hid (decide (l = m) = false) := by
      show decide (l = m) = false
      simp only [decide_eq_false_iff_not]
      intro e; subst e; exact hv rfl
     go_wp2
     go_quiet (fail)
     go_wp2
     go_ret
     rw [R.out]
     exact ⟨rfl, below_drewN hw _⟩
   ·have R : Hid (decide (l = m) = true) := by
     show decide (l = m) = true
     simp only [decide_eq_true_eq]
     exact gi_ext H2.out (fun i hi => H.out i (by omega))
    go_wp2
    go_ret
    rw [R.out]
    exact ⟨rfl, hw⟩
 ·have h2' : ((l.length : Int) != (m.length : Int)) = true := by simp; omega
  have R : Hid (decide (l = m) = false) := by
   show decide (l = m) = false
   simp only [decide_eq_false_iff_not]
   intro e; subst e; exact h2 rfl
  go_enter Tryz.func107, Tryz.ntmps107
  go_wp2
  go_ret
  rw [R.out]
  exact ⟨rfl, Below.refl _ _⟩
end Go.Proofs.YtpeecabfcgijhaaGreatDoor
