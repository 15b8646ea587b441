/-
  The contract of the program's Check, where it fits. The contracts of the program's Check, Bits, Size, Access, Rank and Select, over rows by places as values. The contracts of the program's Access, Rank and Select, over rows by places as values. The contract of the program's Build.
-/
import Derived.Test.YtpeecabfcgijhaaGreatDoorM12
import Derived.Test.YtpeecabfcgijhaaGreatDoorM11
import Derived.Test.YtpeecabfcgijhaaGreatDoorM30
import Derived.Test.YtpeecabfcgijhaaGreatDoorM28
import Derived.Test.YtpeecabfcgijhaaGreatDoorM29
namespace Go.Proofs.YtpeecabfcgijhaaGreatDoor
open Go.RowKit Go.Shelf Num Bit
set_option linter.unusedVariables false
set_option linter.unusedSimpArgs false
set_option maxRecDepth 100000
attribute [local go_sem] Oper.semAt_some

def nx (p : Nat → Nat) (q : Nat) : Nat := if q = 0 then 0 else p (q - 1) + 1
theorem nx_succ (p : Nat → Nat) (q : Nat) : nx p (q + 1) = p q + 1 := rfl
theorem plq_le (n mm : Nat) (xs : List Nat) (hh : Nat) (ys : List Nat) (q : Nat) (hn : n ≤ 1048576) (hy : hh ≤ 1048576) (hq : q < (plc (bitAt ys) hh).length) : plq n mm xs hh ys q ≤ 2199023255552 := by
 have h20 := wdF_le n mm (by omega)
 have p20 : 2 ^ wdF n mm ≤ 1048576 := Nat.pow_le_pow_right (show 0 < 2 by decide) h20
 have hl : numAt (wdF n mm) xs q < 2 ^ wdF n mm := numOf_lt _ _
 have h1 := (plc_rise (bitAt ys) hh).1 q hq
 have h2 : (gt (plc (bitAt ys) hh) q - q) * 2 ^ wdF n mm ≤ 1048576 * 1048576 := Nat.mul_le_mul (by omega) p20
 have h3 : 1048576 * 1048576 = 1099511627776 := by decide
 unfold plq
 omega
set_option maxHeartbeats 16000000 in
theorem gcheck_fits (n mm kn vn hh : Nat) (LM : Int) (ao : Option Addr) (xs : List Nat) (cap : Nat) (qo : Option Addr) (ys : List Nat) (dap : Nat) (w : World) (F : Fits n mm kn vn LM xs hh ys) (hx : Wd w ao xs) (fx : Fit xs) (hy : Wd w qo ys) (fy : Fit ys) (FC : Hid (∀ w0, Below w.heap.size w w0 → Calls Tryz.prog 113 #[.agg #[.int .i64 (n : Nat), .int .i64 (mm : Nat), .int .i64 (kn : Nat), .int .i64 (vn : Nat), .int .i64 LM, .slice ao xs.length cap, .int .i64 (hh : Nat), .slice qo ys.length dap]] w0 fun e w' => e = .returned (.bool true) ∧ Below w0.heap.size w0 w')) (B : Bool) (hB : B = true ↔ Good n mm (plq n mm xs hh ys)) :
  Calls Tryz.prog 60 #[.agg #[.int .i64 (n : Nat), .int .i64 (mm : Nat), .int .i64 (kn : Nat), .int .i64 (vn : Nat), .int .i64 LM, .slice ao xs.length cap, .int .i64 (hh : Nat), .slice qo ys.length dap]] w fun e w' => e = .returned (.bool B) ∧ Below w.heap.size w w' := by
 have nl := F.hn
 have hb20 := (chk_out _ _ F.ck).2.1
 have PL : Hid (∀ q, q < mm → plq n mm xs hh ys q ≤ 2199023255552) := fun q hq => plq_le n mm xs hh ys q nl (by omega) (by rw [F.on]; exact hq)
 have HB := hide9' hB
 clear hB
 refine (callsIn_wide (n := 0)).1 (callsIn_of_wp_marks Tryz.func60 rfl trivial ?_)
 simp only [Tryz.ntmps60, List.size_toArray, List.length_cons, List.length_nil, Nat.reduceAdd, Nat.reduceSub, Array.replicate_succ, Array.replicate_zero, List.push_toArray, List.append_toArray, List.nil_append, List.cons_append]
 refine wpIn_wide.2 ?_
 have PC : Hid (∀ w0, Calls Tryz.prog 114 #[.agg #[.int .i64 (n : Nat), .int .i64 (mm : Nat), .int .i64 (kn : Nat), .int .i64 (vn : Nat), .int .i64 LM, .slice ao xs.length cap, .int .i64 (hh : Nat), .slice qo ys.length dap]] w0 fun e w' => e = .returned (.func (.func 159) #[] #[.pointer (some ⟨w0.heap.size, 0, none⟩), .pointer (some ⟨w0.heap.size + 1, 0, none⟩)]) ∧ Cel w' w0.heap.size [.int .i64 (n : Nat), .int .i64 (mm : Nat), .int .i64 (kn : Nat), .int .i64 (vn : Nat), .int .i64 LM, .slice ao xs.length cap, .int .i64 (hh : Nat), .slice qo ys.length dap] 35 ∧ Cel w' (w0.heap.size + 1) [.int .i64 (wdF n mm : Nat)] 3 ∧ w'.heap.size = w0.heap.size + 2 ∧ Below w0.heap.size w0 w') := fun w0 => gplaces_c n mm kn vn hh LM ao xs cap qo ys dap F.hn F.hm w0
 obtain ⟨W1, hW1⟩ : ∃ W1, W1 = (w.alloc (.cells #[.int .i64 (n : Nat), .int .i64 (mm : Nat), .int .i64 (kn : Nat), .int .i64 (vn : Nat), .int .i64 LM, .slice ao xs.length cap, .int .i64 (hh : Nat), .slice qo ys.length dap] 35)).alloc (.cells #[.bool false] 4) := ⟨_, rfl⟩
 have b1 : Below w.heap.size w W1 := by rw [hW1]; exact ((below_alloc w _).alloc (by simp only [World.size_alloc]; omega) _)
 have z1 : W1.heap.size = w.heap.size + 2 := by rw [hW1]; simp
 have c0 : Cel W1 w.heap.size [.int .i64 (n : Nat), .int .i64 (mm : Nat), .int .i64 (kn : Nat), .int .i64 (vn : Nat), .int .i64 LM, .slice ao xs.length cap, .int .i64 (hh : Nat), .slice qo ys.length dap] 35 := by rw [hW1]; exact (Cel.new w _ _).alloc _
 have c1 : Cel W1 (w.heap.size + 1) [.bool false] 4 := by rw [hW1]; exact Cel.new2 w _ _ _
 go_wp2_with fail
 rw [← hW1]
 clear hW1
 refine (FC.out _ b1).mono ?_
 rintro e wf ⟨rfl, hb⟩
 replace b1 := b1.trans (hb.mono b1.size)
 replace c0 := c0.kept hb
 replace c1 := c1.kept hb
 have zf : w.heap.size + 2 ≤ wf.heap.size := by have := hb.size; omega
 clear hb FC z1
 obtain ⟨g1, hg1⟩ : ∃ g, g = wf.heap.size := ⟨_, rfl⟩
 obtain ⟨W2, hW2⟩ : ∃ W2, W2 = wf.alloc (.cells #[.int .i64 0] 3) := ⟨_, rfl⟩
 have bA : Below wf.heap.size wf W2 := by rw [hW2]; exact below_alloc wf _
 have z2 : W2.heap.size = g1 + 1 := by rw [hW2, hg1]; simp
 have c2 : Cel W2 g1 [.int .i64 0] 3 := by rw [hW2, hg1]; exact Cel.new wf _ _
 have d0 : Cel (wf.alloc (.cells #[.int .i64 0] 3)) w.heap.size [.int .i64 (n : Nat), .int .i64 (mm : Nat), .int .i64 (kn : Nat), .int .i64 (vn : Nat), .int .i64 LM, .slice ao xs.length cap, .int .i64 (hh : Nat), .slice qo ys.length dap] 35 := c0.alloc _
 have q0 := d0.cell 0 rfl
 have q1 := d0.cell 1 rfl
 have q2 := d0.cell 2 rfl
 have q3 := d0.cell 3 rfl
 have q4 := d0.cell 4 rfl
 have q5 := d0.cell 5 rfl
 have q6 := d0.cell 6 rfl
 have q7 := d0.cell 7 rfl
 have HG := hide9' hg1
 clear hg1
 have HW2 := hide9' hW2
 clear hW2
 go_wp2_with fail
 rw [← HW2.out]
 refine (PC.out _).mono ?_
 rintro e w' ⟨rfl, cx, cw, z3, b3⟩
 rw [z2] at cx cw z3 b3
 rw [z2, ← HG.out]
 rw [← HG.out] at zf
 have b4 : Below w.heap.size w w' := (b1.trans (bA.mono b1.size)).trans (b3.mono (by omega))
 replace c0 := (c0.kept bA).keep b3 (by omega)
 replace c1 := (c1.kept bA).keep b3 (by omega)
 replace c2 := c2.keep b3 (by omega)
 clear b1 bA b3 PC HW2 d0 q0 q1 q2 q3 q4 q5 q6 q7
 go_wp2
 have G := (places1_goes n mm kn vn hh LM ao xs cap qo ys dap (fun b => (b ≠ w.heap.size + 1 ∧ b ≠ g1) ∧ b ≠ w'.heap.size + 1) w' (g1 + 1) (g1 + 1 + 1) F (hx.keep b4) fx (hy.keep b4) fy cx cw (by omega) (by omega) (fun p hp h0 => by have := hx.blk hp h0; omega) (fun p hp h0 => by have := hy.blk hp h0; omega))
 generalize plq n mm xs hh ys = p at *
 refine range_law (gf := 159) (lb := #[.pointer (some ⟨g1 + 1, 0, none⟩), .pointer (some ⟨g1 + 2, 0, none⟩)]) (K := fun b => b ≠ w.heap.size + 1 ∧ b ≠ g1) rfl (enters_of Tryz.func159 (by kernel_rfl) rfl) (fun _ => rfl) G (fun b hb => by omega)
  (fun q Wc => Kept (fun b => b ≠ w.heap.size + 1 ∧ b ≠ g1) w' Wc ∧ Cel Wc (w.heap.size + 1) [.bool false] 4 ∧ Cel Wc g1 [.int .i64 (nx p q : Nat)] 3 ∧ ∀ j, j < q → p j < n ∧ (0 < j → p (j - 1) < p j)) (fun q Wc => Kept (fun b => b ≠ w.heap.size + 1 ∧ b ≠ g1) w' Wc ∧ Cel Wc (w.heap.size + 1) [.bool false] 4 ∧ ¬ Good n mm p) (fun q A B h hb => ⟨h.1.more hb (Nat.le_refl _), h.2.1.keep hb (by omega), h.2.2.1.keep hb (by omega), h.2.2.2⟩) (fun q A B h hb => ⟨h.1.more hb (Nat.le_refl _), h.2.1.keep hb (by omega), h.2.2⟩) ⟨Kept.refl _ _, c1, c2, fun j hj => absurd hj (by omega)⟩
  (fun q => { tmps := #[.agg #[.int .i64 (n : Nat), .int .i64 (mm : Nat), .int .i64 (kn : Nat), .int .i64 (vn : Nat), .int .i64 LM, .slice ao xs.length cap, .int .i64 (hh : Nat), .slice qo ys.length dap], .pointer (some ⟨w.heap.size, 0, none⟩), .pointer (some ⟨w.heap.size + 1, 0, none⟩), .pointer (some ⟨g1, 0, none⟩), undef, .int .i64 (p q : Nat), .agg #[.int .i64 (n : Nat), .int .i64 (mm : Nat), .int .i64 (kn : Nat), .int .i64 (vn : Nat), .int .i64 LM, .slice ao xs.length cap, .int .i64 (hh : Nat), .slice qo ys.length dap], .bool true, .bool false, .agg #[.int .i64 (n : Nat), .int .i64 (mm : Nat), .int .i64 (kn : Nat), .int .i64 (vn : Nat), .int .i64 LM, .slice ao xs.length cap, .int .i64 (hh : Nat), .slice qo ys.length dap], .func (.func 159) #[] #[.pointer (some ⟨g1 + 1, 0, none⟩), .pointer (some ⟨g1 + 2, 0, none⟩)], .int .i64 (q : Nat), .int .i64 (p q : Nat), undef, undef, undef, undef, undef, undef, undef, undef, undef, undef, undef], defers := [] }) ?assign ?body ?done ?stop
 case assign =>
  intro l1 q Wc K1 hK1
  gi_wp2
  exact hK1
 case body =>
  rintro l1 q Wc hq ⟨hk, cR, cN, hlt⟩ hz
  have m0 := (hk.cel c0 (by omega)).cell 0 rfl
  have r0 := cR.cell 0 rfl
  have r1 := cR.frozen 0
  have s0 := cN.cell 0 rfl
  have s1 := cN.frozen 0
  have pq := PL.out q hq
  have NS := hide9' (nx_succ p q)
  have NG : Hid (p q < nx p q ∨ n ≤ p q → ¬ Good n mm p) := fun h hG => by
   obtain ⟨g1, g2⟩ := hG q hq
   unfold nx at h
   split at h
   ·omega
   ·have := g2 (by omega)
    omega
  have NN : Hid (¬ (p q < nx p q ∨ n ≤ p q) → ∀ j, j < q + 1 → p j < n ∧ (0 < j → p (j - 1) < p j)) := fun h j hj => by
   by_cases e : j = q
   ·subst e
    unfold nx at h
    split at h
    ·exact ⟨by omega, fun h0 => by omega⟩
    ·exact ⟨by omega, fun h0 => by omega⟩
   ·exact hlt j (by omega)
  have HX : Hid (Kept (fun b => b ≠ w.heap.size + 1 ∧ b ≠ g1) Wc (Wc.setCell ⟨w.heap.size + 1, 0, none⟩ (.bool false)) ∧ Kept (fun b => b ≠ w.heap.size + 1 ∧ b ≠ g1) w' (Wc.setCell ⟨w.heap.size + 1, 0, none⟩ (.bool false)) ∧ Cel (Wc.setCell ⟨w.heap.size + 1, 0, none⟩ (.bool false)) (w.heap.size + 1) [.bool false] 4) := ⟨(Kept.refl _ _).setCell (fun h => h.1 rfl) _, hk.setCell (fun h => h.1 rfl) _, cR.set 0 _⟩
  have HY : Hid (Kept (fun b => b ≠ w.heap.size + 1 ∧ b ≠ g1) Wc (Wc.setCell ⟨g1, 0, none⟩ (.int .i64 ((p q : Int) + 1))) ∧ Kept (fun b => b ≠ w.heap.size + 1 ∧ b ≠ g1) w' (Wc.setCell ⟨g1, 0, none⟩ (.int .i64 ((p q : Int) + 1))) ∧ Cel (Wc.setCell ⟨g1, 0, none⟩ (.int .i64 ((p q : Int) + 1))) (w.heap.size + 1) [.bool false] 4 ∧ Cel (Wc.setCell ⟨g1, 0, none⟩ (.int .i64 ((p q : Int) + 1))) g1 [.int .i64 (nx p (q + 1) : Nat)] 3) := ⟨(Kept.refl _ _).setCell (fun h => h.2 rfl) _, hk.setCell (fun h => h.2 rfl) _, cR.other (show w.heap.size + 1 ≠ g1 by omega) _, by rw [NS.out, show ((p q + 1 : Nat) : Int) = (p q : Int) + 1 by omega]; exact cN.set 0 _⟩
  clear G hlt PL
  generalize nx p q = a at *
  by_cases h1 : p q < a
  ·have h12 : (p q : Int) < (a : Int) := by omega
   gi_wp2
   exact ⟨HX.out.1, HX.out.2.1, HX.out.2.2, NG.out (.inl h1)⟩
  ·have h12 : ¬ (p q : Int) < (a : Int) := by omega
   by_cases h2 : n ≤ p q
   ·have h22 : (n : Int) ≤ (p q : Int) := by omega
    gi_wp2
    exact ⟨HX.out.1, HX.out.2.1, HX.out.2.2, NG.out (.inr h2)⟩
   ·have h22 : ¬ (n : Int) ≤ (p q : Int) := by omega
    gi_wp2
    exact ⟨HY.out.1, HY.out.2.1, HY.out.2.2.1, HY.out.2.2.2, NN.out (by omega)⟩
 case done =>
  rintro D Wc hD ⟨hk, cR, cN, hlt⟩ hd
  have r0 := cR.cell 0 rfl
  have r1 := cR.frozen 0
  have hb := hide9' (((hk.below (B := w.heap.size) (fun x h => by omega) (by omega))).setCell (p := ⟨w.heap.size + 1, 0, none⟩) (show w.heap.size ≤ w.heap.size + 1 by omega) (.bool true))
  have cS := hide9' (cR.set 0 (.bool true))
  have hd2 := hide9' ((Below.heap_setCell Wc ⟨w.heap.size + 1, 0, none⟩ (.bool true) D (show D ≠ w.heap.size + 1 by omega)).trans hd)
  obtain rfl : B = true := HB.out.2 hlt
  clear hd hk hlt
  go_wp2
  have cR2 := (cS.out.put (.deferred none) (show w.heap.size + 1 ≠ D by omega)).cell 0 rfl
  exact marks_ret hd2.out (v := .bool true) (by simp [results, Tryz.results60, go_sem, cR2]) ⟨rfl, b4.trans (hb.out.trans (below_putObj (by omega) _))⟩
 case stop =>
  rintro D q Wc hD hq ⟨hk, cR, hn⟩ hd
  obtain rfl : B = false := Bool.eq_false_iff.2 fun h => hn (HB.out.1 h)
  go_wp2
  have cR2 := (cR.put (.deferred none) (show w.heap.size + 1 ≠ D by omega)).cell 0 rfl
  exact marks_ret hd (v := .bool false) (by simp [results, Tryz.results60, go_sem, cR2]) ⟨rfl, b4.trans ((hk.below (fun x h => by omega) (by omega)).trans (below_putObj (by omega) _))⟩
end Go.Proofs.YtpeecabfcgijhaaGreatDoor

namespace Go.Proofs.YtpeecabfcgijhaaGreatDoor
open Go.RowKit Go.Shelf Num Bit
set_option linter.unusedVariables false
set_option linter.unusedSimpArgs false
set_option maxRecDepth 100000

set_option maxHeartbeats 8000000 in
theorem gcheck_bad (a0 a1 a2 a3 a4 a5 a6 a7 : Value) (w : World) (FC : Hid (∀ w0, Below w.heap.size w w0 → Calls Tryz.prog 113 #[.agg #[a0, a1, a2, a3, a4, a5, a6, a7]] w0 fun e w' => e = .returned (.bool false) ∧ Below w0.heap.size w0 w')) :
  Calls Tryz.prog 60 #[.agg #[a0, a1, a2, a3, a4, a5, a6, a7]] w fun e w' => e = .returned (.bool false) ∧ Below w.heap.size w w' := by
 refine (callsIn_wide (n := 0)).1 (callsIn_of_wp_marks Tryz.func60 rfl trivial ?_)
 simp only [Tryz.ntmps60, List.size_toArray, List.length_cons, List.length_nil, Nat.reduceAdd, Nat.reduceSub, Array.replicate_succ, Array.replicate_zero, List.push_toArray, List.append_toArray, List.nil_append, List.cons_append]
 refine wpIn_wide.2 ?_
 obtain ⟨W1, hW1⟩ : ∃ W1, W1 = (w.alloc (.cells #[a0, a1, a2, a3, a4, a5, a6, a7] 35)).alloc (.cells #[.bool false] 4) := ⟨_, rfl⟩
 have b1 : Below w.heap.size w W1 := by rw [hW1]; exact ((below_alloc w _).alloc (by simp only [World.size_alloc]; omega) _)
 have c1 : Cel W1 (w.heap.size + 1) [.bool false] 4 := by rw [hW1]; exact Cel.new2 w _ _ _
 go_wp2_with fail
 rw [← hW1]
 clear hW1
 refine (FC.out _ b1).mono ?_
 rintro e wf ⟨rfl, hb⟩
 replace b1 := b1.trans (hb.mono b1.size)
 replace c1 := c1.kept hb
 have r0 := c1.cell 0 rfl
 have r1 := c1.frozen 0
 have HZ := hide9' (And.intro (c1.set 0 (.bool false)) (b1.setCell (p := ⟨w.heap.size + 1, 0, none⟩) (show w.heap.size ≤ w.heap.size + 1 by omega) (.bool false)))
 clear hb FC b1
 go_wp2
 have r2 := HZ.out.1.cell 0 rfl
 exact ⟨.bool false, by simp [results, Tryz.results60, go_sem, r2], rfl, HZ.out.2⟩
theorem kOk_nat (a : RA9) (h : kOk9 a = true) : ∃ (n mm kn vn hh : Nat) (LM : Int) (xs ys : List Nat), a = ⟨n, mm, kn, vn, LM, xs, hh, ys⟩ := by
 obtain ⟨_, e⟩ := kOk_row a h
 rw [e]
 exact ⟨_, _, _, _, _, _, _, _, rfl⟩
set_option maxHeartbeats 8000000 in
theorem check_k9 (cs : List Value) (a : RA9) (w : World) (h : KI9 w cs a) :
  Calls Tryz.prog 60 #[.agg cs.toArray] w fun e w' => e = .returned (.bool (kOk9 a)) ∧ Below w.heap.size w w' := by
 obtain ⟨⟨ao, cap, qo, dap, rfl, ir, a1, a2, a3, a4, a5, a6⟩, n3, xl, yl⟩ := h
 obtain ⟨N, M, k, V, LM, xs, H, ys⟩ := a
 dsimp only at *
 by_cases P1 : (0 ≤ M ∧ M ≤ N ∧ N ≤ 1048576) ∧ ichk k V LM xs = true ∧ chk H ys = true
 ·obtain ⟨⟨p1, p2, p3⟩, p4, p5⟩ := P1
  obtain ⟨v1, v2, v3, v4, v5, v6, v7, v8⟩ := ichk_out _ _ _ _ p4
  obtain ⟨u1, u2, u3, u4⟩ := chk_out _ _ p5
  obtain ⟨n, rfl⟩ := Int.eq_ofNat_of_zero_le (show 0 ≤ N by omega)
  obtain ⟨mm, rfl⟩ := Int.eq_ofNat_of_zero_le p1
  obtain ⟨kn, rfl⟩ := Int.eq_ofNat_of_zero_le v3
  obtain ⟨vn, rfl⟩ := Int.eq_ofNat_of_zero_le (show 0 ≤ V by omega)
  obtain ⟨hh, rfl⟩ := Int.eq_ofNat_of_zero_le u1
  have on : onesI (hh : Int) ys (hh : Int) = ((plc (bitAt ys) hh).length : Int) := by
   rw [plc_cnt]
   unfold onesI
   rw [p5, show min (hh : Int) (hh : Int) = (hh : Int) by omega, Int.toNat_natCast]
   rfl
  by_cases P2 : (kn : Int) = (loN n mm : Int) ∧ (vn : Int) = (max (wdF n mm) 1 : Nat) ∧ (hh : Int) = ((mm + n / 2 ^ wdF n mm + 1 : Nat) : Int) ∧ onesI (hh : Int) ys (hh : Int) = (mm : Int)
  ·obtain ⟨g1, g2, g3, g4⟩ := P2
   rw [on] at g4
   have F : Fits n mm kn vn LM xs hh ys := ⟨by omega, by omega, p4, p5, by omega, by omega, by omega, by omega⟩
   have FC : Hid (∀ w0, Below w.heap.size w w0 → Calls Tryz.prog 113 #[.agg #[.int .i64 (n : Nat), .int .i64 (mm : Nat), .int .i64 (kn : Nat), .int .i64 (vn : Nat), .int .i64 LM, .slice ao xs.length cap, .int .i64 (hh : Nat), .slice qo ys.length dap]] w0 fun e w' => e = .returned (.bool true) ∧ Below w0.heap.size w0 w') := fun w0 hb =>
    gfits_on n mm kn vn LM hh ao xs cap qo ys dap w0 (a1.keep hb) a2 (a4.keep hb) a5 a3 a6 (by omega) (by omega) p4 p5 true ⟨fun _ => ⟨g1, g2, g3, by rw [on]; exact g4⟩, fun _ => rfl⟩
   refine gcheck_fits n mm kn vn hh LM ao xs cap qo ys dap w F a1 a2 a4 a5 FC _ ⟨fun hk => ?_, fun hG => fits_ok n mm kn vn hh LM xs ys a2 a5 F hG⟩
   obtain ⟨_, hl, hg, hr⟩ := ok_fits n mm kn vn hh LM xs ys hk
   intro q hq
   rw [hg q hq]
   refine ⟨hr.1 q (by omega), fun h0 => ?_⟩
   rw [hg (q - 1) (by omega)]
   exact hr.lt (by omega) (by omega)
  ·have ko : kOk9 ⟨n, mm, kn, vn, LM, xs, hh, ys⟩ = false := Bool.eq_false_iff.2 fun hk => by
    obtain ⟨F, _⟩ := ok_fits n mm kn vn hh LM xs ys hk
    exact P2 ⟨by rw [F.hk], by rw [F.hv], by rw [F.hh], by rw [on, F.on]⟩
   rw [ko]
   refine gcheck_bad _ _ _ _ _ _ _ _ w fun w0 hb => ?_
   exact gfits_on n mm kn vn LM hh ao xs cap qo ys dap w0 (a1.keep hb) a2 (a4.keep hb) a5 a3 a6 (by omega) (by omega) p4 p5 false ⟨fun h => absurd h (by simp), fun h => absurd h P2⟩
 ·have ko : kOk9 ⟨N, M, k, V, LM, xs, H, ys⟩ = false := Bool.eq_false_iff.2 fun hk => by
   obtain ⟨n, mm, kn, vn, hh, LM', xs', ys', e⟩ := kOk_nat _ hk
   simp only [FA.mk.injEq] at e
   obtain ⟨rfl, rfl, rfl, rfl, rfl, rfl, rfl, rfl⟩ := e
   obtain ⟨F, _⟩ := ok_fits n mm kn vn hh LM xs ys hk
   exact P1 ⟨⟨by omega, by have := F.hm; omega, by have := F.hn; omega⟩, F.ik, F.ck⟩
  rw [ko]
  refine gcheck_bad _ _ _ _ _ _ _ _ w fun w0 hb => ?_
  exact gfits_bad N M k V LM H ao xs cap qo ys dap w0 (a1.keep hb) a2 (a4.keep hb) a5 a3 a6 P1
theorem check_is {w : World} {cs : List Value} {a : RA9} (h : KI9 w cs a) (b : Bool) (hb : kOk9 a = b) : Hid (∀ w0, Below w.heap.size w w0 → Calls Tryz.prog 60 #[.agg cs.toArray] w0 fun e w' => e = .returned (.bool b) ∧ Below w0.heap.size w0 w') := fun w0 hw => by
 have := check_k9 cs a w0 (h.keep hw)
 rw [hb] at this
 exact this
set_option maxHeartbeats 8000000 in
theorem bits_k9 (cs : List Value) (a : RA9) (w : World) (h : KI9 w cs a) :
  Calls Tryz.prog 63 #[.agg cs.toArray] w fun e w' => ∃ bo bc, e = .returned (.agg #[.int .i64 (kBN9 a), .slice bo (kBX9 a).length bc]) ∧ Wd w' bo (kBX9 a) ∧ (kBX9 a).length ≤ bc ∧ Below w.heap.size w w' := by
 cases hk : kOk9 a with
 | false =>
  have CC := check_is h false hk
  have e1 : kBN9 a = 0 := by unfold kBN9; rw [hk]; rfl
  have e2 : kBX9 a = [] := by unfold kBX9; rw [hk]; rfl
  rw [e1, e2]
  obtain ⟨⟨ao, cap, qo, dap, rfl, _⟩, _⟩ := h
  refine (gbits_bad _ _ _ _ _ _ _ _ w CC).mono ?_
  rintro e w' ⟨rfl, hb⟩
  exact ⟨none, 0, rfl, wd0' _ _, Nat.zero_le _, hb⟩
 | true =>
  have CC := check_is h true hk
  obtain ⟨n, mm, kn, vn, hh, LM, xs, ys, rfl⟩ := kOk_nat a hk
  obtain ⟨F, hl, hg, hr⟩ := ok_fits n mm kn vn hh LM xs ys hk
  have e1 : kBN9 ⟨n, mm, kn, vn, LM, xs, hh, ys⟩ = (n : Int) := by unfold kBN9; rw [if_pos hk]
  have e2 : kBX9 ⟨n, mm, kn, vn, LM, xs, hh, ys⟩ = rowOf n (isIn (kRow ⟨n, mm, kn, vn, LM, xs, hh, ys⟩)) := by unfold kBX9; rw [if_pos hk]; rfl
  rw [e1, e2]
  obtain ⟨⟨ao, cap, qo, dap, rfl, ir, a1, a2, a3, a4, a5, a6⟩, n3, xl, yl⟩ := h
  exact gbits_ok n mm kn vn hh LM ao xs cap qo ys dap _ w F a1 a2 a4 a5 hl hg hr CC
end Go.Proofs.YtpeecabfcgijhaaGreatDoor

namespace Go.Proofs.YtpeecabfcgijhaaGreatDoor
open Go.RowKit Go.Shelf Num Bit
set_option linter.unusedVariables false
set_option linter.unusedSimpArgs false
set_option maxRecDepth 100000

set_option maxHeartbeats 8000000 in
theorem access_k9 (cs : List Value) (a : RA9) (i : Int) (w : World) (h : KI9 w cs a) (hi : I64 i) :
  Calls Tryz.prog 34 #[.agg cs.toArray, .int .i64 i] w fun e w' => e = .returned (.tuple #[.bool (gaB (kOk9 a) (kBN9 a) (kBX9 a) i), .int .i64 (gaE (kOk9 a) (kBN9 a) (kBX9 a) i)]) ∧ Below w.heap.size w w' := by
 obtain ⟨P1, hP1⟩ : ∃ P : Bool, Hid (P = gaB (kOk9 a) (kBN9 a) (kBX9 a) i) := ⟨gaB (kOk9 a) (kBN9 a) (kBX9 a) i, (rfl : gaB (kOk9 a) (kBN9 a) (kBX9 a) i = gaB (kOk9 a) (kBN9 a) (kBX9 a) i)⟩
 obtain ⟨P2, hP2⟩ : ∃ P : Int, Hid (P = gaE (kOk9 a) (kBN9 a) (kBX9 a) i) := ⟨gaE (kOk9 a) (kBN9 a) (kBX9 a) i, (rfl : gaE (kOk9 a) (kBN9 a) (kBX9 a) i = gaE (kOk9 a) (kBN9 a) (kBX9 a) i)⟩
 rw [← hP1.out, ← hP2.out]
 cases hk : kOk9 a with
 | false =>
  have CC := check_is h false hk
  have E : Hid (P1 = false ∧ P2 = 2) := by
   show _ ∧ _
   rw [hP1.out, hP2.out]
   unfold gaB gaE
   rw [hk]
   exact ⟨rfl, rfl⟩
  obtain ⟨⟨ao, cap, qo, dap, rfl, _⟩, _⟩ := h
  obtain ⟨N, M, k, V, LM, xs, H, ys⟩ := a
  dsimp only at *
  clear hP1 hP2
  obtain ⟨W, hW⟩ : ∃ W, W = w.alloc (.cells #[.int .i64 N, .int .i64 M, .int .i64 k, .int .i64 V, .int .i64 LM, .slice ao xs.length cap, .int .i64 H, .slice qo ys.length dap] 35) := ⟨_, rfl⟩
  have bW : Below w.heap.size w W := by rw [hW]; exact below_alloc w _
  have B1 : Cel W w.heap.size [.int .i64 N, .int .i64 M, .int .i64 k, .int .i64 V, .int .i64 LM, .slice ao xs.length cap, .int .i64 H, .slice qo ys.length dap] 35 := by rw [hW]; exact Cel.new w _ _
  go_enter Tryz.func34, Tryz.ntmps34
  go_wp2_with fail
  rw [← hW]
  refine (CC.out _ bW).mono ?_
  rintro e w1 ⟨rfl, hb⟩
  have bw1 := bW.trans (hb.mono bW.size)
  replace B1 := B1.kept hb
  clear hb CC hW bW
  go_wp2
  go_ret2
  rw [E.out.1, E.out.2]
  exact ⟨rfl, bw1⟩
 | true =>
  have CC := check_is h true hk
  have hck := kB_chk9 a hk
  obtain ⟨n, mm, kn, vn, hh, LM, xs, ys, rfl⟩ := kOk_nat a hk
  obtain ⟨F, hl, hg, hr⟩ := ok_fits n mm kn vn hh LM xs ys hk
  have e1 : kBN9 ⟨n, mm, kn, vn, LM, xs, hh, ys⟩ = (n : Int) := by unfold kBN9; rw [if_pos hk]
  have e2 : kBX9 ⟨n, mm, kn, vn, LM, xs, hh, ys⟩ = rowOf n (isIn (kRow ⟨n, mm, kn, vn, LM, xs, hh, ys⟩)) := by unfold kBX9; rw [if_pos hk]; rfl
  rw [e1, e2] at hck
  rw [hk, e1, e2] at hP1
  rw [hk, e1, e2] at hP2
  generalize kRow ⟨n, mm, kn, vn, LM, xs, hh, ys⟩ = l at *
  obtain ⟨⟨ao, cap, qo, dap, rfl, ir, a1, a2, a3, a4, a5, a6⟩, n3, xl, yl⟩ := h
  dsimp only at *
  have nl := F.hn
  have ml := F.hm
  clear hk e1 e2 n3 xl yl ir
  obtain ⟨W, hW⟩ : ∃ W, W = w.alloc (.cells #[.int .i64 (n : Nat), .int .i64 (mm : Nat), .int .i64 (kn : Nat), .int .i64 (vn : Nat), .int .i64 LM, .slice ao xs.length cap, .int .i64 (hh : Nat), .slice qo ys.length dap] 35) := ⟨_, rfl⟩
  have bW : Below w.heap.size w W := by rw [hW]; exact below_alloc w _
  have B1 : Cel W w.heap.size [.int .i64 (n : Nat), .int .i64 (mm : Nat), .int .i64 (kn : Nat), .int .i64 (vn : Nat), .int .i64 LM, .slice ao xs.length cap, .int .i64 (hh : Nat), .slice qo ys.length dap] 35 := by rw [hW]; exact Cel.new w _ _
  by_cases i0 : i < 0 ∨ (n : Int) ≤ i
  ·have E : Hid (P1 = false ∧ P2 = 3) := by
    show _ ∧ _
    rw [hP1.out, hP2.out]
    unfold gaB gaE getB getE
    rw [hck, if_pos rfl, if_neg (by simp), if_pos i0, decide_eq_false (by omega)]
    exact ⟨rfl, rfl⟩
   clear hP1 hP2 hck hl hg hr F a1 a4 a2 a5
   rcases i0 with i0 | i0
   ·skip
    go_enter Tryz.func34, Tryz.ntmps34
    go_wp2_with fail
    rw [← hW]
    refine (CC.out _ bW).mono ?_
    rintro e w1 ⟨rfl, hb⟩
    have bw1 := bW.trans (hb.mono bW.size)
    replace B1 := B1.kept hb
    clear hb CC hW bW
    have q0 := B1.cell 0 rfl
    go_wp2
    go_ret2
    rw [E.out.1, E.out.2]
    exact ⟨rfl, bw1⟩
   ·skip
    have i1 : ¬ i < 0 := by omega
    go_enter Tryz.func34, Tryz.ntmps34
    go_wp2_with fail
    rw [← hW]
    refine (CC.out _ bW).mono ?_
    rintro e w1 ⟨rfl, hb⟩
    have bw1 := bW.trans (hb.mono bW.size)
    replace B1 := B1.kept hb
    clear hb CC hW bW
    have q0 := B1.cell 0 rfl
    go_wp2
    go_ret2
    rw [E.out.1, E.out.2]
    exact ⟨rfl, bw1⟩
  ·obtain ⟨j, rfl⟩ := Int.eq_ofNat_of_zero_le (show 0 ≤ i by omega)
   have E : Hid (P1 = isIn l j ∧ P2 = 0) := by
    show _ ∧ _
    rw [hP1.out, hP2.out]
    unfold gaB gaE getB getE
    rw [hck, if_pos rfl, if_neg (by simp), if_neg i0, decide_eq_true (by omega), Int.toNat_natCast, bit_row n l hr]
    exact ⟨rfl, rfl⟩
   have C2 : Hid (∀ w0, Below w.heap.size w w0 → Calls Tryz.prog 82 #[.agg #[.int .i64 (n : Nat), .int .i64 (mm : Nat), .int .i64 (kn : Nat), .int .i64 (vn : Nat), .int .i64 LM, .slice ao xs.length cap, .int .i64 (hh : Nat), .slice qo ys.length dap], .int .i64 (j : Nat)] w0 fun e w' => e = .returned (.bool (isIn l j)) ∧ Below w0.heap.size w0 w') := fun w0 hb => gisOne_c n mm kn vn hh LM ao xs cap qo ys dap l w0 F (a1.keep hb) a2 (a4.keep hb) a5 hl hg hr j (by omega)
   have i1 : ¬ (j : Int) < 0 := by omega
   have i2 : ¬ (n : Int) ≤ (j : Int) := by omega
   clear hP1 hP2 hck hl hg hr F a1 a4 a2 a5 i0
   go_enter Tryz.func34, Tryz.ntmps34
   go_wp2_with fail
   rw [← hW]
   refine (CC.out _ bW).mono ?_
   rintro e w1 ⟨rfl, hb⟩
   have bw1 := bW.trans (hb.mono bW.size)
   replace B1 := B1.kept hb
   clear hb CC hW bW
   have q0 := B1.cell 0 rfl
   have q1 := B1.cell 1 rfl
   have q2 := B1.cell 2 rfl
   have q3 := B1.cell 3 rfl
   have q4 := B1.cell 4 rfl
   have q5 := B1.cell 5 rfl
   have q6 := B1.cell 6 rfl
   have q7 := B1.cell 7 rfl
   go_wp2_with fail
   refine (C2.out _ bw1).mono ?_
   rintro e w2 ⟨rfl, hb⟩
   have bw2 := bw1.trans (hb.mono bw1.size)
   clear hb
   go_wp2
   go_ret2
   rw [E.out.1, E.out.2]
   exact ⟨rfl, bw2⟩
set_option maxHeartbeats 8000000 in
theorem rank_k9 (cs : List Value) (a : RA9) (bit : Bool) (i : Int) (w : World) (h : KI9 w cs a) (hi : I64 i) :
  Calls Tryz.prog 37 #[.agg cs.toArray, .bool bit, .int .i64 i] w fun e w' => e = .returned (.tuple #[.int .i64 (grN (kOk9 a) (kBN9 a) (kBX9 a) bit i), .int .i64 (grE (kOk9 a) (kBN9 a) i)]) ∧ Below w.heap.size w w' := by
 obtain ⟨P1, hP1⟩ : ∃ P : Int, Hid (P = grN (kOk9 a) (kBN9 a) (kBX9 a) bit i) := ⟨grN (kOk9 a) (kBN9 a) (kBX9 a) bit i, (rfl : grN (kOk9 a) (kBN9 a) (kBX9 a) bit i = grN (kOk9 a) (kBN9 a) (kBX9 a) bit i)⟩
 obtain ⟨P2, hP2⟩ : ∃ P : Int, Hid (P = grE (kOk9 a) (kBN9 a) i) := ⟨grE (kOk9 a) (kBN9 a) i, (rfl : grE (kOk9 a) (kBN9 a) i = grE (kOk9 a) (kBN9 a) i)⟩
 rw [← hP1.out, ← hP2.out]
 cases hk : kOk9 a with
 | false =>
  have CC := check_is h false hk
  have E : Hid (P1 = 0 ∧ P2 = 2) := by
   show _ ∧ _
   rw [hP1.out, hP2.out]
   unfold grN grE
   rw [hk]
   exact ⟨rfl, rfl⟩
  obtain ⟨⟨ao, cap, qo, dap, rfl, _⟩, _⟩ := h
  obtain ⟨N, M, k, V, LM, xs, H, ys⟩ := a
  dsimp only at *
  clear hP1 hP2
  obtain ⟨W, hW⟩ : ∃ W, W = w.alloc (.cells #[.int .i64 N, .int .i64 M, .int .i64 k, .int .i64 V, .int .i64 LM, .slice ao xs.length cap, .int .i64 H, .slice qo ys.length dap] 35) := ⟨_, rfl⟩
  have bW : Below w.heap.size w W := by rw [hW]; exact below_alloc w _
  have B1 : Cel W w.heap.size [.int .i64 N, .int .i64 M, .int .i64 k, .int .i64 V, .int .i64 LM, .slice ao xs.length cap, .int .i64 H, .slice qo ys.length dap] 35 := by rw [hW]; exact Cel.new w _ _
  go_enter Tryz.func37, Tryz.ntmps37
  go_wp2_with fail
  rw [← hW]
  refine (CC.out _ bW).mono ?_
  rintro e w1 ⟨rfl, hb⟩
  have bw1 := bW.trans (hb.mono bW.size)
  replace B1 := B1.kept hb
  clear hb CC hW bW
  go_wp2
  go_ret2
  rw [E.out.1, E.out.2]
  exact ⟨rfl, bw1⟩
 | true =>
  have CC := check_is h true hk
  have hck := kB_chk9 a hk
  obtain ⟨n, mm, kn, vn, hh, LM, xs, ys, rfl⟩ := kOk_nat a hk
  obtain ⟨F, hl, hg, hr⟩ := ok_fits n mm kn vn hh LM xs ys hk
  have e1 : kBN9 ⟨n, mm, kn, vn, LM, xs, hh, ys⟩ = (n : Int) := by unfold kBN9; rw [if_pos hk]
  have e2 : kBX9 ⟨n, mm, kn, vn, LM, xs, hh, ys⟩ = rowOf n (isIn (kRow ⟨n, mm, kn, vn, LM, xs, hh, ys⟩)) := by unfold kBX9; rw [if_pos hk]; rfl
  rw [e1, e2] at hck
  rw [hk, e1, e2] at hP1
  rw [hk, e1] at hP2
  generalize kRow ⟨n, mm, kn, vn, LM, xs, hh, ys⟩ = l at *
  obtain ⟨⟨ao, cap, qo, dap, rfl, ir, a1, a2, a3, a4, a5, a6⟩, n3, xl, yl⟩ := h
  dsimp only at *
  have nl := F.hn
  have ml := F.hm
  clear hk e1 e2 n3 xl yl ir
  obtain ⟨W, hW⟩ : ∃ W, W = w.alloc (.cells #[.int .i64 (n : Nat), .int .i64 (mm : Nat), .int .i64 (kn : Nat), .int .i64 (vn : Nat), .int .i64 LM, .slice ao xs.length cap, .int .i64 (hh : Nat), .slice qo ys.length dap] 35) := ⟨_, rfl⟩
  have bW : Below w.heap.size w W := by rw [hW]; exact below_alloc w _
  have B1 : Cel W w.heap.size [.int .i64 (n : Nat), .int .i64 (mm : Nat), .int .i64 (kn : Nat), .int .i64 (vn : Nat), .int .i64 LM, .slice ao xs.length cap, .int .i64 (hh : Nat), .slice qo ys.length dap] 35 := by rw [hW]; exact Cel.new w _ _
  by_cases i0 : i < 0 ∨ (n : Int) < i
  ·have E : Hid (P1 = 0 ∧ P2 = 3) := by
    show _ ∧ _
    rw [hP1.out, hP2.out]
    unfold grN grE
    rw [if_pos rfl, if_pos i0]
    exact ⟨rfl, rfl⟩
   clear hP1 hP2 hck hl hg hr F a1 a4 a2 a5
   rcases i0 with i0 | i0
   ·skip
    go_enter Tryz.func37, Tryz.ntmps37
    go_wp2_with fail
    rw [← hW]
    refine (CC.out _ bW).mono ?_
    rintro e w1 ⟨rfl, hb⟩
    have bw1 := bW.trans (hb.mono bW.size)
    replace B1 := B1.kept hb
    clear hb CC hW bW
    have q0 := B1.cell 0 rfl
    go_wp2
    go_ret2
    rw [E.out.1, E.out.2]
    exact ⟨rfl, bw1⟩
   ·skip
    have i1 : ¬ i < 0 := by omega
    go_enter Tryz.func37, Tryz.ntmps37
    go_wp2_with fail
    rw [← hW]
    refine (CC.out _ bW).mono ?_
    rintro e w1 ⟨rfl, hb⟩
    have bw1 := bW.trans (hb.mono bW.size)
    replace B1 := B1.kept hb
    clear hb CC hW bW
    have q0 := B1.cell 0 rfl
    go_wp2
    go_ret2
    rw [E.out.1, E.out.2]
    exact ⟨rfl, bw1⟩
  ·obtain ⟨j, rfl⟩ := Int.eq_ofNat_of_zero_le (show 0 ≤ i by omega)
   obtain ⟨c, hc⟩ : ∃ c, c = cntB (rowOf n (isIn l)) j := ⟨_, rfl⟩
   have cj : c ≤ j := by rw [hc]; exact cntB_le _ _
   have E : Hid (P1 = ((if bit then c else j - c : Nat) : Int) ∧ P2 = 0) := by
    show _ ∧ _
    rw [hP1.out, hP2.out]
    unfold grN grE
    rw [if_pos rfl, if_neg i0, if_pos rfl, Int.toNat_natCast]
    unfold cB
    rw [← hc]
    exact ⟨rfl, rfl⟩
   have C2 : Hid (∀ w0, Below w.heap.size w w0 → Calls Tryz.prog 86 #[.agg #[.int .i64 (n : Nat), .int .i64 (mm : Nat), .int .i64 (kn : Nat), .int .i64 (vn : Nat), .int .i64 LM, .slice ao xs.length cap, .int .i64 (hh : Nat), .slice qo ys.length dap], .int .i64 (j : Nat)] w0 fun e w' => e = .returned (.int .i64 (c : Nat)) ∧ Below w0.heap.size w0 w') := fun w0 hb => gones_c n mm kn vn hh LM ao xs cap qo ys dap l w0 F (a1.keep hb) a2 (a4.keep hb) a5 hl hg hr j (by omega) c (by rw [hc]; exact cut_cnt hr j)
   have C3 : Hid (∀ w0, Calls Tryz.prog 85 #[.bool bit, .int .i64 (j : Nat), .int .i64 (c : Nat)] w0 fun e w' => e = .returned (.int .i64 ((if bit then c else j - c : Nat) : Int)) ∧ w' = w0) := fun w0 => gofBit_c bit j c (by omega) cj w0
   have i1 : ¬ (j : Int) < 0 := by omega
   have i2 : ¬ (n : Int) < (j : Int) := by omega
   clear hP1 hP2 hck hl hg hr F a1 a4 a2 a5 i0 hc
   generalize (if bit then c else j - c : Nat) = R at *
   go_enter Tryz.func37, Tryz.ntmps37
   go_wp2_with fail
   rw [← hW]
   refine (CC.out _ bW).mono ?_
   rintro e w1 ⟨rfl, hb⟩
   have bw1 := bW.trans (hb.mono bW.size)
   replace B1 := B1.kept hb
   clear hb CC hW bW
   have q0 := B1.cell 0 rfl
   have q1 := B1.cell 1 rfl
   have q2 := B1.cell 2 rfl
   have q3 := B1.cell 3 rfl
   have q4 := B1.cell 4 rfl
   have q5 := B1.cell 5 rfl
   have q6 := B1.cell 6 rfl
   have q7 := B1.cell 7 rfl
   go_wp2_with fail
   refine (C2.out _ bw1).mono ?_
   rintro e w2 ⟨rfl, hb⟩
   have bw2 := bw1.trans (hb.mono bw1.size)
   clear hb
   go_wp2_with fail
   refine (C3.out _).mono ?_
   rintro e w3 ⟨rfl, h3⟩
   rw [h3]
   clear h3 w3
   go_wp2
   go_ret2
   rw [E.out.1, E.out.2]
   exact ⟨rfl, bw2⟩
set_option maxHeartbeats 8000000 in
theorem select_k9 (cs : List Value) (a : RA9) (bit : Bool) (k : Int) (w : World) (h : KI9 w cs a) (hi : I64 k) :
  Calls Tryz.prog 40 #[.agg cs.toArray, .bool bit, .int .i64 k] w fun e w' => e = .returned (.tuple #[.int .i64 (gsX (kOk9 a) (kBN9 a) (kBX9 a) bit k), .int .i64 (gsE (kOk9 a) (kBN9 a) (kBX9 a) bit k)]) ∧ Below w.heap.size w w' := by
 obtain ⟨P1, hP1⟩ : ∃ P : Int, Hid (P = gsX (kOk9 a) (kBN9 a) (kBX9 a) bit k) := ⟨gsX (kOk9 a) (kBN9 a) (kBX9 a) bit k, (rfl : gsX (kOk9 a) (kBN9 a) (kBX9 a) bit k = gsX (kOk9 a) (kBN9 a) (kBX9 a) bit k)⟩
 obtain ⟨P2, hP2⟩ : ∃ P : Int, Hid (P = gsE (kOk9 a) (kBN9 a) (kBX9 a) bit k) := ⟨gsE (kOk9 a) (kBN9 a) (kBX9 a) bit k, (rfl : gsE (kOk9 a) (kBN9 a) (kBX9 a) bit k = gsE (kOk9 a) (kBN9 a) (kBX9 a) bit k)⟩
 rw [← hP1.out, ← hP2.out]
 cases hk : kOk9 a with
 | false =>
  have CC := check_is h false hk
  have E : Hid (P1 = 0 ∧ P2 = 2) := by
   show _ ∧ _
   rw [hP1.out, hP2.out]
   unfold gsX gsE
   rw [hk]
   exact ⟨rfl, rfl⟩
  obtain ⟨⟨ao, cap, qo, dap, rfl, _⟩, _⟩ := h
  obtain ⟨N, M, k0, V, LM, xs, H, ys⟩ := a
  dsimp only at *
  clear hP1 hP2
  obtain ⟨W, hW⟩ : ∃ W, W = w.alloc (.cells #[.int .i64 N, .int .i64 M, .int .i64 k0, .int .i64 V, .int .i64 LM, .slice ao xs.length cap, .int .i64 H, .slice qo ys.length dap] 35) := ⟨_, rfl⟩
  have bW : Below w.heap.size w W := by rw [hW]; exact below_alloc w _
  have B1 : Cel W w.heap.size [.int .i64 N, .int .i64 M, .int .i64 k0, .int .i64 V, .int .i64 LM, .slice ao xs.length cap, .int .i64 H, .slice qo ys.length dap] 35 := by rw [hW]; exact Cel.new w _ _
  go_enter Tryz.func40, Tryz.ntmps40
  go_wp2_with fail
  rw [← hW]
  refine (CC.out _ bW).mono ?_
  rintro e w1 ⟨rfl, hb⟩
  have bw1 := bW.trans (hb.mono bW.size)
  replace B1 := B1.kept hb
  clear hb CC hW bW
  go_wp2
  go_ret2
  rw [E.out.1, E.out.2]
  exact ⟨rfl, bw1⟩
 | true =>
  have CC := check_is h true hk
  have hck := kB_chk9 a hk
  obtain ⟨n, mm, kn, vn, hh, LM, xs, ys, rfl⟩ := kOk_nat a hk
  obtain ⟨F, hl, hg, hr⟩ := ok_fits n mm kn vn hh LM xs ys hk
  have e1 : kBN9 ⟨n, mm, kn, vn, LM, xs, hh, ys⟩ = (n : Int) := by unfold kBN9; rw [if_pos hk]
  have e2 : kBX9 ⟨n, mm, kn, vn, LM, xs, hh, ys⟩ = rowOf n (isIn (kRow ⟨n, mm, kn, vn, LM, xs, hh, ys⟩)) := by unfold kBX9; rw [if_pos hk]; rfl
  rw [e1, e2] at hck
  rw [hk, e1, e2] at hP1
  rw [hk, e1, e2] at hP2
  generalize kRow ⟨n, mm, kn, vn, LM, xs, hh, ys⟩ = l at *
  obtain ⟨⟨ao, cap, qo, dap, rfl, ir, a1, a2, a3, a4, a5, a6⟩, n3, xl, yl⟩ := h
  dsimp only at *
  have nl := F.hn
  have ml := F.hm
  clear hk e1 e2 n3 xl yl ir
  obtain ⟨W, hW⟩ : ∃ W, W = w.alloc (.cells #[.int .i64 (n : Nat), .int .i64 (mm : Nat), .int .i64 (kn : Nat), .int .i64 (vn : Nat), .int .i64 LM, .slice ao xs.length cap, .int .i64 (hh : Nat), .slice qo ys.length dap] 35) := ⟨_, rfl⟩
  have bW : Below w.heap.size w W := by rw [hW]; exact below_alloc w _
  have B1 : Cel W w.heap.size [.int .i64 (n : Nat), .int .i64 (mm : Nat), .int .i64 (kn : Nat), .int .i64 (vn : Nat), .int .i64 LM, .slice ao xs.length cap, .int .i64 (hh : Nat), .slice qo ys.length dap] 35 := by rw [hW]; exact Cel.new w _ _
  have all : cB (rowOf n (isIn l)) bit n = if bit then mm else n - mm := by
   unfold cB
   rw [cut_all hr, hl]
  have IFF := psel_iff (n : Int) (rowOf n (isIn l)) bit k
  rw [Int.toNat_natCast, all] at IFF
  have C3 : Hid (∀ w0, Calls Tryz.prog 85 #[.bool bit, .int .i64 (n : Nat), .int .i64 (mm : Nat)] w0 fun e w' => e = .returned (.int .i64 ((if bit then mm else n - mm : Nat) : Int)) ∧ w' = w0) := fun w0 => gofBit_c bit n mm nl ml w0
  obtain ⟨R, hR⟩ : ∃ R, Hid (R = if bit then mm else n - mm) := ⟨_, rfl⟩
  rw [← hR.out] at IFF C3
  have RR : R ≤ 1048576 := by rw [hR.out]; split <;> omega
  by_cases i0 : k < 0 ∨ (R : Int) ≤ k
  ·have E : Hid (P1 = 0 ∧ P2 = 3) := by
    show _ ∧ _
    have hn : pselO (n : Int) (rowOf n (isIn l)) bit k = none := by
     cases e : pselO (n : Int) (rowOf n (isIn l)) bit k with
     | none => rfl
     | some x =>
      rw [e] at IFF
      have := IFF.1 rfl
      omega
    rw [hP1.out, hP2.out]
    unfold gsX gsE
    rw [hn]
    exact ⟨rfl, rfl⟩
   clear hP1 hP2 hck hl hg hr F a1 a4 a2 a5 IFF all
   rcases i0 with i0 | i0
   ·skip
    go_enter Tryz.func40, Tryz.ntmps40
    go_wp2_with fail
    rw [← hW]
    refine (CC.out _ bW).mono ?_
    rintro e w1 ⟨rfl, hb⟩
    have bw1 := bW.trans (hb.mono bW.size)
    replace B1 := B1.kept hb
    clear hb CC hW bW
    have q0 := B1.cell 0 rfl
    have q1 := B1.cell 1 rfl
    go_wp2
    go_ret2
    rw [E.out.1, E.out.2]
    exact ⟨rfl, bw1⟩
   ·by_cases i1 : k < 0
    ·skip
     go_enter Tryz.func40, Tryz.ntmps40
     go_wp2_with fail
     rw [← hW]
     refine (CC.out _ bW).mono ?_
     rintro e w1 ⟨rfl, hb⟩
     have bw1 := bW.trans (hb.mono bW.size)
     replace B1 := B1.kept hb
     clear hb CC hW bW
     have q0 := B1.cell 0 rfl
     have q1 := B1.cell 1 rfl
     go_wp2
     go_ret2
     rw [E.out.1, E.out.2]
     exact ⟨rfl, bw1⟩
    ·skip
     go_enter Tryz.func40, Tryz.ntmps40
     go_wp2_with fail
     rw [← hW]
     refine (CC.out _ bW).mono ?_
     rintro e w1 ⟨rfl, hb⟩
     have bw1 := bW.trans (hb.mono bW.size)
     replace B1 := B1.kept hb
     clear hb CC hW bW
     have q0 := B1.cell 0 rfl
     have q1 := B1.cell 1 rfl
     go_wp2_with fail
     refine (C3.out _).mono ?_
     rintro e w3 ⟨rfl, h3⟩
     rw [h3]
     clear h3 w3
     go_wp2
     go_ret2
     rw [E.out.1, E.out.2]
     exact ⟨rfl, bw1⟩
  ·obtain ⟨j, rfl⟩ := Int.eq_ofNat_of_zero_le (show 0 ≤ k by omega)
   have jR : j < R := by omega
   have C2 : ∃ p : Nat, Hid (P1 = (p : Int) ∧ P2 = 0) ∧ Hid (∀ w0, Below w.heap.size w w0 → Calls Tryz.prog 89 #[.agg #[.int .i64 (n : Nat), .int .i64 (mm : Nat), .int .i64 (kn : Nat), .int .i64 (vn : Nat), .int .i64 LM, .slice ao xs.length cap, .int .i64 (hh : Nat), .slice qo ys.length dap], .bool bit, .int .i64 (j : Nat)] w0 fun e w' => e = .returned (.int .i64 (p : Nat)) ∧ Below w0.heap.size w0 w') := by
    have key : ∀ p, pselO (n : Int) (rowOf n (isIn l)) bit (j : Int) = some p → P1 = (p : Int) ∧ P2 = 0 := fun p hp => by
     rw [hP1.out, hP2.out]
     unfold gsX gsE
     rw [hp]
     exact ⟨rfl, rfl⟩
    cases bit with
    | true =>
     have hR' : R = mm := hR.out
     obtain ⟨b1, b2⟩ := cut_one hr j (by omega)
     have b3 := hr.1 j (by omega)
     refine ⟨gt l j, key _ (psel_some _ _ _ _ _ (by rw [Int.toNat_natCast]; exact b3) ?_), fun w0 hb => gsought1_c n mm kn vn hh LM ao xs cap qo ys dap l w0 F (a1.keep hb) a2 (a4.keep hb) a5 hl hg hr j (by omega)⟩
     unfold here cB
     rw [b1, if_pos rfl, b2]
     simp
    | false =>
     have hR' : R = n - mm := hR.out
     obtain ⟨c, hc, b1, b2, b3⟩ := cut_zero hr j (by rw [hl]; omega)
     refine ⟨j + c, key _ (psel_some _ _ _ _ _ (by rw [Int.toNat_natCast]; exact b1) ?_), fun w0 hb => gsought0_c n mm kn vn hh LM ao xs cap qo ys dap l w0 F (a1.keep hb) a2 (a4.keep hb) a5 hl hg hr j (by omega) c hc⟩
     unfold here cB
     rw [b2, if_neg (by simp), b3]
     simp
   obtain ⟨p, E, C2⟩ := C2
   have i1 : ¬ (j : Int) < 0 := by omega
   have i2 : ¬ (R : Int) ≤ (j : Int) := by omega
   clear hP1 hP2 hck hl hg hr F a1 a4 a2 a5 i0 IFF all hR jR
   go_enter Tryz.func40, Tryz.ntmps40
   go_wp2_with fail
   rw [← hW]
   refine (CC.out _ bW).mono ?_
   rintro e w1 ⟨rfl, hb⟩
   have bw1 := bW.trans (hb.mono bW.size)
   replace B1 := B1.kept hb
   clear hb CC hW bW
   have q0 := B1.cell 0 rfl
   have q1 := B1.cell 1 rfl
   have q2 := B1.cell 2 rfl
   have q3 := B1.cell 3 rfl
   have q4 := B1.cell 4 rfl
   have q5 := B1.cell 5 rfl
   have q6 := B1.cell 6 rfl
   have q7 := B1.cell 7 rfl
   go_wp2_with fail
   refine (C3.out _).mono ?_
   rintro e w3 ⟨rfl, h3⟩
   rw [h3]
   clear h3 w3
   go_wp2_with fail
   refine (C2.out _ bw1).mono ?_
   rintro e w2 ⟨rfl, hb⟩
   have bw2 := bw1.trans (hb.mono bw1.size)
   clear hb
   go_wp2
   go_ret2
   rw [E.out.1, E.out.2]
   exact ⟨rfl, bw2⟩
end Go.Proofs.YtpeecabfcgijhaaGreatDoor

namespace Go.Proofs.YtpeecabfcgijhaaGreatDoor
open Go.RowKit Go.Shelf Num Bit
set_option linter.unusedVariables false
set_option linter.unusedSimpArgs false
set_option maxRecDepth 100000

theorem ginfo_f : (Tryz.prog.info? 35).map (·.size) = some 8 := by kernel_rfl
set_option maxHeartbeats 8000000 in
theorem gbuild_bad (N : Int) (ao : Option Addr) (xs : List Nat) (cap : Nat) (w : World) (hx : Wd w ao xs) (hk : chk N xs = false) :
  Calls Tryz.prog 30 #[.agg #[.int .i64 N, .slice ao xs.length cap]] w fun e w' => e = .returned (.tuple #[.agg #[.int .i64 0, .int .i64 0, .int .i64 0, .int .i64 0, .int .i64 0, .slice none 0 0, .int .i64 0, .slice none 0 0], .int .i64 2]) ∧ Below w.heap.size w w' := by
 have CC : Hid (∀ w0, Below w.heap.size w w0 → Calls Tryz.prog 64 #[.agg #[.int .i64 N, .slice ao xs.length cap]] w0 fun e w' => e = .returned (.bool false) ∧ Below w0.heap.size w0 w') := fun w0 hb => by
  have := check_c N ao xs cap w0 (hx.keep hb)
  rw [hk] at this
  exact this
 obtain ⟨W1, hW1⟩ : ∃ W1, W1 = (w.alloc (.cells #[.int .i64 N, .slice ao xs.length cap] 24)).alloc (.cells #[.int .i64 0, .int .i64 0, .int .i64 0, .int .i64 0, .int .i64 0, .slice none 0 0, .int .i64 0, .slice none 0 0] 35) := ⟨_, rfl⟩
 have b1 : Below w.heap.size w W1 := by rw [hW1]; exact ((below_alloc w _).alloc (by simp only [World.size_alloc]; omega) _)
 have c1 : Cel W1 (w.heap.size + 1) [.int .i64 0, .int .i64 0, .int .i64 0, .int .i64 0, .int .i64 0, .slice none 0 0, .int .i64 0, .slice none 0 0] 35 := by rw [hW1]; exact Cel.new2 w _ _ _
 go_enter Tryz.func30, Tryz.ntmps30
 go_wp2_with fail
 rw [← hW1]
 clear hW1 hx
 refine (CC.out _ b1).mono ?_
 rintro e wf ⟨rfl, hb⟩
 replace b1 := b1.trans (hb.mono b1.size)
 replace c1 := c1.kept hb
 clear hb CC
 go_wp2_with (refine store_cel (w.heap.size + 1) [.int .i64 0, .int .i64 0, .int .i64 0, .int .i64 0, .int .i64 0, .slice none 0 0, .int .i64 0, .slice none 0 0] [.int .i64 0, .int .i64 0, .int .i64 0, .int .i64 0, .int .i64 0, .slice none 0 0, .int .i64 0, .slice none 0 0] rfl rfl c1 rfl ginfo_f (by simp [Value.oneCell']) ?_)
 intro w3 B3 O3
 have HZ := hide9' (And.intro B3 (b1.trans (O3.below (Nat.le_succ _))))
 clear B3 O3 b1 c1
 go_wp2
 (try simp only [Exit.inBlock, Exit.then])
 exact bodyPost_ret (result_cel rfl (w.heap.size + 1) _ rfl HZ.out.1 Tryz.underlying35 ginfo_f) rfl ⟨rfl, HZ.out.2⟩
set_option maxHeartbeats 16000000 in
theorem gbuild_ok (n : Nat) (ao : Option Addr) (xs : List Nat) (cap : Nat) (w : World) (m : Nat) (k V LM H : Int) (LX LY : List Nat) (xn yn : Nat) (hxn : xn = LX.length) (hyn : yn = LY.length)
  (CC : Hid (∀ w0, Below w.heap.size w w0 → Calls Tryz.prog 64 #[.agg #[.int .i64 (n : Nat), .slice ao xs.length cap]] w0 fun e w' => e = .returned (.bool true) ∧ Below w0.heap.size w0 w'))
  (CO : Hid (∀ w0, Below w.heap.size w w0 → Calls Tryz.prog 73 #[.agg #[.int .i64 (n : Nat), .slice ao xs.length cap], .int .i64 (n : Nat)] w0 fun e w' => e = .returned (.int .i64 (m : Nat)) ∧ Below w0.heap.size w0 w'))
  (CL : Hid (∀ w0, Below w.heap.size w w0 → Calls Tryz.prog 74 #[.agg #[.int .i64 (n : Nat), .slice ao xs.length cap], .int .i64 (m : Nat)] w0 fun e w' => ∃ bo bc, e = .returned (.tuple #[.agg #[.int .i64 k, .int .i64 V, .int .i64 LM, .slice bo xn bc], .int .i64 0]) ∧ Wd w' bo LX ∧ xn ≤ bc ∧ Below w0.heap.size w0 w'))
  (CH : Hid (∀ w0, Below w.heap.size w w0 → Calls Tryz.prog 75 #[.agg #[.int .i64 (n : Nat), .slice ao xs.length cap], .int .i64 (m : Nat)] w0 fun e w' => ∃ qo qc, e = .returned (.tuple #[.agg #[.int .i64 H, .slice qo yn qc], .int .i64 0]) ∧ Wd w' qo LY ∧ yn ≤ qc ∧ Below w0.heap.size w0 w')) :
  Calls Tryz.prog 30 #[.agg #[.int .i64 (n : Nat), .slice ao xs.length cap]] w fun e w' => ∃ bo bc qo qc, e = .returned (.tuple #[.agg #[.int .i64 (n : Nat), .int .i64 (m : Nat), .int .i64 k, .int .i64 V, .int .i64 LM, .slice bo xn bc, .int .i64 H, .slice qo yn qc], .int .i64 0]) ∧ Wd w' bo LX ∧ xn ≤ bc ∧ Wd w' qo LY ∧ yn ≤ qc ∧ Below w.heap.size w w' := by
 have HX := hide9' hxn
 have HY := hide9' hyn
 clear hxn hyn
 obtain ⟨W1, hW1⟩ : ∃ W1, W1 = (w.alloc (.cells #[.int .i64 (n : Nat), .slice ao xs.length cap] 24)).alloc (.cells #[.int .i64 0, .int .i64 0, .int .i64 0, .int .i64 0, .int .i64 0, .slice none 0 0, .int .i64 0, .slice none 0 0] 35) := ⟨_, rfl⟩
 have b1 : Below w.heap.size w W1 := by rw [hW1]; exact ((below_alloc w _).alloc (by simp only [World.size_alloc]; omega) _)
 have c0 : Cel W1 w.heap.size [.int .i64 (n : Nat), .slice ao xs.length cap] 24 := by rw [hW1]; exact (Cel.new w _ _).alloc _
 have c1 : Cel W1 (w.heap.size + 1) [.int .i64 0, .int .i64 0, .int .i64 0, .int .i64 0, .int .i64 0, .slice none 0 0, .int .i64 0, .slice none 0 0] 35 := by rw [hW1]; exact Cel.new2 w _ _ _
 go_enter Tryz.func30, Tryz.ntmps30
 go_wp2_with fail
 rw [← hW1]
 clear hW1
 refine (CC.out _ b1).mono ?_
 rintro e wf ⟨rfl, hb⟩
 replace b1 := b1.trans (hb.mono b1.size)
 replace c0 := c0.kept hb
 replace c1 := c1.kept hb
 clear hb CC
 have q0 := c0.cell 0 rfl
 have q1 := c0.cell 1 rfl
 go_wp2_with fail
 refine (CO.out _ b1).mono ?_
 rintro e w2 ⟨rfl, hb⟩
 replace b1 := b1.trans (hb.mono b1.size)
 replace c0 := c0.kept hb
 replace c1 := c1.kept hb
 clear hb CO q0 q1
 have q0 := c0.cell 0 rfl
 have q1 := c0.cell 1 rfl
 go_wp2_with fail
 refine (CL.out _ b1).mono ?_
 rintro e w3 ⟨bo, bc, rfl, hX, hxc, hb⟩
 replace b1 := b1.trans (hb.mono b1.size)
 replace c0 := c0.kept hb
 replace c1 := c1.kept hb
 clear hb CL q0 q1
 have bA := below_alloc w3 (.cells #[.int .i64 k, .int .i64 V, .int .i64 LM, .slice bo xn bc] 31)
 have d5 := Cel.new w3 [.int .i64 k, .int .i64 V, .int .i64 LM, .slice bo xn bc] 31
 have d0 := c0.kept bA
 have d1 := c1.kept bA
 have hX2 := hX.keep bA
 have b2 := b1.trans (bA.mono b1.size)
 have q0 := d0.cell 0 rfl
 have q1 := d0.cell 1 rfl
 go_wp2_with fail
 refine (CH.out _ b2).mono ?_
 rintro e w4 ⟨qo, qc, rfl, hY, hyc, hb⟩
 replace b2 := b2.trans (hb.mono b2.size)
 replace d0 := d0.kept hb
 replace d1 := d1.kept hb
 replace d5 := d5.kept hb
 replace hX2 := hX2.keep hb
 clear hb CH q0 q1 bA b1 c0 c1 hX
 have bA := below_alloc w4 (.cells #[.int .i64 H, .slice qo yn qc] 24)
 have e7 := Cel.new w4 [.int .i64 H, .slice qo yn qc] 24
 have e0 := d0.kept bA
 have e1 := d1.kept bA
 have e5 := d5.kept bA
 have hX3 := hX2.keep bA
 have hY3 := hY.keep bA
 have b3 := b2.trans (bA.mono b2.size)
 have q0 := e0.cell 0 rfl
 clear bA d0 d1 d5 hX2 hY b2
 have ne1 := hX3.apart e1 (by intro v hv n; simp at hv; rcases hv with rfl | rfl | rfl | rfl <;> simp)
 have ne2 := hY3.apart e1 (by intro v hv n; simp at hv; rcases hv with rfl | rfl | rfl | rfl <;> simp)
 generalize w3.heap.size = g5 at *
 go_wp2_with (first | refine load_cel g5 _ rfl e5 Tryz.underlying31 ginfo_i ?_ | refine load_cel w4.heap.size _ rfl e7 Tryz.underlying24 ginfo_b ?_ | refine store_cel (w.heap.size + 1) [.int .i64 0, .int .i64 0, .int .i64 0, .int .i64 0, .int .i64 0, .slice none 0 0, .int .i64 0, .slice none 0 0] [.int .i64 (n : Nat), .int .i64 (m : Nat), .int .i64 k, .int .i64 V, .int .i64 LM, .slice bo xn bc, .int .i64 H, .slice qo yn qc] rfl rfl e1 rfl ginfo_f (by simp [Value.oneCell']) ?_)
 intro w5 B3 O3
 have HZ := hide9' (And.intro B3 (And.intro (O3.wd hX3 ne1) (And.intro (O3.wd hY3 ne2) (b3.trans (O3.below (Nat.le_succ _))))))
 clear B3 O3 hX3 hY3 b3 e0 e1 e5 e7 ne1 ne2
 go_wp2
 (try simp only [Exit.inBlock, Exit.then])
 exact bodyPost_ret (result_cel rfl (w.heap.size + 1) _ rfl HZ.out.1 Tryz.underlying35 ginfo_f) rfl ⟨bo, bc, qo, qc, rfl, HZ.out.2.1, hxc, HZ.out.2.2.1, hyc, HZ.out.2.2.2⟩
theorem build_k9 (N : Int) (ao : Option Addr) (xs : List Nat) (cap : Nat) (w : World) (hN : I64 N) (hx : Wd w ao xs) (hf : Fit xs) (hcap : xs.length ≤ cap) (hl : N ≤ 3000 ∧ xs.length ≤ 1048576) :
  Calls Tryz.prog 30 #[.agg #[.int .i64 N, .slice ao xs.length cap]] w fun e w' => ∃ cs : List Value, e = .returned (.tuple #[.agg cs.toArray, .int .i64 (kE9 N xs)]) ∧ KI9 w' cs (kB9 N xs) ∧ Below w.heap.size w w' := by
 have z : I64 0 := ⟨by decide, by decide⟩
 cases hk : chk N xs with
 | false =>
  refine (gbuild_bad N ao xs cap w hx hk).mono ?_
  rintro e w' ⟨rfl, hb⟩
  have e1 : kE9 N xs = 2 := by unfold kE9; rw [hk]; rfl
  have e2 : kB9 N xs = ⟨0, 0, 0, 0, 0, [], 0, []⟩ := by unfold kB9; rw [hk]; rfl
  rw [e1, e2]
  have f0 : Fit [] := fun i => by unfold gt; simp
  exact ⟨_, rfl, ⟨⟨none, 0, none, 0, rfl, ⟨z, z, z, z, z, z⟩, wd0' _ _, f0, Nat.le_refl _, wd0' _ _, f0, Nat.le_refl _⟩, by decide, by simp, by simp⟩, hb⟩
 | true =>
  obtain ⟨u1, u2, u3, u4⟩ := chk_out _ _ hk
  obtain ⟨n, rfl⟩ := Int.eq_ofNat_of_zero_le u1
  have hn : n ≤ 3000 := by omega
  obtain ⟨L, hL⟩ : ∃ L, L = plc (bitAt xs) n := ⟨_, rfl⟩
  obtain ⟨v, hv⟩ : ∃ v, v = wdF n L.length := ⟨_, rfl⟩
  have RS : Rise L n := by rw [hL]; exact plc_rise _ _
  have mn := RS.len
  have v20 : v ≤ 20 := by rw [hv]; exact wdF_le n _ (by omega)
  have e1 : kE9 (n : Int) xs = 0 := by unfold kE9; rw [hk]; rfl
  have e2 : kB9 (n : Int) xs = ⟨n, L.length, (loP L v).length, (max v 1 : Nat), ((loP L v).length : Int) * (max v 1 : Nat), mkS (loP L v) (max v 1) (loP L v).length, hiN L n v, rowOf (hiN L n v) (isIn (hiP L v))⟩ := by
   unfold kB9
   rw [if_pos hk, Int.toNat_natCast, ← hL]
   unfold fOf
   rw [← hv]
  have CC : Hid (∀ w0, Below w.heap.size w w0 → Calls Tryz.prog 64 #[.agg #[.int .i64 (n : Nat), .slice ao xs.length cap]] w0 fun e w' => e = .returned (.bool true) ∧ Below w0.heap.size w0 w') := fun w0 hb => by
   have := check_c n ao xs cap w0 (hx.keep hb)
   rw [hk] at this
   exact this
  have CO : Hid (∀ w0, Below w.heap.size w w0 → Calls Tryz.prog 73 #[.agg #[.int .i64 (n : Nat), .slice ao xs.length cap], .int .i64 (n : Nat)] w0 fun e w' => e = .returned (.int .i64 (L.length : Nat)) ∧ Below w0.heap.size w0 w') := fun w0 hb => by
   have := bones_c n ao xs cap n w0 (hx.keep hb) hf hcap
   have on : onesI (n : Int) xs (n : Int) = (L.length : Int) := by
    rw [hL, plc_cnt]
    unfold onesI
    rw [hk, show min (n : Int) (n : Int) = (n : Int) by omega, Int.toNat_natCast]
    rfl
   rw [on] at this
   exact this
  have CL : Hid (∀ w0, Below w.heap.size w w0 → Calls Tryz.prog 74 #[.agg #[.int .i64 (n : Nat), .slice ao xs.length cap], .int .i64 (L.length : Nat)] w0 fun e w' => ∃ bo bc, e = .returned (.tuple #[.agg #[.int .i64 ((loP L v).length : Nat), .int .i64 (max v 1 : Nat), .int .i64 (((loP L v).length : Int) * (max v 1 : Nat)), .slice bo (mkS (loP L v) (max v 1) (loP L v).length).length bc], .int .i64 0]) ∧ Wd w' bo (mkS (loP L v) (max v 1) (loP L v).length) ∧ (mkS (loP L v) (max v 1) (loP L v).length).length ≤ bc ∧ Below w0.heap.size w0 w') := fun w0 hb => by
   by_cases c : v = 0
   ·refine (glowOf_0 n ao xs cap w0 L.length hn mn (by rw [← hv]; exact c)).mono ?_
    rintro e w' ⟨bo, bc, rfl, hb2⟩
    subst c
    have e3 : loP L 0 = [] := rfl
    have e4 : mkS [] 1 0 = [] := by unfold mkS; rfl
    rw [e3]
    exact ⟨bo, bc, rfl, wd0' _ _, Nat.zero_le _, hb2⟩
   ·refine (glowOf_v n ao xs cap w0 (hx.keep hb) hf hk hn L hL L.length v rfl hv (by omega)).mono ?_
    rintro e w' ⟨g, k, rfl, hk2, hO, hb2⟩
    have e3 : (loP L v).length = L.length := length_loP L v (by omega)
    have e4 : max v 1 = v := by omega
    rw [e3, e4]
    exact ⟨some ⟨g, 0, none⟩, k, by rw [hk2], hO.wd, by rw [hk2]; exact Nat.le_refl _, hb2⟩
  have CH : Hid (∀ w0, Below w.heap.size w w0 → Calls Tryz.prog 75 #[.agg #[.int .i64 (n : Nat), .slice ao xs.length cap], .int .i64 (L.length : Nat)] w0 fun e w' => ∃ qo qc, e = .returned (.tuple #[.agg #[.int .i64 (hiN L n v : Nat), .slice qo (rowOf (hiN L n v) (isIn (hiP L v))).length qc], .int .i64 0]) ∧ Wd w' qo (rowOf (hiN L n v) (isIn (hiP L v))) ∧ (rowOf (hiN L n v) (isIn (hiP L v))).length ≤ qc ∧ Below w0.heap.size w0 w') := fun w0 hb => by
   refine (ghighOf_c n ao xs cap w0 (hx.keep hb) hf hk hn L hL L.length v (hiN L n v) ((hiN L n v + 63) / 64) rfl hv rfl rfl).mono ?_
   rintro e w' ⟨g, rfl, hO, _, hb2⟩
   exact ⟨some ⟨g, 0, none⟩, _, by rw [length_rowOf], hO.wd, by rw [length_rowOf]; exact Nat.le_refl _, hb2⟩
  refine (gbuild_ok n ao xs cap w L.length _ _ _ _ _ _ _ _ rfl rfl CC CO CL CH).mono ?_
  rintro e w' ⟨bo, bc, qo, qc, rfl, p1, p2, p3, p4, hb⟩
  rw [e1, e2]
  have l1 := length_lo_le L v
  have hE : n / 2 ^ v ≤ n := Nat.div_le_self _ _
  have l2 : hiN L n v ≤ 6001 := by unfold hiN; omega
  have l3 : (loP L v).length * max v 1 ≤ 3000 * 20 := Nat.mul_le_mul (by omega) (by omega)
  have l4 : (mkS (loP L v) (max v 1) (loP L v).length).length ≤ 1048576 := by rw [length_mkS]; omega
  have l5 : (rowOf (hiN L n v) (isIn (hiP L v))).length ≤ 1048576 := by rw [length_rowOf]; omega
  have i1 : I64 (n : Int) := ⟨by omega, by omega⟩
  have i2 : I64 (L.length : Int) := ⟨by omega, by omega⟩
  have i3 : I64 ((loP L v).length : Int) := ⟨by omega, by omega⟩
  have i5 : I64 ((max v 1 : Nat) : Int) := ⟨by omega, by omega⟩
  have i6 : I64 (hiN L n v : Int) := ⟨by omega, by omega⟩
  have i4 : I64 (((loP L v).length : Int) * (max v 1 : Nat)) := by
   rw [← Int.natCast_mul]
   exact ⟨by omega, by omega⟩
  exact ⟨_, rfl, ⟨⟨bo, bc, qo, qc, rfl, ⟨i1, i2, i3, i5, i4, i6⟩, p1, fit_mkS _ _ _, p2, p3, fit_rowOf _ _, p4⟩, hl.1, l4, l5⟩, hb⟩
end Go.Proofs.YtpeecabfcgijhaaGreatDoor
