/-
  The contract of the program's Bits. The contract of the document's 'of' of layer 9.
-/
import Derived.Test.YtpeecabfcgijhaaGreatDoorM12
import Derived.Test.YtpeecabfcgijhaaGreatDoorM07
import Derived.Test.YtpeecabfcgijhaaGreatDoorM10
import Derived.Test.YtpeecabfcgijhaaGreatDoorM11
import Derived.Test.YtpeecabfcgijhaaGreatDoorM02
import Derived.Deep.DeepCutAuto
namespace Go.Proofs.YtpeecabfcgijhaaGreatDoor
open Go.RowKit Go.Shelf Num Bit
set_option linter.unusedVariables false
set_option linter.unusedSimpArgs false
set_option maxRecDepth 100000
attribute [local go_sem] Oper.semAt_some

theorem isIn_take (l : List Nat) (q : Nat) (h : q < l.length) (j : Nat) : isIn (l.take (q + 1)) j = (isIn (l.take q) j || gt l q == j) := by
 rw [take_snoc' l q h, isIn_snoc]
theorem Turned.kept {K : Nat → Prop} {g : Nat} {w w' : World} (h : Turned g w w') (hg : ¬ K g) : Kept K w w' := ⟨h.os, h.tape, h.output, Nat.le_of_eq h.size.symm, fun b hb _ => h.block b (fun e => hg (e ▸ hb))⟩
theorem ginfo_b : (Tryz.prog.info? 24).map (·.size) = some 2 := by kernel_rfl
set_option maxHeartbeats 8000000 in
theorem gbits_bad (a0 a1 a2 a3 a4 a5 a6 a7 : Value) (w : World) (CC : Hid (∀ w0, Below w.heap.size w w0 → Calls Tryz.prog 60 #[.agg #[a0, a1, a2, a3, a4, a5, a6, a7]] w0 fun e w' => e = .returned (.bool false) ∧ Below w0.heap.size w0 w')) :
  Calls Tryz.prog 63 #[.agg #[a0, a1, a2, a3, a4, a5, a6, a7]] w fun e w' => e = .returned (.agg #[.int .i64 0, .slice none 0 0]) ∧ Below w.heap.size w w' := by
 ·skip
  refine (callsIn_wide (n := 0)).1 (callsIn_of_wp_marks Tryz.func63 rfl trivial ?_)
  simp only [Tryz.ntmps63, List.size_toArray, List.length_cons, List.length_nil, Nat.reduceAdd, Nat.reduceSub, Array.replicate_succ, Array.replicate_zero, List.push_toArray, List.append_toArray, List.nil_append, List.cons_append]
  refine wpIn_wide.2 ?_
  obtain ⟨W1, hW1⟩ : ∃ W1, W1 = (w.alloc (.cells #[a0, a1, a2, a3, a4, a5, a6, a7] 35)).alloc (.cells #[.int .i64 0, .slice none 0 0] 24) := ⟨_, rfl⟩
  have b1 : Below w.heap.size w W1 := by rw [hW1]; exact ((below_alloc w _).alloc (by simp only [World.size_alloc]; omega) _)
  have z1 : W1.heap.size = w.heap.size + 2 := by rw [hW1]; simp
  have c1 : Cel W1 (w.heap.size + 1) [.int .i64 0, .slice none 0 0] 24 := by rw [hW1]; exact Cel.new2 w _ _ _
  go_wp2_with fail
  rw [← hW1]
  clear hW1
  refine (CC.out _ b1).mono ?_
  rintro e wf ⟨rfl, hb⟩
  replace b1 := b1.trans (hb.mono b1.size)
  replace c1 := c1.kept hb
  clear hb CC z1
  go_wp2_with (refine store_cel (w.heap.size + 1) [.int .i64 0, .slice none 0 0] [.int .i64 0, .slice none 0 0] rfl rfl c1 rfl ginfo_b (by simp [Value.oneCell']) ?_)
  intro w3 B3 O3
  have HZ : Hid (Cel w3 (w.heap.size + 1) [.int .i64 0, .slice none 0 0] 24 ∧ Below w.heap.size w w3) := ⟨B3, b1.trans (O3.below (Nat.le_succ _))⟩
  clear B3 O3 b1 c1
  go_wp2
  exact ⟨_, result_cel1 rfl (w.heap.size + 1) _ rfl HZ.out.1 Tryz.underlying24 ginfo_b, rfl, HZ.out.2⟩
set_option maxHeartbeats 16000000 in
theorem gbits_ok (n mm kn vn hh : Nat) (LM : Int) (ao : Option Addr) (xs : List Nat) (cap : Nat) (qo : Option Addr) (ys : List Nat) (dap : Nat) (l : List Nat) (w : World) (F : Fits n mm kn vn LM xs hh ys) (hx : Wd w ao xs) (fx : Fit xs) (hy : Wd w qo ys) (fy : Fit ys) (hl : l.length = mm) (hg : ∀ q, q < mm → plq n mm xs hh ys q = gt l q) (hr : Rise l n) (CC : Hid (∀ w0, Below w.heap.size w w0 → Calls Tryz.prog 60 #[.agg #[.int .i64 (n : Nat), .int .i64 (mm : Nat), .int .i64 (kn : Nat), .int .i64 (vn : Nat), .int .i64 LM, .slice ao xs.length cap, .int .i64 (hh : Nat), .slice qo ys.length dap]] w0 fun e w' => e = .returned (.bool true) ∧ Below w0.heap.size w0 w')) :
  Calls Tryz.prog 63 #[.agg #[.int .i64 (n : Nat), .int .i64 (mm : Nat), .int .i64 (kn : Nat), .int .i64 (vn : Nat), .int .i64 LM, .slice ao xs.length cap, .int .i64 (hh : Nat), .slice qo ys.length dap]] w fun e w' => ∃ bo bc, e = .returned (.agg #[.int .i64 n, .slice bo (rowOf n (isIn l)).length bc]) ∧ Wd w' bo (rowOf n (isIn l)) ∧ (rowOf n (isIn l)).length ≤ bc ∧ Below w.heap.size w w' := by
 have nl := F.hn
 obtain ⟨k, hk0⟩ : ∃ k, Hid (k = (n + 63) / 64) := ⟨_, rfl⟩
 have HL : Hid (∀ f : Nat → Bool, (rowOf n f).length = k) := fun f => by rw [length_rowOf, hk0.out]
 have NC : Hid (∀ w0, Calls Tryz.prog 118 #[.int .i64 (n : Nat)] w0 fun e w' => ∃ g, e = .returned (.tuple #[.agg #[.int .i64 (n : Nat), .slice (some ⟨g, 0, none⟩) k k], .int .i64 0]) ∧ w0.heap.size ≤ g ∧ g < w'.heap.size ∧ Own w' g (rowOf n (fun _ => false)) ∧ Below w0.heap.size w0 w') := fun w0 => by
  have := new_ok (n : Int) k w0 (by omega) (by omega) (by rw [hk0.out]; omega)
  rw [rep_row n k hk0.out] at this
  exact this
 have SC : Hid (∀ w0 g f p, Own w0 g (rowOf n f) → p < n → Calls Tryz.prog 119 #[.slice (some ⟨g, 0, none⟩) k k, .int .i64 (p : Nat)] w0 fun e w' => (∃ v, e = .returned v) ∧ Own w' g (rowOf n (fun j => f j || p == j)) ∧ Turned g w0 w') := fun w0 g f p hO hp => by
  have := gset_c n f g k p w0 hO hp nl
  rw [HL.out f] at this
  exact this
 refine (callsIn_wide (n := 0)).1 (callsIn_of_wp_marks Tryz.func63 rfl trivial ?_)
 simp only [Tryz.ntmps63, List.size_toArray, List.length_cons, List.length_nil, Nat.reduceAdd, Nat.reduceSub, Array.replicate_succ, Array.replicate_zero, List.push_toArray, List.append_toArray, List.nil_append, List.cons_append]
 refine wpIn_wide.2 ?_
 have PC : Hid (∀ w0, Calls Tryz.prog 114 #[.agg #[.int .i64 (n : Nat), .int .i64 (mm : Nat), .int .i64 (kn : Nat), .int .i64 (vn : Nat), .int .i64 LM, .slice ao xs.length cap, .int .i64 (hh : Nat), .slice qo ys.length dap]] w0 fun e w' => e = .returned (.func (.func 159) #[] #[.pointer (some ⟨w0.heap.size, 0, none⟩), .pointer (some ⟨w0.heap.size + 1, 0, none⟩)]) ∧ Cel w' w0.heap.size [.int .i64 (n : Nat), .int .i64 (mm : Nat), .int .i64 (kn : Nat), .int .i64 (vn : Nat), .int .i64 LM, .slice ao xs.length cap, .int .i64 (hh : Nat), .slice qo ys.length dap] 35 ∧ Cel w' (w0.heap.size + 1) [.int .i64 (wdF n mm : Nat)] 3 ∧ w'.heap.size = w0.heap.size + 2 ∧ Below w0.heap.size w0 w') := fun w0 => gplaces_c n mm kn vn hh LM ao xs cap qo ys dap F.hn F.hm w0
 obtain ⟨W1, hW1⟩ : ∃ W1, W1 = (w.alloc (.cells #[.int .i64 (n : Nat), .int .i64 (mm : Nat), .int .i64 (kn : Nat), .int .i64 (vn : Nat), .int .i64 LM, .slice ao xs.length cap, .int .i64 (hh : Nat), .slice qo ys.length dap] 35)).alloc (.cells #[.int .i64 0, .slice none 0 0] 24) := ⟨_, rfl⟩
 have b1 : Below w.heap.size w W1 := by rw [hW1]; exact ((below_alloc w _).alloc (by simp only [World.size_alloc]; omega) _)
 have z1 : W1.heap.size = w.heap.size + 2 := by rw [hW1]; simp
 have c0 : Cel W1 w.heap.size [.int .i64 (n : Nat), .int .i64 (mm : Nat), .int .i64 (kn : Nat), .int .i64 (vn : Nat), .int .i64 LM, .slice ao xs.length cap, .int .i64 (hh : Nat), .slice qo ys.length dap] 35 := by rw [hW1]; exact (Cel.new w _ _).alloc _
 have c1 : Cel W1 (w.heap.size + 1) [.int .i64 0, .slice none 0 0] 24 := by rw [hW1]; exact Cel.new2 w _ _ _
 go_wp2_with fail
 rw [← hW1]
 clear hW1
 refine (CC.out _ b1).mono ?_
 rintro e wf ⟨rfl, hb⟩
 replace b1 := b1.trans (hb.mono b1.size)
 replace c0 := c0.kept hb
 replace c1 := c1.kept hb
 have zf : w.heap.size + 2 ≤ wf.heap.size := by have := hb.size; omega
 clear hb CC z1
 have q0 := c0.cell 0 rfl
 go_wp2_with fail
 refine (NC.out _).mono ?_
 rintro e w2 ⟨g, rfl, hg1, hg2, hO, hb⟩
 replace b1 := b1.trans (hb.mono b1.size)
 replace c0 := c0.kept hb
 replace c1 := c1.kept hb
 clear hb q0 NC
 obtain ⟨g2, hgg⟩ : ∃ g, g = w2.heap.size := ⟨_, rfl⟩
 obtain ⟨W2, hW2⟩ : ∃ W2, W2 = w2.alloc (.cells #[.int .i64 (n : Nat), .slice (some ⟨g, 0, none⟩) k k] 24) := ⟨_, rfl⟩
 have bA : Below w2.heap.size w2 W2 := by rw [hW2]; exact below_alloc w2 _
 have z2 : W2.heap.size = g2 + 1 := by rw [hW2, hgg]; simp
 have c2 : Cel W2 g2 [.int .i64 (n : Nat), .slice (some ⟨g, 0, none⟩) k k] 24 := by rw [hW2, hgg]; exact Cel.new w2 _ _
 have d0 : Cel (w2.alloc (.cells #[.int .i64 (n : Nat), .slice (some ⟨g, 0, none⟩) k k] 24)) w.heap.size [.int .i64 (n : Nat), .int .i64 (mm : Nat), .int .i64 (kn : Nat), .int .i64 (vn : Nat), .int .i64 LM, .slice ao xs.length cap, .int .i64 (hh : Nat), .slice qo ys.length dap] 35 := c0.alloc _
 have q0 := d0.cell 0 rfl
 have q1 := d0.cell 1 rfl
 have q2 := d0.cell 2 rfl
 have q3 := d0.cell 3 rfl
 have q4 := d0.cell 4 rfl
 have q5 := d0.cell 5 rfl
 have q6 := d0.cell 6 rfl
 have q7 := d0.cell 7 rfl
 have HG := hide9' hgg
 rw [← hgg] at hg2
 clear hgg
 have HW2 := hide9' hW2
 clear hW2
 have HZF := hide9' zf
 have HG1 := hide9' hg1
 clear zf hg1
 go_wp2_with fail
 rw [← HW2.out]
 refine (PC.out _).mono ?_
 rintro e w' ⟨rfl, cx, cw, z3, b3⟩
 rw [z2] at cx cw z3 b3
 rw [z2, ← HG.out]
 have zf := HZF.out
 have hg1 := HG1.out
 have zg : wf.heap.size ≤ g2 := by omega
 have b4 : Below w.heap.size w w' := (b1.trans (bA.mono b1.size)).trans (b3.mono (by omega))
 have bC : Below w2.heap.size w2 w' := bA.trans (b3.mono (by rw [← HG.out]; omega))
 replace c0 := c0.kept bC
 replace c1 := c1.kept bC
 replace c2 := c2.keep b3 (by omega)
 replace hO := hO.keep bC
 clear b1 bA b3 bC PC HW2 d0 HG HZF HG1 q0 q1 q2 q3 q4 q5 q6 q7
 go_wp2
 have G := (places1_goes n mm kn vn hh LM ao xs cap qo ys dap (fun b => b ≠ g ∧ b ≠ w'.heap.size + 1) w' (g2 + 1) (g2 + 1 + 1) F (hx.keep b4) fx (hy.keep b4) fy cx cw (by omega) (by omega) (fun p hp h0 => by have := hx.blk hp h0; omega) (fun p hp h0 => by have := hy.blk hp h0; omega)).enc (enc' := fun q => #[.int .i64 q, .int .i64 (gt l q : Nat)]) (fun q hq => by rw [hg q hq])
 have I0 : Own w' g (rowOf n (isIn (l.take 0))) := by
  rw [rowOf_congr n (isIn (l.take 0)) (fun _ => false) fun i _ => by simp [isIn]]
  exact hO
 clear hO
 refine range_law (gf := 159) (lb := #[.pointer (some ⟨g2 + 1, 0, none⟩), .pointer (some ⟨g2 + 2, 0, none⟩)]) (K := fun b => b ≠ g) rfl (enters_of Tryz.func159 (by kernel_rfl) rfl) (fun _ => rfl) G (fun b hb => by omega)
  (fun q Wc => Kept (fun b => b ≠ g) w' Wc ∧ Own Wc g (rowOf n (isIn (l.take q)))) (fun q Wc => False) (fun q A B h hb => ⟨h.1.more hb (Nat.le_refl _), (hb.block g (by omega)).trans h.2⟩) (fun q A B h hb => h) ⟨Kept.refl _ _, I0⟩
  (fun q => { tmps := #[.agg #[.int .i64 (n : Nat), .int .i64 (mm : Nat), .int .i64 (kn : Nat), .int .i64 (vn : Nat), .int .i64 LM, .slice ao xs.length cap, .int .i64 (hh : Nat), .slice qo ys.length dap], .pointer (some ⟨w.heap.size, 0, none⟩), .pointer (some ⟨w.heap.size + 1, 0, none⟩), .pointer (some ⟨g2, 0, none⟩), .int .i64 0, undef, .int .i64 (gt l q : Nat), .agg #[.int .i64 (n : Nat), .int .i64 (mm : Nat), .int .i64 (kn : Nat), .int .i64 (vn : Nat), .int .i64 LM, .slice ao xs.length cap, .int .i64 (hh : Nat), .slice qo ys.length dap], .bool true, .bool false, undef, .tuple #[.agg #[.int .i64 (n : Nat), .slice (some ⟨g, 0, none⟩) k k], .int .i64 0], .pointer (some ⟨w.heap.size, 0, none⟩), .int .i64 (n : Nat), .tuple #[.agg #[.int .i64 (n : Nat), .slice (some ⟨g, 0, none⟩) k k], .int .i64 0], .agg #[.int .i64 (n : Nat), .slice (some ⟨g, 0, none⟩) k k], .int .i64 0, .agg #[.int .i64 (n : Nat), .int .i64 (mm : Nat), .int .i64 (kn : Nat), .int .i64 (vn : Nat), .int .i64 LM, .slice ao xs.length cap, .int .i64 (hh : Nat), .slice qo ys.length dap], .func (.func 159) #[] #[.pointer (some ⟨g2 + 1, 0, none⟩), .pointer (some ⟨g2 + 2, 0, none⟩)], .int .i64 (q : Nat), .int .i64 (gt l q : Nat), undef, undef, undef, undef, undef], defers := [] }) ?assign ?body ?done ?stop
 case assign =>
  intro l1 q Wc K1 hK1
  gi_wp2
  exact hK1
 case body =>
  rintro l1 q Wc hq ⟨hk, hO⟩ hz
  have m1 := (hk.cel c2 (by omega)).cell 1 rfl
  have hlt := hr.1 q (by omega)
  have S1 := hide9' (SC.out Wc g _ (gt l q) hO hlt)
  have RW : Hid (rowOf n (fun j => isIn (l.take q) j || gt l q == j) = rowOf n (isIn (l.take (q + 1)))) := rowOf_congr _ _ _ fun j _ => (isIn_take l q (by omega) j).symm
  clear G hO
  gi_wp2_with fail
  refine ⟨trivial, rfl, ?_⟩
  refine (CallsIn.inRound l1 (callsIn_wide.2 S1.out)).mono ?_
  rintro e W3 ⟨⟨v, rfl⟩, hO3, hT⟩
  rw [RW.out] at hO3
  have kT : Kept (fun b => b ≠ g) Wc W3 := hT.kept (fun h => h rfl)
  have HE := hide9' (And.intro kT (And.intro (hk.trans kT) hO3))
  clear kT hT hO3 m1
  gi_wp2
  exact HE.out
 case done =>
  rintro D Wc hD ⟨hk, hO⟩ hd
  rw [← hl, List.take_of_length_le (Nat.le_refl _)] at hO
  have cR := hk.cel c1 (by omega)
  have cB := hk.cel c2 (by omega)
  have hb := b4.trans (hk.below (B := w.heap.size) (fun x h => by omega) (by omega))
  have DN : D ≠ g ∧ D ≠ w.heap.size + 1 ∧ w.heap.size ≤ D := ⟨by omega, by omega, by omega⟩
  have gN : g ≠ w.heap.size + 1 ∧ w.heap.size ≤ g := ⟨by omega, by omega⟩
  clear hk c0 c1 c2 cx cw
  go_wp2_with (first | refine load_cel g2 _ rfl cB Tryz.underlying24 ginfo_b ?_ | refine store_cel (w.heap.size + 1) [.int .i64 0, .slice none 0 0] _ rfl rfl cR rfl ginfo_b (by simp [Value.oneCell']) ?_)
  intro w3 B3 O3
  have b5 := hb.trans (O3.below (Nat.le_succ _))
  have hO3 : Own w3 g (rowOf n (isIn l)) := (O3.block g gN.1).trans hO
  have hd3 : w3.heap[D]? = some (.deferred (some [])) := (O3.block D DN.2.1).trans hd
  have HZ := hide9' (And.intro B3 (And.intro hO3 (And.intro hd3 b5)))
  clear B3 O3 hO3 hd3 b5 hd hO cB cR
  go_wp2
  obtain ⟨B3, hO3, hd3, b5⟩ := HZ.out
  have cR2 := B3.put (.deferred none) (show w.heap.size + 1 ≠ D from fun e => DN.2.1 e.symm)
  have hO4 : Own (w3.putObj D (.deferred none)) g (rowOf n (isIn l)) := (World.putObj_heap_other (fun e => DN.1 e.symm)).trans hO3
  refine marks_ret hd3 (result_cel1 rfl (w.heap.size + 1) _ rfl cR2 Tryz.underlying24 ginfo_b) ⟨some ⟨g, 0, none⟩, k, ?_, hO4.wd, ?_, b5.trans (below_putObj DN.2.2 _)⟩
  ·rw [HL.out]
  ·exact Nat.le_of_eq (HL.out _)
 case stop =>
  rintro D q Wc hD hq h hd
  exact h.elim
end Go.Proofs.YtpeecabfcgijhaaGreatDoor

namespace Go.Proofs.YtpeecabfcgijhaaGreatDoor
open Go.RowKit Num Bit
set_option linter.unusedVariables false
set_option linter.unusedSimpArgs false
set_option maxRecDepth 100000

theorem hiP_take (l : List Nat) (v q : Nat) (h : q < l.length) : hiP (l.take (q + 1)) v = hiP (l.take q) v ++ [gt l q / 2 ^ v + q] := by
 have e1 : (l.take (q + 1)).length = q + 1 := by rw [List.length_take]; omega
 have e2 : (l.take q).length = q := by rw [List.length_take]; omega
 unfold hiP
 rw [e1, e2, List.range_succ, List.map_append]
 congr 1
 ·refine List.map_congr_left fun i hi => ?_
  have hi := List.mem_range.1 hi
  rw [gt_take' l (q + 1) i (by omega), gt_take' l q i hi]
 ·simp only [List.map_cons, List.map_nil]
  rw [gt_take' l (q + 1) q (by omega)]
end Go.Proofs.YtpeecabfcgijhaaGreatDoor
