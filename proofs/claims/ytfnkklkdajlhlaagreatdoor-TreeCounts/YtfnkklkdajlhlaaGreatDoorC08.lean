/-
  The contract of the program's Bits. The contract of the document's 'of' of layer 9. The contract of the program's highOf. The contract of the program's lowOf.
-/
import Derived.Test.YtfnkklkdajlhlaaGreatDoorC07
import Derived.Test.YtfnkklkdajlhlaaGreatDoorC04
import Derived.Test.YtfnkklkdajlhlaaGreatDoorC06
import Derived.Test.YtfnkklkdajlhlaaGreatDoorC01
import Derived.Deep.DeepCutAuto
import Derived.Test.YtfnkklkdajlhlaaGreatDoorC03
set_option linter.unusedVariables false
set_option linter.unusedSimpArgs false
set_option maxRecDepth 100000
set_option maxHeartbeats 16000000
namespace Go.Proofs.YtfnkklkdajlhlaaGreatDoor
open Go.RowKit Go.Shelf Num Bit
attribute [local go_sem] Oper.semAt_some
theorem isIn_take (l : List Nat) (q : Nat) (h : q < l.length) (j : Nat) : isIn (l.take (q + 1)) j = (isIn (l.take q) j || gt l q == j) := by
 rw [take_snoc' l q h, isIn_snoc]
theorem Turned.kept {K : Nat → Prop} {g : Nat} {w w' : World} (h : Turned g w w') (hg : ¬ K g) : Kept K w w' := ⟨h.os, h.tape, h.output, Nat.le_of_eq h.size.symm, fun b hb _ => h.block b (fun e => hg (e ▸ hb))⟩
theorem ginfo_b : (Tryz.prog.info? 33).map (·.size) = some 2 := by kernel_rfl
theorem gbits_bad (a0 a1 a2 a3 a4 a5 a6 a7 : Value) (w : World) (CC : Hid (∀ w0, Below w.heap.size w w0 → Calls Tryz.prog 86 #[.agg #[a0, a1, a2, a3, a4, a5, a6, a7]] w0 fun e w' => e = .returned (.bool false) ∧ Below w0.heap.size w0 w')) :
  Calls Tryz.prog 89 #[.agg #[a0, a1, a2, a3, a4, a5, a6, a7]] w fun e w' => e = .returned (.agg #[.int .i64 0, .slice none 0 0]) ∧ Below w.heap.size w w' := by
 ·skip
  refine (callsIn_wide (n := 0)).1 (callsIn_of_wp_marks Tryz.func89 rfl trivial ?_)
  simp only [Tryz.ntmps89, List.size_toArray, List.length_cons, List.length_nil, Nat.reduceAdd, Nat.reduceSub, Array.replicate_succ, Array.replicate_zero, List.push_toArray, List.append_toArray, List.nil_append, List.cons_append]
  refine wpIn_wide.2 ?_
  obtain ⟨W1, hW1⟩ : ∃ W1, W1 = (w.alloc (.cells #[a0, a1, a2, a3, a4, a5, a6, a7] 43)).alloc (.cells #[.int .i64 0, .slice none 0 0] 33) := ⟨_, rfl⟩
  have b1 : Below w.heap.size w W1 := by rw [hW1]; exact ((below_alloc w _).alloc (by simp only [World.size_alloc]; omega) _)
  have z1 : W1.heap.size = w.heap.size + 2 := by rw [hW1]; simp
  have c1 : Cel W1 (w.heap.size + 1) [.int .i64 0, .slice none 0 0] 33 := by rw [hW1]; exact Cel.new2 w _ _ _
  go_wp2_with fail
  rw [← hW1]
  clear hW1
  refine (CC.out _ b1).mono ?_
  rintro e wf ⟨rfl, hb⟩
  replace b1 := b1.trans (hb.mono b1.size)
  replace c1 := c1.kept hb
  clear hb CC z1
  go_wp2_with (refine store_cel (w.heap.size + 1) [.int .i64 0, .slice none 0 0] [.int .i64 0, .slice none 0 0] rfl rfl c1 rfl ginfo_b (by simp [Value.oneCell']) ?_)
  intro w3 B3 O3
  have HZ : Hid (Cel w3 (w.heap.size + 1) [.int .i64 0, .slice none 0 0] 33 ∧ Below w.heap.size w w3) := ⟨B3, b1.trans (O3.below (Nat.le_succ _))⟩
  clear B3 O3 b1 c1
  go_wp2
  exact ⟨_, result_cel1 rfl (w.heap.size + 1) _ rfl HZ.out.1 Tryz.underlying33 ginfo_b, rfl, HZ.out.2⟩
theorem gbits_ok (n mm kn vn hh : Nat) (LM : Int) (ao : Option Addr) (xs : List Nat) (cap : Nat) (qo : Option Addr) (ys : List Nat) (dap : Nat) (l : List Nat) (w : World) (F : Fits n mm kn vn LM xs hh ys) (hx : Wd w ao xs) (fx : Fit xs) (hy : Wd w qo ys) (fy : Fit ys) (hl : l.length = mm) (hg : ∀ q, q < mm → plq n mm xs hh ys q = gt l q) (hr : Rise l n) (CC : Hid (∀ w0, Below w.heap.size w w0 → Calls Tryz.prog 86 #[.agg #[.int .i64 (n : Nat), .int .i64 (mm : Nat), .int .i64 (kn : Nat), .int .i64 (vn : Nat), .int .i64 LM, .slice ao xs.length cap, .int .i64 (hh : Nat), .slice qo ys.length dap]] w0 fun e w' => e = .returned (.bool true) ∧ Below w0.heap.size w0 w')) :
  Calls Tryz.prog 89 #[.agg #[.int .i64 (n : Nat), .int .i64 (mm : Nat), .int .i64 (kn : Nat), .int .i64 (vn : Nat), .int .i64 LM, .slice ao xs.length cap, .int .i64 (hh : Nat), .slice qo ys.length dap]] w fun e w' => ∃ bo bc, e = .returned (.agg #[.int .i64 n, .slice bo (rowOf n (isIn l)).length bc]) ∧ Wd w' bo (rowOf n (isIn l)) ∧ (rowOf n (isIn l)).length ≤ bc ∧ Below w.heap.size w w' := by
 have nl := F.hn
 obtain ⟨k, hk0⟩ : ∃ k, Hid (k = (n + 63) / 64) := ⟨_, rfl⟩
 have HL : Hid (∀ f : Nat → Bool, (rowOf n f).length = k) := fun f => by rw [length_rowOf, hk0.out]
 have NC : Hid (∀ w0, Calls Tryz.prog 104 #[.int .i64 (n : Nat)] w0 fun e w' => ∃ g, e = .returned (.tuple #[.agg #[.int .i64 (n : Nat), .slice (some ⟨g, 0, none⟩) k k], .int .i64 0]) ∧ w0.heap.size ≤ g ∧ g < w'.heap.size ∧ Own w' g (rowOf n (fun _ => false)) ∧ Below w0.heap.size w0 w') := fun w0 => by
  have := new_ok (n : Int) k w0 (by omega) (by omega) (by rw [hk0.out]; omega)
  rw [rep_row n k hk0.out] at this
  exact this
 have SC : Hid (∀ w0 g f p, Own w0 g (rowOf n f) → p < n → Calls Tryz.prog 150 #[.slice (some ⟨g, 0, none⟩) k k, .int .i64 (p : Nat)] w0 fun e w' => (∃ v, e = .returned v) ∧ Own w' g (rowOf n (fun j => f j || p == j)) ∧ Turned g w0 w') := fun w0 g f p hO hp => by
  have := gset_c n f g k p w0 hO hp nl
  rw [HL.out f] at this
  exact this
 refine (callsIn_wide (n := 0)).1 (callsIn_of_wp_marks Tryz.func89 rfl trivial ?_)
 simp only [Tryz.ntmps89, List.size_toArray, List.length_cons, List.length_nil, Nat.reduceAdd, Nat.reduceSub, Array.replicate_succ, Array.replicate_zero, List.push_toArray, List.append_toArray, List.nil_append, List.cons_append]
 refine wpIn_wide.2 ?_
 have PC : Hid (∀ w0, Calls Tryz.prog 146 #[.agg #[.int .i64 (n : Nat), .int .i64 (mm : Nat), .int .i64 (kn : Nat), .int .i64 (vn : Nat), .int .i64 LM, .slice ao xs.length cap, .int .i64 (hh : Nat), .slice qo ys.length dap]] w0 fun e w' => e = .returned (.func (.func 189) #[] #[.pointer (some ⟨w0.heap.size, 0, none⟩), .pointer (some ⟨w0.heap.size + 1, 0, none⟩)]) ∧ Cel w' w0.heap.size [.int .i64 (n : Nat), .int .i64 (mm : Nat), .int .i64 (kn : Nat), .int .i64 (vn : Nat), .int .i64 LM, .slice ao xs.length cap, .int .i64 (hh : Nat), .slice qo ys.length dap] 43 ∧ Cel w' (w0.heap.size + 1) [.int .i64 (wdF n mm : Nat)] 3 ∧ w'.heap.size = w0.heap.size + 2 ∧ Below w0.heap.size w0 w') := fun w0 => gplaces_c n mm kn vn hh LM ao xs cap qo ys dap F.hn F.hm w0
 obtain ⟨W1, hW1⟩ : ∃ W1, W1 = (w.alloc (.cells #[.int .i64 (n : Nat), .int .i64 (mm : Nat), .int .i64 (kn : Nat), .int .i64 (vn : Nat), .int .i64 LM, .slice ao xs.length cap, .int .i64 (hh : Nat), .slice qo ys.length dap] 43)).alloc (.cells #[.int .i64 0, .slice none 0 0] 33) := ⟨_, rfl⟩
 have b1 : Below w.heap.size w W1 := by rw [hW1]; exact ((below_alloc w _).alloc (by simp only [World.size_alloc]; omega) _)
 have z1 : W1.heap.size = w.heap.size + 2 := by rw [hW1]; simp
 have c0 : Cel W1 w.heap.size [.int .i64 (n : Nat), .int .i64 (mm : Nat), .int .i64 (kn : Nat), .int .i64 (vn : Nat), .int .i64 LM, .slice ao xs.length cap, .int .i64 (hh : Nat), .slice qo ys.length dap] 43 := by rw [hW1]; exact (Cel.new w _ _).alloc _
 have c1 : Cel W1 (w.heap.size + 1) [.int .i64 0, .slice none 0 0] 33 := by rw [hW1]; exact Cel.new2 w _ _ _
 go_wp2_with fail
 rw [← hW1]
 clear hW1
 refine (CC.out _ b1).mono ?_
 rintro e wf ⟨rfl, hb⟩
 replace b1 := b1.trans (hb.mono b1.size)
 replace c0 := c0.kept hb
 replace c1 := c1.kept hb
 have zf : w.heap.size + 2 ≤ wf.heap.size := by have := hb.size; omega
 clear hb CC z1
 have q0 := c0.cell 0 rfl
 go_wp2_with fail
 refine (NC.out _).mono ?_
 rintro e w2 ⟨g, rfl, hg1, hg2, hO, hb⟩
 replace b1 := b1.trans (hb.mono b1.size)
 replace c0 := c0.kept hb
 replace c1 := c1.kept hb
 clear hb q0 NC
 obtain ⟨g2, hgg⟩ : ∃ g, g = w2.heap.size := ⟨_, rfl⟩
 obtain ⟨W2, hW2⟩ : ∃ W2, W2 = w2.alloc (.cells #[.int .i64 (n : Nat), .slice (some ⟨g, 0, none⟩) k k] 33) := ⟨_, rfl⟩
 have bA : Below w2.heap.size w2 W2 := by rw [hW2]; exact below_alloc w2 _
 have z2 : W2.heap.size = g2 + 1 := by rw [hW2, hgg]; simp
 have c2 : Cel W2 g2 [.int .i64 (n : Nat), .slice (some ⟨g, 0, none⟩) k k] 33 := by rw [hW2, hgg]; exact Cel.new w2 _ _
 have d0 : Cel (w2.alloc (.cells #[.int .i64 (n : Nat), .slice (some ⟨g, 0, none⟩) k k] 33)) w.heap.size [.int .i64 (n : Nat), .int .i64 (mm : Nat), .int .i64 (kn : Nat), .int .i64 (vn : Nat), .int .i64 LM, .slice ao xs.length cap, .int .i64 (hh : Nat), .slice qo ys.length dap] 43 := c0.alloc _
 have q0 := d0.cell 0 rfl
 have q1 := d0.cell 1 rfl
 have q2 := d0.cell 2 rfl
 have q3 := d0.cell 3 rfl
 have q4 := d0.cell 4 rfl
 have q5 := d0.cell 5 rfl
 have q6 := d0.cell 6 rfl
 have q7 := d0.cell 7 rfl
 have HG := hide9' hgg
 rw [← hgg] at hg2
 clear hgg
 have HW2 := hide9' hW2
 clear hW2
 have HZF := hide9' zf
 have HG1 := hide9' hg1
 clear zf hg1
 go_wp2_with fail
 rw [← HW2.out]
 refine (PC.out _).mono ?_
 rintro e w' ⟨rfl, cx, cw, z3, b3⟩
 rw [z2] at cx cw z3 b3
 rw [z2, ← HG.out]
 have zf := HZF.out
 have hg1 := HG1.out
 have zg : wf.heap.size ≤ g2 := by omega
 have b4 : Below w.heap.size w w' := (b1.trans (bA.mono b1.size)).trans (b3.mono (by omega))
 have bC : Below w2.heap.size w2 w' := bA.trans (b3.mono (by rw [← HG.out]; omega))
 replace c0 := c0.kept bC
 replace c1 := c1.kept bC
 replace c2 := c2.keep b3 (by omega)
 replace hO := hO.keep bC
 clear b1 bA b3 bC PC HW2 d0 HG HZF HG1 q0 q1 q2 q3 q4 q5 q6 q7
 go_wp2
 have G := (places1_goes n mm kn vn hh LM ao xs cap qo ys dap (fun b => b ≠ g ∧ b ≠ w'.heap.size + 1) w' (g2 + 1) (g2 + 1 + 1) F (hx.keep b4) fx (hy.keep b4) fy cx cw (by omega) (by omega) (fun p hp h0 => by have := hx.blk hp h0; omega) (fun p hp h0 => by have := hy.blk hp h0; omega)).enc (enc' := fun q => #[.int .i64 q, .int .i64 (gt l q : Nat)]) (fun q hq => by rw [hg q hq])
 have I0 : Own w' g (rowOf n (isIn (l.take 0))) := by
  rw [rowOf_congr n (isIn (l.take 0)) (fun _ => false) fun i _ => by simp [isIn]]
  exact hO
 clear hO
 refine range_law (gf := 189) (lb := #[.pointer (some ⟨g2 + 1, 0, none⟩), .pointer (some ⟨g2 + 2, 0, none⟩)]) (K := fun b => b ≠ g) rfl (enters_of Tryz.func189 (by kernel_rfl) rfl) (fun _ => rfl) G (fun b hb => by omega)
  (fun q Wc => Kept (fun b => b ≠ g) w' Wc ∧ Own Wc g (rowOf n (isIn (l.take q)))) (fun q Wc => False) (fun q A B h hb => ⟨h.1.more hb (Nat.le_refl _), (hb.block g (by omega)).trans h.2⟩) (fun q A B h hb => h) ⟨Kept.refl _ _, I0⟩
  (fun q => { tmps := #[.agg #[.int .i64 (n : Nat), .int .i64 (mm : Nat), .int .i64 (kn : Nat), .int .i64 (vn : Nat), .int .i64 LM, .slice ao xs.length cap, .int .i64 (hh : Nat), .slice qo ys.length dap], .pointer (some ⟨w.heap.size, 0, none⟩), .pointer (some ⟨w.heap.size + 1, 0, none⟩), .pointer (some ⟨g2, 0, none⟩), .int .i64 0, undef, .int .i64 (gt l q : Nat), .agg #[.int .i64 (n : Nat), .int .i64 (mm : Nat), .int .i64 (kn : Nat), .int .i64 (vn : Nat), .int .i64 LM, .slice ao xs.length cap, .int .i64 (hh : Nat), .slice qo ys.length dap], .bool true, .bool false, undef, .tuple #[.agg #[.int .i64 (n : Nat), .slice (some ⟨g, 0, none⟩) k k], .int .i64 0], .pointer (some ⟨w.heap.size, 0, none⟩), .int .i64 (n : Nat), .tuple #[.agg #[.int .i64 (n : Nat), .slice (some ⟨g, 0, none⟩) k k], .int .i64 0], .agg #[.int .i64 (n : Nat), .slice (some ⟨g, 0, none⟩) k k], .int .i64 0, .agg #[.int .i64 (n : Nat), .int .i64 (mm : Nat), .int .i64 (kn : Nat), .int .i64 (vn : Nat), .int .i64 LM, .slice ao xs.length cap, .int .i64 (hh : Nat), .slice qo ys.length dap], .func (.func 189) #[] #[.pointer (some ⟨g2 + 1, 0, none⟩), .pointer (some ⟨g2 + 2, 0, none⟩)], .int .i64 (q : Nat), .int .i64 (gt l q : Nat), undef, undef, undef, undef, undef], defers := [] }) ?assign ?body ?done ?stop
 case assign =>
  intro l1 q Wc K1 hK1
  gi_wp2
  exact hK1
 case body =>
  rintro l1 q Wc hq ⟨hk, hO⟩ hz
  have m1 := (hk.cel c2 (by omega)).cell 1 rfl
  have hlt := hr.1 q (by omega)
  have S1 := hide9' (SC.out Wc g _ (gt l q) hO hlt)
  have RW : Hid (rowOf n (fun j => isIn (l.take q) j || gt l q == j) = rowOf n (isIn (l.take (q + 1)))) := rowOf_congr _ _ _ fun j _ => (isIn_take l q (by omega) j).symm
  clear G hO
  gi_wp2_with fail
  refine ⟨trivial, rfl, ?_⟩
  refine (CallsIn.inRound l1 (callsIn_wide.2 S1.out)).mono ?_
  rintro e W3 ⟨⟨v, rfl⟩, hO3, hT⟩
  rw [RW.out] at hO3
  have kT : Kept (fun b => b ≠ g) Wc W3 := hT.kept (fun h => h rfl)
  have HE := hide9' (And.intro kT (And.intro (hk.trans kT) hO3))
  clear kT hT hO3 m1
  gi_wp2
  exact HE.out
 case done =>
  rintro D Wc hD ⟨hk, hO⟩ hd
  rw [← hl, List.take_of_length_le (Nat.le_refl _)] at hO
  have cR := hk.cel c1 (by omega)
  have cB := hk.cel c2 (by omega)
  have hb := b4.trans (hk.below (B := w.heap.size) (fun x h => by omega) (by omega))
  have DN : D ≠ g ∧ D ≠ w.heap.size + 1 ∧ w.heap.size ≤ D := ⟨by omega, by omega, by omega⟩
  have gN : g ≠ w.heap.size + 1 ∧ w.heap.size ≤ g := ⟨by omega, by omega⟩
  clear hk c0 c1 c2 cx cw
  go_wp2_with (first | refine load_cel g2 _ rfl cB Tryz.underlying33 ginfo_b ?_ | refine store_cel (w.heap.size + 1) [.int .i64 0, .slice none 0 0] _ rfl rfl cR rfl ginfo_b (by simp [Value.oneCell']) ?_)
  intro w3 B3 O3
  have b5 := hb.trans (O3.below (Nat.le_succ _))
  have hO3 : Own w3 g (rowOf n (isIn l)) := (O3.block g gN.1).trans hO
  have hd3 : w3.heap[D]? = some (.deferred (some [])) := (O3.block D DN.2.1).trans hd
  have HZ := hide9' (And.intro B3 (And.intro hO3 (And.intro hd3 b5)))
  clear B3 O3 hO3 hd3 b5 hd hO cB cR
  go_wp2
  obtain ⟨B3, hO3, hd3, b5⟩ := HZ.out
  have cR2 := B3.put (.deferred none) (show w.heap.size + 1 ≠ D from fun e => DN.2.1 e.symm)
  have hO4 : Own (w3.putObj D (.deferred none)) g (rowOf n (isIn l)) := (World.putObj_heap_other (fun e => DN.1 e.symm)).trans hO3
  refine marks_ret hd3 (result_cel1 rfl (w.heap.size + 1) _ rfl cR2 Tryz.underlying33 ginfo_b) ⟨some ⟨g, 0, none⟩, k, ?_, hO4.wd, ?_, b5.trans (below_putObj DN.2.2 _)⟩
  ·rw [HL.out]
  ·exact Nat.le_of_eq (HL.out _)
 case stop =>
  rintro D q Wc hD hq h hd
  exact h.elim
end Go.Proofs.YtfnkklkdajlhlaaGreatDoor
namespace Go.Proofs.YtfnkklkdajlhlaaGreatDoor
open Go.RowKit Num Bit
theorem hiP_take (l : List Nat) (v q : Nat) (h : q < l.length) : hiP (l.take (q + 1)) v = hiP (l.take q) v ++ [gt l q / 2 ^ v + q] := by
 have e1 : (l.take (q + 1)).length = q + 1 := by rw [List.length_take]; omega
 have e2 : (l.take q).length = q := by rw [List.length_take]; omega
 unfold hiP
 rw [e1, e2, List.range_succ, List.map_append]
 congr 1
 ·refine List.map_congr_left fun i hi => ?_
  have hi := List.mem_range.1 hi
  rw [gt_take' l (q + 1) i (by omega), gt_take' l q i hi]
 ·simp only [List.map_cons, List.map_nil]
  rw [gt_take' l (q + 1) q (by omega)]
end Go.Proofs.YtfnkklkdajlhlaaGreatDoor
namespace Go.Proofs.YtfnkklkdajlhlaaGreatDoor
open Go.RowKit Go.Shelf Num Bit
attribute [local go_sem] Oper.semAt_some
theorem ghighOf_c (n : Nat) (ao : Option Addr) (xs : List Nat) (cap : Nat) (w : World) (hx : Wd w ao xs) (fx : Fit xs) (ck : chk (n : Int) xs = true) (hn : n ≤ 3000) (L : List Nat) (hL : L = plc (bitAt xs) n) (m v HN k : Nat) (hm : m = L.length) (hv : v = wdF n m) (hH : HN = hiN L n v) (hk0 : k = (HN + 63) / 64) :
  Calls Tryz.prog 103 #[.agg #[.int .i64 (n : Nat), .slice ao xs.length cap], .int .i64 (m : Nat)] w fun e w' => ∃ g, e = .returned (.tuple #[.agg #[.int .i64 (HN : Nat), .slice (some ⟨g, 0, none⟩) k k], .int .i64 0]) ∧ Own w' g (rowOf HN (isIn (hiP L v))) ∧ w.heap.size ≤ g ∧ Below w.heap.size w w' := by
 have RS : Rise L n := by rw [hL]; exact plc_rise _ _
 have mn : m ≤ n := by rw [hm]; exact RS.len
 have v20 : v ≤ 20 := by rw [hv]; exact wdF_le n m (by omega)
 have hE : n / 2 ^ v ≤ n := Nat.div_le_self _ _
 have HN1 : HN ≤ 6001 := by rw [hH]; unfold hiN; omega
 have HR : Hid (Rise (hiP L v) HN) := by show Rise _ _; rw [hH]; exact hi_rise v RS
 have OC : Hid (∀ w0, Calls Tryz.prog 162 #[.agg #[.int .i64 (n : Nat), .slice ao xs.length cap]] w0 fun e w' => e = .returned (.func (.func 195) #[] #[.pointer (some ⟨w0.heap.size, 0, none⟩)]) ∧ w' = w0.alloc (.cells #[.int .i64 (n : Nat), .slice ao xs.length cap] 33)) := fun w0 => ofOnes_c n ao xs cap w0
 have WC : Hid (∀ w0, Calls Tryz.prog 165 #[.int .i64 (n : Nat), .int .i64 (m : Nat)] w0 fun e w' => e = .returned (.int .i64 (v : Nat)) ∧ w' = w0) := fun w0 => by rw [hv]; exact gwidth_c n m (by omega) mn w0
 have SZ : Hid (∀ w0, Calls Tryz.prog 164 #[.int .i64 (n : Nat), .int .i64 (m : Nat)] w0 fun e w' => e = .returned (.int .i64 (HN : Nat)) ∧ w' = w0) := fun w0 => by
  have := ghighSize_c n m (by omega) mn w0
  rw [← hv, show m + n / 2 ^ v + 1 = HN by rw [hH, hm]; rfl] at this
  exact this
 have NC : Hid (∀ w0, Calls Tryz.prog 104 #[.int .i64 (HN : Nat)] w0 fun e w' => ∃ g, e = .returned (.tuple #[.agg #[.int .i64 (HN : Nat), .slice (some ⟨g, 0, none⟩) k k], .int .i64 0]) ∧ w0.heap.size ≤ g ∧ g < w'.heap.size ∧ Own w' g (rowOf HN (fun _ => false)) ∧ Below w0.heap.size w0 w') := fun w0 => by
  have := new_ok (HN : Int) k w0 (by omega) (by omega) (by rw [hk0]; omega)
  rw [rep_row HN k hk0] at this
  exact this
 have SC : Hid (∀ w0 g f p, Own w0 g (rowOf HN f) → p < HN → Calls Tryz.prog 150 #[.slice (some ⟨g, 0, none⟩) k k, .int .i64 (p : Nat)] w0 fun e w' => (∃ v, e = .returned v) ∧ Own w' g (rowOf HN (fun j => f j || p == j)) ∧ Turned g w0 w') := fun w0 g f p hO hp => by
  have := gset_c HN f g k p w0 hO hp (by omega)
  rw [length_rowOf, ← hk0] at this
  exact this
 have GO : Hid (∀ (w0 : World) (B : Nat) (K : Nat → Prop), Wd w0 ao xs → Cel w0 B [.int .i64 (n : Nat), .slice ao xs.length cap] 33 → K B → (∀ p, ao = some p → 0 < xs.length → K p.block) → Goes Tryz.prog 195 #[.pointer (some ⟨B, 0, none⟩)] m (fun q => #[.int .i64 q, .int .i64 (gt L q : Nat)]) K w0) := fun w0 B K h1 h2 h3 h4 => by
  have := ofOnes1_goes B n ao xs cap K w0 h1 fx h2 h3 h4 ck
  rw [← hL, ← hm] at this
  exact this
 have HM := hide9' hm
 clear hL hm hv hH hk0 hE
 refine (callsIn_wide (n := 0)).1 (callsIn_of_wp_marks Tryz.func103 rfl trivial ?_)
 simp only [Tryz.ntmps103, List.size_toArray, List.length_cons, List.length_nil, Nat.reduceAdd, Nat.reduceSub, Array.replicate_succ, Array.replicate_zero, List.push_toArray, List.append_toArray, List.nil_append, List.cons_append]
 refine wpIn_wide.2 ?_
 obtain ⟨W1, hW1⟩ : ∃ W1, W1 = (w.alloc (.cells #[.int .i64 (n : Nat), .slice ao xs.length cap] 33)).alloc (.cells #[.int .i64 0, .slice none 0 0] 33) := ⟨_, rfl⟩
 have b1 : Below w.heap.size w W1 := by rw [hW1]; exact ((below_alloc w _).alloc (by simp only [World.size_alloc]; omega) _)
 have z1 : W1.heap.size = w.heap.size + 2 := by rw [hW1]; simp
 have c0 : Cel W1 w.heap.size [.int .i64 (n : Nat), .slice ao xs.length cap] 33 := by rw [hW1]; exact (Cel.new w _ _).alloc _
 have c1 : Cel W1 (w.heap.size + 1) [.int .i64 0, .slice none 0 0] 33 := by rw [hW1]; exact Cel.new2 w _ _ _
 go_wp2_with fail
 rw [← hW1]
 clear hW1
 refine (SZ.out _).mono ?_
 rintro e ws ⟨rfl, hs⟩
 rw [hs]
 clear hs ws SZ
 go_wp2_with fail
 refine (NC.out _).mono ?_
 rintro e w2 ⟨g, rfl, hg1, hg2, hO, hb⟩
 have zf : w.heap.size + 2 ≤ g := by omega
 replace b1 := b1.trans (hb.mono b1.size)
 replace c0 := c0.kept hb
 replace c1 := c1.kept hb
 clear hb NC z1 hg1
 obtain ⟨g2, hgg⟩ : ∃ g, g = w2.heap.size := ⟨_, rfl⟩
 obtain ⟨W2, hW2⟩ : ∃ W2, W2 = w2.alloc (.cells #[.int .i64 (HN : Nat), .slice (some ⟨g, 0, none⟩) k k] 33) := ⟨_, rfl⟩
 have bA : Below w2.heap.size w2 W2 := by rw [hW2]; exact below_alloc w2 _
 have z2 : W2.heap.size = g2 + 1 := by rw [hW2, hgg]; simp
 have c2 : Cel W2 g2 [.int .i64 (HN : Nat), .slice (some ⟨g, 0, none⟩) k k] 33 := by rw [hW2, hgg]; exact Cel.new w2 _ _
 have d0 : Cel (w2.alloc (.cells #[.int .i64 (HN : Nat), .slice (some ⟨g, 0, none⟩) k k] 33)) w.heap.size [.int .i64 (n : Nat), .slice ao xs.length cap] 33 := c0.alloc _
 have q0 := d0.cell 0 rfl
 have HG := hide9' hgg
 rw [← hgg] at hg2
 clear hgg
 have HW2 := hide9' hW2
 clear hW2
 have HZF := hide9' zf
 clear zf
 go_wp2_with fail
 rw [← HW2.out, ← HG.out]
 refine (WC.out _).mono ?_
 rintro e ws ⟨rfl, hs⟩
 rw [hs]
 clear hs ws WC q0 d0
 obtain ⟨W3, hW3⟩ : ∃ W3, W3 = W2.alloc (.cells #[.int .i64 (v : Nat)] 3) := ⟨_, rfl⟩
 have bB : Below W2.heap.size W2 W3 := by rw [hW3]; exact below_alloc W2 _
 have z3 : W3.heap.size = g2 + 2 := by rw [hW3]; simp [z2]
 have c3 : Cel W3 (g2 + 1) [.int .i64 (v : Nat)] 3 := by rw [hW3, ← z2]; exact Cel.new W2 _ _
 have d0 : Cel (W2.alloc (.cells #[.int .i64 (v : Nat)] 3)) w.heap.size [.int .i64 (n : Nat), .slice ao xs.length cap] 33 := (c0.kept bA).alloc _
 have q0 := d0.cell 0 rfl
 have q1 := d0.cell 1 rfl
 have HW3 := hide9' hW3
 clear hW3
 go_wp2_with fail
 rw [← HW3.out]
 refine (OC.out _).mono ?_
 rintro e w' ⟨rfl, hw'⟩
 have bC : Below W3.heap.size W3 w' := by rw [hw']; exact below_alloc W3 _
 have z4 : w'.heap.size = g2 + 3 := by rw [hw']; simp [z3]
 have c4 : Cel w' (g2 + 2) [.int .i64 (n : Nat), .slice ao xs.length cap] 33 := by rw [hw', ← z3]; exact Cel.new W3 _ _
 rw [z3]
 have zf := HZF.out
 have zg : w.heap.size ≤ g2 := by omega
 have bD : Below w2.heap.size w2 w' := bA.trans ((bB.mono (by rw [← HG.out]; omega)).trans (bC.mono (by rw [← HG.out]; omega)))
 have b4 : Below w.heap.size w w' := b1.trans (bD.mono (by rw [← HG.out]; omega))
 replace c0 := c0.kept bD
 replace c1 := c1.kept bD
 replace c2 := (c2.kept bB).kept bC
 replace c3 := c3.kept bC
 replace hO := hO.keep bD
 clear b1 bA bB bC bD OC HW2 HW3 HG hw' d0 q0 q1 HZF z2 z3 W1 W2 W3 w2
 go_wp2
 have G := GO.out w' (g2 + 2) (fun b => b ≠ g ∧ b ≠ w'.heap.size + 1) (hx.keep b4) c4 (by omega) (fun p hp h0 => by have := hx.blk hp h0; omega)
 have I0 : Own w' g (rowOf HN (isIn (hiP (L.take 0) v))) := by
  rw [rowOf_congr HN (isIn (hiP (L.take 0) v)) (fun _ => false) fun i _ => by simp [isIn, hiP]]
  exact hO
 clear hO GO
 refine range_law (gf := 195) (lb := #[.pointer (some ⟨g2 + 2, 0, none⟩)]) (K := fun b => b ≠ g) rfl (enters_of Tryz.func195 (by kernel_rfl) rfl) (fun _ => rfl) G (fun b hb => by omega)
  (fun q Wc => Kept (fun b => b ≠ g) w' Wc ∧ Own Wc g (rowOf HN (isIn (hiP (L.take q) v)))) (fun q Wc => False) (fun q A B h hb => ⟨h.1.more hb (Nat.le_refl _), (hb.block g (by omega)).trans h.2⟩) (fun q A B h hb => h) ⟨Kept.refl _ _, I0⟩
  (fun q => { tmps := #[.agg #[.int .i64 (n : Nat), .slice ao xs.length cap], .int .i64 (m : Nat), .pointer (some ⟨w.heap.size, 0, none⟩), undef, .pointer (some ⟨w.heap.size + 1, 0, none⟩), .int .i64 0, .pointer (some ⟨g2, 0, none⟩), .int .i64 0, .pointer (some ⟨g2 + 1, 0, none⟩), .int .i64 (q : Nat), .int .i64 (gt L q : Nat), .tuple #[.agg #[.int .i64 (HN : Nat), .slice (some ⟨g, 0, none⟩) k k], .int .i64 0], .pointer (some ⟨w.heap.size, 0, none⟩), .int .i64 (n : Nat), .int .i64 (m : Nat), .int .i64 (HN : Nat), .tuple #[.agg #[.int .i64 (HN : Nat), .slice (some ⟨g, 0, none⟩) k k], .int .i64 0], .agg #[.int .i64 (HN : Nat), .slice (some ⟨g, 0, none⟩) k k], .int .i64 0, .int .i64 0, .bool false, undef, undef, .pointer (some ⟨w.heap.size, 0, none⟩), .int .i64 (n : Nat), .int .i64 (m : Nat), .int .i64 (v : Nat), .agg #[.int .i64 (n : Nat), .slice ao xs.length cap], .func (.func 195) #[] #[.pointer (some ⟨g2 + 2, 0, none⟩)], .int .i64 (q : Nat), .int .i64 (gt L q : Nat), undef, undef, undef, undef, undef, undef, undef, undef, undef], defers := [] }) ?assign ?body ?done ?stop
 case assign =>
  intro l1 q Wc K1 hK1
  gi_wp2
  exact hK1
 case body =>
  rintro l1 q Wc hq ⟨hk, hO⟩ hz
  have cB := hk.cel c2 (by omega)
  have cV := hk.cel c3 (by omega)
  have qL : q < L.length := by rw [← HM.out]; exact hq
  have hlt := RS.1 q qL
  have hpl : gt L q / 2 ^ v + q < HN := by
   have := HR.out.1 q (by rw [length_hiP]; exact qL)
   rw [gt_hiP L v q qL] at this
   exact this
  have S1 := hide9' (fun w0 h => SC.out w0 g (isIn (hiP (L.take q) v)) (gt L q / 2 ^ v + q) h hpl)
  have RW : Hid (rowOf HN (fun j => isIn (hiP (L.take q) v) j || gt L q / 2 ^ v + q == j) = rowOf HN (isIn (hiP (L.take (q + 1)) v))) := by
   show rowOf _ _ = _
   refine rowOf_congr _ _ _ fun j _ => ?_
   rw [hiP_take L v q qL, isIn_snoc]
  generalize gt L q = x at *
  obtain ⟨d, hd⟩ : ∃ d, Hid (d = x / 2 ^ v) := ⟨_, rfl⟩
  have sd : (x : Int) / 2 ^ v = (d : Int) := by rw [hd.out, Int.natCast_ediv, Int.natCast_pow]; rfl
  have S2 : Hid (∀ w0, Own w0 g (rowOf HN (isIn (hiP (L.take q) v))) → Calls Tryz.prog 150 #[.slice (some ⟨g, 0, none⟩) k k, .int .i64 (IntKind.i64.wrap ((d : Int) + (q : Int)))] w0 fun e w' => (∃ v, e = .returned v) ∧ Own w' g (rowOf HN (isIn (hiP (L.take (q + 1)) v))) ∧ Turned g w0 w') := fun w0 h => by
   have := S1.out w0 h
   rw [RW.out, ← hd.out] at this
   rw [← hd.out] at hpl
   rw [show IntKind.i64.wrap ((d : Int) + (q : Int)) = ((d + q : Nat) : Int) by rw [IntKind.wrap_i64]; omega]
   exact this
  have v64 : (v : Int) < 64 := by omega
  clear G S1 RW SC
  gi_wp2_with fail
  refine region_i [] (fun w0 => Cel w0 g2 [.int .i64 (HN : Nat), .slice (some ⟨g, 0, none⟩) k k] 33 ∧ Cel w0 (g2 + 1) [.int .i64 (v : Nat)] 3) (by kernel_rfl) ?_
  have hS : (fun w0 : World => Cel w0 g2 [.int .i64 (HN : Nat), .slice (some ⟨g, 0, none⟩) k k] 33 ∧ Cel w0 (g2 + 1) [.int .i64 (v : Nat)] 3) Wc.drew := ⟨cB, cV⟩
  refine AnyI.take 0 (v := ?vv1) (inRound_any _) rfl (by kernel_rfl) (by kernel_rfl) (by kernel_rfl) (by kernel_rfl) (by kernel_rfl) (fun _ _ _ h => h) hS ?hy1 (by rfl) ?rest1
  case hy1 =>
   intro w0 h0
   go_simp
   try with_reducible rfl
  simp only [Act.put, yq0, yq1, yq2, yq3, yq4, yq5]
  refine AnyI.take 1 (v := ?vv2) (inRound_any _) rfl (by kernel_rfl) (by kernel_rfl) (by kernel_rfl) (by kernel_rfl) (by kernel_rfl) (fun _ _ _ h => h) hS ?hy2 (by rfl) ?rest2
  case hy2 =>
   intro w0 h0
   have := h0.1.cell 1 rfl
   go_simp
   try with_reducible rfl
  simp only [Act.put, yq0, yq1, yq2, yq3, yq4, yq5]
  refine AnyI.take 2 (v := ?vv3) (inRound_any _) rfl (by kernel_rfl) (by kernel_rfl) (by kernel_rfl) (by kernel_rfl) (by kernel_rfl) (fun _ _ _ h => h) hS ?hy3 (by rfl) ?rest3
  case hy3 =>
   intro w0 h0
   go_simp
   try with_reducible rfl
  simp only [Act.put, yq0, yq1, yq2, yq3, yq4, yq5]
  refine AnyI.take 3 (v := ?vv4) (inRound_any _) rfl (by kernel_rfl) (by kernel_rfl) (by kernel_rfl) (by kernel_rfl) (by kernel_rfl) (fun _ _ _ h => h) hS ?hy4 (by rfl) ?rest4
  case hy4 =>
   intro w0 h0
   have := h0.2.cell 0 rfl
   go_simp
   try with_reducible rfl
  simp only [Act.put, yq0, yq1, yq2, yq3, yq4, yq5]
  refine AnyI.take 4 (v := ?vv5) (inRound_any _) rfl (by kernel_rfl) (by kernel_rfl) (by kernel_rfl) (by kernel_rfl) (by kernel_rfl) (fun _ _ _ h => h) hS ?hy5 (by rfl) ?rest5
  case hy5 =>
   intro w0 h0
   go_simp
   try with_reducible rfl
  simp only [Act.put, yq0, yq1, yq2, yq3, yq4, yq5]
  refine AnyI.take 5 (v := ?vv6) (inRound_any _) rfl (by kernel_rfl) (by kernel_rfl) (by kernel_rfl) (by kernel_rfl) (by kernel_rfl) (fun _ _ _ h => h) hS ?hy6 (by rfl) ?rest6
  case hy6 =>
   intro w0 h0
   go_simp
   try with_reducible rfl
  simp only [Act.put, yq0, yq1, yq2, yq3, yq4, yq5]
  refine AnyI.take 6 (v := ?vv7) (inRound_any _) rfl (by kernel_rfl) (by kernel_rfl) (by kernel_rfl) (by kernel_rfl) (by kernel_rfl) (fun _ _ _ h => h) hS ?hy7 (by rfl) ?rest7
  case hy7 =>
   intro w0 h0
   go_simp
   try with_reducible rfl
  simp only [Act.put, yq0, yq1, yq2, yq3, yq4, yq5]
  refine AnyI.one 7 (inRound_any _) (by kernel_rfl) rfl (fun _ h => by cases h) (by rfl) ?_
  intro K2 hK2
  go_simp
  refine ⟨rfl, ?_⟩
  refine (CallsIn.inRound l1 (callsIn_wide.2 (S2.out Wc.drew hO.drew'))).mono ?_
  rintro e W3 ⟨⟨u, rfl⟩, hO3, hT⟩
  have kT : Kept (fun b => b ≠ g) Wc W3 := ⟨hT.os, hT.tape, hT.output, Nat.le_of_eq hT.size.symm, fun b hb _ => hT.block b hb⟩
  have HE := hide9' (And.intro kT (And.intro (hk.trans kT) hO3))
  have hS3 : Cel W3 g2 [.int .i64 (HN : Nat), .slice (some ⟨g, 0, none⟩) k k] 33 ∧ Cel W3 (g2 + 1) [.int .i64 (v : Nat)] 3 := ⟨kT.cel cB (by omega), kT.cel cV (by omega)⟩
  clear kT hT hO3
  refine hK2.out _ _ (fun _ => hS3) ?_
  clear hK2 K2
  refine AnyI.done (by kernel_rfl) ?_ _
  gi_wp2
  exact HE.out
 case done =>
  rintro D Wc hD ⟨hk, hO⟩ hd
  rw [HM.out, List.take_of_length_le (Nat.le_refl _)] at hO
  have cR := hk.cel c1 (by omega)
  have cB := hk.cel c2 (by omega)
  have hb := b4.trans (hk.below (B := w.heap.size) (fun x h => by omega) (by omega))
  have DN : D ≠ g ∧ D ≠ w.heap.size + 1 ∧ w.heap.size ≤ D := ⟨by omega, by omega, by omega⟩
  have gN : g ≠ w.heap.size + 1 ∧ w.heap.size ≤ g := ⟨by omega, by omega⟩
  clear hk c0 c1 c2 c3 c4 G
  go_wp2_with (first | refine load_cel g2 _ rfl cB Tryz.underlying33 ginfo_b ?_ | refine store_cel (w.heap.size + 1) [.int .i64 0, .slice none 0 0] _ rfl rfl cR rfl ginfo_b (by simp [Value.oneCell']) ?_)
  intro w3 B3 O3
  have b5 := hb.trans (O3.below (Nat.le_succ _))
  have hO3 : Own w3 g (rowOf HN (isIn (hiP L v))) := (O3.block g gN.1).trans hO
  have hd3 : w3.heap[D]? = some (.deferred (some [])) := (O3.block D DN.2.1).trans hd
  have HZ := hide9' (And.intro B3 (And.intro hO3 (And.intro hd3 b5)))
  clear B3 O3 hO3 hd3 b5 hd hO cB cR
  go_wp2
  obtain ⟨B3, hO3, hd3, b5⟩ := HZ.out
  have cR2 := B3.put (.deferred none) (show w.heap.size + 1 ≠ D from fun e => DN.2.1 e.symm)
  have hO4 : Own (w3.putObj D (.deferred none)) g (rowOf HN (isIn (hiP L v))) := (World.putObj_heap_other (fun e => DN.1 e.symm)).trans hO3
  exact marks_ret hd3 (result_cel rfl (w.heap.size + 1) _ rfl cR2 Tryz.underlying33 ginfo_b) ⟨g, rfl, hO4, gN.2, b5.trans (below_putObj DN.2.2 _)⟩
 case stop =>
  rintro D q Wc hD hq h hd
  exact h.elim
attribute [local go_sem] Oper.semAt_some
theorem gt_rmap9 (m : Nat) (f : Nat → Nat) (i : Nat) (h : i < m) : gt ((List.range m).map f) i = f i := by
 unfold gt
 rw [List.getD_eq_getElem?_getD, List.getElem?_map, List.getElem?_range h]
 rfl
def nlq (L : List Nat) (v q : Nat) : List Nat := (List.range L.length).map fun j => if j < q then gt L j % 2 ^ v else 0
theorem length_nlq (L : List Nat) (v q : Nat) : (nlq L v q).length = L.length := by simp [nlq]
theorem nlq_zero (L : List Nat) (v : Nat) : nlq L v 0 = List.replicate L.length 0 := by
 unfold nlq
 rw [List.eq_replicate_iff]
 refine ⟨by simp, fun b hb => ?_⟩
 rw [List.mem_map] at hb
 obtain ⟨j, _, rfl⟩ := hb
 simp
theorem nlq_all (L : List Nat) (v : Nat) (hv : 0 < v) : nlq L v L.length = loP L v := by
 refine Bit.list_ext _ _ (by rw [length_nlq, length_loP L v hv]) fun i hi => ?_
 rw [length_nlq] at hi
 rw [gt_loP L v i hv hi]
 unfold nlq
 rw [gt_rmap9 _ _ _ hi, if_pos hi]
theorem nlq_set (L : List Nat) (v q : Nat) (h : q < L.length) : (nlq L v q).set q (gt L q % 2 ^ v) = nlq L v (q + 1) := by
 refine List.ext_getElem? fun i => ?_
 rw [List.getElem?_set, length_nlq]
 unfold nlq
 by_cases c : i < L.length
 ·rw [List.getElem?_map, List.getElem?_map, List.getElem?_range c]
  by_cases d : q = i
  ·subst d
   simp [c]
  ·rw [if_neg d]
   simp only [Option.map_some]
   congr 1
   by_cases e : i < q
   ·rw [if_pos e, if_pos (by omega)]
   ·rw [if_neg e, if_neg (by omega)]
 ·rw [if_neg (by omega), List.getElem?_eq_none (by simp; omega), List.getElem?_eq_none (by simp; omega)]
theorem lo_imE (n : Nat) (L : List Nat) (v : Nat) (hn : n ≤ 3000) (hl : L.length ≤ n) (hv : v ≤ 20) : imE ((max v 1 : Nat) : Int) (loP L v) = 0 := by
 unfold imE
 rw [if_neg]
 have h1 := length_lo_le L v
 have h2 : (loP L v).length * max v 1 ≤ 3000 * 20 := Nat.mul_le_mul (by omega) (by omega)
 rintro (h | h | h | h)
 ·omega
 ·omega
 ·rw [← Int.natCast_mul] at h; omega
 ·exact h fun j hj => (lenI_fit _ _).2 (loP_lt L v j)
theorem ginfo_i : (Tryz.prog.info? 39).map (·.size) = some 4 := by kernel_rfl
theorem glowOf_0 (n : Nat) (ao : Option Addr) (xs : List Nat) (cap : Nat) (w : World) (m : Nat) (hn : n ≤ 3000) (mn : m ≤ n) (h0 : wdF n m = 0) :
  Calls Tryz.prog 102 #[.agg #[.int .i64 (n : Nat), .slice ao xs.length cap], .int .i64 (m : Nat)] w fun e w' => ∃ bo bc, e = .returned (.tuple #[.agg #[.int .i64 0, .int .i64 1, .int .i64 0, .slice bo 0 bc], .int .i64 0]) ∧ Below w.heap.size w w' := by
 obtain ⟨i6, hi6, za6, zb6, zc6⟩ := info_parts Tryz.info110
 have SZ : Hid (∀ w0, Calls Tryz.prog 161 #[.int .i64 (n : Nat), .int .i64 (m : Nat)] w0 fun e w' => e = .returned (.tuple #[.int .i64 0, .int .i64 1]) ∧ w' = w0) := fun w0 => by
  have := glowSize_c n m (by omega) mn w0
  unfold loN at this
  rw [h0, if_pos rfl] at this
  exact this
 have MC : Hid (∀ w0 g, Calls Tryz.prog 159 #[.int .i64 1, .slice (some ⟨g, 0, none⟩) 0 0] w0 fun e w' => ∃ bo bc, e = .returned (.tuple #[.agg #[.int .i64 0, .int .i64 1, .int .i64 0, .slice bo 0 bc], .int .i64 0]) ∧ Below w0.heap.size w0 w') := fun w0 g => by
  refine (make_ok 1 (some ⟨g, 0, none⟩) [] 0 0 w0 (wd0' _ _) (fun i => by unfold gt; simp) (by decide) (by decide)).mono ?_
  rintro e w' ⟨g', rfl, _, _, hb⟩
  exact ⟨_, _, rfl, hb⟩
 clear h0
 refine (callsIn_wide (n := 0)).1 (callsIn_of_wp_marks Tryz.func102 rfl trivial ?_)
 simp only [Tryz.ntmps102, List.size_toArray, List.length_cons, List.length_nil, Nat.reduceAdd, Nat.reduceSub, Array.replicate_succ, Array.replicate_zero, List.push_toArray, List.append_toArray, List.nil_append, List.cons_append]
 refine wpIn_wide.2 ?_
 obtain ⟨W1, hW1⟩ : ∃ W1, W1 = (w.alloc (.cells #[.int .i64 (n : Nat), .slice ao xs.length cap] 33)).alloc (.cells #[.int .i64 0, .int .i64 0, .int .i64 0, .slice none 0 0] 39) := ⟨_, rfl⟩
 have b1 : Below w.heap.size w W1 := by rw [hW1]; exact ((below_alloc w _).alloc (by simp only [World.size_alloc]; omega) _)
 have z1 : W1.heap.size = w.heap.size + 2 := by rw [hW1]; simp
 have c1 : Cel W1 (w.heap.size + 1) [.int .i64 0, .int .i64 0, .int .i64 0, .slice none 0 0] 39 := by rw [hW1]; exact Cel.new2 w _ _ _
 go_wp2_with fail
 rw [← hW1]
 clear hW1
 refine (SZ.out _).mono ?_
 rintro e ws ⟨rfl, hs⟩
 rw [hs]
 clear hs ws SZ
 obtain ⟨W2, hW2⟩ : ∃ W2, W2 = W1.alloc (.cells #[.int .i64 1] 3) := ⟨_, rfl⟩
 have b2 : Below W1.heap.size W1 W2 := by rw [hW2]; exact below_alloc W1 _
 have z2 : W2.heap.size = w.heap.size + 3 := by rw [hW2]; simp [z1]
 have c2 : Cel W2 (w.heap.size + 2) [.int .i64 1] 3 := by rw [hW2, ← z1]; exact Cel.new W1 _ _
 go_wp2_with (at_make; rw [← hW2]; refine wpList_make_full _ rfl _ _ 31 rfl W2.heap.size 110 i6 (.int .u64 0) 1 Tryz.underlying31 hi6 za6 zb6 .i64 .i64 _ _ 0 rfl rfl rfl rfl ?b2 ?b3 ?b4 ?_)
 case b2 => rw [zc6]; omega
 case b3 => unfold maxLen; omega
 case b4 => exact Nat.le_refl _
 intro w3 hown hgr
 have b3 : Below W2.heap.size W2 w3 := by rw [hW2]; exact (Below.refl _ _).grown hgr (Nat.le_refl _) (fun k h => by cases h)
 have bb : Below w.heap.size w w3 := b1.trans ((b2.mono (by omega)).trans (b3.mono (by omega)))
 replace c1 := (c1.kept b2).kept b3
 replace c2 := c2.kept b3
 clear hown hgr b1 b2 b3 hW2
 have bA := below_alloc w3 (.cells #[.slice (some ⟨w.heap.size + 2 + 1, 0, none⟩) 0 0] 31)
 have d2 := c2.kept bA
 have d1 := c1.kept bA
 have q0 := d2.cell 0 rfl
 go_wp2_with fail
 refine (MC.out _ _).mono ?_
 rintro e w4 ⟨bo, bc, rfl, hb⟩
 have b5 := (bb.trans (bA.mono bb.size)).trans (hb.mono (Nat.le_trans bb.size bA.size))
 replace d1 := d1.kept hb
 clear hb q0 d2 c1 c2 bA bb
 go_wp2_with (refine store_cel (w.heap.size + 1) [.int .i64 0, .int .i64 0, .int .i64 0, .slice none 0 0] _ rfl rfl d1 rfl ginfo_i (by simp [Value.oneCell']) ?_)
 intro w5 B3 O3
 have HZ := hide9' (And.intro B3 (b5.trans (O3.below (Nat.le_succ _))))
 clear B3 O3 b5 d1
 go_wp2
 exact ⟨_, result_cel rfl (w.heap.size + 1) _ rfl HZ.out.1 Tryz.underlying39 ginfo_i, bo, bc, rfl, HZ.out.2⟩
theorem glowOf_v (n : Nat) (ao : Option Addr) (xs : List Nat) (cap : Nat) (w : World) (hx : Wd w ao xs) (fx : Fit xs) (ck : chk (n : Int) xs = true) (hn : n ≤ 3000) (L : List Nat) (hL : L = plc (bitAt xs) n) (m v : Nat) (hm : m = L.length) (hv : v = wdF n m) (hv0 : 0 < v) :
  Calls Tryz.prog 102 #[.agg #[.int .i64 (n : Nat), .slice ao xs.length cap], .int .i64 (m : Nat)] w fun e w' => ∃ g k, e = .returned (.tuple #[.agg #[.int .i64 (m : Nat), .int .i64 (v : Nat), .int .i64 ((m : Int) * (v : Int)), .slice (some ⟨g, 0, none⟩) k k], .int .i64 0]) ∧ k = (mkS (loP L v) v m).length ∧ Own w' g (mkS (loP L v) v m) ∧ Below w.heap.size w w' := by
 have RS : Rise L n := by rw [hL]; exact plc_rise _ _
 have mn : m ≤ n := by rw [hm]; exact RS.len
 have v20 : v ≤ 20 := by rw [hv]; exact wdF_le n m (by omega)
 have m0 : 0 < m := by
  refine Nat.pos_of_ne_zero fun c => ?_
  rw [c] at hv
  unfold wdF at hv
  rw [if_pos rfl] at hv
  omega
 have m0i : (0 : Int) < (m : Int) := by omega
 obtain ⟨i6, hi6, za6, zb6, zc6⟩ := info_parts Tryz.info110
 have OC : Hid (∀ w0, Calls Tryz.prog 162 #[.agg #[.int .i64 (n : Nat), .slice ao xs.length cap]] w0 fun e w' => e = .returned (.func (.func 195) #[] #[.pointer (some ⟨w0.heap.size, 0, none⟩)]) ∧ w' = w0.alloc (.cells #[.int .i64 (n : Nat), .slice ao xs.length cap] 33)) := fun w0 => ofOnes_c n ao xs cap w0
 have SZ : Hid (∀ w0, Calls Tryz.prog 161 #[.int .i64 (n : Nat), .int .i64 (m : Nat)] w0 fun e w' => e = .returned (.tuple #[.int .i64 (m : Nat), .int .i64 (v : Nat)]) ∧ w' = w0) := fun w0 => by
  have := glowSize_c n m (by omega) mn w0
  unfold loN at this
  rw [← hv, if_neg (by omega), show max v 1 = v by omega] at this
  exact this
 have MK : Hid (∀ w0, Calls Tryz.prog 163 #[.int .i64 (v : Nat)] w0 fun e w' => e = .returned (.int .u64 (maskI v)) ∧ w' = w0) := fun w0 => mask_c v w0
 have MC : Hid (∀ w0 g, Own w0 g (loP L v) → Calls Tryz.prog 159 #[.int .i64 (v : Nat), .slice (some ⟨g, 0, none⟩) m m] w0 fun e w' => ∃ g k, e = .returned (.tuple #[.agg #[.int .i64 (m : Nat), .int .i64 (v : Nat), .int .i64 ((m : Int) * (v : Int)), .slice (some ⟨g, 0, none⟩) k k], .int .i64 0]) ∧ k = (mkS (loP L v) v m).length ∧ Own w' g (mkS (loP L v) v m) ∧ Below w0.heap.size w0 w') := fun w0 g hO => by
  have e1 := lo_imE n L v hn (by omega) v20
  rw [show max v 1 = v by omega] at e1
  have e2 : (loP L v).length = m := by rw [length_loP L v hv0, hm]
  have := make_ok v (some ⟨g, 0, none⟩) (loP L v) m ((m * v + 63) / 64) w0 hO.wd (fun i => Nat.lt_of_lt_of_le (loP_lt L v i) (Nat.pow_le_pow_right (show 0 < 2 by decide) (show max v 1 ≤ 64 by omega))) e1 (by rw [e2])
  rw [e2] at this
  refine this.mono ?_
  rintro e w' ⟨g', rfl, _, h1, h2⟩
  exact ⟨g', _, rfl, by rw [length_mkS, e2], h1, h2⟩
 have GO : Hid (∀ (w0 : World) (B : Nat) (K : Nat → Prop), Wd w0 ao xs → Cel w0 B [.int .i64 (n : Nat), .slice ao xs.length cap] 33 → K B → (∀ p, ao = some p → 0 < xs.length → K p.block) → Goes Tryz.prog 195 #[.pointer (some ⟨B, 0, none⟩)] m (fun q => #[.int .i64 q, .int .i64 (gt L q : Nat)]) K w0) := fun w0 B K h1 h2 h3 h4 => by
  have := ofOnes1_goes B n ao xs cap K w0 h1 fx h2 h3 h4 ck
  rw [← hL, ← hm] at this
  exact this
 have HM := hide9' hm
 clear hL hm hv
 refine (callsIn_wide (n := 0)).1 (callsIn_of_wp_marks Tryz.func102 rfl trivial ?_)
 simp only [Tryz.ntmps102, List.size_toArray, List.length_cons, List.length_nil, Nat.reduceAdd, Nat.reduceSub, Array.replicate_succ, Array.replicate_zero, List.push_toArray, List.append_toArray, List.nil_append, List.cons_append]
 refine wpIn_wide.2 ?_
 obtain ⟨W1, hW1⟩ : ∃ W1, W1 = (w.alloc (.cells #[.int .i64 (n : Nat), .slice ao xs.length cap] 33)).alloc (.cells #[.int .i64 0, .int .i64 0, .int .i64 0, .slice none 0 0] 39) := ⟨_, rfl⟩
 have b1 : Below w.heap.size w W1 := by rw [hW1]; exact ((below_alloc w _).alloc (by simp only [World.size_alloc]; omega) _)
 have z1 : W1.heap.size = w.heap.size + 2 := by rw [hW1]; simp
 have c0 : Cel W1 w.heap.size [.int .i64 (n : Nat), .slice ao xs.length cap] 33 := by rw [hW1]; exact (Cel.new w _ _).alloc _
 have c1 : Cel W1 (w.heap.size + 1) [.int .i64 0, .int .i64 0, .int .i64 0, .slice none 0 0] 39 := by rw [hW1]; exact Cel.new2 w _ _ _
 go_wp2_with fail
 rw [← hW1]
 clear hW1
 refine (SZ.out _).mono ?_
 rintro e ws ⟨rfl, hs⟩
 rw [hs]
 clear hs ws SZ
 obtain ⟨W2, hW2⟩ : ∃ W2, W2 = W1.alloc (.cells #[.int .i64 (v : Nat)] 3) := ⟨_, rfl⟩
 have b2 : Below W1.heap.size W1 W2 := by rw [hW2]; exact below_alloc W1 _
 have z2 : W2.heap.size = w.heap.size + 3 := by rw [hW2]; simp [z1]
 have c2 : Cel W2 (w.heap.size + 2) [.int .i64 (v : Nat)] 3 := by rw [hW2, ← z1]; exact Cel.new W1 _ _
 go_wp2_with (at_make; rw [← hW2]; refine wpList_make_full _ rfl _ _ 31 rfl W2.heap.size 110 i6 (.int .u64 0) 1 Tryz.underlying31 hi6 za6 zb6 .i64 .i64 _ _ m rfl rfl rfl rfl ?b2 ?b3 ?b4 ?_)
 case b2 => rw [zc6]; omega
 case b3 => unfold maxLen; omega
 case b4 => exact Nat.le_refl _
 intro w3 hown hgr
 have b3 : Below W2.heap.size W2 w3 := by rw [hW2]; exact (Below.refl _ _).grown hgr (Nat.le_refl _) (fun k h => by cases h)
 have bb : Below w.heap.size w w3 := b1.trans ((b2.mono (by omega)).trans (b3.mono (by omega)))
 have hO : Own w3 (w.heap.size + 3) (List.replicate m 0) := own_made hown
 have z3 : w.heap.size + 4 ≤ w3.heap.size := hO.lt
 replace c0 := (c0.kept b2).kept b3
 replace c1 := (c1.kept b2).kept b3
 replace c2 := c2.kept b3
 obtain ⟨g4, zh⟩ : ∃ g, w3.heap.size = g := ⟨_, rfl⟩
 rw [zh] at z3
 clear hown hgr b1 b2 b3 hW2
 obtain ⟨W4, hW4⟩ : ∃ W4, W4 = w3.alloc (.cells #[.slice (some ⟨w.heap.size + 2 + 1, 0, none⟩) m m] 31) := ⟨_, rfl⟩
 have bA : Below w3.heap.size w3 W4 := by rw [hW4]; exact below_alloc w3 _
 have z4 : W4.heap.size = g4 + 1 := by rw [hW4]; simp [zh]
 have c4 : Cel W4 g4 [.slice (some ⟨w.heap.size + 3, 0, none⟩) m m] 31 := by rw [hW4, ← zh]; exact Cel.new w3 _ _
 have d0 : Cel (w3.alloc (.cells #[.slice (some ⟨w.heap.size + 2 + 1, 0, none⟩) m m] 31)) w.heap.size [.int .i64 (n : Nat), .slice ao xs.length cap] 33 := c0.alloc _
 have q0 := d0.cell 0 rfl
 have q1 := d0.cell 1 rfl
 have HW4 := hide9' hW4
 have HZH := hide9' zh
 clear hW4 zh
 go_wp2_with fail
 rw [← HW4.out, HZH.out]
 refine (OC.out _).mono ?_
 rintro e w' ⟨rfl, hw'⟩
 have zh := HZH.out
 have bC : Below W4.heap.size W4 w' := by rw [hw']; exact below_alloc W4 _
 have z5 : w'.heap.size = g4 + 2 := by rw [hw']; simp [z4]
 have c5 : Cel w' (g4 + 1) [.int .i64 (n : Nat), .slice ao xs.length cap] 33 := by rw [hw', ← z4]; exact Cel.new W4 _ _
 rw [z4]
 have bD : Below w3.heap.size w3 w' := bA.trans (bC.mono (by omega))
 have b4 : Below w.heap.size w w' := bb.trans (bD.mono (by omega))
 replace c0 := c0.kept bD
 replace c1 := c1.kept bD
 replace c2 := c2.kept bD
 replace c4 := c4.kept bC
 replace hO := hO.keep bD
 clear bA bb bC bD OC HW4 HZH hw' d0 q0 q1 z1 z2 zh z4
 go_wp2
 have G := GO.out w' (g4 + 1) (fun b => b ≠ w.heap.size + 3 ∧ b ≠ w'.heap.size + 1) (hx.keep b4) c5 (by omega) (fun p hp h0 => by have := hx.blk hp h0; omega)
 have I0 : Own w' (w.heap.size + 3) (nlq L v 0) := by
  rw [nlq_zero, ← HM.out]
  exact hO
 clear hO GO
 refine range_law (gf := 195) (lb := #[.pointer (some ⟨g4 + 1, 0, none⟩)]) (K := fun b => b ≠ w.heap.size + 3) rfl (enters_of Tryz.func195 (by kernel_rfl) rfl) (fun _ => rfl) G (fun b hb => by omega)
  (fun q Wc => Kept (fun b => b ≠ w.heap.size + 3) w' Wc ∧ Own Wc (w.heap.size + 3) (nlq L v q)) (fun q Wc => False) (fun q A B h hb => ⟨h.1.more hb (Nat.le_refl _), (hb.block (w.heap.size + 3) (by omega)).trans h.2⟩) (fun q A B h hb => h) ⟨Kept.refl _ _, I0⟩
  (fun q => { tmps := #[.agg #[.int .i64 (n : Nat), .slice ao xs.length cap], .int .i64 (m : Nat), .pointer (some ⟨w.heap.size, 0, none⟩), undef, .pointer (some ⟨w.heap.size + 1, 0, none⟩), .int .i64 0, .int .i64 (m : Nat), .pointer (some ⟨w.heap.size + 2, 0, none⟩), .pointer (some ⟨g4, 0, none⟩), .int .i64 (q : Nat), .int .i64 (gt L q : Nat), .tuple #[.int .i64 (m : Nat), .int .i64 (v : Nat)], .pointer (some ⟨w.heap.size, 0, none⟩), .int .i64 (n : Nat), .int .i64 (m : Nat), .tuple #[.int .i64 (m : Nat), .int .i64 (v : Nat)], .int .i64 (m : Nat), .int .i64 (v : Nat), .int .i64 (m : Nat), .slice (some ⟨w.heap.size + 3, 0, none⟩) m m, .int .i64 (m : Nat), .bool true, .agg #[.int .i64 (n : Nat), .slice ao xs.length cap], .func (.func 195) #[] #[.pointer (some ⟨g4 + 1, 0, none⟩)], .int .i64 (q : Nat), .int .i64 (gt L q : Nat), undef, undef, undef, undef, undef, undef, undef, undef, undef, undef, undef, undef, undef], defers := [] }) ?assign ?body ?done ?stop
 case assign =>
  intro l1 q Wc K1 hK1
  gi_wp2
  exact hK1
 case body =>
  rintro l1 q Wc hq ⟨hk, hO⟩ hz
  have cS := hk.cel c4 (by omega)
  have cV := hk.cel c2 (by omega)
  have qL : q < L.length := by rw [← HM.out]; exact hq
  have hlt := RS.1 q qL
  have NS := hide9' (nlq_set L v q qL)
  have r0 := hO.cell q (by rw [length_nlq]; exact qL)
  have r1 := hO.frozen q
  have hO2 := hide9' hO
  clear hO
  generalize gt L q = x at *
  have hq2 : (q : Int) < (m : Int) := by omega
  have xu : IntKind.u64.wrap (x : Int) = (x : Int) := by rw [IntKind.wrap_u64]; omega
  have AM : bits BinOp.and IntKind.u64 (x : Int) (maskI (v : Int)) = ((x % 2 ^ v : Nat) : Int) := by
   rw [and_mask _ _ (by omega) (by omega), Int.toNat_natCast, Int.toNat_natCast, show min v 64 = v by omega]
  generalize x % 2 ^ v = y at *
  generalize maskI (v : Int) = mk at *
  clear G
  gi_wp2_with fail
  refine region_i [8] (fun w0 => Cel w0 g4 [.slice (some ⟨w.heap.size + 3, 0, none⟩) m m] 31 ∧ Cel w0 (w.heap.size + 2) [.int .i64 (v : Nat)] 3) (by kernel_rfl) ?_
  have hS : (fun w0 : World => Cel w0 g4 [.slice (some ⟨w.heap.size + 3, 0, none⟩) m m] 31 ∧ Cel w0 (w.heap.size + 2) [.int .i64 (v : Nat)] 3) Wc.drew := ⟨cS, cV⟩
  refine AnyI.take 0 (v := ?vv1) (inRound_any _) rfl (by kernel_rfl) (by kernel_rfl) (by kernel_rfl) (by kernel_rfl) (by kernel_rfl) (fun _ _ _ h => h) hS ?hy1 (by rfl) ?rest1
  case hy1 =>
   intro w0 h0
   have := h0.1.cell 0 rfl
   go_simp
   try with_reducible rfl
  simp only [Act.put, yq0, yq1, yq2, yq3, yq4, yq5]
  refine AnyI.take 1 (v := ?vv2) (inRound_any _) rfl (by kernel_rfl) (by kernel_rfl) (by kernel_rfl) (by kernel_rfl) (by kernel_rfl) (fun _ _ _ h => h) hS ?hy2 (by rfl) ?rest2
  case hy2 =>
   intro w0 h0
   go_simp
   try with_reducible rfl
  simp only [Act.put, yq0, yq1, yq2, yq3, yq4, yq5]
  refine AnyI.take 2 (v := ?vv3) (inRound_any _) rfl (by kernel_rfl) (by kernel_rfl) (by kernel_rfl) (by kernel_rfl) (by kernel_rfl) (fun _ _ _ h => h) hS ?hy3 (by rfl) ?rest3
  case hy3 =>
   intro w0 h0
   go_simp
   try with_reducible rfl
  simp only [Act.put, yq0, yq1, yq2, yq3, yq4, yq5]
  refine AnyI.take 3 (v := ?vv4) (inRound_any _) rfl (by kernel_rfl) (by kernel_rfl) (by kernel_rfl) (by kernel_rfl) (by kernel_rfl) (fun _ _ _ h => h) hS ?hy4 (by rfl) ?rest4
  case hy4 =>
   intro w0 h0
   go_simp
   try with_reducible rfl
  simp only [Act.put, yq0, yq1, yq2, yq3, yq4, yq5]
  refine AnyI.take 4 (v := ?vv5) (inRound_any _) rfl (by kernel_rfl) (by kernel_rfl) (by kernel_rfl) (by kernel_rfl) (by kernel_rfl) (fun _ _ _ h => h) hS ?hy5 (by rfl) ?rest5
  case hy5 =>
   intro w0 h0
   have := h0.2.cell 0 rfl
   go_simp
   try with_reducible rfl
  simp only [Act.put, yq0, yq1, yq2, yq3, yq4, yq5]
  refine AnyI.one 5 (inRound_any _) (by kernel_rfl) rfl (fun _ h => by cases h) (by rfl) ?_
  intro K2 hK2
  go_simp
  refine ⟨rfl, ?_⟩
  refine (CallsIn.inRound l1 (callsIn_wide.2 (MK.out _))).mono ?_
  rintro e W3 ⟨rfl, h3⟩
  rw [h3]
  clear h3 W3
  refine hK2.out _ _ (fun _ => hS) ?_
  clear hK2 K2
  try simp only [Act.put, yq0, yq1, yq2, yq3, yq4, yq5]
  refine AnyI.take 6 (v := ?vv51) (inRound_any _) rfl (by kernel_rfl) (by kernel_rfl) (by kernel_rfl) (by kernel_rfl) (by kernel_rfl) (fun _ _ _ h => h) hS ?hy51 (by rfl) ?rest51
  case hy51 =>
   intro w0 h0
   go_simp
   try with_reducible rfl
  simp only [Act.put, yq0, yq1, yq2, yq3, yq4, yq5]
  refine AnyI.take 7 (v := ?vv52) (inRound_any _) rfl (by kernel_rfl) (by kernel_rfl) (by kernel_rfl) (by kernel_rfl) (by kernel_rfl) (fun _ _ _ h => h) hS ?hy52 (by rfl) ?rest52
  case hy52 =>
   intro w0 h0
   go_simp
   try with_reducible rfl
  simp only [Act.put, yq0, yq1, yq2, yq3, yq4, yq5]
  refine AnyI.one 8 (inRound_any _) (by kernel_rfl) rfl (fun _ h => by cases h) (by rfl) ?_
  intro K2 hK2
  go_simp
  have kT : Kept (fun b => b ≠ w.heap.size + 3) Wc (Wc.setCell ⟨w.heap.size + 3, q, none⟩ (.int .u64 (y : Nat))).drew := by
   have h := (Kept.refl (fun b => b ≠ w.heap.size + 3) Wc).setCell (p := ⟨w.heap.size + 3, q, none⟩) (fun h => h rfl) (.int .u64 (y : Nat))
   exact ⟨h.os, h.tape, h.output, h.size, h.same⟩
  have hO3 : Own (Wc.setCell ⟨w.heap.size + 3, q, none⟩ (.int .u64 (y : Nat))).drew (w.heap.size + 3) (nlq L v (q + 1)) := by
   rw [← NS.out]
   exact (hO2.out.set q y).drew'
  have HE := hide9' (And.intro kT (And.intro (hk.trans kT) hO3))
  clear kT hO3
  refine hK2.out _ _ (fun h => absurd (by decide) h) ?_
  clear hK2 K2
  refine AnyI.done (by kernel_rfl) ?_ _
  gi_wp2
  exact HE.out
 case done =>
  rintro D Wc hD ⟨hk, hO⟩ hd
  rw [HM.out, nlq_all L v hv0] at hO
  have cR := hk.cel c1 (by omega)
  have cS := hk.cel c4 (by omega)
  have cV := hk.cel c2 (by omega)
  have hb := b4.trans (hk.below (B := w.heap.size) (fun x h => by omega) (by omega))
  have DN : D ≠ w.heap.size + 1 ∧ w.heap.size ≤ D := ⟨by omega, by omega⟩
  have gN : w.heap.size + 1 < Wc.heap.size := cR.lt
  have M1 := hide9' (MC.out Wc (w.heap.size + 3) hO)
  have q0 := cV.cell 0 rfl
  have q1 := cS.cell 0 rfl
  clear hk c0 c1 c2 c4 c5 G hO MC
  go_wp2_with fail
  refine M1.out.mono ?_
  rintro e w4 ⟨g, k, rfl, hk2, hO4, hb4⟩
  replace cR := cR.kept hb4
  have hd4 : w4.heap[D]? = some (.deferred (some [])) := (hb4.block D (Array.getElem?_eq_some_iff.1 hd).1).trans hd
  have hgN : g ≠ w.heap.size + 1 := fun e => by
   rw [e] at hO4
   have h1 : w4.heap[w.heap.size + 1]? = _ := hO4
   rw [show w4.heap[w.heap.size + 1]? = _ from cR] at h1
   simp only [Option.some.injEq, Obj.cells.injEq] at h1
   exact absurd h1.2.1 (by decide)
  have hgD : g ≠ D := fun e => by
   rw [e] at hO4
   have h1 : w4.heap[D]? = _ := hO4
   rw [hd4] at h1
   cases h1
  have b5 := hb.trans (hb4.mono hb.size)
  clear hb4 q0 q1 cS cV hd
  go_wp2_with (refine store_cel (w.heap.size + 1) [.int .i64 0, .int .i64 0, .int .i64 0, .slice none 0 0] _ rfl rfl cR rfl ginfo_i (by simp [Value.oneCell']) ?_)
  intro w5 B3 O3
  have b6 := b5.trans (O3.below (Nat.le_succ _))
  have hO5 : Own w5 g (mkS (loP L v) v m) := (O3.block g hgN).trans hO4
  have hd5 : w5.heap[D]? = some (.deferred (some [])) := (O3.block D DN.1).trans hd4
  have HZ := hide9' (And.intro B3 (And.intro hO5 (And.intro hd5 (And.intro b6 hk2))))
  clear B3 O3 hO5 hd5 b5 b6 hd4 hO4 cR hk2
  go_wp2
  obtain ⟨B3, hO5, hd5, b6, hk2⟩ := HZ.out
  have cR2 := B3.put (.deferred none) (show w.heap.size + 1 ≠ D from fun e => DN.1 e.symm)
  have hO6 : Own (w5.putObj D (.deferred none)) g (mkS (loP L v) v m) := (World.putObj_heap_other hgD).trans hO5
  exact marks_ret hd5 (result_cel rfl (w.heap.size + 1) _ rfl cR2 Tryz.underlying39 ginfo_i) ⟨g, _, rfl, rfl, hO6, b6.trans (below_putObj DN.2 _)⟩
 case stop =>
  rintro D q Wc hD hq h hd
  exact h.elim
end Go.Proofs.YtfnkklkdajlhlaaGreatDoor
