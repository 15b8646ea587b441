/-
  The contract of the program's along: each block is handed to a function, which may write where it is told.
-/
import Derived.Test.YtpeecabfcgijhaaGreatDoorT18
import Derived.WalkMore
set_option linter.unusedVariables false
set_option linter.unusedSimpArgs false
set_option maxRecDepth 100000
set_option maxHeartbeats 16000000
namespace Go.Proofs.YtpeecabfcgijhaaGreatDoor
open Go.RowKit Num Bit Bn
structure Fr8 (lo hi : Nat) (w w' : World) : Prop where
 below : Below lo w w'
 high : ∀ b, hi ≤ b → b < w.heap.size → w'.heap[b]? = w.heap[b]?
theorem Fr8.refl (lo hi : Nat) (w : World) : Fr8 lo hi w w := ⟨Below.refl _ _, fun _ _ _ => rfl⟩
theorem Fr8.of {lo hi : Nat} {w w' : World} (hb : Below w.heap.size w w') (hl : lo ≤ w.heap.size) : Fr8 lo hi w w' := ⟨hb.mono hl, fun b _ h => hb.block b h⟩
theorem Fr8.trans {lo hi : Nat} {a b c : World} (h : Fr8 lo hi a b) (k : Fr8 lo hi b c) : Fr8 lo hi a c := ⟨h.below.trans k.below, fun x h1 h2 => (k.high x h1 (Nat.lt_of_lt_of_le h2 h.below.size)).trans (h.high x h1 h2)⟩
theorem Fr8.cel {lo hi b : Nat} {w w' : World} {cs : List Value} {T : TypeId} (h : Fr8 lo hi w w') (hc : Cel w b cs T) (hb : hi ≤ b) : Cel w' b cs T := (h.high b hb hc.lt).trans hc
theorem Fr8.size {lo hi : Nat} {w w' : World} (h : Fr8 lo hi w w') : w.heap.size ≤ w'.heap.size := h.below.size
theorem Fr8.setCell {lo hi : Nat} {w w' : World} {a : Addr} (h : Fr8 lo hi w w') (h1 : w.heap.size ≤ a.block) (h2 : lo ≤ a.block) (v : Value) : Fr8 lo hi w (w'.setCell a v) :=
 ⟨h.below.setCell h2 v, fun b hb hl => (Below.heap_setCell w' a v b (by omega)).trans (h.high b hb hl)⟩
theorem KI8.parts {w : World} {N k V M L : Int} {xs ys : List Nat} {S T : List Int} {ao : Option Addr} {cap : Nat} {qo : Option Addr} {dap : Nat} {so : Option Addr} {sc : Nat} {tO : Option Addr} {tc : Nat} (h : KI8 w [.int .i64 N, .int .i64 k, .int .i64 V, .int .i64 M, .slice ao xs.length cap, .int .i64 L, .slice qo ys.length dap, .slice so S.length sc, .slice tO T.length tc] ⟨N, k, V, M, xs, L, ys, S, T⟩) :
  Wd w ao xs ∧ Fit xs ∧ Wd w qo ys ∧ Fit ys ∧ Nd w so S ∧ Nd w tO T := by
 obtain ⟨⟨ao', cap', qo', dap', so', sc', tO', tc', e, _, a1, a2, a3, a4, a5, a6, a7, a8, a9, a10⟩, _⟩ := h
 simp only [List.cons.injEq, Value.slice.injEq, true_and, and_true] at e
 obtain ⟨⟨rfl, rfl⟩, ⟨rfl, rfl⟩, ⟨rfl, rfl⟩, rfl, rfl⟩ := e
 exact ⟨a1, a2, a4, a5, a7, a9⟩
def Step (cs : List Value) (a : RA8) (g n lo hi F : Nat) (caps : Array Value) (Inv Fin : Nat → World → Prop) : Prop :=
 ∀ i w1, 8 * g ≤ i → i < n → cSE a.L a.ys a.xs i = 0 → Inv i w1 → hi ≤ w1.heap.size →
  Calls Tryz.prog F (#[.int .i64 i, .agg #[.int .i64 (cls a.xs i : Nat), .int .u64 (cOff a.L a.ys a.xs i : Nat)], .agg #[.int .i64 (cOn a.xs i : Nat), .int .i64 (cAt a.xs i : Nat)]] ++ caps) w1 fun e w2 => ∃ b : Bool, e = .returned (.bool b) ∧ (b = true → Inv (i + 1) w2) ∧ (b = false → Fin i w2) ∧ Fr8 lo hi w1 w2
theorem qalong_c (cs : List Value) (a : RA8) (g n lo hi F : Nat) (caps : Array Value) (Inv Fin : Nat → World → Prop) (w : World)
  (hk : a.k = (n : Int)) (hV : a.V = 4) (ic : ichk a.k a.V a.M a.xs = true) (hg : 8 * g ≤ n) (hgs : g < a.S.length) (hgt : g < a.T.length) (hs : gi a.S g = cOn a.xs (8 * g)) (ht : gi a.T g = cAt a.xs (8 * g))
  (hlo : lo ≤ hi) (hhi : hi ≤ w.heap.size) (h0 : Inv (8 * g) w) (hK : Hid (∀ i w1, Inv i w1 → KI8 w1 cs a)) (hkeep : Hid (∀ i w1 w2, Inv i w1 → Below hi w1 w2 → Inv i w2)) (hfin : Hid (∀ i w1 w2, Fin i w1 → Below hi w1 w2 → Fin i w2))
  (hcf : Hid (∀ args w, (callFunc F args).run Tryz.prog w = .ok (.enter F args) w)) (hf : Hid (Step cs a g n lo hi F caps Inv Fin)) :
  Calls Tryz.prog 110 #[.agg cs.toArray, .int .i64 g, .func (.func F) #[] caps] w fun e w' => ∃ (q : Nat) (b : Bool), e = .returned (.tuple #[.agg #[.int .i64 (cOn a.xs q : Nat), .int .i64 (cAt a.xs q : Nat)], .bool b]) ∧ 8 * g ≤ q ∧ q ≤ n ∧ (b = true → q = n ∧ Inv n w') ∧ (b = false → q < n ∧ ((cSE a.L a.ys a.xs q ≠ 0 ∧ Inv q w') ∨ (cSE a.L a.ys a.xs q = 0 ∧ Fin q w'))) ∧ Fr8 lo hi w w' := by
 obtain ⟨⟨ao, cap, qo, dap, so, sc, tO, tc, rfl, ⟨_, _, _, _, hLL, _, _⟩, _⟩, xl, yl, sl, tl⟩ := hK.out _ _ h0
 obtain ⟨N, k, V, M, xs, L, ys, S, T⟩ := a
 dsimp only at *
 subst hk hV
 obtain ⟨_, _, _, hM, _, hM0, hM1, hnM⟩ := ichk_out _ _ _ _ ic
 have hn : n ≤ 262144 := by omega
 obtain ⟨W, hW⟩ : ∃ W, W = (w.alloc (.cells #[.int .i64 N, .int .i64 (n : Int), .int .i64 4, .int .i64 M, .slice ao xs.length cap, .int .i64 L, .slice qo ys.length dap, .slice so S.length sc, .slice tO T.length tc] 33)).alloc (.cells #[.int .i64 0, .int .i64 0] 109) := ⟨_, rfl⟩
 have bW := yb2 hW
 have zW : W.heap.size = w.heap.size + 2 := by rw [hW]; simp
 have B1 := yc3 hW
 have B2 := yc2 hW
 have HG : GV w := (hK.out _ _ h0).gv
 have HM : Hid (∀ w0, Below w.heap.size w w0 → Calls Tryz.prog 109 #[.agg #[.int .i64 N, .int .i64 (n : Int), .int .i64 4, .int .i64 M, .slice ao xs.length cap, .int .i64 L, .slice qo ys.length dap, .slice so S.length sc, .slice tO T.length tc], .int .i64 g] w0 fun e w' => e = .returned (.agg #[.int .i64 (cOn xs (8 * g) : Nat), .int .i64 (cAt xs (8 * g) : Nat)]) ∧ Below w0.heap.size w0 w') := by
  intro w0 hb
  have := qmarkOf_c [.int .i64 N, .int .i64 (n : Int), .int .i64 4, .int .i64 M, .slice ao xs.length cap, .int .i64 L, .slice qo ys.length dap, .slice so S.length sc, .slice tO T.length tc] ⟨N, n, 4, M, xs, L, ys, S, T⟩ g w0 ((hK.out _ _ h0).keep hb) hgs hgt
  dsimp only at this
  rw [hs, ht] at this
  exact this
 have m1 : IntKind.i64.wrap ((g : Int) * 8) = ((8 * g : Nat) : Int) := by rw [IntKind.wrap_i64]; omega
 have HI : Hid (Inv (8 * g) w) := h0
 clear hs ht h0 hgs hgt
 go_enter Tryz.func110, Tryz.ntmps110
 go_wp2_with fail
 rw [← hW]
 have q0 := B1.cell 0 rfl
 have q1 := B1.cell 1 rfl
 have q2 := B1.cell 2 rfl
 have q3 := B1.cell 3 rfl
 have q4 := B1.cell 4 rfl
 have q5 := B1.cell 5 rfl
 have q6 := B1.cell 6 rfl
 have q7 := B1.cell 7 rfl
 have q8 := B1.cell 8 rfl
 go_wp2_with fail
 clear q0 q1 q2 q3 q4 q5 q6 q7 q8
 refine (HM.out _ bW).mono ?_
 rintro e w4 ⟨rfl, hb⟩
 have bw4 := bW.trans (hb.mono bW.size)
 have z4 := hb.size
 replace B1 := B1.kept hb
 replace B2 := B2.kept hb
 have B4 : Tb w4 1 (vI wdL) := HG.wd.kept bw4
 have L0 := HG.two
 clear hb HM hW bW HG
 go_wp2
 generalize hG2 : w4.heap.size = G2 at *
 have LG : w.heap.size + 2 ≤ G2 := by omega
 go_loopw [9] (fun s wr => ∃ q : Nat, 8 * g ≤ q ∧ q ≤ n ∧ s = .int .i64 q ∧ Cel wr w.heap.size [.int .i64 N, .int .i64 (n : Int), .int .i64 4, .int .i64 M, .slice ao xs.length cap, .int .i64 L, .slice qo ys.length dap, .slice so S.length sc, .slice tO T.length tc] 33 ∧ Cel wr (w.heap.size + 1) [.int .i64 0, .int .i64 0] 109 ∧ Tb wr 1 (vI wdL) ∧ Cel wr G2 [.int .i64 (cOn xs q : Nat), .int .i64 (cAt xs q : Nat)] 109 ∧ Inv q wr ∧ Fr8 lo hi w wr) (fun s _ => n - (intOf s).toNat)
 case atStart =>
  have hb := below_alloc w4 (.cells #[.int .i64 (cOn xs (8 * g) : Nat), .int .i64 (cAt xs (8 * g) : Nat)] 109)
  have hB : Below w.heap.size w (w4.alloc (.cells #[.int .i64 (cOn xs (8 * g) : Nat), .int .i64 (cAt xs (8 * g) : Nat)] 109)) := bw4.trans (hb.mono bw4.size)
  refine ⟨8 * g, Nat.le_refl _, hg, ?_, B1.kept hb, B2.kept hb, B4.kept hb, ?_, hkeep.out _ _ _ HI.out (hB.mono hhi), Fr8.of hB (by omega)⟩
  ·exact congrArg (Value.int IntKind.i64) (by omega)
  ·rw [← hG2]; exact Cel.new w4 _ _
 case round =>
  obtain ⟨q, hq0, hq, rfl, B1, B2, B3, B4, hI, hF⟩ := hrel
  have zr := hF.size
  have KP := (hK.out q _ hI).parts
  obtain ⟨p1, p2, p3, p4, _, _⟩ := KP
  have q1 := B1.cell 1 rfl
  by_cases hqn : q < n
  ·have hqn2 : (q : Int) < (n : Int) := by omega
   have cl := cls_le xs q
   have on := cOn_le xs q
   have at_ := cAt_le xs q
   have kw := kwd_le13 (cls xs q) cl
   have HGt : Hid (Calls Tryz.prog 158 #[.agg #[.int .i64 (n : Int), .int .i64 4, .int .i64 M, .slice ao xs.length cap], .int .i64 (q : Int)] wr fun e w' => e = .returned (.tuple #[.int .u64 (cls xs q : Nat), .int .i64 0]) ∧ Below wr.heap.size wr w') := by
    have e0 : igE (n : Int) 4 M xs (q : Int) = 0 := by unfold igE; rw [if_neg (by rw [ic]; simp), if_neg (by omega)]
    have := iget_ok (n : Int) 4 M ao xs cap (q : Int) wr p1 p2 e0
    unfold igX at this
    rw [if_pos e0, e0, Int.toNat_natCast] at this
    exact this
   have HSl : Hid (∀ w0, Below wr.heap.size wr w0 → Calls Tryz.prog 124 #[.agg #[.int .i64 L, .slice qo ys.length dap], .int .i64 (cAt xs q : Nat), .int .i64 (kwd (cls xs q) : Nat)] w0 fun e w' => e = .returned (.tuple #[.int .u64 (cOff L ys xs q : Nat), .int .i64 (cSE L ys xs q)]) ∧ Below w0.heap.size w0 w') := fun w0 hb => slice_c L qo ys dap (cAt xs q : Nat) (kwd (cls xs q) : Nat) w0 (p3.keep hb) p4 (by omega) (by omega) (by omega) (by omega)
   have HBh : Hid (∀ w0, Calls Tryz.prog 127 #[.agg #[.int .i64 (cOn xs q : Nat), .int .i64 (cAt xs q : Nat)], .agg #[.int .i64 (cls xs q : Nat), .int .u64 (cOff L ys xs q : Nat)], .int .i64 (kwd (cls xs q) : Nat)] w0 fun e w' => e = .returned (.agg #[.int .i64 (cOn xs (q + 1) : Nat), .int .i64 (cAt xs (q + 1) : Nat)]) ∧ Below w0.heap.size w0 w') := fun w0 => qbehind_c (cOn xs q) (cAt xs q) (cls xs q) (kwd (cls xs q)) (cOff L ys xs q) (by omega) (by omega) cl (by omega) w0
   have HWd : Hid ((vI wdL)[cls xs q]? = some (.int .i64 (kwd (cls xs q) : Nat))) := by
    show (vI wdL)[cls xs q]? = _
    rw [vI_get wdL (cls xs q) (by rw [length_wdL]; omega), gt_wdL _ cl]
   have HC : Hid (∀ w1, cSE L ys xs q = 0 → Inv q w1 → hi ≤ w1.heap.size → Calls Tryz.prog F (#[.int .i64 q, .agg #[.int .i64 (cls xs q : Nat), .int .u64 (cOff L ys xs q : Nat)], .agg #[.int .i64 (cOn xs q : Nat), .int .i64 (cAt xs q : Nat)]] ++ caps) w1 fun e w2 => ∃ b : Bool, e = .returned (.bool b) ∧ (b = true → Inv (q + 1) w2) ∧ (b = false → Fin q w2) ∧ Fr8 lo hi w1 w2) := fun w1 h1 h2 h3 => hf.out q w1 hq0 hqn h1 h2 h3
   have q2 := B1.cell 2 rfl
   have q3 := B1.cell 3 rfl
   have q4 := B1.cell 4 rfl
   clear p1 p2 p3 p4 hf
   have cli : ((cls xs q : Nat) : Int) < 16 := by omega
   generalize hc0 : cls xs q = c at *
   generalize hs0 : cOn xs q = s0 at *
   generalize ha0 : cAt xs q = a0 at *
   generalize hw0 : kwd c = wd at *
   generalize ho0 : cOff L ys xs q = o at *
   generalize hE0 : cSE L ys xs q = E at *
   go_wp2_with fail
   refine HGt.out.mono ?_
   rintro e w5 ⟨rfl, hb⟩
   have hb5 := hb
   have hI5 := hkeep.out _ _ _ hI (hb.mono (by omega))
   have hF5 := hF.trans (Fr8.of hb (by omega))
   have z5 := hb.size
   replace B1 := B1.kept hb
   replace B2 := B2.kept hb
   replace B3 := B3.kept hb
   replace B4 := B4.kept hb
   clear hb q1 q2 q3 q4 HGt hI hF
   go_wp2
   refine region_g [] (fun w' => Cel w' w.heap.size [.int .i64 N, .int .i64 (n : Int), .int .i64 4, .int .i64 M, .slice ao xs.length cap, .int .i64 L, .slice qo ys.length dap, .slice so S.length sc, .slice tO T.length tc] 33 ∧ Tb w' 1 (vI wdL) ∧ Cel w' G2 [.int .i64 (s0 : Nat), .int .i64 (a0 : Nat)] 109) (by kernel_rfl) ?_
   have hS : Cel w5.drew w.heap.size [.int .i64 N, .int .i64 (n : Int), .int .i64 4, .int .i64 M, .slice ao xs.length cap, .int .i64 L, .slice qo ys.length dap, .slice so S.length sc, .slice tO T.length tc] 33 ∧ Tb w5.drew 1 (vI wdL) ∧ Cel w5.drew G2 [.int .i64 (s0 : Nat), .int .i64 (a0 : Nat)] 109 := ⟨B1, B3, B4⟩
   have bV : Below w5.heap.size w5 w5.drew := (Below.refl _ _).drew
   have hbV : Below wr.heap.size wr w5.drew := hb5.drew
   replace B2 : Cel w5.drew (w.heap.size + 1) [.int .i64 0, .int .i64 0] 109 := B2
   have hI6 := hkeep.out _ _ _ hI5 (bV.mono (by omega))
   have hF6 := hF5.trans (Fr8.of bV (by omega))
   have z6 := bV.size
   generalize w5.drew = Y at *
   clear B1 B3 B4 hI5 hF5 hb5 bV
   refine AnyG.tk 0 hS ?_
   refine AnyG.tf 1 hS rfl (fun w0 h0 => by have c5 := h0.1.cell 5 rfl; have c6 := h0.1.cell 6 rfl; go_simp; try with_reducible rfl) ?_
   refine AnyG.tk 2 hS ?_
   refine AnyG.tf 3 hS rfl (fun w0 h0 => by have c1 := h0.2.2.cell 1 rfl; go_simp; try with_reducible rfl) ?_
   refine AnyG.tk 4 hS ?_
   refine AnyG.tk 5 hS ?_
   refine AnyG.tf 6 hS rfl (fun w0 h0 => by have cw := h0.2.1.cell c HWd.out; go_simp; try with_reducible rfl) ?_
   refine AnyG.o1 7 ?_
   intro K hK
   go_simp
   refine (HSl.out _ hbV).mono ?_
   rintro e w7 ⟨rfl, hb⟩
   have hS7 : Cel w7 w.heap.size [.int .i64 N, .int .i64 (n : Int), .int .i64 4, .int .i64 M, .slice ao xs.length cap, .int .i64 L, .slice qo ys.length dap, .slice so S.length sc, .slice tO T.length tc] 33 ∧ Tb w7 1 (vI wdL) ∧ Cel w7 G2 [.int .i64 (s0 : Nat), .int .i64 (a0 : Nat)] 109 := ⟨hS.1.kept hb, hS.2.1.kept hb, hS.2.2.kept hb⟩
   replace B2 := B2.kept hb
   have hI7 := hkeep.out _ _ _ hI6 (hb.mono (by omega))
   have hF7 := hF6.trans (Fr8.of hb (by omega))
   have z7 := hb.size
   clear hb hI6 hF6 hS
   refine hK.out _ _ (fun _ => hS7) ?_
   clear hK K
   try simp only [Act.put, yq0, yq1, yq2, yq3, yq4, yq5]
   refine AnyG.tk 8 hS7 ?_
   refine AnyG.tk 9 hS7 ?_
   refine AnyG.tk 10 hS7 ?_
   refine AnyG.tk 11 hS7 ?_
   refine AnyG.tk 12 hS7 ?_
   refine AnyG.done (by kernel_rfl) ?_ _
   obtain ⟨B1, B3, B4⟩ := hS7
   have m0 := B4.cell 0 rfl
   have m1 := B4.cell 1 rfl
   have l4 := B4.lt
   have hb := below_alloc w7 (.cells #[.int .i64 (c : Nat), .int .u64 (o : Nat)] 120)
   obtain ⟨W8, hW8⟩ : ∃ W8, W8 = w7.alloc (.cells #[.int .i64 (c : Nat), .int .u64 (o : Nat)] 120) := ⟨_, rfl⟩
   rw [← hW8] at hb
   have B5 : Cel W8 w7.heap.size [.int .i64 (c : Nat), .int .u64 (o : Nat)] 120 := by rw [hW8]; exact Cel.new w7 _ _
   have hI8 := hkeep.out _ _ _ hI7 (hb.mono (by omega))
   have hF8 := hF7.trans (Fr8.of hb (by omega))
   have z8 := hb.size
   replace B1 := B1.kept hb
   replace B2 := B2.kept hb
   replace B3 := B3.kept hb
   replace B4 := B4.kept hb
   have h56 : hi ≤ w7.heap.size := by omega
   clear hb hI7 hF7
   rcases Decidable.em (E = 0) with rfl | hE
   ·go_wp2_with fail
    rw [← hW8]
    rw [hcf.out, Oper.upon_enter]
    refine (HC.out _ (by simp) hI8 (by omega)).mono ?_
    rintro e w9 ⟨b, rfl, hb1, hb0, hfr⟩
    have hF9 := hF8.trans hfr
    have z9 := hfr.size
    replace B1 := hfr.cel B1 (by omega)
    replace B2 := hfr.cel B2 (by omega)
    clear B3
    replace B4 := hfr.cel B4 (by omega)
    replace B5 := hfr.cel B5 (by omega)
    have HF9 : Hid (Fr8 lo hi w w9) := hF9
    clear hfr hF8 hF9 hI8 hW8 m0 m1 HC
    cases b with
    | false =>
     have hfin9 : Hid (Fin q w9) := hb0 rfl
     clear hb0 hb1
     have m0 := B4.cell 0 rfl
     have m1 := B4.cell 1 rfl
     have n0 := B2.cell 0 rfl
     have n1 := B2.cell 1 rfl
     have f0 := B2.frozen 0
     have f1 := B2.frozen 1
     go_wp2
     refine bodyPost_ret (result_cel rfl (w.heap.size + 1) [.int .i64 (s0 : Nat), .int .i64 (a0 : Nat)] rfl ((B2.set 0 _).set 1 _) Tryz.underlying109 (by kernel_rfl)) rfl ⟨q, false, by rw [hs0, ha0]; rfl, hq0, hq, nofun, fun _ => ⟨hqn, .inr ⟨hE0, hfin.out _ _ _ hfin9.out (((Below.refl hi w9).setCell (by show hi ≤ w.heap.size + 1; omega) _).setCell (by show hi ≤ w.heap.size + 1; omega) _)⟩⟩, (HF9.out.setCell (by show w.heap.size ≤ w.heap.size + 1; omega) (by show lo ≤ w.heap.size + 1; omega) _).setCell (by show w.heap.size ≤ w.heap.size + 1; omega) (by show lo ≤ w.heap.size + 1; omega) _⟩
    | true =>
     have hI9 := hb1 rfl
     have B3 : Tb w9 1 (vI wdL) := (hK.out _ _ hI9).gv.wd
     clear hb0 hb1
     go_wp2
     refine region_g [6] (fun w' => Tb w' 1 (vI wdL) ∧ Cel w' G2 [.int .i64 (s0 : Nat), .int .i64 (a0 : Nat)] 109 ∧ Cel w' w7.heap.size [.int .i64 (c : Nat), .int .u64 (o : Nat)] 120) (by kernel_rfl) ?_
     have hS : Tb w9.drew 1 (vI wdL) ∧ Cel w9.drew G2 [.int .i64 (s0 : Nat), .int .i64 (a0 : Nat)] 109 ∧ Cel w9.drew w7.heap.size [.int .i64 (c : Nat), .int .u64 (o : Nat)] 120 := ⟨B3, B4, B5⟩
     have bV : Below w9.heap.size w9 w9.drew := (Below.refl _ _).drew
     replace B1 : Cel w9.drew w.heap.size [.int .i64 N, .int .i64 (n : Int), .int .i64 4, .int .i64 M, .slice ao xs.length cap, .int .i64 L, .slice qo ys.length dap, .slice so S.length sc, .slice tO T.length tc] 33 := B1
     replace B2 : Cel w9.drew (w.heap.size + 1) [.int .i64 0, .int .i64 0] 109 := B2
     replace hI9 := hkeep.out _ _ _ hI9 (bV.mono (by omega))
     have hF9 := HF9.out.trans (Fr8.of bV (by omega))
     have z10 := bV.size
     generalize w9.drew = Y2 at *
     clear B3 B4 B5 bV HF9
     refine AnyG.tf 0 hS rfl (fun w0 h0 => by have c0 := h0.2.1.cell 0 rfl; have c1 := h0.2.1.cell 1 rfl; go_simp; try with_reducible rfl) ?_
     refine AnyG.tf 1 hS rfl (fun w0 h0 => by have c0 := h0.2.2.cell 0 rfl; have c1 := h0.2.2.cell 1 rfl; go_simp; try with_reducible rfl) ?_
     refine AnyG.tk 2 hS ?_
     refine AnyG.tk 3 hS ?_
     refine AnyG.tf 4 hS rfl (fun w0 h0 => by have cw := h0.1.cell c HWd.out; go_simp; try with_reducible rfl) ?_
     refine AnyG.o1 5 ?_
     intro K hK
     go_simp
     refine (HBh.out _).mono ?_
     rintro e w11 ⟨rfl, hb⟩
     have hS11 : Tb w11 1 (vI wdL) ∧ Cel w11 G2 [.int .i64 (s0 : Nat), .int .i64 (a0 : Nat)] 109 ∧ Cel w11 w7.heap.size [.int .i64 (c : Nat), .int .u64 (o : Nat)] 120 := ⟨hS.1.kept hb, hS.2.1.kept hb, hS.2.2.kept hb⟩
     replace B1 := B1.kept hb
     replace B2 := B2.kept hb
     have hI11 := hkeep.out _ _ _ hI9 (hb.mono (by omega))
     have hF11 := hF9.trans (Fr8.of hb (by omega))
     clear hb hS hI9 hF9
     refine hK.out _ _ (fun _ => hS11) ?_
     clear hK K
     try simp only [Act.put, yq0, yq1, yq2, yq3, yq4, yq5]
     refine AnyG.o1 6 ?_
     intro K hK
     obtain ⟨B3, B4, B5⟩ := hS11
     have f0 := B4.frozen 0
     have f1 := B4.frozen 1
     have c0 := B4.cell 0 rfl
     have c1 := B4.cell 1 rfl
     have HQ : Hid (Cel w11 w.heap.size [.int .i64 N, .int .i64 (n : Int), .int .i64 4, .int .i64 M, .slice ao xs.length cap, .int .i64 L, .slice qo ys.length dap, .slice so S.length sc, .slice tO T.length tc] 33 ∧ Cel w11 (w.heap.size + 1) [.int .i64 0, .int .i64 0] 109 ∧ Tb w11 1 (vI wdL) ∧ Cel w11 G2 [.int .i64 (s0 : Nat), .int .i64 (a0 : Nat)] 109 ∧ Inv (q + 1) w11 ∧ Fr8 lo hi w w11) := ⟨B1, B2, B3, B4, hI11, hF11⟩
     clear B1 B2 B3 B4 B5 hI11 hF11
     go_simp
     refine hK.out _ _ (fun h => absurd (by decide) h) ?_
     clear hK K
     try simp only [Act.put, yq0, yq1, yq2, yq3, yq4, yq5]
     refine AnyG.done (by kernel_rfl) ?_ _
     go_wp2
     obtain ⟨B1, B2, B3, B4, hI11, hF11⟩ := HQ.out
     refine ⟨⟨q + 1, by omega, by omega, by go_num, (B1.other (by show w.heap.size ≠ G2; omega) _).other (by show w.heap.size ≠ G2; omega) _, (B2.other (by show w.heap.size + 1 ≠ G2; omega) _).other (by show w.heap.size + 1 ≠ G2; omega) _, (B3.other (by show (1 : Nat) ≠ G2; omega) _).other (by show (1 : Nat) ≠ G2; omega) _, (B4.set 0 _).set 1 _, hkeep.out _ _ _ hI11 (((Below.refl hi w11).setCell (by show hi ≤ G2; omega) _).setCell (by show hi ≤ G2; omega) _), (hF11.setCell (by show w.heap.size ≤ G2; omega) (by show lo ≤ G2; omega) _).setCell (by show w.heap.size ≤ G2; omega) (by show lo ≤ G2; omega) _⟩, by simp only [intOf]; omega⟩
   ·have hE2 : (E != 0) = true := by simpa using hE
    have n0 := B2.cell 0 rfl
    have n1 := B2.cell 1 rfl
    have f0 := B2.frozen 0
    have f1 := B2.frozen 1
    replace m0 := B4.cell 0 rfl
    replace m1 := B4.cell 1 rfl
    clear HC HBh HWd
    rw [hW8] at B2 hI8 hF8 n0 n1 f0 f1 m0 m1
    go_wp2
    refine bodyPost_ret (result_cel rfl (w.heap.size + 1) [.int .i64 (s0 : Nat), .int .i64 (a0 : Nat)] rfl ((B2.set 0 _).set 1 _) Tryz.underlying109 (by kernel_rfl)) rfl ⟨q, false, by rw [hs0, ha0]; rfl, hq0, hq, nofun, fun _ => ⟨hqn, .inl ⟨by rw [hE0]; exact hE, hkeep.out _ _ _ hI8 (((Below.refl hi _).setCell (by show hi ≤ w.heap.size + 1; omega) _).setCell (by show hi ≤ w.heap.size + 1; omega) _)⟩⟩, (hF8.setCell (by show w.heap.size ≤ w.heap.size + 1; omega) (by show lo ≤ w.heap.size + 1; omega) _).setCell (by show w.heap.size ≤ w.heap.size + 1; omega) (by show lo ≤ w.heap.size + 1; omega) _⟩
  ·obtain rfl : q = n := by omega
   have n0 := B2.cell 0 rfl
   have n1 := B2.cell 1 rfl
   have f0 := B2.frozen 0
   have f1 := B2.frozen 1
   have m0 := B4.cell 0 rfl
   have m1 := B4.cell 1 rfl
   have HI2 : Hid (Inv q wr) := hI
   have HF2 : Hid (Fr8 lo hi w wr) := hF
   clear hf hI hF
   go_wp2
   refine bodyPost_ret (result_cel rfl (w.heap.size + 1) [.int .i64 (cOn xs q : Nat), .int .i64 (cAt xs q : Nat)] rfl ((B2.set 0 _).set 1 _) Tryz.underlying109 (by kernel_rfl)) rfl ⟨q, true, rfl, hq0, hq, fun _ => ⟨rfl, hkeep.out _ _ _ HI2.out (((Below.refl hi _).setCell (by show hi ≤ w.heap.size + 1; omega) _).setCell (by show hi ≤ w.heap.size + 1; omega) _)⟩, nofun, (HF2.out.setCell (by show w.heap.size ≤ w.heap.size + 1; omega) (by show lo ≤ w.heap.size + 1; omega) _).setCell (by show w.heap.size ≤ w.heap.size + 1; omega) (by show lo ≤ w.heap.size + 1; omega) _⟩
end Go.Proofs.YtpeecabfcgijhaaGreatDoor
