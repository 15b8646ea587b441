/-
  Arrays by value, and what stays of the tables. The contract of the program's along: each block is handed to a function, which may write where it is told. The contract of the program's fits.
-/
import Derived.Test.YtmphbnmcbonmmaaDoorM03
import Derived.WalkMore
namespace Go.Proofs.YtmphbnmcbonmmaaDoor
open Go.RowKit Num Bit Bn
set_option linter.unusedVariables false
set_option linter.unusedSimpArgs false
set_option maxRecDepth 100000

/-- Arrays by value: any, in a block of its own. -/
theorem alloc_any {T : TypeId} {zs : List Value} {n : Nat} (hi : (Tryd.prog.info? T).map (fun i => (i.zero, i.size)) = some (some (.agg zs.toArray), n)) {ops : Array Oper} {rest : List Oper} {d : Option Tmp} {ty : TypeId} {ps : String} {af : Array Edge} {a : Act} {w : World} {Q : Exit → Act → World → Prop}
    (h : ∀ w1, Cel w1 w.heap.size zs T → Below w.heap.size w w1 → w1.heap.size = w.heap.size + 1 → wpList Tryd.prog ops Q rest (a.put d (.pointer (some ⟨w.heap.size, 0, none⟩))) w1) :
    wpList Tryd.prog ops Q (⟨d, .alloc T, ty, ps, af, none⟩ :: rest) a w := by
  refine wpList_plain rfl fun K hK => ?_
  unfold Oper.wp execOp
  have z := (zero_of_info hi).1
  have nw := h _ (Cel.new w _ _) (below_alloc w _) (by simp)
  refine cast ?_ (hK _ _ nw)
  simp [Instr.alloc, Sem.run_bind, z, newVar, Value.cells, go_sem]
theorem load_any {ops : Array Oper} {rest : List Oper} {d : Option Tmp} {ty T : TypeId} {ps : String} {af : Array Edge} {a : Act} {w : World} {Q : Exit → Act → World → Prop} {x : Operand}
    (g : Nat) (cs : List Value) {e : TypeId} {n : Nat} (hx : a.eval x = .pointer (some ⟨g, 0, none⟩)) (hc : Cel w g cs T) (hu : Tryd.prog.underlying T = some (.array n e)) (hi : (Tryd.prog.info? T).map (·.size) = some cs.length)
    (h : wpList Tryd.prog ops Q rest (a.put d (.agg cs.toArray)) w) :
    wpList Tryd.prog ops Q (⟨d, .load T x, ty, ps, af, none⟩ :: rest) a w :=
  wpList_load_row rfl _ x rfl g hx _ _ _ _ hc hu rfl (by simpa using hi) h
theorem result_any {fn : Func} {p : Tmp} {T : TypeId} {w : World} {tmps : Array Value} (h : fn.results = #[.cell p T]) (g : Nat) (cs : List Value) {e : TypeId} {n : Nat} (hp : tmps.getD p undef = .pointer (some ⟨g, 0, none⟩)) (hc : Cel w g cs T) (hu : Tryd.prog.underlying T = some (.array n e)) (hi : (Tryd.prog.info? T).map (·.size) = some cs.length) :
    (results fn tmps).run Tryd.prog w = .ok (.agg cs.toArray) w := by
  have hp' : tmps[p]?.getD undef = .pointer (some ⟨g, 0, none⟩) := by simpa using hp
  have hl := run_loadVar_row (P := Tryd.prog) w g T T cs.toArray (0, 0) _ hc hu rfl (by simpa using hi)
  simp [results, h, hp', asAddr, hl]
theorem Only.tb {g b : Nat} {w w' : World} {cs : List Value} (h : Only g w w') (hc : Tb w b cs) (hb : b ≠ g) : Tb w' b cs := by
  obtain ⟨T, hc⟩ := hc
  exact ⟨T, h.cel hc hb⟩
end Go.Proofs.YtmphbnmcbonmmaaDoor

namespace Go.Proofs.YtmphbnmcbonmmaaDoor
open Go.RowKit Num Bit Bn
set_option linter.unusedVariables false
set_option linter.unusedSimpArgs false
set_option maxRecDepth 100000

/-- What lies below lo, and from hi on, stays. -/
structure Fr (lo hi : Nat) (w w' : World) : Prop where
  below : Below lo w w'
  high : ∀ b, hi ≤ b → b < w.heap.size → w'.heap[b]? = w.heap[b]?
theorem Fr.refl (lo hi : Nat) (w : World) : Fr lo hi w w := ⟨Below.refl _ _, fun _ _ _ => rfl⟩
theorem Fr.of {lo hi : Nat} {w w' : World} (hb : Below w.heap.size w w') (hl : lo ≤ w.heap.size) : Fr lo hi w w' := ⟨hb.mono hl, fun b _ h => hb.block b h⟩
theorem Fr.trans {lo hi : Nat} {a b c : World} (h : Fr lo hi a b) (k : Fr lo hi b c) : Fr lo hi a c := ⟨h.below.trans k.below, fun x h1 h2 => (k.high x h1 (Nat.lt_of_lt_of_le h2 h.below.size)).trans (h.high x h1 h2)⟩
theorem Fr.cel {lo hi b : Nat} {w w' : World} {cs : List Value} {T : TypeId} (h : Fr lo hi w w') (hc : Cel w b cs T) (hb : hi ≤ b) : Cel w' b cs T := (h.high b hb hc.lt).trans hc
theorem Fr.size {lo hi : Nat} {w w' : World} (h : Fr lo hi w w') : w.heap.size ≤ w'.heap.size := h.below.size
theorem Fr.setCell {lo hi : Nat} {w w' : World} {a : Addr} (h : Fr lo hi w w') (h1 : w.heap.size ≤ a.block) (h2 : lo ≤ a.block) (v : Value) : Fr lo hi w (w'.setCell a v) :=
  ⟨h.below.setCell h2 v, fun b hb hl => (Below.heap_setCell w' a v b (by omega)).trans (h.high b hb hl)⟩
theorem KI.parts {w : World} {N k V M L : Int} {xs ys : List Nat} {S T : List Int} {ao : Option Addr} {cap : Nat} {qo : Option Addr} {dap : Nat} {so : Option Addr} {sc : Nat} {tO : Option Addr} {tc : Nat} (h : KI w [.int .i64 N, .int .i64 k, .int .i64 V, .int .i64 M, .slice ao xs.length cap, .int .i64 L, .slice qo ys.length dap, .slice so S.length sc, .slice tO T.length tc] ⟨N, k, V, M, xs, L, ys, S, T⟩) :
    Wd w ao xs ∧ Fit xs ∧ Wd w qo ys ∧ Fit ys ∧ Nd w so S ∧ Nd w tO T := by
  obtain ⟨⟨ao', cap', qo', dap', so', sc', tO', tc', e, _, a1, a2, a3, a4, a5, a6, a7, a8, a9, a10⟩, _⟩ := h
  simp only [List.cons.injEq, Value.slice.injEq, true_and, and_true] at e
  obtain ⟨⟨rfl, rfl⟩, ⟨rfl, rfl⟩, ⟨rfl, rfl⟩, rfl, rfl⟩ := e
  exact ⟨a1, a2, a4, a5, a7, a9⟩
/-- What a function that is handed to along does with block i. -/
def Step (cs : List Value) (a : RA) (g n lo hi F : Nat) (caps : Array Value) (Inv Fin : Nat → World → Prop) : Prop :=
  ∀ i w1, 8 * g ≤ i → i < n → cSE a.L a.ys a.xs i = 0 → Inv i w1 → hi ≤ w1.heap.size →
    Calls Tryd.prog F (#[.int .i64 i, .agg #[.int .i64 (cls a.xs i : Nat), .int .u64 (cOff a.L a.ys a.xs i : Nat)], .agg #[.int .i64 (cOn a.xs i : Nat), .int .i64 (cAt a.xs i : Nat)]] ++ caps) w1 fun e w2 => ∃ b : Bool, e = .returned (.bool b) ∧ (b = true → Inv (i + 1) w2) ∧ (b = false → Fin i w2) ∧ Fr lo hi w1 w2

set_option maxHeartbeats 16000000 in
theorem qalong_c (cs : List Value) (a : RA) (g n lo hi F : Nat) (caps : Array Value) (Inv Fin : Nat → World → Prop) (w : World)
    (hk : a.k = (n : Int)) (hV : a.V = 4) (ic : ichk a.k a.V a.M a.xs = true) (hg : 8 * g ≤ n) (hgs : g < a.S.length) (hgt : g < a.T.length) (hs : gi a.S g = cOn a.xs (8 * g)) (ht : gi a.T g = cAt a.xs (8 * g))
    (hlo : lo ≤ hi) (hhi : hi ≤ w.heap.size) (h0 : Inv (8 * g) w) (hK : Hid (∀ i w1, Inv i w1 → KI w1 cs a)) (hkeep : Hid (∀ i w1 w2, Inv i w1 → Below hi w1 w2 → Inv i w2)) (hfin : Hid (∀ i w1 w2, Fin i w1 → Below hi w1 w2 → Fin i w2))
    (hcf : Hid (∀ args w, (callFunc F args).run Tryd.prog w = .ok (.enter F args) w)) (hf : Hid (Step cs a g n lo hi F caps Inv Fin)) :
    Calls Tryd.prog 28 #[.agg cs.toArray, .int .i64 g, .func (.func F) #[] caps] w fun e w' => ∃ (q : Nat) (b : Bool), e = .returned (.tuple #[.agg #[.int .i64 (cOn a.xs q : Nat), .int .i64 (cAt a.xs q : Nat)], .bool b]) ∧ 8 * g ≤ q ∧ q ≤ n ∧ (b = true → q = n ∧ Inv n w') ∧ (b = false → q < n ∧ ((cSE a.L a.ys a.xs q ≠ 0 ∧ Inv q w') ∨ (cSE a.L a.ys a.xs q = 0 ∧ Fin q w'))) ∧ Fr lo hi w w' := by
  obtain ⟨⟨ao, cap, qo, dap, so, sc, tO, tc, rfl, ⟨_, _, _, _, hLL, _, _⟩, _⟩, xl, yl, sl, tl⟩ := hK.out _ _ h0
  obtain ⟨N, k, V, M, xs, L, ys, S, T⟩ := a
  dsimp only at *
  subst hk hV
  obtain ⟨_, _, _, hM, _, hM0, hM1, hnM⟩ := ichk_out _ _ _ _ ic
  have hn : n ≤ 262144 := by omega
  obtain ⟨W, hW⟩ : ∃ W, W = (w.alloc (.cells #[.int .i64 N, .int .i64 (n : Int), .int .i64 4, .int .i64 M, .slice ao xs.length cap, .int .i64 L, .slice qo ys.length dap, .slice so S.length sc, .slice tO T.length tc] 31)).alloc (.cells #[.int .i64 0, .int .i64 0] 52) := ⟨_, rfl⟩
  have bW : Below w.heap.size w W := by rw [hW]; exact (below_alloc w _).alloc (by simp) _
  have zW : W.heap.size = w.heap.size + 2 := by rw [hW]; simp
  have B1 : Cel W w.heap.size [.int .i64 N, .int .i64 (n : Int), .int .i64 4, .int .i64 M, .slice ao xs.length cap, .int .i64 L, .slice qo ys.length dap, .slice so S.length sc, .slice tO T.length tc] 31 := by rw [hW]; exact (Cel.new w _ _).alloc _
  have B2 : Cel W (w.heap.size + 1) [.int .i64 0, .int .i64 0] 52 := by rw [hW]; exact Cel.new2 w _ _ _
  have HG : GV w := (hK.out _ _ h0).gv
  have HM : Hid (∀ w0, Below w.heap.size w w0 → Calls Tryd.prog 27 #[.agg #[.int .i64 N, .int .i64 (n : Int), .int .i64 4, .int .i64 M, .slice ao xs.length cap, .int .i64 L, .slice qo ys.length dap, .slice so S.length sc, .slice tO T.length tc], .int .i64 g] w0 fun e w' => e = .returned (.agg #[.int .i64 (cOn xs (8 * g) : Nat), .int .i64 (cAt xs (8 * g) : Nat)]) ∧ Below w0.heap.size w0 w') := by
    intro w0 hb
    have := qmarkOf_c [.int .i64 N, .int .i64 (n : Int), .int .i64 4, .int .i64 M, .slice ao xs.length cap, .int .i64 L, .slice qo ys.length dap, .slice so S.length sc, .slice tO T.length tc] ⟨N, n, 4, M, xs, L, ys, S, T⟩ g w0 ((hK.out _ _ h0).keep hb) hgs hgt
    dsimp only at this
    rw [hs, ht] at this
    exact this
  have m1 : IntKind.i64.wrap ((g : Int) * 8) = ((8 * g : Nat) : Int) := by rw [IntKind.wrap_i64]; omega
  have HI : Hid (Inv (8 * g) w) := h0
  clear hs ht h0 hgs hgt
  go_enter Tryd.func28, Tryd.ntmps28
  go_wp2_with fail
  rw [← hW]
  have q0 := B1.cell 0 rfl
  have q1 := B1.cell 1 rfl
  have q2 := B1.cell 2 rfl
  have q3 := B1.cell 3 rfl
  have q4 := B1.cell 4 rfl
  have q5 := B1.cell 5 rfl
  have q6 := B1.cell 6 rfl
  have q7 := B1.cell 7 rfl
  have q8 := B1.cell 8 rfl
  go_wp2_with fail
  clear q0 q1 q2 q3 q4 q5 q6 q7 q8
  refine (HM.out _ bW).mono ?_
  rintro e w4 ⟨rfl, hb⟩
  have bw4 := bW.trans (hb.mono bW.size)
  have z4 := hb.size
  replace B1 := B1.kept hb
  replace B2 := B2.kept hb
  have B4 : Tb w4 1 (vI wdL) := HG.wd.kept bw4
  have L0 := HG.two
  clear hb HM hW bW HG
  go_wp2
  generalize hG2 : w4.heap.size = G2 at *
  have LG : w.heap.size + 2 ≤ G2 := by omega
  go_loopw [9] (fun s wr => ∃ q : Nat, 8 * g ≤ q ∧ q ≤ n ∧ s = .int .i64 q ∧ Cel wr w.heap.size [.int .i64 N, .int .i64 (n : Int), .int .i64 4, .int .i64 M, .slice ao xs.length cap, .int .i64 L, .slice qo ys.length dap, .slice so S.length sc, .slice tO T.length tc] 31 ∧ Cel wr (w.heap.size + 1) [.int .i64 0, .int .i64 0] 52 ∧ Tb wr 1 (vI wdL) ∧ Cel wr G2 [.int .i64 (cOn xs q : Nat), .int .i64 (cAt xs q : Nat)] 52 ∧ Inv q wr ∧ Fr lo hi w wr) (fun s _ => n - (intOf s).toNat)
  case atStart =>
    have hb := below_alloc w4 (.cells #[.int .i64 (cOn xs (8 * g) : Nat), .int .i64 (cAt xs (8 * g) : Nat)] 52)
    have hB : Below w.heap.size w (w4.alloc (.cells #[.int .i64 (cOn xs (8 * g) : Nat), .int .i64 (cAt xs (8 * g) : Nat)] 52)) := bw4.trans (hb.mono bw4.size)
    refine ⟨8 * g, Nat.le_refl _, hg, ?_, B1.kept hb, B2.kept hb, B4.kept hb, ?_, hkeep.out _ _ _ HI.out (hB.mono hhi), Fr.of hB (by omega)⟩
    · exact congrArg (Value.int IntKind.i64) (by omega)
    · rw [← hG2]; exact Cel.new w4 _ _
  case round =>
    obtain ⟨q, hq0, hq, rfl, B1, B2, B3, B4, hI, hF⟩ := hrel
    have zr := hF.size
    have KP := (hK.out q _ hI).parts
    obtain ⟨p1, p2, p3, p4, _, _⟩ := KP
    have q1 := B1.cell 1 rfl
    by_cases hqn : q < n
    · have hqn2 : (q : Int) < (n : Int) := by omega
      have cl := cls_le xs q
      have on := cOn_le xs q
      have at_ := cAt_le xs q
      have kw := kwd_le13 (cls xs q) cl
      have HGt : Hid (Calls Tryd.prog 47 #[.agg #[.int .i64 (n : Int), .int .i64 4, .int .i64 M, .slice ao xs.length cap], .int .i64 (q : Int)] wr fun e w' => e = .returned (.tuple #[.int .u64 (cls xs q : Nat), .int .i64 0]) ∧ Below wr.heap.size wr w') := by
        have e0 : igE (n : Int) 4 M xs (q : Int) = 0 := by unfold igE; rw [if_neg (by rw [ic]; simp), if_neg (by omega)]
        have := iget_ok (n : Int) 4 M ao xs cap (q : Int) wr p1 p2 e0
        unfold igX at this
        rw [if_pos e0, e0, Int.toNat_natCast] at this
        exact this
      have HSl : Hid (∀ w0, Below wr.heap.size wr w0 → Calls Tryd.prog 37 #[.agg #[.int .i64 L, .slice qo ys.length dap], .int .i64 (cAt xs q : Nat), .int .i64 (kwd (cls xs q) : Nat)] w0 fun e w' => e = .returned (.tuple #[.int .u64 (cOff L ys xs q : Nat), .int .i64 (cSE L ys xs q)]) ∧ Below w0.heap.size w0 w') := fun w0 hb => slice_c L qo ys dap (cAt xs q : Nat) (kwd (cls xs q) : Nat) w0 (p3.keep hb) p4 (by omega) (by omega) (by omega) (by omega)
      have HBh : Hid (∀ w0, Calls Tryd.prog 40 #[.agg #[.int .i64 (cOn xs q : Nat), .int .i64 (cAt xs q : Nat)], .agg #[.int .i64 (cls xs q : Nat), .int .u64 (cOff L ys xs q : Nat)], .int .i64 (kwd (cls xs q) : Nat)] w0 fun e w' => e = .returned (.agg #[.int .i64 (cOn xs (q + 1) : Nat), .int .i64 (cAt xs (q + 1) : Nat)]) ∧ Below w0.heap.size w0 w') := fun w0 => qbehind_c (cOn xs q) (cAt xs q) (cls xs q) (kwd (cls xs q)) (cOff L ys xs q) (by omega) (by omega) cl (by omega) w0
      have HWd : Hid ((vI wdL)[cls xs q]? = some (.int .i64 (kwd (cls xs q) : Nat))) := by
        show (vI wdL)[cls xs q]? = _
        rw [vI_get wdL (cls xs q) (by rw [length_wdL]; omega), gt_wdL _ cl]
      have HC : Hid (∀ w1, cSE L ys xs q = 0 → Inv q w1 → hi ≤ w1.heap.size → Calls Tryd.prog F (#[.int .i64 q, .agg #[.int .i64 (cls xs q : Nat), .int .u64 (cOff L ys xs q : Nat)], .agg #[.int .i64 (cOn xs q : Nat), .int .i64 (cAt xs q : Nat)]] ++ caps) w1 fun e w2 => ∃ b : Bool, e = .returned (.bool b) ∧ (b = true → Inv (q + 1) w2) ∧ (b = false → Fin q w2) ∧ Fr lo hi w1 w2) := fun w1 h1 h2 h3 => hf.out q w1 hq0 hqn h1 h2 h3
      have q2 := B1.cell 2 rfl
      have q3 := B1.cell 3 rfl
      have q4 := B1.cell 4 rfl
      clear p1 p2 p3 p4 hf
      have cli : ((cls xs q : Nat) : Int) < 16 := by omega
      generalize hc0 : cls xs q = c at *
      generalize hs0 : cOn xs q = s0 at *
      generalize ha0 : cAt xs q = a0 at *
      generalize hw0 : kwd c = wd at *
      generalize ho0 : cOff L ys xs q = o at *
      generalize hE0 : cSE L ys xs q = E at *
      go_wp2_with fail
      refine HGt.out.mono ?_
      rintro e w5 ⟨rfl, hb⟩
      have hb5 := hb
      have hI5 := hkeep.out _ _ _ hI (hb.mono (by omega))
      have hF5 := hF.trans (Fr.of hb (by omega))
      have z5 := hb.size
      replace B1 := B1.kept hb
      replace B2 := B2.kept hb
      replace B3 := B3.kept hb
      replace B4 := B4.kept hb
      clear hb q1 q2 q3 q4 HGt hI hF
      go_wp2
      refine region_g [] (fun w' => Cel w' w.heap.size [.int .i64 N, .int .i64 (n : Int), .int .i64 4, .int .i64 M, .slice ao xs.length cap, .int .i64 L, .slice qo ys.length dap, .slice so S.length sc, .slice tO T.length tc] 31 ∧ Tb w' 1 (vI wdL) ∧ Cel w' G2 [.int .i64 (s0 : Nat), .int .i64 (a0 : Nat)] 52) (by kernel_rfl) ?_
      have hS : Cel w5.drew w.heap.size [.int .i64 N, .int .i64 (n : Int), .int .i64 4, .int .i64 M, .slice ao xs.length cap, .int .i64 L, .slice qo ys.length dap, .slice so S.length sc, .slice tO T.length tc] 31 ∧ Tb w5.drew 1 (vI wdL) ∧ Cel w5.drew G2 [.int .i64 (s0 : Nat), .int .i64 (a0 : Nat)] 52 := ⟨B1, B3, B4⟩
      have bV : Below w5.heap.size w5 w5.drew := (Below.refl _ _).drew
      have hbV : Below wr.heap.size wr w5.drew := hb5.drew
      replace B2 : Cel w5.drew (w.heap.size + 1) [.int .i64 0, .int .i64 0] 52 := B2
      have hI6 := hkeep.out _ _ _ hI5 (bV.mono (by omega))
      have hF6 := hF5.trans (Fr.of bV (by omega))
      have z6 := bV.size
      generalize w5.drew = Y at *
      clear B1 B3 B4 hI5 hF5 hb5 bV
      refine AnyG.take 0 (v := ?vv1) rfl (by kernel_rfl) (by kernel_rfl) (by kernel_rfl) (by kernel_rfl) (fun _ _ _ h => h) hS ?hy1 (by rfl) ?rest1
      case hy1 =>
        intro w0 h0
        go_simp
        try with_reducible rfl
      simp only [Act.put, List.getElem_toArray, List.getElem_cons_zero, List.getElem_cons_succ, List.setIfInBounds_toArray, List.set_cons_zero, List.set_cons_succ]
      refine AnyG.take 1 (v := ?vv2) rfl (by kernel_rfl) (by kernel_rfl) (by kernel_rfl) (by kernel_rfl) (fun _ _ _ h => h) hS ?hy2 (by rfl) ?rest2
      case hy2 =>
        intro w0 h0
        have c5 := h0.1.cell 5 rfl
        have c6 := h0.1.cell 6 rfl
        go_simp
        try with_reducible rfl
      simp only [Act.put, List.getElem_toArray, List.getElem_cons_zero, List.getElem_cons_succ, List.setIfInBounds_toArray, List.set_cons_zero, List.set_cons_succ]
      refine AnyG.take 2 (v := ?vv3) rfl (by kernel_rfl) (by kernel_rfl) (by kernel_rfl) (by kernel_rfl) (fun _ _ _ h => h) hS ?hy3 (by rfl) ?rest3
      case hy3 =>
        intro w0 h0
        go_simp
        try with_reducible rfl
      simp only [Act.put, List.getElem_toArray, List.getElem_cons_zero, List.getElem_cons_succ, List.setIfInBounds_toArray, List.set_cons_zero, List.set_cons_succ]
      refine AnyG.take 3 (v := ?vv4) rfl (by kernel_rfl) (by kernel_rfl) (by kernel_rfl) (by kernel_rfl) (fun _ _ _ h => h) hS ?hy4 (by rfl) ?rest4
      case hy4 =>
        intro w0 h0
        have c1 := h0.2.2.cell 1 rfl
        go_simp
        try with_reducible rfl
      simp only [Act.put, List.getElem_toArray, List.getElem_cons_zero, List.getElem_cons_succ, List.setIfInBounds_toArray, List.set_cons_zero, List.set_cons_succ]
      refine AnyG.take 4 (v := ?vv5) rfl (by kernel_rfl) (by kernel_rfl) (by kernel_rfl) (by kernel_rfl) (fun _ _ _ h => h) hS ?hy5 (by rfl) ?rest5
      case hy5 =>
        intro w0 h0
        go_simp
        try with_reducible rfl
      simp only [Act.put, List.getElem_toArray, List.getElem_cons_zero, List.getElem_cons_succ, List.setIfInBounds_toArray, List.set_cons_zero, List.set_cons_succ]
      refine AnyG.take 5 (v := ?vv6) rfl (by kernel_rfl) (by kernel_rfl) (by kernel_rfl) (by kernel_rfl) (fun _ _ _ h => h) hS ?hy6 (by rfl) ?rest6
      case hy6 =>
        intro w0 h0
        go_simp
        try with_reducible rfl
      simp only [Act.put, List.getElem_toArray, List.getElem_cons_zero, List.getElem_cons_succ, List.setIfInBounds_toArray, List.set_cons_zero, List.set_cons_succ]
      refine AnyG.take 6 (v := ?vv7) rfl (by kernel_rfl) (by kernel_rfl) (by kernel_rfl) (by kernel_rfl) (fun _ _ _ h => h) hS ?hy7 (by rfl) ?rest7
      case hy7 =>
        intro w0 h0
        have cw := h0.2.1.cell c HWd.out
        go_simp
        try with_reducible rfl
      simp only [Act.put, List.getElem_toArray, List.getElem_cons_zero, List.getElem_cons_succ, List.setIfInBounds_toArray, List.set_cons_zero, List.set_cons_succ]
      refine AnyG.one 7 (by kernel_rfl) rfl ?_
      intro K hK
      go_simp
      refine (HSl.out _ hbV).mono ?_
      rintro e w7 ⟨rfl, hb⟩
      have hS7 : Cel w7 w.heap.size [.int .i64 N, .int .i64 (n : Int), .int .i64 4, .int .i64 M, .slice ao xs.length cap, .int .i64 L, .slice qo ys.length dap, .slice so S.length sc, .slice tO T.length tc] 31 ∧ Tb w7 1 (vI wdL) ∧ Cel w7 G2 [.int .i64 (s0 : Nat), .int .i64 (a0 : Nat)] 52 := ⟨hS.1.kept hb, hS.2.1.kept hb, hS.2.2.kept hb⟩
      replace B2 := B2.kept hb
      have hI7 := hkeep.out _ _ _ hI6 (hb.mono (by omega))
      have hF7 := hF6.trans (Fr.of hb (by omega))
      have z7 := hb.size
      clear hb hI6 hF6 hS
      refine hK.out _ _ (fun _ => hS7) ?_
      clear hK K
      try simp only [Act.put, List.getElem_toArray, List.getElem_cons_zero, List.getElem_cons_succ, List.setIfInBounds_toArray, List.set_cons_zero, List.set_cons_succ]
      refine AnyG.take 8 (v := ?vv8) rfl (by kernel_rfl) (by kernel_rfl) (by kernel_rfl) (by kernel_rfl) (fun _ _ _ h => h) hS7 ?hy8 (by rfl) ?rest8
      case hy8 =>
        intro w0 h0
        go_simp
        try with_reducible rfl
      simp only [Act.put, List.getElem_toArray, List.getElem_cons_zero, List.getElem_cons_succ, List.setIfInBounds_toArray, List.set_cons_zero, List.set_cons_succ]
      refine AnyG.take 9 (v := ?vv9) rfl (by kernel_rfl) (by kernel_rfl) (by kernel_rfl) (by kernel_rfl) (fun _ _ _ h => h) hS7 ?hy9 (by rfl) ?rest9
      case hy9 =>
        intro w0 h0
        go_simp
        try with_reducible rfl
      simp only [Act.put, List.getElem_toArray, List.getElem_cons_zero, List.getElem_cons_succ, List.setIfInBounds_toArray, List.set_cons_zero, List.set_cons_succ]
      refine AnyG.take 10 (v := ?vv10) rfl (by kernel_rfl) (by kernel_rfl) (by kernel_rfl) (by kernel_rfl) (fun _ _ _ h => h) hS7 ?hy10 (by rfl) ?rest10
      case hy10 =>
        intro w0 h0
        go_simp
        try with_reducible rfl
      simp only [Act.put, List.getElem_toArray, List.getElem_cons_zero, List.getElem_cons_succ, List.setIfInBounds_toArray, List.set_cons_zero, List.set_cons_succ]
      refine AnyG.take 11 (v := ?vv11) rfl (by kernel_rfl) (by kernel_rfl) (by kernel_rfl) (by kernel_rfl) (fun _ _ _ h => h) hS7 ?hy11 (by rfl) ?rest11
      case hy11 =>
        intro w0 h0
        go_simp
        try with_reducible rfl
      simp only [Act.put, List.getElem_toArray, List.getElem_cons_zero, List.getElem_cons_succ, List.setIfInBounds_toArray, List.set_cons_zero, List.set_cons_succ]
      refine AnyG.take 12 (v := ?vv12) rfl (by kernel_rfl) (by kernel_rfl) (by kernel_rfl) (by kernel_rfl) (fun _ _ _ h => h) hS7 ?hy12 (by rfl) ?rest12
      case hy12 =>
        intro w0 h0
        go_simp
        try with_reducible rfl
      simp only [Act.put, List.getElem_toArray, List.getElem_cons_zero, List.getElem_cons_succ, List.setIfInBounds_toArray, List.set_cons_zero, List.set_cons_succ]
      refine AnyG.done (by kernel_rfl) ?_ _
      obtain ⟨B1, B3, B4⟩ := hS7
      have m0 := B4.cell 0 rfl
      have m1 := B4.cell 1 rfl
      have l4 := B4.lt
      have hb := below_alloc w7 (.cells #[.int .i64 (c : Nat), .int .u64 (o : Nat)] 59)
      obtain ⟨W8, hW8⟩ : ∃ W8, W8 = w7.alloc (.cells #[.int .i64 (c : Nat), .int .u64 (o : Nat)] 59) := ⟨_, rfl⟩
      rw [← hW8] at hb
      have B5 : Cel W8 w7.heap.size [.int .i64 (c : Nat), .int .u64 (o : Nat)] 59 := by rw [hW8]; exact Cel.new w7 _ _
      have hI8 := hkeep.out _ _ _ hI7 (hb.mono (by omega))
      have hF8 := hF7.trans (Fr.of hb (by omega))
      have z8 := hb.size
      replace B1 := B1.kept hb
      replace B2 := B2.kept hb
      replace B3 := B3.kept hb
      replace B4 := B4.kept hb
      have h56 : hi ≤ w7.heap.size := by omega
      clear hb hI7 hF7
      rcases Decidable.em (E = 0) with rfl | hE
      · go_wp2_with fail
        rw [← hW8]
        rw [hcf.out, Oper.upon_enter]
        refine (HC.out _ (by simp) hI8 (by omega)).mono ?_
        rintro e w9 ⟨b, rfl, hb1, hb0, hfr⟩
        have hF9 := hF8.trans hfr
        have z9 := hfr.size
        replace B1 := hfr.cel B1 (by omega)
        replace B2 := hfr.cel B2 (by omega)
        clear B3
        replace B4 := hfr.cel B4 (by omega)
        replace B5 := hfr.cel B5 (by omega)
        have HF9 : Hid (Fr lo hi w w9) := hF9
        clear hfr hF8 hF9 hI8 hW8 m0 m1 HC
        cases b with
        | false =>
          have hfin9 : Hid (Fin q w9) := hb0 rfl
          clear hb0 hb1
          have m0 := B4.cell 0 rfl
          have m1 := B4.cell 1 rfl
          have n0 := B2.cell 0 rfl
          have n1 := B2.cell 1 rfl
          have f0 := B2.frozen 0
          have f1 := B2.frozen 1
          go_wp2
          refine bodyPost_ret (result_cel rfl (w.heap.size + 1) [.int .i64 (s0 : Nat), .int .i64 (a0 : Nat)] rfl ((B2.set 0 _).set 1 _) Tryd.underlying52 (by kernel_rfl)) rfl ⟨q, false, by rw [hs0, ha0]; rfl, hq0, hq, nofun, fun _ => ⟨hqn, .inr ⟨hE0, hfin.out _ _ _ hfin9.out (((Below.refl hi w9).setCell (by show hi ≤ w.heap.size + 1; omega) _).setCell (by show hi ≤ w.heap.size + 1; omega) _)⟩⟩, (HF9.out.setCell (by show w.heap.size ≤ w.heap.size + 1; omega) (by show lo ≤ w.heap.size + 1; omega) _).setCell (by show w.heap.size ≤ w.heap.size + 1; omega) (by show lo ≤ w.heap.size + 1; omega) _⟩
        | true =>
          have hI9 := hb1 rfl
          have B3 : Tb w9 1 (vI wdL) := (hK.out _ _ hI9).gv.wd
          clear hb0 hb1
          go_wp2
          refine region_g [6] (fun w' => Tb w' 1 (vI wdL) ∧ Cel w' G2 [.int .i64 (s0 : Nat), .int .i64 (a0 : Nat)] 52 ∧ Cel w' w7.heap.size [.int .i64 (c : Nat), .int .u64 (o : Nat)] 59) (by kernel_rfl) ?_
          have hS : Tb w9.drew 1 (vI wdL) ∧ Cel w9.drew G2 [.int .i64 (s0 : Nat), .int .i64 (a0 : Nat)] 52 ∧ Cel w9.drew w7.heap.size [.int .i64 (c : Nat), .int .u64 (o : Nat)] 59 := ⟨B3, B4, B5⟩
          have bV : Below w9.heap.size w9 w9.drew := (Below.refl _ _).drew
          replace B1 : Cel w9.drew w.heap.size [.int .i64 N, .int .i64 (n : Int), .int .i64 4, .int .i64 M, .slice ao xs.length cap, .int .i64 L, .slice qo ys.length dap, .slice so S.length sc, .slice tO T.length tc] 31 := B1
          replace B2 : Cel w9.drew (w.heap.size + 1) [.int .i64 0, .int .i64 0] 52 := B2
          replace hI9 := hkeep.out _ _ _ hI9 (bV.mono (by omega))
          have hF9 := HF9.out.trans (Fr.of bV (by omega))
          have z10 := bV.size
          generalize w9.drew = Y2 at *
          clear B3 B4 B5 bV HF9
          refine AnyG.take 0 (v := ?vv41) rfl (by kernel_rfl) (by kernel_rfl) (by kernel_rfl) (by kernel_rfl) (fun _ _ _ h => h) hS ?hy41 (by rfl) ?rest41
          case hy41 =>
            intro w0 h0
            have c0 := h0.2.1.cell 0 rfl
            have c1 := h0.2.1.cell 1 rfl
            go_simp
            try with_reducible rfl
          simp only [Act.put, List.getElem_toArray, List.getElem_cons_zero, List.getElem_cons_succ, List.setIfInBounds_toArray, List.set_cons_zero, List.set_cons_succ]
          refine AnyG.take 1 (v := ?vv42) rfl (by kernel_rfl) (by kernel_rfl) (by kernel_rfl) (by kernel_rfl) (fun _ _ _ h => h) hS ?hy42 (by rfl) ?rest42
          case hy42 =>
            intro w0 h0
            have c0 := h0.2.2.cell 0 rfl
            have c1 := h0.2.2.cell 1 rfl
            go_simp
            try with_reducible rfl
          simp only [Act.put, List.getElem_toArray, List.getElem_cons_zero, List.getElem_cons_succ, List.setIfInBounds_toArray, List.set_cons_zero, List.set_cons_succ]
          refine AnyG.take 2 (v := ?vv43) rfl (by kernel_rfl) (by kernel_rfl) (by kernel_rfl) (by kernel_rfl) (fun _ _ _ h => h) hS ?hy43 (by rfl) ?rest43
          case hy43 =>
            intro w0 h0
            go_simp
            try with_reducible rfl
          simp only [Act.put, List.getElem_toArray, List.getElem_cons_zero, List.getElem_cons_succ, List.setIfInBounds_toArray, List.set_cons_zero, List.set_cons_succ]
          refine AnyG.take 3 (v := ?vv44) rfl (by kernel_rfl) (by kernel_rfl) (by kernel_rfl) (by kernel_rfl) (fun _ _ _ h => h) hS ?hy44 (by rfl) ?rest44
          case hy44 =>
            intro w0 h0
            go_simp
            try with_reducible rfl
          simp only [Act.put, List.getElem_toArray, List.getElem_cons_zero, List.getElem_cons_succ, List.setIfInBounds_toArray, List.set_cons_zero, List.set_cons_succ]
          refine AnyG.take 4 (v := ?vv45) rfl (by kernel_rfl) (by kernel_rfl) (by kernel_rfl) (by kernel_rfl) (fun _ _ _ h => h) hS ?hy45 (by rfl) ?rest45
          case hy45 =>
            intro w0 h0
            have cw := h0.1.cell c HWd.out
            go_simp
            try with_reducible rfl
          simp only [Act.put, List.getElem_toArray, List.getElem_cons_zero, List.getElem_cons_succ, List.setIfInBounds_toArray, List.set_cons_zero, List.set_cons_succ]
          refine AnyG.one 5 (by kernel_rfl) rfl ?_
          intro K hK
          go_simp
          refine (HBh.out _).mono ?_
          rintro e w11 ⟨rfl, hb⟩
          have hS11 : Tb w11 1 (vI wdL) ∧ Cel w11 G2 [.int .i64 (s0 : Nat), .int .i64 (a0 : Nat)] 52 ∧ Cel w11 w7.heap.size [.int .i64 (c : Nat), .int .u64 (o : Nat)] 59 := ⟨hS.1.kept hb, hS.2.1.kept hb, hS.2.2.kept hb⟩
          replace B1 := B1.kept hb
          replace B2 := B2.kept hb
          have hI11 := hkeep.out _ _ _ hI9 (hb.mono (by omega))
          have hF11 := hF9.trans (Fr.of hb (by omega))
          clear hb hS hI9 hF9
          refine hK.out _ _ (fun _ => hS11) ?_
          clear hK K
          try simp only [Act.put, List.getElem_toArray, List.getElem_cons_zero, List.getElem_cons_succ, List.setIfInBounds_toArray, List.set_cons_zero, List.set_cons_succ]
          refine AnyG.one 6 (by kernel_rfl) rfl ?_
          intro K hK
          obtain ⟨B3, B4, B5⟩ := hS11
          have f0 := B4.frozen 0
          have f1 := B4.frozen 1
          have c0 := B4.cell 0 rfl
          have c1 := B4.cell 1 rfl
          have HQ : Hid (Cel w11 w.heap.size [.int .i64 N, .int .i64 (n : Int), .int .i64 4, .int .i64 M, .slice ao xs.length cap, .int .i64 L, .slice qo ys.length dap, .slice so S.length sc, .slice tO T.length tc] 31 ∧ Cel w11 (w.heap.size + 1) [.int .i64 0, .int .i64 0] 52 ∧ Tb w11 1 (vI wdL) ∧ Cel w11 G2 [.int .i64 (s0 : Nat), .int .i64 (a0 : Nat)] 52 ∧ Inv (q + 1) w11 ∧ Fr lo hi w w11) := ⟨B1, B2, B3, B4, hI11, hF11⟩
          clear B1 B2 B3 B4 B5 hI11 hF11
          go_simp
          refine hK.out _ _ (fun h => absurd (by decide) h) ?_
          clear hK K
          try simp only [Act.put, List.getElem_toArray, List.getElem_cons_zero, List.getElem_cons_succ, List.setIfInBounds_toArray, List.set_cons_zero, List.set_cons_succ]
          refine AnyG.done (by kernel_rfl) ?_ _
          go_wp2
          obtain ⟨B1, B2, B3, B4, hI11, hF11⟩ := HQ.out
          refine ⟨⟨q + 1, by omega, by omega, by go_num, (B1.other (by show w.heap.size ≠ G2; omega) _).other (by show w.heap.size ≠ G2; omega) _, (B2.other (by show w.heap.size + 1 ≠ G2; omega) _).other (by show w.heap.size + 1 ≠ G2; omega) _, (B3.other (by show (1 : Nat) ≠ G2; omega) _).other (by show (1 : Nat) ≠ G2; omega) _, (B4.set 0 _).set 1 _, hkeep.out _ _ _ hI11 (((Below.refl hi w11).setCell (by show hi ≤ G2; omega) _).setCell (by show hi ≤ G2; omega) _), (hF11.setCell (by show w.heap.size ≤ G2; omega) (by show lo ≤ G2; omega) _).setCell (by show w.heap.size ≤ G2; omega) (by show lo ≤ G2; omega) _⟩, by simp only [intOf]; omega⟩
      · have hE2 : (E != 0) = true := by simpa using hE
        have n0 := B2.cell 0 rfl
        have n1 := B2.cell 1 rfl
        have f0 := B2.frozen 0
        have f1 := B2.frozen 1
        replace m0 := B4.cell 0 rfl
        replace m1 := B4.cell 1 rfl
        clear HC HBh HWd
        rw [hW8] at B2 hI8 hF8 n0 n1 f0 f1 m0 m1
        go_wp2
        refine bodyPost_ret (result_cel rfl (w.heap.size + 1) [.int .i64 (s0 : Nat), .int .i64 (a0 : Nat)] rfl ((B2.set 0 _).set 1 _) Tryd.underlying52 (by kernel_rfl)) rfl ⟨q, false, by rw [hs0, ha0]; rfl, hq0, hq, nofun, fun _ => ⟨hqn, .inl ⟨by rw [hE0]; exact hE, hkeep.out _ _ _ hI8 (((Below.refl hi _).setCell (by show hi ≤ w.heap.size + 1; omega) _).setCell (by show hi ≤ w.heap.size + 1; omega) _)⟩⟩, (hF8.setCell (by show w.heap.size ≤ w.heap.size + 1; omega) (by show lo ≤ w.heap.size + 1; omega) _).setCell (by show w.heap.size ≤ w.heap.size + 1; omega) (by show lo ≤ w.heap.size + 1; omega) _⟩
    · obtain rfl : q = n := by omega
      have n0 := B2.cell 0 rfl
      have n1 := B2.cell 1 rfl
      have f0 := B2.frozen 0
      have f1 := B2.frozen 1
      have m0 := B4.cell 0 rfl
      have m1 := B4.cell 1 rfl
      have HI2 : Hid (Inv q wr) := hI
      have HF2 : Hid (Fr lo hi w wr) := hF
      clear hf hI hF
      go_wp2
      refine bodyPost_ret (result_cel rfl (w.heap.size + 1) [.int .i64 (cOn xs q : Nat), .int .i64 (cAt xs q : Nat)] rfl ((B2.set 0 _).set 1 _) Tryd.underlying52 (by kernel_rfl)) rfl ⟨q, true, rfl, hq0, hq, fun _ => ⟨rfl, hkeep.out _ _ _ HI2.out (((Below.refl hi _).setCell (by show hi ≤ w.heap.size + 1; omega) _).setCell (by show hi ≤ w.heap.size + 1; omega) _)⟩, nofun, (HF2.out.setCell (by show w.heap.size ≤ w.heap.size + 1; omega) (by show lo ≤ w.heap.size + 1; omega) _).setCell (by show w.heap.size ≤ w.heap.size + 1; omega) (by show lo ≤ w.heap.size + 1; omega) _⟩
end Go.Proofs.YtmphbnmcbonmmaaDoor

namespace Go.Proofs.YtmphbnmcbonmmaaDoor
open Go.RowKit Num Bit Bn
set_option linter.unusedVariables false
set_option linter.unusedSimpArgs false
set_option maxRecDepth 100000

section
variable {P : Program} {ops : Array Oper} {Q : Exit → Act → World → Prop} {md : Region.Mode} {S : World → Prop} {ns : List Nat}
/-- Number i, which is not wanted, comes first. -/
theorem AnyG.skip (i : Nat) {oi : Oper} {f : Nat} {l : Array Bool} {a : Act} {w : World} (hi : ops[i]? = some oi) (hs : Region.noSelect ops = true) (hf : Region.free md ops l i = true) (hr : (Region.ready md ops l).contains i = true) (hw : ns.all (fun n => waits md ops n i) = true)
    (hQ : ∀ c a w, Q (.panic c) (a.put oi.dst undef) w → Q (.panic c) a w) (hS : S w) (hwn : Region.wanted oi (yielded ops a.tmps) = false)
    (h : AnyG P md ops Q S ns f (l.setIfInBounds i true) (a.put oi.dst undef) w) : AnyG P md ops Q S ns (f + 1) l a w :=
  AnyG.first hi hs hQ hw f l a w (Region.free_spec hi hf) (by simpa using hr) (.inr ⟨hwn, rfl⟩) hS h
end

def fitB (a : RA) : Bool := decide ((0 ≤ a.N ∧ a.N ≤ 1048576) ∧ ichk a.k a.V a.M a.xs = true ∧ chk a.L a.ys = true ∧ a.V = 4 ∧ a.k = (nb a.N.toNat : Int) ∧ a.S.length = gN a.N.toNat ∧ a.T.length = gN a.N.toNat)

set_option maxHeartbeats 16000000 in
theorem qfits_c (cs : List Value) (a : RA) (w : World) (h : KI w cs a) :
    Calls Tryd.prog 26 #[.agg cs.toArray] w fun e w' => e = .returned (.bool (fitB a)) ∧ Below w.heap.size w w' := by
  obtain ⟨⟨ao, cap, qo, dap, so, sc, tO, tc, rfl, _, a1, a2, a3, a4, a5, a6, a7, a8, a9, a10⟩, xl, yl, sl, tl⟩ := h
  obtain ⟨N, k, V, M, xs, L, ys, S, T⟩ := a
  dsimp only at *
  have HIc : Hid (∀ w0, Below w.heap.size w w0 → Calls Tryd.prog 46 #[.agg #[.int .i64 k, .int .i64 V, .int .i64 M, .slice ao xs.length cap]] w0 fun e w' => e = .returned (.bool (ichk k V M xs)) ∧ Below w0.heap.size w0 w') := fun w0 hb => icheck_c k V M ao xs cap w0 (a1.keep hb)
  have HBc : Hid (∀ w0, Below w.heap.size w w0 → Calls Tryd.prog 18 #[.agg #[.int .i64 L, .slice qo ys.length dap]] w0 fun e w' => e = .returned (.bool (chk L ys)) ∧ Below w0.heap.size w0 w') := fun w0 hb => check_c L qo ys dap w0 (a4.keep hb)
  obtain ⟨W, hW⟩ : ∃ W, W = w.alloc (.cells #[.int .i64 N, .int .i64 k, .int .i64 V, .int .i64 M, .slice ao xs.length cap, .int .i64 L, .slice qo ys.length dap, .slice so S.length sc, .slice tO T.length tc] 31) := ⟨_, rfl⟩
  have bW : Below w.heap.size w W := by rw [hW]; exact below_alloc w _
  have B1 : Cel W w.heap.size [.int .i64 N, .int .i64 k, .int .i64 V, .int .i64 M, .slice ao xs.length cap, .int .i64 L, .slice qo ys.length dap, .slice so S.length sc, .slice tO T.length tc] 31 := by rw [hW]; exact Cel.new w _ _
  clear a1 a2 a3 a4 a5 a6 a7 a8 a9 a10
  obtain ⟨B, hB⟩ : ∃ B, Hid (B = fitB ⟨N, k, V, M, xs, L, ys, S, T⟩) := ⟨_, rfl⟩
  rw [← hB.out]
  by_cases n0 : N < 0
  · obtain rfl : B = false := by
      rw [hB.out]; unfold fitB; dsimp only
      exact decide_eq_false fun h => by omega
    clear hB HIc HBc B1
    go_enter Tryd.func26, Tryd.ntmps26
    go_wp2
    go_ret
    rw [← hW]
    exact ⟨rfl, bW⟩
  by_cases n1 : 1048576 < N
  · obtain rfl : B = false := by
      rw [hB.out]; unfold fitB; dsimp only
      exact decide_eq_false fun h => by omega
    clear hB HIc HBc B1
    go_enter Tryd.func26, Tryd.ntmps26
    go_wp2
    go_ret
    rw [← hW]
    exact ⟨rfl, bW⟩
  obtain ⟨m, rfl⟩ := Int.eq_ofNat_of_zero_le (show 0 ≤ N by omega)
  have hm : m ≤ 1048576 := by omega
  have hm2 : (m : Int) ≤ 1048576 := by omega
  cases hk : ichk k V M xs with
  | false =>
    obtain rfl : B = false := by
      rw [hB.out]; unfold fitB; dsimp only
      exact decide_eq_false fun h => by rw [hk] at h; simp at h
    rw [hk] at HIc
    clear hB HBc hk
    go_enter Tryd.func26, Tryd.ntmps26
    go_wp2_with fail
    rw [← hW]
    refine (HIc.out _ bW).mono ?_
    rintro e w1 ⟨rfl, hb⟩
    have bw1 := bW.trans (hb.mono bW.size)
    clear hW hb
    go_wp2
    go_ret
    exact ⟨rfl, bw1⟩
  | true =>
  rw [hk] at HIc
  cases hc : chk L ys with
  | false =>
    obtain rfl : B = false := by
      rw [hB.out]; unfold fitB; dsimp only
      exact decide_eq_false fun h => by rw [hc] at h; simp at h
    rw [hc] at HBc
    clear hB hk hc
    go_enter Tryd.func26, Tryd.ntmps26
    go_wp2_with fail
    rw [← hW]
    refine (HIc.out _ bW).mono ?_
    rintro e w1 ⟨rfl, hb⟩
    have bw1 := bW.trans (hb.mono bW.size)
    replace B1 := B1.kept hb
    have c5 := B1.cell 5 rfl
    have c6 := B1.cell 6 rfl
    clear hW hb
    go_wp2_with fail
    refine (HBc.out _ bw1).mono ?_
    rintro e w2 ⟨rfl, hb⟩
    have bw2 := bw1.trans (hb.mono bw1.size)
    clear hb
    go_wp2
    go_ret
    exact ⟨rfl, bw2⟩
  | true =>
  rw [hc] at HBc
  have HN : Hid (∀ w0, Calls Tryd.prog 36 #[.int .i64 (m : Int)] w0 fun e w' => e = .returned (.int .i64 (nb m : Nat)) ∧ w' = w0) := fun w0 => qblocks_c m hm w0
  have nbl := nb_le m hm
  have HGr : Hid (∀ w0, Calls Tryd.prog 39 #[.int .i64 (nb m : Nat)] w0 fun e w' => e = .returned (.int .i64 (gN m : Nat)) ∧ w' = w0) := fun w0 => qgroups_c (nb m) (by omega) w0
  have HB2 : Hid (B = decide (V = 4 ∧ k = (nb m : Int) ∧ S.length = gN m ∧ T.length = gN m)) := by
    show B = _
    rw [hB.out]; unfold fitB; dsimp only
    rw [Int.toNat_natCast]
    exact decide_eq_decide.2 ⟨fun h => h.2.2.2, fun h => ⟨by omega, hk, hc, h⟩⟩
  have gl : gN m ≤ 1048576 := by unfold gN; omega
  clear hB hk hc
  generalize nb m = nbm at *
  generalize gN m = G at *
  go_enter Tryd.func26, Tryd.ntmps26
  go_wp2_with fail
  rw [← hW]
  refine (HIc.out _ bW).mono ?_
  rintro e w1 ⟨rfl, hb⟩
  have bw1 := bW.trans (hb.mono bW.size)
  replace B1 := B1.kept hb
  have c5 := B1.cell 5 rfl
  have c6 := B1.cell 6 rfl
  clear hW hb HIc bW
  go_wp2_with fail
  refine (HBc.out _ bw1).mono ?_
  rintro e w2 ⟨rfl, hb⟩
  have bw2 := bw1.trans (hb.mono bw1.size)
  replace B1 := B1.kept hb
  have c0 := B1.cell 0 rfl
  clear hb HBc bw1 c5 c6
  go_wp2_with fail
  refine (HN.out _).mono ?_
  rintro e w3 ⟨rfl, rfl⟩
  go_wp2_with fail
  refine (HGr.out _).mono ?_
  rintro e w3 ⟨rfl, rfl⟩
  clear c0
  go_wp2
  refine region_g [] (fun w' => Cel w' w.heap.size [.int .i64 (m : Int), .int .i64 k, .int .i64 V, .int .i64 M, .slice ao xs.length cap, .int .i64 L, .slice qo ys.length dap, .slice so S.length sc, .slice tO T.length tc] 31) (by kernel_rfl) ?_
  have hS : Cel w3.drew w.heap.size [.int .i64 (m : Int), .int .i64 k, .int .i64 V, .int .i64 M, .slice ao xs.length cap, .int .i64 L, .slice qo ys.length dap, .slice so S.length sc, .slice tO T.length tc] 31 := B1
  have bV : Below w.heap.size w w3.drew := bw2.drew
  generalize w3.drew = Y at *
  clear B1 bw2
  by_cases v : V = 4
  · have v2 : (V == 4) = true := by simpa using v
    by_cases kk : k = (nbm : Int)
    · have kk2 : (k == (nbm : Int)) = true := by simpa using kk
      by_cases s : S.length = G
      · have s2 : ((S.length : Int) == (G : Int)) = true := by simp [s]
        by_cases t : T.length = G
        · have t2 : ((T.length : Int) == (G : Int)) = true := by simp [t]
          obtain rfl : B = true := by
            rw [HB2.out]
            exact decide_eq_true ⟨v, kk, s, t⟩
          clear HB2 v kk s t
          refine AnyG.take 0 (v := ?vv1) rfl (by kernel_rfl) (by kernel_rfl) (by kernel_rfl) (by kernel_rfl) (fun _ _ _ h => h) hS ?hy1 (by rfl) ?rest1
          case hy1 =>
            intro w0 h0
            go_simp
            try with_reducible rfl
          simp only [Act.put, List.getElem_toArray, List.getElem_cons_zero, List.getElem_cons_succ, List.setIfInBounds_toArray, List.set_cons_zero, List.set_cons_succ]
          refine AnyG.take 1 (v := ?vv2) rfl (by kernel_rfl) (by kernel_rfl) (by kernel_rfl) (by kernel_rfl) (fun _ _ _ h => h) hS ?hy2 (by rfl) ?rest2
          case hy2 =>
            intro w0 h0
            go_simp
            try with_reducible rfl
          simp only [Act.put, List.getElem_toArray, List.getElem_cons_zero, List.getElem_cons_succ, List.setIfInBounds_toArray, List.set_cons_zero, List.set_cons_succ]
          refine AnyG.take 2 (v := ?vv3) rfl (by kernel_rfl) (by kernel_rfl) (by kernel_rfl) (by kernel_rfl) (fun _ _ _ h => h) hS ?hy3 (by rfl) ?rest3
          case hy3 =>
            intro w0 h0
            have c0 := h0.cell 2 rfl
            go_simp
            try with_reducible rfl
          simp only [Act.put, List.getElem_toArray, List.getElem_cons_zero, List.getElem_cons_succ, List.setIfInBounds_toArray, List.set_cons_zero, List.set_cons_succ]
          refine AnyG.take 3 (v := ?vv4) rfl (by kernel_rfl) (by kernel_rfl) (by kernel_rfl) (by kernel_rfl) (fun _ _ _ h => h) hS ?hy4 (by rfl) ?rest4
          case hy4 =>
            intro w0 h0
            go_simp
            try with_reducible rfl
          simp only [Act.put, List.getElem_toArray, List.getElem_cons_zero, List.getElem_cons_succ, List.setIfInBounds_toArray, List.set_cons_zero, List.set_cons_succ]
          refine AnyG.take 4 (v := ?vv5) rfl (by kernel_rfl) (by kernel_rfl) (by kernel_rfl) (by kernel_rfl) (fun _ _ _ h => h) hS ?hy5 (by rfl) ?rest5
          case hy5 =>
            intro w0 h0
            go_simp
            try with_reducible rfl
          simp only [Act.put, List.getElem_toArray, List.getElem_cons_zero, List.getElem_cons_succ, List.setIfInBounds_toArray, List.set_cons_zero, List.set_cons_succ]
          refine AnyG.take 5 (v := ?vv6) rfl (by kernel_rfl) (by kernel_rfl) (by kernel_rfl) (by kernel_rfl) (fun _ _ _ h => h) hS ?hy6 (by rfl) ?rest6
          case hy6 =>
            intro w0 h0
            go_simp
            try with_reducible rfl
          simp only [Act.put, List.getElem_toArray, List.getElem_cons_zero, List.getElem_cons_succ, List.setIfInBounds_toArray, List.set_cons_zero, List.set_cons_succ]
          refine AnyG.take 6 (v := ?vv7) rfl (by kernel_rfl) (by kernel_rfl) (by kernel_rfl) (by kernel_rfl) (fun _ _ _ h => h) hS ?hy7 (by rfl) ?rest7
          case hy7 =>
            intro w0 h0
            go_simp
            try with_reducible rfl
          simp only [Act.put, List.getElem_toArray, List.getElem_cons_zero, List.getElem_cons_succ, List.setIfInBounds_toArray, List.set_cons_zero, List.set_cons_succ]
          refine AnyG.take 7 (v := ?vv8) rfl (by kernel_rfl) (by kernel_rfl) (by kernel_rfl) (by kernel_rfl) (fun _ _ _ h => h) hS ?hy8 (by rfl) ?rest8
          case hy8 =>
            intro w0 h0
            have c0 := h0.cell 1 rfl
            go_simp
            try with_reducible rfl
          simp only [Act.put, List.getElem_toArray, List.getElem_cons_zero, List.getElem_cons_succ, List.setIfInBounds_toArray, List.set_cons_zero, List.set_cons_succ]
          refine AnyG.take 8 (v := ?vv9) rfl (by kernel_rfl) (by kernel_rfl) (by kernel_rfl) (by kernel_rfl) (fun _ _ _ h => h) hS ?hy9 (by rfl) ?rest9
          case hy9 =>
            intro w0 h0
            go_simp
            try with_reducible rfl
          simp only [Act.put, List.getElem_toArray, List.getElem_cons_zero, List.getElem_cons_succ, List.setIfInBounds_toArray, List.set_cons_zero, List.set_cons_succ]
          refine AnyG.take 9 (v := ?vv10) rfl (by kernel_rfl) (by kernel_rfl) (by kernel_rfl) (by kernel_rfl) (fun _ _ _ h => h) hS ?hy10 (by rfl) ?rest10
          case hy10 =>
            intro w0 h0
            have c0 := h0.cell 0 rfl
            go_simp
            try with_reducible rfl
          simp only [Act.put, List.getElem_toArray, List.getElem_cons_zero, List.getElem_cons_succ, List.setIfInBounds_toArray, List.set_cons_zero, List.set_cons_succ]
          refine AnyG.one 10 (by kernel_rfl) rfl ?_
          intro K hK
          go_simp
          refine (HN.out _).mono ?_
          rintro e w4 ⟨rfl, rfl⟩
          refine hK.out _ _ (fun _ => hS) ?_
          clear hK K
          try simp only [Act.put, List.getElem_toArray, List.getElem_cons_zero, List.getElem_cons_succ, List.setIfInBounds_toArray, List.set_cons_zero, List.set_cons_succ]
          refine AnyG.take 11 (v := ?vv11) rfl (by kernel_rfl) (by kernel_rfl) (by kernel_rfl) (by kernel_rfl) (fun _ _ _ h => h) hS ?hy11 (by rfl) ?rest11
          case hy11 =>
            intro w0 h0
            go_simp
            try with_reducible rfl
          simp only [Act.put, List.getElem_toArray, List.getElem_cons_zero, List.getElem_cons_succ, List.setIfInBounds_toArray, List.set_cons_zero, List.set_cons_succ]
          refine AnyG.take 12 (v := ?vv12) rfl (by kernel_rfl) (by kernel_rfl) (by kernel_rfl) (by kernel_rfl) (fun _ _ _ h => h) hS ?hy12 (by rfl) ?rest12
          case hy12 =>
            intro w0 h0
            go_simp
            try with_reducible rfl
          simp only [Act.put, List.getElem_toArray, List.getElem_cons_zero, List.getElem_cons_succ, List.setIfInBounds_toArray, List.set_cons_zero, List.set_cons_succ]
          refine AnyG.take 13 (v := ?vv13) rfl (by kernel_rfl) (by kernel_rfl) (by kernel_rfl) (by kernel_rfl) (fun _ _ _ h => h) hS ?hy13 (by rfl) ?rest13
          case hy13 =>
            intro w0 h0
            go_simp
            try with_reducible rfl
          simp only [Act.put, List.getElem_toArray, List.getElem_cons_zero, List.getElem_cons_succ, List.setIfInBounds_toArray, List.set_cons_zero, List.set_cons_succ]
          refine AnyG.take 14 (v := ?vv14) rfl (by kernel_rfl) (by kernel_rfl) (by kernel_rfl) (by kernel_rfl) (fun _ _ _ h => h) hS ?hy14 (by rfl) ?rest14
          case hy14 =>
            intro w0 h0
            go_simp
            try with_reducible rfl
          simp only [Act.put, List.getElem_toArray, List.getElem_cons_zero, List.getElem_cons_succ, List.setIfInBounds_toArray, List.set_cons_zero, List.set_cons_succ]
          refine AnyG.take 15 (v := ?vv15) rfl (by kernel_rfl) (by kernel_rfl) (by kernel_rfl) (by kernel_rfl) (fun _ _ _ h => h) hS ?hy15 (by rfl) ?rest15
          case hy15 =>
            intro w0 h0
            have c0 := h0.cell 7 rfl
            go_simp
            try with_reducible rfl
          simp only [Act.put, List.getElem_toArray, List.getElem_cons_zero, List.getElem_cons_succ, List.setIfInBounds_toArray, List.set_cons_zero, List.set_cons_succ]
          refine AnyG.take 16 (v := ?vv16) rfl (by kernel_rfl) (by kernel_rfl) (by kernel_rfl) (by kernel_rfl) (fun _ _ _ h => h) hS ?hy16 (by rfl) ?rest16
          case hy16 =>
            intro w0 h0
            go_simp
            try with_reducible rfl
          simp only [Act.put, List.getElem_toArray, List.getElem_cons_zero, List.getElem_cons_succ, List.setIfInBounds_toArray, List.set_cons_zero, List.set_cons_succ]
          refine AnyG.take 17 (v := ?vv17) rfl (by kernel_rfl) (by kernel_rfl) (by kernel_rfl) (by kernel_rfl) (fun _ _ _ h => h) hS ?hy17 (by rfl) ?rest17
          case hy17 =>
            intro w0 h0
            go_simp
            try with_reducible rfl
          simp only [Act.put, List.getElem_toArray, List.getElem_cons_zero, List.getElem_cons_succ, List.setIfInBounds_toArray, List.set_cons_zero, List.set_cons_succ]
          refine AnyG.take 18 (v := ?vv18) rfl (by kernel_rfl) (by kernel_rfl) (by kernel_rfl) (by kernel_rfl) (fun _ _ _ h => h) hS ?hy18 (by rfl) ?rest18
          case hy18 =>
            intro w0 h0
            go_simp
            try with_reducible rfl
          simp only [Act.put, List.getElem_toArray, List.getElem_cons_zero, List.getElem_cons_succ, List.setIfInBounds_toArray, List.set_cons_zero, List.set_cons_succ]
          refine AnyG.take 19 (v := ?vv19) rfl (by kernel_rfl) (by kernel_rfl) (by kernel_rfl) (by kernel_rfl) (fun _ _ _ h => h) hS ?hy19 (by rfl) ?rest19
          case hy19 =>
            intro w0 h0
            go_simp
            try with_reducible rfl
          simp only [Act.put, List.getElem_toArray, List.getElem_cons_zero, List.getElem_cons_succ, List.setIfInBounds_toArray, List.set_cons_zero, List.set_cons_succ]
          refine AnyG.take 20 (v := ?vv20) rfl (by kernel_rfl) (by kernel_rfl) (by kernel_rfl) (by kernel_rfl) (fun _ _ _ h => h) hS ?hy20 (by rfl) ?rest20
          case hy20 =>
            intro w0 h0
            go_simp
            try with_reducible rfl
          simp only [Act.put, List.getElem_toArray, List.getElem_cons_zero, List.getElem_cons_succ, List.setIfInBounds_toArray, List.set_cons_zero, List.set_cons_succ]
          refine AnyG.take 21 (v := ?vv21) rfl (by kernel_rfl) (by kernel_rfl) (by kernel_rfl) (by kernel_rfl) (fun _ _ _ h => h) hS ?hy21 (by rfl) ?rest21
          case hy21 =>
            intro w0 h0
            go_simp
            try with_reducible rfl
          simp only [Act.put, List.getElem_toArray, List.getElem_cons_zero, List.getElem_cons_succ, List.setIfInBounds_toArray, List.set_cons_zero, List.set_cons_succ]
          refine AnyG.take 22 (v := ?vv22) rfl (by kernel_rfl) (by kernel_rfl) (by kernel_rfl) (by kernel_rfl) (fun _ _ _ h => h) hS ?hy22 (by rfl) ?rest22
          case hy22 =>
            intro w0 h0
            have c0 := h0.cell 8 rfl
            go_simp
            try with_reducible rfl
          simp only [Act.put, List.getElem_toArray, List.getElem_cons_zero, List.getElem_cons_succ, List.setIfInBounds_toArray, List.set_cons_zero, List.set_cons_succ]
          refine AnyG.take 23 (v := ?vv23) rfl (by kernel_rfl) (by kernel_rfl) (by kernel_rfl) (by kernel_rfl) (fun _ _ _ h => h) hS ?hy23 (by rfl) ?rest23
          case hy23 =>
            intro w0 h0
            go_simp
            try with_reducible rfl
          simp only [Act.put, List.getElem_toArray, List.getElem_cons_zero, List.getElem_cons_succ, List.setIfInBounds_toArray, List.set_cons_zero, List.set_cons_succ]
          refine AnyG.take 24 (v := ?vv24) rfl (by kernel_rfl) (by kernel_rfl) (by kernel_rfl) (by kernel_rfl) (fun _ _ _ h => h) hS ?hy24 (by rfl) ?rest24
          case hy24 =>
            intro w0 h0
            go_simp
            try with_reducible rfl
          simp only [Act.put, List.getElem_toArray, List.getElem_cons_zero, List.getElem_cons_succ, List.setIfInBounds_toArray, List.set_cons_zero, List.set_cons_succ]
          refine AnyG.take 25 (v := ?vv25) rfl (by kernel_rfl) (by kernel_rfl) (by kernel_rfl) (by kernel_rfl) (fun _ _ _ h => h) hS ?hy25 (by rfl) ?rest25
          case hy25 =>
            intro w0 h0
            go_simp
            try with_reducible rfl
          simp only [Act.put, List.getElem_toArray, List.getElem_cons_zero, List.getElem_cons_succ, List.setIfInBounds_toArray, List.set_cons_zero, List.set_cons_succ]
          refine AnyG.take 26 (v := ?vv26) rfl (by kernel_rfl) (by kernel_rfl) (by kernel_rfl) (by kernel_rfl) (fun _ _ _ h => h) hS ?hy26 (by rfl) ?rest26
          case hy26 =>
            intro w0 h0
            go_simp
            try with_reducible rfl
          simp only [Act.put, List.getElem_toArray, List.getElem_cons_zero, List.getElem_cons_succ, List.setIfInBounds_toArray, List.set_cons_zero, List.set_cons_succ]
          refine AnyG.take 27 (v := ?vv27) rfl (by kernel_rfl) (by kernel_rfl) (by kernel_rfl) (by kernel_rfl) (fun _ _ _ h => h) hS ?hy27 (by rfl) ?rest27
          case hy27 =>
            intro w0 h0
            go_simp
            try with_reducible rfl
          simp only [Act.put, List.getElem_toArray, List.getElem_cons_zero, List.getElem_cons_succ, List.setIfInBounds_toArray, List.set_cons_zero, List.set_cons_succ]
          refine AnyG.done (by kernel_rfl) ?_ _
          clear hS HN HGr
          go_wp2
          go_ret
          exact ⟨rfl, bV⟩
        · have t2 : ((T.length : Int) == (G : Int)) = false := by simp; omega
          obtain rfl : B = false := by
            rw [HB2.out]
            exact decide_eq_false fun h => by omega
          clear HB2 v kk s t
          refine AnyG.take 0 (v := ?vv41) rfl (by kernel_rfl) (by kernel_rfl) (by kernel_rfl) (by kernel_rfl) (fun _ _ _ h => h) hS ?hy41 (by rfl) ?rest41
          case hy41 =>
            intro w0 h0
            go_simp
            try with_reducible rfl
          simp only [Act.put, List.getElem_toArray, List.getElem_cons_zero, List.getElem_cons_succ, List.setIfInBounds_toArray, List.set_cons_zero, List.set_cons_succ]
          refine AnyG.take 1 (v := ?vv42) rfl (by kernel_rfl) (by kernel_rfl) (by kernel_rfl) (by kernel_rfl) (fun _ _ _ h => h) hS ?hy42 (by rfl) ?rest42
          case hy42 =>
            intro w0 h0
            go_simp
            try with_reducible rfl
          simp only [Act.put, List.getElem_toArray, List.getElem_cons_zero, List.getElem_cons_succ, List.setIfInBounds_toArray, List.set_cons_zero, List.set_cons_succ]
          refine AnyG.take 2 (v := ?vv43) rfl (by kernel_rfl) (by kernel_rfl) (by kernel_rfl) (by kernel_rfl) (fun _ _ _ h => h) hS ?hy43 (by rfl) ?rest43
          case hy43 =>
            intro w0 h0
            have c0 := h0.cell 2 rfl
            go_simp
            try with_reducible rfl
          simp only [Act.put, List.getElem_toArray, List.getElem_cons_zero, List.getElem_cons_succ, List.setIfInBounds_toArray, List.set_cons_zero, List.set_cons_succ]
          refine AnyG.take 3 (v := ?vv44) rfl (by kernel_rfl) (by kernel_rfl) (by kernel_rfl) (by kernel_rfl) (fun _ _ _ h => h) hS ?hy44 (by rfl) ?rest44
          case hy44 =>
            intro w0 h0
            go_simp
            try with_reducible rfl
          simp only [Act.put, List.getElem_toArray, List.getElem_cons_zero, List.getElem_cons_succ, List.setIfInBounds_toArray, List.set_cons_zero, List.set_cons_succ]
          refine AnyG.take 4 (v := ?vv45) rfl (by kernel_rfl) (by kernel_rfl) (by kernel_rfl) (by kernel_rfl) (fun _ _ _ h => h) hS ?hy45 (by rfl) ?rest45
          case hy45 =>
            intro w0 h0
            go_simp
            try with_reducible rfl
          simp only [Act.put, List.getElem_toArray, List.getElem_cons_zero, List.getElem_cons_succ, List.setIfInBounds_toArray, List.set_cons_zero, List.set_cons_succ]
          refine AnyG.take 5 (v := ?vv46) rfl (by kernel_rfl) (by kernel_rfl) (by kernel_rfl) (by kernel_rfl) (fun _ _ _ h => h) hS ?hy46 (by rfl) ?rest46
          case hy46 =>
            intro w0 h0
            go_simp
            try with_reducible rfl
          simp only [Act.put, List.getElem_toArray, List.getElem_cons_zero, List.getElem_cons_succ, List.setIfInBounds_toArray, List.set_cons_zero, List.set_cons_succ]
          refine AnyG.take 6 (v := ?vv47) rfl (by kernel_rfl) (by kernel_rfl) (by kernel_rfl) (by kernel_rfl) (fun _ _ _ h => h) hS ?hy47 (by rfl) ?rest47
          case hy47 =>
            intro w0 h0
            go_simp
            try with_reducible rfl
          simp only [Act.put, List.getElem_toArray, List.getElem_cons_zero, List.getElem_cons_succ, List.setIfInBounds_toArray, List.set_cons_zero, List.set_cons_succ]
          refine AnyG.take 7 (v := ?vv48) rfl (by kernel_rfl) (by kernel_rfl) (by kernel_rfl) (by kernel_rfl) (fun _ _ _ h => h) hS ?hy48 (by rfl) ?rest48
          case hy48 =>
            intro w0 h0
            have c0 := h0.cell 1 rfl
            go_simp
            try with_reducible rfl
          simp only [Act.put, List.getElem_toArray, List.getElem_cons_zero, List.getElem_cons_succ, List.setIfInBounds_toArray, List.set_cons_zero, List.set_cons_succ]
          refine AnyG.take 8 (v := ?vv49) rfl (by kernel_rfl) (by kernel_rfl) (by kernel_rfl) (by kernel_rfl) (fun _ _ _ h => h) hS ?hy49 (by rfl) ?rest49
          case hy49 =>
            intro w0 h0
            go_simp
            try with_reducible rfl
          simp only [Act.put, List.getElem_toArray, List.getElem_cons_zero, List.getElem_cons_succ, List.setIfInBounds_toArray, List.set_cons_zero, List.set_cons_succ]
          refine AnyG.take 9 (v := ?vv50) rfl (by kernel_rfl) (by kernel_rfl) (by kernel_rfl) (by kernel_rfl) (fun _ _ _ h => h) hS ?hy50 (by rfl) ?rest50
          case hy50 =>
            intro w0 h0
            have c0 := h0.cell 0 rfl
            go_simp
            try with_reducible rfl
          simp only [Act.put, List.getElem_toArray, List.getElem_cons_zero, List.getElem_cons_succ, List.setIfInBounds_toArray, List.set_cons_zero, List.set_cons_succ]
          refine AnyG.one 10 (by kernel_rfl) rfl ?_
          intro K hK
          go_simp
          refine (HN.out _).mono ?_
          rintro e w4 ⟨rfl, rfl⟩
          refine hK.out _ _ (fun _ => hS) ?_
          clear hK K
          try simp only [Act.put, List.getElem_toArray, List.getElem_cons_zero, List.getElem_cons_succ, List.setIfInBounds_toArray, List.set_cons_zero, List.set_cons_succ]
          refine AnyG.take 11 (v := ?vv51) rfl (by kernel_rfl) (by kernel_rfl) (by kernel_rfl) (by kernel_rfl) (fun _ _ _ h => h) hS ?hy51 (by rfl) ?rest51
          case hy51 =>
            intro w0 h0
            go_simp
            try with_reducible rfl
          simp only [Act.put, List.getElem_toArray, List.getElem_cons_zero, List.getElem_cons_succ, List.setIfInBounds_toArray, List.set_cons_zero, List.set_cons_succ]
          refine AnyG.take 12 (v := ?vv52) rfl (by kernel_rfl) (by kernel_rfl) (by kernel_rfl) (by kernel_rfl) (fun _ _ _ h => h) hS ?hy52 (by rfl) ?rest52
          case hy52 =>
            intro w0 h0
            go_simp
            try with_reducible rfl
          simp only [Act.put, List.getElem_toArray, List.getElem_cons_zero, List.getElem_cons_succ, List.setIfInBounds_toArray, List.set_cons_zero, List.set_cons_succ]
          refine AnyG.take 13 (v := ?vv53) rfl (by kernel_rfl) (by kernel_rfl) (by kernel_rfl) (by kernel_rfl) (fun _ _ _ h => h) hS ?hy53 (by rfl) ?rest53
          case hy53 =>
            intro w0 h0
            go_simp
            try with_reducible rfl
          simp only [Act.put, List.getElem_toArray, List.getElem_cons_zero, List.getElem_cons_succ, List.setIfInBounds_toArray, List.set_cons_zero, List.set_cons_succ]
          refine AnyG.take 14 (v := ?vv54) rfl (by kernel_rfl) (by kernel_rfl) (by kernel_rfl) (by kernel_rfl) (fun _ _ _ h => h) hS ?hy54 (by rfl) ?rest54
          case hy54 =>
            intro w0 h0
            go_simp
            try with_reducible rfl
          simp only [Act.put, List.getElem_toArray, List.getElem_cons_zero, List.getElem_cons_succ, List.setIfInBounds_toArray, List.set_cons_zero, List.set_cons_succ]
          refine AnyG.take 15 (v := ?vv55) rfl (by kernel_rfl) (by kernel_rfl) (by kernel_rfl) (by kernel_rfl) (fun _ _ _ h => h) hS ?hy55 (by rfl) ?rest55
          case hy55 =>
            intro w0 h0
            have c0 := h0.cell 7 rfl
            go_simp
            try with_reducible rfl
          simp only [Act.put, List.getElem_toArray, List.getElem_cons_zero, List.getElem_cons_succ, List.setIfInBounds_toArray, List.set_cons_zero, List.set_cons_succ]
          refine AnyG.take 16 (v := ?vv56) rfl (by kernel_rfl) (by kernel_rfl) (by kernel_rfl) (by kernel_rfl) (fun _ _ _ h => h) hS ?hy56 (by rfl) ?rest56
          case hy56 =>
            intro w0 h0
            go_simp
            try with_reducible rfl
          simp only [Act.put, List.getElem_toArray, List.getElem_cons_zero, List.getElem_cons_succ, List.setIfInBounds_toArray, List.set_cons_zero, List.set_cons_succ]
          refine AnyG.take 17 (v := ?vv57) rfl (by kernel_rfl) (by kernel_rfl) (by kernel_rfl) (by kernel_rfl) (fun _ _ _ h => h) hS ?hy57 (by rfl) ?rest57
          case hy57 =>
            intro w0 h0
            go_simp
            try with_reducible rfl
          simp only [Act.put, List.getElem_toArray, List.getElem_cons_zero, List.getElem_cons_succ, List.setIfInBounds_toArray, List.set_cons_zero, List.set_cons_succ]
          refine AnyG.take 18 (v := ?vv58) rfl (by kernel_rfl) (by kernel_rfl) (by kernel_rfl) (by kernel_rfl) (fun _ _ _ h => h) hS ?hy58 (by rfl) ?rest58
          case hy58 =>
            intro w0 h0
            go_simp
            try with_reducible rfl
          simp only [Act.put, List.getElem_toArray, List.getElem_cons_zero, List.getElem_cons_succ, List.setIfInBounds_toArray, List.set_cons_zero, List.set_cons_succ]
          refine AnyG.take 19 (v := ?vv59) rfl (by kernel_rfl) (by kernel_rfl) (by kernel_rfl) (by kernel_rfl) (fun _ _ _ h => h) hS ?hy59 (by rfl) ?rest59
          case hy59 =>
            intro w0 h0
            go_simp
            try with_reducible rfl
          simp only [Act.put, List.getElem_toArray, List.getElem_cons_zero, List.getElem_cons_succ, List.setIfInBounds_toArray, List.set_cons_zero, List.set_cons_succ]
          refine AnyG.take 20 (v := ?vv60) rfl (by kernel_rfl) (by kernel_rfl) (by kernel_rfl) (by kernel_rfl) (fun _ _ _ h => h) hS ?hy60 (by rfl) ?rest60
          case hy60 =>
            intro w0 h0
            go_simp
            try with_reducible rfl
          simp only [Act.put, List.getElem_toArray, List.getElem_cons_zero, List.getElem_cons_succ, List.setIfInBounds_toArray, List.set_cons_zero, List.set_cons_succ]
          refine AnyG.take 21 (v := ?vv61) rfl (by kernel_rfl) (by kernel_rfl) (by kernel_rfl) (by kernel_rfl) (fun _ _ _ h => h) hS ?hy61 (by rfl) ?rest61
          case hy61 =>
            intro w0 h0
            go_simp
            try with_reducible rfl
          simp only [Act.put, List.getElem_toArray, List.getElem_cons_zero, List.getElem_cons_succ, List.setIfInBounds_toArray, List.set_cons_zero, List.set_cons_succ]
          refine AnyG.take 22 (v := ?vv62) rfl (by kernel_rfl) (by kernel_rfl) (by kernel_rfl) (by kernel_rfl) (fun _ _ _ h => h) hS ?hy62 (by rfl) ?rest62
          case hy62 =>
            intro w0 h0
            have c0 := h0.cell 8 rfl
            go_simp
            try with_reducible rfl
          simp only [Act.put, List.getElem_toArray, List.getElem_cons_zero, List.getElem_cons_succ, List.setIfInBounds_toArray, List.set_cons_zero, List.set_cons_succ]
          refine AnyG.take 23 (v := ?vv63) rfl (by kernel_rfl) (by kernel_rfl) (by kernel_rfl) (by kernel_rfl) (fun _ _ _ h => h) hS ?hy63 (by rfl) ?rest63
          case hy63 =>
            intro w0 h0
            go_simp
            try with_reducible rfl
          simp only [Act.put, List.getElem_toArray, List.getElem_cons_zero, List.getElem_cons_succ, List.setIfInBounds_toArray, List.set_cons_zero, List.set_cons_succ]
          refine AnyG.take 24 (v := ?vv64) rfl (by kernel_rfl) (by kernel_rfl) (by kernel_rfl) (by kernel_rfl) (fun _ _ _ h => h) hS ?hy64 (by rfl) ?rest64
          case hy64 =>
            intro w0 h0
            go_simp
            try with_reducible rfl
          simp only [Act.put, List.getElem_toArray, List.getElem_cons_zero, List.getElem_cons_succ, List.setIfInBounds_toArray, List.set_cons_zero, List.set_cons_succ]
          refine AnyG.take 25 (v := ?vv65) rfl (by kernel_rfl) (by kernel_rfl) (by kernel_rfl) (by kernel_rfl) (fun _ _ _ h => h) hS ?hy65 (by rfl) ?rest65
          case hy65 =>
            intro w0 h0
            go_simp
            try with_reducible rfl
          simp only [Act.put, List.getElem_toArray, List.getElem_cons_zero, List.getElem_cons_succ, List.setIfInBounds_toArray, List.set_cons_zero, List.set_cons_succ]
          refine AnyG.take 26 (v := ?vv66) rfl (by kernel_rfl) (by kernel_rfl) (by kernel_rfl) (by kernel_rfl) (fun _ _ _ h => h) hS ?hy66 (by rfl) ?rest66
          case hy66 =>
            intro w0 h0
            go_simp
            try with_reducible rfl
          simp only [Act.put, List.getElem_toArray, List.getElem_cons_zero, List.getElem_cons_succ, List.setIfInBounds_toArray, List.set_cons_zero, List.set_cons_succ]
          refine AnyG.take 27 (v := ?vv67) rfl (by kernel_rfl) (by kernel_rfl) (by kernel_rfl) (by kernel_rfl) (fun _ _ _ h => h) hS ?hy67 (by rfl) ?rest67
          case hy67 =>
            intro w0 h0
            go_simp
            try with_reducible rfl
          simp only [Act.put, List.getElem_toArray, List.getElem_cons_zero, List.getElem_cons_succ, List.setIfInBounds_toArray, List.set_cons_zero, List.set_cons_succ]
          refine AnyG.done (by kernel_rfl) ?_ _
          clear hS HN HGr
          go_wp2
          go_ret
          exact ⟨rfl, bV⟩
      · have s2 : ((S.length : Int) == (G : Int)) = false := by simp; omega
        obtain rfl : B = false := by
          rw [HB2.out]
          exact decide_eq_false fun h => by omega
        clear HB2 v kk s
        refine AnyG.take 0 (v := ?vv81) rfl (by kernel_rfl) (by kernel_rfl) (by kernel_rfl) (by kernel_rfl) (fun _ _ _ h => h) hS ?hy81 (by rfl) ?rest81
        case hy81 =>
          intro w0 h0
          go_simp
          try with_reducible rfl
        simp only [Act.put, List.getElem_toArray, List.getElem_cons_zero, List.getElem_cons_succ, List.setIfInBounds_toArray, List.set_cons_zero, List.set_cons_succ]
        refine AnyG.take 1 (v := ?vv82) rfl (by kernel_rfl) (by kernel_rfl) (by kernel_rfl) (by kernel_rfl) (fun _ _ _ h => h) hS ?hy82 (by rfl) ?rest82
        case hy82 =>
          intro w0 h0
          go_simp
          try with_reducible rfl
        simp only [Act.put, List.getElem_toArray, List.getElem_cons_zero, List.getElem_cons_succ, List.setIfInBounds_toArray, List.set_cons_zero, List.set_cons_succ]
        refine AnyG.take 2 (v := ?vv83) rfl (by kernel_rfl) (by kernel_rfl) (by kernel_rfl) (by kernel_rfl) (fun _ _ _ h => h) hS ?hy83 (by rfl) ?rest83
        case hy83 =>
          intro w0 h0
          have c0 := h0.cell 2 rfl
          go_simp
          try with_reducible rfl
        simp only [Act.put, List.getElem_toArray, List.getElem_cons_zero, List.getElem_cons_succ, List.setIfInBounds_toArray, List.set_cons_zero, List.set_cons_succ]
        refine AnyG.take 3 (v := ?vv84) rfl (by kernel_rfl) (by kernel_rfl) (by kernel_rfl) (by kernel_rfl) (fun _ _ _ h => h) hS ?hy84 (by rfl) ?rest84
        case hy84 =>
          intro w0 h0
          go_simp
          try with_reducible rfl
        simp only [Act.put, List.getElem_toArray, List.getElem_cons_zero, List.getElem_cons_succ, List.setIfInBounds_toArray, List.set_cons_zero, List.set_cons_succ]
        refine AnyG.take 4 (v := ?vv85) rfl (by kernel_rfl) (by kernel_rfl) (by kernel_rfl) (by kernel_rfl) (fun _ _ _ h => h) hS ?hy85 (by rfl) ?rest85
        case hy85 =>
          intro w0 h0
          go_simp
          try with_reducible rfl
        simp only [Act.put, List.getElem_toArray, List.getElem_cons_zero, List.getElem_cons_succ, List.setIfInBounds_toArray, List.set_cons_zero, List.set_cons_succ]
        refine AnyG.take 5 (v := ?vv86) rfl (by kernel_rfl) (by kernel_rfl) (by kernel_rfl) (by kernel_rfl) (fun _ _ _ h => h) hS ?hy86 (by rfl) ?rest86
        case hy86 =>
          intro w0 h0
          go_simp
          try with_reducible rfl
        simp only [Act.put, List.getElem_toArray, List.getElem_cons_zero, List.getElem_cons_succ, List.setIfInBounds_toArray, List.set_cons_zero, List.set_cons_succ]
        refine AnyG.take 6 (v := ?vv87) rfl (by kernel_rfl) (by kernel_rfl) (by kernel_rfl) (by kernel_rfl) (fun _ _ _ h => h) hS ?hy87 (by rfl) ?rest87
        case hy87 =>
          intro w0 h0
          go_simp
          try with_reducible rfl
        simp only [Act.put, List.getElem_toArray, List.getElem_cons_zero, List.getElem_cons_succ, List.setIfInBounds_toArray, List.set_cons_zero, List.set_cons_succ]
        refine AnyG.take 7 (v := ?vv88) rfl (by kernel_rfl) (by kernel_rfl) (by kernel_rfl) (by kernel_rfl) (fun _ _ _ h => h) hS ?hy88 (by rfl) ?rest88
        case hy88 =>
          intro w0 h0
          have c0 := h0.cell 1 rfl
          go_simp
          try with_reducible rfl
        simp only [Act.put, List.getElem_toArray, List.getElem_cons_zero, List.getElem_cons_succ, List.setIfInBounds_toArray, List.set_cons_zero, List.set_cons_succ]
        refine AnyG.take 8 (v := ?vv89) rfl (by kernel_rfl) (by kernel_rfl) (by kernel_rfl) (by kernel_rfl) (fun _ _ _ h => h) hS ?hy89 (by rfl) ?rest89
        case hy89 =>
          intro w0 h0
          go_simp
          try with_reducible rfl
        simp only [Act.put, List.getElem_toArray, List.getElem_cons_zero, List.getElem_cons_succ, List.setIfInBounds_toArray, List.set_cons_zero, List.set_cons_succ]
        refine AnyG.take 9 (v := ?vv90) rfl (by kernel_rfl) (by kernel_rfl) (by kernel_rfl) (by kernel_rfl) (fun _ _ _ h => h) hS ?hy90 (by rfl) ?rest90
        case hy90 =>
          intro w0 h0
          have c0 := h0.cell 0 rfl
          go_simp
          try with_reducible rfl
        simp only [Act.put, List.getElem_toArray, List.getElem_cons_zero, List.getElem_cons_succ, List.setIfInBounds_toArray, List.set_cons_zero, List.set_cons_succ]
        refine AnyG.one 10 (by kernel_rfl) rfl ?_
        intro K hK
        go_simp
        refine (HN.out _).mono ?_
        rintro e w4 ⟨rfl, rfl⟩
        refine hK.out _ _ (fun _ => hS) ?_
        clear hK K
        try simp only [Act.put, List.getElem_toArray, List.getElem_cons_zero, List.getElem_cons_succ, List.setIfInBounds_toArray, List.set_cons_zero, List.set_cons_succ]
        refine AnyG.take 11 (v := ?vv91) rfl (by kernel_rfl) (by kernel_rfl) (by kernel_rfl) (by kernel_rfl) (fun _ _ _ h => h) hS ?hy91 (by rfl) ?rest91
        case hy91 =>
          intro w0 h0
          go_simp
          try with_reducible rfl
        simp only [Act.put, List.getElem_toArray, List.getElem_cons_zero, List.getElem_cons_succ, List.setIfInBounds_toArray, List.set_cons_zero, List.set_cons_succ]
        refine AnyG.take 12 (v := ?vv92) rfl (by kernel_rfl) (by kernel_rfl) (by kernel_rfl) (by kernel_rfl) (fun _ _ _ h => h) hS ?hy92 (by rfl) ?rest92
        case hy92 =>
          intro w0 h0
          go_simp
          try with_reducible rfl
        simp only [Act.put, List.getElem_toArray, List.getElem_cons_zero, List.getElem_cons_succ, List.setIfInBounds_toArray, List.set_cons_zero, List.set_cons_succ]
        refine AnyG.take 13 (v := ?vv93) rfl (by kernel_rfl) (by kernel_rfl) (by kernel_rfl) (by kernel_rfl) (fun _ _ _ h => h) hS ?hy93 (by rfl) ?rest93
        case hy93 =>
          intro w0 h0
          go_simp
          try with_reducible rfl
        simp only [Act.put, List.getElem_toArray, List.getElem_cons_zero, List.getElem_cons_succ, List.setIfInBounds_toArray, List.set_cons_zero, List.set_cons_succ]
        refine AnyG.take 14 (v := ?vv94) rfl (by kernel_rfl) (by kernel_rfl) (by kernel_rfl) (by kernel_rfl) (fun _ _ _ h => h) hS ?hy94 (by rfl) ?rest94
        case hy94 =>
          intro w0 h0
          go_simp
          try with_reducible rfl
        simp only [Act.put, List.getElem_toArray, List.getElem_cons_zero, List.getElem_cons_succ, List.setIfInBounds_toArray, List.set_cons_zero, List.set_cons_succ]
        refine AnyG.take 15 (v := ?vv95) rfl (by kernel_rfl) (by kernel_rfl) (by kernel_rfl) (by kernel_rfl) (fun _ _ _ h => h) hS ?hy95 (by rfl) ?rest95
        case hy95 =>
          intro w0 h0
          have c0 := h0.cell 7 rfl
          go_simp
          try with_reducible rfl
        simp only [Act.put, List.getElem_toArray, List.getElem_cons_zero, List.getElem_cons_succ, List.setIfInBounds_toArray, List.set_cons_zero, List.set_cons_succ]
        refine AnyG.take 16 (v := ?vv96) rfl (by kernel_rfl) (by kernel_rfl) (by kernel_rfl) (by kernel_rfl) (fun _ _ _ h => h) hS ?hy96 (by rfl) ?rest96
        case hy96 =>
          intro w0 h0
          go_simp
          try with_reducible rfl
        simp only [Act.put, List.getElem_toArray, List.getElem_cons_zero, List.getElem_cons_succ, List.setIfInBounds_toArray, List.set_cons_zero, List.set_cons_succ]
        refine AnyG.take 17 (v := ?vv97) rfl (by kernel_rfl) (by kernel_rfl) (by kernel_rfl) (by kernel_rfl) (fun _ _ _ h => h) hS ?hy97 (by rfl) ?rest97
        case hy97 =>
          intro w0 h0
          go_simp
          try with_reducible rfl
        simp only [Act.put, List.getElem_toArray, List.getElem_cons_zero, List.getElem_cons_succ, List.setIfInBounds_toArray, List.set_cons_zero, List.set_cons_succ]
        refine AnyG.take 18 (v := ?vv98) rfl (by kernel_rfl) (by kernel_rfl) (by kernel_rfl) (by kernel_rfl) (fun _ _ _ h => h) hS ?hy98 (by rfl) ?rest98
        case hy98 =>
          intro w0 h0
          go_simp
          try with_reducible rfl
        simp only [Act.put, List.getElem_toArray, List.getElem_cons_zero, List.getElem_cons_succ, List.setIfInBounds_toArray, List.set_cons_zero, List.set_cons_succ]
        refine AnyG.take 19 (v := ?vv99) rfl (by kernel_rfl) (by kernel_rfl) (by kernel_rfl) (by kernel_rfl) (fun _ _ _ h => h) hS ?hy99 (by rfl) ?rest99
        case hy99 =>
          intro w0 h0
          go_simp
          try with_reducible rfl
        simp only [Act.put, List.getElem_toArray, List.getElem_cons_zero, List.getElem_cons_succ, List.setIfInBounds_toArray, List.set_cons_zero, List.set_cons_succ]
        refine AnyG.take 20 (v := ?vv100) rfl (by kernel_rfl) (by kernel_rfl) (by kernel_rfl) (by kernel_rfl) (fun _ _ _ h => h) hS ?hy100 (by rfl) ?rest100
        case hy100 =>
          intro w0 h0
          go_simp
          try with_reducible rfl
        simp only [Act.put, List.getElem_toArray, List.getElem_cons_zero, List.getElem_cons_succ, List.setIfInBounds_toArray, List.set_cons_zero, List.set_cons_succ]
        refine AnyG.skip 21 rfl (by kernel_rfl) (by kernel_rfl) (by kernel_rfl) (by kernel_rfl) (fun _ _ _ h => h) hS (by rfl) ?_
        simp only [Act.put, List.getElem_toArray, List.getElem_cons_zero, List.getElem_cons_succ, List.setIfInBounds_toArray, List.set_cons_zero, List.set_cons_succ]
        refine AnyG.skip 22 rfl (by kernel_rfl) (by kernel_rfl) (by kernel_rfl) (by kernel_rfl) (fun _ _ _ h => h) hS (by rfl) ?_
        simp only [Act.put, List.getElem_toArray, List.getElem_cons_zero, List.getElem_cons_succ, List.setIfInBounds_toArray, List.set_cons_zero, List.set_cons_succ]
        refine AnyG.skip 23 rfl (by kernel_rfl) (by kernel_rfl) (by kernel_rfl) (by kernel_rfl) (fun _ _ _ h => h) hS (by rfl) ?_
        simp only [Act.put, List.getElem_toArray, List.getElem_cons_zero, List.getElem_cons_succ, List.setIfInBounds_toArray, List.set_cons_zero, List.set_cons_succ]
        refine AnyG.skip 24 rfl (by kernel_rfl) (by kernel_rfl) (by kernel_rfl) (by kernel_rfl) (fun _ _ _ h => h) hS (by rfl) ?_
        simp only [Act.put, List.getElem_toArray, List.getElem_cons_zero, List.getElem_cons_succ, List.setIfInBounds_toArray, List.set_cons_zero, List.set_cons_succ]
        refine AnyG.skip 25 rfl (by kernel_rfl) (by kernel_rfl) (by kernel_rfl) (by kernel_rfl) (fun _ _ _ h => h) hS (by rfl) ?_
        simp only [Act.put, List.getElem_toArray, List.getElem_cons_zero, List.getElem_cons_succ, List.setIfInBounds_toArray, List.set_cons_zero, List.set_cons_succ]
        refine AnyG.take 26 (v := ?vv101) rfl (by kernel_rfl) (by kernel_rfl) (by kernel_rfl) (by kernel_rfl) (fun _ _ _ h => h) hS ?hy101 (by rfl) ?rest101
        case hy101 =>
          intro w0 h0
          go_simp
          try with_reducible rfl
        simp only [Act.put, List.getElem_toArray, List.getElem_cons_zero, List.getElem_cons_succ, List.setIfInBounds_toArray, List.set_cons_zero, List.set_cons_succ]
        refine AnyG.take 27 (v := ?vv102) rfl (by kernel_rfl) (by kernel_rfl) (by kernel_rfl) (by kernel_rfl) (fun _ _ _ h => h) hS ?hy102 (by rfl) ?rest102
        case hy102 =>
          intro w0 h0
          go_simp
          try with_reducible rfl
        simp only [Act.put, List.getElem_toArray, List.getElem_cons_zero, List.getElem_cons_succ, List.setIfInBounds_toArray, List.set_cons_zero, List.set_cons_succ]
        refine AnyG.done (by kernel_rfl) ?_ _
        clear hS HN HGr
        go_wp2
        go_ret
        exact ⟨rfl, bV⟩
    · have kk2 : (k == (nbm : Int)) = false := by simpa using kk
      obtain rfl : B = false := by
        rw [HB2.out]
        exact decide_eq_false fun h => by omega
      clear HB2 v kk
      refine AnyG.take 0 (v := ?vv121) rfl (by kernel_rfl) (by kernel_rfl) (by kernel_rfl) (by kernel_rfl) (fun _ _ _ h => h) hS ?hy121 (by rfl) ?rest121
      case hy121 =>
        intro w0 h0
        go_simp
        try with_reducible rfl
      simp only [Act.put, List.getElem_toArray, List.getElem_cons_zero, List.getElem_cons_succ, List.setIfInBounds_toArray, List.set_cons_zero, List.set_cons_succ]
      refine AnyG.take 1 (v := ?vv122) rfl (by kernel_rfl) (by kernel_rfl) (by kernel_rfl) (by kernel_rfl) (fun _ _ _ h => h) hS ?hy122 (by rfl) ?rest122
      case hy122 =>
        intro w0 h0
        go_simp
        try with_reducible rfl
      simp only [Act.put, List.getElem_toArray, List.getElem_cons_zero, List.getElem_cons_succ, List.setIfInBounds_toArray, List.set_cons_zero, List.set_cons_succ]
      refine AnyG.take 2 (v := ?vv123) rfl (by kernel_rfl) (by kernel_rfl) (by kernel_rfl) (by kernel_rfl) (fun _ _ _ h => h) hS ?hy123 (by rfl) ?rest123
      case hy123 =>
        intro w0 h0
        have c0 := h0.cell 2 rfl
        go_simp
        try with_reducible rfl
      simp only [Act.put, List.getElem_toArray, List.getElem_cons_zero, List.getElem_cons_succ, List.setIfInBounds_toArray, List.set_cons_zero, List.set_cons_succ]
      refine AnyG.take 3 (v := ?vv124) rfl (by kernel_rfl) (by kernel_rfl) (by kernel_rfl) (by kernel_rfl) (fun _ _ _ h => h) hS ?hy124 (by rfl) ?rest124
      case hy124 =>
        intro w0 h0
        go_simp
        try with_reducible rfl
      simp only [Act.put, List.getElem_toArray, List.getElem_cons_zero, List.getElem_cons_succ, List.setIfInBounds_toArray, List.set_cons_zero, List.set_cons_succ]
      refine AnyG.take 4 (v := ?vv125) rfl (by kernel_rfl) (by kernel_rfl) (by kernel_rfl) (by kernel_rfl) (fun _ _ _ h => h) hS ?hy125 (by rfl) ?rest125
      case hy125 =>
        intro w0 h0
        go_simp
        try with_reducible rfl
      simp only [Act.put, List.getElem_toArray, List.getElem_cons_zero, List.getElem_cons_succ, List.setIfInBounds_toArray, List.set_cons_zero, List.set_cons_succ]
      refine AnyG.take 5 (v := ?vv126) rfl (by kernel_rfl) (by kernel_rfl) (by kernel_rfl) (by kernel_rfl) (fun _ _ _ h => h) hS ?hy126 (by rfl) ?rest126
      case hy126 =>
        intro w0 h0
        go_simp
        try with_reducible rfl
      simp only [Act.put, List.getElem_toArray, List.getElem_cons_zero, List.getElem_cons_succ, List.setIfInBounds_toArray, List.set_cons_zero, List.set_cons_succ]
      refine AnyG.take 6 (v := ?vv127) rfl (by kernel_rfl) (by kernel_rfl) (by kernel_rfl) (by kernel_rfl) (fun _ _ _ h => h) hS ?hy127 (by rfl) ?rest127
      case hy127 =>
        intro w0 h0
        go_simp
        try with_reducible rfl
      simp only [Act.put, List.getElem_toArray, List.getElem_cons_zero, List.getElem_cons_succ, List.setIfInBounds_toArray, List.set_cons_zero, List.set_cons_succ]
      refine AnyG.take 7 (v := ?vv128) rfl (by kernel_rfl) (by kernel_rfl) (by kernel_rfl) (by kernel_rfl) (fun _ _ _ h => h) hS ?hy128 (by rfl) ?rest128
      case hy128 =>
        intro w0 h0
        have c0 := h0.cell 1 rfl
        go_simp
        try with_reducible rfl
      simp only [Act.put, List.getElem_toArray, List.getElem_cons_zero, List.getElem_cons_succ, List.setIfInBounds_toArray, List.set_cons_zero, List.set_cons_succ]
      refine AnyG.take 8 (v := ?vv129) rfl (by kernel_rfl) (by kernel_rfl) (by kernel_rfl) (by kernel_rfl) (fun _ _ _ h => h) hS ?hy129 (by rfl) ?rest129
      case hy129 =>
        intro w0 h0
        go_simp
        try with_reducible rfl
      simp only [Act.put, List.getElem_toArray, List.getElem_cons_zero, List.getElem_cons_succ, List.setIfInBounds_toArray, List.set_cons_zero, List.set_cons_succ]
      refine AnyG.take 9 (v := ?vv130) rfl (by kernel_rfl) (by kernel_rfl) (by kernel_rfl) (by kernel_rfl) (fun _ _ _ h => h) hS ?hy130 (by rfl) ?rest130
      case hy130 =>
        intro w0 h0
        have c0 := h0.cell 0 rfl
        go_simp
        try with_reducible rfl
      simp only [Act.put, List.getElem_toArray, List.getElem_cons_zero, List.getElem_cons_succ, List.setIfInBounds_toArray, List.set_cons_zero, List.set_cons_succ]
      refine AnyG.one 10 (by kernel_rfl) rfl ?_
      intro K hK
      go_simp
      refine (HN.out _).mono ?_
      rintro e w4 ⟨rfl, rfl⟩
      refine hK.out _ _ (fun _ => hS) ?_
      clear hK K
      try simp only [Act.put, List.getElem_toArray, List.getElem_cons_zero, List.getElem_cons_succ, List.setIfInBounds_toArray, List.set_cons_zero, List.set_cons_succ]
      refine AnyG.take 11 (v := ?vv131) rfl (by kernel_rfl) (by kernel_rfl) (by kernel_rfl) (by kernel_rfl) (fun _ _ _ h => h) hS ?hy131 (by rfl) ?rest131
      case hy131 =>
        intro w0 h0
        go_simp
        try with_reducible rfl
      simp only [Act.put, List.getElem_toArray, List.getElem_cons_zero, List.getElem_cons_succ, List.setIfInBounds_toArray, List.set_cons_zero, List.set_cons_succ]
      refine AnyG.take 12 (v := ?vv132) rfl (by kernel_rfl) (by kernel_rfl) (by kernel_rfl) (by kernel_rfl) (fun _ _ _ h => h) hS ?hy132 (by rfl) ?rest132
      case hy132 =>
        intro w0 h0
        go_simp
        try with_reducible rfl
      simp only [Act.put, List.getElem_toArray, List.getElem_cons_zero, List.getElem_cons_succ, List.setIfInBounds_toArray, List.set_cons_zero, List.set_cons_succ]
      refine AnyG.take 13 (v := ?vv133) rfl (by kernel_rfl) (by kernel_rfl) (by kernel_rfl) (by kernel_rfl) (fun _ _ _ h => h) hS ?hy133 (by rfl) ?rest133
      case hy133 =>
        intro w0 h0
        go_simp
        try with_reducible rfl
      simp only [Act.put, List.getElem_toArray, List.getElem_cons_zero, List.getElem_cons_succ, List.setIfInBounds_toArray, List.set_cons_zero, List.set_cons_succ]
      refine AnyG.skip 14 rfl (by kernel_rfl) (by kernel_rfl) (by kernel_rfl) (by kernel_rfl) (fun _ _ _ h => h) hS (by rfl) ?_
      simp only [Act.put, List.getElem_toArray, List.getElem_cons_zero, List.getElem_cons_succ, List.setIfInBounds_toArray, List.set_cons_zero, List.set_cons_succ]
      refine AnyG.skip 15 rfl (by kernel_rfl) (by kernel_rfl) (by kernel_rfl) (by kernel_rfl) (fun _ _ _ h => h) hS (by rfl) ?_
      simp only [Act.put, List.getElem_toArray, List.getElem_cons_zero, List.getElem_cons_succ, List.setIfInBounds_toArray, List.set_cons_zero, List.set_cons_succ]
      refine AnyG.skip 16 rfl (by kernel_rfl) (by kernel_rfl) (by kernel_rfl) (by kernel_rfl) (fun _ _ _ h => h) hS (by rfl) ?_
      simp only [Act.put, List.getElem_toArray, List.getElem_cons_zero, List.getElem_cons_succ, List.setIfInBounds_toArray, List.set_cons_zero, List.set_cons_succ]
      refine AnyG.skip 17 rfl (by kernel_rfl) (by kernel_rfl) (by kernel_rfl) (by kernel_rfl) (fun _ _ _ h => h) hS (by rfl) ?_
      simp only [Act.put, List.getElem_toArray, List.getElem_cons_zero, List.getElem_cons_succ, List.setIfInBounds_toArray, List.set_cons_zero, List.set_cons_succ]
      refine AnyG.skip 18 rfl (by kernel_rfl) (by kernel_rfl) (by kernel_rfl) (by kernel_rfl) (fun _ _ _ h => h) hS (by rfl) ?_
      simp only [Act.put, List.getElem_toArray, List.getElem_cons_zero, List.getElem_cons_succ, List.setIfInBounds_toArray, List.set_cons_zero, List.set_cons_succ]
      refine AnyG.take 19 (v := ?vv134) rfl (by kernel_rfl) (by kernel_rfl) (by kernel_rfl) (by kernel_rfl) (fun _ _ _ h => h) hS ?hy134 (by rfl) ?rest134
      case hy134 =>
        intro w0 h0
        go_simp
        try with_reducible rfl
      simp only [Act.put, List.getElem_toArray, List.getElem_cons_zero, List.getElem_cons_succ, List.setIfInBounds_toArray, List.set_cons_zero, List.set_cons_succ]
      refine AnyG.take 20 (v := ?vv135) rfl (by kernel_rfl) (by kernel_rfl) (by kernel_rfl) (by kernel_rfl) (fun _ _ _ h => h) hS ?hy135 (by rfl) ?rest135
      case hy135 =>
        intro w0 h0
        go_simp
        try with_reducible rfl
      simp only [Act.put, List.getElem_toArray, List.getElem_cons_zero, List.getElem_cons_succ, List.setIfInBounds_toArray, List.set_cons_zero, List.set_cons_succ]
      refine AnyG.skip 21 rfl (by kernel_rfl) (by kernel_rfl) (by kernel_rfl) (by kernel_rfl) (fun _ _ _ h => h) hS (by rfl) ?_
      simp only [Act.put, List.getElem_toArray, List.getElem_cons_zero, List.getElem_cons_succ, List.setIfInBounds_toArray, List.set_cons_zero, List.set_cons_succ]
      refine AnyG.skip 22 rfl (by kernel_rfl) (by kernel_rfl) (by kernel_rfl) (by kernel_rfl) (fun _ _ _ h => h) hS (by rfl) ?_
      simp only [Act.put, List.getElem_toArray, List.getElem_cons_zero, List.getElem_cons_succ, List.setIfInBounds_toArray, List.set_cons_zero, List.set_cons_succ]
      refine AnyG.skip 23 rfl (by kernel_rfl) (by kernel_rfl) (by kernel_rfl) (by kernel_rfl) (fun _ _ _ h => h) hS (by rfl) ?_
      simp only [Act.put, List.getElem_toArray, List.getElem_cons_zero, List.getElem_cons_succ, List.setIfInBounds_toArray, List.set_cons_zero, List.set_cons_succ]
      refine AnyG.skip 24 rfl (by kernel_rfl) (by kernel_rfl) (by kernel_rfl) (by kernel_rfl) (fun _ _ _ h => h) hS (by rfl) ?_
      simp only [Act.put, List.getElem_toArray, List.getElem_cons_zero, List.getElem_cons_succ, List.setIfInBounds_toArray, List.set_cons_zero, List.set_cons_succ]
      refine AnyG.skip 25 rfl (by kernel_rfl) (by kernel_rfl) (by kernel_rfl) (by kernel_rfl) (fun _ _ _ h => h) hS (by rfl) ?_
      simp only [Act.put, List.getElem_toArray, List.getElem_cons_zero, List.getElem_cons_succ, List.setIfInBounds_toArray, List.set_cons_zero, List.set_cons_succ]
      refine AnyG.take 26 (v := ?vv136) rfl (by kernel_rfl) (by kernel_rfl) (by kernel_rfl) (by kernel_rfl) (fun _ _ _ h => h) hS ?hy136 (by rfl) ?rest136
      case hy136 =>
        intro w0 h0
        go_simp
        try with_reducible rfl
      simp only [Act.put, List.getElem_toArray, List.getElem_cons_zero, List.getElem_cons_succ, List.setIfInBounds_toArray, List.set_cons_zero, List.set_cons_succ]
      refine AnyG.take 27 (v := ?vv137) rfl (by kernel_rfl) (by kernel_rfl) (by kernel_rfl) (by kernel_rfl) (fun _ _ _ h => h) hS ?hy137 (by rfl) ?rest137
      case hy137 =>
        intro w0 h0
        go_simp
        try with_reducible rfl
      simp only [Act.put, List.getElem_toArray, List.getElem_cons_zero, List.getElem_cons_succ, List.setIfInBounds_toArray, List.set_cons_zero, List.set_cons_succ]
      refine AnyG.done (by kernel_rfl) ?_ _
      clear hS HN HGr
      go_wp2
      go_ret
      exact ⟨rfl, bV⟩
  · have v2 : (V == 4) = false := by simpa using v
    obtain rfl : B = false := by
      rw [HB2.out]
      exact decide_eq_false fun h => by omega
    clear HB2 v
    refine AnyG.take 0 (v := ?vv161) rfl (by kernel_rfl) (by kernel_rfl) (by kernel_rfl) (by kernel_rfl) (fun _ _ _ h => h) hS ?hy161 (by rfl) ?rest161
    case hy161 =>
      intro w0 h0
      go_simp
      try with_reducible rfl
    simp only [Act.put, List.getElem_toArray, List.getElem_cons_zero, List.getElem_cons_succ, List.setIfInBounds_toArray, List.set_cons_zero, List.set_cons_succ]
    refine AnyG.take 1 (v := ?vv162) rfl (by kernel_rfl) (by kernel_rfl) (by kernel_rfl) (by kernel_rfl) (fun _ _ _ h => h) hS ?hy162 (by rfl) ?rest162
    case hy162 =>
      intro w0 h0
      go_simp
      try with_reducible rfl
    simp only [Act.put, List.getElem_toArray, List.getElem_cons_zero, List.getElem_cons_succ, List.setIfInBounds_toArray, List.set_cons_zero, List.set_cons_succ]
    refine AnyG.take 2 (v := ?vv163) rfl (by kernel_rfl) (by kernel_rfl) (by kernel_rfl) (by kernel_rfl) (fun _ _ _ h => h) hS ?hy163 (by rfl) ?rest163
    case hy163 =>
      intro w0 h0
      have c0 := h0.cell 2 rfl
      go_simp
      try with_reducible rfl
    simp only [Act.put, List.getElem_toArray, List.getElem_cons_zero, List.getElem_cons_succ, List.setIfInBounds_toArray, List.set_cons_zero, List.set_cons_succ]
    refine AnyG.take 3 (v := ?vv164) rfl (by kernel_rfl) (by kernel_rfl) (by kernel_rfl) (by kernel_rfl) (fun _ _ _ h => h) hS ?hy164 (by rfl) ?rest164
    case hy164 =>
      intro w0 h0
      go_simp
      try with_reducible rfl
    simp only [Act.put, List.getElem_toArray, List.getElem_cons_zero, List.getElem_cons_succ, List.setIfInBounds_toArray, List.set_cons_zero, List.set_cons_succ]
    refine AnyG.take 4 (v := ?vv165) rfl (by kernel_rfl) (by kernel_rfl) (by kernel_rfl) (by kernel_rfl) (fun _ _ _ h => h) hS ?hy165 (by rfl) ?rest165
    case hy165 =>
      intro w0 h0
      go_simp
      try with_reducible rfl
    simp only [Act.put, List.getElem_toArray, List.getElem_cons_zero, List.getElem_cons_succ, List.setIfInBounds_toArray, List.set_cons_zero, List.set_cons_succ]
    refine AnyG.skip 5 rfl (by kernel_rfl) (by kernel_rfl) (by kernel_rfl) (by kernel_rfl) (fun _ _ _ h => h) hS (by rfl) ?_
    simp only [Act.put, List.getElem_toArray, List.getElem_cons_zero, List.getElem_cons_succ, List.setIfInBounds_toArray, List.set_cons_zero, List.set_cons_succ]
    refine AnyG.skip 6 rfl (by kernel_rfl) (by kernel_rfl) (by kernel_rfl) (by kernel_rfl) (fun _ _ _ h => h) hS (by rfl) ?_
    simp only [Act.put, List.getElem_toArray, List.getElem_cons_zero, List.getElem_cons_succ, List.setIfInBounds_toArray, List.set_cons_zero, List.set_cons_succ]
    refine AnyG.skip 7 rfl (by kernel_rfl) (by kernel_rfl) (by kernel_rfl) (by kernel_rfl) (fun _ _ _ h => h) hS (by rfl) ?_
    simp only [Act.put, List.getElem_toArray, List.getElem_cons_zero, List.getElem_cons_succ, List.setIfInBounds_toArray, List.set_cons_zero, List.set_cons_succ]
    refine AnyG.skip 8 rfl (by kernel_rfl) (by kernel_rfl) (by kernel_rfl) (by kernel_rfl) (fun _ _ _ h => h) hS (by rfl) ?_
    simp only [Act.put, List.getElem_toArray, List.getElem_cons_zero, List.getElem_cons_succ, List.setIfInBounds_toArray, List.set_cons_zero, List.set_cons_succ]
    refine AnyG.skip 9 rfl (by kernel_rfl) (by kernel_rfl) (by kernel_rfl) (by kernel_rfl) (fun _ _ _ h => h) hS (by rfl) ?_
    simp only [Act.put, List.getElem_toArray, List.getElem_cons_zero, List.getElem_cons_succ, List.setIfInBounds_toArray, List.set_cons_zero, List.set_cons_succ]
    refine AnyG.skip 10 rfl (by kernel_rfl) (by kernel_rfl) (by kernel_rfl) (by kernel_rfl) (fun _ _ _ h => h) hS (by rfl) ?_
    simp only [Act.put, List.getElem_toArray, List.getElem_cons_zero, List.getElem_cons_succ, List.setIfInBounds_toArray, List.set_cons_zero, List.set_cons_succ]
    refine AnyG.skip 11 rfl (by kernel_rfl) (by kernel_rfl) (by kernel_rfl) (by kernel_rfl) (fun _ _ _ h => h) hS (by rfl) ?_
    simp only [Act.put, List.getElem_toArray, List.getElem_cons_zero, List.getElem_cons_succ, List.setIfInBounds_toArray, List.set_cons_zero, List.set_cons_succ]
    refine AnyG.take 12 (v := ?vv166) rfl (by kernel_rfl) (by kernel_rfl) (by kernel_rfl) (by kernel_rfl) (fun _ _ _ h => h) hS ?hy166 (by rfl) ?rest166
    case hy166 =>
      intro w0 h0
      go_simp
      try with_reducible rfl
    simp only [Act.put, List.getElem_toArray, List.getElem_cons_zero, List.getElem_cons_succ, List.setIfInBounds_toArray, List.set_cons_zero, List.set_cons_succ]
    refine AnyG.take 13 (v := ?vv167) rfl (by kernel_rfl) (by kernel_rfl) (by kernel_rfl) (by kernel_rfl) (fun _ _ _ h => h) hS ?hy167 (by rfl) ?rest167
    case hy167 =>
      intro w0 h0
      go_simp
      try with_reducible rfl
    simp only [Act.put, List.getElem_toArray, List.getElem_cons_zero, List.getElem_cons_succ, List.setIfInBounds_toArray, List.set_cons_zero, List.set_cons_succ]
    refine AnyG.skip 14 rfl (by kernel_rfl) (by kernel_rfl) (by kernel_rfl) (by kernel_rfl) (fun _ _ _ h => h) hS (by rfl) ?_
    simp only [Act.put, List.getElem_toArray, List.getElem_cons_zero, List.getElem_cons_succ, List.setIfInBounds_toArray, List.set_cons_zero, List.set_cons_succ]
    refine AnyG.skip 15 rfl (by kernel_rfl) (by kernel_rfl) (by kernel_rfl) (by kernel_rfl) (fun _ _ _ h => h) hS (by rfl) ?_
    simp only [Act.put, List.getElem_toArray, List.getElem_cons_zero, List.getElem_cons_succ, List.setIfInBounds_toArray, List.set_cons_zero, List.set_cons_succ]
    refine AnyG.skip 16 rfl (by kernel_rfl) (by kernel_rfl) (by kernel_rfl) (by kernel_rfl) (fun _ _ _ h => h) hS (by rfl) ?_
    simp only [Act.put, List.getElem_toArray, List.getElem_cons_zero, List.getElem_cons_succ, List.setIfInBounds_toArray, List.set_cons_zero, List.set_cons_succ]
    refine AnyG.skip 17 rfl (by kernel_rfl) (by kernel_rfl) (by kernel_rfl) (by kernel_rfl) (fun _ _ _ h => h) hS (by rfl) ?_
    simp only [Act.put, List.getElem_toArray, List.getElem_cons_zero, List.getElem_cons_succ, List.setIfInBounds_toArray, List.set_cons_zero, List.set_cons_succ]
    refine AnyG.skip 18 rfl (by kernel_rfl) (by kernel_rfl) (by kernel_rfl) (by kernel_rfl) (fun _ _ _ h => h) hS (by rfl) ?_
    simp only [Act.put, List.getElem_toArray, List.getElem_cons_zero, List.getElem_cons_succ, List.setIfInBounds_toArray, List.set_cons_zero, List.set_cons_succ]
    refine AnyG.take 19 (v := ?vv168) rfl (by kernel_rfl) (by kernel_rfl) (by kernel_rfl) (by kernel_rfl) (fun _ _ _ h => h) hS ?hy168 (by rfl) ?rest168
    case hy168 =>
      intro w0 h0
      go_simp
      try with_reducible rfl
    simp only [Act.put, List.getElem_toArray, List.getElem_cons_zero, List.getElem_cons_succ, List.setIfInBounds_toArray, List.set_cons_zero, List.set_cons_succ]
    refine AnyG.take 20 (v := ?vv169) rfl (by kernel_rfl) (by kernel_rfl) (by kernel_rfl) (by kernel_rfl) (fun _ _ _ h => h) hS ?hy169 (by rfl) ?rest169
    case hy169 =>
      intro w0 h0
      go_simp
      try with_reducible rfl
    simp only [Act.put, List.getElem_toArray, List.getElem_cons_zero, List.getElem_cons_succ, List.setIfInBounds_toArray, List.set_cons_zero, List.set_cons_succ]
    refine AnyG.skip 21 rfl (by kernel_rfl) (by kernel_rfl) (by kernel_rfl) (by kernel_rfl) (fun _ _ _ h => h) hS (by rfl) ?_
    simp only [Act.put, List.getElem_toArray, List.getElem_cons_zero, List.getElem_cons_succ, List.setIfInBounds_toArray, List.set_cons_zero, List.set_cons_succ]
    refine AnyG.skip 22 rfl (by kernel_rfl) (by kernel_rfl) (by kernel_rfl) (by kernel_rfl) (fun _ _ _ h => h) hS (by rfl) ?_
    simp only [Act.put, List.getElem_toArray, List.getElem_cons_zero, List.getElem_cons_succ, List.setIfInBounds_toArray, List.set_cons_zero, List.set_cons_succ]
    refine AnyG.skip 23 rfl (by kernel_rfl) (by kernel_rfl) (by kernel_rfl) (by kernel_rfl) (fun _ _ _ h => h) hS (by rfl) ?_
    simp only [Act.put, List.getElem_toArray, List.getElem_cons_zero, List.getElem_cons_succ, List.setIfInBounds_toArray, List.set_cons_zero, List.set_cons_succ]
    refine AnyG.skip 24 rfl (by kernel_rfl) (by kernel_rfl) (by kernel_rfl) (by kernel_rfl) (fun _ _ _ h => h) hS (by rfl) ?_
    simp only [Act.put, List.getElem_toArray, List.getElem_cons_zero, List.getElem_cons_succ, List.setIfInBounds_toArray, List.set_cons_zero, List.set_cons_succ]
    refine AnyG.skip 25 rfl (by kernel_rfl) (by kernel_rfl) (by kernel_rfl) (by kernel_rfl) (fun _ _ _ h => h) hS (by rfl) ?_
    simp only [Act.put, List.getElem_toArray, List.getElem_cons_zero, List.getElem_cons_succ, List.setIfInBounds_toArray, List.set_cons_zero, List.set_cons_succ]
    refine AnyG.take 26 (v := ?vv170) rfl (by kernel_rfl) (by kernel_rfl) (by kernel_rfl) (by kernel_rfl) (fun _ _ _ h => h) hS ?hy170 (by rfl) ?rest170
    case hy170 =>
      intro w0 h0
      go_simp
      try with_reducible rfl
    simp only [Act.put, List.getElem_toArray, List.getElem_cons_zero, List.getElem_cons_succ, List.setIfInBounds_toArray, List.set_cons_zero, List.set_cons_succ]
    refine AnyG.take 27 (v := ?vv171) rfl (by kernel_rfl) (by kernel_rfl) (by kernel_rfl) (by kernel_rfl) (fun _ _ _ h => h) hS ?hy171 (by rfl) ?rest171
    case hy171 =>
      intro w0 h0
      go_simp
      try with_reducible rfl
    simp only [Act.put, List.getElem_toArray, List.getElem_cons_zero, List.getElem_cons_succ, List.setIfInBounds_toArray, List.set_cons_zero, List.set_cons_succ]
    refine AnyG.done (by kernel_rfl) ?_ _
    clear hS HN HGr
    go_wp2
    go_ret
    exact ⟨rfl, bV⟩
end Go.Proofs.YtmphbnmcbonmmaaDoor
