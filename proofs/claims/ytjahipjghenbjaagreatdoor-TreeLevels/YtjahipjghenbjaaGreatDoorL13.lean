/-
  The contracts of the program's noPlain, noRrr, noFano; a part of a struct out of its block. A row in blocks that is built, right; an argument of the type api.Rrr, opened. The contract of the program's Bits.
-/
import Derived.Test.YtjahipjghenbjaaGreatDoorL12
import Derived.Deep.MidRow
import Derived.Test.YtjahipjghenbjaaGreatDoorL09
import Derived.Test.YtjahipjghenbjaaGreatDoorL01
import Derived.Test.YtjahipjghenbjaaGreatDoorRows
import Derived.ChangeSame
import Derived.Test.YtjahipjghenbjaaGreatDoorL07
set_option linter.unusedVariables false
set_option linter.unusedSimpArgs false
set_option maxRecDepth 100000
set_option maxHeartbeats 16000000
namespace Go.Proofs.YtjahipjghenbjaaGreatDoor
open Go.RowKit Num Bit
theorem load_part {ops : Array Oper} {rest : List Oper} {d : Option Tmp} {ty T : TypeId} {ps : String} {af : Array Edge} {gd : Option (Nat × Bool)} {a : Act} {w : World} {Q : Exit → Act → World → Prop} {x : Operand}
  (g o : Nat) (cs : List Value) {fs : Array Field} (hwn : Region.wanted (⟨d, .load T x, ty, ps, af, gd⟩ : Oper) (yielded ops a.tmps) = true) (hx : a.eval x = .pointer (some ⟨g, o, none⟩)) (hc : w.rangeAt g o cs) (hu : Tryz.prog.underlying T = some (.struct fs)) (hi : (Tryz.prog.info? T).map (·.size) = some cs.length)
  (h : wpList Tryz.prog ops Q rest (a.put d (.agg cs.toArray)) w) :
  wpList Tryz.prog ops Q (⟨d, .load T x, ty, ps, af, gd⟩ :: rest) a w :=
 wpList_step fun K hK => by
  rw [if_pos hwn]
  exact wp_load_mid T x rfl g o hx cs _ hc hu rfl hi (hK _ _ h)
theorem Cel.part {w : World} {b : Nat} {T : TypeId} (pre cs post : List Value) (h : Cel w b (pre ++ (cs ++ post)) T) : w.rangeAt b pre.length cs := fun j v hv => by
 refine h.cell (pre.length + j) ?_
 have hj : j < cs.length := (List.getElem?_eq_some_iff.1 hv).1
 rw [List.getElem?_append_right (by omega), List.getElem?_append_left (by omega), show pre.length + j - pre.length = j by omega]
 exact hv
theorem rws1 (w : World) (N : Int) (ao : Option Addr) (n cap : Nat) (T : TypeId) : Rws (w.alloc (.cells #[.int .i64 N, .slice ao n cap] T)) w.heap.size [(N, n)] := by
 have hc := Cel.new w [.int .i64 N, .slice ao n cap] T
 refine ⟨hc.lt, fun i hi => ?_⟩
 have hi : i < 1 := hi
 obtain rfl : i = 0 := by omega
 exact ⟨hc.cell 0 rfl, ao, cap, hc.cell 1 rfl⟩
theorem rws2 (w : World) (N : Int) (ao : Option Addr) (n cap : Nat) (M : Int) (bo : Option Addr) (m dap : Nat) (T : TypeId) : Rws (w.alloc (.cells #[.int .i64 N, .slice ao n cap, .int .i64 M, .slice bo m dap] T)) w.heap.size [(N, n), (M, m)] := by
 have hc := Cel.new w [.int .i64 N, .slice ao n cap, .int .i64 M, .slice bo m dap] T
 refine ⟨hc.lt, fun i hi => ?_⟩
 have hi : i < 2 := hi
 have : i = 0 ∨ i = 1 := by omega
 rcases this with rfl | rfl
 ·exact ⟨hc.cell 0 rfl, ao, cap, hc.cell 1 rfl⟩
 ·exact ⟨hc.cell 2 rfl, bo, dap, hc.cell 3 rfl⟩
theorem noPlain_c (cs : List Value) (a : RA7) (w : World) (h : KArg7 w cs a) :
  Calls Tryz.prog 116 #[.agg cs.toArray] w fun e w' => e = .returned (.bool (z7 a)) ∧ Below w.heap.size w w' := by
 obtain ⟨ao, cap, so, sc, tO, tc, rfl, -⟩ := h
 obtain ⟨N, xs, S, T⟩ := a
 dsimp only
 obtain ⟨Z, hZ⟩ : ∃ Z, Hid (Z = z7 ⟨N, xs, S, T⟩) := ⟨_, rfl⟩
 rw [← hZ.out]
 obtain ⟨W, hW⟩ : ∃ W, W = (w.alloc (.cells #[.int .i64 N, .slice ao xs.length cap, .slice so S.length sc, .slice tO T.length tc] 37)).alloc (.cells #[.int .i64 N, .slice ao xs.length cap] 33) := ⟨_, rfl⟩
 have bW := yb2 hW
 have R : Hid (∀ w0 : World, w0 = W → Calls Tryz.prog 178 #[.slice (some ⟨w.heap.size + 1, 0, none⟩) 1 1] w0 fun e w' => e = .returned (.bool (norw [(N, xs.length)])) ∧ Below w0.heap.size w0 w') := fun w0 g => by
  subst g
  refine noRows_c _ 1 [(N, xs.length)] w0 ?_ (by simp)
  have hx := rws1 (w.alloc (.cells #[.int .i64 N, .slice ao xs.length cap, .slice so S.length sc, .slice tO T.length tc] 37)) N ao xs.length cap 33
  rw [show (w.alloc (.cells #[.int .i64 N, .slice ao xs.length cap, .slice so S.length sc, .slice tO T.length tc] 37)).heap.size = w.heap.size + 1 by simp] at hx
  rw [hW]
  exact hx
 subst hW
 cases hn : norw [(N, xs.length)] with
 | false =>
  have E : Hid (Z = false) := by
   show Z = _
   rw [hZ.out]
   unfold z7
   simp [hn]
  clear hZ
  rw [hn] at R
  go_enter Tryz.func116, Tryz.ntmps116
  go_wp2_with fail
  refine (R.out _ (by rfl)).mono ?_
  rintro e w1 ⟨rfl, hb⟩
  have g0 := ((Cel.new w [.int .i64 N, .slice ao xs.length cap, .slice so S.length sc, .slice tO T.length tc] 37).kept (below_alloc _ _)).kept hb
  have g1 := g0.cell 2 rfl
  have g2 := g0.cell 3 rfl
  clear g0
  replace hb := bW.trans (hb.mono bW.size)
  go_wp2
  go_ret
  rw [E.out]
  exact ⟨rfl, hb⟩
 | true =>
  by_cases qS : (S.length : Int) = 0
  rotate_left
  ·have dS : ((S.length : Int) == 0) = false := beq_eq_false_iff_ne.2 qS
   have E : Hid (Z = false) := by
    show Z = _
    rw [hZ.out]
    unfold z7
    simp [hn, show ¬ S = [] from fun e => qS (by rw [e]; rfl)]
   clear hZ
   rw [hn] at R
   go_enter Tryz.func116, Tryz.ntmps116
   go_wp2_with fail
   refine (R.out _ (by rfl)).mono ?_
   rintro e w1 ⟨rfl, hb⟩
   have g0 := ((Cel.new w [.int .i64 N, .slice ao xs.length cap, .slice so S.length sc, .slice tO T.length tc] 37).kept (below_alloc _ _)).kept hb
   have g1 := g0.cell 2 rfl
   have g2 := g0.cell 3 rfl
   clear g0
   replace hb := bW.trans (hb.mono bW.size)
   go_wp2
   go_ret
   rw [E.out]
   exact ⟨rfl, hb⟩
  have dS : ((S.length : Int) == 0) = true := by simp only [qS]; rfl
  by_cases qT : (T.length : Int) = 0
  rotate_left
  ·have dT : ((T.length : Int) == 0) = false := beq_eq_false_iff_ne.2 qT
   have E : Hid (Z = false) := by
    show Z = _
    rw [hZ.out]
    unfold z7
    simp [hn, show S = [] from List.eq_nil_of_length_eq_zero (by omega), show ¬ T = [] from fun e => qT (by rw [e]; rfl)]
   clear hZ
   rw [hn] at R
   go_enter Tryz.func116, Tryz.ntmps116
   go_wp2_with fail
   refine (R.out _ (by rfl)).mono ?_
   rintro e w1 ⟨rfl, hb⟩
   have g0 := ((Cel.new w [.int .i64 N, .slice ao xs.length cap, .slice so S.length sc, .slice tO T.length tc] 37).kept (below_alloc _ _)).kept hb
   have g1 := g0.cell 2 rfl
   have g2 := g0.cell 3 rfl
   clear g0
   replace hb := bW.trans (hb.mono bW.size)
   go_wp2
   go_ret
   rw [E.out]
   exact ⟨rfl, hb⟩
  have dT : ((T.length : Int) == 0) = true := by simp only [qT]; rfl
  have E : Hid (Z = true) := by
   show Z = _
   rw [hZ.out]
   unfold z7
   simp [hn, show S = [] from List.eq_nil_of_length_eq_zero (by omega), show T = [] from List.eq_nil_of_length_eq_zero (by omega)]
  clear hZ
  rw [hn] at R
  go_enter Tryz.func116, Tryz.ntmps116
  go_wp2_with fail
  refine (R.out _ (by rfl)).mono ?_
  rintro e w1 ⟨rfl, hb⟩
  have g0 := ((Cel.new w [.int .i64 N, .slice ao xs.length cap, .slice so S.length sc, .slice tO T.length tc] 37).kept (below_alloc _ _)).kept hb
  have g1 := g0.cell 2 rfl
  have g2 := g0.cell 3 rfl
  clear g0
  replace hb := bW.trans (hb.mono bW.size)
  go_wp2
  go_ret
  rw [E.out]
  exact ⟨rfl, hb⟩
theorem noRrr_c (cs : List Value) (a : RA8) (w : World) (h : KArg8 w cs a) :
  Calls Tryz.prog 117 #[.agg cs.toArray] w fun e w' => e = .returned (.bool (z8 a)) ∧ Below w.heap.size w w' := by
 obtain ⟨ao, cap, qo, dap, so, sc, tO, tc, rfl, -⟩ := h
 obtain ⟨N, k, V, M, xs, L, ys, S, T⟩ := a
 dsimp only
 obtain ⟨Z, hZ⟩ : ∃ Z, Hid (Z = z8 ⟨N, k, V, M, xs, L, ys, S, T⟩) := ⟨_, rfl⟩
 rw [← hZ.out]
 by_cases qN : N = 0
 rotate_left
 ·have dN : (N == 0) = false := by simp [qN]
  have E : Hid (Z = false) := by
   show Z = _
   rw [hZ.out]
   unfold z8
   simp [qN]
  clear hZ
  go_enter Tryz.func117, Tryz.ntmps117
  go_wp2
  go_ret
  rw [E.out]
  exact ⟨rfl, below_alloc _ _⟩
 subst qN
 by_cases qk : k = 0
 rotate_left
 ·have dk : (k == 0) = false := by simp [qk]
  have E : Hid (Z = false) := by
   show Z = _
   rw [hZ.out]
   unfold z8
   simp [qk]
  clear hZ
  go_enter Tryz.func117, Tryz.ntmps117
  go_wp2
  go_ret
  rw [E.out]
  exact ⟨rfl, below_alloc _ _⟩
 subst qk
 by_cases qV : V = 0
 rotate_left
 ·have dV : (V == 0) = false := by simp [qV]
  have E : Hid (Z = false) := by
   show Z = _
   rw [hZ.out]
   unfold z8
   simp [qV]
  clear hZ
  go_enter Tryz.func117, Tryz.ntmps117
  go_wp2
  go_ret
  rw [E.out]
  exact ⟨rfl, below_alloc _ _⟩
 subst qV
 obtain ⟨W, hW⟩ : ∃ W, W = (w.alloc (.cells #[.int .i64 0, .int .i64 0, .int .i64 0, .int .i64 M, .slice ao xs.length cap, .int .i64 L, .slice qo ys.length dap, .slice so S.length sc, .slice tO T.length tc] 41)).alloc (.cells #[.int .i64 M, .slice ao xs.length cap, .int .i64 L, .slice qo ys.length dap] 33) := ⟨_, rfl⟩
 have bW := yb2 hW
 have R : Hid (∀ w0 : World, w0 = W → Calls Tryz.prog 178 #[.slice (some ⟨w.heap.size + 1, 0, none⟩) 2 2] w0 fun e w' => e = .returned (.bool (norw [(M, xs.length), (L, ys.length)])) ∧ Below w0.heap.size w0 w') := fun w0 g => by
  subst g
  refine noRows_c _ 2 [(M, xs.length), (L, ys.length)] w0 ?_ (by simp)
  have hx := rws2 (w.alloc (.cells #[.int .i64 0, .int .i64 0, .int .i64 0, .int .i64 M, .slice ao xs.length cap, .int .i64 L, .slice qo ys.length dap, .slice so S.length sc, .slice tO T.length tc] 41)) M ao xs.length cap L qo ys.length dap 33
  rw [show (w.alloc (.cells #[.int .i64 0, .int .i64 0, .int .i64 0, .int .i64 M, .slice ao xs.length cap, .int .i64 L, .slice qo ys.length dap, .slice so S.length sc, .slice tO T.length tc] 41)).heap.size = w.heap.size + 1 by simp] at hx
  rw [hW]
  exact hx
 subst hW
 cases hn : norw [(M, xs.length), (L, ys.length)] with
 | false =>
  have E : Hid (Z = false) := by
   show Z = _
   rw [hZ.out]
   unfold z8
   simp [hn]
  clear hZ
  rw [hn] at R
  go_enter Tryz.func117, Tryz.ntmps117
  go_wp2_with fail
  refine (R.out _ (by rfl)).mono ?_
  rintro e w1 ⟨rfl, hb⟩
  have g0 := ((Cel.new w [.int .i64 0, .int .i64 0, .int .i64 0, .int .i64 M, .slice ao xs.length cap, .int .i64 L, .slice qo ys.length dap, .slice so S.length sc, .slice tO T.length tc] 41).kept (below_alloc _ _)).kept hb
  have g1 := g0.cell 7 rfl
  have g2 := g0.cell 8 rfl
  clear g0
  replace hb := bW.trans (hb.mono bW.size)
  go_wp2
  go_ret
  rw [E.out]
  exact ⟨rfl, hb⟩
 | true =>
  by_cases qS : (S.length : Int) = 0
  rotate_left
  ·have dS : ((S.length : Int) == 0) = false := beq_eq_false_iff_ne.2 qS
   have E : Hid (Z = false) := by
    show Z = _
    rw [hZ.out]
    unfold z8
    simp [hn, show ¬ S = [] from fun e => qS (by rw [e]; rfl)]
   clear hZ
   rw [hn] at R
   go_enter Tryz.func117, Tryz.ntmps117
   go_wp2_with fail
   refine (R.out _ (by rfl)).mono ?_
   rintro e w1 ⟨rfl, hb⟩
   have g0 := ((Cel.new w [.int .i64 0, .int .i64 0, .int .i64 0, .int .i64 M, .slice ao xs.length cap, .int .i64 L, .slice qo ys.length dap, .slice so S.length sc, .slice tO T.length tc] 41).kept (below_alloc _ _)).kept hb
   have g1 := g0.cell 7 rfl
   have g2 := g0.cell 8 rfl
   clear g0
   replace hb := bW.trans (hb.mono bW.size)
   go_wp2
   go_ret
   rw [E.out]
   exact ⟨rfl, hb⟩
  have dS : ((S.length : Int) == 0) = true := by simp only [qS]; rfl
  by_cases qT : (T.length : Int) = 0
  rotate_left
  ·have dT : ((T.length : Int) == 0) = false := beq_eq_false_iff_ne.2 qT
   have E : Hid (Z = false) := by
    show Z = _
    rw [hZ.out]
    unfold z8
    simp [hn, show S = [] from List.eq_nil_of_length_eq_zero (by omega), show ¬ T = [] from fun e => qT (by rw [e]; rfl)]
   clear hZ
   rw [hn] at R
   go_enter Tryz.func117, Tryz.ntmps117
   go_wp2_with fail
   refine (R.out _ (by rfl)).mono ?_
   rintro e w1 ⟨rfl, hb⟩
   have g0 := ((Cel.new w [.int .i64 0, .int .i64 0, .int .i64 0, .int .i64 M, .slice ao xs.length cap, .int .i64 L, .slice qo ys.length dap, .slice so S.length sc, .slice tO T.length tc] 41).kept (below_alloc _ _)).kept hb
   have g1 := g0.cell 7 rfl
   have g2 := g0.cell 8 rfl
   clear g0
   replace hb := bW.trans (hb.mono bW.size)
   go_wp2
   go_ret
   rw [E.out]
   exact ⟨rfl, hb⟩
  have dT : ((T.length : Int) == 0) = true := by simp only [qT]; rfl
  have E : Hid (Z = true) := by
   show Z = _
   rw [hZ.out]
   unfold z8
   simp [hn, show S = [] from List.eq_nil_of_length_eq_zero (by omega), show T = [] from List.eq_nil_of_length_eq_zero (by omega)]
  clear hZ
  rw [hn] at R
  go_enter Tryz.func117, Tryz.ntmps117
  go_wp2_with fail
  refine (R.out _ (by rfl)).mono ?_
  rintro e w1 ⟨rfl, hb⟩
  have g0 := ((Cel.new w [.int .i64 0, .int .i64 0, .int .i64 0, .int .i64 M, .slice ao xs.length cap, .int .i64 L, .slice qo ys.length dap, .slice so S.length sc, .slice tO T.length tc] 41).kept (below_alloc _ _)).kept hb
  have g1 := g0.cell 7 rfl
  have g2 := g0.cell 8 rfl
  clear g0
  replace hb := bW.trans (hb.mono bW.size)
  go_wp2
  go_ret
  rw [E.out]
  exact ⟨rfl, hb⟩
theorem noFano_c (cs : List Value) (a : RA9) (w : World) (h : KArg9 w cs a) :
  Calls Tryz.prog 118 #[.agg cs.toArray] w fun e w' => e = .returned (.bool (z9 a)) ∧ Below w.heap.size w w' := by
 obtain ⟨ao, cap, qo, dap, rfl, -⟩ := h
 obtain ⟨N, M, k, V, LM, xs, H, ys⟩ := a
 dsimp only
 obtain ⟨Z, hZ⟩ : ∃ Z, Hid (Z = z9 ⟨N, M, k, V, LM, xs, H, ys⟩) := ⟨_, rfl⟩
 rw [← hZ.out]
 by_cases qN : N = 0
 rotate_left
 ·have dN : (N == 0) = false := by simp [qN]
  have E : Hid (Z = false) := by
   show Z = _
   rw [hZ.out]
   unfold z9
   simp [qN]
  clear hZ
  go_enter Tryz.func118, Tryz.ntmps118
  go_wp2
  go_ret
  rw [E.out]
  exact ⟨rfl, below_alloc _ _⟩
 subst qN
 by_cases qM : M = 0
 rotate_left
 ·have dM : (M == 0) = false := by simp [qM]
  have E : Hid (Z = false) := by
   show Z = _
   rw [hZ.out]
   unfold z9
   simp [qM]
  clear hZ
  go_enter Tryz.func118, Tryz.ntmps118
  go_wp2
  go_ret
  rw [E.out]
  exact ⟨rfl, below_alloc _ _⟩
 subst qM
 by_cases qk : k = 0
 rotate_left
 ·have dk : (k == 0) = false := by simp [qk]
  have E : Hid (Z = false) := by
   show Z = _
   rw [hZ.out]
   unfold z9
   simp [qk]
  clear hZ
  go_enter Tryz.func118, Tryz.ntmps118
  go_wp2
  go_ret
  rw [E.out]
  exact ⟨rfl, below_alloc _ _⟩
 subst qk
 by_cases qV : V = 0
 rotate_left
 ·have dV : (V == 0) = false := by simp [qV]
  have E : Hid (Z = false) := by
   show Z = _
   rw [hZ.out]
   unfold z9
   simp [qV]
  clear hZ
  go_enter Tryz.func118, Tryz.ntmps118
  go_wp2
  go_ret
  rw [E.out]
  exact ⟨rfl, below_alloc _ _⟩
 subst qV
 obtain ⟨W, hW⟩ : ∃ W, W = (w.alloc (.cells #[.int .i64 0, .int .i64 0, .int .i64 0, .int .i64 0, .int .i64 LM, .slice ao xs.length cap, .int .i64 H, .slice qo ys.length dap] 43)).alloc (.cells #[.int .i64 LM, .slice ao xs.length cap, .int .i64 H, .slice qo ys.length dap] 33) := ⟨_, rfl⟩
 have bW := yb2 hW
 have R : Hid (∀ w0 : World, w0 = W → Calls Tryz.prog 178 #[.slice (some ⟨w.heap.size + 1, 0, none⟩) 2 2] w0 fun e w' => e = .returned (.bool (norw [(LM, xs.length), (H, ys.length)])) ∧ Below w0.heap.size w0 w') := fun w0 g => by
  subst g
  refine noRows_c _ 2 [(LM, xs.length), (H, ys.length)] w0 ?_ (by simp)
  have hx := rws2 (w.alloc (.cells #[.int .i64 0, .int .i64 0, .int .i64 0, .int .i64 0, .int .i64 LM, .slice ao xs.length cap, .int .i64 H, .slice qo ys.length dap] 43)) LM ao xs.length cap H qo ys.length dap 33
  rw [show (w.alloc (.cells #[.int .i64 0, .int .i64 0, .int .i64 0, .int .i64 0, .int .i64 LM, .slice ao xs.length cap, .int .i64 H, .slice qo ys.length dap] 43)).heap.size = w.heap.size + 1 by simp] at hx
  rw [hW]
  exact hx
 subst hW
 cases hn : norw [(LM, xs.length), (H, ys.length)] with
 | false =>
  have E : Hid (Z = false) := by
   show Z = _
   rw [hZ.out]
   unfold z9
   simp [hn]
  clear hZ
  rw [hn] at R
  go_enter Tryz.func118, Tryz.ntmps118
  go_wp2_with fail
  refine (R.out _ (by rfl)).mono ?_
  rintro e w1 ⟨rfl, hb⟩
  replace hb := bW.trans (hb.mono bW.size)
  go_wp2
  go_ret
  rw [E.out]
  exact ⟨rfl, hb⟩
 | true =>
  have E : Hid (Z = true) := by
   show Z = _
   rw [hZ.out]
   unfold z9
   simp [hn]
  clear hZ
  rw [hn] at R
  go_enter Tryz.func118, Tryz.ntmps118
  go_wp2_with fail
  refine (R.out _ (by rfl)).mono ?_
  rintro e w1 ⟨rfl, hb⟩
  replace hb := bW.trans (hb.mono bW.size)
  go_wp2
  go_ret
  rw [E.out]
  exact ⟨rfl, hb⟩
end Go.Proofs.YtjahipjghenbjaaGreatDoor
namespace Go.Proofs.YtjahipjghenbjaaGreatDoor
open Go.ChangeShapes Go.WideShapes Go.ChangeAt Go.RowKit Go.Joins Go.Deep Num Bit Bn
theorem row_back (m : Nat) (xs : List Nat) (hf : Fit xs) (hk : chk (m : Int) xs = true) : rowOf m (bitAt xs) = xs := by
 have := chk_row m xs hf hk
 rw [Int.toNat_natCast] at this
 exact this.symm
theorem kB_ok8 (N : Int) (xs : List Nat) (hf : Fit xs) (hk : chk N xs = true) : kOk8 (kB8 N xs) = true ∧ kBN8 (kB8 N xs) = N ∧ kBX8 (kB8 N xs) = xs := by
 obtain ⟨h0, h1, _, _⟩ := chk_out N xs hk
 obtain ⟨m, rfl⟩ := Int.eq_ofNat_of_zero_le h0
 have hm : m ≤ 1048576 := by omega
 have e : kB8 (m : Int) xs = ⟨m, nb m, 4, (nb m : Int) * 4, rC m (bitAt xs), bat m (bitAt xs) (nb m), rO m (bitAt xs), rS m (bitAt xs), rT m (bitAt xs)⟩ := by
  unfold kB8 rbN rbK rbV rbM rbC rbL rbO rbS rbT
  rw [hk, Int.toNat_natCast]
  rfl
 have hd : rDec m (nb m) 4 (rC m (bitAt xs)) (bat m (bitAt xs) (nb m)) (rO m (bitAt xs)) = some ((List.range m).map (bitAt xs)) := rDec_built m (bitAt xs) hm
 have e1 : rwN (some ((List.range m).map (bitAt xs))) = m := by simp [rwN]
 have e2 : rwX (some ((List.range m).map (bitAt xs))) = xs := by
  show frL _ = xs
  rw [fr_row, row_back m xs hf hk]
 have hn := nb_le m hm
 have hb := bat_le m (bitAt xs) (nb m)
 have i1 : ichk (nb m : Int) 4 ((nb m : Int) * 4) (rC m (bitAt xs)) = true := by
  have := ichk_mk (bclP m (bitAt xs) (nb m)) 4 (by decide) (by decide) (by rw [length_bclP]; omega)
  rw [length_bclP] at this
  unfold rC
  rw [show ((nb m : Int) * 4) = ((nb m * 4 : Nat) : Int) by omega]
  exact this
 have i2 : chk (bat m (bitAt xs) (nb m) : Int) (rO m (bitAt xs)) = true := by
  unfold rO
  rw [fr_off]
  exact chk_rowOf _ _ (by omega)
 have ok : rOk m (nb m) 4 ((nb m : Int) * 4) (rC m (bitAt xs)) (bat m (bitAt xs) (nb m)) (rO m (bitAt xs)) (rS m (bitAt xs)) (rT m (bitAt xs)) = true := by
  unfold rOk
  rw [hd, e1, e2, i1, i2, decide_eq_true (show (0 : Int) ≤ m ∧ (m : Int) ≤ 1048576 by omega), rEq_self]
  rfl
 rw [e]
 refine ⟨ok, ?_, ?_⟩
 ·unfold kBN8 rBN
  rw [if_pos ok, hd, e1]
 ·unfold kBX8 rBX
  rw [if_pos ok, hd, e2]
theorem kE_ok8 (N : Int) (xs : List Nat) (hk : chk N xs = true) : kE8 N xs = 0 := by unfold kE8 rbE; rw [hk]; rfl
end Go.Proofs.YtjahipjghenbjaaGreatDoor
namespace Go.Proofs.YtjahipjghenbjaaGreatDoor
open Go.RowKit Go.Shelf Num Bit
attribute [local go_sem] Oper.semAt_some
theorem ginfo_b : (Tryz.prog.info? 33).map (·.size) = some 2 := by kernel_rfl
end Go.Proofs.YtjahipjghenbjaaGreatDoor
