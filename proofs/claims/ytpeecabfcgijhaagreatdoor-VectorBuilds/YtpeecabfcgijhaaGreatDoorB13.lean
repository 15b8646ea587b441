/-
  The contracts of the program's noPlain, noRrr, noFano; a part of a struct out of its block. The contract of the program's only: the kind, if the fields of the others are zero. Plain arithmetic of the landed package plain: groups of eight words, their counts, the word that is sought. The contracts of the program's groups and wordsOf. The contract of the program's counted: an array of eight counts by value.
-/
import Derived.Test.YtpeecabfcgijhaaGreatDoorB12
import Derived.Deep.MidRow
import Derived.Test.YtpeecabfcgijhaaGreatDoorB01
import Derived.Test.YtpeecabfcgijhaaGreatDoorB03
import Derived.Test.YtpeecabfcgijhaaGreatDoorB07
import Derived.Deep.WholeRow
import Derived.Laws.ResultCell
set_option linter.unusedVariables false
set_option linter.unusedSimpArgs false
set_option maxRecDepth 100000
set_option maxHeartbeats 16000000
namespace Go.Proofs.YtpeecabfcgijhaaGreatDoor
open Go.RowKit Num Bit
theorem load_part {ops : Array Oper} {rest : List Oper} {d : Option Tmp} {ty T : TypeId} {ps : String} {af : Array Edge} {gd : Option (Nat × Bool)} {a : Act} {w : World} {Q : Exit → Act → World → Prop} {x : Operand}
  (g o : Nat) (cs : List Value) {fs : Array Field} (hwn : Region.wanted (⟨d, .load T x, ty, ps, af, gd⟩ : Oper) (yielded ops a.tmps) = true) (hx : a.eval x = .pointer (some ⟨g, o, none⟩)) (hc : w.rangeAt g o cs) (hu : Tryz.prog.underlying T = some (.struct fs)) (hi : (Tryz.prog.info? T).map (·.size) = some cs.length)
  (h : wpList Tryz.prog ops Q rest (a.put d (.agg cs.toArray)) w) :
  wpList Tryz.prog ops Q (⟨d, .load T x, ty, ps, af, gd⟩ :: rest) a w :=
 wpList_step fun K hK => by
  rw [if_pos hwn]
  exact wp_load_mid T x rfl g o hx cs _ hc hu rfl hi (hK _ _ h)
theorem Cel.part {w : World} {b : Nat} {T : TypeId} (pre cs post : List Value) (h : Cel w b (pre ++ (cs ++ post)) T) : w.rangeAt b pre.length cs := fun j v hv => by
 refine h.cell (pre.length + j) ?_
 have hj : j < cs.length := (List.getElem?_eq_some_iff.1 hv).1
 rw [List.getElem?_append_right (by omega), List.getElem?_append_left (by omega), show pre.length + j - pre.length = j by omega]
 exact hv
theorem rws1 (w : World) (N : Int) (ao : Option Addr) (n cap : Nat) (T : TypeId) : Rws (w.alloc (.cells #[.int .i64 N, .slice ao n cap] T)) w.heap.size [(N, n)] := by
 have hc := Cel.new w [.int .i64 N, .slice ao n cap] T
 refine ⟨hc.lt, fun i hi => ?_⟩
 have hi : i < 1 := hi
 obtain rfl : i = 0 := by omega
 exact ⟨hc.cell 0 rfl, ao, cap, hc.cell 1 rfl⟩
theorem rws2 (w : World) (N : Int) (ao : Option Addr) (n cap : Nat) (M : Int) (bo : Option Addr) (m dap : Nat) (T : TypeId) : Rws (w.alloc (.cells #[.int .i64 N, .slice ao n cap, .int .i64 M, .slice bo m dap] T)) w.heap.size [(N, n), (M, m)] := by
 have hc := Cel.new w [.int .i64 N, .slice ao n cap, .int .i64 M, .slice bo m dap] T
 refine ⟨hc.lt, fun i hi => ?_⟩
 have hi : i < 2 := hi
 have : i = 0 ∨ i = 1 := by omega
 rcases this with rfl | rfl
 ·exact ⟨hc.cell 0 rfl, ao, cap, hc.cell 1 rfl⟩
 ·exact ⟨hc.cell 2 rfl, bo, dap, hc.cell 3 rfl⟩
theorem noPlain_c (cs : List Value) (a : RA7) (w : World) (h : KArg7 w cs a) :
  Calls Tryz.prog 76 #[.agg cs.toArray] w fun e w' => e = .returned (.bool (z7 a)) ∧ Below w.heap.size w w' := by
 obtain ⟨ao, cap, so, sc, tO, tc, rfl, -⟩ := h
 obtain ⟨N, xs, S, T⟩ := a
 dsimp only
 obtain ⟨Z, hZ⟩ : ∃ Z, Hid (Z = z7 ⟨N, xs, S, T⟩) := ⟨_, rfl⟩
 rw [← hZ.out]
 obtain ⟨W, hW⟩ : ∃ W, W = (w.alloc (.cells #[.int .i64 N, .slice ao xs.length cap, .slice so S.length sc, .slice tO T.length tc] 29)).alloc (.cells #[.int .i64 N, .slice ao xs.length cap] 24) := ⟨_, rfl⟩
 have bW := yb2 hW
 have R : Hid (∀ w0 : World, w0 = W → Calls Tryz.prog 135 #[.slice (some ⟨w.heap.size + 1, 0, none⟩) 1 1] w0 fun e w' => e = .returned (.bool (norw [(N, xs.length)])) ∧ Below w0.heap.size w0 w') := fun w0 g => by
  subst g
  refine noRows_c _ 1 [(N, xs.length)] w0 ?_ (by simp)
  have hx := rws1 (w.alloc (.cells #[.int .i64 N, .slice ao xs.length cap, .slice so S.length sc, .slice tO T.length tc] 29)) N ao xs.length cap 24
  rw [show (w.alloc (.cells #[.int .i64 N, .slice ao xs.length cap, .slice so S.length sc, .slice tO T.length tc] 29)).heap.size = w.heap.size + 1 by simp] at hx
  rw [hW]
  exact hx
 subst hW
 cases hn : norw [(N, xs.length)] with
 | false =>
  have E : Hid (Z = false) := by
   show Z = _
   rw [hZ.out]
   unfold z7
   simp [hn]
  clear hZ
  rw [hn] at R
  go_enter Tryz.func76, Tryz.ntmps76
  go_wp2_with fail
  refine (R.out _ (by rfl)).mono ?_
  rintro e w1 ⟨rfl, hb⟩
  have g0 := ((Cel.new w [.int .i64 N, .slice ao xs.length cap, .slice so S.length sc, .slice tO T.length tc] 29).kept (below_alloc _ _)).kept hb
  have g1 := g0.cell 2 rfl
  have g2 := g0.cell 3 rfl
  clear g0
  replace hb := bW.trans (hb.mono bW.size)
  go_wp2
  go_ret
  rw [E.out]
  exact ⟨rfl, hb⟩
 | true =>
  by_cases qS : (S.length : Int) = 0
  rotate_left
  ·have dS : ((S.length : Int) == 0) = false := beq_eq_false_iff_ne.2 qS
   have E : Hid (Z = false) := by
    show Z = _
    rw [hZ.out]
    unfold z7
    simp [hn, show ¬ S = [] from fun e => qS (by rw [e]; rfl)]
   clear hZ
   rw [hn] at R
   go_enter Tryz.func76, Tryz.ntmps76
   go_wp2_with fail
   refine (R.out _ (by rfl)).mono ?_
   rintro e w1 ⟨rfl, hb⟩
   have g0 := ((Cel.new w [.int .i64 N, .slice ao xs.length cap, .slice so S.length sc, .slice tO T.length tc] 29).kept (below_alloc _ _)).kept hb
   have g1 := g0.cell 2 rfl
   have g2 := g0.cell 3 rfl
   clear g0
   replace hb := bW.trans (hb.mono bW.size)
   go_wp2
   go_ret
   rw [E.out]
   exact ⟨rfl, hb⟩
  have dS : ((S.length : Int) == 0) = true := by simp only [qS]; rfl
  by_cases qT : (T.length : Int) = 0
  rotate_left
  ·have dT : ((T.length : Int) == 0) = false := beq_eq_false_iff_ne.2 qT
   have E : Hid (Z = false) := by
    show Z = _
    rw [hZ.out]
    unfold z7
    simp [hn, show S = [] from List.eq_nil_of_length_eq_zero (by omega), show ¬ T = [] from fun e => qT (by rw [e]; rfl)]
   clear hZ
   rw [hn] at R
   go_enter Tryz.func76, Tryz.ntmps76
   go_wp2_with fail
   refine (R.out _ (by rfl)).mono ?_
   rintro e w1 ⟨rfl, hb⟩
   have g0 := ((Cel.new w [.int .i64 N, .slice ao xs.length cap, .slice so S.length sc, .slice tO T.length tc] 29).kept (below_alloc _ _)).kept hb
   have g1 := g0.cell 2 rfl
   have g2 := g0.cell 3 rfl
   clear g0
   replace hb := bW.trans (hb.mono bW.size)
   go_wp2
   go_ret
   rw [E.out]
   exact ⟨rfl, hb⟩
  have dT : ((T.length : Int) == 0) = true := by simp only [qT]; rfl
  have E : Hid (Z = true) := by
   show Z = _
   rw [hZ.out]
   unfold z7
   simp [hn, show S = [] from List.eq_nil_of_length_eq_zero (by omega), show T = [] from List.eq_nil_of_length_eq_zero (by omega)]
  clear hZ
  rw [hn] at R
  go_enter Tryz.func76, Tryz.ntmps76
  go_wp2_with fail
  refine (R.out _ (by rfl)).mono ?_
  rintro e w1 ⟨rfl, hb⟩
  have g0 := ((Cel.new w [.int .i64 N, .slice ao xs.length cap, .slice so S.length sc, .slice tO T.length tc] 29).kept (below_alloc _ _)).kept hb
  have g1 := g0.cell 2 rfl
  have g2 := g0.cell 3 rfl
  clear g0
  replace hb := bW.trans (hb.mono bW.size)
  go_wp2
  go_ret
  rw [E.out]
  exact ⟨rfl, hb⟩
theorem noRrr_c (cs : List Value) (a : RA8) (w : World) (h : KArg8 w cs a) :
  Calls Tryz.prog 77 #[.agg cs.toArray] w fun e w' => e = .returned (.bool (z8 a)) ∧ Below w.heap.size w w' := by
 obtain ⟨ao, cap, qo, dap, so, sc, tO, tc, rfl, -⟩ := h
 obtain ⟨N, k, V, M, xs, L, ys, S, T⟩ := a
 dsimp only
 obtain ⟨Z, hZ⟩ : ∃ Z, Hid (Z = z8 ⟨N, k, V, M, xs, L, ys, S, T⟩) := ⟨_, rfl⟩
 rw [← hZ.out]
 by_cases qN : N = 0
 rotate_left
 ·have dN : (N == 0) = false := by simp [qN]
  have E : Hid (Z = false) := by
   show Z = _
   rw [hZ.out]
   unfold z8
   simp [qN]
  clear hZ
  go_enter Tryz.func77, Tryz.ntmps77
  go_wp2
  go_ret
  rw [E.out]
  exact ⟨rfl, below_alloc _ _⟩
 subst qN
 by_cases qk : k = 0
 rotate_left
 ·have dk : (k == 0) = false := by simp [qk]
  have E : Hid (Z = false) := by
   show Z = _
   rw [hZ.out]
   unfold z8
   simp [qk]
  clear hZ
  go_enter Tryz.func77, Tryz.ntmps77
  go_wp2
  go_ret
  rw [E.out]
  exact ⟨rfl, below_alloc _ _⟩
 subst qk
 by_cases qV : V = 0
 rotate_left
 ·have dV : (V == 0) = false := by simp [qV]
  have E : Hid (Z = false) := by
   show Z = _
   rw [hZ.out]
   unfold z8
   simp [qV]
  clear hZ
  go_enter Tryz.func77, Tryz.ntmps77
  go_wp2
  go_ret
  rw [E.out]
  exact ⟨rfl, below_alloc _ _⟩
 subst qV
 obtain ⟨W, hW⟩ : ∃ W, W = (w.alloc (.cells #[.int .i64 0, .int .i64 0, .int .i64 0, .int .i64 M, .slice ao xs.length cap, .int .i64 L, .slice qo ys.length dap, .slice so S.length sc, .slice tO T.length tc] 33)).alloc (.cells #[.int .i64 M, .slice ao xs.length cap, .int .i64 L, .slice qo ys.length dap] 24) := ⟨_, rfl⟩
 have bW := yb2 hW
 have R : Hid (∀ w0 : World, w0 = W → Calls Tryz.prog 135 #[.slice (some ⟨w.heap.size + 1, 0, none⟩) 2 2] w0 fun e w' => e = .returned (.bool (norw [(M, xs.length), (L, ys.length)])) ∧ Below w0.heap.size w0 w') := fun w0 g => by
  subst g
  refine noRows_c _ 2 [(M, xs.length), (L, ys.length)] w0 ?_ (by simp)
  have hx := rws2 (w.alloc (.cells #[.int .i64 0, .int .i64 0, .int .i64 0, .int .i64 M, .slice ao xs.length cap, .int .i64 L, .slice qo ys.length dap, .slice so S.length sc, .slice tO T.length tc] 33)) M ao xs.length cap L qo ys.length dap 24
  rw [show (w.alloc (.cells #[.int .i64 0, .int .i64 0, .int .i64 0, .int .i64 M, .slice ao xs.length cap, .int .i64 L, .slice qo ys.length dap, .slice so S.length sc, .slice tO T.length tc] 33)).heap.size = w.heap.size + 1 by simp] at hx
  rw [hW]
  exact hx
 subst hW
 cases hn : norw [(M, xs.length), (L, ys.length)] with
 | false =>
  have E : Hid (Z = false) := by
   show Z = _
   rw [hZ.out]
   unfold z8
   simp [hn]
  clear hZ
  rw [hn] at R
  go_enter Tryz.func77, Tryz.ntmps77
  go_wp2_with fail
  refine (R.out _ (by rfl)).mono ?_
  rintro e w1 ⟨rfl, hb⟩
  have g0 := ((Cel.new w [.int .i64 0, .int .i64 0, .int .i64 0, .int .i64 M, .slice ao xs.length cap, .int .i64 L, .slice qo ys.length dap, .slice so S.length sc, .slice tO T.length tc] 33).kept (below_alloc _ _)).kept hb
  have g1 := g0.cell 7 rfl
  have g2 := g0.cell 8 rfl
  clear g0
  replace hb := bW.trans (hb.mono bW.size)
  go_wp2
  go_ret
  rw [E.out]
  exact ⟨rfl, hb⟩
 | true =>
  by_cases qS : (S.length : Int) = 0
  rotate_left
  ·have dS : ((S.length : Int) == 0) = false := beq_eq_false_iff_ne.2 qS
   have E : Hid (Z = false) := by
    show Z = _
    rw [hZ.out]
    unfold z8
    simp [hn, show ¬ S = [] from fun e => qS (by rw [e]; rfl)]
   clear hZ
   rw [hn] at R
   go_enter Tryz.func77, Tryz.ntmps77
   go_wp2_with fail
   refine (R.out _ (by rfl)).mono ?_
   rintro e w1 ⟨rfl, hb⟩
   have g0 := ((Cel.new w [.int .i64 0, .int .i64 0, .int .i64 0, .int .i64 M, .slice ao xs.length cap, .int .i64 L, .slice qo ys.length dap, .slice so S.length sc, .slice tO T.length tc] 33).kept (below_alloc _ _)).kept hb
   have g1 := g0.cell 7 rfl
   have g2 := g0.cell 8 rfl
   clear g0
   replace hb := bW.trans (hb.mono bW.size)
   go_wp2
   go_ret
   rw [E.out]
   exact ⟨rfl, hb⟩
  have dS : ((S.length : Int) == 0) = true := by simp only [qS]; rfl
  by_cases qT : (T.length : Int) = 0
  rotate_left
  ·have dT : ((T.length : Int) == 0) = false := beq_eq_false_iff_ne.2 qT
   have E : Hid (Z = false) := by
    show Z = _
    rw [hZ.out]
    unfold z8
    simp [hn, show S = [] from List.eq_nil_of_length_eq_zero (by omega), show ¬ T = [] from fun e => qT (by rw [e]; rfl)]
   clear hZ
   rw [hn] at R
   go_enter Tryz.func77, Tryz.ntmps77
   go_wp2_with fail
   refine (R.out _ (by rfl)).mono ?_
   rintro e w1 ⟨rfl, hb⟩
   have g0 := ((Cel.new w [.int .i64 0, .int .i64 0, .int .i64 0, .int .i64 M, .slice ao xs.length cap, .int .i64 L, .slice qo ys.length dap, .slice so S.length sc, .slice tO T.length tc] 33).kept (below_alloc _ _)).kept hb
   have g1 := g0.cell 7 rfl
   have g2 := g0.cell 8 rfl
   clear g0
   replace hb := bW.trans (hb.mono bW.size)
   go_wp2
   go_ret
   rw [E.out]
   exact ⟨rfl, hb⟩
  have dT : ((T.length : Int) == 0) = true := by simp only [qT]; rfl
  have E : Hid (Z = true) := by
   show Z = _
   rw [hZ.out]
   unfold z8
   simp [hn, show S = [] from List.eq_nil_of_length_eq_zero (by omega), show T = [] from List.eq_nil_of_length_eq_zero (by omega)]
  clear hZ
  rw [hn] at R
  go_enter Tryz.func77, Tryz.ntmps77
  go_wp2_with fail
  refine (R.out _ (by rfl)).mono ?_
  rintro e w1 ⟨rfl, hb⟩
  have g0 := ((Cel.new w [.int .i64 0, .int .i64 0, .int .i64 0, .int .i64 M, .slice ao xs.length cap, .int .i64 L, .slice qo ys.length dap, .slice so S.length sc, .slice tO T.length tc] 33).kept (below_alloc _ _)).kept hb
  have g1 := g0.cell 7 rfl
  have g2 := g0.cell 8 rfl
  clear g0
  replace hb := bW.trans (hb.mono bW.size)
  go_wp2
  go_ret
  rw [E.out]
  exact ⟨rfl, hb⟩
theorem noFano_c (cs : List Value) (a : RA9) (w : World) (h : KArg9 w cs a) :
  Calls Tryz.prog 78 #[.agg cs.toArray] w fun e w' => e = .returned (.bool (z9 a)) ∧ Below w.heap.size w w' := by
 obtain ⟨ao, cap, qo, dap, rfl, -⟩ := h
 obtain ⟨N, M, k, V, LM, xs, H, ys⟩ := a
 dsimp only
 obtain ⟨Z, hZ⟩ : ∃ Z, Hid (Z = z9 ⟨N, M, k, V, LM, xs, H, ys⟩) := ⟨_, rfl⟩
 rw [← hZ.out]
 by_cases qN : N = 0
 rotate_left
 ·have dN : (N == 0) = false := by simp [qN]
  have E : Hid (Z = false) := by
   show Z = _
   rw [hZ.out]
   unfold z9
   simp [qN]
  clear hZ
  go_enter Tryz.func78, Tryz.ntmps78
  go_wp2
  go_ret
  rw [E.out]
  exact ⟨rfl, below_alloc _ _⟩
 subst qN
 by_cases qM : M = 0
 rotate_left
 ·have dM : (M == 0) = false := by simp [qM]
  have E : Hid (Z = false) := by
   show Z = _
   rw [hZ.out]
   unfold z9
   simp [qM]
  clear hZ
  go_enter Tryz.func78, Tryz.ntmps78
  go_wp2
  go_ret
  rw [E.out]
  exact ⟨rfl, below_alloc _ _⟩
 subst qM
 by_cases qk : k = 0
 rotate_left
 ·have dk : (k == 0) = false := by simp [qk]
  have E : Hid (Z = false) := by
   show Z = _
   rw [hZ.out]
   unfold z9
   simp [qk]
  clear hZ
  go_enter Tryz.func78, Tryz.ntmps78
  go_wp2
  go_ret
  rw [E.out]
  exact ⟨rfl, below_alloc _ _⟩
 subst qk
 by_cases qV : V = 0
 rotate_left
 ·have dV : (V == 0) = false := by simp [qV]
  have E : Hid (Z = false) := by
   show Z = _
   rw [hZ.out]
   unfold z9
   simp [qV]
  clear hZ
  go_enter Tryz.func78, Tryz.ntmps78
  go_wp2
  go_ret
  rw [E.out]
  exact ⟨rfl, below_alloc _ _⟩
 subst qV
 obtain ⟨W, hW⟩ : ∃ W, W = (w.alloc (.cells #[.int .i64 0, .int .i64 0, .int .i64 0, .int .i64 0, .int .i64 LM, .slice ao xs.length cap, .int .i64 H, .slice qo ys.length dap] 35)).alloc (.cells #[.int .i64 LM, .slice ao xs.length cap, .int .i64 H, .slice qo ys.length dap] 24) := ⟨_, rfl⟩
 have bW := yb2 hW
 have R : Hid (∀ w0 : World, w0 = W → Calls Tryz.prog 135 #[.slice (some ⟨w.heap.size + 1, 0, none⟩) 2 2] w0 fun e w' => e = .returned (.bool (norw [(LM, xs.length), (H, ys.length)])) ∧ Below w0.heap.size w0 w') := fun w0 g => by
  subst g
  refine noRows_c _ 2 [(LM, xs.length), (H, ys.length)] w0 ?_ (by simp)
  have hx := rws2 (w.alloc (.cells #[.int .i64 0, .int .i64 0, .int .i64 0, .int .i64 0, .int .i64 LM, .slice ao xs.length cap, .int .i64 H, .slice qo ys.length dap] 35)) LM ao xs.length cap H qo ys.length dap 24
  rw [show (w.alloc (.cells #[.int .i64 0, .int .i64 0, .int .i64 0, .int .i64 0, .int .i64 LM, .slice ao xs.length cap, .int .i64 H, .slice qo ys.length dap] 35)).heap.size = w.heap.size + 1 by simp] at hx
  rw [hW]
  exact hx
 subst hW
 cases hn : norw [(LM, xs.length), (H, ys.length)] with
 | false =>
  have E : Hid (Z = false) := by
   show Z = _
   rw [hZ.out]
   unfold z9
   simp [hn]
  clear hZ
  rw [hn] at R
  go_enter Tryz.func78, Tryz.ntmps78
  go_wp2_with fail
  refine (R.out _ (by rfl)).mono ?_
  rintro e w1 ⟨rfl, hb⟩
  replace hb := bW.trans (hb.mono bW.size)
  go_wp2
  go_ret
  rw [E.out]
  exact ⟨rfl, hb⟩
 | true =>
  have E : Hid (Z = true) := by
   show Z = _
   rw [hZ.out]
   unfold z9
   simp [hn]
  clear hZ
  rw [hn] at R
  go_enter Tryz.func78, Tryz.ntmps78
  go_wp2_with fail
  refine (R.out _ (by rfl)).mono ?_
  rintro e w1 ⟨rfl, hb⟩
  replace hb := bW.trans (hb.mono bW.size)
  go_wp2
  go_ret
  rw [E.out]
  exact ⟨rfl, hb⟩
theorem parts {w : World} {b : Nat} {K : Value} {cp cr cf : List Value} {T : TypeId} (l4 : cp.length = 4) (l9 : 9 = cr.length) (h : Cel w b (K :: (cp ++ (cr ++ cf))) T) : w.cell? ⟨b, 0, none⟩ = some K ∧ w.rangeAt b 1 cp ∧ w.rangeAt b 5 cr ∧ w.rangeAt b 14 cf := by
 have a2 := Cel.part (K :: cp) cr cf h
 rw [List.length_cons, l4] at a2
 have h' : Cel w b ((K :: (cp ++ cr)) ++ (cf ++ [])) T := by simpa using h
 have a3 := Cel.part (K :: (cp ++ cr)) cf [] h'
 rw [List.length_cons, List.length_append, l4, ← l9] at a3
 exact ⟨h.cell 0 rfl, Cel.part [K] cp (cr ++ cf) h, a2, a3⟩
theorem only_c (cs : List Value) (a : RA) (w : World) (h : KArg w cs a) :
  Calls Tryz.prog 31 #[.agg cs.toArray] w fun e w' => e = .returned (.int .i64 (kOn a)) ∧ Below w.heap.size w w' := by
 obtain ⟨cp, cr, cf, rfl, hK, h1, h2, h3⟩ := h
 have l4 := Hid.mk8 h1.four
 have l9 := Hid.mk8 h2.nine
 have LP := Hid.mk8 h1.len
 have LR := Hid.mk8 h2.len
 have LF := Hid.mk8 h3.len
 obtain ⟨K, p, r, f⟩ := a
 dsimp only at *
 obtain ⟨W, hW⟩ : ∃ W, W = w.alloc (.cells (Value.int .i64 K :: (cp ++ (cr ++ cf))).toArray 37) := ⟨_, rfl⟩
 have bw : Below w.heap.size w W := by rw [hW]; exact below_alloc w _
 have B0 := yc1 hW
 obtain ⟨O, hO⟩ : ∃ O, Hid (O = kOn ⟨K, p, r, f⟩) := ⟨_, rfl⟩
 rw [← hO.out]
 have N7 : Hid (∀ w0, Below w.heap.size w w0 → Calls Tryz.prog 76 #[.agg cp.toArray] w0 fun e w' => e = .returned (.bool (z7 p)) ∧ Below w0.heap.size w0 w') := fun w0 g => noPlain_c cp p w0 (h1.keep g)
 have N8 : Hid (∀ w0, Below w.heap.size w w0 → Calls Tryz.prog 77 #[.agg cr.toArray] w0 fun e w' => e = .returned (.bool (z8 r)) ∧ Below w0.heap.size w0 w') := fun w0 g => noRrr_c cr r w0 (h2.keep g)
 have N9 : Hid (∀ w0, Below w.heap.size w w0 → Calls Tryz.prog 78 #[.agg cf.toArray] w0 fun e w' => e = .returned (.bool (z9 f)) ∧ Below w0.heap.size w0 w') := fun w0 g => noFano_c cf f w0 (h3.keep g)
 clear h1 h2 h3
 subst hW
 by_cases q1 : K = 1
 ·subst q1
  cases y8 : z8 r with
  | false =>
   have E : Hid (O = 0) := by
    show O = _
    rw [hO.out]
    unfold kOn kZs
    simp [y8]
   rw [y8] at N8
   clear hO
   go_enter Tryz.func31, Tryz.ntmps31
   obtain ⟨c0, p1, p2, p3⟩ := parts l4.out l9.out B0
   go_wp2_with (refine load_part w.heap.size 5 cr (by rfl) rfl p2 Tryz.underlying33 LR.out ?_)
   refine (N8.out _ bw).mono ?_
   rintro e w8 ⟨rfl, hb⟩
   replace B0 := B0.kept hb
   replace bw := bw.trans (hb.mono bw.size)
   clear hb c0 p1 p2 p3
   obtain ⟨c0, p1, p2, p3⟩ := parts l4.out l9.out B0
   go_wp2
   go_ret
   rw [E.out]
   exact ⟨rfl, bw⟩
  | true =>
   cases y9 : z9 f with
   | false =>
    have E : Hid (O = 0) := by
     show O = _
     rw [hO.out]
     unfold kOn kZs
     simp [y8, y9]
    rw [y8] at N8
    rw [y9] at N9
    clear hO
    go_enter Tryz.func31, Tryz.ntmps31
    obtain ⟨c0, p1, p2, p3⟩ := parts l4.out l9.out B0
    go_wp2_with (refine load_part w.heap.size 5 cr (by rfl) rfl p2 Tryz.underlying33 LR.out ?_)
    refine (N8.out _ bw).mono ?_
    rintro e w8 ⟨rfl, hb⟩
    replace B0 := B0.kept hb
    replace bw := bw.trans (hb.mono bw.size)
    clear hb c0 p1 p2 p3
    obtain ⟨c0, p1, p2, p3⟩ := parts l4.out l9.out B0
    go_wp2_with (refine load_part w.heap.size 14 cf (by rfl) rfl p3 Tryz.underlying35 LF.out ?_)
    refine (N9.out _ bw).mono ?_
    rintro e w9 ⟨rfl, hb⟩
    replace B0 := B0.kept hb
    replace bw := bw.trans (hb.mono bw.size)
    clear hb c0 p1 p2 p3
    obtain ⟨c0, p1, p2, p3⟩ := parts l4.out l9.out B0
    go_wp2
    go_ret
    rw [E.out]
    exact ⟨rfl, bw⟩
   | true =>
    have E : Hid (O = 1) := by
     show O = _
     rw [hO.out]
     unfold kOn kZs
     simp [y8, y9]
    rw [y8] at N8
    rw [y9] at N9
    clear hO
    go_enter Tryz.func31, Tryz.ntmps31
    obtain ⟨c0, p1, p2, p3⟩ := parts l4.out l9.out B0
    go_wp2_with (refine load_part w.heap.size 5 cr (by rfl) rfl p2 Tryz.underlying33 LR.out ?_)
    refine (N8.out _ bw).mono ?_
    rintro e w8 ⟨rfl, hb⟩
    replace B0 := B0.kept hb
    replace bw := bw.trans (hb.mono bw.size)
    clear hb c0 p1 p2 p3
    obtain ⟨c0, p1, p2, p3⟩ := parts l4.out l9.out B0
    go_wp2_with (refine load_part w.heap.size 14 cf (by rfl) rfl p3 Tryz.underlying35 LF.out ?_)
    refine (N9.out _ bw).mono ?_
    rintro e w9 ⟨rfl, hb⟩
    replace B0 := B0.kept hb
    replace bw := bw.trans (hb.mono bw.size)
    clear hb c0 p1 p2 p3
    obtain ⟨c0, p1, p2, p3⟩ := parts l4.out l9.out B0
    go_wp2
    go_ret
    rw [E.out]
    exact ⟨rfl, bw⟩
 have d1 : (K != 1) = true := by simp [q1]
 by_cases q2 : K = 2
 ·subst q2
  cases y7 : z7 p with
  | false =>
   have E : Hid (O = 0) := by
    show O = _
    rw [hO.out]
    unfold kOn kZs
    simp [y7]
   rw [y7] at N7
   clear hO
   go_enter Tryz.func31, Tryz.ntmps31
   obtain ⟨c0, p1, p2, p3⟩ := parts l4.out l9.out B0
   go_wp2_with (refine load_part w.heap.size 1 cp (by rfl) rfl p1 Tryz.underlying29 LP.out ?_)
   refine (N7.out _ bw).mono ?_
   rintro e w7 ⟨rfl, hb⟩
   replace B0 := B0.kept hb
   replace bw := bw.trans (hb.mono bw.size)
   clear hb c0 p1 p2 p3
   obtain ⟨c0, p1, p2, p3⟩ := parts l4.out l9.out B0
   go_wp2
   go_ret
   rw [E.out]
   exact ⟨rfl, bw⟩
  | true =>
   cases y9 : z9 f with
   | false =>
    have E : Hid (O = 0) := by
     show O = _
     rw [hO.out]
     unfold kOn kZs
     simp [y7, y9]
    rw [y7] at N7
    rw [y9] at N9
    clear hO
    go_enter Tryz.func31, Tryz.ntmps31
    obtain ⟨c0, p1, p2, p3⟩ := parts l4.out l9.out B0
    go_wp2_with (refine load_part w.heap.size 1 cp (by rfl) rfl p1 Tryz.underlying29 LP.out ?_)
    refine (N7.out _ bw).mono ?_
    rintro e w7 ⟨rfl, hb⟩
    replace B0 := B0.kept hb
    replace bw := bw.trans (hb.mono bw.size)
    clear hb c0 p1 p2 p3
    obtain ⟨c0, p1, p2, p3⟩ := parts l4.out l9.out B0
    go_wp2_with (refine load_part w.heap.size 14 cf (by rfl) rfl p3 Tryz.underlying35 LF.out ?_)
    refine (N9.out _ bw).mono ?_
    rintro e w9 ⟨rfl, hb⟩
    replace B0 := B0.kept hb
    replace bw := bw.trans (hb.mono bw.size)
    clear hb c0 p1 p2 p3
    obtain ⟨c0, p1, p2, p3⟩ := parts l4.out l9.out B0
    go_wp2
    go_ret
    rw [E.out]
    exact ⟨rfl, bw⟩
   | true =>
    have E : Hid (O = 2) := by
     show O = _
     rw [hO.out]
     unfold kOn kZs
     simp [y7, y9]
    rw [y7] at N7
    rw [y9] at N9
    clear hO
    go_enter Tryz.func31, Tryz.ntmps31
    obtain ⟨c0, p1, p2, p3⟩ := parts l4.out l9.out B0
    go_wp2_with (refine load_part w.heap.size 1 cp (by rfl) rfl p1 Tryz.underlying29 LP.out ?_)
    refine (N7.out _ bw).mono ?_
    rintro e w7 ⟨rfl, hb⟩
    replace B0 := B0.kept hb
    replace bw := bw.trans (hb.mono bw.size)
    clear hb c0 p1 p2 p3
    obtain ⟨c0, p1, p2, p3⟩ := parts l4.out l9.out B0
    go_wp2_with (refine load_part w.heap.size 14 cf (by rfl) rfl p3 Tryz.underlying35 LF.out ?_)
    refine (N9.out _ bw).mono ?_
    rintro e w9 ⟨rfl, hb⟩
    replace B0 := B0.kept hb
    replace bw := bw.trans (hb.mono bw.size)
    clear hb c0 p1 p2 p3
    obtain ⟨c0, p1, p2, p3⟩ := parts l4.out l9.out B0
    go_wp2
    go_ret
    rw [E.out]
    exact ⟨rfl, bw⟩
 have d2 : (K != 2) = true := by simp [q2]
 by_cases q3 : K = 3
 ·subst q3
  cases y7 : z7 p with
  | false =>
   have E : Hid (O = 0) := by
    show O = _
    rw [hO.out]
    unfold kOn kZs
    simp [y7]
   rw [y7] at N7
   clear hO
   go_enter Tryz.func31, Tryz.ntmps31
   obtain ⟨c0, p1, p2, p3⟩ := parts l4.out l9.out B0
   go_wp2_with (refine load_part w.heap.size 1 cp (by rfl) rfl p1 Tryz.underlying29 LP.out ?_)
   refine (N7.out _ bw).mono ?_
   rintro e w7 ⟨rfl, hb⟩
   replace B0 := B0.kept hb
   replace bw := bw.trans (hb.mono bw.size)
   clear hb c0 p1 p2 p3
   obtain ⟨c0, p1, p2, p3⟩ := parts l4.out l9.out B0
   go_wp2
   go_ret
   rw [E.out]
   exact ⟨rfl, bw⟩
  | true =>
   cases y8 : z8 r with
   | false =>
    have E : Hid (O = 0) := by
     show O = _
     rw [hO.out]
     unfold kOn kZs
     simp [y7, y8]
    rw [y7] at N7
    rw [y8] at N8
    clear hO
    go_enter Tryz.func31, Tryz.ntmps31
    obtain ⟨c0, p1, p2, p3⟩ := parts l4.out l9.out B0
    go_wp2_with (refine load_part w.heap.size 1 cp (by rfl) rfl p1 Tryz.underlying29 LP.out ?_)
    refine (N7.out _ bw).mono ?_
    rintro e w7 ⟨rfl, hb⟩
    replace B0 := B0.kept hb
    replace bw := bw.trans (hb.mono bw.size)
    clear hb c0 p1 p2 p3
    obtain ⟨c0, p1, p2, p3⟩ := parts l4.out l9.out B0
    go_wp2_with (refine load_part w.heap.size 5 cr (by rfl) rfl p2 Tryz.underlying33 LR.out ?_)
    refine (N8.out _ bw).mono ?_
    rintro e w8 ⟨rfl, hb⟩
    replace B0 := B0.kept hb
    replace bw := bw.trans (hb.mono bw.size)
    clear hb c0 p1 p2 p3
    obtain ⟨c0, p1, p2, p3⟩ := parts l4.out l9.out B0
    go_wp2
    go_ret
    rw [E.out]
    exact ⟨rfl, bw⟩
   | true =>
    have E : Hid (O = 3) := by
     show O = _
     rw [hO.out]
     unfold kOn kZs
     simp [y7, y8]
    rw [y7] at N7
    rw [y8] at N8
    clear hO
    go_enter Tryz.func31, Tryz.ntmps31
    obtain ⟨c0, p1, p2, p3⟩ := parts l4.out l9.out B0
    go_wp2_with (refine load_part w.heap.size 1 cp (by rfl) rfl p1 Tryz.underlying29 LP.out ?_)
    refine (N7.out _ bw).mono ?_
    rintro e w7 ⟨rfl, hb⟩
    replace B0 := B0.kept hb
    replace bw := bw.trans (hb.mono bw.size)
    clear hb c0 p1 p2 p3
    obtain ⟨c0, p1, p2, p3⟩ := parts l4.out l9.out B0
    go_wp2_with (refine load_part w.heap.size 5 cr (by rfl) rfl p2 Tryz.underlying33 LR.out ?_)
    refine (N8.out _ bw).mono ?_
    rintro e w8 ⟨rfl, hb⟩
    replace B0 := B0.kept hb
    replace bw := bw.trans (hb.mono bw.size)
    clear hb c0 p1 p2 p3
    obtain ⟨c0, p1, p2, p3⟩ := parts l4.out l9.out B0
    go_wp2
    go_ret
    rw [E.out]
    exact ⟨rfl, bw⟩
 have d3 : (K != 3) = true := by simp [q3]
 cases y7 : z7 p with
 | false =>
  have E : Hid (O = 0) := by
   show O = _
   rw [hO.out]
   unfold kOn kZs
   simp [q1, q2, q3, y7]
  rw [y7] at N7
  clear hO
  go_enter Tryz.func31, Tryz.ntmps31
  obtain ⟨c0, p1, p2, p3⟩ := parts l4.out l9.out B0
  go_wp2_with (refine load_part w.heap.size 1 cp (by rfl) rfl p1 Tryz.underlying29 LP.out ?_)
  refine (N7.out _ bw).mono ?_
  rintro e w7 ⟨rfl, hb⟩
  replace B0 := B0.kept hb
  replace bw := bw.trans (hb.mono bw.size)
  clear hb c0 p1 p2 p3
  obtain ⟨c0, p1, p2, p3⟩ := parts l4.out l9.out B0
  go_wp2
  go_ret
  rw [E.out]
  exact ⟨rfl, bw⟩
 | true =>
  cases y8 : z8 r with
  | false =>
   have E : Hid (O = 0) := by
    show O = _
    rw [hO.out]
    unfold kOn kZs
    simp [q1, q2, q3, y7, y8]
   rw [y7] at N7
   rw [y8] at N8
   clear hO
   go_enter Tryz.func31, Tryz.ntmps31
   obtain ⟨c0, p1, p2, p3⟩ := parts l4.out l9.out B0
   go_wp2_with (refine load_part w.heap.size 1 cp (by rfl) rfl p1 Tryz.underlying29 LP.out ?_)
   refine (N7.out _ bw).mono ?_
   rintro e w7 ⟨rfl, hb⟩
   replace B0 := B0.kept hb
   replace bw := bw.trans (hb.mono bw.size)
   clear hb c0 p1 p2 p3
   obtain ⟨c0, p1, p2, p3⟩ := parts l4.out l9.out B0
   go_wp2_with (refine load_part w.heap.size 5 cr (by rfl) rfl p2 Tryz.underlying33 LR.out ?_)
   refine (N8.out _ bw).mono ?_
   rintro e w8 ⟨rfl, hb⟩
   replace B0 := B0.kept hb
   replace bw := bw.trans (hb.mono bw.size)
   clear hb c0 p1 p2 p3
   obtain ⟨c0, p1, p2, p3⟩ := parts l4.out l9.out B0
   go_wp2
   go_ret
   rw [E.out]
   exact ⟨rfl, bw⟩
  | true =>
   cases y9 : z9 f with
   | false =>
    have E : Hid (O = 0) := by
     show O = _
     rw [hO.out]
     unfold kOn kZs
     simp [q1, q2, q3, y7, y8, y9]
    rw [y7] at N7
    rw [y8] at N8
    rw [y9] at N9
    clear hO
    go_enter Tryz.func31, Tryz.ntmps31
    obtain ⟨c0, p1, p2, p3⟩ := parts l4.out l9.out B0
    go_wp2_with (refine load_part w.heap.size 1 cp (by rfl) rfl p1 Tryz.underlying29 LP.out ?_)
    refine (N7.out _ bw).mono ?_
    rintro e w7 ⟨rfl, hb⟩
    replace B0 := B0.kept hb
    replace bw := bw.trans (hb.mono bw.size)
    clear hb c0 p1 p2 p3
    obtain ⟨c0, p1, p2, p3⟩ := parts l4.out l9.out B0
    go_wp2_with (refine load_part w.heap.size 5 cr (by rfl) rfl p2 Tryz.underlying33 LR.out ?_)
    refine (N8.out _ bw).mono ?_
    rintro e w8 ⟨rfl, hb⟩
    replace B0 := B0.kept hb
    replace bw := bw.trans (hb.mono bw.size)
    clear hb c0 p1 p2 p3
    obtain ⟨c0, p1, p2, p3⟩ := parts l4.out l9.out B0
    go_wp2_with (refine load_part w.heap.size 14 cf (by rfl) rfl p3 Tryz.underlying35 LF.out ?_)
    refine (N9.out _ bw).mono ?_
    rintro e w9 ⟨rfl, hb⟩
    replace B0 := B0.kept hb
    replace bw := bw.trans (hb.mono bw.size)
    clear hb c0 p1 p2 p3
    obtain ⟨c0, p1, p2, p3⟩ := parts l4.out l9.out B0
    go_wp2
    go_ret
    rw [E.out]
    exact ⟨rfl, bw⟩
   | true =>
    have E : Hid (O = K) := by
     show O = _
     rw [hO.out]
     unfold kOn kZs
     simp [q1, q2, q3, y7, y8, y9]
    rw [y7] at N7
    rw [y8] at N8
    rw [y9] at N9
    clear hO
    go_enter Tryz.func31, Tryz.ntmps31
    obtain ⟨c0, p1, p2, p3⟩ := parts l4.out l9.out B0
    go_wp2_with (refine load_part w.heap.size 1 cp (by rfl) rfl p1 Tryz.underlying29 LP.out ?_)
    refine (N7.out _ bw).mono ?_
    rintro e w7 ⟨rfl, hb⟩
    replace B0 := B0.kept hb
    replace bw := bw.trans (hb.mono bw.size)
    clear hb c0 p1 p2 p3
    obtain ⟨c0, p1, p2, p3⟩ := parts l4.out l9.out B0
    go_wp2_with (refine load_part w.heap.size 5 cr (by rfl) rfl p2 Tryz.underlying33 LR.out ?_)
    refine (N8.out _ bw).mono ?_
    rintro e w8 ⟨rfl, hb⟩
    replace B0 := B0.kept hb
    replace bw := bw.trans (hb.mono bw.size)
    clear hb c0 p1 p2 p3
    obtain ⟨c0, p1, p2, p3⟩ := parts l4.out l9.out B0
    go_wp2_with (refine load_part w.heap.size 14 cf (by rfl) rfl p3 Tryz.underlying35 LF.out ?_)
    refine (N9.out _ bw).mono ?_
    rintro e w9 ⟨rfl, hb⟩
    replace B0 := B0.kept hb
    replace bw := bw.trans (hb.mono bw.size)
    clear hb c0 p1 p2 p3
    obtain ⟨c0, p1, p2, p3⟩ := parts l4.out l9.out B0
    go_wp2
    go_ret
    rw [E.out]
    exact ⟨rfl, bw⟩
end Go.Proofs.YtpeecabfcgijhaaGreatDoor
namespace Go.Proofs.YtpeecabfcgijhaaGreatDoor
open Num
namespace Bit
def grp (xs : List Nat) (g : Nat) : List Nat := (xs.drop (8 * g)).take 8
theorem length_grp (xs : List Nat) (g : Nat) : (grp xs g).length = min 8 (xs.length - 8 * g) := by simp [grp]
theorem gt_grp (xs : List Nat) (g k : Nat) (h : k < 8) : gt (grp xs g) k = gt xs (8 * g + k) := by
 unfold gt grp
 rw [List.getD_eq_getElem?_getD, List.getD_eq_getElem?_getD, List.getElem?_take_of_lt h, List.getElem?_drop]
theorem fit_grp (xs : List Nat) (hf : Fit xs) (g : Nat) : Fit (grp xs g) := by
 intro i
 by_cases h : i < 8
 ·rw [gt_grp xs g i h]; exact hf _
 ·rw [gt_out _ _ (by rw [length_grp]; omega)]; decide
theorem bitAt_grp (xs : List Nat) (g i : Nat) (h : i < 512) : bitAt (grp xs g) i = bitAt xs (512 * g + i) := by
 unfold bitAt
 rw [gt_grp xs g (i / 64) (by omega), show (512 * g + i) / 64 = 8 * g + i / 64 by omega, show (512 * g + i) % 64 = i % 64 by omega]
theorem cntB_grp (xs : List Nat) (g : Nat) : ∀ i, i ≤ 512 → cntB xs (512 * g + i) = cntB xs (512 * g) + cntB (grp xs g) i
 | 0, _ => by simp [cntB]
 | i + 1, h => by
  have ih := cntB_grp xs g i (by omega)
  rw [show 512 * g + (i + 1) = 512 * g + i + 1 by omega]
  simp only [cntB]
  rw [ih, bitAt_grp xs g i (by omega)]
  omega
theorem bitAt_out (xs : List Nat) (i : Nat) (h : 64 * xs.length ≤ i) : bitAt xs i = false := by
 unfold bitAt
 rw [gt_out xs _ (by omega)]
 simp
theorem cntB_out (xs : List Nat) (d : Nat) : cntB xs (64 * xs.length + d) = cntB xs (64 * xs.length) := by
 induction d with
 | zero => rfl
 | succ d ih =>
  rw [show 64 * xs.length + (d + 1) = 64 * xs.length + d + 1 by omega]
  simp only [cntB]
  rw [ih, bitAt_out xs _ (by omega)]
  simp
theorem cntB_all (xs : List Nat) (g : Nat) : cntB xs (512 * (g + 1)) = cntB xs (512 * g) + cntB (grp xs g) (64 * (grp xs g).length) := by
 have a := cntB_grp xs g 512 (by omega)
 have hl : (grp xs g).length ≤ 8 := by rw [length_grp]; omega
 have b := cntB_out (grp xs g) (512 - 64 * (grp xs g).length)
 rw [show 64 * (grp xs g).length + (512 - 64 * (grp xs g).length) = 512 by omega] at b
 rw [show 512 * (g + 1) = 512 * g + 512 by omega, a, b]
def ahP (ws : List Nat) (q : Nat) : List Int := (List.range 8).map fun j => if j < q then (cntB ws (64 * j) : Int) else 0
def ahd (ws : List Nat) : List Int := ahP ws ws.length
theorem length_ahP (ws : List Nat) (q : Nat) : (ahP ws q).length = 8 := by simp [ahP]
theorem length_ahd (ws : List Nat) : (ahd ws).length = 8 := length_ahP _ _
theorem gi_ahP (ws : List Nat) (q i : Nat) (h : i < 8) : gi (ahP ws q) i = if i < q then (cntB ws (64 * i) : Int) else 0 := gi_map _ _ _ h
theorem ahP_zero (ws : List Nat) : ahP ws 0 = List.replicate 8 0 := by
 unfold ahP
 simp
 rfl
theorem gi_set (l : List Int) (i j : Nat) (v : Int) (h : i < l.length) : gi (l.set i v) j = if i = j then v else gi l j := by
 unfold gi
 rw [List.getD_eq_getElem?_getD, List.getD_eq_getElem?_getD, List.getElem?_set]
 by_cases c : i = j
 ·subst c; simp [h]
 ·simp [c]
theorem ahP_step (ws : List Nat) (q : Nat) (h : q < 8) : (ahP ws q).set q (cntB ws (64 * q) : Int) = ahP ws (q + 1) := by
 refine gi_ext (by simp [length_ahP]) fun i hi => ?_
 rw [List.length_set, length_ahP] at hi
 rw [gi_set _ _ _ _ (by rw [length_ahP]; exact h), gi_ahP _ _ _ hi, gi_ahP _ _ _ hi]
 by_cases c : q = i
 ·subst c; rw [if_pos rfl, if_pos (by omega)]
 ·rw [if_neg c]
  by_cases d : i < q
  ·rw [if_pos d, if_pos (by omega)]
  ·rw [if_neg d, if_neg (by omega)]
theorem cntB_step (ws : List Nat) (q : Nat) : cntB ws (64 * (q + 1)) = cntB ws (64 * q) + cnt (gt ws q) 64 := by
 have := cntB_word ws q 64 (Nat.le_refl _)
 rw [show 64 * (q + 1) = 64 * q + 64 by omega]
 exact this
def ahT (xs : List Nat) (g : Nat) : List Int := (ahd (grp xs g)).take (grp xs g).length
theorem length_ahT (xs : List Nat) (g : Nat) : (ahT xs g).length = (grp xs g).length := by
 unfold ahT
 rw [List.length_take, length_ahd, length_grp]
 omega
theorem gi_take (l : List Int) (n i : Nat) (h : i < n) : gi (l.take n) i = gi l i := by
 unfold gi
 rw [List.getD_eq_getElem?_getD, List.getD_eq_getElem?_getD, List.getElem?_take_of_lt h]
theorem gi_drop (l : List Int) (n i : Nat) : gi (l.drop n) i = gi l (n + i) := by
 unfold gi
 rw [List.getD_eq_getElem?_getD, List.getD_eq_getElem?_getD, List.getElem?_drop]
theorem gi_ahT (xs : List Nat) (g i : Nat) (h : i < (grp xs g).length) : gi (ahT xs g) i = (cntB (grp xs g) (64 * i) : Int) := by
 have := length_grp xs g
 unfold ahT
 rw [gi_take _ _ _ h]
 unfold ahd
 rw [gi_ahP _ _ _ (by omega), if_pos h]
theorem chk_len (N : Int) (xs : List Nat) (h : chk N xs = true) : ∃ m : Nat, N = (m : Int) ∧ m ≤ 1048576 ∧ xs.length = (m + 63) / 64 := by
 obtain ⟨h0, h1, h2, _⟩ := chk_out N xs h
 exact ⟨N.toNat, by omega, by omega, by omega⟩
theorem onesI_ok (m : Nat) (xs : List Nat) (hk : chk (m : Int) xs = true) (i : Nat) (hi : i ≤ m) : onesI (m : Int) xs (i : Int) = (cntB xs i : Int) := by
 unfold onesI
 rw [if_pos hk, show (min (i : Int) (m : Int)).toNat = i by omega]
theorem supI_ok (m : Nat) (xs : List Nat) (hk : chk (m : Int) xs = true) (g : Nat) (hg : g ≤ m / 512) : supI (m : Int) xs g = (cntB xs (512 * g) : Int) := by
 unfold supI
 have := onesI_ok m xs hk (512 * g) (by omega)
 rw [← this]
 congr 1
theorem subI_ok (m : Nat) (xs : List Nat) (hk : chk (m : Int) xs = true) (hl : xs.length = (m + 63) / 64) (g i : Nat) (hi : i < (grp xs g).length) : subI (m : Int) xs (8 * g + i) = (cntB (grp xs g) (64 * i) : Int) := by
 rw [length_grp] at hi
 unfold subI
 have a := onesI_ok m xs hk (64 * (8 * g + i)) (by omega)
 have b := supI_ok m xs hk g (by omega)
 have c := cntB_grp xs g (64 * i) (by omega)
 rw [show 512 * g + 64 * i = 64 * (8 * g + i) by omega] at c
 rw [show (64 * ((8 * g + i : Nat) : Int)) = ((64 * (8 * g + i) : Nat) : Int) by omega, a, show (8 * g + i) / 8 = g by omega, b, c]
 omega
theorem subP_grp (m : Nat) (xs : List Nat) (hk : chk (m : Int) xs = true) (hl : xs.length = (m + 63) / 64) (g : Nat) (hg : 8 * g ≤ xs.length) : subP (m : Int) xs (8 * g) ++ ahT xs g = subP (m : Int) xs (8 * g + (grp xs g).length) := by
 refine gi_ext (by rw [List.length_append, length_subP, length_subP, length_ahT]) fun i hi => ?_
 rw [List.length_append, length_subP, length_ahT] at hi
 rw [gi_subP _ _ _ _ hi]
 by_cases c : i < 8 * g
 ·have : gi (subP (m : Int) xs (8 * g) ++ ahT xs g) i = gi (subP (m : Int) xs (8 * g)) i := by
   unfold gi
   rw [List.getD_eq_getElem?_getD, List.getD_eq_getElem?_getD, List.getElem?_append_left (by rw [length_subP]; exact c)]
  rw [this, gi_subP _ _ _ _ c]
 ·have : gi (subP (m : Int) xs (8 * g) ++ ahT xs g) i = gi (ahT xs g) (i - 8 * g) := by
   unfold gi
   rw [List.getD_eq_getElem?_getD, List.getD_eq_getElem?_getD, List.getElem?_append_right (by rw [length_subP]; omega), length_subP]
  rw [this, gi_ahT xs g _ (by omega), ← subI_ok m xs hk hl g (i - 8 * g) (by omega), show 8 * g + (i - 8 * g) = i by omega]
def wb (xs : List Nat) (bit : Bool) (j : Nat) : Nat := if bit then gt xs j else 18446744073709551615 - gt xs j
theorem pchk_nat (N : Int) (xs : List Nat) (su sb : List Int) (h : pchk N xs su sb = true) : ∃ m : Nat, N = (m : Int) ∧ m ≤ 1048576 ∧ xs.length = (m + 63) / 64 ∧ chk (m : Int) xs = true ∧ su = supL (m : Int) xs ∧ sb = subL (m : Int) xs := by
 obtain ⟨a, b, c⟩ := pchk_out N xs su sb h
 obtain ⟨m, rfl, h1, h2⟩ := chk_len N xs a
 exact ⟨m, rfl, h1, h2, a, b, c⟩
end Bit
end Go.Proofs.YtpeecabfcgijhaaGreatDoor
namespace Go.Proofs.YtpeecabfcgijhaaGreatDoor
open Go.RowKit Num Bit
theorem groups_c (m : Nat) (hm : m ≤ 1048576) (ao : Option Addr) (n cap : Nat) (w : World) :
  Calls Tryz.prog 66 #[.agg #[.int .i64 m, .slice ao n cap]] w fun e w' => e = .returned (.int .i64 ((m / 512 + 1 : Nat) : Int)) ∧ Below w.heap.size w w' := by
 go_enter Tryz.func66, Tryz.ntmps66
 go_wp2
 go_ret
 exact ⟨ret_int (by omega), below_alloc w _⟩
theorem ret_slice {a : Option Addr} {n k c : Nat} (h : n = k) : Ending.returned (.slice a n c) = .returned (.slice a k c) := by rw [h]
theorem wd_grp {w w' : World} {b off : Nat} {xs : List Nat} (hb : b < w.heap.size) (hcc : ∀ i, i < xs.length → w.cell? ⟨b, off + i, none⟩ = some (.int .u64 (gt xs i))) (hw : Below w.heap.size w w') (g : Nat) : Wd w' (some ⟨b, off + 8 * g, none⟩) (grp xs g) := by
 intro h0
 refine ⟨b, off + 8 * g, rfl, Nat.lt_of_lt_of_le hb hw.size, fun i hi => ?_⟩
 rw [length_grp] at hi
 rw [gt_grp xs g i (by omega), hw.cell (p := ⟨b, off + 8 * g + i, none⟩) hb, Nat.add_assoc]
 exact hcc _ (by omega)
theorem wd_nil (w : World) (bo : Option Addr) {xs : List Nat} (h : xs.length = 0) : Wd w bo xs := fun h0 => absurd h0 (by omega)
def WOut (xs : List Nat) (g : Nat) (w : World) (e : Ending) (w' : World) : Prop := ∃ bo bc, e = .returned (.slice bo (grp xs g).length bc) ∧ Wd w' bo (grp xs g) ∧ Below w.heap.size w w'
theorem wout0 {xs : List Nat} {g n : Nat} {w w' : World} {e : Ending} {bo : Option Addr} {k bc : Nat} (hn : Hid (n = xs.length)) (hw : Below w.heap.size w w') (he : e = .returned (.slice bo k bc)) (h8 : n ≤ 8 * g) (hk : k = 0) : WOut xs g w e w' := by
 have h0 : (grp xs g).length = 0 := by rw [length_grp]; have := hn.out; omega
 subst he hk
 exact ⟨bo, bc, ret_slice h0.symm, wd_nil _ _ h0, hw⟩
theorem wout1 {xs : List Nat} {g n : Nat} {w w' : World} {e : Ending} {b off : Nat} {k bc : Nat} (hn : Hid (n = xs.length)) (hx : Hid (Wd w (some ⟨b, off, none⟩) xs)) (hw : Below w.heap.size w w') (o2 : Nat) (he : e = .returned (.slice (some ⟨b, o2, none⟩) k bc)) (h8 : 8 * g < n) (ho : o2 = off + 8 * g) (hk : k = min (8 * g + 8) n - 8 * g) : WOut xs g w e w' := by
 have h0 : (grp xs g).length = k := by rw [length_grp]; have := hn.out; omega
 obtain ⟨b', off', e2, hb, hcc⟩ := hx.out (by have := hn.out; omega)
 simp only [Option.some.injEq, Addr.mk.injEq] at e2
 obtain ⟨rfl, rfl, _⟩ := e2
 subst he ho
 exact ⟨_, bc, ret_slice h0.symm, wd_grp hb hcc hw g, hw⟩
theorem wordsOf_o (m : Nat) (hm : m ≤ 1048576) (ao : Option Addr) (xs : List Nat) (cap n g : Nat) (HN : Hid (n = xs.length)) (l1 : 8 * g ≤ n) (l2 : n ≤ 16384) (hcap : n ≤ cap) (w : World) (HX : Hid (Wd w ao xs)) :
  Calls Tryz.prog 67 #[.agg #[.int .i64 m, .slice ao n cap], .int .i64 g] w (WOut xs g w) := by
 by_cases h8 : n = 8 * g
 ·have d1 : (n : Int) < ((g : Int) + 1) * 8 := by omega
  cases ao with
  | none =>
   go_enter Tryz.func67, Tryz.ntmps67
   go_wp2
   all_goals go_ret
   all_goals exact wout0 HN (below_alloc w _) rfl (by omega) (by omega)
  | some a =>
   go_enter Tryz.func67, Tryz.ntmps67
   go_wp2
   all_goals go_ret
   all_goals exact wout0 HN (below_alloc w _) rfl (by omega) (by omega)
 ·obtain ⟨b, off, rfl, hb, hcc⟩ := HX.out (by have := HN.out; omega)
  clear hcc hb
  have h8' : 8 * g < n := by omega
  have h9 : 8 * g < cap := by omega
  by_cases h10 : n < 8 * g + 8
  ·have d1 : (n : Int) < ((g : Int) + 1) * 8 := by omega
   go_enter Tryz.func67, Tryz.ntmps67
   go_wp2
   all_goals go_ret
   all_goals exact wout1 HN HX (below_alloc w _) _ rfl (by omega) (by omega) (by omega)
  ·have d1 : ¬ (n : Int) < ((g : Int) + 1) * 8 := by omega
   have d2 : ((g : Int) + 1) * 8 ≤ (n : Int) := by omega
   go_enter Tryz.func67, Tryz.ntmps67
   go_wp2
   all_goals go_ret
   all_goals exact wout1 HN HX (below_alloc w _) _ rfl (by omega) (by omega) (by omega)
theorem wordsOf_c (m : Nat) (hm : m ≤ 1048576) (ao : Option Addr) (xs : List Nat) (cap : Nat) (hl : xs.length = (m + 63) / 64) (hcap : xs.length ≤ cap) (g : Nat) (hg : g ≤ m / 512) (w : World) (hx : Wd w ao xs) :
  Calls Tryz.prog 67 #[.agg #[.int .i64 m, .slice ao xs.length cap], .int .i64 g] w fun e w' => ∃ bo bc, e = .returned (.slice bo (grp xs g).length bc) ∧ Wd w' bo (grp xs g) ∧ Below w.heap.size w w' :=
 wordsOf_o m hm ao xs cap xs.length g rfl (by omega) (by omega) hcap w hx
theorem info_arr : (Tryz.prog.info? 102).map (fun i => (i.zero, i.size)) = some (some (.agg (iv (List.replicate 8 0)).toArray), 8) := by kernel_rfl
theorem arr_size (l : List Int) (h : l.length = 8) : (Tryz.prog.info? 102).map (·.size) = some (iv l).toArray.size := by
 rw [(zero_of_info info_arr).2, List.size_toArray, length_iv, h]
theorem one_iv (l : List Int) : (iv l).toArray.all (·.oneCell') = true := by
 rw [List.all_toArray, List.all_eq_true]
 intro v hv
 obtain ⟨a, _, rfl⟩ := List.mem_map.1 hv
 rfl
theorem cel_iv {w : World} {g : Nat} {l : List Int} {T : TypeId} (h : Cel w g (iv l) T) (j : Nat) (hj : j < l.length) : w.cell? ⟨g, j, none⟩ = some (.int .i64 (gi l j)) := h.cell j (iv_get l j hj)
theorem cel_iset {w : World} {g : Nat} {l : List Int} {T : TypeId} (h : Cel w g (iv l) T) (j : Nat) (v : Int) : Cel (w.setCell ⟨g, j, none⟩ (.int .i64 v)) g (iv (l.set j v)) T := by
 have := h.set j (.int .i64 v)
 rwa [show (iv l).set j (.int .i64 v) = iv (l.set j v) by simp [iv, List.map_set]] at this
theorem alloc_arr {ops : Array Oper} {rest : List Oper} {d : Option Tmp} {ty : TypeId} {ps : String} {af : Array Edge} {a : Act} {w : World} {Q : Exit → Act → World → Prop}
  (h : ∀ w1, Cel w1 w.heap.size (iv (List.replicate 8 0)) 102 → Below w.heap.size w w1 → w.heap.size < w1.heap.size → wpList Tryz.prog ops Q rest (a.put d (.pointer (some ⟨w.heap.size, 0, none⟩))) w1) :
  wpList Tryz.prog ops Q (⟨d, .alloc 102, ty, ps, af, none⟩ :: rest) a w := by
 refine wpList_plain rfl fun K hK => ?_
 unfold Oper.wp execOp
 have z := (zero_of_info info_arr).1
 have nw := h _ (Cel.new w _ _) (below_alloc w _) (by simp)
 refine cast ?_ (hK _ _ nw)
 simp [Instr.alloc, Sem.run_bind, z, newVar, Value.cells, go_sem]
theorem store_arr {ops : Array Oper} {rest : List Oper} {d : Option Tmp} {ty : TypeId} {ps : String} {af : Array Edge} {a : Act} {w : World} {Q : Exit → Act → World → Prop} {x y : Operand}
  (g : Nat) (old ys : List Int) (hx : a.eval x = .pointer (some ⟨g, 0, none⟩)) (hy : a.eval y = .agg (iv ys).toArray) (hc : Cel w g (iv old) 102) (lo : old.length = 8) (ly : ys.length = 8)
  (h : ∀ w1, Cel w1 g (iv ys) 102 → Only g w w1 → wpList Tryz.prog ops Q rest (a.put d undef) w1) :
  wpList Tryz.prog ops Q (⟨d, .store 102 x y, ty, ps, af, none⟩ :: rest) a w :=
 wpList_store_row rfl _ x y rfl g _ hx hy _ _ hc (arr_size ys ly) (by simp [length_iv, lo, ly]) (one_iv ys) (h _ (setRow_heap w g _ _ _ _ hc) (Only.row g w _))
theorem load_arr {ops : Array Oper} {rest : List Oper} {d : Option Tmp} {ty : TypeId} {ps : String} {af : Array Edge} {a : Act} {w : World} {Q : Exit → Act → World → Prop} {x : Operand}
  (g : Nat) (ys : List Int) (hx : a.eval x = .pointer (some ⟨g, 0, none⟩)) (hc : Cel w g (iv ys) 102) (ly : ys.length = 8)
  (h : wpList Tryz.prog ops Q rest (a.put d (.agg (iv ys).toArray)) w) :
  wpList Tryz.prog ops Q (⟨d, .load 102 x, ty, ps, af, none⟩ :: rest) a w :=
 wpList_load_row rfl _ x rfl g hx _ _ _ _ hc Tryz.underlying102 rfl (arr_size ys ly) h
theorem result_arr {fn : Func} {p : Tmp} {w : World} {tmps : Array Value} {u : Tmp} (h : fn.results = #[.cell p 102, .tmp u]) (g : Nat) (ys : List Int) (ly : ys.length = 8) (hp : tmps.getD p undef = .pointer (some ⟨g, 0, none⟩)) (hc : Cel w g (iv ys) 102) :
  (results fn tmps).run Tryz.prog w = .ok (.tuple #[.agg (iv ys).toArray, tmps.getD u undef]) w := by
 have hp' : tmps[p]?.getD undef = .pointer (some ⟨g, 0, none⟩) := by simpa using hp
 have hl := run_loadVar_row (P := Tryz.prog) w g 102 102 (iv ys).toArray (0, 0) _ hc Tryz.underlying102 rfl (arr_size ys ly)
 simp [results, h, hp', asAddr, hl]
theorem counted_c (ao : Option Addr) (ws : List Nat) (cap : Nat) (w : World) (hx : Wd w ao ws) (hf : Fit ws) (hl : ws.length ≤ 8) :
  Calls Tryz.prog 68 #[.slice ao ws.length cap] w fun e w' => e = .returned (.tuple #[.agg (iv (ahd ws)).toArray, .int .i64 (cntB ws (64 * ws.length) : Nat)]) ∧ Below w.heap.size w w' := by
 go_enter Tryz.func68, Tryz.ntmps68
 go_wp2_with (refine alloc_arr ?_)
 intro w1 hc1 hb1 hs1
 go_wp2_with (refine alloc_arr ?_)
 intro w2 hc2 hb2 hs2
 have hA : Below w.heap.size w w2 := hb1.trans (hb2.mono (by omega))
 have hR := hc1.kept hb2
 have hlt : w.heap.size < w1.heap.size := hs1
 clear hc1 hb1 hs1 hb2 hs2
 generalize w1.heap.size = g at *
 simp only [Act.put, yq3, List.set]
 go_wp2
 go_loopw [5, 9] (fun t s wr => ∃ q : Nat, q ≤ ws.length ∧ s = .int .i64 q ∧ t = .int .i64 (cntB ws (64 * q) : Nat) ∧ Cel wr g (iv (ahP ws q)) 102 ∧ Cel wr w.heap.size (iv (List.replicate 8 0)) 102 ∧ Below w.heap.size w wr) (fun _ s _ => ws.length - (intOf s).toNat)
 case atStart => exact ⟨0, Nat.zero_le _, rfl, rfl, by rw [ahP_zero]; exact hc2, hR, hA⟩
 case round =>
  obtain ⟨q, hq, rfl, rfl, hc, hr, hb⟩ := hrel
  clear hc2 hR hA
  by_cases hi : q < ws.length
  ·have hi2 : (q : Int) < (ws.length : Int) := by omega
   have hi3 : (q : Int) < 8 := by omega
   obtain ⟨b, off, rfl, hbl, hcc⟩ := hx (by omega)
   have e1 := cel_iv hc q (by rw [length_ahP]; omega)
   have fz := hc.frozen q
   have st := cel_iset hc q (cntB ws (64 * q) : Nat)
   rw [ahP_step ws q (by omega)] at st
   have hr2 := hr.other (a := ⟨g, q, none⟩) (by show w.heap.size ≠ g; omega) (.int .i64 (cntB ws (64 * q) : Nat))
   have hb2 : Below w.heap.size w (wr.setCell ⟨g, q, none⟩ (.int .i64 (cntB ws (64 * q) : Nat))) := hb.setCell (by show w.heap.size ≤ g; omega) _
   have e2 := (hb2.cell (p := ⟨b, off + q, none⟩) hbl).trans (hcc q hi)
   have bd := cntB_le ws (64 * q)
   have stp := cntB_step ws q
   have hfq := hf q
   have hp : Hid (popI (gt ws q : Int) = ((cnt (gt ws q) 64 : Nat) : Int)) := by show popI (gt ws q : Int) = _; unfold popI; rw [Int.toNat_natCast]
   have hc64 := cnt_le (gt ws q) 64
   have C : Hid (∀ w0, Calls Tryz.prog 122 #[.int .u64 (gt ws q : Int)] w0 fun e w' => e = .returned (.int .i64 ((cnt (gt ws q) 64 : Nat) : Int)) ∧ w' = w0) := by
    intro w0
    have := pop_c (gt ws q : Int) (Int.natCast_nonneg _) (Int.ofNat_lt.2 hfq) w0
    rw [hp.out] at this
    exact this
   have HF : Hid (Cel (wr.setCell ⟨g, q, none⟩ (.int .i64 (cntB ws (64 * q) : Nat))) g (iv (ahP ws (q + 1))) 102 ∧ Cel (wr.setCell ⟨g, q, none⟩ (.int .i64 (cntB ws (64 * q) : Nat))) w.heap.size (iv (List.replicate 8 0)) 102 ∧ Below w.heap.size w (wr.setCell ⟨g, q, none⟩ (.int .i64 (cntB ws (64 * q) : Nat)))) := ⟨st, hr2, hb2⟩
   have HS : Hid (cntB ws (64 * (q + 1)) = cntB ws (64 * q) + cnt (gt ws q) 64) := stp
   clear st hr2 hb2 hc hr hb hcc hp stp
   generalize cnt (gt ws q) 64 = D at *
   generalize cntB ws (64 * q) = Z at *
   go_wp2_with fail
   refine (C.out _).mono ?_
   rintro e w4 ⟨rfl, rfl⟩
   go_wp2
   refine ⟨⟨q + 1, by omega, by go_num, ?_, HF.out⟩, by simp only [intOf]; omega⟩
   rw [HS.out]
   go_num
  ·obtain rfl : q = ws.length := by omega
   have HB : Hid (Below w.heap.size w wr) := hb
   clear hb hx
   go_wp2_with (first | refine load_arr g _ rfl hc (length_ahP _ _) ?_ | refine store_arr w.heap.size _ _ rfl rfl hr (by simp) (length_ahP _ _) ?_)
   intro w5 hc5 hb5
   have HC : Hid (Cel w5 w.heap.size (iv (ahd ws)) 102) := hc5
   have HB5 : Hid (Below w.heap.size w w5) := HB.out.trans (hb5.below (Nat.le_refl _))
   clear hc5 hb5 hc hr
   go_wp2
   (try simp only [Exit.inBlock, Exit.then])
   exact bodyPost_ret (result_arr rfl w.heap.size (ahd ws) (length_ahd ws) rfl HC.out) rfl ⟨rfl, HB5.out⟩
end Go.Proofs.YtpeecabfcgijhaaGreatDoor
