/-
  The contract of the function that the program's Check hands to along.
-/
import Derived.Test.YtfnkklkdajlhlaaGreatDoorB18
set_option linter.unusedVariables false
set_option linter.unusedSimpArgs false
set_option maxRecDepth 100000
set_option maxHeartbeats 16000000
namespace Go.Proofs.YtfnkklkdajlhlaaGreatDoor
open Go.RowKit Num Bit Bn
theorem Only.fr {g lo hi : Nat} {w w' : World} (h : Only g w w') (h1 : lo ≤ g) (h2 : g < hi) : Fr8 lo hi w w' := ⟨h.below h1, fun b hb _ => h.block b (by omega)⟩
theorem info_blk : (Tryz.prog.info? 165).map (·.size) = some 2 := by kernel_rfl
theorem info_mrk : (Tryz.prog.info? 149).map (·.size) = some 2 := by kernel_rfl
def Rgt (a : RA8) (i : Nat) : Prop := cOff a.L a.ys a.xs i < ch 15 (cls a.xs i) ∧ (i % 8 = 0 → gi a.S (i / 8) = cOn a.xs i ∧ gi a.T (i / 8) = cAt a.xs i)
theorem qcheck1_c (cs : List Value) (a : RA8) (i gl gx lo hi : Nat) (old : List Value) (w0 w : World) (h : KI8 w0 cs a) (hb : Below w0.heap.size w0 w) (hlo : lo = w0.heap.size) (hil : i ≤ 1048576) (h8s : i / 8 < a.S.length) (h8t : i / 8 < a.T.length)
  (hcl : Cel w gl old 165) (ho : old.length = 2) (hcx : Cel w gx cs 41) (h2 : gl ≠ gx) (h3 : lo ≤ gl) (h4 : gl < hi) (h5 : hi ≤ w.heap.size) :
  Calls Tryz.prog 143 #[.int .i64 i, .agg #[.int .i64 (cls a.xs i : Nat), .int .u64 (cOff a.L a.ys a.xs i : Nat)], .agg #[.int .i64 (cOn a.xs i : Nat), .int .i64 (cAt a.xs i : Nat)], .pointer (some ⟨gl, 0, none⟩), .pointer (some ⟨gx, 0, none⟩)] w
   fun e w' => e = .returned (.bool (decide (cOff a.L a.ys a.xs i < ch 15 (cls a.xs i) ∧ (i % 8 = 0 → gi a.S (i / 8) = cOn a.xs i ∧ gi a.T (i / 8) = cAt a.xs i)))) ∧ Cel w' gl [.int .i64 (cls a.xs i : Nat), .int .u64 (cOff a.L a.ys a.xs i : Nat)] 165 ∧ Tb w' 0 (wv chL) ∧ Cel w' gx cs 41 ∧ Fr8 lo hi w w' := by
 have HM : Hid (∀ w1, Below w0.heap.size w0 w1 → Calls Tryz.prog 141 #[.agg cs.toArray, .int .i64 (i / 8 : Nat)] w1 fun e w' => e = .returned (.agg #[.int .i64 (gi a.S (i / 8)), .int .i64 (gi a.T (i / 8))]) ∧ Below w1.heap.size w1 w') := fun w1 hb1 => qmarkOf_c cs a (i / 8) w1 (h.keep hb1) h8s h8t
 have hcw : Tb w 0 (wv chL) := h.gv.wy.kept hb
 have L0 := h.gv.two
 have fS := h.arg
 obtain ⟨⟨ao, cap, qo, dap, so, sc, tO, tc, rfl, ⟨_, _, _, _, _, fs, ft⟩, _⟩, _⟩ := h
 obtain ⟨N, k, V, M, xs, L, ys, S, T⟩ := a
 dsimp only at *
 have cl := cls_le xs i
 have cof := cOff_lt L ys xs i
 have fs1 := fs (i / 8)
 have ft1 := ft (i / 8)
 have HWd : Hid ((wv chL)[cls xs i]? = some (.int .u64 (ch 15 (cls xs i) : Nat))) := by
  show (wv chL)[cls xs i]? = _
  rw [wv_get' chL (cls xs i) (by rw [length_chL]; omega), gt_chL _ cl]
 obtain ⟨D, HD⟩ : ∃ D, Hid (D = decide (cOff L ys xs i < ch 15 (cls xs i) ∧ (i % 8 = 0 → gi S (i / 8) = cOn xs i ∧ gi T (i / 8) = cAt xs i))) := ⟨_, rfl⟩
 rw [← HD.out]
 have cli : ((cls xs i : Nat) : Int) < 16 := by omega
 have i8 : (((i / 8 : Nat) : Nat) : Int) = IntKind.i64.wrap ((i : Int) / 8) := by rw [IntKind.wrap_i64]; omega
 have sub1 := ch62 15 (cls xs i) (by decide)
 rw [i8] at HM
 clear fS
 generalize cls xs i = c at *
 generalize cOff L ys xs i = o at *
 generalize cOn xs i = s at *
 generalize cAt xs i = p at *
 generalize gi S (i / 8) = s8 at *
 generalize gi T (i / 8) = t8 at *
 generalize ch 15 c = q at *
 obtain ⟨v0, v1, rfl⟩ : ∃ v0 v1, old = [v0, v1] := by
  match old, ho with
  | [v0, v1], _ => exact ⟨v0, v1, rfl⟩
 have f0 := hcl.frozen 0
 have f1 := hcl.frozen 1
 have n0 := hcl.cell 0 rfl
 have n1 := hcl.cell 1 rfl
 have ll := hcl.lt
 obtain ⟨U, hU⟩ : ∃ U, U = (w.setCell ⟨gl, 0, none⟩ (.int .i64 (c : Nat))).setCell ⟨gl, 1, none⟩ (.int .u64 (o : Nat)) := ⟨_, rfl⟩
 have hO : Only gl w U := by rw [hU]; exact ((Only.refl gl w).set 0 _).set 1 _
 have hcl2 : Cel U gl [.int .i64 (c : Nat), .int .u64 (o : Nat)] 165 := by rw [hU]; exact (hcl.set 0 _).set 1 _
 have zU : U.heap.size = w.heap.size := hO.size
 obtain ⟨W, hW⟩ : ∃ W, W = (U.alloc (.cells #[.int .i64 (c : Nat), .int .u64 (o : Nat)] 165)).alloc (.cells #[.int .i64 (s : Nat), .int .i64 (p : Nat)] 149) := ⟨_, rfl⟩
 have bW : Below U.heap.size U W := by rw [hW]; exact (below_alloc U _).alloc (by simp) _
 have B1 : Cel W w.heap.size [.int .i64 (c : Nat), .int .u64 (o : Nat)] 165 := by rw [hW, ← zU]; exact (Cel.new U _ _).alloc _
 have B2 : Cel W (w.heap.size + 1) [.int .i64 (s : Nat), .int .i64 (p : Nat)] 149 := by rw [hW, ← zU]; exact Cel.new2 U _ _ _
 have F2 : Fr8 lo hi w W := (hO.fr h3 h4).trans (Fr8.of bW (by omega))
 replace hcl2 := hcl2.kept bW
 replace hcw := (hO.tb hcw (by omega)).kept bW
 replace hcx := (hO.cel hcx (by omega)).kept bW
 have bw2 : Below w0.heap.size w0 W := hb.trans (by rw [← hlo]; exact F2.below)
 have z2 := F2.size
 clear hO hcl bW hb
 go_enter Tryz.func143, Tryz.ntmps143
 go_wp2
 rw [← hU, ← hW]
 clear f0 f1 n0 n1 hU hW
 generalize W = w2 at *
 refine region_g [] (fun w' => Cel w' w.heap.size [.int .i64 (c : Nat), .int .u64 (o : Nat)] 165 ∧ Cel w' (w.heap.size + 1) [.int .i64 (s : Nat), .int .i64 (p : Nat)] 149 ∧ Tb w' 0 (wv chL) ∧ Cel w' gx [.int .i64 N, .int .i64 k, .int .i64 V, .int .i64 M, .slice ao xs.length cap, .int .i64 L, .slice qo ys.length dap, .slice so S.length sc, .slice tO T.length tc] 41 ∧ Cel w' gl [.int .i64 (c : Nat), .int .u64 (o : Nat)] 165) (by kernel_rfl) ?_
 have hS : Cel w2.drew w.heap.size [.int .i64 (c : Nat), .int .u64 (o : Nat)] 165 ∧ Cel w2.drew (w.heap.size + 1) [.int .i64 (s : Nat), .int .i64 (p : Nat)] 149 ∧ Tb w2.drew 0 (wv chL) ∧ Cel w2.drew gx [.int .i64 N, .int .i64 k, .int .i64 V, .int .i64 M, .slice ao xs.length cap, .int .i64 L, .slice qo ys.length dap, .slice so S.length sc, .slice tO T.length tc] 41 ∧ Cel w2.drew gl [.int .i64 (c : Nat), .int .u64 (o : Nat)] 165 := ⟨B1, B2, hcw, hcx, hcl2⟩
 have bV : Below w0.heap.size w0 w2.drew := bw2.drew
 have F3 : Fr8 lo hi w w2.drew := F2.trans (Fr8.of ((Below.refl _ _).drew) (by omega))
 have z3 : w2.heap.size ≤ w2.drew.heap.size := Nat.le_refl _
 generalize w2.drew = Y at *
 clear B1 B2 hcw hcx hcl2 bw2 F2
 by_cases hq : o < q
 ·have hq2 : decide ((o : Int) < (q : Int)) = true := decide_eq_true (by omega)
  have hq3 : decide (o < q) = true := decide_eq_true hq
  by_cases h8 : i % 8 = 0
  ·have h82 : decide ((0 : Int) < (i : Int).tmod 8) = false := decide_eq_false (by rw [Int.tmod_eq_emod_of_nonneg (by omega)]; omega)
   by_cases e1 : s8 = (s : Int)
   ·by_cases e2 : t8 = (p : Int)
    ·obtain rfl : D = true := by
      rw [HD.out]
      exact decide_eq_true (by omega)
     clear HD
     refine AnyG.tk 0 hS ?_
     refine AnyG.tf 1 hS rfl (fun w0 h0 => by have c0 := h0.1.cell 1 rfl; go_simp; try with_reducible rfl) ?_
     refine AnyG.tk 2 hS ?_
     refine AnyG.tf 3 hS rfl (fun w0 h0 => by have c0 := h0.1.cell 0 rfl; go_simp; try with_reducible rfl) ?_
     refine AnyG.tk 4 hS ?_
     refine AnyG.tf 5 hS rfl (fun w0 h0 => by have c0 := h0.2.2.1.cell c HWd.out; go_simp; try with_reducible rfl) ?_
     refine AnyG.tk 6 hS ?_
     refine AnyG.tk 7 hS ?_
     refine AnyG.tk 8 hS ?_
     refine AnyG.tk 9 hS ?_
     refine AnyG.tk 10 hS ?_
     refine AnyG.tk 11 hS ?_
     refine AnyG.tf 12 hS rfl (fun w0 h0 => by have c0 := h0.2.2.2.1.cell 0 rfl; have c1 := h0.2.2.2.1.cell 1 rfl; have c2 := h0.2.2.2.1.cell 2 rfl; have c3 := h0.2.2.2.1.cell 3 rfl; have c4 := h0.2.2.2.1.cell 4 rfl; have c5 := h0.2.2.2.1.cell 5 rfl; have c6 := h0.2.2.2.1.cell 6 rfl; have c7 := h0.2.2.2.1.cell 7 rfl; have c8 := h0.2.2.2.1.cell 8 rfl; go_simp; try with_reducible rfl) ?_
     refine AnyG.tk 13 hS ?_
     refine AnyG.tk 14 hS ?_
     refine AnyG.tf 16 hS rfl (fun w0 h0 => by have c0 := h0.2.1.cell 0 rfl; have c1 := h0.2.1.cell 1 rfl; go_simp; try with_reducible rfl) ?_
     refine AnyG.o1 15 ?_
     intro K hK
     go_simp
     refine (HM.out _ bV).mono ?_
     rintro e w5 ⟨rfl, hb⟩
     have hS5 := And.intro (hS.1.kept hb) (And.intro (hS.2.1.kept hb) (And.intro (hS.2.2.1.kept hb) (And.intro (hS.2.2.2.1.kept hb) (hS.2.2.2.2.kept hb))))
     have F5 := F3.trans (Fr8.of hb (by omega))
     clear hb HM bV F3 hS
     refine hK.out _ _ (fun _ => hS5) ?_
     clear hK K
     try simp only [Act.put, yq0, yq1, yq2, yq3, yq4, yq5]
     refine AnyG.tk 17 hS5 ?_
     refine AnyG.tk 18 hS5 ?_
     refine AnyG.tk 19 hS5 ?_
     refine AnyG.tk 20 hS5 ?_
     refine AnyG.done (by kernel_rfl) ?_ _
     go_wp2
     go_ret
     exact ⟨rfl, hS5.2.2.2.2, hS5.2.2.1, hS5.2.2.2.1, F5⟩
    ·obtain rfl : D = false := by
      rw [HD.out]
      exact decide_eq_false (by omega)
     clear HD
     refine AnyG.tk 0 hS ?_
     refine AnyG.tf 1 hS rfl (fun w0 h0 => by have c0 := h0.1.cell 1 rfl; go_simp; try with_reducible rfl) ?_
     refine AnyG.tk 2 hS ?_
     refine AnyG.tf 3 hS rfl (fun w0 h0 => by have c0 := h0.1.cell 0 rfl; go_simp; try with_reducible rfl) ?_
     refine AnyG.tk 4 hS ?_
     refine AnyG.tf 5 hS rfl (fun w0 h0 => by have c0 := h0.2.2.1.cell c HWd.out; go_simp; try with_reducible rfl) ?_
     refine AnyG.tk 6 hS ?_
     refine AnyG.tk 7 hS ?_
     refine AnyG.tk 8 hS ?_
     refine AnyG.tk 9 hS ?_
     refine AnyG.tk 10 hS ?_
     refine AnyG.tk 11 hS ?_
     refine AnyG.tf 12 hS rfl (fun w0 h0 => by have c0 := h0.2.2.2.1.cell 0 rfl; have c1 := h0.2.2.2.1.cell 1 rfl; have c2 := h0.2.2.2.1.cell 2 rfl; have c3 := h0.2.2.2.1.cell 3 rfl; have c4 := h0.2.2.2.1.cell 4 rfl; have c5 := h0.2.2.2.1.cell 5 rfl; have c6 := h0.2.2.2.1.cell 6 rfl; have c7 := h0.2.2.2.1.cell 7 rfl; have c8 := h0.2.2.2.1.cell 8 rfl; go_simp; try with_reducible rfl) ?_
     refine AnyG.tk 13 hS ?_
     refine AnyG.tk 14 hS ?_
     refine AnyG.tf 16 hS rfl (fun w0 h0 => by have c0 := h0.2.1.cell 0 rfl; have c1 := h0.2.1.cell 1 rfl; go_simp; try with_reducible rfl) ?_
     refine AnyG.o1 15 ?_
     intro K hK
     go_simp
     refine (HM.out _ bV).mono ?_
     rintro e w5 ⟨rfl, hb⟩
     have hS5 := And.intro (hS.1.kept hb) (And.intro (hS.2.1.kept hb) (And.intro (hS.2.2.1.kept hb) (And.intro (hS.2.2.2.1.kept hb) (hS.2.2.2.2.kept hb))))
     have F5 := F3.trans (Fr8.of hb (by omega))
     clear hb HM bV F3 hS
     refine hK.out _ _ (fun _ => hS5) ?_
     clear hK K
     try simp only [Act.put, yq0, yq1, yq2, yq3, yq4, yq5]
     refine AnyG.tk 17 hS5 ?_
     refine AnyG.tk 18 hS5 ?_
     refine AnyG.tk 19 hS5 ?_
     refine AnyG.tk 20 hS5 ?_
     refine AnyG.done (by kernel_rfl) ?_ _
     go_wp2
     go_ret
     exact ⟨rfl, hS5.2.2.2.2, hS5.2.2.1, hS5.2.2.2.1, F5⟩
   ·obtain rfl : D = false := by
     rw [HD.out]
     exact decide_eq_false (by omega)
    clear HD
    refine AnyG.tk 0 hS ?_
    refine AnyG.tf 1 hS rfl (fun w0 h0 => by have c0 := h0.1.cell 1 rfl; go_simp; try with_reducible rfl) ?_
    refine AnyG.tk 2 hS ?_
    refine AnyG.tf 3 hS rfl (fun w0 h0 => by have c0 := h0.1.cell 0 rfl; go_simp; try with_reducible rfl) ?_
    refine AnyG.tk 4 hS ?_
    refine AnyG.tf 5 hS rfl (fun w0 h0 => by have c0 := h0.2.2.1.cell c HWd.out; go_simp; try with_reducible rfl) ?_
    refine AnyG.tk 6 hS ?_
    refine AnyG.tk 7 hS ?_
    refine AnyG.tk 8 hS ?_
    refine AnyG.tk 9 hS ?_
    refine AnyG.tk 10 hS ?_
    refine AnyG.tk 11 hS ?_
    refine AnyG.tf 12 hS rfl (fun w0 h0 => by have c0 := h0.2.2.2.1.cell 0 rfl; have c1 := h0.2.2.2.1.cell 1 rfl; have c2 := h0.2.2.2.1.cell 2 rfl; have c3 := h0.2.2.2.1.cell 3 rfl; have c4 := h0.2.2.2.1.cell 4 rfl; have c5 := h0.2.2.2.1.cell 5 rfl; have c6 := h0.2.2.2.1.cell 6 rfl; have c7 := h0.2.2.2.1.cell 7 rfl; have c8 := h0.2.2.2.1.cell 8 rfl; go_simp; try with_reducible rfl) ?_
    refine AnyG.tk 13 hS ?_
    refine AnyG.tk 14 hS ?_
    refine AnyG.tf 16 hS rfl (fun w0 h0 => by have c0 := h0.2.1.cell 0 rfl; have c1 := h0.2.1.cell 1 rfl; go_simp; try with_reducible rfl) ?_
    refine AnyG.o1 15 ?_
    intro K hK
    go_simp
    refine (HM.out _ bV).mono ?_
    rintro e w5 ⟨rfl, hb⟩
    have hS5 := And.intro (hS.1.kept hb) (And.intro (hS.2.1.kept hb) (And.intro (hS.2.2.1.kept hb) (And.intro (hS.2.2.2.1.kept hb) (hS.2.2.2.2.kept hb))))
    have F5 := F3.trans (Fr8.of hb (by omega))
    clear hb HM bV F3 hS
    refine hK.out _ _ (fun _ => hS5) ?_
    clear hK K
    try simp only [Act.put, yq0, yq1, yq2, yq3, yq4, yq5]
    refine AnyG.tk 17 hS5 ?_
    refine AnyG.tk 18 hS5 ?_
    refine AnyG.tk 19 hS5 ?_
    refine AnyG.tk 20 hS5 ?_
    refine AnyG.done (by kernel_rfl) ?_ _
    go_wp2
    go_ret
    exact ⟨rfl, hS5.2.2.2.2, hS5.2.2.1, hS5.2.2.2.1, F5⟩
  ·have h82 : decide ((0 : Int) < (i : Int).tmod 8) = true := decide_eq_true (by rw [Int.tmod_eq_emod_of_nonneg (by omega)]; omega)
   obtain rfl : D = true := by
    rw [HD.out]
    exact decide_eq_true (by omega)
   clear HD
   refine AnyG.tk 0 hS ?_
   refine AnyG.tf 1 hS rfl (fun w0 h0 => by have c0 := h0.1.cell 1 rfl; go_simp; try with_reducible rfl) ?_
   refine AnyG.tk 2 hS ?_
   refine AnyG.tf 3 hS rfl (fun w0 h0 => by have c0 := h0.1.cell 0 rfl; go_simp; try with_reducible rfl) ?_
   refine AnyG.tk 4 hS ?_
   refine AnyG.tf 5 hS rfl (fun w0 h0 => by have c0 := h0.2.2.1.cell c HWd.out; go_simp; try with_reducible rfl) ?_
   refine AnyG.tk 6 hS ?_
   refine AnyG.tk 7 hS ?_
   refine AnyG.tk 8 hS ?_
   refine AnyG.tk 9 hS ?_
   refine AnyG.tk 10 hS ?_
   refine AnyG.tk 11 hS ?_
   refine AnyG.sk 12 hS ?_
   refine AnyG.sk 13 hS ?_
   refine AnyG.sk 14 hS ?_
   refine AnyG.sk 15 hS ?_
   refine AnyG.sk 16 hS ?_
   refine AnyG.sk 17 hS ?_
   refine AnyG.tk 18 hS ?_
   refine AnyG.tk 19 hS ?_
   refine AnyG.tk 20 hS ?_
   refine AnyG.done (by kernel_rfl) ?_ _
   go_wp2
   go_ret
   exact ⟨rfl, hS.2.2.2.2, hS.2.2.1, hS.2.2.2.1, F3⟩
 ·have hq2 : decide ((o : Int) < (q : Int)) = false := decide_eq_false (by omega)
  have hq3 : decide (o < q) = false := decide_eq_false hq
  obtain rfl : D = false := by
   rw [HD.out]
   exact decide_eq_false (by omega)
  clear HD
  refine AnyG.tk 0 hS ?_
  refine AnyG.tf 1 hS rfl (fun w0 h0 => by have c0 := h0.1.cell 1 rfl; go_simp; try with_reducible rfl) ?_
  refine AnyG.tk 2 hS ?_
  refine AnyG.tf 3 hS rfl (fun w0 h0 => by have c0 := h0.1.cell 0 rfl; go_simp; try with_reducible rfl) ?_
  refine AnyG.tk 4 hS ?_
  refine AnyG.tf 5 hS rfl (fun w0 h0 => by have c0 := h0.2.2.1.cell c HWd.out; go_simp; try with_reducible rfl) ?_
  refine AnyG.tk 6 hS ?_
  refine AnyG.tk 7 hS ?_
  refine AnyG.sk 8 hS ?_
  refine AnyG.sk 9 hS ?_
  refine AnyG.sk 10 hS ?_
  refine AnyG.sk 11 hS ?_
  refine AnyG.sk 12 hS ?_
  refine AnyG.sk 13 hS ?_
  refine AnyG.sk 14 hS ?_
  refine AnyG.sk 15 hS ?_
  refine AnyG.sk 16 hS ?_
  refine AnyG.sk 17 hS ?_
  refine AnyG.sk 18 hS ?_
  refine AnyG.tk 19 hS ?_
  refine AnyG.tk 20 hS ?_
  refine AnyG.done (by kernel_rfl) ?_ _
  go_wp2
  go_ret
  exact ⟨rfl, hS.2.2.2.2, hS.2.2.1, hS.2.2.2.1, F3⟩
end Go.Proofs.YtfnkklkdajlhlaaGreatDoor
