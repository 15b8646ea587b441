/-
  The contract of the function that the program's Check hands to along.
-/
import Derived.Test.YtpeecabfcgijhaaGreatDoorM20
namespace Go.Proofs.YtpeecabfcgijhaaGreatDoor
open Go.RowKit Num Bit Bn
set_option linter.unusedVariables false
set_option linter.unusedSimpArgs false
set_option maxRecDepth 100000

theorem Only.fr {g lo hi : Nat} {w w' : World} (h : Only g w w') (h1 : lo ≤ g) (h2 : g < hi) : Fr8 lo hi w w' := ⟨h.below h1, fun b hb _ => h.block b (by omega)⟩
theorem info_blk : (Tryz.prog.info? 120).map (·.size) = some 2 := by kernel_rfl
theorem info_mrk : (Tryz.prog.info? 109).map (·.size) = some 2 := by kernel_rfl
def Rgt (a : RA8) (i : Nat) : Prop := cOff a.L a.ys a.xs i < ch 15 (cls a.xs i) ∧ (i % 8 = 0 → gi a.S (i / 8) = cOn a.xs i ∧ gi a.T (i / 8) = cAt a.xs i)
set_option maxHeartbeats 4000000 in
theorem qcheck1_c (cs : List Value) (a : RA8) (i gl gx lo hi : Nat) (old : List Value) (w0 w : World) (h : KI8 w0 cs a) (hb : Below w0.heap.size w0 w) (hlo : lo = w0.heap.size) (hil : i ≤ 1048576) (h8s : i / 8 < a.S.length) (h8t : i / 8 < a.T.length)
  (hcl : Cel w gl old 120) (ho : old.length = 2) (hcx : Cel w gx cs 33) (h2 : gl ≠ gx) (h3 : lo ≤ gl) (h4 : gl < hi) (h5 : hi ≤ w.heap.size) :
  Calls Tryz.prog 111 #[.int .i64 i, .agg #[.int .i64 (cls a.xs i : Nat), .int .u64 (cOff a.L a.ys a.xs i : Nat)], .agg #[.int .i64 (cOn a.xs i : Nat), .int .i64 (cAt a.xs i : Nat)], .pointer (some ⟨gl, 0, none⟩), .pointer (some ⟨gx, 0, none⟩)] w
   fun e w' => e = .returned (.bool (decide (cOff a.L a.ys a.xs i < ch 15 (cls a.xs i) ∧ (i % 8 = 0 → gi a.S (i / 8) = cOn a.xs i ∧ gi a.T (i / 8) = cAt a.xs i)))) ∧ Cel w' gl [.int .i64 (cls a.xs i : Nat), .int .u64 (cOff a.L a.ys a.xs i : Nat)] 120 ∧ Tb w' 0 (wv chL) ∧ Cel w' gx cs 33 ∧ Fr8 lo hi w w' := by
 have HM : Hid (∀ w1, Below w0.heap.size w0 w1 → Calls Tryz.prog 109 #[.agg cs.toArray, .int .i64 (i / 8 : Nat)] w1 fun e w' => e = .returned (.agg #[.int .i64 (gi a.S (i / 8)), .int .i64 (gi a.T (i / 8))]) ∧ Below w1.heap.size w1 w') := fun w1 hb1 => qmarkOf_c cs a (i / 8) w1 (h.keep hb1) h8s h8t
 have hcw : Tb w 0 (wv chL) := h.gv.wy.kept hb
 have L0 := h.gv.two
 have fS := h.arg
 obtain ⟨⟨ao, cap, qo, dap, so, sc, tO, tc, rfl, ⟨_, _, _, _, _, fs, ft⟩, _⟩, _⟩ := h
 obtain ⟨N, k, V, M, xs, L, ys, S, T⟩ := a
 dsimp only at *
 have cl := cls_le xs i
 have cof := cOff_lt L ys xs i
 have fs1 := fs (i / 8)
 have ft1 := ft (i / 8)
 have HWd : Hid ((wv chL)[cls xs i]? = some (.int .u64 (ch 15 (cls xs i) : Nat))) := by
  show (wv chL)[cls xs i]? = _
  rw [wv_get' chL (cls xs i) (by rw [length_chL]; omega), gt_chL _ cl]
 obtain ⟨D, HD⟩ : ∃ D, Hid (D = decide (cOff L ys xs i < ch 15 (cls xs i) ∧ (i % 8 = 0 → gi S (i / 8) = cOn xs i ∧ gi T (i / 8) = cAt xs i))) := ⟨_, rfl⟩
 rw [← HD.out]
 have cli : ((cls xs i : Nat) : Int) < 16 := by omega
 have i8 : (((i / 8 : Nat) : Nat) : Int) = IntKind.i64.wrap ((i : Int) / 8) := by rw [IntKind.wrap_i64]; omega
 have sub1 := ch62 15 (cls xs i) (by decide)
 rw [i8] at HM
 clear fS
 generalize cls xs i = c at *
 generalize cOff L ys xs i = o at *
 generalize cOn xs i = s at *
 generalize cAt xs i = p at *
 generalize gi S (i / 8) = s8 at *
 generalize gi T (i / 8) = t8 at *
 generalize ch 15 c = q at *
 obtain ⟨v0, v1, rfl⟩ : ∃ v0 v1, old = [v0, v1] := by
  match old, ho with
  | [v0, v1], _ => exact ⟨v0, v1, rfl⟩
 have f0 := hcl.frozen 0
 have f1 := hcl.frozen 1
 have n0 := hcl.cell 0 rfl
 have n1 := hcl.cell 1 rfl
 have ll := hcl.lt
 obtain ⟨U, hU⟩ : ∃ U, U = (w.setCell ⟨gl, 0, none⟩ (.int .i64 (c : Nat))).setCell ⟨gl, 1, none⟩ (.int .u64 (o : Nat)) := ⟨_, rfl⟩
 have hO : Only gl w U := by rw [hU]; exact ((Only.refl gl w).set 0 _).set 1 _
 have hcl2 : Cel U gl [.int .i64 (c : Nat), .int .u64 (o : Nat)] 120 := by rw [hU]; exact (hcl.set 0 _).set 1 _
 have zU : U.heap.size = w.heap.size := hO.size
 obtain ⟨W, hW⟩ : ∃ W, W = (U.alloc (.cells #[.int .i64 (c : Nat), .int .u64 (o : Nat)] 120)).alloc (.cells #[.int .i64 (s : Nat), .int .i64 (p : Nat)] 109) := ⟨_, rfl⟩
 have bW : Below U.heap.size U W := by rw [hW]; exact (below_alloc U _).alloc (by simp) _
 have B1 : Cel W w.heap.size [.int .i64 (c : Nat), .int .u64 (o : Nat)] 120 := by rw [hW, ← zU]; exact (Cel.new U _ _).alloc _
 have B2 : Cel W (w.heap.size + 1) [.int .i64 (s : Nat), .int .i64 (p : Nat)] 109 := by rw [hW, ← zU]; exact Cel.new2 U _ _ _
 have F2 : Fr8 lo hi w W := (hO.fr h3 h4).trans (Fr8.of bW (by omega))
 replace hcl2 := hcl2.kept bW
 replace hcw := (hO.tb hcw (by omega)).kept bW
 replace hcx := (hO.cel hcx (by omega)).kept bW
 have bw2 : Below w0.heap.size w0 W := hb.trans (by rw [← hlo]; exact F2.below)
 have z2 := F2.size
 clear hO hcl bW hb
 go_enter Tryz.func111, Tryz.ntmps111
 go_wp2
 rw [← hU, ← hW]
 clear f0 f1 n0 n1 hU hW
 generalize W = w2 at *
 refine region_g [] (fun w' => Cel w' w.heap.size [.int .i64 (c : Nat), .int .u64 (o : Nat)] 120 ∧ Cel w' (w.heap.size + 1) [.int .i64 (s : Nat), .int .i64 (p : Nat)] 109 ∧ Tb w' 0 (wv chL) ∧ Cel w' gx [.int .i64 N, .int .i64 k, .int .i64 V, .int .i64 M, .slice ao xs.length cap, .int .i64 L, .slice qo ys.length dap, .slice so S.length sc, .slice tO T.length tc] 33 ∧ Cel w' gl [.int .i64 (c : Nat), .int .u64 (o : Nat)] 120) (by kernel_rfl) ?_
 have hS : Cel w2.drew w.heap.size [.int .i64 (c : Nat), .int .u64 (o : Nat)] 120 ∧ Cel w2.drew (w.heap.size + 1) [.int .i64 (s : Nat), .int .i64 (p : Nat)] 109 ∧ Tb w2.drew 0 (wv chL) ∧ Cel w2.drew gx [.int .i64 N, .int .i64 k, .int .i64 V, .int .i64 M, .slice ao xs.length cap, .int .i64 L, .slice qo ys.length dap, .slice so S.length sc, .slice tO T.length tc] 33 ∧ Cel w2.drew gl [.int .i64 (c : Nat), .int .u64 (o : Nat)] 120 := ⟨B1, B2, hcw, hcx, hcl2⟩
 have bV : Below w0.heap.size w0 w2.drew := bw2.drew
 have F3 : Fr8 lo hi w w2.drew := F2.trans (Fr8.of ((Below.refl _ _).drew) (by omega))
 have z3 : w2.heap.size ≤ w2.drew.heap.size := Nat.le_refl _
 generalize w2.drew = Y at *
 clear B1 B2 hcw hcx hcl2 bw2 F2
 by_cases hq : o < q
 ·have hq2 : decide ((o : Int) < (q : Int)) = true := decide_eq_true (by omega)
  have hq3 : decide (o < q) = true := decide_eq_true hq
  by_cases h8 : i % 8 = 0
  ·have h82 : decide ((0 : Int) < (i : Int).tmod 8) = false := decide_eq_false (by rw [Int.tmod_eq_emod_of_nonneg (by omega)]; omega)
   by_cases e1 : s8 = (s : Int)
   ·by_cases e2 : t8 = (p : Int)
    ·obtain rfl : D = true := by
      rw [HD.out]
      exact decide_eq_true (by omega)
     clear HD
     refine AnyG.take 0 (v := ?vv1) rfl (by kernel_rfl) (by kernel_rfl) (by kernel_rfl) (by kernel_rfl) (fun _ _ _ h => h) hS ?hy1 (by rfl) ?rest1
     case hy1 =>
      intro w0 h0
      go_simp
      try with_reducible rfl
     simp only [Act.put, yq0, yq1, yq2, yq3, yq4, yq5]
     refine AnyG.take 1 (v := ?vv2) rfl (by kernel_rfl) (by kernel_rfl) (by kernel_rfl) (by kernel_rfl) (fun _ _ _ h => h) hS ?hy2 (by rfl) ?rest2
     case hy2 =>
      intro w0 h0
      have c0 := h0.1.cell 1 rfl
      go_simp
      try with_reducible rfl
     simp only [Act.put, yq0, yq1, yq2, yq3, yq4, yq5]
     refine AnyG.take 2 (v := ?vv3) rfl (by kernel_rfl) (by kernel_rfl) (by kernel_rfl) (by kernel_rfl) (fun _ _ _ h => h) hS ?hy3 (by rfl) ?rest3
     case hy3 =>
      intro w0 h0
      go_simp
      try with_reducible rfl
     simp only [Act.put, yq0, yq1, yq2, yq3, yq4, yq5]
     refine AnyG.take 3 (v := ?vv4) rfl (by kernel_rfl) (by kernel_rfl) (by kernel_rfl) (by kernel_rfl) (fun _ _ _ h => h) hS ?hy4 (by rfl) ?rest4
     case hy4 =>
      intro w0 h0
      have c0 := h0.1.cell 0 rfl
      go_simp
      try with_reducible rfl
     simp only [Act.put, yq0, yq1, yq2, yq3, yq4, yq5]
     refine AnyG.take 4 (v := ?vv5) rfl (by kernel_rfl) (by kernel_rfl) (by kernel_rfl) (by kernel_rfl) (fun _ _ _ h => h) hS ?hy5 (by rfl) ?rest5
     case hy5 =>
      intro w0 h0
      go_simp
      try with_reducible rfl
     simp only [Act.put, yq0, yq1, yq2, yq3, yq4, yq5]
     refine AnyG.take 5 (v := ?vv6) rfl (by kernel_rfl) (by kernel_rfl) (by kernel_rfl) (by kernel_rfl) (fun _ _ _ h => h) hS ?hy6 (by rfl) ?rest6
     case hy6 =>
      intro w0 h0
      have c0 := h0.2.2.1.cell c HWd.out
      go_simp
      try with_reducible rfl
     simp only [Act.put, yq0, yq1, yq2, yq3, yq4, yq5]
     refine AnyG.take 6 (v := ?vv7) rfl (by kernel_rfl) (by kernel_rfl) (by kernel_rfl) (by kernel_rfl) (fun _ _ _ h => h) hS ?hy7 (by rfl) ?rest7
     case hy7 =>
      intro w0 h0
      go_simp
      try with_reducible rfl
     simp only [Act.put, yq0, yq1, yq2, yq3, yq4, yq5]
     refine AnyG.take 7 (v := ?vv8) rfl (by kernel_rfl) (by kernel_rfl) (by kernel_rfl) (by kernel_rfl) (fun _ _ _ h => h) hS ?hy8 (by rfl) ?rest8
     case hy8 =>
      intro w0 h0
      go_simp
      try with_reducible rfl
     simp only [Act.put, yq0, yq1, yq2, yq3, yq4, yq5]
     refine AnyG.take 8 (v := ?vv9) rfl (by kernel_rfl) (by kernel_rfl) (by kernel_rfl) (by kernel_rfl) (fun _ _ _ h => h) hS ?hy9 (by rfl) ?rest9
     case hy9 =>
      intro w0 h0
      go_simp
      try with_reducible rfl
     simp only [Act.put, yq0, yq1, yq2, yq3, yq4, yq5]
     refine AnyG.take 9 (v := ?vv10) rfl (by kernel_rfl) (by kernel_rfl) (by kernel_rfl) (by kernel_rfl) (fun _ _ _ h => h) hS ?hy10 (by rfl) ?rest10
     case hy10 =>
      intro w0 h0
      go_simp
      try with_reducible rfl
     simp only [Act.put, yq0, yq1, yq2, yq3, yq4, yq5]
     refine AnyG.take 10 (v := ?vv11) rfl (by kernel_rfl) (by kernel_rfl) (by kernel_rfl) (by kernel_rfl) (fun _ _ _ h => h) hS ?hy11 (by rfl) ?rest11
     case hy11 =>
      intro w0 h0
      go_simp
      try with_reducible rfl
     simp only [Act.put, yq0, yq1, yq2, yq3, yq4, yq5]
     refine AnyG.take 11 (v := ?vv12) rfl (by kernel_rfl) (by kernel_rfl) (by kernel_rfl) (by kernel_rfl) (fun _ _ _ h => h) hS ?hy12 (by rfl) ?rest12
     case hy12 =>
      intro w0 h0
      go_simp
      try with_reducible rfl
     simp only [Act.put, yq0, yq1, yq2, yq3, yq4, yq5]
     refine AnyG.take 12 (v := ?vv13) rfl (by kernel_rfl) (by kernel_rfl) (by kernel_rfl) (by kernel_rfl) (fun _ _ _ h => h) hS ?hy13 (by rfl) ?rest13
     case hy13 =>
      intro w0 h0
      have c0 := h0.2.2.2.1.cell 0 rfl
      have c1 := h0.2.2.2.1.cell 1 rfl
      have c2 := h0.2.2.2.1.cell 2 rfl
      have c3 := h0.2.2.2.1.cell 3 rfl
      have c4 := h0.2.2.2.1.cell 4 rfl
      have c5 := h0.2.2.2.1.cell 5 rfl
      have c6 := h0.2.2.2.1.cell 6 rfl
      have c7 := h0.2.2.2.1.cell 7 rfl
      have c8 := h0.2.2.2.1.cell 8 rfl
      go_simp
      try with_reducible rfl
     simp only [Act.put, yq0, yq1, yq2, yq3, yq4, yq5]
     refine AnyG.take 13 (v := ?vv14) rfl (by kernel_rfl) (by kernel_rfl) (by kernel_rfl) (by kernel_rfl) (fun _ _ _ h => h) hS ?hy14 (by rfl) ?rest14
     case hy14 =>
      intro w0 h0
      go_simp
      try with_reducible rfl
     simp only [Act.put, yq0, yq1, yq2, yq3, yq4, yq5]
     refine AnyG.take 14 (v := ?vv15) rfl (by kernel_rfl) (by kernel_rfl) (by kernel_rfl) (by kernel_rfl) (fun _ _ _ h => h) hS ?hy15 (by rfl) ?rest15
     case hy15 =>
      intro w0 h0
      go_simp
      try with_reducible rfl
     simp only [Act.put, yq0, yq1, yq2, yq3, yq4, yq5]
     refine AnyG.take 16 (v := ?vv16) rfl (by kernel_rfl) (by kernel_rfl) (by kernel_rfl) (by kernel_rfl) (fun _ _ _ h => h) hS ?hy16 (by rfl) ?rest16
     case hy16 =>
      intro w0 h0
      have c0 := h0.2.1.cell 0 rfl
      have c1 := h0.2.1.cell 1 rfl
      go_simp
      try with_reducible rfl
     simp only [Act.put, yq0, yq1, yq2, yq3, yq4, yq5]
     refine AnyG.one 15 (by kernel_rfl) rfl ?_
     intro K hK
     go_simp
     refine (HM.out _ bV).mono ?_
     rintro e w5 ⟨rfl, hb⟩
     have hS5 := And.intro (hS.1.kept hb) (And.intro (hS.2.1.kept hb) (And.intro (hS.2.2.1.kept hb) (And.intro (hS.2.2.2.1.kept hb) (hS.2.2.2.2.kept hb))))
     have F5 := F3.trans (Fr8.of hb (by omega))
     clear hb HM bV F3 hS
     refine hK.out _ _ (fun _ => hS5) ?_
     clear hK K
     try simp only [Act.put, yq0, yq1, yq2, yq3, yq4, yq5]
     refine AnyG.take 17 (v := ?vv17) rfl (by kernel_rfl) (by kernel_rfl) (by kernel_rfl) (by kernel_rfl) (fun _ _ _ h => h) hS5 ?hy17 (by rfl) ?rest17
     case hy17 =>
      intro w0 h0
      go_simp
      try with_reducible rfl
     simp only [Act.put, yq0, yq1, yq2, yq3, yq4, yq5]
     refine AnyG.take 18 (v := ?vv18) rfl (by kernel_rfl) (by kernel_rfl) (by kernel_rfl) (by kernel_rfl) (fun _ _ _ h => h) hS5 ?hy18 (by rfl) ?rest18
     case hy18 =>
      intro w0 h0
      go_simp
      try with_reducible rfl
     simp only [Act.put, yq0, yq1, yq2, yq3, yq4, yq5]
     refine AnyG.take 19 (v := ?vv19) rfl (by kernel_rfl) (by kernel_rfl) (by kernel_rfl) (by kernel_rfl) (fun _ _ _ h => h) hS5 ?hy19 (by rfl) ?rest19
     case hy19 =>
      intro w0 h0
      go_simp
      try with_reducible rfl
     simp only [Act.put, yq0, yq1, yq2, yq3, yq4, yq5]
     refine AnyG.take 20 (v := ?vv20) rfl (by kernel_rfl) (by kernel_rfl) (by kernel_rfl) (by kernel_rfl) (fun _ _ _ h => h) hS5 ?hy20 (by rfl) ?rest20
     case hy20 =>
      intro w0 h0
      go_simp
      try with_reducible rfl
     simp only [Act.put, yq0, yq1, yq2, yq3, yq4, yq5]
     refine AnyG.done (by kernel_rfl) ?_ _
     go_wp2
     go_ret
     exact ⟨rfl, hS5.2.2.2.2, hS5.2.2.1, hS5.2.2.2.1, F5⟩
    ·obtain rfl : D = false := by
      rw [HD.out]
      exact decide_eq_false (by omega)
     clear HD
     refine AnyG.take 0 (v := ?vv41) rfl (by kernel_rfl) (by kernel_rfl) (by kernel_rfl) (by kernel_rfl) (fun _ _ _ h => h) hS ?hy41 (by rfl) ?rest41
     case hy41 =>
      intro w0 h0
      go_simp
      try with_reducible rfl
     simp only [Act.put, yq0, yq1, yq2, yq3, yq4, yq5]
     refine AnyG.take 1 (v := ?vv42) rfl (by kernel_rfl) (by kernel_rfl) (by kernel_rfl) (by kernel_rfl) (fun _ _ _ h => h) hS ?hy42 (by rfl) ?rest42
     case hy42 =>
      intro w0 h0
      have c0 := h0.1.cell 1 rfl
      go_simp
      try with_reducible rfl
     simp only [Act.put, yq0, yq1, yq2, yq3, yq4, yq5]
     refine AnyG.take 2 (v := ?vv43) rfl (by kernel_rfl) (by kernel_rfl) (by kernel_rfl) (by kernel_rfl) (fun _ _ _ h => h) hS ?hy43 (by rfl) ?rest43
     case hy43 =>
      intro w0 h0
      go_simp
      try with_reducible rfl
     simp only [Act.put, yq0, yq1, yq2, yq3, yq4, yq5]
     refine AnyG.take 3 (v := ?vv44) rfl (by kernel_rfl) (by kernel_rfl) (by kernel_rfl) (by kernel_rfl) (fun _ _ _ h => h) hS ?hy44 (by rfl) ?rest44
     case hy44 =>
      intro w0 h0
      have c0 := h0.1.cell 0 rfl
      go_simp
      try with_reducible rfl
     simp only [Act.put, yq0, yq1, yq2, yq3, yq4, yq5]
     refine AnyG.take 4 (v := ?vv45) rfl (by kernel_rfl) (by kernel_rfl) (by kernel_rfl) (by kernel_rfl) (fun _ _ _ h => h) hS ?hy45 (by rfl) ?rest45
     case hy45 =>
      intro w0 h0
      go_simp
      try with_reducible rfl
     simp only [Act.put, yq0, yq1, yq2, yq3, yq4, yq5]
     refine AnyG.take 5 (v := ?vv46) rfl (by kernel_rfl) (by kernel_rfl) (by kernel_rfl) (by kernel_rfl) (fun _ _ _ h => h) hS ?hy46 (by rfl) ?rest46
     case hy46 =>
      intro w0 h0
      have c0 := h0.2.2.1.cell c HWd.out
      go_simp
      try with_reducible rfl
     simp only [Act.put, yq0, yq1, yq2, yq3, yq4, yq5]
     refine AnyG.take 6 (v := ?vv47) rfl (by kernel_rfl) (by kernel_rfl) (by kernel_rfl) (by kernel_rfl) (fun _ _ _ h => h) hS ?hy47 (by rfl) ?rest47
     case hy47 =>
      intro w0 h0
      go_simp
      try with_reducible rfl
     simp only [Act.put, yq0, yq1, yq2, yq3, yq4, yq5]
     refine AnyG.take 7 (v := ?vv48) rfl (by kernel_rfl) (by kernel_rfl) (by kernel_rfl) (by kernel_rfl) (fun _ _ _ h => h) hS ?hy48 (by rfl) ?rest48
     case hy48 =>
      intro w0 h0
      go_simp
      try with_reducible rfl
     simp only [Act.put, yq0, yq1, yq2, yq3, yq4, yq5]
     refine AnyG.take 8 (v := ?vv49) rfl (by kernel_rfl) (by kernel_rfl) (by kernel_rfl) (by kernel_rfl) (fun _ _ _ h => h) hS ?hy49 (by rfl) ?rest49
     case hy49 =>
      intro w0 h0
      go_simp
      try with_reducible rfl
     simp only [Act.put, yq0, yq1, yq2, yq3, yq4, yq5]
     refine AnyG.take 9 (v := ?vv50) rfl (by kernel_rfl) (by kernel_rfl) (by kernel_rfl) (by kernel_rfl) (fun _ _ _ h => h) hS ?hy50 (by rfl) ?rest50
     case hy50 =>
      intro w0 h0
      go_simp
      try with_reducible rfl
     simp only [Act.put, yq0, yq1, yq2, yq3, yq4, yq5]
     refine AnyG.take 10 (v := ?vv51) rfl (by kernel_rfl) (by kernel_rfl) (by kernel_rfl) (by kernel_rfl) (fun _ _ _ h => h) hS ?hy51 (by rfl) ?rest51
     case hy51 =>
      intro w0 h0
      go_simp
      try with_reducible rfl
     simp only [Act.put, yq0, yq1, yq2, yq3, yq4, yq5]
     refine AnyG.take 11 (v := ?vv52) rfl (by kernel_rfl) (by kernel_rfl) (by kernel_rfl) (by kernel_rfl) (fun _ _ _ h => h) hS ?hy52 (by rfl) ?rest52
     case hy52 =>
      intro w0 h0
      go_simp
      try with_reducible rfl
     simp only [Act.put, yq0, yq1, yq2, yq3, yq4, yq5]
     refine AnyG.take 12 (v := ?vv53) rfl (by kernel_rfl) (by kernel_rfl) (by kernel_rfl) (by kernel_rfl) (fun _ _ _ h => h) hS ?hy53 (by rfl) ?rest53
     case hy53 =>
      intro w0 h0
      have c0 := h0.2.2.2.1.cell 0 rfl
      have c1 := h0.2.2.2.1.cell 1 rfl
      have c2 := h0.2.2.2.1.cell 2 rfl
      have c3 := h0.2.2.2.1.cell 3 rfl
      have c4 := h0.2.2.2.1.cell 4 rfl
      have c5 := h0.2.2.2.1.cell 5 rfl
      have c6 := h0.2.2.2.1.cell 6 rfl
      have c7 := h0.2.2.2.1.cell 7 rfl
      have c8 := h0.2.2.2.1.cell 8 rfl
      go_simp
      try with_reducible rfl
     simp only [Act.put, yq0, yq1, yq2, yq3, yq4, yq5]
     refine AnyG.take 13 (v := ?vv54) rfl (by kernel_rfl) (by kernel_rfl) (by kernel_rfl) (by kernel_rfl) (fun _ _ _ h => h) hS ?hy54 (by rfl) ?rest54
     case hy54 =>
      intro w0 h0
      go_simp
      try with_reducible rfl
     simp only [Act.put, yq0, yq1, yq2, yq3, yq4, yq5]
     refine AnyG.take 14 (v := ?vv55) rfl (by kernel_rfl) (by kernel_rfl) (by kernel_rfl) (by kernel_rfl) (fun _ _ _ h => h) hS ?hy55 (by rfl) ?rest55
     case hy55 =>
      intro w0 h0
      go_simp
      try with_reducible rfl
     simp only [Act.put, yq0, yq1, yq2, yq3, yq4, yq5]
     refine AnyG.take 16 (v := ?vv56) rfl (by kernel_rfl) (by kernel_rfl) (by kernel_rfl) (by kernel_rfl) (fun _ _ _ h => h) hS ?hy56 (by rfl) ?rest56
     case hy56 =>
      intro w0 h0
      have c0 := h0.2.1.cell 0 rfl
      have c1 := h0.2.1.cell 1 rfl
      go_simp
      try with_reducible rfl
     simp only [Act.put, yq0, yq1, yq2, yq3, yq4, yq5]
     refine AnyG.one 15 (by kernel_rfl) rfl ?_
     intro K hK
     go_simp
     refine (HM.out _ bV).mono ?_
     rintro e w5 ⟨rfl, hb⟩
     have hS5 := And.intro (hS.1.kept hb) (And.intro (hS.2.1.kept hb) (And.intro (hS.2.2.1.kept hb) (And.intro (hS.2.2.2.1.kept hb) (hS.2.2.2.2.kept hb))))
     have F5 := F3.trans (Fr8.of hb (by omega))
     clear hb HM bV F3 hS
     refine hK.out _ _ (fun _ => hS5) ?_
     clear hK K
     try simp only [Act.put, yq0, yq1, yq2, yq3, yq4, yq5]
     refine AnyG.take 17 (v := ?vv57) rfl (by kernel_rfl) (by kernel_rfl) (by kernel_rfl) (by kernel_rfl) (fun _ _ _ h => h) hS5 ?hy57 (by rfl) ?rest57
     case hy57 =>
      intro w0 h0
      go_simp
      try with_reducible rfl
     simp only [Act.put, yq0, yq1, yq2, yq3, yq4, yq5]
     refine AnyG.take 18 (v := ?vv58) rfl (by kernel_rfl) (by kernel_rfl) (by kernel_rfl) (by kernel_rfl) (fun _ _ _ h => h) hS5 ?hy58 (by rfl) ?rest58
     case hy58 =>
      intro w0 h0
      go_simp
      try with_reducible rfl
     simp only [Act.put, yq0, yq1, yq2, yq3, yq4, yq5]
     refine AnyG.take 19 (v := ?vv59) rfl (by kernel_rfl) (by kernel_rfl) (by kernel_rfl) (by kernel_rfl) (fun _ _ _ h => h) hS5 ?hy59 (by rfl) ?rest59
     case hy59 =>
      intro w0 h0
      go_simp
      try with_reducible rfl
     simp only [Act.put, yq0, yq1, yq2, yq3, yq4, yq5]
     refine AnyG.take 20 (v := ?vv60) rfl (by kernel_rfl) (by kernel_rfl) (by kernel_rfl) (by kernel_rfl) (fun _ _ _ h => h) hS5 ?hy60 (by rfl) ?rest60
     case hy60 =>
      intro w0 h0
      go_simp
      try with_reducible rfl
     simp only [Act.put, yq0, yq1, yq2, yq3, yq4, yq5]
     refine AnyG.done (by kernel_rfl) ?_ _
     go_wp2
     go_ret
     exact ⟨rfl, hS5.2.2.2.2, hS5.2.2.1, hS5.2.2.2.1, F5⟩
   ·obtain rfl : D = false := by
     rw [HD.out]
     exact decide_eq_false (by omega)
    clear HD
    refine AnyG.take 0 (v := ?vv81) rfl (by kernel_rfl) (by kernel_rfl) (by kernel_rfl) (by kernel_rfl) (fun _ _ _ h => h) hS ?hy81 (by rfl) ?rest81
    case hy81 =>
     intro w0 h0
     go_simp
     try with_reducible rfl
    simp only [Act.put, yq0, yq1, yq2, yq3, yq4, yq5]
    refine AnyG.take 1 (v := ?vv82) rfl (by kernel_rfl) (by kernel_rfl) (by kernel_rfl) (by kernel_rfl) (fun _ _ _ h => h) hS ?hy82 (by rfl) ?rest82
    case hy82 =>
     intro w0 h0
     have c0 := h0.1.cell 1 rfl
     go_simp
     try with_reducible rfl
    simp only [Act.put, yq0, yq1, yq2, yq3, yq4, yq5]
    refine AnyG.take 2 (v := ?vv83) rfl (by kernel_rfl) (by kernel_rfl) (by kernel_rfl) (by kernel_rfl) (fun _ _ _ h => h) hS ?hy83 (by rfl) ?rest83
    case hy83 =>
     intro w0 h0
     go_simp
     try with_reducible rfl
    simp only [Act.put, yq0, yq1, yq2, yq3, yq4, yq5]
    refine AnyG.take 3 (v := ?vv84) rfl (by kernel_rfl) (by kernel_rfl) (by kernel_rfl) (by kernel_rfl) (fun _ _ _ h => h) hS ?hy84 (by rfl) ?rest84
    case hy84 =>
     intro w0 h0
     have c0 := h0.1.cell 0 rfl
     go_simp
     try with_reducible rfl
    simp only [Act.put, yq0, yq1, yq2, yq3, yq4, yq5]
    refine AnyG.take 4 (v := ?vv85) rfl (by kernel_rfl) (by kernel_rfl) (by kernel_rfl) (by kernel_rfl) (fun _ _ _ h => h) hS ?hy85 (by rfl) ?rest85
    case hy85 =>
     intro w0 h0
     go_simp
     try with_reducible rfl
    simp only [Act.put, yq0, yq1, yq2, yq3, yq4, yq5]
    refine AnyG.take 5 (v := ?vv86) rfl (by kernel_rfl) (by kernel_rfl) (by kernel_rfl) (by kernel_rfl) (fun _ _ _ h => h) hS ?hy86 (by rfl) ?rest86
    case hy86 =>
     intro w0 h0
     have c0 := h0.2.2.1.cell c HWd.out
     go_simp
     try with_reducible rfl
    simp only [Act.put, yq0, yq1, yq2, yq3, yq4, yq5]
    refine AnyG.take 6 (v := ?vv87) rfl (by kernel_rfl) (by kernel_rfl) (by kernel_rfl) (by kernel_rfl) (fun _ _ _ h => h) hS ?hy87 (by rfl) ?rest87
    case hy87 =>
     intro w0 h0
     go_simp
     try with_reducible rfl
    simp only [Act.put, yq0, yq1, yq2, yq3, yq4, yq5]
    refine AnyG.take 7 (v := ?vv88) rfl (by kernel_rfl) (by kernel_rfl) (by kernel_rfl) (by kernel_rfl) (fun _ _ _ h => h) hS ?hy88 (by rfl) ?rest88
    case hy88 =>
     intro w0 h0
     go_simp
     try with_reducible rfl
    simp only [Act.put, yq0, yq1, yq2, yq3, yq4, yq5]
    refine AnyG.take 8 (v := ?vv89) rfl (by kernel_rfl) (by kernel_rfl) (by kernel_rfl) (by kernel_rfl) (fun _ _ _ h => h) hS ?hy89 (by rfl) ?rest89
    case hy89 =>
     intro w0 h0
     go_simp
     try with_reducible rfl
    simp only [Act.put, yq0, yq1, yq2, yq3, yq4, yq5]
    refine AnyG.take 9 (v := ?vv90) rfl (by kernel_rfl) (by kernel_rfl) (by kernel_rfl) (by kernel_rfl) (fun _ _ _ h => h) hS ?hy90 (by rfl) ?rest90
    case hy90 =>
     intro w0 h0
     go_simp
     try with_reducible rfl
    simp only [Act.put, yq0, yq1, yq2, yq3, yq4, yq5]
    refine AnyG.take 10 (v := ?vv91) rfl (by kernel_rfl) (by kernel_rfl) (by kernel_rfl) (by kernel_rfl) (fun _ _ _ h => h) hS ?hy91 (by rfl) ?rest91
    case hy91 =>
     intro w0 h0
     go_simp
     try with_reducible rfl
    simp only [Act.put, yq0, yq1, yq2, yq3, yq4, yq5]
    refine AnyG.take 11 (v := ?vv92) rfl (by kernel_rfl) (by kernel_rfl) (by kernel_rfl) (by kernel_rfl) (fun _ _ _ h => h) hS ?hy92 (by rfl) ?rest92
    case hy92 =>
     intro w0 h0
     go_simp
     try with_reducible rfl
    simp only [Act.put, yq0, yq1, yq2, yq3, yq4, yq5]
    refine AnyG.take 12 (v := ?vv93) rfl (by kernel_rfl) (by kernel_rfl) (by kernel_rfl) (by kernel_rfl) (fun _ _ _ h => h) hS ?hy93 (by rfl) ?rest93
    case hy93 =>
     intro w0 h0
     have c0 := h0.2.2.2.1.cell 0 rfl
     have c1 := h0.2.2.2.1.cell 1 rfl
     have c2 := h0.2.2.2.1.cell 2 rfl
     have c3 := h0.2.2.2.1.cell 3 rfl
     have c4 := h0.2.2.2.1.cell 4 rfl
     have c5 := h0.2.2.2.1.cell 5 rfl
     have c6 := h0.2.2.2.1.cell 6 rfl
     have c7 := h0.2.2.2.1.cell 7 rfl
     have c8 := h0.2.2.2.1.cell 8 rfl
     go_simp
     try with_reducible rfl
    simp only [Act.put, yq0, yq1, yq2, yq3, yq4, yq5]
    refine AnyG.take 13 (v := ?vv94) rfl (by kernel_rfl) (by kernel_rfl) (by kernel_rfl) (by kernel_rfl) (fun _ _ _ h => h) hS ?hy94 (by rfl) ?rest94
    case hy94 =>
     intro w0 h0
     go_simp
     try with_reducible rfl
    simp only [Act.put, yq0, yq1, yq2, yq3, yq4, yq5]
    refine AnyG.take 14 (v := ?vv95) rfl (by kernel_rfl) (by kernel_rfl) (by kernel_rfl) (by kernel_rfl) (fun _ _ _ h => h) hS ?hy95 (by rfl) ?rest95
    case hy95 =>
     intro w0 h0
     go_simp
     try with_reducible rfl
    simp only [Act.put, yq0, yq1, yq2, yq3, yq4, yq5]
    refine AnyG.take 16 (v := ?vv96) rfl (by kernel_rfl) (by kernel_rfl) (by kernel_rfl) (by kernel_rfl) (fun _ _ _ h => h) hS ?hy96 (by rfl) ?rest96
    case hy96 =>
     intro w0 h0
     have c0 := h0.2.1.cell 0 rfl
     have c1 := h0.2.1.cell 1 rfl
     go_simp
     try with_reducible rfl
    simp only [Act.put, yq0, yq1, yq2, yq3, yq4, yq5]
    refine AnyG.one 15 (by kernel_rfl) rfl ?_
    intro K hK
    go_simp
    refine (HM.out _ bV).mono ?_
    rintro e w5 ⟨rfl, hb⟩
    have hS5 := And.intro (hS.1.kept hb) (And.intro (hS.2.1.kept hb) (And.intro (hS.2.2.1.kept hb) (And.intro (hS.2.2.2.1.kept hb) (hS.2.2.2.2.kept hb))))
    have F5 := F3.trans (Fr8.of hb (by omega))
    clear hb HM bV F3 hS
    refine hK.out _ _ (fun _ => hS5) ?_
    clear hK K
    try simp only [Act.put, yq0, yq1, yq2, yq3, yq4, yq5]
    refine AnyG.take 17 (v := ?vv97) rfl (by kernel_rfl) (by kernel_rfl) (by kernel_rfl) (by kernel_rfl) (fun _ _ _ h => h) hS5 ?hy97 (by rfl) ?rest97
    case hy97 =>
     intro w0 h0
     go_simp
     try with_reducible rfl
    simp only [Act.put, yq0, yq1, yq2, yq3, yq4, yq5]
    refine AnyG.take 18 (v := ?vv98) rfl (by kernel_rfl) (by kernel_rfl) (by kernel_rfl) (by kernel_rfl) (fun _ _ _ h => h) hS5 ?hy98 (by rfl) ?rest98
    case hy98 =>
     intro w0 h0
     go_simp
     try with_reducible rfl
    simp only [Act.put, yq0, yq1, yq2, yq3, yq4, yq5]
    refine AnyG.take 19 (v := ?vv99) rfl (by kernel_rfl) (by kernel_rfl) (by kernel_rfl) (by kernel_rfl) (fun _ _ _ h => h) hS5 ?hy99 (by rfl) ?rest99
    case hy99 =>
     intro w0 h0
     go_simp
     try with_reducible rfl
    simp only [Act.put, yq0, yq1, yq2, yq3, yq4, yq5]
    refine AnyG.take 20 (v := ?vv100) rfl (by kernel_rfl) (by kernel_rfl) (by kernel_rfl) (by kernel_rfl) (fun _ _ _ h => h) hS5 ?hy100 (by rfl) ?rest100
    case hy100 =>
     intro w0 h0
     go_simp
     try with_reducible rfl
    simp only [Act.put, yq0, yq1, yq2, yq3, yq4, yq5]
    refine AnyG.done (by kernel_rfl) ?_ _
    go_wp2
    go_ret
    exact ⟨rfl, hS5.2.2.2.2, hS5.2.2.1, hS5.2.2.2.1, F5⟩
  ·have h82 : decide ((0 : Int) < (i : Int).tmod 8) = true := decide_eq_true (by rw [Int.tmod_eq_emod_of_nonneg (by omega)]; omega)
   obtain rfl : D = true := by
    rw [HD.out]
    exact decide_eq_true (by omega)
   clear HD
   refine AnyG.take 0 (v := ?vv121) rfl (by kernel_rfl) (by kernel_rfl) (by kernel_rfl) (by kernel_rfl) (fun _ _ _ h => h) hS ?hy121 (by rfl) ?rest121
   case hy121 =>
    intro w0 h0
    go_simp
    try with_reducible rfl
   simp only [Act.put, yq0, yq1, yq2, yq3, yq4, yq5]
   refine AnyG.take 1 (v := ?vv122) rfl (by kernel_rfl) (by kernel_rfl) (by kernel_rfl) (by kernel_rfl) (fun _ _ _ h => h) hS ?hy122 (by rfl) ?rest122
   case hy122 =>
    intro w0 h0
    have c0 := h0.1.cell 1 rfl
    go_simp
    try with_reducible rfl
   simp only [Act.put, yq0, yq1, yq2, yq3, yq4, yq5]
   refine AnyG.take 2 (v := ?vv123) rfl (by kernel_rfl) (by kernel_rfl) (by kernel_rfl) (by kernel_rfl) (fun _ _ _ h => h) hS ?hy123 (by rfl) ?rest123
   case hy123 =>
    intro w0 h0
    go_simp
    try with_reducible rfl
   simp only [Act.put, yq0, yq1, yq2, yq3, yq4, yq5]
   refine AnyG.take 3 (v := ?vv124) rfl (by kernel_rfl) (by kernel_rfl) (by kernel_rfl) (by kernel_rfl) (fun _ _ _ h => h) hS ?hy124 (by rfl) ?rest124
   case hy124 =>
    intro w0 h0
    have c0 := h0.1.cell 0 rfl
    go_simp
    try with_reducible rfl
   simp only [Act.put, yq0, yq1, yq2, yq3, yq4, yq5]
   refine AnyG.take 4 (v := ?vv125) rfl (by kernel_rfl) (by kernel_rfl) (by kernel_rfl) (by kernel_rfl) (fun _ _ _ h => h) hS ?hy125 (by rfl) ?rest125
   case hy125 =>
    intro w0 h0
    go_simp
    try with_reducible rfl
   simp only [Act.put, yq0, yq1, yq2, yq3, yq4, yq5]
   refine AnyG.take 5 (v := ?vv126) rfl (by kernel_rfl) (by kernel_rfl) (by kernel_rfl) (by kernel_rfl) (fun _ _ _ h => h) hS ?hy126 (by rfl) ?rest126
   case hy126 =>
    intro w0 h0
    have c0 := h0.2.2.1.cell c HWd.out
    go_simp
    try with_reducible rfl
   simp only [Act.put, yq0, yq1, yq2, yq3, yq4, yq5]
   refine AnyG.take 6 (v := ?vv127) rfl (by kernel_rfl) (by kernel_rfl) (by kernel_rfl) (by kernel_rfl) (fun _ _ _ h => h) hS ?hy127 (by rfl) ?rest127
   case hy127 =>
    intro w0 h0
    go_simp
    try with_reducible rfl
   simp only [Act.put, yq0, yq1, yq2, yq3, yq4, yq5]
   refine AnyG.take 7 (v := ?vv128) rfl (by kernel_rfl) (by kernel_rfl) (by kernel_rfl) (by kernel_rfl) (fun _ _ _ h => h) hS ?hy128 (by rfl) ?rest128
   case hy128 =>
    intro w0 h0
    go_simp
    try with_reducible rfl
   simp only [Act.put, yq0, yq1, yq2, yq3, yq4, yq5]
   refine AnyG.take 8 (v := ?vv129) rfl (by kernel_rfl) (by kernel_rfl) (by kernel_rfl) (by kernel_rfl) (fun _ _ _ h => h) hS ?hy129 (by rfl) ?rest129
   case hy129 =>
    intro w0 h0
    go_simp
    try with_reducible rfl
   simp only [Act.put, yq0, yq1, yq2, yq3, yq4, yq5]
   refine AnyG.take 9 (v := ?vv130) rfl (by kernel_rfl) (by kernel_rfl) (by kernel_rfl) (by kernel_rfl) (fun _ _ _ h => h) hS ?hy130 (by rfl) ?rest130
   case hy130 =>
    intro w0 h0
    go_simp
    try with_reducible rfl
   simp only [Act.put, yq0, yq1, yq2, yq3, yq4, yq5]
   refine AnyG.take 10 (v := ?vv131) rfl (by kernel_rfl) (by kernel_rfl) (by kernel_rfl) (by kernel_rfl) (fun _ _ _ h => h) hS ?hy131 (by rfl) ?rest131
   case hy131 =>
    intro w0 h0
    go_simp
    try with_reducible rfl
   simp only [Act.put, yq0, yq1, yq2, yq3, yq4, yq5]
   refine AnyG.take 11 (v := ?vv132) rfl (by kernel_rfl) (by kernel_rfl) (by kernel_rfl) (by kernel_rfl) (fun _ _ _ h => h) hS ?hy132 (by rfl) ?rest132
   case hy132 =>
    intro w0 h0
    go_simp
    try with_reducible rfl
   simp only [Act.put, yq0, yq1, yq2, yq3, yq4, yq5]
   refine AnyG.skip 12 rfl (by kernel_rfl) (by kernel_rfl) (by kernel_rfl) (by kernel_rfl) (fun _ _ _ h => h) hS (by rfl) ?_
   simp only [Act.put, yq0, yq1, yq2, yq3, yq4, yq5]
   refine AnyG.skip 13 rfl (by kernel_rfl) (by kernel_rfl) (by kernel_rfl) (by kernel_rfl) (fun _ _ _ h => h) hS (by rfl) ?_
   simp only [Act.put, yq0, yq1, yq2, yq3, yq4, yq5]
   refine AnyG.skip 14 rfl (by kernel_rfl) (by kernel_rfl) (by kernel_rfl) (by kernel_rfl) (fun _ _ _ h => h) hS (by rfl) ?_
   simp only [Act.put, yq0, yq1, yq2, yq3, yq4, yq5]
   refine AnyG.skip 15 rfl (by kernel_rfl) (by kernel_rfl) (by kernel_rfl) (by kernel_rfl) (fun _ _ _ h => h) hS (by rfl) ?_
   simp only [Act.put, yq0, yq1, yq2, yq3, yq4, yq5]
   refine AnyG.skip 16 rfl (by kernel_rfl) (by kernel_rfl) (by kernel_rfl) (by kernel_rfl) (fun _ _ _ h => h) hS (by rfl) ?_
   simp only [Act.put, yq0, yq1, yq2, yq3, yq4, yq5]
   refine AnyG.skip 17 rfl (by kernel_rfl) (by kernel_rfl) (by kernel_rfl) (by kernel_rfl) (fun _ _ _ h => h) hS (by rfl) ?_
   simp only [Act.put, yq0, yq1, yq2, yq3, yq4, yq5]
   refine AnyG.take 18 (v := ?vv133) rfl (by kernel_rfl) (by kernel_rfl) (by kernel_rfl) (by kernel_rfl) (fun _ _ _ h => h) hS ?hy133 (by rfl) ?rest133
   case hy133 =>
    intro w0 h0
    go_simp
    try with_reducible rfl
   simp only [Act.put, yq0, yq1, yq2, yq3, yq4, yq5]
   refine AnyG.take 19 (v := ?vv134) rfl (by kernel_rfl) (by kernel_rfl) (by kernel_rfl) (by kernel_rfl) (fun _ _ _ h => h) hS ?hy134 (by rfl) ?rest134
   case hy134 =>
    intro w0 h0
    go_simp
    try with_reducible rfl
   simp only [Act.put, yq0, yq1, yq2, yq3, yq4, yq5]
   refine AnyG.take 20 (v := ?vv135) rfl (by kernel_rfl) (by kernel_rfl) (by kernel_rfl) (by kernel_rfl) (fun _ _ _ h => h) hS ?hy135 (by rfl) ?rest135
   case hy135 =>
    intro w0 h0
    go_simp
    try with_reducible rfl
   simp only [Act.put, yq0, yq1, yq2, yq3, yq4, yq5]
   refine AnyG.done (by kernel_rfl) ?_ _
   go_wp2
   go_ret
   exact ⟨rfl, hS.2.2.2.2, hS.2.2.1, hS.2.2.2.1, F3⟩
 ·have hq2 : decide ((o : Int) < (q : Int)) = false := decide_eq_false (by omega)
  have hq3 : decide (o < q) = false := decide_eq_false hq
  obtain rfl : D = false := by
   rw [HD.out]
   exact decide_eq_false (by omega)
  clear HD
  refine AnyG.take 0 (v := ?vv161) rfl (by kernel_rfl) (by kernel_rfl) (by kernel_rfl) (by kernel_rfl) (fun _ _ _ h => h) hS ?hy161 (by rfl) ?rest161
  case hy161 =>
   intro w0 h0
   go_simp
   try with_reducible rfl
  simp only [Act.put, yq0, yq1, yq2, yq3, yq4, yq5]
  refine AnyG.take 1 (v := ?vv162) rfl (by kernel_rfl) (by kernel_rfl) (by kernel_rfl) (by kernel_rfl) (fun _ _ _ h => h) hS ?hy162 (by rfl) ?rest162
  case hy162 =>
   intro w0 h0
   have c0 := h0.1.cell 1 rfl
   go_simp
   try with_reducible rfl
  simp only [Act.put, yq0, yq1, yq2, yq3, yq4, yq5]
  refine AnyG.take 2 (v := ?vv163) rfl (by kernel_rfl) (by kernel_rfl) (by kernel_rfl) (by kernel_rfl) (fun _ _ _ h => h) hS ?hy163 (by rfl) ?rest163
  case hy163 =>
   intro w0 h0
   go_simp
   try with_reducible rfl
  simp only [Act.put, yq0, yq1, yq2, yq3, yq4, yq5]
  refine AnyG.take 3 (v := ?vv164) rfl (by kernel_rfl) (by kernel_rfl) (by kernel_rfl) (by kernel_rfl) (fun _ _ _ h => h) hS ?hy164 (by rfl) ?rest164
  case hy164 =>
   intro w0 h0
   have c0 := h0.1.cell 0 rfl
   go_simp
   try with_reducible rfl
  simp only [Act.put, yq0, yq1, yq2, yq3, yq4, yq5]
  refine AnyG.take 4 (v := ?vv165) rfl (by kernel_rfl) (by kernel_rfl) (by kernel_rfl) (by kernel_rfl) (fun _ _ _ h => h) hS ?hy165 (by rfl) ?rest165
  case hy165 =>
   intro w0 h0
   go_simp
   try with_reducible rfl
  simp only [Act.put, yq0, yq1, yq2, yq3, yq4, yq5]
  refine AnyG.take 5 (v := ?vv166) rfl (by kernel_rfl) (by kernel_rfl) (by kernel_rfl) (by kernel_rfl) (fun _ _ _ h => h) hS ?hy166 (by rfl) ?rest166
  case hy166 =>
   intro w0 h0
   have c0 := h0.2.2.1.cell c HWd.out
   go_simp
   try with_reducible rfl
  simp only [Act.put, yq0, yq1, yq2, yq3, yq4, yq5]
  refine AnyG.take 6 (v := ?vv167) rfl (by kernel_rfl) (by kernel_rfl) (by kernel_rfl) (by kernel_rfl) (fun _ _ _ h => h) hS ?hy167 (by rfl) ?rest167
  case hy167 =>
   intro w0 h0
   go_simp
   try with_reducible rfl
  simp only [Act.put, yq0, yq1, yq2, yq3, yq4, yq5]
  refine AnyG.take 7 (v := ?vv168) rfl (by kernel_rfl) (by kernel_rfl) (by kernel_rfl) (by kernel_rfl) (fun _ _ _ h => h) hS ?hy168 (by rfl) ?rest168
  case hy168 =>
   intro w0 h0
   go_simp
   try with_reducible rfl
  simp only [Act.put, yq0, yq1, yq2, yq3, yq4, yq5]
  refine AnyG.skip 8 rfl (by kernel_rfl) (by kernel_rfl) (by kernel_rfl) (by kernel_rfl) (fun _ _ _ h => h) hS (by rfl) ?_
  simp only [Act.put, yq0, yq1, yq2, yq3, yq4, yq5]
  refine AnyG.skip 9 rfl (by kernel_rfl) (by kernel_rfl) (by kernel_rfl) (by kernel_rfl) (fun _ _ _ h => h) hS (by rfl) ?_
  simp only [Act.put, yq0, yq1, yq2, yq3, yq4, yq5]
  refine AnyG.skip 10 rfl (by kernel_rfl) (by kernel_rfl) (by kernel_rfl) (by kernel_rfl) (fun _ _ _ h => h) hS (by rfl) ?_
  simp only [Act.put, yq0, yq1, yq2, yq3, yq4, yq5]
  refine AnyG.skip 11 rfl (by kernel_rfl) (by kernel_rfl) (by kernel_rfl) (by kernel_rfl) (fun _ _ _ h => h) hS (by rfl) ?_
  simp only [Act.put, yq0, yq1, yq2, yq3, yq4, yq5]
  refine AnyG.skip 12 rfl (by kernel_rfl) (by kernel_rfl) (by kernel_rfl) (by kernel_rfl) (fun _ _ _ h => h) hS (by rfl) ?_
  simp only [Act.put, yq0, yq1, yq2, yq3, yq4, yq5]
  refine AnyG.skip 13 rfl (by kernel_rfl) (by kernel_rfl) (by kernel_rfl) (by kernel_rfl) (fun _ _ _ h => h) hS (by rfl) ?_
  simp only [Act.put, yq0, yq1, yq2, yq3, yq4, yq5]
  refine AnyG.skip 14 rfl (by kernel_rfl) (by kernel_rfl) (by kernel_rfl) (by kernel_rfl) (fun _ _ _ h => h) hS (by rfl) ?_
  simp only [Act.put, yq0, yq1, yq2, yq3, yq4, yq5]
  refine AnyG.skip 15 rfl (by kernel_rfl) (by kernel_rfl) (by kernel_rfl) (by kernel_rfl) (fun _ _ _ h => h) hS (by rfl) ?_
  simp only [Act.put, yq0, yq1, yq2, yq3, yq4, yq5]
  refine AnyG.skip 16 rfl (by kernel_rfl) (by kernel_rfl) (by kernel_rfl) (by kernel_rfl) (fun _ _ _ h => h) hS (by rfl) ?_
  simp only [Act.put, yq0, yq1, yq2, yq3, yq4, yq5]
  refine AnyG.skip 17 rfl (by kernel_rfl) (by kernel_rfl) (by kernel_rfl) (by kernel_rfl) (fun _ _ _ h => h) hS (by rfl) ?_
  simp only [Act.put, yq0, yq1, yq2, yq3, yq4, yq5]
  refine AnyG.skip 18 rfl (by kernel_rfl) (by kernel_rfl) (by kernel_rfl) (by kernel_rfl) (fun _ _ _ h => h) hS (by rfl) ?_
  simp only [Act.put, yq0, yq1, yq2, yq3, yq4, yq5]
  refine AnyG.take 19 (v := ?vv169) rfl (by kernel_rfl) (by kernel_rfl) (by kernel_rfl) (by kernel_rfl) (fun _ _ _ h => h) hS ?hy169 (by rfl) ?rest169
  case hy169 =>
   intro w0 h0
   go_simp
   try with_reducible rfl
  simp only [Act.put, yq0, yq1, yq2, yq3, yq4, yq5]
  refine AnyG.take 20 (v := ?vv170) rfl (by kernel_rfl) (by kernel_rfl) (by kernel_rfl) (by kernel_rfl) (fun _ _ _ h => h) hS ?hy170 (by rfl) ?rest170
  case hy170 =>
   intro w0 h0
   go_simp
   try with_reducible rfl
  simp only [Act.put, yq0, yq1, yq2, yq3, yq4, yq5]
  refine AnyG.done (by kernel_rfl) ?_ _
  go_wp2
  go_ret
  exact ⟨rfl, hS.2.2.2.2, hS.2.2.1, hS.2.2.2.1, F3⟩
end Go.Proofs.YtpeecabfcgijhaaGreatDoor
