/-
  The contract of the document's Build of layer 8. What a row of one of the kinds tells, once it is known whether it may be (ok) and which bits it has (N, X): plain. Rows in blocks: when one may be, and which bits it has: plain. The contracts of the document's Check, Bits, Access, Rank and Select, over that of its Whole. The contracts of the document's Build, Whole and Size of layer 8. The two tables of package rrr, as the program's text lays them: how many bits an offset of each class has, and how many blocks of each class there are. Rows in blocks as objects: their cells are not looked into but here. The contracts of the document's functions over them.
-/
import Derived.Test.YtfnkklkdajlhlaaGreatDoorL04
import Derived.Deep.DeepCutAuto
import Derived.Test.YtfnkklkdajlhlaaGreatDoorL00
import Derived.Test.YtfnkklkdajlhlaaGreatDoorL01
import Derived.Test.YtfnkklkdajlhlaaGreatDoorL03
import Derived.Test.YtfnkklkdajlhlaaGreatDoorL02
set_option linter.unusedVariables false
set_option linter.unusedSimpArgs false
set_option maxRecDepth 100000
set_option maxHeartbeats 16000000
namespace Go.Proofs.YtfnkklkdajlhlaaGreatDoor
open Go.RowKit Num Bit Bn
def gN (m : Nat) : Nat := (max 1 (nb m) + 7) / 8
def rC (m : Nat) (f : Nat → Bool) : List Nat := mkS (bclP m f (nb m)) 4 (nb m)
def rO (m : Nat) (f : Nat → Bool) : List Nat := frL (bofP m f (nb m))
def rS (m : Nat) (f : Nat → Bool) : List Int := onL m f (gN m)
def rT (m : Nat) (f : Nat → Bool) : List Int := ptL m f (gN m)
structure RO (base : Nat) (w : World) (C O : List Nat) (S T : List Int) (bo : Option Addr) (bc : Nat) (qo : Option Addr) (qc : Nat) (so : Option Addr) (sc : Nat) (tO : Option Addr) (tc : Nat) : Prop where
 c : Wd w bo C
 cl : C.length ≤ bc
 o : Wd w qo O
 ol : O.length ≤ qc
 s : Nd w so S
 sl : S.length ≤ sc
 t : Nd w tO T
 tl : T.length ≤ tc
 sn : Fr base so
 tn : Fr base tO
theorem RO.keep {base : Nat} {w w' : World} {C O : List Nat} {S T : List Int} {bo : Option Addr} {bc : Nat} {qo : Option Addr} {qc : Nat} {so : Option Addr} {sc : Nat} {tO : Option Addr} {tc : Nat} (h : RO base w C O S T bo bc qo qc so sc tO tc) (hb : Below w.heap.size w w') : RO base w' C O S T bo bc qo qc so sc tO tc :=
 ⟨h.c.keep hb, h.cl, h.o.keep hb, h.ol, h.s.keep hb, h.sl, h.t.keep hb, h.tl, h.sn, h.tn⟩
theorem length_onL (m : Nat) (f : Nat → Bool) (G : Nat) : (onL m f G).length = G := by simp [onL]
theorem length_ptL (m : Nat) (f : Nat → Bool) (G : Nat) : (ptL m f G).length = G := by simp [ptL]
theorem nd_own8 {w : World} {base n c : Nat} {ao : Option Addr} {l : List Int} (h : w.ownsRow base 3 1 (.slice ao n c) n (iv8 l)) : Nd w ao l := by
 intro h0
 have hlen : (iv8 l).length = n * 1 := h.1
 have hl : l.length = n := by simp [iv8] at hlen; omega
 have hk := fun k hk => h.lt k hk
 have hc := fun g hg => h.cells (g := g) hg
 obtain ⟨_, ⟨e, e2⟩ | ⟨g, cap, cur, e, _⟩⟩ := h
 ·omega
 ·simp only [Value.slice.injEq] at e
  obtain ⟨rfl, _, rfl⟩ := e
  refine ⟨g, 0, rfl, (hk g rfl).2, fun i hi => ?_⟩
  have hu : (iv8 l)[i]? = some (.int .i64 (gi l i)) := by
   unfold iv8 gi
   rw [List.getElem?_map, List.getD_eq_getElem?_getD, List.getElem?_eq_getElem hi]
   rfl
  rw [← hc g rfl i _ hu]
  unfold Addr.add
  split
  ·subst_vars; rfl
  ·simp
theorem im_ok (m : Nat) (f : Nat → Bool) (hm : m ≤ 1048576) : imE 4 (bclP m f (nb m)) = 0 := by
 unfold imE
 rw [if_neg]
 have := nb_le m hm
 rw [length_bclP]
 rintro (h | h | h | h)
 ·omega
 ·omega
 ·omega
 ·refine h fun j hj => ?_
  have h4 := bclP_lt m f (nb m) j
  have := len_le (gt (bclP m f (nb m)) j) 4 h4
  unfold lenI
  rw [Int.toNat_natCast]
  omega
theorem info_r9 : (Tryz.prog.info? 41).map (·.size) = some 9 := by kernel_rfl
theorem own_src {w : World} {base e n c : Nat} {ao : Option Addr} {vs : List Value} (h : w.ownsRow base e 1 (.slice ao n c) n vs) : 0 < n → ∃ ad, ao = some ad ∧ ∀ j u, vs[j]? = some u → w.cell? (ad.add j) = some u := by
 intro h0
 have hc := fun g hg => h.cells (g := g) hg
 obtain ⟨_, ⟨e1, e2⟩ | ⟨g, cap, cur, e1, _⟩⟩ := h
 ·omega
 ·simp only [Value.slice.injEq] at e1
  obtain ⟨rfl, _, rfl⟩ := e1
  exact ⟨_, rfl, fun j u hj => hc g rfl j u hj⟩
theorem Hid.mk8 {p : Prop} (h : p) : Hid p := h
theorem r8build_ok (m : Nat) (ao : Option Addr) (xs : List Nat) (cap : Nat) (w : World) (hx : Wd w ao xs) (hf : Fit xs) (hk : chk (m : Int) xs = true) :
  Calls Tryz.prog 70 #[.agg #[.int .i64 m, .slice ao xs.length cap]] w fun e w' => ∃ bo bc qo qc so sc tO tc, e = .returned (.tuple #[.agg #[.int .i64 m, .int .i64 (nb m), .int .i64 4, .int .i64 ((nb m : Int) * 4), .slice bo (rC m (bitAt xs)).length bc, .int .i64 (bat m (bitAt xs) (nb m)), .slice qo (rO m (bitAt xs)).length qc, .slice so (rS m (bitAt xs)).length sc, .slice tO (rT m (bitAt xs)).length tc], .int .i64 0]) ∧ RO w.heap.size w' (rC m (bitAt xs)) (rO m (bitAt xs)) (rS m (bitAt xs)) (rT m (bitAt xs)) bo bc qo qc so sc tO tc ∧ Below w.heap.size w w' := by
 obtain ⟨h0, h1, h2, -⟩ := chk_out (m : Int) xs hk
 have hm : m ≤ 1048576 := by omega
 have hnb := nb_le m hm
 have hnbd : Hid (nb m = (m + 14) / 15) := rfl
 obtain ⟨i3, hi3, za3, zb3, zc3⟩ := info_parts info3_8
 obtain ⟨i4, hi4, za4, zb4, zc4⟩ := info_parts Tryz.info4
 obtain ⟨i6, hi6, za6, zb6, zc6⟩ := info_parts Tryz.info110
 obtain ⟨W, hW⟩ : ∃ W, W = (w.alloc (.cells #[.int .i64 m, .slice ao xs.length cap] 33)).alloc (.cells #[.int .i64 0, .int .i64 0, .int .i64 0, .int .i64 0, .slice none 0 0, .int .i64 0, .slice none 0 0, .slice none 0 0, .slice none 0 0] 41) := ⟨_, rfl⟩
 have bZ : Below w.heap.size w W := by rw [hW]; exact (below_alloc w _).alloc (by simp) _
 have B1 := yc3 hW
 have B2 := yc2 hW
 have C1 : Hid (∀ w0, w0 = W → Calls Tryz.prog 30 #[.agg #[.int .i64 m, .slice ao xs.length cap]] w0 fun e w' => e = .returned (.bool true) ∧ Below w0.heap.size w0 w') := fun w0 h => by
  subst h
  have := refcheck_c m ao xs cap w0 (hx.keep bZ) hf
  rw [hk] at this
  exact this
 obtain ⟨f, hff⟩ : ∃ f, Hid (f = bitAt xs) := ⟨_, rfl⟩
 rw [← hff.out]
 go_enter Tryz.func70, Tryz.ntmps70
 go_wp2_with fail
 rw [← hW]
 refine (C1.out _ rfl).mono ?_
 rintro e w1 ⟨rfl, hb⟩
 have bw1 := bZ.trans (hb.mono bZ.size)
 replace B1 := B1.kept hb
 replace B2 := B2.kept hb
 have z2 := B2.lt
 clear hb C1 hW bZ W h2
 have r0 := B1.cell 0 rfl
 have r1 := B1.cell 1 rfl
 go_wp2
 have hR0 : R8 w (w1.alloc (.cells #[.int .i64 m, .int .i64 0, .int .i64 0, .int .i64 0, .slice none 0 0, .int .i64 0, .slice none 0 0, .slice none 0 0, .slice none 0 0] 41)) m xs.length cap ao w1.heap.size (.slice none 0 0) (.slice none 0 0) := ⟨B1.alloc _, B2.alloc _, Cel.new w1 _ _, z2, bw1.alloc (by omega) _⟩
 clear B1 B2 r0 r1 bw1
 generalize w1.alloc (.cells #[.int .i64 m, .int .i64 0, .int .i64 0, .int .i64 0, .slice none 0 0, .int .i64 0, .slice none 0 0, .slice none 0 0, .slice none 0 0] 41) = w2 at *
 generalize w1.heap.size = g at *
 clear w1
 go_loopw [5, 6, 7, 8, 9, 10] (fun cv fv sv iv_ _ _ wr => ∃ (q p : Nat) (ov pv : Value), q ≤ max 1 (nb m) ∧ Hid (p = min q (nb m)) ∧ iv_ = .int .i64 q ∧ sv = .int .i64 (bon m f p) ∧ R8 w wr m xs.length cap ao g ov pv ∧ RW wr (g + 1) cv fv ov pv p p ((q + 7) / 8) ((q + 7) / 8) m f) (fun _ _ _ iv_ _ _ _ => max 1 (nb m) - (intOf iv_).toNat)
 case atStart => exact ⟨0, 0, .slice none 0 0, .slice none 0 0, by omega, by show 0 = min 0 (nb m); omega, rfl, rfl, hR0, ⟨World.ownsRow_nil _ _ _ _, World.ownsRow_nil _ _ _ _, World.ownsRow_nil _ _ _ _, World.ownsRow_nil _ _ _ _, Ap.apart_nil _, Ap.apart_nil _, Ap.apart_nil _, Ap.apart_nil _, Ap.apart_nil _, Ap.apart_nil _⟩⟩
 case round =>
  obtain ⟨q, p, ov, pv, hq, hp, rfl, rfl, hR, hG⟩ := hrel
  clear hR0
  have bonl := bon_le m f p
  have batl := bat_le m f p
  have r0 := hR.b1.cell 0 rfl
  obtain ⟨oo, oc, rfl, hoc, -⟩ := Ap.owns_shape hG.n
  obtain ⟨po, pc, rfl, hpc, -⟩ := Ap.owns_shape hG.t
  obtain ⟨fo, fc, rfl, hfc, -⟩ := Ap.owns_shape hG.o
  obtain ⟨co, cc, rfl, hcc, -⟩ := Ap.owns_shape hG.c
  have mu : IntKind.i64.wrap ((q : Int) * 15) = (q : Int) * 15 := by rw [IntKind.wrap_i64]; omega
  go_upto_region 8 with fail
  go_cut [26] (fun t26 wx => t26 = .bool (decide (q = 0 ∨ 15 * q < m)) ∧ wx = wr)
  case first =>
   by_cases hq0 : q = 0
   ·subst hq0
    go_wp2
    go_meet
    exact ⟨by simp, rfl⟩
   ·have hq1 : ((q : Int) == 0) = false := by simp; omega
    by_cases hl : 15 * q < m
    ·have hl2 : (q : Int) * 15 < (m : Int) := by omega
     go_wp2
     go_meet
     exact ⟨by simp [hl], rfl⟩
    ·have hl2 : ¬ (q : Int) * 15 < (m : Int) := by omega
     go_wp2
     go_meet
     exact ⟨by simp [hl, hq0], rfl⟩
  case rest =>
  obtain ⟨rfl, rfl⟩ := hcut
  by_cases hgo : q = 0 ∨ 15 * q < m
  ·have hpq : p = q := by have := hp.out; have := hnbd.out; omega
   subst hpq
   clear hp
   have dgo : decide (p = 0 ∨ 15 * p < m) = true := decide_eq_true hgo
   rw [dgo]
   clear dgo
   go_upto_if 31 with fail
   go_cut [] (fun wx => ∃ ov pv, R8 w wx m xs.length cap ao g ov pv ∧ RW wx (g + 1) (.slice co p cc) (.slice fo (bat m f p) fc) ov pv p p ((p + 8) / 8) ((p + 8) / 8) m f)
   case first =>
    by_cases h8 : p % 8 = 0
    ·have h8i : (p : Int).tmod 8 = 0 := by rw [Int.tmod_eq_emod_of_nonneg (by omega)]; omega
     have h8b : ((p : Int) % 8 == 0) = true := by simp; omega
     obtain ⟨G, eG⟩ : ∃ G, G = (p + 7) / 8 := ⟨_, rfl⟩
     rw [← eG] at hR hG hoc hpc
     have eG2 : Hid ((p + 8) / 8 = G + 1) := by show (p + 8) / 8 = G + 1; omega
     have eG3 : p = 8 * G := by omega
     have hV1 : Hid (iv8 (onL m f G) ++ [.int .i64 ((bon m f p : Nat) : Int)] = iv8 (onL m f (G + 1))) := by show _ = _; rw [eG3, onL_succ]
     have hV2 : Hid (iv8 (ptL m f G) ++ [.int .i64 ((bat m f p : Nat) : Int)] = iv8 (ptL m f (G + 1))) := by show _ = _; rw [eG3, ptL_succ]
     have lG : G ≤ 8739 := by omega
     clear eG3 hgo
     have HE : Hid (G = (p + 7) / 8) := eG
     clear eG h8
     go_wp2
     refine region_g [12, 14] (fun w' => R8 w w' m xs.length cap ao g (.slice oo G oc) (.slice po G pc)) (by kernel_rfl) ?_
     have hS : R8 w wc.drew m xs.length cap ao g (.slice oo G oc) (.slice po G pc) := ⟨hR.b1, hR.b2, hR.bx, hR.hg, hR.hw.drew⟩
     have hG0 : RW wc.drew (g + 1) (.slice co p cc) (.slice fo (bat m f p) fc) (.slice oo G oc) (.slice po G pc) p p G G m f := ⟨hG.c, hG.o, hG.n, hG.t, hG.co, hG.cn, hG.ct, hG.on, hG.ot, hG.nt⟩
     clear hR hG r0
     generalize wc.drew = wd at *
     refine AnyG.takeW 0 (v := ?vv1) rfl (by kernel_rfl) (by kernel_rfl) (by kernel_rfl) (fun _ _ _ h => h) ?hy1 (by rfl) ?rest1
     case hy1 =>
      intro w0
      go_simp
      try with_reducible rfl
     try simp only [Act.put, yq3, yq4, yq5]
     refine AnyG.takeW 2 (v := ?vv2) rfl (by kernel_rfl) (by kernel_rfl) (by kernel_rfl) (fun _ _ _ h => h) ?hy2 (by rfl) ?rest2
     case hy2 =>
      intro w0
      go_simp
      try with_reducible rfl
     try simp only [Act.put, yq3, yq4, yq5]
     refine AnyG.takeW 5 (v := ?vv3) rfl (by kernel_rfl) (by kernel_rfl) (by kernel_rfl) (fun _ _ _ h => h) ?hy3 (by rfl) ?rest3
     case hy3 =>
      intro w0
      go_simp
      try with_reducible rfl
     try simp only [Act.put, yq3, yq4, yq5]
     refine AnyG.takeW 7 (v := ?vv4) rfl (by kernel_rfl) (by kernel_rfl) (by kernel_rfl) (fun _ _ _ h => h) ?hy4 (by rfl) ?rest4
     case hy4 =>
      intro w0
      go_simp
      try with_reducible rfl
     try simp only [Act.put, yq3, yq4, yq5]
     refine AnyG.takeW 8 (v := ?vv5) rfl (by kernel_rfl) (by kernel_rfl) (by kernel_rfl) (fun _ _ _ h => h) ?hy5 (by rfl) ?rest5
     case hy5 =>
      intro w0
      go_simp
      try with_reducible rfl
     try simp only [Act.put, yq3, yq4, yq5]
     refine AnyG.tf 1 hS rfl (fun w0 h0 => by have c7 := h0.bx.cell 7 rfl; go_simp; try with_reducible rfl) ?_
     refine AnyG.tf 6 hS rfl (fun w0 h0 => by have c8 := h0.bx.cell 8 rfl; go_simp; try with_reducible rfl) ?_
     refine AnyG.two 3 9 (by kernel_rfl) rfl rfl ?_ ?_
     ·intro K hK
      go_simp
      have bA8 := below_alloc wd (.cells #[.int .i64 ((bon m f p : Nat) : Int)] 3)
      have S8 : R8 w (wd.alloc (.cells #[.int .i64 ((bon m f p : Nat) : Int)] 3)) m xs.length cap ao g (.slice oo G oc) (.slice po G pc) := hS.keep bA8 hS.bx.lt
      have G8 := hG0.keep bA8
      have c8 : Cel (wd.alloc (.cells #[.int .i64 ((bon m f p : Nat) : Int)] 3)) wd.heap.size [.int .i64 ((bon m f p : Nat) : Int)] 3 := Cel.new wd _ _
      refine hK.out _ _ (fun _ => S8) ?_
      clear hK K
      try simp only [Act.put, yq3, yq4, yq5]
      generalize hx8 : (wd.alloc (.cells #[.int .i64 ((bon m f p : Nat) : Int)] 3)) = X8 at *
      refine AnyG.two 4 9 (by kernel_rfl) rfl rfl ?_ ?_
      ·intro K hK
       refine Ap.step_append_u (by rfl) _ _ _ (by rfl) (g + 1) 3 i3 (.int .i64 0) 8 Tryz.underlying35 hi3 za3 zb3 zc3 rfl (.slice oo G oc) G (iv8 (onL m f G)) (by rfl) G8.n (some ⟨wd.heap.size, 0, none⟩) 1 1 [.int .i64 ((bon m f p : Nat) : Int)] (by rfl) rfl ?c1_9 ?c2_9 ?c3_9 ?c4_9 ?c5_9 ?c6_9
       case c1_9 => exact fun _ => ⟨_, rfl, fun j u hj => by
        match j, hj with
        | 0, hj => simp at hj; subst hj; exact c8.cell 0 rfl⟩
       case c2_9 => intro u hu; simp at hu; subst hu; rfl
       case c3_9 => unfold maxLen; omega
       case c4_9 => omega
       case c5_9 => exact S8.bx.lt
       intro so9 sc9 Y9 own9 hle9 hB9 hblk9 hkeep9 hsz9
       have S9 := S8.keep hB9 (Nat.lt_succ_self _)
       rw [hV1.out] at own9
       have G9 := G8.n' own9 hblk9 hkeep9
       refine hK.out _ _ (fun _ => S9) ?_
       clear hK K
       try simp only [Act.put, yq3, yq4, yq5]
       refine AnyG.takeW 11 (v := ?vv10) rfl (by kernel_rfl) (by kernel_rfl) (by kernel_rfl) (fun _ _ _ h => h) ?hy10 (by rfl) ?rest10
       case hy10 =>
        intro w0
        go_simp
        try with_reducible rfl
       try simp only [Act.put, yq3, yq4, yq5]
       refine AnyG.o1 9 ?_
       intro K hK
       go_simp
       have bA11 := below_alloc Y9 (.cells #[.int .i64 ((bat m f p : Nat) : Int)] 3)
       have S11 : R8 w (Y9.alloc (.cells #[.int .i64 ((bat m f p : Nat) : Int)] 3)) m xs.length cap ao g (.slice oo G oc) (.slice po G pc) := S9.keep bA11 S9.bx.lt
       have G11 := G9.keep bA11
       have c11 : Cel (Y9.alloc (.cells #[.int .i64 ((bat m f p : Nat) : Int)] 3)) Y9.heap.size [.int .i64 ((bat m f p : Nat) : Int)] 3 := Cel.new Y9 _ _
       have n11 : Value.ownBlock (.slice so9 (G + 1) sc9) ≠ some Y9.heap.size := fun h => Nat.lt_irrefl _ (G9.n.lt _ h).2
       refine hK.out _ _ (fun _ => S11) ?_
       clear hK K
       try simp only [Act.put, yq3, yq4, yq5]
       generalize hx11 : (Y9.alloc (.cells #[.int .i64 ((bat m f p : Nat) : Int)] 3)) = X11 at *
       refine AnyG.o1 10 ?_
       intro K hK
       refine Ap.step_append_u (by rfl) _ _ _ (by rfl) (g + 1) 3 i3 (.int .i64 0) 8 Tryz.underlying35 hi3 za3 zb3 zc3 rfl (.slice po G pc) G (iv8 (ptL m f G)) (by rfl) G11.t (some ⟨Y9.heap.size, 0, none⟩) 1 1 [.int .i64 ((bat m f p : Nat) : Int)] (by rfl) rfl ?c1_12 ?c2_12 ?c3_12 ?c4_12 ?c5_12 ?c6_12
       case c1_12 => exact fun _ => ⟨_, rfl, fun j u hj => by
        match j, hj with
        | 0, hj => simp at hj; subst hj; exact c11.cell 0 rfl⟩
       case c2_12 => intro u hu; simp at hu; subst hu; rfl
       case c3_12 => unfold maxLen; omega
       case c4_12 => omega
       case c5_12 => exact S11.bx.lt
       intro so12 sc12 Y12 own12 hle12 hB12 hblk12 hkeep12 hsz12
       have S12 := S11.keep hB12 (Nat.lt_succ_self _)
       rw [hV2.out] at own12
       have G12 := G11.t' own12 hblk12 hkeep12
       refine hK.out _ _ (fun _ => S12) ?_
       clear hK K
       try simp only [Act.put, yq3, yq4, yq5]
       refine AnyG.o1 12 ?_
       intro K hK
       have x13 := S12.bx.cell 7 rfl
       have y13 := S12.bx.frozen 7
       go_simp
       refine hK.out _ _ (fun h => absurd (by decide) h) ?_
       clear hK K
       try simp only [Act.put, yq3, yq4, yq5]
       have S13 := S12.ones (.slice so9 (G + 1) sc9)
       have G13 := G12.set (a := ⟨g, 7, none⟩) (Nat.lt_succ_self _) (.slice so9 (G + 1) sc9)
       refine AnyG.takeW 13 (v := ?vv14) rfl (by kernel_rfl) (by kernel_rfl) (by kernel_rfl) (fun _ _ _ h => h) ?hy14 (by rfl) ?rest14
       case hy14 =>
        intro w0
        go_simp
        try with_reducible rfl
       try simp only [Act.put, yq3, yq4, yq5]
       refine AnyG.o1 14 ?_
       intro K hK
       have x15 := S13.bx.cell 8 rfl
       have y15 := S13.bx.frozen 8
       go_simp
       refine hK.out _ _ (fun h => absurd (by decide) h) ?_
       clear hK K
       try simp only [Act.put, yq3, yq4, yq5]
       have S15 := S13.pts (.slice so12 (G + 1) sc12)
       have G15 := G13.set (a := ⟨g, 8, none⟩) (Nat.lt_succ_self _) (.slice so12 (G + 1) sc12)
       refine AnyG.done (by kernel_rfl) ?_ _
       go_wp2_with fail
       go_meet
       exact ⟨_, _, S15, by rw [eG2.out]; exact G15⟩
      ·intro K hK
       go_simp
       have bA16 := below_alloc X8 (.cells #[.int .i64 ((bat m f p : Nat) : Int)] 3)
       have S16 : R8 w (X8.alloc (.cells #[.int .i64 ((bat m f p : Nat) : Int)] 3)) m xs.length cap ao g (.slice oo G oc) (.slice po G pc) := S8.keep bA16 S8.bx.lt
       have G16 := G8.keep bA16
       have c16 : Cel (X8.alloc (.cells #[.int .i64 ((bat m f p : Nat) : Int)] 3)) X8.heap.size [.int .i64 ((bat m f p : Nat) : Int)] 3 := Cel.new X8 _ _
       have n16 : Value.ownBlock (.slice oo G oc) ≠ some X8.heap.size := fun h => Nat.lt_irrefl _ (G8.n.lt _ h).2
       have d16 : Cel (X8.alloc (.cells #[.int .i64 ((bat m f p : Nat) : Int)] 3)) wd.heap.size [.int .i64 ((bon m f p : Nat) : Int)] 3 := c8.kept bA16
       refine hK.out _ _ (fun _ => S16) ?_
       clear hK K
       try simp only [Act.put, yq3, yq4, yq5]
       generalize hx16 : (X8.alloc (.cells #[.int .i64 ((bat m f p : Nat) : Int)] 3)) = X16 at *
       refine AnyG.o1 4 ?_
       intro K hK
       refine Ap.step_append_u (by rfl) _ _ _ (by rfl) (g + 1) 3 i3 (.int .i64 0) 8 Tryz.underlying35 hi3 za3 zb3 zc3 rfl (.slice oo G oc) G (iv8 (onL m f G)) (by rfl) G16.n (some ⟨wd.heap.size, 0, none⟩) 1 1 [.int .i64 ((bon m f p : Nat) : Int)] (by rfl) rfl ?c1_17 ?c2_17 ?c3_17 ?c4_17 ?c5_17 ?c6_17
       case c1_17 => exact fun _ => ⟨_, rfl, fun j u hj => by
        match j, hj with
        | 0, hj => simp at hj; subst hj; exact d16.cell 0 rfl⟩
       case c2_17 => intro u hu; simp at hu; subst hu; rfl
       case c3_17 => unfold maxLen; omega
       case c4_17 => omega
       case c5_17 => exact S16.bx.lt
       intro so17 sc17 Y17 own17 hle17 hB17 hblk17 hkeep17 hsz17
       have S17 := S16.keep hB17 (Nat.lt_succ_self _)
       rw [hV1.out] at own17
       have G17 := G16.n' own17 hblk17 hkeep17
       have d17 : Cel Y17 X8.heap.size [.int .i64 ((bat m f p : Nat) : Int)] 3 := (hkeep17 _ c16.lt n16).trans c16
       refine hK.out _ _ (fun _ => S17) ?_
       clear hK K
       try simp only [Act.put, yq3, yq4, yq5]
       refine AnyG.takeW 11 (v := ?vv18) rfl (by kernel_rfl) (by kernel_rfl) (by kernel_rfl) (fun _ _ _ h => h) ?hy18 (by rfl) ?rest18
       case hy18 =>
        intro w0
        go_simp
        try with_reducible rfl
       try simp only [Act.put, yq3, yq4, yq5]
       refine AnyG.o1 10 ?_
       intro K hK
       refine Ap.step_append_u (by rfl) _ _ _ (by rfl) (g + 1) 3 i3 (.int .i64 0) 8 Tryz.underlying35 hi3 za3 zb3 zc3 rfl (.slice po G pc) G (iv8 (ptL m f G)) (by rfl) G17.t (some ⟨X8.heap.size, 0, none⟩) 1 1 [.int .i64 ((bat m f p : Nat) : Int)] (by rfl) rfl ?c1_19 ?c2_19 ?c3_19 ?c4_19 ?c5_19 ?c6_19
       case c1_19 => exact fun _ => ⟨_, rfl, fun j u hj => by
        match j, hj with
        | 0, hj => simp at hj; subst hj; exact d17.cell 0 rfl⟩
       case c2_19 => intro u hu; simp at hu; subst hu; rfl
       case c3_19 => unfold maxLen; omega
       case c4_19 => omega
       case c5_19 => exact S17.bx.lt
       intro so19 sc19 Y19 own19 hle19 hB19 hblk19 hkeep19 hsz19
       have S19 := S17.keep hB19 (Nat.lt_succ_self _)
       rw [hV2.out] at own19
       have G19 := G17.t' own19 hblk19 hkeep19
       refine hK.out _ _ (fun _ => S19) ?_
       clear hK K
       try simp only [Act.put, yq3, yq4, yq5]
       refine AnyG.o1 12 ?_
       intro K hK
       have x20 := S19.bx.cell 7 rfl
       have y20 := S19.bx.frozen 7
       go_simp
       refine hK.out _ _ (fun h => absurd (by decide) h) ?_
       clear hK K
       try simp only [Act.put, yq3, yq4, yq5]
       have S20 := S19.ones (.slice so17 (G + 1) sc17)
       have G20 := G19.set (a := ⟨g, 7, none⟩) (Nat.lt_succ_self _) (.slice so17 (G + 1) sc17)
       refine AnyG.takeW 13 (v := ?vv21) rfl (by kernel_rfl) (by kernel_rfl) (by kernel_rfl) (fun _ _ _ h => h) ?hy21 (by rfl) ?rest21
       case hy21 =>
        intro w0
        go_simp
        try with_reducible rfl
       try simp only [Act.put, yq3, yq4, yq5]
       refine AnyG.o1 14 ?_
       intro K hK
       have x22 := S20.bx.cell 8 rfl
       have y22 := S20.bx.frozen 8
       go_simp
       refine hK.out _ _ (fun h => absurd (by decide) h) ?_
       clear hK K
       try simp only [Act.put, yq3, yq4, yq5]
       have S22 := S20.pts (.slice so19 (G + 1) sc19)
       have G22 := G20.set (a := ⟨g, 8, none⟩) (Nat.lt_succ_self _) (.slice so19 (G + 1) sc19)
       refine AnyG.done (by kernel_rfl) ?_ _
       go_wp2_with fail
       go_meet
       exact ⟨_, _, S22, by rw [eG2.out]; exact G22⟩
     ·intro K hK
      go_simp
      have bA23 := below_alloc wd (.cells #[.int .i64 ((bat m f p : Nat) : Int)] 3)
      have S23 : R8 w (wd.alloc (.cells #[.int .i64 ((bat m f p : Nat) : Int)] 3)) m xs.length cap ao g (.slice oo G oc) (.slice po G pc) := hS.keep bA23 hS.bx.lt
      have G23 := hG0.keep bA23
      have c23 : Cel (wd.alloc (.cells #[.int .i64 ((bat m f p : Nat) : Int)] 3)) wd.heap.size [.int .i64 ((bat m f p : Nat) : Int)] 3 := Cel.new wd _ _
      have n23 : Value.ownBlock (.slice oo G oc) ≠ some wd.heap.size := fun h => Nat.lt_irrefl _ (hG0.n.lt _ h).2
      refine hK.out _ _ (fun _ => S23) ?_
      clear hK K
      try simp only [Act.put, yq3, yq4, yq5]
      generalize hx23 : (wd.alloc (.cells #[.int .i64 ((bat m f p : Nat) : Int)] 3)) = X23 at *
      refine AnyG.o1 3 ?_
      intro K hK
      go_simp
      have bA24 := below_alloc X23 (.cells #[.int .i64 ((bon m f p : Nat) : Int)] 3)
      have S24 : R8 w (X23.alloc (.cells #[.int .i64 ((bon m f p : Nat) : Int)] 3)) m xs.length cap ao g (.slice oo G oc) (.slice po G pc) := S23.keep bA24 S23.bx.lt
      have G24 := G23.keep bA24
      have c24 : Cel (X23.alloc (.cells #[.int .i64 ((bon m f p : Nat) : Int)] 3)) X23.heap.size [.int .i64 ((bon m f p : Nat) : Int)] 3 := Cel.new X23 _ _
      have d24 : Cel (X23.alloc (.cells #[.int .i64 ((bon m f p : Nat) : Int)] 3)) wd.heap.size [.int .i64 ((bat m f p : Nat) : Int)] 3 := c23.kept bA24
      refine hK.out _ _ (fun _ => S24) ?_
      clear hK K
      try simp only [Act.put, yq3, yq4, yq5]
      generalize hx24 : (X23.alloc (.cells #[.int .i64 ((bon m f p : Nat) : Int)] 3)) = X24 at *
      refine AnyG.o1 4 ?_
      intro K hK
      refine Ap.step_append_u (by rfl) _ _ _ (by rfl) (g + 1) 3 i3 (.int .i64 0) 8 Tryz.underlying35 hi3 za3 zb3 zc3 rfl (.slice oo G oc) G (iv8 (onL m f G)) (by rfl) G24.n (some ⟨X23.heap.size, 0, none⟩) 1 1 [.int .i64 ((bon m f p : Nat) : Int)] (by rfl) rfl ?c1_25 ?c2_25 ?c3_25 ?c4_25 ?c5_25 ?c6_25
      case c1_25 => exact fun _ => ⟨_, rfl, fun j u hj => by
       match j, hj with
       | 0, hj => simp at hj; subst hj; exact c24.cell 0 rfl⟩
      case c2_25 => intro u hu; simp at hu; subst hu; rfl
      case c3_25 => unfold maxLen; omega
      case c4_25 => omega
      case c5_25 => exact S24.bx.lt
      intro so25 sc25 Y25 own25 hle25 hB25 hblk25 hkeep25 hsz25
      have S25 := S24.keep hB25 (Nat.lt_succ_self _)
      rw [hV1.out] at own25
      have G25 := G24.n' own25 hblk25 hkeep25
      have d25 : Cel Y25 wd.heap.size [.int .i64 ((bat m f p : Nat) : Int)] 3 := (hkeep25 _ d24.lt n23).trans d24
      refine hK.out _ _ (fun _ => S25) ?_
      clear hK K
      try simp only [Act.put, yq3, yq4, yq5]
      refine AnyG.takeW 11 (v := ?vv26) rfl (by kernel_rfl) (by kernel_rfl) (by kernel_rfl) (fun _ _ _ h => h) ?hy26 (by rfl) ?rest26
      case hy26 =>
       intro w0
       go_simp
       try with_reducible rfl
      try simp only [Act.put, yq3, yq4, yq5]
      refine AnyG.o1 10 ?_
      intro K hK
      refine Ap.step_append_u (by rfl) _ _ _ (by rfl) (g + 1) 3 i3 (.int .i64 0) 8 Tryz.underlying35 hi3 za3 zb3 zc3 rfl (.slice po G pc) G (iv8 (ptL m f G)) (by rfl) G25.t (some ⟨wd.heap.size, 0, none⟩) 1 1 [.int .i64 ((bat m f p : Nat) : Int)] (by rfl) rfl ?c1_27 ?c2_27 ?c3_27 ?c4_27 ?c5_27 ?c6_27
      case c1_27 => exact fun _ => ⟨_, rfl, fun j u hj => by
       match j, hj with
       | 0, hj => simp at hj; subst hj; exact d25.cell 0 rfl⟩
      case c2_27 => intro u hu; simp at hu; subst hu; rfl
      case c3_27 => unfold maxLen; omega
      case c4_27 => omega
      case c5_27 => exact S25.bx.lt
      intro so27 sc27 Y27 own27 hle27 hB27 hblk27 hkeep27 hsz27
      have S27 := S25.keep hB27 (Nat.lt_succ_self _)
      rw [hV2.out] at own27
      have G27 := G25.t' own27 hblk27 hkeep27
      refine hK.out _ _ (fun _ => S27) ?_
      clear hK K
      try simp only [Act.put, yq3, yq4, yq5]
      refine AnyG.o1 12 ?_
      intro K hK
      have x28 := S27.bx.cell 7 rfl
      have y28 := S27.bx.frozen 7
      go_simp
      refine hK.out _ _ (fun h => absurd (by decide) h) ?_
      clear hK K
      try simp only [Act.put, yq3, yq4, yq5]
      have S28 := S27.ones (.slice so25 (G + 1) sc25)
      have G28 := G27.set (a := ⟨g, 7, none⟩) (Nat.lt_succ_self _) (.slice so25 (G + 1) sc25)
      refine AnyG.takeW 13 (v := ?vv29) rfl (by kernel_rfl) (by kernel_rfl) (by kernel_rfl) (fun _ _ _ h => h) ?hy29 (by rfl) ?rest29
      case hy29 =>
       intro w0
       go_simp
       try with_reducible rfl
      try simp only [Act.put, yq3, yq4, yq5]
      refine AnyG.o1 14 ?_
      intro K hK
      have x30 := S28.bx.cell 8 rfl
      have y30 := S28.bx.frozen 8
      go_simp
      refine hK.out _ _ (fun h => absurd (by decide) h) ?_
      clear hK K
      try simp only [Act.put, yq3, yq4, yq5]
      have S30 := S28.pts (.slice so27 (G + 1) sc27)
      have G30 := G28.set (a := ⟨g, 8, none⟩) (Nat.lt_succ_self _) (.slice so27 (G + 1) sc27)
      refine AnyG.done (by kernel_rfl) ?_ _
      go_wp2_with fail
      go_meet
      exact ⟨_, _, S30, by rw [eG2.out]; exact G30⟩
    ·have h8b : ((p : Int) % 8 == 0) = false := by simp; omega
     have eG2 : (p + 8) / 8 = (p + 7) / 8 := by omega
     have HE := Hid.mk8 eG2
     clear eG2
     go_wp2
     go_meet
     exact ⟨_, _, hR, by rw [HE.out]; exact hG⟩
   case rest =>
    obtain ⟨ov, pv, hR1, hG1⟩ := hcut
    clear hR hG r0
    have r0 := hR1.b1.cell 0 rfl
    have r1 := hR1.b1.cell 1 rfl
    by_cases hin : 15 * p < m
    ·have hin2 : (p : Int) * 15 < (m : Int) := by omega
     obtain ⟨X, hX⟩ : ∃ X, Hid (X = blv m f p) := ⟨_, rfl⟩
     obtain ⟨C, hC⟩ : ∃ C, Hid (C = bcl m f p) := ⟨_, rfl⟩
     obtain ⟨O, hO⟩ : ∃ O, Hid (O = bof m f p) := ⟨_, rfl⟩
     obtain ⟨D, hD⟩ : ∃ D, Hid (D = bwd m f p) := ⟨_, rfl⟩
     have bX : X < 32768 := by rw [hX.out]; exact blv_lt m f p
     have bC : C ≤ 15 := by rw [hC.out]; exact bcl_le m f p
     have bD : D ≤ 15 := by rw [hD.out]; exact bwd_le m f p
     have bO : O < 32768 := by
      rw [hO.out]
      have h := bof_fit m f p
      have h2 := bwd_le m f p
      have : 2 ^ bwd m f p ≤ 2 ^ 15 := Nat.pow_le_pow_right (by decide) h2
      omega
     have BK : Hid (∀ w0, Below w.heap.size w w0 → Calls Tryz.prog 124 #[.agg #[.int .i64 m, .slice ao xs.length cap], .int .i64 ((p : Int) * 15)] w0 fun e w' => e = .returned (.int .u64 X) ∧ Below w0.heap.size w0 w') := fun w0 h => by
      have := r8block_c m ao xs cap (15 * p) w0 (hx.keep h) hk (by omega)
      rw [show (((15 * p : Nat)) : Int) = (p : Int) * 15 by omega] at this
      rw [hX.out, hff.out]
      exact this
     have OF : Hid (∀ w0, Calls Tryz.prog 123 #[.int .u64 X, .int .i64 15] w0 fun e w' => e = .returned (.tuple #[.int .i64 C, .int .u64 O]) ∧ Below w0.heap.size w0 w') := fun w0 => by
      have := Ow.roffset_c X 15 (by omega) (by decide) (by decide) w0
      rw [show ofK X 15 = C by rw [hC.out, hX.out]; rfl, show ofO X 15 = O by rw [hO.out, hX.out]; rfl] at this
      exact this
     have WD : Hid (∀ w0, Calls Tryz.prog 126 #[.int .i64 15, .int .i64 C] w0 fun e w' => e = .returned (.int .i64 D) ∧ Below w0.heap.size w0 w') := fun w0 => by
      have := Ow.rwidth_c 15 C w0
      rw [wdN_k C bC, show kwd C = D by rw [hD.out, hC.out]; rfl] at this
      exact this
     have LW : Hid (∀ w0, Calls Tryz.prog 125 #[.int .u64 O, .int .i64 D] w0 fun e w' => ∃ v, e = .returned v ∧ w'.ownsRow w0.heap.size 4 1 v D (bvl (Bit.bits O D)) ∧ Below w0.heap.size w0 w') := fun w0 => low8_c O D (by omega) (by omega) w0
     go_wp2_with fail
     refine (BK.out _ hR1.hw).mono ?_
     rintro e w3 ⟨rfl, hb3⟩
     have hR3 := hR1.keep hb3 hR1.bx.lt
     have hG3 := hG1.keep hb3
     clear hR1 hG1 hb3 BK r0 r1
     go_wp2_with fail
     refine (OF.out _).mono ?_
     rintro e w4 ⟨rfl, hb4⟩
     have hR4 := hR3.keep hb4 hR3.bx.lt
     have hG4 := hG3.keep hb4
     clear hR3 hG3 hb4 OF w3
     have bA := below_alloc w4 (.cells #[.int .u64 C] 110)
     have hR5 := hR4.keep bA hR4.bx.lt
     have hG5 := hG4.keep bA
     have g5 := hR5.bx.lt
     have src5 : (w4.alloc (.cells #[.int .u64 C] 110)).cell? ⟨w4.heap.size, 0, none⟩ = some (.int .u64 C) := (Cel.new w4 [.int .u64 C] 110).cell 0 rfl
     clear hR4 hG4 bA
     go_wp2_with (at_builtin; refine Ap.wpList_append_x rfl _ _ 31 rfl (g + 1) 110 i6 (.int .u64 0) 8 Tryz.underlying31 hi6 za6 zb6 zc6 rfl (.slice co p cc) p (wv (bclP m f p)) rfl hG5.c (some ⟨w4.heap.size, 0, none⟩) 1 1 [.int .u64 C] rfl rfl ?d1 ?d2 ?d3 ?d4 ?d5 ?_)
     case d1 => exact fun _ => ⟨_, rfl, fun j u hj => by
      match j, hj with
      | 0, hj => simp at hj; subst hj; exact src5⟩
     case d2 => intro u hu; simp at hu; subst hu; rfl
     case d3 => unfold maxLen; omega
     case d4 => omega
     case d5 => exact g5
     intro co6 cc6 w6 own6 hle6 hB6 hblk6 hkeep6 hsz6
     have hV6 : Hid (wv (bclP m f p) ++ [.int .u64 C] = wv (bclP m f (p + 1))) := by show _ = _; rw [hC.out, bclP_succ]
     rw [hV6.out] at own6
     have s4 : (w4.alloc (.cells #[.int .u64 C] 110)).heap.size = w4.heap.size + 1 := by simp
     have hG6 := hG5.c' own6 (by rw [s4]; exact hblk6) (by rw [s4]; exact hkeep6)
     clear s4
     have hR6 := hR5.keep hB6 (Nat.lt_succ_self _)
     clear hR5 hG5 g5 src5 own6 hB6 hblk6 hkeep6 hsz6 hV6
     go_wp2_with fail
     refine (WD.out _).mono ?_
     rintro e w7 ⟨rfl, hb7⟩
     have hR7 := hR6.keep hb7 hR6.bx.lt
     have hG7 := hG6.keep hb7
     clear hR6 hG6 hb7 WD w6
     go_wp2_with fail
     refine (LW.out _).mono ?_
     rintro e w8 ⟨v8, rfl, own8, hb8⟩
     have hR8 := hR7.keep hb8 hR7.bx.lt
     have hG8 := hG7.keep hb8
     obtain ⟨lo, lc, rfl, -, -⟩ := Ap.owns_shape own8
     have src8 := own_src own8
     have g8 := hR8.bx.lt
     clear hR7 hG7 hb8 LW own8 w7
     go_wp2_with (at_builtin; refine Ap.wpList_append_x rfl _ _ 85 rfl (g + 1) 4 i4 (.bool false) 1 Tryz.underlying85 hi4 za4 zb4 zc4 rfl (.slice fo (bat m f p) fc) (bat m f p) (bvl (bofP m f p)) rfl hG8.o lo D lc (bvl (Bit.bits O D)) rfl ?f0 ?f1 ?f2 ?f3 ?f4 ?f5 ?_)
     case f0 => simp [bvl, length_bits]
     case f1 => exact src8
     case f2 => intro u hu; simp only [bvl, List.mem_map] at hu; obtain ⟨b, _, rfl⟩ := hu; rfl
     case f3 => unfold maxLen; omega
     case f4 => omega
     case f5 => exact g8
     intro fo9 fc9 w9 own9 hle9 hB9 hblk9 hkeep9 hsz9
     have hV9 : Hid (bvl (bofP m f p) ++ bvl (Bit.bits O D) = bvl (bofP m f (p + 1))) := by show _ = _; rw [hO.out, hD.out, bofP_succ]
     have hV10 : Hid (bat m f p + D = bat m f (p + 1)) := by show _ = _; rw [hD.out]; rfl
     have hV11 : Hid (bon m f p + C = bon m f (p + 1)) := by show _ = _; rw [hC.out]; rfl
     rw [hV9.out, hV10.out] at own9
     rw [hV10.out] at hblk9
     rw [hV10.out]
     have hG9 := hG8.o' own9 hblk9 hkeep9
     have hR9 := hR8.keep hB9 (Nat.lt_succ_self _)
     clear hR8 hG8 g8 src8 own9 hB9 hblk9 hkeep9 hsz9 w8 hV9 hle9 hle6
     have HG := Hid.mk8 hG9
     clear hG9
     go_wp2
     refine ⟨⟨p + 1, p + 1, ov, pv, ?_, ?_, ?_, ?_, hR9, HG.out⟩, ?_⟩
     ·have := hnbd.out; omega
     ·show p + 1 = min (p + 1) (nb m); have := hnbd.out; omega
     ·go_num
     ·rw [← hV11.out]; go_num
     ·simp only [intOf]; have := hnbd.out; omega
    ·have hin2 : ¬ (p : Int) * 15 < (m : Int) := by omega
     have p0 : p = 0 := by omega
     have m0 : Hid (m = 0) := by show m = 0; omega
     subst p0
     have HG := Hid.mk8 hG1
     clear hG1
     go_wp2
     refine ⟨⟨1, 0, ov, pv, by omega, ?_, rfl, rfl, hR1, HG.out⟩, ?_⟩
     ·show 0 = min 1 (nb m); have := hnbd.out; have := m0.out; omega
     ·simp only [intOf]; omega
  ·have dgo : decide (q = 0 ∨ 15 * q < m) = false := decide_eq_false hgo
   rw [dgo]
   have eq1 : q = max 1 (nb m) := by have := hnbd.out; omega
   have ep : Hid (p = nb m) := by show p = nb m; have := hp.out; omega
   have eg : Hid ((q + 7) / 8 = gN m) := by show (q + 7) / 8 = gN m; unfold gN; rw [eq1]
   rw [eg.out] at hG hoc hpc hR
   have hp2 : p ≤ 69906 := by rw [ep.out]; exact hnb
   obtain ⟨n8, hn8⟩ : ∃ n8, Hid (n8 = gN m) := ⟨_, rfl⟩
   rw [← hn8.out] at hG hoc hpc hR
   obtain ⟨A, hA⟩ : ∃ A, Hid (A = bat m f p) := ⟨_, rfl⟩
   have hA2 : A ≤ 908778 := by rw [hA.out]; omega
   rw [← hA.out]
   have HC := wd_own8 hG.c
   have HB := bl_own hG.o
   have fitC : Fit (bclP m f p) := fun i => by
    have := bclP_lt m f p i
    omega
   have MK : Hid (∀ w0, Wd w0 co (bclP m f p) → Calls Tryz.prog 127 #[.int .i64 4, .slice co p cc] w0 fun e w' => ∃ bo dap, e = .returned (.tuple #[.agg #[.int .i64 p, .int .i64 4, .int .i64 ((p : Int) * 4), .slice bo (rC m f).length dap], .int .i64 0]) ∧ OutF w0 w' bo (rC m f) dap) := fun w0 h => by
    have h3 := refmake_c 4 co (bclP m f p) cc w0 h fitC (by rw [length_bclP]; omega)
    have e0 : imE 4 (bclP m f p) = 0 := by rw [ep.out]; exact im_ok m f hm
    have e1 : imN 4 (bclP m f p) = (p : Int) := by unfold imN; rw [if_pos e0, length_bclP]
    have e2 : imW 4 (bclP m f p) = 4 := by unfold imW; rw [if_pos e0]
    have e3 : imM 4 (bclP m f p) = (p : Int) * 4 := by unfold imM; rw [if_pos e0, length_bclP]
    have e4 : imL 4 (bclP m f p) = rC m f := by unfold imL rC; rw [if_pos e0, length_bclP, ep.out]; rfl
    rw [e0, e1, e2, e3, e4, length_bclP] at h3
    exact h3
   have FR : Hid (∀ w0 : World, Bl w0 fo (bofP m f p) → Calls Tryz.prog 39 #[.slice fo A fc] w0 fun e w' => ∃ g, e = .returned (.tuple #[.agg #[.int .i64 A, .slice (some ⟨g, 0, none⟩) (rO m f).length (rO m f).length], .int .i64 0]) ∧ w0.heap.size ≤ g ∧ Own w' g (rO m f) ∧ Below w0.heap.size w0 w') := fun w0 h => by
    have h3 := reffrom_ok fo (bofP m f p) fc _ w0 h (by rw [length_bofP]; omega) rfl
    rw [length_bofP, ← hA.out] at h3
    refine h3.mono ?_
    rintro e w' ⟨g, rfl, hg, hOw, hb⟩
    have e5 : (rO m f).length = (A + 63) / 64 := by unfold rO; rw [← ep.out, hA.out, ← length_bofP]; exact length_rowOf _ _
    have e6 : fromS (bofP m f p) A = rO m f := by unfold rO; rw [← ep.out, hA.out, ← length_bofP, fromS_all]
    rw [e6] at hOw
    exact ⟨g, by rw [e5], hg, hOw, hb⟩
   clear hgo hq hp dgo bonl batl r0 mu eq1
   go_wp2_with fail
   refine (MK.out _ HC).mono ?_
   rintro e w3 ⟨bo, dap, rfl, h3C, h3F, h3l, h3n, hb3⟩
   have hgw : g < wc.heap.size := hR.bx.lt
   have hR3 := hR.keep hb3 hR.bx.lt
   have hG3 := hG.keep hb3
   clear hR hG HC HB MK hb3 fitC
   have x1 := hR3.bx.cell 1 rfl
   have x2 := hR3.bx.cell 2 rfl
   have x3 := hR3.bx.cell 3 rfl
   have x4 := hR3.bx.cell 4 rfl
   have y1 := hR3.bx.frozen 1
   have y2 := hR3.bx.frozen 2
   have y3 := hR3.bx.frozen 3
   have y4 := hR3.bx.frozen 4
   generalize hLc : (rC m f).length = Lc at *
   have O4 : Only g w3 ((((w3.setCell ⟨g, 1, none⟩ (.int .i64 p)).setCell ⟨g, 2, none⟩ (.int .i64 4)).setCell ⟨g, 3, none⟩ (.int .i64 ((p : Int) * 4))).setCell ⟨g, 4, none⟩ (.slice bo Lc dap)) := ((((Only.refl g w3).set 1 (.int .i64 p)).set 2 (.int .i64 4)).set 3 (.int .i64 ((p : Int) * 4))).set 4 (.slice bo Lc dap)
   have X4 : Cel ((((w3.setCell ⟨g, 1, none⟩ (.int .i64 p)).setCell ⟨g, 2, none⟩ (.int .i64 4)).setCell ⟨g, 3, none⟩ (.int .i64 ((p : Int) * 4))).setCell ⟨g, 4, none⟩ (.slice bo Lc dap)) g [.int .i64 m, .int .i64 p, .int .i64 4, .int .i64 ((p : Int) * 4), .slice bo Lc dap, .int .i64 0, .slice none 0 0, .slice oo n8 oc, .slice po n8 pc] 41 := (((hR3.bx.set 1 (.int .i64 p)).set 2 (.int .i64 4)).set 3 (.int .i64 ((p : Int) * 4))).set 4 (.slice bo Lc dap)
   have hg3 := hR3.hg
   have Y4 := O4.cel hR3.b2 (by omega)
   have C4 := O4.wd h3C (fun a _ ha => by have := h3n a ha; omega)
   have F4 := bl_own (O4.owns hG3.o (Nat.lt_succ_self _))
   have N4 := O4.owns hG3.n (Nat.lt_succ_self _)
   have T4 := O4.owns hG3.t (Nat.lt_succ_self _)
   have B4 := hR3.hw.trans (O4.below (by omega))
   have mu4 : IntKind.i64.wrap ((p : Int) * 4) = (p : Int) * 4 := by rw [IntKind.wrap_i64]; omega
   clear O4 hR3 hG3 h3C
   go_wp2_with fail
   refine (FR.out _ F4).mono ?_
   rintro e w5 ⟨g5, rfl, hg5, Ow5, hb5⟩
   have X5 := X4.kept hb5
   have Y5 := Y4.kept hb5
   have C5 := C4.keep hb5
   have N5 := Ap.owns_below N4 hb5
   have T5 := Ap.owns_below T4 hb5
   have B5 := B4.trans (hb5.mono B4.size)
   have hgl := X4.lt
   have cl5 := C5
   clear X4 Y4 C4 N4 T4 B4 FR F4 x1 x2 x3 x4 y1 y2 y3 y4 hb5
   have x5 := X5.cell 5 rfl
   have x6 := X5.cell 6 rfl
   have y5 := X5.frozen 5
   have y6 := X5.frozen 6
   have W5d := Ow5.wd
   clear Ow5
   generalize hLo : (rO m f).length = Lo at *
   have O6 : Only g w5 ((w5.setCell ⟨g, 5, none⟩ (.int .i64 A)).setCell ⟨g, 6, none⟩ (.slice (some ⟨g5, 0, none⟩) Lo Lo)) := ((Only.refl g w5).set 5 (.int .i64 A)).set 6 (.slice (some ⟨g5, 0, none⟩) Lo Lo)
   have X6 : Cel ((w5.setCell ⟨g, 5, none⟩ (.int .i64 A)).setCell ⟨g, 6, none⟩ (.slice (some ⟨g5, 0, none⟩) Lo Lo)) g [.int .i64 m, .int .i64 p, .int .i64 4, .int .i64 ((p : Int) * 4), .slice bo Lc dap, .int .i64 A, .slice (some ⟨g5, 0, none⟩) Lo Lo, .slice oo n8 oc, .slice po n8 pc] 41 := (X5.set 5 (.int .i64 A)).set 6 (.slice (some ⟨g5, 0, none⟩) Lo Lo)
   have Y6 := O6.cel Y5 (by omega)
   have C6 := O6.wd C5 (fun a _ ha => by have := h3n a ha; omega)
   have D6 := O6.wd W5d (fun a _ ha => by cases ha; show g5 ≠ g; omega)
   have N6 := O6.owns N5 (Nat.lt_succ_self _)
   have T6 := O6.owns T5 (Nat.lt_succ_self _)
   have B6 := B5.trans (O6.below (by omega))
   clear X5 Y5 C5 W5d N5 T5 B5 O6 cl5
   have HF : Hid (∀ wz, Cel wz (w.heap.size + 1) [.int .i64 m, .int .i64 p, .int .i64 4, .int .i64 ((p : Int) * 4), .slice bo Lc dap, .int .i64 A, .slice (some ⟨g5, 0, none⟩) Lo Lo, .slice oo n8 oc, .slice po n8 pc] 41 → Only (w.heap.size + 1) ((w5.setCell ⟨g, 5, none⟩ (.int .i64 A)).setCell ⟨g, 6, none⟩ (.slice (some ⟨g5, 0, none⟩) Lo Lo)) wz → RO w.heap.size wz (rC m f) (rO m f) (rS m f) (rT m f) bo dap (some ⟨g5, 0, none⟩) Lo oo oc po pc ∧ Below w.heap.size w wz) := fun wz hz hO => by
    refine ⟨⟨hO.wd C6 (fun a _ ha => by have := h3n a ha; omega), by omega, hO.wd D6 (fun a _ ha => by cases ha; show g5 ≠ w.heap.size + 1; omega), by omega, ?_, ?_, ?_, ?_, own_fr N6 (by omega), own_fr T6 (by omega)⟩, B6.trans (hO.below (Nat.le_succ _))⟩
    ·unfold rS; rw [← hn8.out]; exact nd_own8 (hO.owns N6 (by omega))
    ·unfold rS; rw [length_onL, ← hn8.out]; exact hoc
    ·unfold rT; rw [← hn8.out]; exact nd_own8 (hO.owns T6 (by omega))
    ·unfold rT; rw [length_ptL, ← hn8.out]; exact hpc
   clear C6 D6 N6 T6 B6 h3n
   go_wp2_with (first | refine load_cel g _ rfl X6 Tryz.underlying41 info_r9 ?_ | refine store_cel (w.heap.size + 1) _ _ rfl rfl Y6 rfl info_r9 (by simp [Value.oneCell']) ?_)
   intro w7 X7 O7
   have HZ := Hid.mk8 (And.intro X7 (HF.out w7 X7 O7))
   clear X7 O7 HF X6 Y6 x5 x6 y5 y6
   go_wp2
   (try simp only [Exit.inBlock, Exit.then])
   refine bodyPost_ret (result_cel rfl (w.heap.size + 1) _ rfl HZ.out.1 Tryz.underlying41 info_r9) rfl ⟨bo, dap, some ⟨g5, 0, none⟩, Lo, oo, oc, po, pc, ?_, HZ.out.2.1, HZ.out.2.2⟩
   have s1 : (rS m f).length = n8 := by unfold rS; rw [length_onL, hn8.out]
   have s2 : (rT m f).length = n8 := by unfold rT; rw [length_ptL, hn8.out]
   rw [hLc, hLo, s1, s2, ← ep.out, ← hA.out]
   rfl
end Go.Proofs.YtfnkklkdajlhlaaGreatDoor
namespace Go.Proofs.YtfnkklkdajlhlaaGreatDoor
open Num Bit
def I64 (n : Int) : Prop := -9223372036854775808 ≤ n ∧ n ≤ 9223372036854775807
def gaE (ok : Bool) (N : Int) (X : List Nat) (i : Int) : Int := if ok then getE N X i else 2
def gaB (ok : Bool) (N : Int) (X : List Nat) (i : Int) : Bool := ok && getB N X i
def grE (ok : Bool) (N : Int) (i : Int) : Int := if ok then (if i < 0 ∨ N < i then 3 else 0) else 2
def grN (ok : Bool) (N : Int) (X : List Nat) (bit : Bool) (i : Int) : Int := if grE ok N i = 0 then (cB X bit i.toNat : Int) else 0
def gsE (ok : Bool) (N : Int) (X : List Nat) (bit : Bool) (k : Int) : Int := if ok then (if (pselO N X bit k).isSome then 0 else 3) else 2
def gsX (ok : Bool) (N : Int) (X : List Nat) (bit : Bool) (k : Int) : Int := if ok then ((pselO N X bit k).getD 0 : Int) else 0
end Go.Proofs.YtfnkklkdajlhlaaGreatDoor
namespace Go.Proofs.YtfnkklkdajlhlaaGreatDoor
open Num Bit Bn
def rDec (N k V : Int) (xs : List Nat) (L : Int) (ys : List Nat) : Option (List Bool) := decG N.toNat L ys ((List.range k.toNat).map (numAt V.toNat xs)) 0 []
def rEq (N k V M : Int) (xs : List Nat) (L : Int) (ys : List Nat) (S T : List Int) (m : Nat) (f : Nat → Bool) : Bool :=
 decide (N = m) && ((decide (k = nb m) && (decide (V = 4) && (decide (M = (nb m : Int) * 4) && decide (xs = rC m f)))) && ((decide (L = bat m f (nb m)) && decide (ys = rO m f)) && (decide (S = rS m f) && decide (T = rT m f))))
def rOk (N k V M : Int) (xs : List Nat) (L : Int) (ys : List Nat) (S T : List Int) : Bool :=
 (decide (0 ≤ N ∧ N ≤ 1048576) && (ichk k V M xs && chk L ys)) && rEq N k V M xs L ys S T (rwN (rDec N k V xs L ys)) (bitAt (rwX (rDec N k V xs L ys)))
def rBN (N k V M : Int) (xs : List Nat) (L : Int) (ys : List Nat) (S T : List Int) : Int := if rOk N k V M xs L ys S T then (rwN (rDec N k V xs L ys) : Int) else 0
def rBX (N k V M : Int) (xs : List Nat) (L : Int) (ys : List Nat) (S T : List Int) : List Nat := if rOk N k V M xs L ys S T then rwX (rDec N k V xs L ys) else []
def rzN (N k V M : Int) (xs : List Nat) (L : Int) (ys : List Nat) (S T : List Int) : Int := if rOk N k V M xs L ys S T then M + L + 64 * (S.length : Int) else 0
theorem rw_chk (o : Option (List Bool)) (h : ∀ l, o = some l → l.length ≤ 1048576) : chk (rwN o : Int) (rwX o) = true := by
 cases o with
 | none => decide
 | some l => exact chk_rowOf _ _ (h l rfl)
theorem rw_fit (o : Option (List Bool)) : Fit (rwX o) := by
 cases o with
 | none => intro i; unfold gt; simp [rwX]
 | some l => exact fit_rowOf _ _
theorem rDec_len (N k V : Int) (xs : List Nat) (L : Int) (ys : List Nat) (hN : N ≤ 1048576) : ∀ l, rDec N k V xs L ys = some l → l.length ≤ 1048576 := by
 intro l h
 have := length_decG N.toNat L ys _ 0 [] l (by simp) h
 omega
theorem rOk_out (N k V M : Int) (xs : List Nat) (L : Int) (ys : List Nat) (S T : List Int) (h : rOk N k V M xs L ys S T = true) :
  (0 ≤ N ∧ N ≤ 1048576) ∧ ichk k V M xs = true ∧ chk L ys = true ∧ rEq N k V M xs L ys S T (rwN (rDec N k V xs L ys)) (bitAt (rwX (rDec N k V xs L ys))) = true := by
 unfold rOk at h
 simp only [Bool.and_eq_true, decide_eq_true_eq] at h
 exact ⟨h.1.1, h.1.2.1, h.1.2.2, h.2⟩
theorem rB_chk (N k V M : Int) (xs : List Nat) (L : Int) (ys : List Nat) (S T : List Int) (h : rOk N k V M xs L ys S T = true) : chk (rBN N k V M xs L ys S T) (rBX N k V M xs L ys S T) = true := by
 obtain ⟨h1, _, _, _⟩ := rOk_out _ _ _ _ _ _ _ _ _ h
 unfold rBN rBX
 rw [if_pos h, if_pos h]
 exact rw_chk _ (rDec_len N k V xs L ys h1.2)
theorem rB_fit (N k V M : Int) (xs : List Nat) (L : Int) (ys : List Nat) (S T : List Int) : Fit (rBX N k V M xs L ys S T) := by
 unfold rBX
 split
 ·exact rw_fit _
 ·intro i; unfold gt; simp
theorem rEq_out (N k V M : Int) (xs : List Nat) (L : Int) (ys : List Nat) (S T : List Int) (m : Nat) (f : Nat → Bool) (h : rEq N k V M xs L ys S T m f = true) :
  N = m ∧ k = nb m ∧ V = 4 ∧ M = (nb m : Int) * 4 ∧ xs = rC m f ∧ L = bat m f (nb m) ∧ ys = rO m f ∧ S = rS m f ∧ T = rT m f := by
 unfold rEq at h
 simp only [Bool.and_eq_true, decide_eq_true_eq] at h
 obtain ⟨h1, ⟨h2, h3, h4, h5⟩, ⟨h6, h7⟩, h8, h9⟩ := h
 exact ⟨h1, h2, h3, h4, h5, h6, h7, h8, h9⟩
theorem rEq_self (m : Nat) (f : Nat → Bool) : rEq m (nb m) 4 ((nb m : Int) * 4) (rC m f) (bat m f (nb m)) (rO m f) (rS m f) (rT m f) m f = true := by
 unfold rEq
 simp
theorem rDec_built (m : Nat) (f : Nat → Bool) (hm : m ≤ 1048576) : rDec m (nb m) 4 (rC m f) (bat m f (nb m)) (rO m f) = some ((List.range m).map f) := by
 unfold rDec rC rO
 rw [Int.toNat_natCast, Int.toNat_natCast]
 exact dec_built m f hm
end Go.Proofs.YtfnkklkdajlhlaaGreatDoor
namespace Go.Proofs.YtfnkklkdajlhlaaGreatDoor
open Go.RowKit Num Bit
theorem r8info_b : (Tryz.prog.info? 33).map (·.size) = some 2 := by kernel_rfl
end Go.Proofs.YtfnkklkdajlhlaaGreatDoor
namespace Go.Proofs.YtfnkklkdajlhlaaGreatDoor
open Go.RowKit Num Bit Bn
def rbN (N : Int) (xs : List Nat) : Int := if chk N xs then N else 0
def rbK (N : Int) (xs : List Nat) : Int := if chk N xs then (nb N.toNat : Int) else 0
def rbV (N : Int) (xs : List Nat) : Int := if chk N xs then 4 else 0
def rbM (N : Int) (xs : List Nat) : Int := if chk N xs then (nb N.toNat : Int) * 4 else 0
def rbC (N : Int) (xs : List Nat) : List Nat := if chk N xs then rC N.toNat (bitAt xs) else []
def rbL (N : Int) (xs : List Nat) : Int := if chk N xs then (bat N.toNat (bitAt xs) (nb N.toNat) : Int) else 0
def rbO (N : Int) (xs : List Nat) : List Nat := if chk N xs then rO N.toNat (bitAt xs) else []
def rbS (N : Int) (xs : List Nat) : List Int := if chk N xs then rS N.toNat (bitAt xs) else []
def rbT (N : Int) (xs : List Nat) : List Int := if chk N xs then rT N.toNat (bitAt xs) else []
def rbE (N : Int) (xs : List Nat) : Int := if chk N xs then 0 else 2
structure RIn (w : World) (N k V M : Int) (ao : Option Addr) (xs : List Nat) (cap : Nat) (L : Int) (qo : Option Addr) (ys : List Nat) (dap : Nat) (so : Option Addr) (S : List Int) (sc : Nat) (tO : Option Addr) (T : List Int) (tc : Nat) : Prop where
 x : Wd w ao xs
 xf : Fit xs
 xc : xs.length ≤ cap
 y : Wd w qo ys
 yf : Fit ys
 yc : ys.length ≤ dap
 s : Nd w so S
 sl : S.length ≤ 1048576
 sc : S.length ≤ sc
 t : Nd w tO T
 tl : T.length ≤ 1048576
 tc : T.length ≤ tc
theorem RIn.keep {w w' : World} {N k V M : Int} {ao : Option Addr} {xs : List Nat} {cap : Nat} {L : Int} {qo : Option Addr} {ys : List Nat} {dap : Nat} {so : Option Addr} {S : List Int} {sc : Nat} {tO : Option Addr} {T : List Int} {tc : Nat} (h : RIn w N k V M ao xs cap L qo ys dap so S sc tO T tc) (hb : Below w.heap.size w w') : RIn w' N k V M ao xs cap L qo ys dap so S sc tO T tc :=
 ⟨h.x.keep hb, h.xf, h.xc, h.y.keep hb, h.yf, h.yc, h.s.keep hb, h.sl, h.sc, h.t.keep hb, h.tl, h.tc⟩
theorem r8whole_main (N k V M : Int) (ao : Option Addr) (xs : List Nat) (cap : Nat) (L : Int) (qo : Option Addr) (ys : List Nat) (dap : Nat) (so : Option Addr) (S : List Int) (sc : Nat) (tO : Option Addr) (T : List Int) (tc : Nat) (w : World) (h : RIn w N k V M ao xs cap L qo ys dap so S sc tO T tc) (h2 : 0 ≤ N) (h3 : ¬ 1048576 < N) (hik : ichk k V M xs = true) (hck : chk L ys = true) :
  Calls Tryz.prog 58 #[.agg #[.int .i64 N, .int .i64 k, .int .i64 V, .int .i64 M, .slice ao xs.length cap, .int .i64 L, .slice qo ys.length dap, .slice so S.length sc, .slice tO T.length tc]] w fun e w' => ∃ bo bc, e = .returned (.tuple #[.agg #[.int .i64 (rBN N k V M xs L ys S T), .slice bo (rBX N k V M xs L ys S T).length bc], .bool (rOk N k V M xs L ys S T)]) ∧ Wd w' bo (rBX N k V M xs L ys S T) ∧ (rBX N k V M xs L ys S T).length ≤ bc ∧ Below w.heap.size w w' := by
 obtain ⟨W, hW⟩ : ∃ W, W = (w.alloc (.cells #[.int .i64 N, .int .i64 k, .int .i64 V, .int .i64 M, .slice ao xs.length cap, .int .i64 L, .slice qo ys.length dap, .slice so S.length sc, .slice tO T.length tc] 41)).alloc (.cells #[.int .i64 0, .slice none 0 0] 33) := ⟨_, rfl⟩
 have bW := yb2 hW
 have B1 := yc3 hW
 have B2 := yc2 hW
 have C1 : Hid (∀ w0, Below w.heap.size w w0 → Calls Tryz.prog 108 #[.agg #[.int .i64 k, .int .i64 V, .int .i64 M, .slice ao xs.length cap]] w0 fun e w' => e = .returned (.bool (ichk k V M xs)) ∧ Below w0.heap.size w0 w') := fun w0 hb => irefcheck_c k V M ao xs cap w0 (h.x.keep hb) h.xf
 have C2 : Hid (∀ w0, Below w.heap.size w w0 → Calls Tryz.prog 30 #[.agg #[.int .i64 L, .slice qo ys.length dap]] w0 fun e w' => e = .returned (.bool (chk L ys)) ∧ Below w0.heap.size w0 w') := fun w0 hb => refcheck_c L qo ys dap w0 (h.y.keep hb) h.yf
 obtain ⟨Z1, hZ1⟩ : ∃ Z, Hid (Z = rBN N k V M xs L ys S T) := ⟨_, rfl⟩
 obtain ⟨Z2, hZ2⟩ : ∃ Z, Hid (Z = rBX N k V M xs L ys S T) := ⟨_, rfl⟩
 obtain ⟨Z3, hZ3⟩ : ∃ Z, Hid (Z = rOk N k V M xs L ys S T) := ⟨_, rfl⟩
 rw [← hZ1.out, ← hZ2.out, ← hZ3.out]
 have bad : Hid (rOk N k V M xs L ys S T = false → Z1 = 0 ∧ Z2 = [] ∧ Z3 = false) := fun h => by rw [hZ1.out, hZ2.out, hZ3.out]; unfold rBN rBX; rw [h]; exact ⟨rfl, rfl, rfl⟩
 have r0 := B1.cell 0 rfl
 have r1 := B1.cell 1 rfl
 have r2 := B1.cell 2 rfl
 have r3 := B1.cell 3 rfl
 have r4 := B1.cell 4 rfl
 have r5 := B1.cell 5 rfl
 have r6 := B1.cell 6 rfl
 have r7 := B1.cell 7 rfl
 have r8 := B1.cell 8 rfl
 have h4 : ¬ N < 0 := by omega
 rw [hik] at C1
 rw [hck] at C2
 obtain ⟨m, rfl⟩ := Int.eq_ofNat_of_zero_le h2
 obtain ⟨a1, a2, a3, a4, a5, a6, a7, a8⟩ := ichk_out k V M xs hik
 obtain ⟨n, rfl⟩ := Int.eq_ofNat_of_zero_le a3
 obtain ⟨v, rfl⟩ := Int.eq_ofNat_of_zero_le (show 0 ≤ V by omega)
 obtain ⟨O, hO⟩ : ∃ O, Hid (O = rDec m n v xs L ys) := ⟨_, rfl⟩
 have hO2 : decG m L ys ((List.range n).map (numAt v xs)) 0 [] = O := by rw [hO.out]; rfl
 have hOl : ∀ l, O = some l → l.length ≤ 1048576 := fun l e => rDec_len m n v xs L ys (by omega) l (hO.out.symm.trans e)
 have ck := rw_chk O hOl
 have RWc : Hid (∀ w0, Below w.heap.size w w0 → Calls Tryz.prog 109 #[.agg #[.int .i64 m, .int .i64 n, .int .i64 v, .int .i64 M, .slice ao xs.length cap, .int .i64 L, .slice qo ys.length dap, .slice so S.length sc, .slice tO T.length tc]] w0 fun e w' => ∃ bo bc, e = .returned (.agg #[.int .i64 (rwN O), .slice bo (rwX O).length bc]) ∧ Wd w' bo (rwX O) ∧ Fit (rwX O) ∧ (rwX O).length ≤ bc ∧ Below w0.heap.size w0 w') := fun w0 hb =>
  row_c m n v M ao xs cap L qo ys dap so S.length sc tO T.length tc w0 (by omega) (h.x.keep hb) h.xf hik (h.y.keep hb) h.yf O hO2
 have E : Hid (Z3 = rEq m n v M xs L ys S T (rwN O) (bitAt (rwX O))) := by
  show _ = _
  rw [hZ3.out]
  unfold rOk
  rw [hik, hck, ← hO.out, decide_eq_true (show (0 : Int) ≤ m ∧ (m : Int) ≤ 1048576 by omega)]
  rfl
 have E1 : Hid (Z1 = if Z3 then (rwN O : Int) else 0) := by show _ = _; rw [hZ1.out, hZ3.out, hO.out]; rfl
 have E2 : Hid (Z2 = if Z3 then rwX O else []) := by show _ = _; rw [hZ2.out, hZ3.out, hO.out]; rfl
 clear hZ1 hZ2 hZ3 bad hO hO2 hOl
 generalize rwN O = p at *
 generalize rwX O = X at *
 have BD : Hid (∀ w0 bo bc, Wd w0 bo X → Fit X → Calls Tryz.prog 70 #[.agg #[.int .i64 p, .slice bo X.length bc]] w0 fun e w' => ∃ co cc po pc uo uc vo vc, e = .returned (.tuple #[.agg #[.int .i64 p, .int .i64 (nb p), .int .i64 4, .int .i64 ((nb p : Int) * 4), .slice co (rC p (bitAt X)).length cc, .int .i64 (bat p (bitAt X) (nb p)), .slice po (rO p (bitAt X)).length pc, .slice uo (rS p (bitAt X)).length uc, .slice vo (rT p (bitAt X)).length vc], .int .i64 0]) ∧ RO w0.heap.size w' (rC p (bitAt X)) (rO p (bitAt X)) (rS p (bitAt X)) (rT p (bitAt X)) co cc po pc uo uc vo vc ∧ Below w0.heap.size w0 w') := fun w0 bo bc hX hF => r8build_ok p bo X bc w0 hX hF ck
 have lx : xs.length ≤ 1048576 := by have := (chk_out M xs a5).2.2.1; omega
 have ly : ys.length ≤ 1048576 := by obtain ⟨_, _, h7, _⟩ := chk_out L ys hck; omega
 have SM : Hid (∀ bz w0 co cc po pc uo uc vo vc, Below w.heap.size w w0 → RO bz w0 (rC p (bitAt X)) (rO p (bitAt X)) (rS p (bitAt X)) (rT p (bitAt X)) co cc po pc uo uc vo vc → Calls Tryz.prog 110 #[.agg #[.int .i64 m, .int .i64 n, .int .i64 v, .int .i64 M, .slice ao xs.length cap, .int .i64 L, .slice qo ys.length dap, .slice so S.length sc, .slice tO T.length tc], .agg #[.int .i64 p, .int .i64 (nb p), .int .i64 4, .int .i64 ((nb p : Int) * 4), .slice co (rC p (bitAt X)).length cc, .int .i64 (bat p (bitAt X) (nb p)), .slice po (rO p (bitAt X)).length pc, .slice uo (rS p (bitAt X)).length uc, .slice vo (rT p (bitAt X)).length vc]] w0 fun e w' => e = .returned (.bool Z3) ∧ Below w0.heap.size w0 w') := fun bz w0 co cc po pc uo uc vo vc hb hr => by
  have h9 := h.keep hb
  rw [E.out]
  exact r8same_c m n v M ao xs cap L qo ys dap so S sc tO T tc p (nb p) 4 ((nb p : Int) * 4) co (rC p (bitAt X)) cc (bat p (bitAt X) (nb p)) po (rO p (bitAt X)) pc uo (rS p (bitAt X)) uc vo (rT p (bitAt X)) vc w0 h9.x hr.c lx h9.y hr.o ly h9.s hr.s h9.sl h9.t hr.t h9.tl
 clear ck a1 a2 a3 a4 a5 a6 a7 a8 lx ly
 go_enter Tryz.func58, Tryz.ntmps58
 go_upto_region 1 with fail
 rw [← hW]
 clear hW
 go_wp2_with fail
 refine (C1.out _ bW).mono ?_
 rintro e w1 ⟨rfl, hb⟩
 have bw1 := bW.trans (hb.mono bW.size)
 replace B1 := B1.kept hb
 replace B2 := B2.kept hb
 have q0 := B1.cell 0 rfl
 have q1 := B1.cell 1 rfl
 have q2 := B1.cell 2 rfl
 have q3 := B1.cell 3 rfl
 have q4 := B1.cell 4 rfl
 have q5 := B1.cell 5 rfl
 have q6 := B1.cell 6 rfl
 have q7 := B1.cell 7 rfl
 have q8 := B1.cell 8 rfl
 clear hb r0 r1 r2 r3 r4 r5 r6 r7 r8
 have r0 := q0
 have r1 := q1
 have r2 := q2
 have r3 := q3
 have r4 := q4
 have r5 := q5
 have r6 := q6
 have r7 := q7
 have r8 := q8
 clear q0 q1 q2 q3 q4 q5 q6 q7 q8
 go_wp2_with fail
 refine (C2.out _ bw1).mono ?_
 rintro e w2 ⟨rfl, hb⟩
 have bw2 := bw1.trans (hb.mono bw1.size)
 replace B1 := B1.kept hb
 replace B2 := B2.kept hb
 have q0 := B1.cell 0 rfl
 have q1 := B1.cell 1 rfl
 have q2 := B1.cell 2 rfl
 have q3 := B1.cell 3 rfl
 have q4 := B1.cell 4 rfl
 have q5 := B1.cell 5 rfl
 have q6 := B1.cell 6 rfl
 have q7 := B1.cell 7 rfl
 have q8 := B1.cell 8 rfl
 clear hb r0 r1 r2 r3 r4 r5 r6 r7 r8
 have r0 := q0
 have r1 := q1
 have r2 := q2
 have r3 := q3
 have r4 := q4
 have r5 := q5
 have r6 := q6
 have r7 := q7
 have r8 := q8
 clear q0 q1 q2 q3 q4 q5 q6 q7 q8
 go_wp2_with fail
 refine (RWc.out _ bw2).mono ?_
 rintro e w3 ⟨bo, bc, rfl, hX, hF, hbc, hb⟩
 have bw3 := bw2.trans (hb.mono bw2.size)
 replace B1 := B1.kept hb
 replace B2 := B2.kept hb
 clear hb RWc C1 C2 r0 r1 r2 r3 r4 r5 r6 r7 r8
 have z3 := B2.lt
 have n3 : w3.heap.size ≠ w.heap.size + 1 := by omega
 clear z3
 obtain ⟨U, hU⟩ : ∃ U, U = w3.alloc (.cells #[.int .i64 p, .slice bo X.length bc] 33) := ⟨_, rfl⟩
 have bA : Below w3.heap.size w3 U := by rw [hU]; exact below_alloc w3 _
 have bV := bw3.trans (bA.mono bw3.size)
 have D4 : Cel U w3.heap.size [.int .i64 p, .slice bo X.length bc] 33 := by rw [hU]; exact Cel.new w3 _ _
 replace B1 := B1.kept bA
 replace B2 := B2.kept bA
 replace hX := hX.keep bA
 clear bA
 go_wp2_with fail
 rw [← hU]
 clear hU
 refine (BD.out _ _ _ hX hF).mono ?_
 rintro e w5 ⟨co, cc, po, pc, uo, uc, vo, vc, rfl, hr, hb⟩
 have bw5 := bV.trans (hb.mono bV.size)
 replace B1 := B1.kept hb
 replace B2 := B2.kept hb
 replace D4 := D4.kept hb
 replace hX := hX.keep hb
 clear hb BD
 obtain ⟨V5, hV⟩ : ∃ V5, V5 = w5.alloc (.cells #[.int .i64 p, .int .i64 (nb p), .int .i64 4, .int .i64 ((nb p : Int) * 4), .slice co (rC p (bitAt X)).length cc, .int .i64 (bat p (bitAt X) (nb p)), .slice po (rO p (bitAt X)).length pc, .slice uo (rS p (bitAt X)).length uc, .slice vo (rT p (bitAt X)).length vc] 41) := ⟨_, rfl⟩
 have bA : Below w5.heap.size w5 V5 := by rw [hV]; exact below_alloc w5 _
 have bV5 := bw5.trans (bA.mono bw5.size)
 replace hr := hr.keep bA
 have r := B1.lt
 have r0 := B1.cell 0 rfl
 have r1 := B1.cell 1 rfl
 have r2 := B1.cell 2 rfl
 have r3 := B1.cell 3 rfl
 have r4 := B1.cell 4 rfl
 have r5 := B1.cell 5 rfl
 have r6 := B1.cell 6 rfl
 have r7 := B1.cell 7 rfl
 have r8 := B1.cell 8 rfl
 replace B2 := B2.kept bA
 replace D4 := D4.kept bA
 replace hX := hX.keep bA
 clear bA
 go_wp2_with fail
 rw [← hV]
 clear hV r r0 r1 r2 r3 r4 r5 r6 r7 r8
 refine (SM.out _ _ _ _ _ _ _ _ _ _ bV5 hr).mono ?_
 rintro e w6 ⟨rfl, hb⟩
 have bw6 := bV5.trans (hb.mono bV5.size)
 replace B2 := B2.kept hb
 replace D4 := D4.kept hb
 replace hX := hX.keep hb
 clear hb SM hr
 cases hz : Z3 with
 | false =>
  have E0 : Hid (Z1 = 0 ∧ Z2 = []) := by
   show _ ∧ _
   rw [E1.out, E2.out, hz]
   exact ⟨rfl, rfl⟩
  clear E E1 E2
  go_wp2_with (first | refine load_cel w3.heap.size _ rfl D4 Tryz.underlying33 r8info_b ?_ | refine store_cel (w.heap.size + 1) _ _ rfl rfl B2 rfl r8info_b (by simp [Value.oneCell']) ?_)
  intro w9 B9 O9
  have HZ := Hid.mk8 (And.intro B9 (bw6.trans (O9.below (Nat.le_succ _))))
  clear B9 O9 B2 D4 hX
  go_wp2
  (try simp only [Exit.inBlock, Exit.then])
  refine bodyPost_ret (result_cel rfl (w.heap.size + 1) _ rfl HZ.out.1 Tryz.underlying33 r8info_b) rfl ?_
  obtain ⟨e1, e2⟩ := E0.out
  rw [e1, e2, hz]
  exact ⟨none, 0, rfl, wd0' _ _, Nat.le_refl _, HZ.out.2⟩
 | true =>
  have E0 : Hid (Z1 = (p : Int) ∧ Z2 = X) := by
   show _ ∧ _
   rw [E1.out, E2.out, hz]
   exact ⟨rfl, rfl⟩
  clear E E1 E2
  have hne := hX.apart B2 (by intro v hv n; simp at hv; rcases hv with rfl | rfl <;> simp)
  go_wp2_with (first | refine load_cel w3.heap.size _ rfl D4 Tryz.underlying33 r8info_b ?_ | refine store_cel (w.heap.size + 1) _ _ rfl rfl B2 rfl r8info_b (by simp [Value.oneCell']) ?_)
  intro w9 B9 O9
  have HZ := Hid.mk8 (And.intro B9 (And.intro (O9.wd hX hne) (bw6.trans (O9.below (Nat.le_succ _)))))
  clear B9 O9 B2 D4 hX hne
  go_wp2
  (try simp only [Exit.inBlock, Exit.then])
  refine bodyPost_ret (result_cel rfl (w.heap.size + 1) _ rfl HZ.out.1 Tryz.underlying33 r8info_b) rfl ?_
  obtain ⟨e1, e2⟩ := E0.out
  rw [e1, e2, hz]
  exact ⟨bo, bc, rfl, HZ.out.2.1, hbc, HZ.out.2.2⟩
theorem r8whole_c (N k V M : Int) (ao : Option Addr) (xs : List Nat) (cap : Nat) (L : Int) (qo : Option Addr) (ys : List Nat) (dap : Nat) (so : Option Addr) (S : List Int) (sc : Nat) (tO : Option Addr) (T : List Int) (tc : Nat) (w : World) (h : RIn w N k V M ao xs cap L qo ys dap so S sc tO T tc) :
  Calls Tryz.prog 58 #[.agg #[.int .i64 N, .int .i64 k, .int .i64 V, .int .i64 M, .slice ao xs.length cap, .int .i64 L, .slice qo ys.length dap, .slice so S.length sc, .slice tO T.length tc]] w fun e w' => ∃ bo bc, e = .returned (.tuple #[.agg #[.int .i64 (rBN N k V M xs L ys S T), .slice bo (rBX N k V M xs L ys S T).length bc], .bool (rOk N k V M xs L ys S T)]) ∧ Wd w' bo (rBX N k V M xs L ys S T) ∧ (rBX N k V M xs L ys S T).length ≤ bc ∧ Below w.heap.size w w' := by
 obtain ⟨W, hW⟩ : ∃ W, W = (w.alloc (.cells #[.int .i64 N, .int .i64 k, .int .i64 V, .int .i64 M, .slice ao xs.length cap, .int .i64 L, .slice qo ys.length dap, .slice so S.length sc, .slice tO T.length tc] 41)).alloc (.cells #[.int .i64 0, .slice none 0 0] 33) := ⟨_, rfl⟩
 have bW := yb2 hW
 have B1 := yc3 hW
 have B2 := yc2 hW
 have C1 : Hid (∀ w0, Below w.heap.size w w0 → Calls Tryz.prog 108 #[.agg #[.int .i64 k, .int .i64 V, .int .i64 M, .slice ao xs.length cap]] w0 fun e w' => e = .returned (.bool (ichk k V M xs)) ∧ Below w0.heap.size w0 w') := fun w0 hb => irefcheck_c k V M ao xs cap w0 (h.x.keep hb) h.xf
 have C2 : Hid (∀ w0, Below w.heap.size w w0 → Calls Tryz.prog 30 #[.agg #[.int .i64 L, .slice qo ys.length dap]] w0 fun e w' => e = .returned (.bool (chk L ys)) ∧ Below w0.heap.size w0 w') := fun w0 hb => refcheck_c L qo ys dap w0 (h.y.keep hb) h.yf
 obtain ⟨Z1, hZ1⟩ : ∃ Z, Hid (Z = rBN N k V M xs L ys S T) := ⟨_, rfl⟩
 obtain ⟨Z2, hZ2⟩ : ∃ Z, Hid (Z = rBX N k V M xs L ys S T) := ⟨_, rfl⟩
 obtain ⟨Z3, hZ3⟩ : ∃ Z, Hid (Z = rOk N k V M xs L ys S T) := ⟨_, rfl⟩
 rw [← hZ1.out, ← hZ2.out, ← hZ3.out]
 have bad : Hid (rOk N k V M xs L ys S T = false → Z1 = 0 ∧ Z2 = [] ∧ Z3 = false) := fun h => by rw [hZ1.out, hZ2.out, hZ3.out]; unfold rBN rBX; rw [h]; exact ⟨rfl, rfl, rfl⟩
 have r0 := B1.cell 0 rfl
 have r1 := B1.cell 1 rfl
 have r2 := B1.cell 2 rfl
 have r3 := B1.cell 3 rfl
 have r4 := B1.cell 4 rfl
 have r5 := B1.cell 5 rfl
 have r6 := B1.cell 6 rfl
 have r7 := B1.cell 7 rfl
 have r8 := B1.cell 8 rfl
 by_cases h0 : N < 0
 ·have E : Hid (Z1 = 0 ∧ Z2 = [] ∧ Z3 = false) := bad.out (by unfold rOk; rw [decide_eq_false (by omega)]; rfl)
  clear bad hZ1 hZ2 hZ3
  go_enter Tryz.func58, Tryz.ntmps58
  go_upto_region 1 with fail
  rw [← hW]
  clear hW
  go_wp2_with (refine store_cel (w.heap.size + 1) _ _ rfl rfl B2 rfl r8info_b (by simp [Value.oneCell']) ?_)
  intro w9 B9 O9
  have HZ := Hid.mk8 (And.intro B9 (bW.trans (O9.below (Nat.le_succ _))))
  clear B9 O9
  go_wp2
  (try simp only [Exit.inBlock, Exit.then])
  refine bodyPost_ret (result_cel rfl (w.heap.size + 1) _ rfl HZ.out.1 Tryz.underlying33 r8info_b) rfl ?_
  obtain ⟨e1, e2, e3⟩ := E.out
  rw [e1, e2, e3]
  exact ⟨none, 0, rfl, wd0' _ _, Nat.le_refl _, HZ.out.2⟩
 by_cases h1 : 1048576 < N
 ·have E : Hid (Z1 = 0 ∧ Z2 = [] ∧ Z3 = false) := bad.out (by unfold rOk; rw [decide_eq_false (by omega)]; rfl)
  clear bad hZ1 hZ2 hZ3
  go_enter Tryz.func58, Tryz.ntmps58
  go_upto_region 1 with fail
  rw [← hW]
  clear hW
  go_wp2_with (refine store_cel (w.heap.size + 1) _ _ rfl rfl B2 rfl r8info_b (by simp [Value.oneCell']) ?_)
  intro w9 B9 O9
  have HZ := Hid.mk8 (And.intro B9 (bW.trans (O9.below (Nat.le_succ _))))
  clear B9 O9
  go_wp2
  (try simp only [Exit.inBlock, Exit.then])
  refine bodyPost_ret (result_cel rfl (w.heap.size + 1) _ rfl HZ.out.1 Tryz.underlying33 r8info_b) rfl ?_
  obtain ⟨e1, e2, e3⟩ := E.out
  rw [e1, e2, e3]
  exact ⟨none, 0, rfl, wd0' _ _, Nat.le_refl _, HZ.out.2⟩
 have h2 : 0 ≤ N := by omega
 have h3 : ¬ 1048576 < N := by omega
 have h4 : ¬ N < 0 := by omega
 cases hik : ichk k V M xs with
 | false =>
  have E : Hid (Z1 = 0 ∧ Z2 = [] ∧ Z3 = false) := bad.out (by unfold rOk; rw [hik]; simp)
  clear bad hZ1 hZ2 hZ3
  rw [hik] at C1
  go_enter Tryz.func58, Tryz.ntmps58
  go_upto_region 1 with fail
  rw [← hW]
  clear hW
  go_wp2_with fail
  refine (C1.out _ bW).mono ?_
  rintro e w1 ⟨rfl, hb⟩
  have bw1 := bW.trans (hb.mono bW.size)
  replace B1 := B1.kept hb
  replace B2 := B2.kept hb
  have q0 := B1.cell 0 rfl
  have q1 := B1.cell 1 rfl
  have q2 := B1.cell 2 rfl
  have q3 := B1.cell 3 rfl
  have q4 := B1.cell 4 rfl
  have q5 := B1.cell 5 rfl
  have q6 := B1.cell 6 rfl
  have q7 := B1.cell 7 rfl
  have q8 := B1.cell 8 rfl
  clear hb r0 r1 r2 r3 r4 r5 r6 r7 r8
  have r0 := q0
  have r1 := q1
  have r2 := q2
  have r3 := q3
  have r4 := q4
  have r5 := q5
  have r6 := q6
  have r7 := q7
  have r8 := q8
  clear q0 q1 q2 q3 q4 q5 q6 q7 q8
  go_wp2_with (refine store_cel (w.heap.size + 1) _ _ rfl rfl B2 rfl r8info_b (by simp [Value.oneCell']) ?_)
  intro w9 B9 O9
  have HZ := Hid.mk8 (And.intro B9 (bw1.trans (O9.below (Nat.le_succ _))))
  clear B9 O9
  go_wp2
  (try simp only [Exit.inBlock, Exit.then])
  refine bodyPost_ret (result_cel rfl (w.heap.size + 1) _ rfl HZ.out.1 Tryz.underlying33 r8info_b) rfl ?_
  obtain ⟨e1, e2, e3⟩ := E.out
  rw [e1, e2, e3]
  exact ⟨none, 0, rfl, wd0' _ _, Nat.le_refl _, HZ.out.2⟩
 | true =>
  rw [hik] at C1
  cases hck : chk L ys with
  | false =>
   have E : Hid (Z1 = 0 ∧ Z2 = [] ∧ Z3 = false) := bad.out (by unfold rOk; rw [hik, hck]; simp)
   clear bad hZ1 hZ2 hZ3
   rw [hck] at C2
   go_enter Tryz.func58, Tryz.ntmps58
   go_upto_region 1 with fail
   rw [← hW]
   clear hW
   go_wp2_with fail
   refine (C1.out _ bW).mono ?_
   rintro e w1 ⟨rfl, hb⟩
   have bw1 := bW.trans (hb.mono bW.size)
   replace B1 := B1.kept hb
   replace B2 := B2.kept hb
   have q0 := B1.cell 0 rfl
   have q1 := B1.cell 1 rfl
   have q2 := B1.cell 2 rfl
   have q3 := B1.cell 3 rfl
   have q4 := B1.cell 4 rfl
   have q5 := B1.cell 5 rfl
   have q6 := B1.cell 6 rfl
   have q7 := B1.cell 7 rfl
   have q8 := B1.cell 8 rfl
   clear hb r0 r1 r2 r3 r4 r5 r6 r7 r8
   have r0 := q0
   have r1 := q1
   have r2 := q2
   have r3 := q3
   have r4 := q4
   have r5 := q5
   have r6 := q6
   have r7 := q7
   have r8 := q8
   clear q0 q1 q2 q3 q4 q5 q6 q7 q8
   go_wp2_with fail
   refine (C2.out _ bw1).mono ?_
   rintro e w2 ⟨rfl, hb⟩
   have bw2 := bw1.trans (hb.mono bw1.size)
   replace B1 := B1.kept hb
   replace B2 := B2.kept hb
   have q0 := B1.cell 0 rfl
   have q1 := B1.cell 1 rfl
   have q2 := B1.cell 2 rfl
   have q3 := B1.cell 3 rfl
   have q4 := B1.cell 4 rfl
   have q5 := B1.cell 5 rfl
   have q6 := B1.cell 6 rfl
   have q7 := B1.cell 7 rfl
   have q8 := B1.cell 8 rfl
   clear hb r0 r1 r2 r3 r4 r5 r6 r7 r8
   have r0 := q0
   have r1 := q1
   have r2 := q2
   have r3 := q3
   have r4 := q4
   have r5 := q5
   have r6 := q6
   have r7 := q7
   have r8 := q8
   clear q0 q1 q2 q3 q4 q5 q6 q7 q8
   go_wp2_with (refine store_cel (w.heap.size + 1) _ _ rfl rfl B2 rfl r8info_b (by simp [Value.oneCell']) ?_)
   intro w9 B9 O9
   have HZ := Hid.mk8 (And.intro B9 (bw2.trans (O9.below (Nat.le_succ _))))
   clear B9 O9
   go_wp2
   (try simp only [Exit.inBlock, Exit.then])
   refine bodyPost_ret (result_cel rfl (w.heap.size + 1) _ rfl HZ.out.1 Tryz.underlying33 r8info_b) rfl ?_
   obtain ⟨e1, e2, e3⟩ := E.out
   rw [e1, e2, e3]
   exact ⟨none, 0, rfl, wd0' _ _, Nat.le_refl _, HZ.out.2⟩
  | true =>
   rw [hZ1.out, hZ2.out, hZ3.out]
   exact r8whole_main N k V M ao xs cap L qo ys dap so S sc tO T tc w h h2 h3 hik hck
def Tb (w : World) (b : Nat) (cs : List Value) : Prop := ∃ T, Cel w b cs T
theorem Tb.lt {w : World} {b : Nat} {cs : List Value} (h : Tb w b cs) : b < w.heap.size := by
 obtain ⟨T, h⟩ := h
 exact h.lt
theorem Tb.cell {w : World} {b : Nat} {cs : List Value} (h : Tb w b cs) (i : Nat) {v : Value} (hv : cs[i]? = some v) : w.cell? ⟨b, i, none⟩ = some v := by
 obtain ⟨T, h⟩ := h
 exact h.cell i hv
theorem Tb.keep {w w' : World} {b base : Nat} {cs : List Value} (h : Tb w b cs) (hb : Below base w w') (hlt : b < base) : Tb w' b cs := by
 obtain ⟨T, h⟩ := h
 exact ⟨T, h.keep hb hlt⟩
theorem Tb.kept {w w' : World} {b : Nat} {cs : List Value} (h : Tb w b cs) (hb : Below w.heap.size w w') : Tb w' b cs := h.keep hb h.lt
theorem Tb.other {w : World} {b : Nat} {cs : List Value} (h : Tb w b cs) {a : Addr} (ha : b ≠ a.block) (v : Value) : Tb (w.setCell a v) b cs := by
 obtain ⟨T, h⟩ := h
 exact ⟨T, h.other ha v⟩
def vI (l : List Nat) : List Value := l.map fun n : Nat => Value.int .i64 (n : Int)
theorem vI_get (l : List Nat) (i : Nat) (h : i < l.length) : (vI l)[i]? = some (.int .i64 (gt l i)) := by
 unfold vI
 rw [List.getElem?_map, gt_get l i h]
 rfl
def wdL : List Nat := [0, 4, 7, 9, 11, 12, 13, 13, 13, 13, 12, 11, 9, 7, 4, 0]
def chL : List Nat := [1, 15, 105, 455, 1365, 3003, 5005, 6435, 6435, 5005, 3003, 1365, 455, 105, 15, 1]
theorem length_wdL : wdL.length = 16 := rfl
theorem gt_wdL (c : Nat) (h : c ≤ 15) : gt wdL c = kwd c := by
 match c, h with
 | 0, _ | 1, _ | 2, _ | 3, _ | 4, _ | 5, _ | 6, _ | 7, _ | 8, _ | 9, _ | 10, _ | 11, _ | 12, _ | 13, _ | 14, _ | 15, _ => decide +kernel
structure GV (w : World) : Prop where
 wd : Tb w 1 (vI wdL)
 wy : Tb w 0 (wv chL)
theorem GV.keep {w w' : World} (h : GV w) (hb : Below w.heap.size w w') : GV w' := ⟨h.wd.kept hb, h.wy.kept hb⟩
theorem GV.kept {w w' : World} (h : GV w) (hb : Below w.heap.size w w') : GV w' := h.keep hb
theorem GV.two {w : World} (h : GV w) : 1 < w.heap.size := by
 have := h.wd.lt
 have := h.wy.lt
 omega
structure RA8 where
 N : Int
 k : Int
 V : Int
 M : Int
 xs : List Nat
 L : Int
 ys : List Nat
 S : List Int
 T : List Int
def KArg8 (w : World) (cs : List Value) (a : RA8) : Prop := ∃ ao cap qo dap so sc tO tc, cs = [.int .i64 a.N, .int .i64 a.k, .int .i64 a.V, .int .i64 a.M, .slice ao a.xs.length cap, .int .i64 a.L, .slice qo a.ys.length dap, .slice so a.S.length sc, .slice tO a.T.length tc] ∧ (I64 a.N ∧ I64 a.k ∧ I64 a.V ∧ I64 a.M ∧ I64 a.L ∧ FitI a.S ∧ FitI a.T) ∧ Wd w ao a.xs ∧ Fit a.xs ∧ a.xs.length ≤ cap ∧ Wd w qo a.ys ∧ Fit a.ys ∧ a.ys.length ≤ dap ∧ Nd w so a.S ∧ a.S.length ≤ sc ∧ Nd w tO a.T ∧ a.T.length ≤ tc
structure KI8 (w : World) (cs : List Value) (a : RA8) : Prop where
 arg : KArg8 w cs a
 xl : a.xs.length ≤ 1048576
 yl : a.ys.length ≤ 1048576
 sl : a.S.length ≤ 1048576
 tl : a.T.length ≤ 1048576
 gv : GV w
theorem KArg8.keep {w w' : World} {cs : List Value} {a : RA8} (h : KArg8 w cs a) (hb : Below w.heap.size w w') : KArg8 w' cs a := by
 obtain ⟨ao, cap, qo, dap, so, sc, tO, tc, e, f, a1, a2, a3, a4, a5, a6, a7, a8, a9, a10⟩ := h
 exact ⟨ao, cap, qo, dap, so, sc, tO, tc, e, f, a1.keep hb, a2, a3, a4.keep hb, a5, a6, a7.keep hb, a8, a9.keep hb, a10⟩
theorem KI8.keep {w w' : World} {cs : List Value} {a : RA8} (h : KI8 w cs a) (hb : Below w.heap.size w w') : KI8 w' cs a := ⟨h.arg.keep hb, h.xl, h.yl, h.sl, h.tl, h.gv.keep hb⟩
theorem KArg8.len {w : World} {cs : List Value} {a : RA8} (h : KArg8 w cs a) : (Tryz.prog.info? 41).map (·.size) = some cs.length := by
 obtain ⟨ao, cap, qo, dap, so, sc, tO, tc, rfl, _⟩ := h
 exact info_r9
theorem KArg8.nine {w : World} {cs : List Value} {a : RA8} (h : KArg8 w cs a) : 9 = cs.length := by
 obtain ⟨ao, cap, qo, dap, so, sc, tO, tc, rfl, _⟩ := h
 rfl
theorem KArg8.one {w : World} {cs : List Value} {a : RA8} (h : KArg8 w cs a) : cs.toArray.all (·.oneCell') = true := by
 obtain ⟨ao, cap, qo, dap, so, sc, tO, tc, rfl, _⟩ := h
 simp [Value.oneCell']
def kOk8 (a : RA8) : Bool := rOk a.N a.k a.V a.M a.xs a.L a.ys a.S a.T
def kBN8 (a : RA8) : Int := rBN a.N a.k a.V a.M a.xs a.L a.ys a.S a.T
def kBX8 (a : RA8) : List Nat := rBX a.N a.k a.V a.M a.xs a.L a.ys a.S a.T
def kZ8 (a : RA8) : Int := rzN a.N a.k a.V a.M a.xs a.L a.ys a.S a.T
def kB8 (N : Int) (xs : List Nat) : RA8 := ⟨rbN N xs, rbK N xs, rbV N xs, rbM N xs, rbC N xs, rbL N xs, rbO N xs, rbS N xs, rbT N xs⟩
def kE8 (N : Int) (xs : List Nat) : Int := rbE N xs
theorem kB_chk8 (a : RA8) (h : kOk8 a = true) : chk (kBN8 a) (kBX8 a) = true := rB_chk _ _ _ _ _ _ _ _ _ h
theorem kB_fit8 (a : RA8) : Fit (kBX8 a) := rB_fit _ _ _ _ _ _ _ _ _
theorem KI8.rin {w : World} {a : RA8} {ao : Option Addr} {cap : Nat} {qo : Option Addr} {dap : Nat} {so : Option Addr} {sc : Nat} {tO : Option Addr} {tc : Nat} (xl : a.S.length ≤ 1048576) (yl : a.T.length ≤ 1048576) (h1 : Wd w ao a.xs) (h2 : Fit a.xs) (h3 : a.xs.length ≤ cap) (h4 : Wd w qo a.ys) (h5 : Fit a.ys) (h6 : a.ys.length ≤ dap) (h7 : Nd w so a.S) (h8 : a.S.length ≤ sc) (h9 : Nd w tO a.T) (h10 : a.T.length ≤ tc) : RIn w a.N a.k a.V a.M ao a.xs cap a.L qo a.ys dap so a.S sc tO a.T tc :=
 ⟨h1, h2, h3, h4, h5, h6, h7, xl, h8, h9, yl, h10⟩
theorem r8whole_k (cs : List Value) (a : RA8) (w : World) (h : KI8 w cs a) :
  Calls Tryz.prog 58 #[.agg cs.toArray] w fun e w' => ∃ bo bc, e = .returned (.tuple #[.agg #[.int .i64 (kBN8 a), .slice bo (kBX8 a).length bc], .bool (kOk8 a)]) ∧ Wd w' bo (kBX8 a) ∧ (kBX8 a).length ≤ bc ∧ Below w.heap.size w w' := by
 obtain ⟨⟨ao, cap, qo, dap, so, sc, tO, tc, rfl, _, a1, a2, a3, a4, a5, a6, a7, a8, a9, a10⟩, _, _, sl, tl⟩ := h
 exact r8whole_c a.N a.k a.V a.M ao a.xs cap a.L qo a.ys dap so a.S sc tO a.T tc w (KI8.rin sl tl a1 a2 a3 a4 a5 a6 a7 a8 a9 a10)
theorem onL_fit (m : Nat) (f : Nat → Bool) (G : Nat) (hG : G ≤ 1048576) : FitI (onL m f G) := by
 intro i
 by_cases c : i < G
 ·unfold onL
  rw [gi_map _ _ _ c]
  have := bon_le m f (8 * i)
  omega
 ·unfold gi
  rw [List.getD_eq_getElem?_getD, List.getElem?_eq_none (by rw [length_onL]; omega)]
  decide
theorem ptL_fit (m : Nat) (f : Nat → Bool) (G : Nat) (hG : G ≤ 1048576) : FitI (ptL m f G) := by
 intro i
 by_cases c : i < G
 ·unfold ptL
  rw [gi_map _ _ _ c]
  have := bat_le m f (8 * i)
  omega
 ·unfold gi
  rw [List.getD_eq_getElem?_getD, List.getElem?_eq_none (by rw [length_ptL]; omega)]
  decide
theorem fit_nil : Fit [] := fun i => by unfold gt; simp
theorem fitI_nil : FitI [] := fun i => by unfold gi; simp
theorem RO.ki {base : Nat} {w : World} {N : Int} {xs : List Nat} {bo : Option Addr} {bc : Nat} {qo : Option Addr} {qc : Nat} {so : Option Addr} {sc : Nat} {tO : Option Addr} {tc : Nat} (h : RO base w (rbC N xs) (rbO N xs) (rbS N xs) (rbT N xs) bo bc qo qc so sc tO tc) (G : GV w) :
  KI8 w [.int .i64 (rbN N xs), .int .i64 (rbK N xs), .int .i64 (rbV N xs), .int .i64 (rbM N xs), .slice bo (rbC N xs).length bc, .int .i64 (rbL N xs), .slice qo (rbO N xs).length qc, .slice so (rbS N xs).length sc, .slice tO (rbT N xs).length tc] (kB8 N xs) := by
 cases hk : chk N xs with
 | false =>
  have e1 : rbN N xs = 0 := by unfold rbN; rw [hk]; rfl
  have e2 : rbK N xs = 0 := by unfold rbK; rw [hk]; rfl
  have e3 : rbV N xs = 0 := by unfold rbV; rw [hk]; rfl
  have e4 : rbM N xs = 0 := by unfold rbM; rw [hk]; rfl
  have e5 : rbC N xs = [] := by unfold rbC; rw [hk]; rfl
  have e6 : rbL N xs = 0 := by unfold rbL; rw [hk]; rfl
  have e7 : rbO N xs = [] := by unfold rbO; rw [hk]; rfl
  have e8 : rbS N xs = [] := by unfold rbS; rw [hk]; rfl
  have e9 : rbT N xs = [] := by unfold rbT; rw [hk]; rfl
  unfold kB8
  rw [e5, e7, e8, e9] at h
  rw [e1, e2, e3, e4, e5, e6, e7, e8, e9]
  have z : I64 0 := by unfold I64; decide
  exact ⟨⟨bo, bc, qo, qc, so, sc, tO, tc, rfl, ⟨z, z, z, z, z, fitI_nil, fitI_nil⟩, h.c, fit_nil, h.cl, h.o, fit_nil, h.ol, h.s, h.sl, h.t, h.tl⟩, Nat.zero_le _, Nat.zero_le _, Nat.zero_le _, Nat.zero_le _, G⟩
 | true =>
  obtain ⟨h0, h1, _, _⟩ := chk_out N xs hk
  have e1 : rbN N xs = N := by unfold rbN; rw [hk]; rfl
  have e2 : rbK N xs = (nb N.toNat : Int) := by unfold rbK; rw [hk]; rfl
  have e3 : rbV N xs = 4 := by unfold rbV; rw [hk]; rfl
  have e4 : rbM N xs = (nb N.toNat : Int) * 4 := by unfold rbM; rw [hk]; rfl
  have e5 : rbC N xs = rC N.toNat (bitAt xs) := by unfold rbC; rw [hk]; rfl
  have e6 : rbL N xs = (bat N.toNat (bitAt xs) (nb N.toNat) : Int) := by unfold rbL; rw [hk]; rfl
  have e7 : rbO N xs = rO N.toNat (bitAt xs) := by unfold rbO; rw [hk]; rfl
  have e8 : rbS N xs = rS N.toNat (bitAt xs) := by unfold rbS; rw [hk]; rfl
  have e9 : rbT N xs = rT N.toNat (bitAt xs) := by unfold rbT; rw [hk]; rfl
  unfold kB8
  rw [e5, e7, e8, e9] at h
  rw [e1, e2, e3, e4, e5, e6, e7, e8, e9]
  have hn := nb_le N.toNat (by omega)
  have hb := bat_le N.toNat (bitAt xs) (nb N.toNat)
  have hg : gN N.toNat ≤ 8739 := by unfold gN; omega
  have lC : (rC N.toNat (bitAt xs)).length ≤ 1048576 := by unfold rC mkS; rw [length_rowOf, length_bclP]; omega
  have lO : (rO N.toNat (bitAt xs)).length ≤ 1048576 := by unfold rO frL; rw [length_rowOf, length_bofP]; omega
  have lS : (rS N.toNat (bitAt xs)).length ≤ 1048576 := by unfold rS; rw [length_onL]; omega
  have lT : (rT N.toNat (bitAt xs)).length ≤ 1048576 := by unfold rT; rw [length_ptL]; omega
  have hg2 : gN N.toNat ≤ 1048576 := by omega
  have fS : FitI (rS N.toNat (bitAt xs)) := by unfold rS; exact onL_fit _ _ _ hg2
  have fT : FitI (rT N.toNat (bitAt xs)) := by unfold rT; exact ptL_fit _ _ _ hg2
  have fC : Fit (rC N.toNat (bitAt xs)) := by unfold rC mkS; exact fit_rowOf _ _
  have fO : Fit (rO N.toNat (bitAt xs)) := by unfold rO frL; exact fit_rowOf _ _
  generalize rC N.toNat (bitAt xs) = C at *
  generalize rO N.toNat (bitAt xs) = O at *
  generalize rS N.toNat (bitAt xs) = S at *
  generalize rT N.toNat (bitAt xs) = T at *
  generalize bat N.toNat (bitAt xs) (nb N.toNat) = L at *
  generalize nb N.toNat = k at *
  have n1 : I64 N := ⟨by omega, by omega⟩
  have n2 : I64 (k : Int) := ⟨by omega, by omega⟩
  have n3 : I64 4 := by unfold I64; decide
  have n4 : I64 ((k : Int) * 4) := ⟨by omega, by omega⟩
  have n5 : I64 (L : Int) := ⟨by omega, by omega⟩
  exact ⟨⟨bo, bc, qo, qc, so, sc, tO, tc, rfl, ⟨n1, n2, n3, n4, n5, fS, fT⟩, h.c, fC, h.cl, h.o, fO, h.ol, h.s, h.sl, h.t, h.tl⟩, lC, lO, lS, lT, G⟩
theorem RO.nf {base : Nat} {w : World} {C O : List Nat} {S T : List Int} {bo : Option Addr} {bc : Nat} {qo : Option Addr} {qc : Nat} {so : Option Addr} {sc : Nat} {tO : Option Addr} {tc : Nat} {c0 c1 c2 c3 c4 c5 c6 : Value} {n m : Nat} (h : RO base w C O S T bo bc qo qc so sc tO tc) : NF base 7 [c0, c1, c2, c3, c4, c5, c6, .slice so n sc, .slice tO m tc] :=
 nf_mk h.sn h.tn
end Go.Proofs.YtfnkklkdajlhlaaGreatDoor
