/-
  The contract of the program's Build of rows in blocks. The contracts of the program's functions of rows in blocks, over objects.
-/
import Derived.Test.YtfnkklkdajlhlaaGreatDoorL22
import Derived.Test.YtfnkklkdajlhlaaGreatDoorL01
set_option linter.unusedVariables false
set_option linter.unusedSimpArgs false
set_option maxRecDepth 100000
set_option maxHeartbeats 16000000
namespace Go.Proofs.YtfnkklkdajlhlaaGreatDoor
open Go.RowKit Num Bit Bn
structure QB (V wr : World) (gx : Nat) (c0 c1 c2 c3 c4 c5 c6 sv tv : Value) (J T m : Nat) (f : Nat → Bool) : Prop where
 bx : Cel wr gx [c0, c1, c2, c3, c4, c5, c6, sv, tv] 41
 lt : gx < V.heap.size
 sz : V.heap.size ≤ wr.heap.size
 hb : Below gx V wr
 same : ∀ k, k < V.heap.size → k ≠ gx → wr.heap[k]? = V.heap[k]?
 o1 : wr.ownsRow V.heap.size 3 1 sv J (iv8 (onL m f J))
 o2 : wr.ownsRow V.heap.size 3 1 tv T (iv8 (ptL m f T))
 ap : Ap.Apart sv tv
theorem QB.keep {V wr w' : World} {gx : Nat} {c0 c1 c2 c3 c4 c5 c6 sv tv : Value} {J T m : Nat} {f : Nat → Bool} (h : QB V wr gx c0 c1 c2 c3 c4 c5 c6 sv tv J T m f) (hb : Below wr.heap.size wr w') : QB V w' gx c0 c1 c2 c3 c4 c5 c6 sv tv J T m f :=
 ⟨h.bx.kept hb, h.lt, Nat.le_trans h.sz hb.size, h.hb.trans (hb.mono (Nat.le_of_lt h.bx.lt)), fun k h1 h2 => (hb.block k (Nat.lt_of_lt_of_le h1 h.sz)).trans (h.same k h1 h2), Ap.owns_below h.o1 hb, Ap.owns_below h.o2 hb, h.ap⟩
theorem QB.one {V wr w2 : World} {gx : Nat} {c0 c1 c2 c3 c4 c5 c6 sv tv u : Value} {J T m : Nat} {f : Nat → Bool} (h : QB V wr gx c0 c1 c2 c3 c4 c5 c6 sv tv J T m f) (ho : w2.ownsRow V.heap.size 3 1 u (J + 1) (iv8 (onL m f (J + 1)))) (hB : Below V.heap.size wr w2)
  (hblk : ∀ k, u.ownBlock = some k → (sv.ownBlock = some k ∨ k = wr.heap.size) ∧ k < w2.heap.size) (hkeep : ∀ k, k < wr.heap.size → sv.ownBlock ≠ some k → w2.heap[k]? = wr.heap[k]?) :
  QB V (w2.setCell ⟨gx, 7, none⟩ u) gx c0 c1 c2 c3 c4 c5 c6 u tv (J + 1) T m f := by
 have hs : (w2.setCell ⟨gx, 7, none⟩ u).heap.size = w2.heap.size := by simp [World.setCell]
 exact ⟨(h.bx.keep hB h.lt).set 7 u, h.lt, by rw [hs]; exact Nat.le_trans h.sz hB.size, (h.hb.trans (hB.mono (Nat.le_of_lt h.lt))).setCell (Nat.le_refl _) _, fun k h1 h2 => (Below.heap_setCell w2 ⟨gx, 7, none⟩ u k h2).trans ((hB.block k h1).trans (h.same k h1 h2)), owns_set8 ho h.lt, owns_set8 (Ap.owns_other h.o2 hkeep h.ap.symm) h.lt, (Ap.apart_new h.o2 hblk h.ap.symm).symm⟩
theorem QB.two {V wr w2 : World} {gx : Nat} {c0 c1 c2 c3 c4 c5 c6 sv tv u : Value} {J T m : Nat} {f : Nat → Bool} (h : QB V wr gx c0 c1 c2 c3 c4 c5 c6 sv tv J T m f) (ho : w2.ownsRow V.heap.size 3 1 u (T + 1) (iv8 (ptL m f (T + 1)))) (hB : Below V.heap.size wr w2)
  (hblk : ∀ k, u.ownBlock = some k → (tv.ownBlock = some k ∨ k = wr.heap.size) ∧ k < w2.heap.size) (hkeep : ∀ k, k < wr.heap.size → tv.ownBlock ≠ some k → w2.heap[k]? = wr.heap[k]?) :
  QB V (w2.setCell ⟨gx, 8, none⟩ u) gx c0 c1 c2 c3 c4 c5 c6 sv u J (T + 1) m f := by
 have hs : (w2.setCell ⟨gx, 8, none⟩ u).heap.size = w2.heap.size := by simp [World.setCell]
 exact ⟨(h.bx.keep hB h.lt).set 8 u, h.lt, by rw [hs]; exact Nat.le_trans h.sz hB.size, (h.hb.trans (hB.mono (Nat.le_of_lt h.lt))).setCell (Nat.le_refl _) _, fun k h1 h2 => (Below.heap_setCell w2 ⟨gx, 8, none⟩ u k h2).trans ((hB.block k h1).trans (h.same k h1 h2)), owns_set8 (Ap.owns_other h.o1 hkeep h.ap) h.lt, owns_set8 ho h.lt, Ap.apart_new h.o1 hblk h.ap⟩
theorem step_store8 {ops : Array Oper} {d : Option Tmp} {ty T : TypeId} {ps : String} {af : Array Edge} {a : Act} {w : World} {K : Act → World → Prop} {Q : Exit → Act → World → Prop} {E : Prop} {x y : Operand}
  (g : Nat) (old cs : List Value) (hx : a.eval x = .pointer (some ⟨g, 0, none⟩)) (hy : a.eval y = .agg cs.toArray) (hc : Cel w g old T) (lo : old.length = cs.length) (hi : (Tryz.prog.info? T).map (·.size) = some cs.length) (h1 : cs.toArray.all (·.oneCell') = true)
  (h : ∀ w1, Cel w1 g cs T → Only g w w1 → K (a.put d undef) w1) :
  if Region.wanted (⟨d, .store T x y, ty, ps, af, none⟩ : Oper) (yielded ops a.tmps) = true then Oper.wp Tryz.prog (⟨d, .store T x y, ty, ps, af, none⟩ : Oper) a w K Q else E := by
 rw [if_pos (by simp [Region.wanted])]
 exact wp_store_row _ x y rfl g cs.toArray hx hy _ _ hc (by simpa using hi) (by simpa using lo) h1 (h _ (setRow_heap w g _ _ _ _ hc) (Only.row g w _))
structure QV (w V : World) (gx g1 g2 gm : Nat) (c0 c1 c2 c3 c4 c5 c6 : Value) (C O : List Nat) (MK : List Value) : Prop where
 bx : Cel V gx [c0, c1, c2, c3, c4, c5, c6, .slice none 0 0, .slice none 0 0] 41
 o1 : Own V g1 C
 o2 : Own V g2 O
 mks : Cel V gm MK 149
 z : Cel V (w.heap.size + 1) [.int .i64 0, .int .i64 0, .int .i64 0, .int .i64 0, .slice none 0 0, .int .i64 0, .slice none 0 0, .slice none 0 0, .slice none 0 0] 41
 hb : Below w.heap.size w V
 n1 : g1 ≠ gx
 n2 : g2 ≠ gx
 n3 : gm ≠ gx
 n4 : w.heap.size + 1 < gx
theorem mono_bat (m : Nat) (f : Nat → Bool) : ∀ d j, bat m f j ≤ bat m f (j + d) := by
 intro d
 induction d with
 | zero => intro j; exact Nat.le_refl _
 | succ d ih => intro j; have := ih j; rw [show j + (d + 1) = j + d + 1 by omega, bat]; omega
theorem info_rrr : (Tryz.prog.info? 41).map (·.size) = some 9 := by kernel_rfl
theorem qbuild_ok (m : Nat) (ao : Option Addr) (xs : List Nat) (cap : Nat) (w : World) (hx : Wd w ao xs) (hf : Fit xs) (hk : chk (m : Int) xs = true) (hm : m ≤ 1048576) (G : GV w) :
  Calls Tryz.prog 53 #[.agg #[.int .i64 (m : Int), .slice ao xs.length cap]] w fun e w' => ∃ g1 k1 g2 k2 so sc tO tc, e = .returned (.tuple #[.agg #[.int .i64 (m : Nat), .int .i64 (nb m : Nat), .int .i64 4, .int .i64 ((nb m : Int) * 4), .slice (some ⟨g1, 0, none⟩) k1 k1, .int .i64 (bat m (bitAt xs) (nb m) : Nat), .slice (some ⟨g2, 0, none⟩) k2 k2, .slice so (gN m) sc, .slice tO (gN m) tc], .int .i64 0]) ∧
   k1 = (nb m * 4 + 63) / 64 ∧ k2 = (bat m (bitAt xs) (nb m) + 63) / 64 ∧ Wd w' (some ⟨g1, 0, none⟩) (rC m (bitAt xs)) ∧ Wd w' (some ⟨g2, 0, none⟩) (rO m (bitAt xs)) ∧ Nd w' so (rS m (bitAt xs)) ∧ Nd w' tO (rT m (bitAt xs)) ∧ gN m ≤ sc ∧ gN m ≤ tc ∧ Below w.heap.size w w' ∧ Fr w.heap.size so ∧ Fr w.heap.size tO := by
 obtain ⟨i0, hi, hz0, hz1, hz2⟩ := info_parts info3_8
 have nbl := nb_le m hm
 have btl := bat_le m (bitAt xs) (nb m)
 obtain ⟨W, hW⟩ : ∃ W, W = (w.alloc (.cells #[.int .i64 (m : Int), .slice ao xs.length cap] 33)).alloc (.cells #[.int .i64 0, .int .i64 0, .int .i64 0, .int .i64 0, .slice none 0 0, .int .i64 0, .slice none 0 0, .slice none 0 0, .slice none 0 0] 41) := ⟨_, rfl⟩
 have bW := yb2 hW
 have zW : W.heap.size = w.heap.size + 2 := by rw [hW]; simp
 have B1 := yc3 hW
 have B2 := yc2 hW
 have C1 : Hid (∀ w0, Below w.heap.size w w0 → Calls Tryz.prog 92 #[.agg #[.int .i64 (m : Int), .slice ao xs.length cap]] w0 fun e w' => e = .returned (.bool true) ∧ Below w0.heap.size w0 w') := fun w0 h => by
  have := check_c (m : Int) ao xs cap w0 (hx.keep h)
  rw [hk] at this
  exact this
 have C2 : Hid (∀ w0, Below w.heap.size w w0 → Calls Tryz.prog 97 #[.agg #[.int .i64 (m : Int), .slice ao xs.length cap]] w0 fun e w' => ∃ g, e = .returned (.slice (some ⟨g, 0, none⟩) (nb m) (nb m)) ∧ Cel w' g (blP (nb m) (bcl m (bitAt xs)) (bof m (bitAt xs)) (nb m)) 165 ∧ w0.heap.size ≤ g ∧ Below w0.heap.size w0 w') := fun w0 h => qparted_c m ao xs cap w0 hm (hx.keep h) hf hk
 have C4 : Hid (∀ gl w0, Cel w0 gl (blP (nb m) (bcl m (bitAt xs)) (bof m (bitAt xs)) (nb m)) 165 → GV w0 → Calls Tryz.prog 98 #[.slice (some ⟨gl, 0, none⟩) (nb m) (nb m)] w0 fun e w' => ∃ g, e = .returned (.tuple #[.slice (some ⟨g, 0, none⟩) (gN m) (gN m), .agg #[.int .i64 (bon m (bitAt xs) (nb m) : Nat), .int .i64 (bat m (bitAt xs) (nb m) : Nat)]]) ∧ Cel w' g (mkP (gN m) (bon m (bitAt xs)) (bat m (bitAt xs)) (nb m)) 149 ∧ w0.heap.size ≤ g ∧ Below w0.heap.size w0 w') := fun gl w0 h hG => qmarked_c (nb m) (gN m) gl _ _ (bon m (bitAt xs)) (bat m (bitAt xs)) w0 nbl rfl h (fun i _ => bcl_le _ _ _) rfl rfl (fun i _ => rfl) (fun i _ => rfl) (fun i _ => bon_le _ _ _) (fun i _ => bat_le _ _ _) hG
 obtain ⟨k1, hk1⟩ : ∃ k1, k1 = (nb m * 4 + 63) / 64 := ⟨_, rfl⟩
 obtain ⟨k2, hk2⟩ : ∃ k2, k2 = (bat m (bitAt xs) (nb m) + 63) / 64 := ⟨_, rfl⟩
 have C5 : Hid (∀ gl w0, Cel w0 gl (blP (nb m) (bcl m (bitAt xs)) (bof m (bitAt xs)) (nb m)) 165 → Calls Tryz.prog 99 #[.slice (some ⟨gl, 0, none⟩) (nb m) (nb m)] w0 fun e w' => ∃ g, e = .returned (.agg #[.int .i64 (nb m : Nat), .int .i64 4, .int .i64 ((nb m : Int) * 4), .slice (some ⟨g, 0, none⟩) k1 k1]) ∧ w0.heap.size ≤ g ∧ Own w' g (rC m (bitAt xs)) ∧ Below w0.heap.size w0 w') := fun gl w0 h => qclassesOf_c (nb m) gl k1 _ _ w0 nbl h (fun i _ => bcl_le _ _ _) hk1
 have C6 : Hid (∀ gl w0, Cel w0 gl (blP (nb m) (bcl m (bitAt xs)) (bof m (bitAt xs)) (nb m)) 165 → GV w0 → Calls Tryz.prog 100 #[.slice (some ⟨gl, 0, none⟩) (nb m) (nb m), .int .i64 (bat m (bitAt xs) (nb m) : Nat)] w0 fun e w' => ∃ g, e = .returned (.agg #[.int .i64 (bat m (bitAt xs) (nb m) : Nat), .slice (some ⟨g, 0, none⟩) k2 k2]) ∧ w0.heap.size ≤ g ∧ Own w' g (rO m (bitAt xs)) ∧ Below w0.heap.size w0 w') := by
  intro gl w0 h hG
  have := qoffsetsOf_c (nb m) gl (bat m (bitAt xs) (nb m)) k2 _ _ (bat m (bitAt xs)) (fun j => (bofP m (bitAt xs) (nb m)).getD j false) w0 nbl h (fun i _ => bcl_le _ _ _) rfl (fun i _ => rfl) (fun i hi => by
   have := mono_bat m (bitAt xs) (nb m - (i + 1)) (i + 1)
   rwa [show i + 1 + (nb m - (i + 1)) = nb m by omega] at this) rfl (by omega) (fun i _ => bof_fit m (bitAt xs) i) (fun i hi t ht => by
   have g := bofP_get m (bitAt xs) (nb m) i t hi ht
   show _ = (bofP m (bitAt xs) (nb m)).getD (bat m (bitAt xs) i + t) false
   rw [List.getD_eq_getElem?_getD, g]
   rfl) hk2 hG
  rw [← fr_off m (bitAt xs)] at this
  exact this
 have MG1 : Hid (∀ j, j < gN m → (mkP (gN m) (bon m (bitAt xs)) (bat m (bitAt xs)) (nb m))[j * 2]? = some (.int .i64 (bon m (bitAt xs) (8 * j) : Nat))) := by
  intro j hj
  rw [mkP_fst _ _ _ _ _ hj]
  by_cases c : j = 0
  ·subst c; by_cases d : 8 * 0 < nb m <;> simp [d] <;> rfl
  ·rw [if_pos (gN_in m j hj c)]
 have MG2 : Hid (∀ j, j < gN m → (mkP (gN m) (bon m (bitAt xs)) (bat m (bitAt xs)) (nb m))[j * 2 + 1]? = some (.int .i64 (bat m (bitAt xs) (8 * j) : Nat))) := by
  intro j hj
  rw [mkP_snd _ _ _ _ _ hj]
  by_cases c : j = 0
  ·subst c; by_cases d : 8 * 0 < nb m <;> simp [d] <;> rfl
  ·rw [if_pos (gN_in m j hj c)]
 have gl8 : gN m ≤ 8739 := by unfold gN; omega
 have HK1 := hide hk1
 have HK2 := hide hk2
 clear hx hf hk hk1 hk2
 go_enter Tryz.func53, Tryz.ntmps53
 go_wp2_with fail
 rw [← hW]
 refine (C1.out _ bW).mono ?_
 rintro e w1 ⟨rfl, hb⟩
 have bw1 := bW.trans (hb.mono bW.size)
 have z1 := hb.size
 replace B1 := B1.kept hb
 replace B2 := B2.kept hb
 have r0 := B1.cell 0 rfl
 have r1 := B1.cell 1 rfl
 clear hb C1 hW bW
 go_wp2_with fail
 refine (C2.out _ bw1).mono ?_
 rintro e w2 ⟨gl, rfl, hl, hgl, hb⟩
 have bw2 := bw1.trans (hb.mono bw1.size)
 have z2 := hb.size
 replace B1 := B1.kept hb
 replace B2 := B2.kept hb
 have lgl := hl.lt
 clear hb C2 bw1 r0 r1
 go_wp2_with fail
 refine (C4.out gl _ hl (G.kept bw2)).mono ?_
 rintro e w6 ⟨gm, rfl, hmk, hgm, hb⟩
 have bw6 := bw2.trans (hb.mono bw2.size)
 have z6 := hb.size
 replace B1 := B1.kept hb
 replace B2 := B2.kept hb
 have B4 : GV w6 := G.kept bw6
 replace hl := hl.kept hb
 have lgm := hmk.lt
 clear hb C4 bw2 G
 go_wp2
 have hb7 := below_alloc w6 (.cells #[.int .i64 (bon m (bitAt xs) (nb m) : Nat), .int .i64 (bat m (bitAt xs) (nb m) : Nat)] 149)
 have B5 := Cel.new w6 [.int .i64 (bon m (bitAt xs) (nb m) : Nat), .int .i64 (bat m (bitAt xs) (nb m) : Nat)] 149
 replace B1 := B1.kept hb7
 replace B2 := B2.kept hb7
 replace B4 := B4.kept hb7
 replace hl := hl.kept hb7
 replace hmk := hmk.kept hb7
 have bw7 := bw6.trans (hb7.mono bw6.size)
 have z7 := hb7.size
 clear hb7 bw6
 generalize hV7 : w6.alloc (.cells #[.int .i64 (bon m (bitAt xs) (nb m) : Nat), .int .i64 (bat m (bitAt xs) (nb m) : Nat)] 149) = V7 at *
 refine region_g [10] (fun w' => Cel w' w.heap.size [.int .i64 (m : Int), .slice ao xs.length cap] 33 ∧ GV w' ∧ Cel w' w6.heap.size [.int .i64 (bon m (bitAt xs) (nb m) : Nat), .int .i64 (bat m (bitAt xs) (nb m) : Nat)] 149) (by kernel_rfl) ?_
 have hS : Cel V7.drew w.heap.size [.int .i64 (m : Int), .slice ao xs.length cap] 33 ∧ GV V7.drew ∧ Cel V7.drew w6.heap.size [.int .i64 (bon m (bitAt xs) (nb m) : Nat), .int .i64 (bat m (bitAt xs) (nb m) : Nat)] 149 := ⟨B1, B4.kept ((Below.refl _ _).drew), B5⟩
 replace B2 : Cel V7.drew (w.heap.size + 1) [.int .i64 0, .int .i64 0, .int .i64 0, .int .i64 0, .slice none 0 0, .int .i64 0, .slice none 0 0, .slice none 0 0, .slice none 0 0] 41 := B2
 replace hl : Cel V7.drew gl (blP (nb m) (bcl m (bitAt xs)) (bof m (bitAt xs)) (nb m)) 165 := hl
 replace hmk : Cel V7.drew gm (mkP (gN m) (bon m (bitAt xs)) (bat m (bitAt xs)) (nb m)) 149 := hmk
 replace bw7 : Below w.heap.size w V7.drew := bw7.drew
 have z8 : w6.heap.size < V7.drew.heap.size := B5.lt
 generalize V7.drew = Y at *
 clear B1 B4 B5 hV7
 refine AnyG.tk 0 hS ?_
 refine AnyG.tf 1 hS rfl (fun w0 h0 => by have c0 := h0.1.cell 0 rfl; go_simp; try with_reducible rfl) ?_
 refine AnyG.tk 2 hS ?_
 refine AnyG.tk 4 hS ?_
 refine AnyG.tk 5 hS ?_
 refine AnyG.tf 6 hS rfl (fun w0 h0 => by have c0 := h0.2.2.cell 1 rfl; go_simp; try with_reducible rfl) ?_
 refine AnyG.two 3 9 (by kernel_rfl) rfl rfl ?_ ?_
 ·intro K hK
  go_simp
  refine (C5.out gl _ hl).mono ?_
  rintro e wA ⟨g1, rfl, hg1, hO1, hb⟩
  have zA := hb.size
  have lO1 := hO1.lt
  replace hS := And.intro (hS.1.kept hb) (And.intro (hS.2.1.kept hb) (hS.2.2.kept hb))
  replace B2 := B2.kept hb
  replace hl := hl.kept hb
  replace hmk := hmk.kept hb
  replace bw7 := bw7.trans (hb.mono bw7.size)
  clear hb
  refine hK.out _ _ (fun _ => hS) ?_
  clear hK K
  try simp only [Act.put, yq0, yq1, yq2, yq3, yq4, yq5]
  refine AnyG.two 7 9 (by kernel_rfl) rfl rfl ?_ ?_
  ·intro K hK
   go_simp
   refine (C6.out gl _ hl hS.2.1).mono ?_
   rintro e wB ⟨g2, rfl, hg2, hO2, hb⟩
   have zB := hb.size
   have lO2 := hO2.lt
   replace hS := And.intro (hS.1.kept hb) (And.intro (hS.2.1.kept hb) (hS.2.2.kept hb))
   replace B2 := B2.kept hb
   replace hl := hl.kept hb
   replace hmk := hmk.kept hb
   replace bw7 := bw7.trans (hb.mono bw7.size)
   replace hO1 := hO1.keep hb
   clear hb
   refine hK.out _ _ (fun _ => hS) ?_
   clear hK K
   try simp only [Act.put, yq0, yq1, yq2, yq3, yq4, yq5]
   refine AnyG.tk 8 hS ?_
   refine AnyG.o1 9 ?_
   intro K hK
   go_simp
   have hb := below_alloc wB (.cells #[.int .i64 0, .int .i64 0, .int .i64 0, .int .i64 0, .slice none 0 0, .int .i64 0, .slice none 0 0, .slice none 0 0, .slice none 0 0] 41)
   have B6 := Cel.new wB [.int .i64 0, .int .i64 0, .int .i64 0, .int .i64 0, .slice none 0 0, .int .i64 0, .slice none 0 0, .slice none 0 0, .slice none 0 0] 41
   have zX : (wB.alloc (.cells #[.int .i64 0, .int .i64 0, .int .i64 0, .int .i64 0, .slice none 0 0, .int .i64 0, .slice none 0 0, .slice none 0 0, .slice none 0 0] 41)).heap.size = wB.heap.size + 1 := by simp
   replace hS := And.intro (hS.1.kept hb) (And.intro (hS.2.1.kept hb) (hS.2.2.kept hb))
   replace B2 := B2.kept hb
   replace hl := hl.kept hb
   replace hmk := hmk.kept hb
   replace bw7 := bw7.trans (hb.mono bw7.size)
   replace hO1 := hO1.keep hb
   replace hO2 := hO2.keep hb
   obtain ⟨gx, hgx⟩ : ∃ gx, gx = wB.heap.size := ⟨_, rfl⟩
   rw [← hgx] at B6
   rw [← hgx]
   generalize wB.alloc (.cells #[.int .i64 0, .int .i64 0, .int .i64 0, .int .i64 0, .slice none 0 0, .int .i64 0, .slice none 0 0, .slice none 0 0, .slice none 0 0] 41) = wX at *
   have hgx1 : gx ≤ wB.heap.size := by omega
   have hgx2 : wB.heap.size ≤ gx := by omega
   clear hb hgx
   refine hK.out _ _ (fun _ => hS) ?_
   clear hK K
   try simp only [Act.put, yq0, yq1, yq2, yq3, yq4, yq5]
   refine AnyG.o1 10 ?_
   intro K hK
   refine step_store8 gx _ [.int .i64 (m : Nat), .int .i64 (nb m : Nat), .int .i64 4, .int .i64 ((nb m : Int) * 4), .slice (some ⟨g1, 0, none⟩) k1 k1, .int .i64 (bat m (bitAt xs) (nb m) : Nat), .slice (some ⟨g2, 0, none⟩) k2 k2, .slice none 0 0, .slice none 0 0] rfl rfl B6 rfl info_rrr (by simp [Value.oneCell']) ?_
   intro V B7 hO
   refine hK.out _ _ (fun h => absurd (by decide) h) ?_
   clear hK K
   try simp only [Act.put, yq0, yq1, yq2, yq3, yq4, yq5]
   refine AnyG.done (by kernel_rfl) ?_ _
   have QV0 : Hid (QV w V gx g1 g2 gm (.int .i64 (m : Nat)) (.int .i64 (nb m : Nat)) (.int .i64 4) (.int .i64 ((nb m : Int) * 4)) (.slice (some ⟨g1, 0, none⟩) k1 k1) (.int .i64 (bat m (bitAt xs) (nb m) : Nat)) (.slice (some ⟨g2, 0, none⟩) k2 k2) (rC m (bitAt xs)) (rO m (bitAt xs)) (mkP (gN m) (bon m (bitAt xs)) (bat m (bitAt xs)) (nb m))) := ⟨B7, (hO.block g1 (by omega)).trans hO1, (hO.block g2 (by omega)).trans hO2, hO.cel hmk (by omega), hO.cel B2 (by omega), bw7.trans (hO.below (base := w.heap.size) (by omega)), by omega, by omega, by omega, by omega⟩
   clear B7 hO hO1 hO2 hmk B2 bw7 hS hl B6 C5 C6
   go_wp2
   go_loopw [32] (fun t wr => ∃ (J : Nat) (so : Option Addr) (sc : Nat) (tO : Option Addr) (tc : Nat), J ≤ gN m ∧ t = .int .i64 J ∧ J ≤ sc ∧ J ≤ tc ∧ QB V wr gx (.int .i64 (m : Nat)) (.int .i64 (nb m : Nat)) (.int .i64 4) (.int .i64 ((nb m : Int) * 4)) (.slice (some ⟨g1, 0, none⟩) k1 k1) (.int .i64 (bat m (bitAt xs) (nb m) : Nat)) (.slice (some ⟨g2, 0, none⟩) k2 k2) (.slice so J sc) (.slice tO J tc) J J m (bitAt xs)) (fun t _ => gN m - (intOf t).toNat)
   case atStart => exact ⟨0, none, 0, none, 0, Nat.zero_le _, rfl, Nat.le_refl _, Nat.le_refl _, ⟨QV0.out.bx, QV0.out.bx.lt, Nat.le_refl _, Below.refl _ _, fun _ _ _ => rfl, World.ownsRow_nil _ _ _ _, World.ownsRow_nil _ _ _ _, Ap.apart_nil _⟩⟩
   case round =>
    obtain ⟨J, so, sc, tO, tc, hJ, rfl, hsc, htc, HQ⟩ := hrel
    by_cases hlt : J < gN m
    ·have hlt2 : (J : Int) < (gN m : Int) := by omega
     have mkc : Cel wr gm _ 149 := (HQ.same gm QV0.out.mks.lt QV0.out.n3).trans QV0.out.mks
     have x0 := mkc.cell (J * 2) (MG1.out J hlt)
     have x1 := mkc.cell (J * 2 + 1) (MG2.out J hlt)
     have SU1 := hide (onL_succ m (bitAt xs) J)
     have SU2 := hide (ptL_succ m (bitAt xs) J)
     generalize bon m (bitAt xs) (8 * J) = Zs at *
     generalize bat m (bitAt xs) (8 * J) = Zp at *
     have lmk := mkc.lt
     have y7 := HQ.bx.cell 7 rfl
     have lx := HQ.bx.lt
     have szr := HQ.sz
     have hown1 : ∀ k, (Value.slice so J sc).ownBlock = some k → k < wr.heap.size := fun k hk => (HQ.o1.lt k hk).2
     clear mkc
     go_wp2_with (at_builtin; refine Ap.wpList_append_x (by rfl) _ _ _ (by rfl) V.heap.size 3 i0 (.int .i64 0) 8 Tryz.underlying35 hi hz0 hz1 hz2 rfl (.slice so J sc) J (iv8 (onL m (bitAt xs) J)) (by rfl) ((HQ.o1.alloc _).alloc _) (some ⟨wr.heap.size + 1, 0, none⟩) 1 1 [.int .i64 (Zs : Nat)] (by rfl) rfl ?c1_301 ?c2_301 ?c3_301 ?c4_301 ?c5_301 ?_)
     case c1_301 => exact fun _ => ⟨_, rfl, fun j u hj => by
      match j, hj with
      | 0, hj => simp at hj; subst hj; simp [Addr.add]⟩
     case c2_301 => intro u hu; simp at hu; subst hu; rfl
     case c3_301 => unfold maxLen; omega
     case c4_301 => omega
     case c5_301 => simp; omega
     intro so2 sc2 w9 own9 hle9 hB9 hblk9 hkeep9 hsz9
     rw [SU1.out] at own9
     have HPa := (HQ.keep (below_alloc wr (.cells #[.int .i64 (Zs : Nat), .int .i64 (Zp : Nat)] 149))).keep (below_alloc _ (.cells #[.int .i64 (Zs : Nat)] 3))
     have esz : ((wr.alloc (.cells #[.int .i64 (Zs : Nat), .int .i64 (Zp : Nat)] 149)).alloc (.cells #[.int .i64 (Zs : Nat)] 3)).heap.size = wr.heap.size + 1 + 1 := by simp
     have mbA : Cel ((wr.alloc (.cells #[.int .i64 (Zs : Nat), .int .i64 (Zp : Nat)] 149)).alloc (.cells #[.int .i64 (Zs : Nat)] 3)) wr.heap.size [.int .i64 (Zs : Nat), .int .i64 (Zp : Nat)] 149 := (Cel.new wr _ _).alloc _
     rw [← esz] at hblk9 hkeep9
     have HP9 := HPa.one own9 hB9 hblk9 hkeep9
     have hC9 : Cel w9 wr.heap.size [.int .i64 (Zs : Nat), .int .i64 (Zp : Nat)] 149 := (hkeep9 wr.heap.size (by omega) (fun e => by have := hown1 _ e; omega)).trans mbA
     have x7 := (HPa.bx.keep hB9 HQ.lt).cell 7 rfl
     have f7 := (HPa.bx.keep hB9 HQ.lt).frozen 7
     have x8 := (HPa.bx.keep hB9 HQ.lt).cell 8 rfl
     have mb1 := hC9.cell 1 rfl
     have lx9 := (HPa.bx.keep hB9 HQ.lt).lt
     have lm9 := hC9.lt
     have sz9 := HP9.sz
     simp only [size_set] at sz9
     have ngx : gx ≠ wr.heap.size := by omega
     clear own9 hB9 hblk9 hkeep9 HPa mbA hown1 x0 x1 y7 esz
     go_wp2_with (at_builtin; refine Ap.wpList_append_x (by rfl) _ _ _ (by rfl) V.heap.size 3 i0 (.int .i64 0) 8 Tryz.underlying35 hi hz0 hz1 hz2 rfl (.slice tO J tc) J (iv8 (ptL m (bitAt xs) J)) (by rfl) (HP9.o2.alloc _) (some ⟨w9.heap.size, 0, none⟩) 1 1 [.int .i64 (Zp : Nat)] (by rfl) rfl ?d1_301 ?d2_301 ?d3_301 ?d4_301 ?d5_301 ?_)
     case d1_301 =>
      have q := (Cel.new (w9.setCell ⟨gx, 7, none⟩ (.slice so2 (J + 1) sc2)) [.int .i64 (Zp : Nat)] 3).cell 0 rfl
      rw [size_set] at q
      exact fun _ => ⟨_, rfl, fun j u hj => by
       match j, hj with
       | 0, hj => simp at hj; subst hj; simp [Addr.add]; exact q⟩
     case d2_301 => intro u hu; simp at hu; subst hu; rfl
     case d3_301 => unfold maxLen; omega
     case d4_301 => omega
     case d5_301 => simp; omega
     intro tO2 tc2 w10 own10 hle10 hB10 hblk10 hkeep10 hsz10
     rw [SU2.out] at own10
     have HPb := HP9.keep (below_alloc _ (.cells #[.int .i64 (Zp : Nat)] 3))
     have esz2 : ((w9.setCell ⟨gx, 7, none⟩ (.slice so2 (J + 1) sc2)).alloc (.cells #[.int .i64 (Zp : Nat)] 3)).heap.size = w9.heap.size + 1 := by simp [size_set]
     rw [← esz2] at hblk10 hkeep10
     have HP10 := HPb.two own10 hB10 hblk10 hkeep10
     have x8b := (HPb.bx.keep hB10 HQ.lt).cell 8 rfl
     have f8b := (HPb.bx.keep hB10 HQ.lt).frozen 8
     have HPH := hide HP10
     clear own10 hB10 hblk10 hkeep10 HPb esz2 HP9 HP10 x7 x8 f7 mb1 hC9 HQ
     go_wp2
     exact ⟨⟨J + 1, so2, sc2, tO2, tc2, by omega, by go_num, hle9, hle10, HPH.out⟩, by simp only [intOf]; omega⟩
    ·obtain hJe : J = gN m := by omega
     have zc : Cel wr (w.heap.size + 1) [.int .i64 0, .int .i64 0, .int .i64 0, .int .i64 0, .slice none 0 0, .int .i64 0, .slice none 0 0, .slice none 0 0, .slice none 0 0] 41 := (HQ.same (w.heap.size + 1) (by have := QV0.out.z.lt; exact this) (by have := QV0.out.n4; omega)).trans QV0.out.z
     have d1 : Own wr g1 (rC m (bitAt xs)) := (HQ.same g1 QV0.out.o1.lt QV0.out.n1).trans QV0.out.o1
     have d2 : Own wr g2 (rO m (bitAt xs)) := (HQ.same g2 QV0.out.o2.lt QV0.out.n2).trans QV0.out.o2
     have bwr : Below w.heap.size w wr := QV0.out.hb.trans (HQ.hb.mono (by have := QV0.out.n4; omega))
     have hgV : w.heap.size + 1 < V.heap.size := QV0.out.z.lt
     have e1 : g1 ≠ w.heap.size + 1 := by omega
     have e2 : g2 ≠ w.heap.size + 1 := by omega
     have HH := hide (And.intro HQ (And.intro d1 (And.intro d2 bwr)))
     clear d1 d2 bwr QV0
     go_wp2_with (first | refine load_cel gx _ rfl HQ.bx Tryz.underlying41 info_rrr ?_ | refine store_cel (w.heap.size + 1) _ _ rfl rfl zc rfl info_rrr (by simp [Value.oneCell']) ?_)
     intro w20 C20 hO20
     obtain ⟨HQ2, d1, d2, bwr⟩ := HH.out
     have HF := hide (show Wd w20 (some ⟨g1, 0, none⟩) (rC m (bitAt xs)) ∧ Wd w20 (some ⟨g2, 0, none⟩) (rO m (bitAt xs)) ∧ Nd w20 so (onL m (bitAt xs) J) ∧ Nd w20 tO (ptL m (bitAt xs) J) ∧ Below w.heap.size w w20 ∧ Fr w.heap.size so ∧ Fr w.heap.size tO from ⟨Own.wd ((hO20.block g1 e1).trans d1), Own.wd ((hO20.block g2 e2).trans d2), nd_own8 (hO20.owns HQ2.o1 hgV), nd_own8 (hO20.owns HQ2.o2 hgV), bwr.trans (hO20.below (by omega)), own_fr HQ2.o1 (by omega), own_fr HQ2.o2 (by omega)⟩)
     have HC20 := hide C20
     clear HQ HQ2 d1 d2 bwr hO20 HH zc C20
     go_wp2
     (try simp only [Exit.inBlock, Exit.then])
     obtain ⟨p1, p2, p3, p4, p5⟩ := HF.out
     rw [hJe] at p3 p4 hsc htc
     have HC21 := HC20.out
     rw [hJe] at HC21
     exact bodyPost_ret (result_cel rfl (w.heap.size + 1) _ rfl HC21 Tryz.underlying41 info_rrr) rfl ⟨g1, k1, g2, k2, so, sc, tO, tc, rfl, HK1.out, HK2.out, p1, p2, p3, p4, hsc, htc, p5⟩
  ·intro K hK
   go_simp
   have hb := below_alloc wA (.cells #[.int .i64 0, .int .i64 0, .int .i64 0, .int .i64 0, .slice none 0 0, .int .i64 0, .slice none 0 0, .slice none 0 0, .slice none 0 0] 41)
   have B6 := Cel.new wA [.int .i64 0, .int .i64 0, .int .i64 0, .int .i64 0, .slice none 0 0, .int .i64 0, .slice none 0 0, .slice none 0 0, .slice none 0 0] 41
   have zX : (wA.alloc (.cells #[.int .i64 0, .int .i64 0, .int .i64 0, .int .i64 0, .slice none 0 0, .int .i64 0, .slice none 0 0, .slice none 0 0, .slice none 0 0] 41)).heap.size = wA.heap.size + 1 := by simp
   replace hS := And.intro (hS.1.kept hb) (And.intro (hS.2.1.kept hb) (hS.2.2.kept hb))
   replace B2 := B2.kept hb
   replace hl := hl.kept hb
   replace hmk := hmk.kept hb
   replace bw7 := bw7.trans (hb.mono bw7.size)
   replace hO1 := hO1.keep hb
   obtain ⟨gx, hgx⟩ : ∃ gx, gx = wA.heap.size := ⟨_, rfl⟩
   rw [← hgx] at B6
   rw [← hgx]
   generalize wA.alloc (.cells #[.int .i64 0, .int .i64 0, .int .i64 0, .int .i64 0, .slice none 0 0, .int .i64 0, .slice none 0 0, .slice none 0 0, .slice none 0 0] 41) = wX at *
   have hgx1 : gx ≤ wA.heap.size := by omega
   have hgx2 : wA.heap.size ≤ gx := by omega
   clear hb hgx
   refine hK.out _ _ (fun _ => hS) ?_
   clear hK K
   try simp only [Act.put, yq0, yq1, yq2, yq3, yq4, yq5]
   refine AnyG.o1 7 ?_
   intro K hK
   go_simp
   refine (C6.out gl _ hl hS.2.1).mono ?_
   rintro e wB ⟨g2, rfl, hg2, hO2, hb⟩
   have zB := hb.size
   have lO2 := hO2.lt
   replace hS := And.intro (hS.1.kept hb) (And.intro (hS.2.1.kept hb) (hS.2.2.kept hb))
   replace B2 := B2.kept hb
   replace hl := hl.kept hb
   replace hmk := hmk.kept hb
   replace bw7 := bw7.trans (hb.mono bw7.size)
   replace hO1 := hO1.keep hb
   replace B6 := B6.kept hb
   clear hb
   refine hK.out _ _ (fun _ => hS) ?_
   clear hK K
   try simp only [Act.put, yq0, yq1, yq2, yq3, yq4, yq5]
   refine AnyG.tk 8 hS ?_
   refine AnyG.o1 10 ?_
   intro K hK
   refine step_store8 gx _ [.int .i64 (m : Nat), .int .i64 (nb m : Nat), .int .i64 4, .int .i64 ((nb m : Int) * 4), .slice (some ⟨g1, 0, none⟩) k1 k1, .int .i64 (bat m (bitAt xs) (nb m) : Nat), .slice (some ⟨g2, 0, none⟩) k2 k2, .slice none 0 0, .slice none 0 0] rfl rfl B6 rfl info_rrr (by simp [Value.oneCell']) ?_
   intro V B7 hO
   refine hK.out _ _ (fun h => absurd (by decide) h) ?_
   clear hK K
   try simp only [Act.put, yq0, yq1, yq2, yq3, yq4, yq5]
   refine AnyG.done (by kernel_rfl) ?_ _
   have QV0 : Hid (QV w V gx g1 g2 gm (.int .i64 (m : Nat)) (.int .i64 (nb m : Nat)) (.int .i64 4) (.int .i64 ((nb m : Int) * 4)) (.slice (some ⟨g1, 0, none⟩) k1 k1) (.int .i64 (bat m (bitAt xs) (nb m) : Nat)) (.slice (some ⟨g2, 0, none⟩) k2 k2) (rC m (bitAt xs)) (rO m (bitAt xs)) (mkP (gN m) (bon m (bitAt xs)) (bat m (bitAt xs)) (nb m))) := ⟨B7, (hO.block g1 (by omega)).trans hO1, (hO.block g2 (by omega)).trans hO2, hO.cel hmk (by omega), hO.cel B2 (by omega), bw7.trans (hO.below (base := w.heap.size) (by omega)), by omega, by omega, by omega, by omega⟩
   clear B7 hO hO1 hO2 hmk B2 bw7 hS hl B6 C5 C6
   go_wp2
   go_loopw [32] (fun t wr => ∃ (J : Nat) (so : Option Addr) (sc : Nat) (tO : Option Addr) (tc : Nat), J ≤ gN m ∧ t = .int .i64 J ∧ J ≤ sc ∧ J ≤ tc ∧ QB V wr gx (.int .i64 (m : Nat)) (.int .i64 (nb m : Nat)) (.int .i64 4) (.int .i64 ((nb m : Int) * 4)) (.slice (some ⟨g1, 0, none⟩) k1 k1) (.int .i64 (bat m (bitAt xs) (nb m) : Nat)) (.slice (some ⟨g2, 0, none⟩) k2 k2) (.slice so J sc) (.slice tO J tc) J J m (bitAt xs)) (fun t _ => gN m - (intOf t).toNat)
   case atStart => exact ⟨0, none, 0, none, 0, Nat.zero_le _, rfl, Nat.le_refl _, Nat.le_refl _, ⟨QV0.out.bx, QV0.out.bx.lt, Nat.le_refl _, Below.refl _ _, fun _ _ _ => rfl, World.ownsRow_nil _ _ _ _, World.ownsRow_nil _ _ _ _, Ap.apart_nil _⟩⟩
   case round =>
    obtain ⟨J, so, sc, tO, tc, hJ, rfl, hsc, htc, HQ⟩ := hrel
    by_cases hlt : J < gN m
    ·have hlt2 : (J : Int) < (gN m : Int) := by omega
     have mkc : Cel wr gm _ 149 := (HQ.same gm QV0.out.mks.lt QV0.out.n3).trans QV0.out.mks
     have x0 := mkc.cell (J * 2) (MG1.out J hlt)
     have x1 := mkc.cell (J * 2 + 1) (MG2.out J hlt)
     have SU1 := hide (onL_succ m (bitAt xs) J)
     have SU2 := hide (ptL_succ m (bitAt xs) J)
     generalize bon m (bitAt xs) (8 * J) = Zs at *
     generalize bat m (bitAt xs) (8 * J) = Zp at *
     have lmk := mkc.lt
     have y7 := HQ.bx.cell 7 rfl
     have lx := HQ.bx.lt
     have szr := HQ.sz
     have hown1 : ∀ k, (Value.slice so J sc).ownBlock = some k → k < wr.heap.size := fun k hk => (HQ.o1.lt k hk).2
     clear mkc
     go_wp2_with (at_builtin; refine Ap.wpList_append_x (by rfl) _ _ _ (by rfl) V.heap.size 3 i0 (.int .i64 0) 8 Tryz.underlying35 hi hz0 hz1 hz2 rfl (.slice so J sc) J (iv8 (onL m (bitAt xs) J)) (by rfl) ((HQ.o1.alloc _).alloc _) (some ⟨wr.heap.size + 1, 0, none⟩) 1 1 [.int .i64 (Zs : Nat)] (by rfl) rfl ?c1_401 ?c2_401 ?c3_401 ?c4_401 ?c5_401 ?_)
     case c1_401 => exact fun _ => ⟨_, rfl, fun j u hj => by
      match j, hj with
      | 0, hj => simp at hj; subst hj; simp [Addr.add]⟩
     case c2_401 => intro u hu; simp at hu; subst hu; rfl
     case c3_401 => unfold maxLen; omega
     case c4_401 => omega
     case c5_401 => simp; omega
     intro so2 sc2 w9 own9 hle9 hB9 hblk9 hkeep9 hsz9
     rw [SU1.out] at own9
     have HPa := (HQ.keep (below_alloc wr (.cells #[.int .i64 (Zs : Nat), .int .i64 (Zp : Nat)] 149))).keep (below_alloc _ (.cells #[.int .i64 (Zs : Nat)] 3))
     have esz : ((wr.alloc (.cells #[.int .i64 (Zs : Nat), .int .i64 (Zp : Nat)] 149)).alloc (.cells #[.int .i64 (Zs : Nat)] 3)).heap.size = wr.heap.size + 1 + 1 := by simp
     have mbA : Cel ((wr.alloc (.cells #[.int .i64 (Zs : Nat), .int .i64 (Zp : Nat)] 149)).alloc (.cells #[.int .i64 (Zs : Nat)] 3)) wr.heap.size [.int .i64 (Zs : Nat), .int .i64 (Zp : Nat)] 149 := (Cel.new wr _ _).alloc _
     rw [← esz] at hblk9 hkeep9
     have HP9 := HPa.one own9 hB9 hblk9 hkeep9
     have hC9 : Cel w9 wr.heap.size [.int .i64 (Zs : Nat), .int .i64 (Zp : Nat)] 149 := (hkeep9 wr.heap.size (by omega) (fun e => by have := hown1 _ e; omega)).trans mbA
     have x7 := (HPa.bx.keep hB9 HQ.lt).cell 7 rfl
     have f7 := (HPa.bx.keep hB9 HQ.lt).frozen 7
     have x8 := (HPa.bx.keep hB9 HQ.lt).cell 8 rfl
     have mb1 := hC9.cell 1 rfl
     have lx9 := (HPa.bx.keep hB9 HQ.lt).lt
     have lm9 := hC9.lt
     have sz9 := HP9.sz
     simp only [size_set] at sz9
     have ngx : gx ≠ wr.heap.size := by omega
     clear own9 hB9 hblk9 hkeep9 HPa mbA hown1 x0 x1 y7 esz
     go_wp2_with (at_builtin; refine Ap.wpList_append_x (by rfl) _ _ _ (by rfl) V.heap.size 3 i0 (.int .i64 0) 8 Tryz.underlying35 hi hz0 hz1 hz2 rfl (.slice tO J tc) J (iv8 (ptL m (bitAt xs) J)) (by rfl) (HP9.o2.alloc _) (some ⟨w9.heap.size, 0, none⟩) 1 1 [.int .i64 (Zp : Nat)] (by rfl) rfl ?d1_401 ?d2_401 ?d3_401 ?d4_401 ?d5_401 ?_)
     case d1_401 =>
      have q := (Cel.new (w9.setCell ⟨gx, 7, none⟩ (.slice so2 (J + 1) sc2)) [.int .i64 (Zp : Nat)] 3).cell 0 rfl
      rw [size_set] at q
      exact fun _ => ⟨_, rfl, fun j u hj => by
       match j, hj with
       | 0, hj => simp at hj; subst hj; simp [Addr.add]; exact q⟩
     case d2_401 => intro u hu; simp at hu; subst hu; rfl
     case d3_401 => unfold maxLen; omega
     case d4_401 => omega
     case d5_401 => simp; omega
     intro tO2 tc2 w10 own10 hle10 hB10 hblk10 hkeep10 hsz10
     rw [SU2.out] at own10
     have HPb := HP9.keep (below_alloc _ (.cells #[.int .i64 (Zp : Nat)] 3))
     have esz2 : ((w9.setCell ⟨gx, 7, none⟩ (.slice so2 (J + 1) sc2)).alloc (.cells #[.int .i64 (Zp : Nat)] 3)).heap.size = w9.heap.size + 1 := by simp [size_set]
     rw [← esz2] at hblk10 hkeep10
     have HP10 := HPb.two own10 hB10 hblk10 hkeep10
     have x8b := (HPb.bx.keep hB10 HQ.lt).cell 8 rfl
     have f8b := (HPb.bx.keep hB10 HQ.lt).frozen 8
     have HPH := hide HP10
     clear own10 hB10 hblk10 hkeep10 HPb esz2 HP9 HP10 x7 x8 f7 mb1 hC9 HQ
     go_wp2
     exact ⟨⟨J + 1, so2, sc2, tO2, tc2, by omega, by go_num, hle9, hle10, HPH.out⟩, by simp only [intOf]; omega⟩
    ·obtain hJe : J = gN m := by omega
     have zc : Cel wr (w.heap.size + 1) [.int .i64 0, .int .i64 0, .int .i64 0, .int .i64 0, .slice none 0 0, .int .i64 0, .slice none 0 0, .slice none 0 0, .slice none 0 0] 41 := (HQ.same (w.heap.size + 1) (by have := QV0.out.z.lt; exact this) (by have := QV0.out.n4; omega)).trans QV0.out.z
     have d1 : Own wr g1 (rC m (bitAt xs)) := (HQ.same g1 QV0.out.o1.lt QV0.out.n1).trans QV0.out.o1
     have d2 : Own wr g2 (rO m (bitAt xs)) := (HQ.same g2 QV0.out.o2.lt QV0.out.n2).trans QV0.out.o2
     have bwr : Below w.heap.size w wr := QV0.out.hb.trans (HQ.hb.mono (by have := QV0.out.n4; omega))
     have hgV : w.heap.size + 1 < V.heap.size := QV0.out.z.lt
     have e1 : g1 ≠ w.heap.size + 1 := by omega
     have e2 : g2 ≠ w.heap.size + 1 := by omega
     have HH := hide (And.intro HQ (And.intro d1 (And.intro d2 bwr)))
     clear d1 d2 bwr QV0
     go_wp2_with (first | refine load_cel gx _ rfl HQ.bx Tryz.underlying41 info_rrr ?_ | refine store_cel (w.heap.size + 1) _ _ rfl rfl zc rfl info_rrr (by simp [Value.oneCell']) ?_)
     intro w20 C20 hO20
     obtain ⟨HQ2, d1, d2, bwr⟩ := HH.out
     have HF := hide (show Wd w20 (some ⟨g1, 0, none⟩) (rC m (bitAt xs)) ∧ Wd w20 (some ⟨g2, 0, none⟩) (rO m (bitAt xs)) ∧ Nd w20 so (onL m (bitAt xs) J) ∧ Nd w20 tO (ptL m (bitAt xs) J) ∧ Below w.heap.size w w20 ∧ Fr w.heap.size so ∧ Fr w.heap.size tO from ⟨Own.wd ((hO20.block g1 e1).trans d1), Own.wd ((hO20.block g2 e2).trans d2), nd_own8 (hO20.owns HQ2.o1 hgV), nd_own8 (hO20.owns HQ2.o2 hgV), bwr.trans (hO20.below (by omega)), own_fr HQ2.o1 (by omega), own_fr HQ2.o2 (by omega)⟩)
     have HC20 := hide C20
     clear HQ HQ2 d1 d2 bwr hO20 HH zc C20
     go_wp2
     (try simp only [Exit.inBlock, Exit.then])
     obtain ⟨p1, p2, p3, p4, p5⟩ := HF.out
     rw [hJe] at p3 p4 hsc htc
     have HC21 := HC20.out
     rw [hJe] at HC21
     exact bodyPost_ret (result_cel rfl (w.heap.size + 1) _ rfl HC21 Tryz.underlying41 info_rrr) rfl ⟨g1, k1, g2, k2, so, sc, tO, tc, rfl, HK1.out, HK2.out, p1, p2, p3, p4, hsc, htc, p5⟩
 ·intro K hK
  go_simp
  have hb := below_alloc Y (.cells #[.int .i64 0, .int .i64 0, .int .i64 0, .int .i64 0, .slice none 0 0, .int .i64 0, .slice none 0 0, .slice none 0 0, .slice none 0 0] 41)
  have B6 := Cel.new Y [.int .i64 0, .int .i64 0, .int .i64 0, .int .i64 0, .slice none 0 0, .int .i64 0, .slice none 0 0, .slice none 0 0, .slice none 0 0] 41
  have zX : (Y.alloc (.cells #[.int .i64 0, .int .i64 0, .int .i64 0, .int .i64 0, .slice none 0 0, .int .i64 0, .slice none 0 0, .slice none 0 0, .slice none 0 0] 41)).heap.size = Y.heap.size + 1 := by simp
  replace hS := And.intro (hS.1.kept hb) (And.intro (hS.2.1.kept hb) (hS.2.2.kept hb))
  replace B2 := B2.kept hb
  replace hl := hl.kept hb
  replace hmk := hmk.kept hb
  replace bw7 := bw7.trans (hb.mono bw7.size)
  obtain ⟨gx, hgx⟩ : ∃ gx, gx = Y.heap.size := ⟨_, rfl⟩
  rw [← hgx] at B6
  rw [← hgx]
  generalize Y.alloc (.cells #[.int .i64 0, .int .i64 0, .int .i64 0, .int .i64 0, .slice none 0 0, .int .i64 0, .slice none 0 0, .slice none 0 0, .slice none 0 0] 41) = wX at *
  have hgx1 : gx ≤ Y.heap.size := by omega
  have hgx2 : Y.heap.size ≤ gx := by omega
  clear hb hgx
  refine hK.out _ _ (fun _ => hS) ?_
  clear hK K
  try simp only [Act.put, yq0, yq1, yq2, yq3, yq4, yq5]
  refine AnyG.o1 3 ?_
  intro K hK
  go_simp
  refine (C5.out gl _ hl).mono ?_
  rintro e wA ⟨g1, rfl, hg1, hO1, hb⟩
  have zA := hb.size
  have lO1 := hO1.lt
  replace hS := And.intro (hS.1.kept hb) (And.intro (hS.2.1.kept hb) (hS.2.2.kept hb))
  replace B2 := B2.kept hb
  replace hl := hl.kept hb
  replace hmk := hmk.kept hb
  replace bw7 := bw7.trans (hb.mono bw7.size)
  replace B6 := B6.kept hb
  clear hb
  refine hK.out _ _ (fun _ => hS) ?_
  clear hK K
  try simp only [Act.put, yq0, yq1, yq2, yq3, yq4, yq5]
  refine AnyG.o1 7 ?_
  intro K hK
  go_simp
  refine (C6.out gl _ hl hS.2.1).mono ?_
  rintro e wB ⟨g2, rfl, hg2, hO2, hb⟩
  have zB := hb.size
  have lO2 := hO2.lt
  replace hS := And.intro (hS.1.kept hb) (And.intro (hS.2.1.kept hb) (hS.2.2.kept hb))
  replace B2 := B2.kept hb
  replace hl := hl.kept hb
  replace hmk := hmk.kept hb
  replace bw7 := bw7.trans (hb.mono bw7.size)
  replace hO1 := hO1.keep hb
  replace B6 := B6.kept hb
  clear hb
  refine hK.out _ _ (fun _ => hS) ?_
  clear hK K
  try simp only [Act.put, yq0, yq1, yq2, yq3, yq4, yq5]
  refine AnyG.tk 8 hS ?_
  refine AnyG.o1 10 ?_
  intro K hK
  refine step_store8 gx _ [.int .i64 (m : Nat), .int .i64 (nb m : Nat), .int .i64 4, .int .i64 ((nb m : Int) * 4), .slice (some ⟨g1, 0, none⟩) k1 k1, .int .i64 (bat m (bitAt xs) (nb m) : Nat), .slice (some ⟨g2, 0, none⟩) k2 k2, .slice none 0 0, .slice none 0 0] rfl rfl B6 rfl info_rrr (by simp [Value.oneCell']) ?_
  intro V B7 hO
  refine hK.out _ _ (fun h => absurd (by decide) h) ?_
  clear hK K
  try simp only [Act.put, yq0, yq1, yq2, yq3, yq4, yq5]
  refine AnyG.done (by kernel_rfl) ?_ _
  have QV0 : Hid (QV w V gx g1 g2 gm (.int .i64 (m : Nat)) (.int .i64 (nb m : Nat)) (.int .i64 4) (.int .i64 ((nb m : Int) * 4)) (.slice (some ⟨g1, 0, none⟩) k1 k1) (.int .i64 (bat m (bitAt xs) (nb m) : Nat)) (.slice (some ⟨g2, 0, none⟩) k2 k2) (rC m (bitAt xs)) (rO m (bitAt xs)) (mkP (gN m) (bon m (bitAt xs)) (bat m (bitAt xs)) (nb m))) := ⟨B7, (hO.block g1 (by omega)).trans hO1, (hO.block g2 (by omega)).trans hO2, hO.cel hmk (by omega), hO.cel B2 (by omega), bw7.trans (hO.below (base := w.heap.size) (by omega)), by omega, by omega, by omega, by omega⟩
  clear B7 hO hO1 hO2 hmk B2 bw7 hS hl B6 C5 C6
  go_wp2
  go_loopw [32] (fun t wr => ∃ (J : Nat) (so : Option Addr) (sc : Nat) (tO : Option Addr) (tc : Nat), J ≤ gN m ∧ t = .int .i64 J ∧ J ≤ sc ∧ J ≤ tc ∧ QB V wr gx (.int .i64 (m : Nat)) (.int .i64 (nb m : Nat)) (.int .i64 4) (.int .i64 ((nb m : Int) * 4)) (.slice (some ⟨g1, 0, none⟩) k1 k1) (.int .i64 (bat m (bitAt xs) (nb m) : Nat)) (.slice (some ⟨g2, 0, none⟩) k2 k2) (.slice so J sc) (.slice tO J tc) J J m (bitAt xs)) (fun t _ => gN m - (intOf t).toNat)
  case atStart => exact ⟨0, none, 0, none, 0, Nat.zero_le _, rfl, Nat.le_refl _, Nat.le_refl _, ⟨QV0.out.bx, QV0.out.bx.lt, Nat.le_refl _, Below.refl _ _, fun _ _ _ => rfl, World.ownsRow_nil _ _ _ _, World.ownsRow_nil _ _ _ _, Ap.apart_nil _⟩⟩
  case round =>
   obtain ⟨J, so, sc, tO, tc, hJ, rfl, hsc, htc, HQ⟩ := hrel
   by_cases hlt : J < gN m
   ·have hlt2 : (J : Int) < (gN m : Int) := by omega
    have mkc : Cel wr gm _ 149 := (HQ.same gm QV0.out.mks.lt QV0.out.n3).trans QV0.out.mks
    have x0 := mkc.cell (J * 2) (MG1.out J hlt)
    have x1 := mkc.cell (J * 2 + 1) (MG2.out J hlt)
    have SU1 := hide (onL_succ m (bitAt xs) J)
    have SU2 := hide (ptL_succ m (bitAt xs) J)
    generalize bon m (bitAt xs) (8 * J) = Zs at *
    generalize bat m (bitAt xs) (8 * J) = Zp at *
    have lmk := mkc.lt
    have y7 := HQ.bx.cell 7 rfl
    have lx := HQ.bx.lt
    have szr := HQ.sz
    have hown1 : ∀ k, (Value.slice so J sc).ownBlock = some k → k < wr.heap.size := fun k hk => (HQ.o1.lt k hk).2
    clear mkc
    go_wp2_with (at_builtin; refine Ap.wpList_append_x (by rfl) _ _ _ (by rfl) V.heap.size 3 i0 (.int .i64 0) 8 Tryz.underlying35 hi hz0 hz1 hz2 rfl (.slice so J sc) J (iv8 (onL m (bitAt xs) J)) (by rfl) ((HQ.o1.alloc _).alloc _) (some ⟨wr.heap.size + 1, 0, none⟩) 1 1 [.int .i64 (Zs : Nat)] (by rfl) rfl ?c1_501 ?c2_501 ?c3_501 ?c4_501 ?c5_501 ?_)
    case c1_501 => exact fun _ => ⟨_, rfl, fun j u hj => by
     match j, hj with
     | 0, hj => simp at hj; subst hj; simp [Addr.add]⟩
    case c2_501 => intro u hu; simp at hu; subst hu; rfl
    case c3_501 => unfold maxLen; omega
    case c4_501 => omega
    case c5_501 => simp; omega
    intro so2 sc2 w9 own9 hle9 hB9 hblk9 hkeep9 hsz9
    rw [SU1.out] at own9
    have HPa := (HQ.keep (below_alloc wr (.cells #[.int .i64 (Zs : Nat), .int .i64 (Zp : Nat)] 149))).keep (below_alloc _ (.cells #[.int .i64 (Zs : Nat)] 3))
    have esz : ((wr.alloc (.cells #[.int .i64 (Zs : Nat), .int .i64 (Zp : Nat)] 149)).alloc (.cells #[.int .i64 (Zs : Nat)] 3)).heap.size = wr.heap.size + 1 + 1 := by simp
    have mbA : Cel ((wr.alloc (.cells #[.int .i64 (Zs : Nat), .int .i64 (Zp : Nat)] 149)).alloc (.cells #[.int .i64 (Zs : Nat)] 3)) wr.heap.size [.int .i64 (Zs : Nat), .int .i64 (Zp : Nat)] 149 := (Cel.new wr _ _).alloc _
    rw [← esz] at hblk9 hkeep9
    have HP9 := HPa.one own9 hB9 hblk9 hkeep9
    have hC9 : Cel w9 wr.heap.size [.int .i64 (Zs : Nat), .int .i64 (Zp : Nat)] 149 := (hkeep9 wr.heap.size (by omega) (fun e => by have := hown1 _ e; omega)).trans mbA
    have x7 := (HPa.bx.keep hB9 HQ.lt).cell 7 rfl
    have f7 := (HPa.bx.keep hB9 HQ.lt).frozen 7
    have x8 := (HPa.bx.keep hB9 HQ.lt).cell 8 rfl
    have mb1 := hC9.cell 1 rfl
    have lx9 := (HPa.bx.keep hB9 HQ.lt).lt
    have lm9 := hC9.lt
    have sz9 := HP9.sz
    simp only [size_set] at sz9
    have ngx : gx ≠ wr.heap.size := by omega
    clear own9 hB9 hblk9 hkeep9 HPa mbA hown1 x0 x1 y7 esz
    go_wp2_with (at_builtin; refine Ap.wpList_append_x (by rfl) _ _ _ (by rfl) V.heap.size 3 i0 (.int .i64 0) 8 Tryz.underlying35 hi hz0 hz1 hz2 rfl (.slice tO J tc) J (iv8 (ptL m (bitAt xs) J)) (by rfl) (HP9.o2.alloc _) (some ⟨w9.heap.size, 0, none⟩) 1 1 [.int .i64 (Zp : Nat)] (by rfl) rfl ?d1_501 ?d2_501 ?d3_501 ?d4_501 ?d5_501 ?_)
    case d1_501 =>
     have q := (Cel.new (w9.setCell ⟨gx, 7, none⟩ (.slice so2 (J + 1) sc2)) [.int .i64 (Zp : Nat)] 3).cell 0 rfl
     rw [size_set] at q
     exact fun _ => ⟨_, rfl, fun j u hj => by
      match j, hj with
      | 0, hj => simp at hj; subst hj; simp [Addr.add]; exact q⟩
    case d2_501 => intro u hu; simp at hu; subst hu; rfl
    case d3_501 => unfold maxLen; omega
    case d4_501 => omega
    case d5_501 => simp; omega
    intro tO2 tc2 w10 own10 hle10 hB10 hblk10 hkeep10 hsz10
    rw [SU2.out] at own10
    have HPb := HP9.keep (below_alloc _ (.cells #[.int .i64 (Zp : Nat)] 3))
    have esz2 : ((w9.setCell ⟨gx, 7, none⟩ (.slice so2 (J + 1) sc2)).alloc (.cells #[.int .i64 (Zp : Nat)] 3)).heap.size = w9.heap.size + 1 := by simp [size_set]
    rw [← esz2] at hblk10 hkeep10
    have HP10 := HPb.two own10 hB10 hblk10 hkeep10
    have x8b := (HPb.bx.keep hB10 HQ.lt).cell 8 rfl
    have f8b := (HPb.bx.keep hB10 HQ.lt).frozen 8
    have HPH := hide HP10
    clear own10 hB10 hblk10 hkeep10 HPb esz2 HP9 HP10 x7 x8 f7 mb1 hC9 HQ
    go_wp2
    exact ⟨⟨J + 1, so2, sc2, tO2, tc2, by omega, by go_num, hle9, hle10, HPH.out⟩, by simp only [intOf]; omega⟩
   ·obtain hJe : J = gN m := by omega
    have zc : Cel wr (w.heap.size + 1) [.int .i64 0, .int .i64 0, .int .i64 0, .int .i64 0, .slice none 0 0, .int .i64 0, .slice none 0 0, .slice none 0 0, .slice none 0 0] 41 := (HQ.same (w.heap.size + 1) (by have := QV0.out.z.lt; exact this) (by have := QV0.out.n4; omega)).trans QV0.out.z
    have d1 : Own wr g1 (rC m (bitAt xs)) := (HQ.same g1 QV0.out.o1.lt QV0.out.n1).trans QV0.out.o1
    have d2 : Own wr g2 (rO m (bitAt xs)) := (HQ.same g2 QV0.out.o2.lt QV0.out.n2).trans QV0.out.o2
    have bwr : Below w.heap.size w wr := QV0.out.hb.trans (HQ.hb.mono (by have := QV0.out.n4; omega))
    have hgV : w.heap.size + 1 < V.heap.size := QV0.out.z.lt
    have e1 : g1 ≠ w.heap.size + 1 := by omega
    have e2 : g2 ≠ w.heap.size + 1 := by omega
    have HH := hide (And.intro HQ (And.intro d1 (And.intro d2 bwr)))
    clear d1 d2 bwr QV0
    go_wp2_with (first | refine load_cel gx _ rfl HQ.bx Tryz.underlying41 info_rrr ?_ | refine store_cel (w.heap.size + 1) _ _ rfl rfl zc rfl info_rrr (by simp [Value.oneCell']) ?_)
    intro w20 C20 hO20
    obtain ⟨HQ2, d1, d2, bwr⟩ := HH.out
    have HF := hide (show Wd w20 (some ⟨g1, 0, none⟩) (rC m (bitAt xs)) ∧ Wd w20 (some ⟨g2, 0, none⟩) (rO m (bitAt xs)) ∧ Nd w20 so (onL m (bitAt xs) J) ∧ Nd w20 tO (ptL m (bitAt xs) J) ∧ Below w.heap.size w w20 ∧ Fr w.heap.size so ∧ Fr w.heap.size tO from ⟨Own.wd ((hO20.block g1 e1).trans d1), Own.wd ((hO20.block g2 e2).trans d2), nd_own8 (hO20.owns HQ2.o1 hgV), nd_own8 (hO20.owns HQ2.o2 hgV), bwr.trans (hO20.below (by omega)), own_fr HQ2.o1 (by omega), own_fr HQ2.o2 (by omega)⟩)
    have HC20 := hide C20
    clear HQ HQ2 d1 d2 bwr hO20 HH zc C20
    go_wp2
    (try simp only [Exit.inBlock, Exit.then])
    obtain ⟨p1, p2, p3, p4, p5⟩ := HF.out
    rw [hJe] at p3 p4 hsc htc
    have HC21 := HC20.out
    rw [hJe] at HC21
    exact bodyPost_ret (result_cel rfl (w.heap.size + 1) _ rfl HC21 Tryz.underlying41 info_rrr) rfl ⟨g1, k1, g2, k2, so, sc, tO, tc, rfl, HK1.out, HK2.out, p1, p2, p3, p4, hsc, htc, p5⟩
theorem qbuild_bad (N : Int) (ao : Option Addr) (xs : List Nat) (cap : Nat) (w : World) (hx : Wd w ao xs) (hk : chk N xs = false) :
  Calls Tryz.prog 53 #[.agg #[.int .i64 N, .slice ao xs.length cap]] w fun e w' => e = .returned (.tuple #[.agg #[.int .i64 0, .int .i64 0, .int .i64 0, .int .i64 0, .slice none 0 0, .int .i64 0, .slice none 0 0, .slice none 0 0, .slice none 0 0], .int .i64 2]) ∧ Below w.heap.size w w' := by
 obtain ⟨W, hW⟩ : ∃ W, W = (w.alloc (.cells #[.int .i64 N, .slice ao xs.length cap] 33)).alloc (.cells #[.int .i64 0, .int .i64 0, .int .i64 0, .int .i64 0, .slice none 0 0, .int .i64 0, .slice none 0 0, .slice none 0 0, .slice none 0 0] 41) := ⟨_, rfl⟩
 have bW := yb2 hW
 have B2 := yc2 hW
 have C1 : Hid (∀ w0, Below w.heap.size w w0 → Calls Tryz.prog 92 #[.agg #[.int .i64 N, .slice ao xs.length cap]] w0 fun e w' => e = .returned (.bool false) ∧ Below w0.heap.size w0 w') := fun w0 h => by
  have := check_c N ao xs cap w0 (hx.keep h)
  rw [hk] at this
  exact this
 clear hx hk
 go_enter Tryz.func53, Tryz.ntmps53
 go_wp2_with fail
 rw [← hW]
 refine (C1.out _ bW).mono ?_
 rintro e w1 ⟨rfl, hb⟩
 have bw1 := bW.trans (hb.mono bW.size)
 replace B2 := B2.kept hb
 clear hb C1 hW bW
 go_wp2_with (refine store_cel (w.heap.size + 1) _ [.int .i64 0, .int .i64 0, .int .i64 0, .int .i64 0, .slice none 0 0, .int .i64 0, .slice none 0 0, .slice none 0 0, .slice none 0 0] rfl rfl B2 rfl info_rrr (by simp [Value.oneCell']) ?_)
 intro w2 C2 hO
 have HC := hide C2
 have bw2 := bw1.trans (hO.below (base := w.heap.size) (by omega))
 clear C2 hO B2 bw1
 go_wp2
 exact bodyPost_ret (result_cel rfl (w.heap.size + 1) _ rfl HC.out Tryz.underlying41 info_rrr) rfl ⟨rfl, bw2⟩
theorem build_k8 (N : Int) (ao : Option Addr) (xs : List Nat) (cap : Nat) (w : World) (hN : I64 N) (hx : Wd w ao xs) (hf : Fit xs) (hcap : xs.length ≤ cap) (hl : xs.length ≤ 1048576) (G : GV w) :
  Calls Tryz.prog 53 #[.agg #[.int .i64 N, .slice ao xs.length cap]] w fun e w' => ∃ cs : List Value, e = .returned (.tuple #[.agg cs.toArray, .int .i64 (kE8 N xs)]) ∧ KI8 w' cs (kB8 N xs) ∧ NF w.heap.size 7 cs ∧ Below w.heap.size w w' := by
 cases hk : chk N xs with
 | false =>
  refine (qbuild_bad N ao xs cap w hx hk).mono ?_
  rintro e w' ⟨rfl, hb⟩
  have e1 : rbN N xs = 0 := by unfold rbN; rw [hk]; rfl
  have e2 : rbK N xs = 0 := by unfold rbK; rw [hk]; rfl
  have e3 : rbV N xs = 0 := by unfold rbV; rw [hk]; rfl
  have e4 : rbM N xs = 0 := by unfold rbM; rw [hk]; rfl
  have e5 : rbC N xs = [] := by unfold rbC; rw [hk]; rfl
  have e6 : rbL N xs = 0 := by unfold rbL; rw [hk]; rfl
  have e7 : rbO N xs = [] := by unfold rbO; rw [hk]; rfl
  have e8 : rbS N xs = [] := by unfold rbS; rw [hk]; rfl
  have e9 : rbT N xs = [] := by unfold rbT; rw [hk]; rfl
  have eE : kE8 N xs = 2 := by unfold kE8 rbE; rw [hk]; rfl
  have R : RO w.heap.size w' (rbC N xs) (rbO N xs) (rbS N xs) (rbT N xs) none 0 none 0 none 0 none 0 := by
   rw [e5, e7, e8, e9]
   exact ⟨fun h => absurd h (Nat.lt_irrefl _), Nat.le_refl _, fun h => absurd h (Nat.lt_irrefl _), Nat.le_refl _, nd0 _ _, Nat.le_refl _, nd0 _ _, Nat.le_refl _, fr0 _, fr0 _⟩
  refine ⟨_, ?_, R.ki (G.kept hb), R.nf, hb⟩
  rw [eE, e1, e2, e3, e4, e5, e6, e7, e8, e9]
  rfl
 | true =>
  obtain ⟨h0, h1, _, _⟩ := chk_out N xs hk
  obtain ⟨m, rfl⟩ := Int.eq_ofNat_of_zero_le h0
  refine (qbuild_ok m ao xs cap w hx hf hk (by omega) G).mono ?_
  rintro e w' ⟨g1, k1, g2, k2, so, sc, tO, tc, rfl, hk1, hk2, p1, p2, p3, p4, q1, q2, hb, f1, f2⟩
  have e1 : rbN (m : Int) xs = (m : Int) := by unfold rbN; rw [hk]; rfl
  have e2 : rbK (m : Int) xs = (nb m : Int) := by unfold rbK; rw [hk, Int.toNat_natCast]; rfl
  have e3 : rbV (m : Int) xs = 4 := by unfold rbV; rw [hk]; rfl
  have e4 : rbM (m : Int) xs = (nb m : Int) * 4 := by unfold rbM; rw [hk, Int.toNat_natCast]; rfl
  have e5 : rbC (m : Int) xs = rC m (bitAt xs) := by unfold rbC; rw [hk, Int.toNat_natCast]; rfl
  have e6 : rbL (m : Int) xs = (bat m (bitAt xs) (nb m) : Int) := by unfold rbL; rw [hk, Int.toNat_natCast]; rfl
  have e7 : rbO (m : Int) xs = rO m (bitAt xs) := by unfold rbO; rw [hk, Int.toNat_natCast]; rfl
  have e8 : rbS (m : Int) xs = rS m (bitAt xs) := by unfold rbS; rw [hk, Int.toNat_natCast]; rfl
  have e9 : rbT (m : Int) xs = rT m (bitAt xs) := by unfold rbT; rw [hk, Int.toNat_natCast]; rfl
  have lC : (rC m (bitAt xs)).length = k1 := by unfold rC mkS; rw [length_rowOf, length_bclP, hk1]
  have lO : (rO m (bitAt xs)).length = k2 := by unfold rO frL; rw [length_rowOf, length_bofP, hk2]
  have lS : (rS m (bitAt xs)).length = gN m := by unfold rS; rw [length_onL]
  have lT : (rT m (bitAt xs)).length = gN m := by unfold rT; rw [length_ptL]
  have R : RO w.heap.size w' (rbC (m : Int) xs) (rbO (m : Int) xs) (rbS (m : Int) xs) (rbT (m : Int) xs) (some ⟨g1, 0, none⟩) k1 (some ⟨g2, 0, none⟩) k2 so sc tO tc := by
   rw [e5, e7, e8, e9]
   exact ⟨p1, by omega, p2, by omega, p3, by omega, p4, by omega, f1, f2⟩
  refine ⟨_, ?_, R.ki (G.kept hb), R.nf, hb⟩
  rw [kE_ok8 _ _ hk, e1, e2, e3, e4, e5, e6, e7, e8, e9, lC, lO, lS, lT]
end Go.Proofs.YtfnkklkdajlhlaaGreatDoor
