/-
  The contract of the program's Build of rows in blocks. The contracts of the program's functions of rows in blocks, over objects. The contracts of heads and small. What the row says of the two tables: they lie where the program lays them.
-/
import Derived.Test.YtmphbnmcbonmmaaDoorM08
import Derived.Test.YtmphbnmcbonmmaaDoorM01
import Derived.Test.YtmphbnmcbonmmaaDoorM03
import Derived.Test.YtmphbnmcbonmmaaDoorRows
namespace Go.Proofs.YtmphbnmcbonmmaaDoor
open Go.RowKit Num Bit Bn
set_option linter.unusedVariables false
set_option linter.unusedSimpArgs false
set_option maxRecDepth 100000

theorem run_load_any {T : TypeId} {w : World} {x : Operand} {ρ : Operand → Value} {d : Option Tmp} {ty : TypeId} {ps : String} {af : Array Edge} {gd : Option (Nat × Bool)}
    (g : Nat) (cs : List Value) {n : Nat} {e : TypeId} (hx : ρ x = .pointer (some ⟨g, 0, none⟩)) (hc : Cel w g cs T) (hu : Tryd.prog.underlying T = some (.array n e)) (hi : (Tryd.prog.info? T).map (·.size) = some cs.length) :
    (execOp ρ (⟨d, .load T x, ty, ps, af, gd⟩ : Oper)).run Tryd.prog w = .ok (.value (.agg cs.toArray)) w := by
  have hl := run_loadVar_row (P := Tryd.prog) w g T T cs.toArray (0, 0) _ hc hu rfl (by simpa using hi)
  unfold execOp
  simp only [hx, Instr.loadAt, Instr.sureAddr, Sem.run_bind, Sem.run_pure, Result.andThen_ok, hl]
/-- What stands while the row is built. -/
structure QB (V wr : World) (gx : Nat) (c0 c1 c2 c3 c4 c5 c6 sv tv : Value) (J T m : Nat) (f : Nat → Bool) : Prop where
  bx : Cel wr gx [c0, c1, c2, c3, c4, c5, c6, sv, tv] 31
  lt : gx < V.heap.size
  sz : V.heap.size ≤ wr.heap.size
  hb : Below gx V wr
  same : ∀ k, k < V.heap.size → k ≠ gx → wr.heap[k]? = V.heap[k]?
  o1 : wr.ownsRow V.heap.size 3 1 sv J (iv8 (onL m f J))
  o2 : wr.ownsRow V.heap.size 3 1 tv T (iv8 (ptL m f T))
  ap : Ap.Apart sv tv
theorem QB.keep {V wr w' : World} {gx : Nat} {c0 c1 c2 c3 c4 c5 c6 sv tv : Value} {J T m : Nat} {f : Nat → Bool} (h : QB V wr gx c0 c1 c2 c3 c4 c5 c6 sv tv J T m f) (hb : Below wr.heap.size wr w') : QB V w' gx c0 c1 c2 c3 c4 c5 c6 sv tv J T m f :=
  ⟨h.bx.kept hb, h.lt, Nat.le_trans h.sz hb.size, h.hb.trans (hb.mono (Nat.le_of_lt h.bx.lt)), fun k h1 h2 => (hb.block k (Nat.lt_of_lt_of_le h1 h.sz)).trans (h.same k h1 h2), Ap.owns_below h.o1 hb, Ap.owns_below h.o2 hb, h.ap⟩
theorem QB.one {V wr w2 : World} {gx : Nat} {c0 c1 c2 c3 c4 c5 c6 sv tv u : Value} {J T m : Nat} {f : Nat → Bool} (h : QB V wr gx c0 c1 c2 c3 c4 c5 c6 sv tv J T m f) (ho : w2.ownsRow V.heap.size 3 1 u (J + 1) (iv8 (onL m f (J + 1)))) (hB : Below V.heap.size wr w2)
    (hblk : ∀ k, u.ownBlock = some k → (sv.ownBlock = some k ∨ k = wr.heap.size) ∧ k < w2.heap.size) (hkeep : ∀ k, k < wr.heap.size → sv.ownBlock ≠ some k → w2.heap[k]? = wr.heap[k]?) :
    QB V (w2.setCell ⟨gx, 7, none⟩ u) gx c0 c1 c2 c3 c4 c5 c6 u tv (J + 1) T m f := by
  have hs : (w2.setCell ⟨gx, 7, none⟩ u).heap.size = w2.heap.size := by simp [World.setCell]
  exact ⟨(h.bx.keep hB h.lt).set 7 u, h.lt, by rw [hs]; exact Nat.le_trans h.sz hB.size, (h.hb.trans (hB.mono (Nat.le_of_lt h.lt))).setCell (Nat.le_refl _) _, fun k h1 h2 => (Below.heap_setCell w2 ⟨gx, 7, none⟩ u k h2).trans ((hB.block k h1).trans (h.same k h1 h2)), owns_set8 ho h.lt, owns_set8 (Ap.owns_other h.o2 hkeep h.ap.symm) h.lt, (Ap.apart_new h.o2 hblk h.ap.symm).symm⟩
theorem QB.two {V wr w2 : World} {gx : Nat} {c0 c1 c2 c3 c4 c5 c6 sv tv u : Value} {J T m : Nat} {f : Nat → Bool} (h : QB V wr gx c0 c1 c2 c3 c4 c5 c6 sv tv J T m f) (ho : w2.ownsRow V.heap.size 3 1 u (T + 1) (iv8 (ptL m f (T + 1)))) (hB : Below V.heap.size wr w2)
    (hblk : ∀ k, u.ownBlock = some k → (tv.ownBlock = some k ∨ k = wr.heap.size) ∧ k < w2.heap.size) (hkeep : ∀ k, k < wr.heap.size → tv.ownBlock ≠ some k → w2.heap[k]? = wr.heap[k]?) :
    QB V (w2.setCell ⟨gx, 8, none⟩ u) gx c0 c1 c2 c3 c4 c5 c6 sv u J (T + 1) m f := by
  have hs : (w2.setCell ⟨gx, 8, none⟩ u).heap.size = w2.heap.size := by simp [World.setCell]
  exact ⟨(h.bx.keep hB h.lt).set 8 u, h.lt, by rw [hs]; exact Nat.le_trans h.sz hB.size, (h.hb.trans (hB.mono (Nat.le_of_lt h.lt))).setCell (Nat.le_refl _) _, fun k h1 h2 => (Below.heap_setCell w2 ⟨gx, 8, none⟩ u k h2).trans ((hB.block k h1).trans (h.same k h1 h2)), owns_set8 (Ap.owns_other h.o1 hkeep h.ap) h.lt, owns_set8 ho h.lt, Ap.apart_new h.o1 hblk h.ap⟩
theorem step_store {ops : Array Oper} {d : Option Tmp} {ty T : TypeId} {ps : String} {af : Array Edge} {a : Act} {w : World} {K : Act → World → Prop} {Q : Exit → Act → World → Prop} {E : Prop} {x y : Operand}
    (g : Nat) (old cs : List Value) (hx : a.eval x = .pointer (some ⟨g, 0, none⟩)) (hy : a.eval y = .agg cs.toArray) (hc : Cel w g old T) (lo : old.length = cs.length) (hi : (Tryd.prog.info? T).map (·.size) = some cs.length) (h1 : cs.toArray.all (·.oneCell') = true)
    (h : ∀ w1, Cel w1 g cs T → Only g w w1 → K (a.put d undef) w1) :
    if Region.wanted (⟨d, .store T x y, ty, ps, af, none⟩ : Oper) (yielded ops a.tmps) = true then Oper.wp Tryd.prog (⟨d, .store T x y, ty, ps, af, none⟩ : Oper) a w K Q else E := by
  rw [if_pos (by simp [Region.wanted])]
  exact wp_store_row _ x y rfl g cs.toArray hx hy _ _ hc (by simpa using hi) (by simpa using lo) h1 (h _ (setRow_heap w g _ _ _ _ hc) (Only.row g w _))
/-- Behind the region: a row that has no counts yet. -/
structure QV (w V : World) (gx g1 g2 gm : Nat) (c0 c1 c2 c3 c4 c5 c6 : Value) (C O : List Nat) (MK : List Value) : Prop where
  bx : Cel V gx [c0, c1, c2, c3, c4, c5, c6, .slice none 0 0, .slice none 0 0] 31
  o1 : Own V g1 C
  o2 : Own V g2 O
  mks : Cel V gm MK 52
  z : Cel V (w.heap.size + 1) [.int .i64 0, .int .i64 0, .int .i64 0, .int .i64 0, .slice none 0 0, .int .i64 0, .slice none 0 0, .slice none 0 0, .slice none 0 0] 31
  hb : Below w.heap.size w V
  n1 : g1 ≠ gx
  n2 : g2 ≠ gx
  n3 : gm ≠ gx
  n4 : w.heap.size + 1 < gx
theorem mono_bat (m : Nat) (f : Nat → Bool) : ∀ d j, bat m f j ≤ bat m f (j + d) := by
  intro d
  induction d with
  | zero => intro j; exact Nat.le_refl _
  | succ d ih => intro j; have := ih j; rw [show j + (d + 1) = j + d + 1 by omega, bat]; omega
theorem info_rrr : (Tryd.prog.info? 31).map (·.size) = some 9 := by kernel_rfl

set_option maxHeartbeats 8000000 in
theorem qbuild_ok (m : Nat) (ao : Option Addr) (xs : List Nat) (cap : Nat) (w : World) (hx : Wd w ao xs) (hf : Fit xs) (hk : chk (m : Int) xs = true) (hm : m ≤ 1048576) (G : GV w) :
    Calls Tryd.prog 8 #[.agg #[.int .i64 (m : Int), .slice ao xs.length cap]] w fun e w' => ∃ g1 k1 g2 k2 so sc tO tc, e = .returned (.tuple #[.agg #[.int .i64 (m : Nat), .int .i64 (nb m : Nat), .int .i64 4, .int .i64 ((nb m : Int) * 4), .slice (some ⟨g1, 0, none⟩) k1 k1, .int .i64 (bat m (bitAt xs) (nb m) : Nat), .slice (some ⟨g2, 0, none⟩) k2 k2, .slice so (gN m) sc, .slice tO (gN m) tc], .int .i64 0]) ∧
      k1 = (nb m * 4 + 63) / 64 ∧ k2 = (bat m (bitAt xs) (nb m) + 63) / 64 ∧ Wd w' (some ⟨g1, 0, none⟩) (rC m (bitAt xs)) ∧ Wd w' (some ⟨g2, 0, none⟩) (rO m (bitAt xs)) ∧ Nd w' so (rS m (bitAt xs)) ∧ Nd w' tO (rT m (bitAt xs)) ∧ gN m ≤ sc ∧ gN m ≤ tc ∧ Below w.heap.size w w' := by
  obtain ⟨i0, hi, hz0, hz1, hz2⟩ := info_parts info3_8
  have nbl := nb_le m hm
  have btl := bat_le m (bitAt xs) (nb m)
  obtain ⟨W, hW⟩ : ∃ W, W = (w.alloc (.cells #[.int .i64 (m : Int), .slice ao xs.length cap] 24)).alloc (.cells #[.int .i64 0, .int .i64 0, .int .i64 0, .int .i64 0, .slice none 0 0, .int .i64 0, .slice none 0 0, .slice none 0 0, .slice none 0 0] 31) := ⟨_, rfl⟩
  have bW : Below w.heap.size w W := by rw [hW]; exact (below_alloc w _).alloc (by simp) _
  have zW : W.heap.size = w.heap.size + 2 := by rw [hW]; simp
  have B1 : Cel W w.heap.size [.int .i64 (m : Int), .slice ao xs.length cap] 24 := by rw [hW]; exact (Cel.new w _ _).alloc _
  have B2 : Cel W (w.heap.size + 1) [.int .i64 0, .int .i64 0, .int .i64 0, .int .i64 0, .slice none 0 0, .int .i64 0, .slice none 0 0, .slice none 0 0, .slice none 0 0] 31 := by rw [hW]; exact Cel.new2 w _ _ _
  have C1 : Hid (∀ w0, Below w.heap.size w w0 → Calls Tryd.prog 18 #[.agg #[.int .i64 (m : Int), .slice ao xs.length cap]] w0 fun e w' => e = .returned (.bool true) ∧ Below w0.heap.size w0 w') := fun w0 h => by
    have := check_c (m : Int) ao xs cap w0 (hx.keep h)
    rw [hk] at this
    exact this
  have C2 : Hid (∀ w0, Below w.heap.size w w0 → Calls Tryd.prog 19 #[.agg #[.int .i64 (m : Int), .slice ao xs.length cap]] w0 fun e w' => ∃ g, e = .returned (.slice (some ⟨g, 0, none⟩) (nb m) (nb m)) ∧ Cel w' g (blP (nb m) (bcl m (bitAt xs)) (bof m (bitAt xs)) (nb m)) 59 ∧ w0.heap.size ≤ g ∧ Below w0.heap.size w0 w') := fun w0 h => qparted_c m ao xs cap w0 hm (hx.keep h) hf hk
  have C4 : Hid (∀ gl w0, Cel w0 gl (blP (nb m) (bcl m (bitAt xs)) (bof m (bitAt xs)) (nb m)) 59 → GV w0 → Calls Tryd.prog 20 #[.slice (some ⟨gl, 0, none⟩) (nb m) (nb m)] w0 fun e w' => ∃ g, e = .returned (.tuple #[.slice (some ⟨g, 0, none⟩) (gN m) (gN m), .agg #[.int .i64 (bon m (bitAt xs) (nb m) : Nat), .int .i64 (bat m (bitAt xs) (nb m) : Nat)]]) ∧ Cel w' g (mkP (gN m) (bon m (bitAt xs)) (bat m (bitAt xs)) (nb m)) 52 ∧ w0.heap.size ≤ g ∧ Below w0.heap.size w0 w') := fun gl w0 h hG => qmarked_c (nb m) (gN m) gl _ _ (bon m (bitAt xs)) (bat m (bitAt xs)) w0 nbl rfl h (fun i _ => bcl_le _ _ _) rfl rfl (fun i _ => rfl) (fun i _ => rfl) (fun i _ => bon_le _ _ _) (fun i _ => bat_le _ _ _) hG
  obtain ⟨k1, hk1⟩ : ∃ k1, k1 = (nb m * 4 + 63) / 64 := ⟨_, rfl⟩
  obtain ⟨k2, hk2⟩ : ∃ k2, k2 = (bat m (bitAt xs) (nb m) + 63) / 64 := ⟨_, rfl⟩
  have C5 : Hid (∀ gl w0, Cel w0 gl (blP (nb m) (bcl m (bitAt xs)) (bof m (bitAt xs)) (nb m)) 59 → Calls Tryd.prog 21 #[.slice (some ⟨gl, 0, none⟩) (nb m) (nb m)] w0 fun e w' => ∃ g, e = .returned (.agg #[.int .i64 (nb m : Nat), .int .i64 4, .int .i64 ((nb m : Int) * 4), .slice (some ⟨g, 0, none⟩) k1 k1]) ∧ w0.heap.size ≤ g ∧ Own w' g (rC m (bitAt xs)) ∧ Below w0.heap.size w0 w') := fun gl w0 h => qclassesOf_c (nb m) gl k1 _ _ w0 nbl h (fun i _ => bcl_le _ _ _) hk1
  have C6 : Hid (∀ gl w0, Cel w0 gl (blP (nb m) (bcl m (bitAt xs)) (bof m (bitAt xs)) (nb m)) 59 → GV w0 → Calls Tryd.prog 22 #[.slice (some ⟨gl, 0, none⟩) (nb m) (nb m), .int .i64 (bat m (bitAt xs) (nb m) : Nat)] w0 fun e w' => ∃ g, e = .returned (.agg #[.int .i64 (bat m (bitAt xs) (nb m) : Nat), .slice (some ⟨g, 0, none⟩) k2 k2]) ∧ w0.heap.size ≤ g ∧ Own w' g (rO m (bitAt xs)) ∧ Below w0.heap.size w0 w') := by
    intro gl w0 h hG
    have := qoffsetsOf_c (nb m) gl (bat m (bitAt xs) (nb m)) k2 _ _ (bat m (bitAt xs)) (fun j => (bofP m (bitAt xs) (nb m)).getD j false) w0 nbl h (fun i _ => bcl_le _ _ _) rfl (fun i _ => rfl) (fun i hi => by
      have := mono_bat m (bitAt xs) (nb m - (i + 1)) (i + 1)
      rwa [show i + 1 + (nb m - (i + 1)) = nb m by omega] at this) rfl (by omega) (fun i _ => bof_fit m (bitAt xs) i) (fun i hi t ht => by
      have g := bofP_get m (bitAt xs) (nb m) i t hi ht
      show _ = (bofP m (bitAt xs) (nb m)).getD (bat m (bitAt xs) i + t) false
      rw [List.getD_eq_getElem?_getD, g]
      rfl) hk2 hG
    rw [← fr_off m (bitAt xs)] at this
    exact this
  have MG1 : Hid (∀ j, j < gN m → (mkP (gN m) (bon m (bitAt xs)) (bat m (bitAt xs)) (nb m))[j * 2]? = some (.int .i64 (bon m (bitAt xs) (8 * j) : Nat))) := by
    intro j hj
    rw [mkP_fst _ _ _ _ _ hj]
    by_cases c : j = 0
    · subst c; by_cases d : 8 * 0 < nb m <;> simp [d] <;> rfl
    · rw [if_pos (gN_in m j hj c)]
  have MG2 : Hid (∀ j, j < gN m → (mkP (gN m) (bon m (bitAt xs)) (bat m (bitAt xs)) (nb m))[j * 2 + 1]? = some (.int .i64 (bat m (bitAt xs) (8 * j) : Nat))) := by
    intro j hj
    rw [mkP_snd _ _ _ _ _ hj]
    by_cases c : j = 0
    · subst c; by_cases d : 8 * 0 < nb m <;> simp [d] <;> rfl
    · rw [if_pos (gN_in m j hj c)]
  have gl8 : gN m ≤ 8739 := by unfold gN; omega
  have HK1 := hide hk1
  have HK2 := hide hk2
  clear hx hf hk hk1 hk2
  go_enter Tryd.func8, Tryd.ntmps8
  go_wp2_with fail
  rw [← hW]
  refine (C1.out _ bW).mono ?_
  rintro e w1 ⟨rfl, hb⟩
  have bw1 := bW.trans (hb.mono bW.size)
  have z1 := hb.size
  replace B1 := B1.kept hb
  replace B2 := B2.kept hb
  have r0 := B1.cell 0 rfl
  have r1 := B1.cell 1 rfl
  clear hb C1 hW bW
  go_wp2_with fail
  refine (C2.out _ bw1).mono ?_
  rintro e w2 ⟨gl, rfl, hl, hgl, hb⟩
  have bw2 := bw1.trans (hb.mono bw1.size)
  have z2 := hb.size
  replace B1 := B1.kept hb
  replace B2 := B2.kept hb
  have lgl := hl.lt
  clear hb C2 bw1 r0 r1
  go_wp2_with fail
  refine (C4.out gl _ hl (G.kept bw2)).mono ?_
  rintro e w6 ⟨gm, rfl, hmk, hgm, hb⟩
  have bw6 := bw2.trans (hb.mono bw2.size)
  have z6 := hb.size
  replace B1 := B1.kept hb
  replace B2 := B2.kept hb
  have B4 : GV w6 := G.kept bw6
  replace hl := hl.kept hb
  have lgm := hmk.lt
  clear hb C4 bw2 G
  go_wp2
  have hb7 := below_alloc w6 (.cells #[.int .i64 (bon m (bitAt xs) (nb m) : Nat), .int .i64 (bat m (bitAt xs) (nb m) : Nat)] 52)
  have B5 := Cel.new w6 [.int .i64 (bon m (bitAt xs) (nb m) : Nat), .int .i64 (bat m (bitAt xs) (nb m) : Nat)] 52
  replace B1 := B1.kept hb7
  replace B2 := B2.kept hb7
  replace B4 := B4.kept hb7
  replace hl := hl.kept hb7
  replace hmk := hmk.kept hb7
  have bw7 := bw6.trans (hb7.mono bw6.size)
  have z7 := hb7.size
  clear hb7 bw6
  generalize hV7 : w6.alloc (.cells #[.int .i64 (bon m (bitAt xs) (nb m) : Nat), .int .i64 (bat m (bitAt xs) (nb m) : Nat)] 52) = V7 at *
  refine region_g [10] (fun w' => Cel w' w.heap.size [.int .i64 (m : Int), .slice ao xs.length cap] 24 ∧ GV w' ∧ Cel w' w6.heap.size [.int .i64 (bon m (bitAt xs) (nb m) : Nat), .int .i64 (bat m (bitAt xs) (nb m) : Nat)] 52) (by kernel_rfl) ?_
  have hS : Cel V7.drew w.heap.size [.int .i64 (m : Int), .slice ao xs.length cap] 24 ∧ GV V7.drew ∧ Cel V7.drew w6.heap.size [.int .i64 (bon m (bitAt xs) (nb m) : Nat), .int .i64 (bat m (bitAt xs) (nb m) : Nat)] 52 := ⟨B1, B4.kept ((Below.refl _ _).drew), B5⟩
  replace B2 : Cel V7.drew (w.heap.size + 1) [.int .i64 0, .int .i64 0, .int .i64 0, .int .i64 0, .slice none 0 0, .int .i64 0, .slice none 0 0, .slice none 0 0, .slice none 0 0] 31 := B2
  replace hl : Cel V7.drew gl (blP (nb m) (bcl m (bitAt xs)) (bof m (bitAt xs)) (nb m)) 59 := hl
  replace hmk : Cel V7.drew gm (mkP (gN m) (bon m (bitAt xs)) (bat m (bitAt xs)) (nb m)) 52 := hmk
  replace bw7 : Below w.heap.size w V7.drew := bw7.drew
  have z8 : w6.heap.size < V7.drew.heap.size := B5.lt
  generalize V7.drew = Y at *
  clear B1 B4 B5 hV7
  refine AnyG.take 0 (v := ?vv1) rfl (by kernel_rfl) (by kernel_rfl) (by kernel_rfl) (by kernel_rfl) (fun _ _ _ h => h) hS ?hy1 (by rfl) ?rest1
  case hy1 =>
    intro w0 h0
    go_simp
    try with_reducible rfl
  simp only [Act.put, List.getElem_toArray, List.getElem_cons_zero, List.getElem_cons_succ, List.setIfInBounds_toArray, List.set_cons_zero, List.set_cons_succ]
  refine AnyG.take 1 (v := ?vv2) rfl (by kernel_rfl) (by kernel_rfl) (by kernel_rfl) (by kernel_rfl) (fun _ _ _ h => h) hS ?hy2 (by rfl) ?rest2
  case hy2 =>
    intro w0 h0
    have c0 := h0.1.cell 0 rfl
    go_simp
    try with_reducible rfl
  simp only [Act.put, List.getElem_toArray, List.getElem_cons_zero, List.getElem_cons_succ, List.setIfInBounds_toArray, List.set_cons_zero, List.set_cons_succ]
  refine AnyG.take 2 (v := ?vv3) rfl (by kernel_rfl) (by kernel_rfl) (by kernel_rfl) (by kernel_rfl) (fun _ _ _ h => h) hS ?hy3 (by rfl) ?rest3
  case hy3 =>
    intro w0 h0
    go_simp
    try with_reducible rfl
  simp only [Act.put, List.getElem_toArray, List.getElem_cons_zero, List.getElem_cons_succ, List.setIfInBounds_toArray, List.set_cons_zero, List.set_cons_succ]
  refine AnyG.take 4 (v := ?vv4) rfl (by kernel_rfl) (by kernel_rfl) (by kernel_rfl) (by kernel_rfl) (fun _ _ _ h => h) hS ?hy4 (by rfl) ?rest4
  case hy4 =>
    intro w0 h0
    go_simp
    try with_reducible rfl
  simp only [Act.put, List.getElem_toArray, List.getElem_cons_zero, List.getElem_cons_succ, List.setIfInBounds_toArray, List.set_cons_zero, List.set_cons_succ]
  refine AnyG.take 5 (v := ?vv5) rfl (by kernel_rfl) (by kernel_rfl) (by kernel_rfl) (by kernel_rfl) (fun _ _ _ h => h) hS ?hy5 (by rfl) ?rest5
  case hy5 =>
    intro w0 h0
    go_simp
    try with_reducible rfl
  simp only [Act.put, List.getElem_toArray, List.getElem_cons_zero, List.getElem_cons_succ, List.setIfInBounds_toArray, List.set_cons_zero, List.set_cons_succ]
  refine AnyG.take 6 (v := ?vv6) rfl (by kernel_rfl) (by kernel_rfl) (by kernel_rfl) (by kernel_rfl) (fun _ _ _ h => h) hS ?hy6 (by rfl) ?rest6
  case hy6 =>
    intro w0 h0
    have c0 := h0.2.2.cell 1 rfl
    go_simp
    try with_reducible rfl
  simp only [Act.put, List.getElem_toArray, List.getElem_cons_zero, List.getElem_cons_succ, List.setIfInBounds_toArray, List.set_cons_zero, List.set_cons_succ]
  refine AnyG.two 3 9 (by kernel_rfl) rfl rfl ?_ ?_
  · intro K hK
    go_simp
    refine (C5.out gl _ hl).mono ?_
    rintro e wA ⟨g1, rfl, hg1, hO1, hb⟩
    have zA := hb.size
    have lO1 := hO1.lt
    replace hS := And.intro (hS.1.kept hb) (And.intro (hS.2.1.kept hb) (hS.2.2.kept hb))
    replace B2 := B2.kept hb
    replace hl := hl.kept hb
    replace hmk := hmk.kept hb
    replace bw7 := bw7.trans (hb.mono bw7.size)
    clear hb
    refine hK.out _ _ (fun _ => hS) ?_
    clear hK K
    try simp only [Act.put, List.getElem_toArray, List.getElem_cons_zero, List.getElem_cons_succ, List.setIfInBounds_toArray, List.set_cons_zero, List.set_cons_succ]
    refine AnyG.two 7 9 (by kernel_rfl) rfl rfl ?_ ?_
    · intro K hK
      go_simp
      refine (C6.out gl _ hl hS.2.1).mono ?_
      rintro e wB ⟨g2, rfl, hg2, hO2, hb⟩
      have zB := hb.size
      have lO2 := hO2.lt
      replace hS := And.intro (hS.1.kept hb) (And.intro (hS.2.1.kept hb) (hS.2.2.kept hb))
      replace B2 := B2.kept hb
      replace hl := hl.kept hb
      replace hmk := hmk.kept hb
      replace bw7 := bw7.trans (hb.mono bw7.size)
      replace hO1 := hO1.keep hb
      clear hb
      refine hK.out _ _ (fun _ => hS) ?_
      clear hK K
      try simp only [Act.put, List.getElem_toArray, List.getElem_cons_zero, List.getElem_cons_succ, List.setIfInBounds_toArray, List.set_cons_zero, List.set_cons_succ]
      refine AnyG.take 8 (v := ?vv301) rfl (by kernel_rfl) (by kernel_rfl) (by kernel_rfl) (by kernel_rfl) (fun _ _ _ h => h) hS ?hy301 (by rfl) ?rest301
      case hy301 =>
        intro w0 h0
        go_simp
        try with_reducible rfl
      simp only [Act.put, List.getElem_toArray, List.getElem_cons_zero, List.getElem_cons_succ, List.setIfInBounds_toArray, List.set_cons_zero, List.set_cons_succ]
      refine AnyG.one 9 (by kernel_rfl) rfl ?_
      intro K hK
      go_simp
      have hb := below_alloc wB (.cells #[.int .i64 0, .int .i64 0, .int .i64 0, .int .i64 0, .slice none 0 0, .int .i64 0, .slice none 0 0, .slice none 0 0, .slice none 0 0] 31)
      have B6 := Cel.new wB [.int .i64 0, .int .i64 0, .int .i64 0, .int .i64 0, .slice none 0 0, .int .i64 0, .slice none 0 0, .slice none 0 0, .slice none 0 0] 31
      have zX : (wB.alloc (.cells #[.int .i64 0, .int .i64 0, .int .i64 0, .int .i64 0, .slice none 0 0, .int .i64 0, .slice none 0 0, .slice none 0 0, .slice none 0 0] 31)).heap.size = wB.heap.size + 1 := by simp
      replace hS := And.intro (hS.1.kept hb) (And.intro (hS.2.1.kept hb) (hS.2.2.kept hb))
      replace B2 := B2.kept hb
      replace hl := hl.kept hb
      replace hmk := hmk.kept hb
      replace bw7 := bw7.trans (hb.mono bw7.size)
      replace hO1 := hO1.keep hb
      replace hO2 := hO2.keep hb
      obtain ⟨gx, hgx⟩ : ∃ gx, gx = wB.heap.size := ⟨_, rfl⟩
      rw [← hgx] at B6
      rw [← hgx]
      generalize wB.alloc (.cells #[.int .i64 0, .int .i64 0, .int .i64 0, .int .i64 0, .slice none 0 0, .int .i64 0, .slice none 0 0, .slice none 0 0, .slice none 0 0] 31) = wX at *
      have hgx1 : gx ≤ wB.heap.size := by omega
      have hgx2 : wB.heap.size ≤ gx := by omega
      clear hb hgx
      refine hK.out _ _ (fun _ => hS) ?_
      clear hK K
      try simp only [Act.put, List.getElem_toArray, List.getElem_cons_zero, List.getElem_cons_succ, List.setIfInBounds_toArray, List.set_cons_zero, List.set_cons_succ]
      refine AnyG.one 10 (by kernel_rfl) rfl ?_
      intro K hK
      refine step_store gx _ [.int .i64 (m : Nat), .int .i64 (nb m : Nat), .int .i64 4, .int .i64 ((nb m : Int) * 4), .slice (some ⟨g1, 0, none⟩) k1 k1, .int .i64 (bat m (bitAt xs) (nb m) : Nat), .slice (some ⟨g2, 0, none⟩) k2 k2, .slice none 0 0, .slice none 0 0] rfl rfl B6 rfl info_rrr (by simp [Value.oneCell']) ?_
      intro V B7 hO
      refine hK.out _ _ (fun h => absurd (by decide) h) ?_
      clear hK K
      try simp only [Act.put, List.getElem_toArray, List.getElem_cons_zero, List.getElem_cons_succ, List.setIfInBounds_toArray, List.set_cons_zero, List.set_cons_succ]
      refine AnyG.done (by kernel_rfl) ?_ _
      have QV0 : Hid (QV w V gx g1 g2 gm (.int .i64 (m : Nat)) (.int .i64 (nb m : Nat)) (.int .i64 4) (.int .i64 ((nb m : Int) * 4)) (.slice (some ⟨g1, 0, none⟩) k1 k1) (.int .i64 (bat m (bitAt xs) (nb m) : Nat)) (.slice (some ⟨g2, 0, none⟩) k2 k2) (rC m (bitAt xs)) (rO m (bitAt xs)) (mkP (gN m) (bon m (bitAt xs)) (bat m (bitAt xs)) (nb m))) := ⟨B7, (hO.block g1 (by omega)).trans hO1, (hO.block g2 (by omega)).trans hO2, hO.cel hmk (by omega), hO.cel B2 (by omega), bw7.trans (hO.below (base := w.heap.size) (by omega)), by omega, by omega, by omega, by omega⟩
      clear B7 hO hO1 hO2 hmk B2 bw7 hS hl B6 C5 C6
      go_wp2
      go_loopw [32] (fun t wr => ∃ (J : Nat) (so : Option Addr) (sc : Nat) (tO : Option Addr) (tc : Nat), J ≤ gN m ∧ t = .int .i64 J ∧ J ≤ sc ∧ J ≤ tc ∧ QB V wr gx (.int .i64 (m : Nat)) (.int .i64 (nb m : Nat)) (.int .i64 4) (.int .i64 ((nb m : Int) * 4)) (.slice (some ⟨g1, 0, none⟩) k1 k1) (.int .i64 (bat m (bitAt xs) (nb m) : Nat)) (.slice (some ⟨g2, 0, none⟩) k2 k2) (.slice so J sc) (.slice tO J tc) J J m (bitAt xs)) (fun t _ => gN m - (intOf t).toNat)
      case atStart => exact ⟨0, none, 0, none, 0, Nat.zero_le _, rfl, Nat.le_refl _, Nat.le_refl _, ⟨QV0.out.bx, QV0.out.bx.lt, Nat.le_refl _, Below.refl _ _, fun _ _ _ => rfl, World.ownsRow_nil _ _ _ _, World.ownsRow_nil _ _ _ _, Ap.apart_nil _⟩⟩
      case round =>
        obtain ⟨J, so, sc, tO, tc, hJ, rfl, hsc, htc, HQ⟩ := hrel
        by_cases hlt : J < gN m
        · have hlt2 : (J : Int) < (gN m : Int) := by omega
          have mkc : Cel wr gm _ 52 := (HQ.same gm QV0.out.mks.lt QV0.out.n3).trans QV0.out.mks
          have x0 := mkc.cell (J * 2) (MG1.out J hlt)
          have x1 := mkc.cell (J * 2 + 1) (MG2.out J hlt)
          have SU1 := hide (onL_succ m (bitAt xs) J)
          have SU2 := hide (ptL_succ m (bitAt xs) J)
          generalize bon m (bitAt xs) (8 * J) = Zs at *
          generalize bat m (bitAt xs) (8 * J) = Zp at *
          have lmk := mkc.lt
          have y7 := HQ.bx.cell 7 rfl
          have lx := HQ.bx.lt
          have szr := HQ.sz
          have hown1 : ∀ k, (Value.slice so J sc).ownBlock = some k → k < wr.heap.size := fun k hk => (HQ.o1.lt k hk).2
          clear mkc
          go_wp2_with (at_builtin; refine Ap.wpList_append_x (by rfl) _ _ _ (by rfl) V.heap.size 3 i0 (.int .i64 0) 8 Tryd.underlying29 hi hz0 hz1 hz2 rfl (.slice so J sc) J (iv8 (onL m (bitAt xs) J)) (by rfl) ((HQ.o1.alloc _).alloc _) (some ⟨wr.heap.size + 1, 0, none⟩) 1 1 [.int .i64 (Zs : Nat)] (by rfl) rfl ?c1_301 ?c2_301 ?c3_301 ?c4_301 ?c5_301 ?_)
          case c1_301 => exact fun _ => ⟨_, rfl, fun j u hj => by
            match j, hj with
            | 0, hj => simp at hj; subst hj; simp [Addr.add]⟩
          case c2_301 => intro u hu; simp at hu; subst hu; rfl
          case c3_301 => unfold maxLen; omega
          case c4_301 => omega
          case c5_301 => simp; omega
          intro so2 sc2 w9 own9 hle9 hB9 hblk9 hkeep9 hsz9
          rw [SU1.out] at own9
          have HPa := (HQ.keep (below_alloc wr (.cells #[.int .i64 (Zs : Nat), .int .i64 (Zp : Nat)] 52))).keep (below_alloc _ (.cells #[.int .i64 (Zs : Nat)] 3))
          have esz : ((wr.alloc (.cells #[.int .i64 (Zs : Nat), .int .i64 (Zp : Nat)] 52)).alloc (.cells #[.int .i64 (Zs : Nat)] 3)).heap.size = wr.heap.size + 1 + 1 := by simp
          have mbA : Cel ((wr.alloc (.cells #[.int .i64 (Zs : Nat), .int .i64 (Zp : Nat)] 52)).alloc (.cells #[.int .i64 (Zs : Nat)] 3)) wr.heap.size [.int .i64 (Zs : Nat), .int .i64 (Zp : Nat)] 52 := (Cel.new wr _ _).alloc _
          rw [← esz] at hblk9 hkeep9
          have HP9 := HPa.one own9 hB9 hblk9 hkeep9
          have hC9 : Cel w9 wr.heap.size [.int .i64 (Zs : Nat), .int .i64 (Zp : Nat)] 52 := (hkeep9 wr.heap.size (by omega) (fun e => by have := hown1 _ e; omega)).trans mbA
          have x7 := (HPa.bx.keep hB9 HQ.lt).cell 7 rfl
          have f7 := (HPa.bx.keep hB9 HQ.lt).frozen 7
          have x8 := (HPa.bx.keep hB9 HQ.lt).cell 8 rfl
          have mb1 := hC9.cell 1 rfl
          have lx9 := (HPa.bx.keep hB9 HQ.lt).lt
          have lm9 := hC9.lt
          have sz9 := HP9.sz
          simp only [size_set] at sz9
          have ngx : gx ≠ wr.heap.size := by omega
          clear own9 hB9 hblk9 hkeep9 HPa mbA hown1 x0 x1 y7 esz
          go_wp2_with (at_builtin; refine Ap.wpList_append_x (by rfl) _ _ _ (by rfl) V.heap.size 3 i0 (.int .i64 0) 8 Tryd.underlying29 hi hz0 hz1 hz2 rfl (.slice tO J tc) J (iv8 (ptL m (bitAt xs) J)) (by rfl) (HP9.o2.alloc _) (some ⟨w9.heap.size, 0, none⟩) 1 1 [.int .i64 (Zp : Nat)] (by rfl) rfl ?d1_301 ?d2_301 ?d3_301 ?d4_301 ?d5_301 ?_)
          case d1_301 =>
            have q := (Cel.new (w9.setCell ⟨gx, 7, none⟩ (.slice so2 (J + 1) sc2)) [.int .i64 (Zp : Nat)] 3).cell 0 rfl
            rw [size_set] at q
            exact fun _ => ⟨_, rfl, fun j u hj => by
              match j, hj with
              | 0, hj => simp at hj; subst hj; simp [Addr.add]; exact q⟩
          case d2_301 => intro u hu; simp at hu; subst hu; rfl
          case d3_301 => unfold maxLen; omega
          case d4_301 => omega
          case d5_301 => simp; omega
          intro tO2 tc2 w10 own10 hle10 hB10 hblk10 hkeep10 hsz10
          rw [SU2.out] at own10
          have HPb := HP9.keep (below_alloc _ (.cells #[.int .i64 (Zp : Nat)] 3))
          have esz2 : ((w9.setCell ⟨gx, 7, none⟩ (.slice so2 (J + 1) sc2)).alloc (.cells #[.int .i64 (Zp : Nat)] 3)).heap.size = w9.heap.size + 1 := by simp [size_set]
          rw [← esz2] at hblk10 hkeep10
          have HP10 := HPb.two own10 hB10 hblk10 hkeep10
          have x8b := (HPb.bx.keep hB10 HQ.lt).cell 8 rfl
          have f8b := (HPb.bx.keep hB10 HQ.lt).frozen 8
          have HPH := hide HP10
          clear own10 hB10 hblk10 hkeep10 HPb esz2 HP9 HP10 x7 x8 f7 mb1 hC9 HQ
          go_wp2
          exact ⟨⟨J + 1, so2, sc2, tO2, tc2, by omega, by go_num, hle9, hle10, HPH.out⟩, by simp only [intOf]; omega⟩
        · obtain hJe : J = gN m := by omega
          have zc : Cel wr (w.heap.size + 1) [.int .i64 0, .int .i64 0, .int .i64 0, .int .i64 0, .slice none 0 0, .int .i64 0, .slice none 0 0, .slice none 0 0, .slice none 0 0] 31 := (HQ.same (w.heap.size + 1) (by have := QV0.out.z.lt; exact this) (by have := QV0.out.n4; omega)).trans QV0.out.z
          have d1 : Own wr g1 (rC m (bitAt xs)) := (HQ.same g1 QV0.out.o1.lt QV0.out.n1).trans QV0.out.o1
          have d2 : Own wr g2 (rO m (bitAt xs)) := (HQ.same g2 QV0.out.o2.lt QV0.out.n2).trans QV0.out.o2
          have bwr : Below w.heap.size w wr := QV0.out.hb.trans (HQ.hb.mono (by have := QV0.out.n4; omega))
          have hgV : w.heap.size + 1 < V.heap.size := QV0.out.z.lt
          have e1 : g1 ≠ w.heap.size + 1 := by omega
          have e2 : g2 ≠ w.heap.size + 1 := by omega
          have HH := hide (And.intro HQ (And.intro d1 (And.intro d2 bwr)))
          clear d1 d2 bwr QV0
          go_wp2_with (first | refine load_cel gx _ rfl HQ.bx Tryd.underlying31 info_rrr ?_ | refine store_cel (w.heap.size + 1) _ _ rfl rfl zc rfl info_rrr (by simp [Value.oneCell']) ?_)
          intro w20 C20 hO20
          obtain ⟨HQ2, d1, d2, bwr⟩ := HH.out
          have HF := hide (show Wd w20 (some ⟨g1, 0, none⟩) (rC m (bitAt xs)) ∧ Wd w20 (some ⟨g2, 0, none⟩) (rO m (bitAt xs)) ∧ Nd w20 so (onL m (bitAt xs) J) ∧ Nd w20 tO (ptL m (bitAt xs) J) ∧ Below w.heap.size w w20 from ⟨Own.wd ((hO20.block g1 e1).trans d1), Own.wd ((hO20.block g2 e2).trans d2), nd_own8 (hO20.owns HQ2.o1 hgV), nd_own8 (hO20.owns HQ2.o2 hgV), bwr.trans (hO20.below (by omega))⟩)
          have HC20 := hide C20
          clear HQ HQ2 d1 d2 bwr hO20 HH zc C20
          go_wp2
          (try simp only [Exit.inBlock, Exit.then])
          obtain ⟨p1, p2, p3, p4, p5⟩ := HF.out
          rw [hJe] at p3 p4 hsc htc
          have HC21 := HC20.out
          rw [hJe] at HC21
          exact bodyPost_ret (result_cel rfl (w.heap.size + 1) _ rfl HC21 Tryd.underlying31 info_rrr) rfl ⟨g1, k1, g2, k2, so, sc, tO, tc, rfl, HK1.out, HK2.out, p1, p2, p3, p4, hsc, htc, p5⟩
    · intro K hK
      go_simp
      have hb := below_alloc wA (.cells #[.int .i64 0, .int .i64 0, .int .i64 0, .int .i64 0, .slice none 0 0, .int .i64 0, .slice none 0 0, .slice none 0 0, .slice none 0 0] 31)
      have B6 := Cel.new wA [.int .i64 0, .int .i64 0, .int .i64 0, .int .i64 0, .slice none 0 0, .int .i64 0, .slice none 0 0, .slice none 0 0, .slice none 0 0] 31
      have zX : (wA.alloc (.cells #[.int .i64 0, .int .i64 0, .int .i64 0, .int .i64 0, .slice none 0 0, .int .i64 0, .slice none 0 0, .slice none 0 0, .slice none 0 0] 31)).heap.size = wA.heap.size + 1 := by simp
      replace hS := And.intro (hS.1.kept hb) (And.intro (hS.2.1.kept hb) (hS.2.2.kept hb))
      replace B2 := B2.kept hb
      replace hl := hl.kept hb
      replace hmk := hmk.kept hb
      replace bw7 := bw7.trans (hb.mono bw7.size)
      replace hO1 := hO1.keep hb
      obtain ⟨gx, hgx⟩ : ∃ gx, gx = wA.heap.size := ⟨_, rfl⟩
      rw [← hgx] at B6
      rw [← hgx]
      generalize wA.alloc (.cells #[.int .i64 0, .int .i64 0, .int .i64 0, .int .i64 0, .slice none 0 0, .int .i64 0, .slice none 0 0, .slice none 0 0, .slice none 0 0] 31) = wX at *
      have hgx1 : gx ≤ wA.heap.size := by omega
      have hgx2 : wA.heap.size ≤ gx := by omega
      clear hb hgx
      refine hK.out _ _ (fun _ => hS) ?_
      clear hK K
      try simp only [Act.put, List.getElem_toArray, List.getElem_cons_zero, List.getElem_cons_succ, List.setIfInBounds_toArray, List.set_cons_zero, List.set_cons_succ]
      refine AnyG.one 7 (by kernel_rfl) rfl ?_
      intro K hK
      go_simp
      refine (C6.out gl _ hl hS.2.1).mono ?_
      rintro e wB ⟨g2, rfl, hg2, hO2, hb⟩
      have zB := hb.size
      have lO2 := hO2.lt
      replace hS := And.intro (hS.1.kept hb) (And.intro (hS.2.1.kept hb) (hS.2.2.kept hb))
      replace B2 := B2.kept hb
      replace hl := hl.kept hb
      replace hmk := hmk.kept hb
      replace bw7 := bw7.trans (hb.mono bw7.size)
      replace hO1 := hO1.keep hb
      replace B6 := B6.kept hb
      clear hb
      refine hK.out _ _ (fun _ => hS) ?_
      clear hK K
      try simp only [Act.put, List.getElem_toArray, List.getElem_cons_zero, List.getElem_cons_succ, List.setIfInBounds_toArray, List.set_cons_zero, List.set_cons_succ]
      refine AnyG.take 8 (v := ?vv401) rfl (by kernel_rfl) (by kernel_rfl) (by kernel_rfl) (by kernel_rfl) (fun _ _ _ h => h) hS ?hy401 (by rfl) ?rest401
      case hy401 =>
        intro w0 h0
        go_simp
        try with_reducible rfl
      simp only [Act.put, List.getElem_toArray, List.getElem_cons_zero, List.getElem_cons_succ, List.setIfInBounds_toArray, List.set_cons_zero, List.set_cons_succ]
      refine AnyG.one 10 (by kernel_rfl) rfl ?_
      intro K hK
      refine step_store gx _ [.int .i64 (m : Nat), .int .i64 (nb m : Nat), .int .i64 4, .int .i64 ((nb m : Int) * 4), .slice (some ⟨g1, 0, none⟩) k1 k1, .int .i64 (bat m (bitAt xs) (nb m) : Nat), .slice (some ⟨g2, 0, none⟩) k2 k2, .slice none 0 0, .slice none 0 0] rfl rfl B6 rfl info_rrr (by simp [Value.oneCell']) ?_
      intro V B7 hO
      refine hK.out _ _ (fun h => absurd (by decide) h) ?_
      clear hK K
      try simp only [Act.put, List.getElem_toArray, List.getElem_cons_zero, List.getElem_cons_succ, List.setIfInBounds_toArray, List.set_cons_zero, List.set_cons_succ]
      refine AnyG.done (by kernel_rfl) ?_ _
      have QV0 : Hid (QV w V gx g1 g2 gm (.int .i64 (m : Nat)) (.int .i64 (nb m : Nat)) (.int .i64 4) (.int .i64 ((nb m : Int) * 4)) (.slice (some ⟨g1, 0, none⟩) k1 k1) (.int .i64 (bat m (bitAt xs) (nb m) : Nat)) (.slice (some ⟨g2, 0, none⟩) k2 k2) (rC m (bitAt xs)) (rO m (bitAt xs)) (mkP (gN m) (bon m (bitAt xs)) (bat m (bitAt xs)) (nb m))) := ⟨B7, (hO.block g1 (by omega)).trans hO1, (hO.block g2 (by omega)).trans hO2, hO.cel hmk (by omega), hO.cel B2 (by omega), bw7.trans (hO.below (base := w.heap.size) (by omega)), by omega, by omega, by omega, by omega⟩
      clear B7 hO hO1 hO2 hmk B2 bw7 hS hl B6 C5 C6
      go_wp2
      go_loopw [32] (fun t wr => ∃ (J : Nat) (so : Option Addr) (sc : Nat) (tO : Option Addr) (tc : Nat), J ≤ gN m ∧ t = .int .i64 J ∧ J ≤ sc ∧ J ≤ tc ∧ QB V wr gx (.int .i64 (m : Nat)) (.int .i64 (nb m : Nat)) (.int .i64 4) (.int .i64 ((nb m : Int) * 4)) (.slice (some ⟨g1, 0, none⟩) k1 k1) (.int .i64 (bat m (bitAt xs) (nb m) : Nat)) (.slice (some ⟨g2, 0, none⟩) k2 k2) (.slice so J sc) (.slice tO J tc) J J m (bitAt xs)) (fun t _ => gN m - (intOf t).toNat)
      case atStart => exact ⟨0, none, 0, none, 0, Nat.zero_le _, rfl, Nat.le_refl _, Nat.le_refl _, ⟨QV0.out.bx, QV0.out.bx.lt, Nat.le_refl _, Below.refl _ _, fun _ _ _ => rfl, World.ownsRow_nil _ _ _ _, World.ownsRow_nil _ _ _ _, Ap.apart_nil _⟩⟩
      case round =>
        obtain ⟨J, so, sc, tO, tc, hJ, rfl, hsc, htc, HQ⟩ := hrel
        by_cases hlt : J < gN m
        · have hlt2 : (J : Int) < (gN m : Int) := by omega
          have mkc : Cel wr gm _ 52 := (HQ.same gm QV0.out.mks.lt QV0.out.n3).trans QV0.out.mks
          have x0 := mkc.cell (J * 2) (MG1.out J hlt)
          have x1 := mkc.cell (J * 2 + 1) (MG2.out J hlt)
          have SU1 := hide (onL_succ m (bitAt xs) J)
          have SU2 := hide (ptL_succ m (bitAt xs) J)
          generalize bon m (bitAt xs) (8 * J) = Zs at *
          generalize bat m (bitAt xs) (8 * J) = Zp at *
          have lmk := mkc.lt
          have y7 := HQ.bx.cell 7 rfl
          have lx := HQ.bx.lt
          have szr := HQ.sz
          have hown1 : ∀ k, (Value.slice so J sc).ownBlock = some k → k < wr.heap.size := fun k hk => (HQ.o1.lt k hk).2
          clear mkc
          go_wp2_with (at_builtin; refine Ap.wpList_append_x (by rfl) _ _ _ (by rfl) V.heap.size 3 i0 (.int .i64 0) 8 Tryd.underlying29 hi hz0 hz1 hz2 rfl (.slice so J sc) J (iv8 (onL m (bitAt xs) J)) (by rfl) ((HQ.o1.alloc _).alloc _) (some ⟨wr.heap.size + 1, 0, none⟩) 1 1 [.int .i64 (Zs : Nat)] (by rfl) rfl ?c1_401 ?c2_401 ?c3_401 ?c4_401 ?c5_401 ?_)
          case c1_401 => exact fun _ => ⟨_, rfl, fun j u hj => by
            match j, hj with
            | 0, hj => simp at hj; subst hj; simp [Addr.add]⟩
          case c2_401 => intro u hu; simp at hu; subst hu; rfl
          case c3_401 => unfold maxLen; omega
          case c4_401 => omega
          case c5_401 => simp; omega
          intro so2 sc2 w9 own9 hle9 hB9 hblk9 hkeep9 hsz9
          rw [SU1.out] at own9
          have HPa := (HQ.keep (below_alloc wr (.cells #[.int .i64 (Zs : Nat), .int .i64 (Zp : Nat)] 52))).keep (below_alloc _ (.cells #[.int .i64 (Zs : Nat)] 3))
          have esz : ((wr.alloc (.cells #[.int .i64 (Zs : Nat), .int .i64 (Zp : Nat)] 52)).alloc (.cells #[.int .i64 (Zs : Nat)] 3)).heap.size = wr.heap.size + 1 + 1 := by simp
          have mbA : Cel ((wr.alloc (.cells #[.int .i64 (Zs : Nat), .int .i64 (Zp : Nat)] 52)).alloc (.cells #[.int .i64 (Zs : Nat)] 3)) wr.heap.size [.int .i64 (Zs : Nat), .int .i64 (Zp : Nat)] 52 := (Cel.new wr _ _).alloc _
          rw [← esz] at hblk9 hkeep9
          have HP9 := HPa.one own9 hB9 hblk9 hkeep9
          have hC9 : Cel w9 wr.heap.size [.int .i64 (Zs : Nat), .int .i64 (Zp : Nat)] 52 := (hkeep9 wr.heap.size (by omega) (fun e => by have := hown1 _ e; omega)).trans mbA
          have x7 := (HPa.bx.keep hB9 HQ.lt).cell 7 rfl
          have f7 := (HPa.bx.keep hB9 HQ.lt).frozen 7
          have x8 := (HPa.bx.keep hB9 HQ.lt).cell 8 rfl
          have mb1 := hC9.cell 1 rfl
          have lx9 := (HPa.bx.keep hB9 HQ.lt).lt
          have lm9 := hC9.lt
          have sz9 := HP9.sz
          simp only [size_set] at sz9
          have ngx : gx ≠ wr.heap.size := by omega
          clear own9 hB9 hblk9 hkeep9 HPa mbA hown1 x0 x1 y7 esz
          go_wp2_with (at_builtin; refine Ap.wpList_append_x (by rfl) _ _ _ (by rfl) V.heap.size 3 i0 (.int .i64 0) 8 Tryd.underlying29 hi hz0 hz1 hz2 rfl (.slice tO J tc) J (iv8 (ptL m (bitAt xs) J)) (by rfl) (HP9.o2.alloc _) (some ⟨w9.heap.size, 0, none⟩) 1 1 [.int .i64 (Zp : Nat)] (by rfl) rfl ?d1_401 ?d2_401 ?d3_401 ?d4_401 ?d5_401 ?_)
          case d1_401 =>
            have q := (Cel.new (w9.setCell ⟨gx, 7, none⟩ (.slice so2 (J + 1) sc2)) [.int .i64 (Zp : Nat)] 3).cell 0 rfl
            rw [size_set] at q
            exact fun _ => ⟨_, rfl, fun j u hj => by
              match j, hj with
              | 0, hj => simp at hj; subst hj; simp [Addr.add]; exact q⟩
          case d2_401 => intro u hu; simp at hu; subst hu; rfl
          case d3_401 => unfold maxLen; omega
          case d4_401 => omega
          case d5_401 => simp; omega
          intro tO2 tc2 w10 own10 hle10 hB10 hblk10 hkeep10 hsz10
          rw [SU2.out] at own10
          have HPb := HP9.keep (below_alloc _ (.cells #[.int .i64 (Zp : Nat)] 3))
          have esz2 : ((w9.setCell ⟨gx, 7, none⟩ (.slice so2 (J + 1) sc2)).alloc (.cells #[.int .i64 (Zp : Nat)] 3)).heap.size = w9.heap.size + 1 := by simp [size_set]
          rw [← esz2] at hblk10 hkeep10
          have HP10 := HPb.two own10 hB10 hblk10 hkeep10
          have x8b := (HPb.bx.keep hB10 HQ.lt).cell 8 rfl
          have f8b := (HPb.bx.keep hB10 HQ.lt).frozen 8
          have HPH := hide HP10
          clear own10 hB10 hblk10 hkeep10 HPb esz2 HP9 HP10 x7 x8 f7 mb1 hC9 HQ
          go_wp2
          exact ⟨⟨J + 1, so2, sc2, tO2, tc2, by omega, by go_num, hle9, hle10, HPH.out⟩, by simp only [intOf]; omega⟩
        · obtain hJe : J = gN m := by omega
          have zc : Cel wr (w.heap.size + 1) [.int .i64 0, .int .i64 0, .int .i64 0, .int .i64 0, .slice none 0 0, .int .i64 0, .slice none 0 0, .slice none 0 0, .slice none 0 0] 31 := (HQ.same (w.heap.size + 1) (by have := QV0.out.z.lt; exact this) (by have := QV0.out.n4; omega)).trans QV0.out.z
          have d1 : Own wr g1 (rC m (bitAt xs)) := (HQ.same g1 QV0.out.o1.lt QV0.out.n1).trans QV0.out.o1
          have d2 : Own wr g2 (rO m (bitAt xs)) := (HQ.same g2 QV0.out.o2.lt QV0.out.n2).trans QV0.out.o2
          have bwr : Below w.heap.size w wr := QV0.out.hb.trans (HQ.hb.mono (by have := QV0.out.n4; omega))
          have hgV : w.heap.size + 1 < V.heap.size := QV0.out.z.lt
          have e1 : g1 ≠ w.heap.size + 1 := by omega
          have e2 : g2 ≠ w.heap.size + 1 := by omega
          have HH := hide (And.intro HQ (And.intro d1 (And.intro d2 bwr)))
          clear d1 d2 bwr QV0
          go_wp2_with (first | refine load_cel gx _ rfl HQ.bx Tryd.underlying31 info_rrr ?_ | refine store_cel (w.heap.size + 1) _ _ rfl rfl zc rfl info_rrr (by simp [Value.oneCell']) ?_)
          intro w20 C20 hO20
          obtain ⟨HQ2, d1, d2, bwr⟩ := HH.out
          have HF := hide (show Wd w20 (some ⟨g1, 0, none⟩) (rC m (bitAt xs)) ∧ Wd w20 (some ⟨g2, 0, none⟩) (rO m (bitAt xs)) ∧ Nd w20 so (onL m (bitAt xs) J) ∧ Nd w20 tO (ptL m (bitAt xs) J) ∧ Below w.heap.size w w20 from ⟨Own.wd ((hO20.block g1 e1).trans d1), Own.wd ((hO20.block g2 e2).trans d2), nd_own8 (hO20.owns HQ2.o1 hgV), nd_own8 (hO20.owns HQ2.o2 hgV), bwr.trans (hO20.below (by omega))⟩)
          have HC20 := hide C20
          clear HQ HQ2 d1 d2 bwr hO20 HH zc C20
          go_wp2
          (try simp only [Exit.inBlock, Exit.then])
          obtain ⟨p1, p2, p3, p4, p5⟩ := HF.out
          rw [hJe] at p3 p4 hsc htc
          have HC21 := HC20.out
          rw [hJe] at HC21
          exact bodyPost_ret (result_cel rfl (w.heap.size + 1) _ rfl HC21 Tryd.underlying31 info_rrr) rfl ⟨g1, k1, g2, k2, so, sc, tO, tc, rfl, HK1.out, HK2.out, p1, p2, p3, p4, hsc, htc, p5⟩
  · intro K hK
    go_simp
    have hb := below_alloc Y (.cells #[.int .i64 0, .int .i64 0, .int .i64 0, .int .i64 0, .slice none 0 0, .int .i64 0, .slice none 0 0, .slice none 0 0, .slice none 0 0] 31)
    have B6 := Cel.new Y [.int .i64 0, .int .i64 0, .int .i64 0, .int .i64 0, .slice none 0 0, .int .i64 0, .slice none 0 0, .slice none 0 0, .slice none 0 0] 31
    have zX : (Y.alloc (.cells #[.int .i64 0, .int .i64 0, .int .i64 0, .int .i64 0, .slice none 0 0, .int .i64 0, .slice none 0 0, .slice none 0 0, .slice none 0 0] 31)).heap.size = Y.heap.size + 1 := by simp
    replace hS := And.intro (hS.1.kept hb) (And.intro (hS.2.1.kept hb) (hS.2.2.kept hb))
    replace B2 := B2.kept hb
    replace hl := hl.kept hb
    replace hmk := hmk.kept hb
    replace bw7 := bw7.trans (hb.mono bw7.size)
    obtain ⟨gx, hgx⟩ : ∃ gx, gx = Y.heap.size := ⟨_, rfl⟩
    rw [← hgx] at B6
    rw [← hgx]
    generalize Y.alloc (.cells #[.int .i64 0, .int .i64 0, .int .i64 0, .int .i64 0, .slice none 0 0, .int .i64 0, .slice none 0 0, .slice none 0 0, .slice none 0 0] 31) = wX at *
    have hgx1 : gx ≤ Y.heap.size := by omega
    have hgx2 : Y.heap.size ≤ gx := by omega
    clear hb hgx
    refine hK.out _ _ (fun _ => hS) ?_
    clear hK K
    try simp only [Act.put, List.getElem_toArray, List.getElem_cons_zero, List.getElem_cons_succ, List.setIfInBounds_toArray, List.set_cons_zero, List.set_cons_succ]
    refine AnyG.one 3 (by kernel_rfl) rfl ?_
    intro K hK
    go_simp
    refine (C5.out gl _ hl).mono ?_
    rintro e wA ⟨g1, rfl, hg1, hO1, hb⟩
    have zA := hb.size
    have lO1 := hO1.lt
    replace hS := And.intro (hS.1.kept hb) (And.intro (hS.2.1.kept hb) (hS.2.2.kept hb))
    replace B2 := B2.kept hb
    replace hl := hl.kept hb
    replace hmk := hmk.kept hb
    replace bw7 := bw7.trans (hb.mono bw7.size)
    replace B6 := B6.kept hb
    clear hb
    refine hK.out _ _ (fun _ => hS) ?_
    clear hK K
    try simp only [Act.put, List.getElem_toArray, List.getElem_cons_zero, List.getElem_cons_succ, List.setIfInBounds_toArray, List.set_cons_zero, List.set_cons_succ]
    refine AnyG.one 7 (by kernel_rfl) rfl ?_
    intro K hK
    go_simp
    refine (C6.out gl _ hl hS.2.1).mono ?_
    rintro e wB ⟨g2, rfl, hg2, hO2, hb⟩
    have zB := hb.size
    have lO2 := hO2.lt
    replace hS := And.intro (hS.1.kept hb) (And.intro (hS.2.1.kept hb) (hS.2.2.kept hb))
    replace B2 := B2.kept hb
    replace hl := hl.kept hb
    replace hmk := hmk.kept hb
    replace bw7 := bw7.trans (hb.mono bw7.size)
    replace hO1 := hO1.keep hb
    replace B6 := B6.kept hb
    clear hb
    refine hK.out _ _ (fun _ => hS) ?_
    clear hK K
    try simp only [Act.put, List.getElem_toArray, List.getElem_cons_zero, List.getElem_cons_succ, List.setIfInBounds_toArray, List.set_cons_zero, List.set_cons_succ]
    refine AnyG.take 8 (v := ?vv501) rfl (by kernel_rfl) (by kernel_rfl) (by kernel_rfl) (by kernel_rfl) (fun _ _ _ h => h) hS ?hy501 (by rfl) ?rest501
    case hy501 =>
      intro w0 h0
      go_simp
      try with_reducible rfl
    simp only [Act.put, List.getElem_toArray, List.getElem_cons_zero, List.getElem_cons_succ, List.setIfInBounds_toArray, List.set_cons_zero, List.set_cons_succ]
    refine AnyG.one 10 (by kernel_rfl) rfl ?_
    intro K hK
    refine step_store gx _ [.int .i64 (m : Nat), .int .i64 (nb m : Nat), .int .i64 4, .int .i64 ((nb m : Int) * 4), .slice (some ⟨g1, 0, none⟩) k1 k1, .int .i64 (bat m (bitAt xs) (nb m) : Nat), .slice (some ⟨g2, 0, none⟩) k2 k2, .slice none 0 0, .slice none 0 0] rfl rfl B6 rfl info_rrr (by simp [Value.oneCell']) ?_
    intro V B7 hO
    refine hK.out _ _ (fun h => absurd (by decide) h) ?_
    clear hK K
    try simp only [Act.put, List.getElem_toArray, List.getElem_cons_zero, List.getElem_cons_succ, List.setIfInBounds_toArray, List.set_cons_zero, List.set_cons_succ]
    refine AnyG.done (by kernel_rfl) ?_ _
    have QV0 : Hid (QV w V gx g1 g2 gm (.int .i64 (m : Nat)) (.int .i64 (nb m : Nat)) (.int .i64 4) (.int .i64 ((nb m : Int) * 4)) (.slice (some ⟨g1, 0, none⟩) k1 k1) (.int .i64 (bat m (bitAt xs) (nb m) : Nat)) (.slice (some ⟨g2, 0, none⟩) k2 k2) (rC m (bitAt xs)) (rO m (bitAt xs)) (mkP (gN m) (bon m (bitAt xs)) (bat m (bitAt xs)) (nb m))) := ⟨B7, (hO.block g1 (by omega)).trans hO1, (hO.block g2 (by omega)).trans hO2, hO.cel hmk (by omega), hO.cel B2 (by omega), bw7.trans (hO.below (base := w.heap.size) (by omega)), by omega, by omega, by omega, by omega⟩
    clear B7 hO hO1 hO2 hmk B2 bw7 hS hl B6 C5 C6
    go_wp2
    go_loopw [32] (fun t wr => ∃ (J : Nat) (so : Option Addr) (sc : Nat) (tO : Option Addr) (tc : Nat), J ≤ gN m ∧ t = .int .i64 J ∧ J ≤ sc ∧ J ≤ tc ∧ QB V wr gx (.int .i64 (m : Nat)) (.int .i64 (nb m : Nat)) (.int .i64 4) (.int .i64 ((nb m : Int) * 4)) (.slice (some ⟨g1, 0, none⟩) k1 k1) (.int .i64 (bat m (bitAt xs) (nb m) : Nat)) (.slice (some ⟨g2, 0, none⟩) k2 k2) (.slice so J sc) (.slice tO J tc) J J m (bitAt xs)) (fun t _ => gN m - (intOf t).toNat)
    case atStart => exact ⟨0, none, 0, none, 0, Nat.zero_le _, rfl, Nat.le_refl _, Nat.le_refl _, ⟨QV0.out.bx, QV0.out.bx.lt, Nat.le_refl _, Below.refl _ _, fun _ _ _ => rfl, World.ownsRow_nil _ _ _ _, World.ownsRow_nil _ _ _ _, Ap.apart_nil _⟩⟩
    case round =>
      obtain ⟨J, so, sc, tO, tc, hJ, rfl, hsc, htc, HQ⟩ := hrel
      by_cases hlt : J < gN m
      · have hlt2 : (J : Int) < (gN m : Int) := by omega
        have mkc : Cel wr gm _ 52 := (HQ.same gm QV0.out.mks.lt QV0.out.n3).trans QV0.out.mks
        have x0 := mkc.cell (J * 2) (MG1.out J hlt)
        have x1 := mkc.cell (J * 2 + 1) (MG2.out J hlt)
        have SU1 := hide (onL_succ m (bitAt xs) J)
        have SU2 := hide (ptL_succ m (bitAt xs) J)
        generalize bon m (bitAt xs) (8 * J) = Zs at *
        generalize bat m (bitAt xs) (8 * J) = Zp at *
        have lmk := mkc.lt
        have y7 := HQ.bx.cell 7 rfl
        have lx := HQ.bx.lt
        have szr := HQ.sz
        have hown1 : ∀ k, (Value.slice so J sc).ownBlock = some k → k < wr.heap.size := fun k hk => (HQ.o1.lt k hk).2
        clear mkc
        go_wp2_with (at_builtin; refine Ap.wpList_append_x (by rfl) _ _ _ (by rfl) V.heap.size 3 i0 (.int .i64 0) 8 Tryd.underlying29 hi hz0 hz1 hz2 rfl (.slice so J sc) J (iv8 (onL m (bitAt xs) J)) (by rfl) ((HQ.o1.alloc _).alloc _) (some ⟨wr.heap.size + 1, 0, none⟩) 1 1 [.int .i64 (Zs : Nat)] (by rfl) rfl ?c1_501 ?c2_501 ?c3_501 ?c4_501 ?c5_501 ?_)
        case c1_501 => exact fun _ => ⟨_, rfl, fun j u hj => by
          match j, hj with
          | 0, hj => simp at hj; subst hj; simp [Addr.add]⟩
        case c2_501 => intro u hu; simp at hu; subst hu; rfl
        case c3_501 => unfold maxLen; omega
        case c4_501 => omega
        case c5_501 => simp; omega
        intro so2 sc2 w9 own9 hle9 hB9 hblk9 hkeep9 hsz9
        rw [SU1.out] at own9
        have HPa := (HQ.keep (below_alloc wr (.cells #[.int .i64 (Zs : Nat), .int .i64 (Zp : Nat)] 52))).keep (below_alloc _ (.cells #[.int .i64 (Zs : Nat)] 3))
        have esz : ((wr.alloc (.cells #[.int .i64 (Zs : Nat), .int .i64 (Zp : Nat)] 52)).alloc (.cells #[.int .i64 (Zs : Nat)] 3)).heap.size = wr.heap.size + 1 + 1 := by simp
        have mbA : Cel ((wr.alloc (.cells #[.int .i64 (Zs : Nat), .int .i64 (Zp : Nat)] 52)).alloc (.cells #[.int .i64 (Zs : Nat)] 3)) wr.heap.size [.int .i64 (Zs : Nat), .int .i64 (Zp : Nat)] 52 := (Cel.new wr _ _).alloc _
        rw [← esz] at hblk9 hkeep9
        have HP9 := HPa.one own9 hB9 hblk9 hkeep9
        have hC9 : Cel w9 wr.heap.size [.int .i64 (Zs : Nat), .int .i64 (Zp : Nat)] 52 := (hkeep9 wr.heap.size (by omega) (fun e => by have := hown1 _ e; omega)).trans mbA
        have x7 := (HPa.bx.keep hB9 HQ.lt).cell 7 rfl
        have f7 := (HPa.bx.keep hB9 HQ.lt).frozen 7
        have x8 := (HPa.bx.keep hB9 HQ.lt).cell 8 rfl
        have mb1 := hC9.cell 1 rfl
        have lx9 := (HPa.bx.keep hB9 HQ.lt).lt
        have lm9 := hC9.lt
        have sz9 := HP9.sz
        simp only [size_set] at sz9
        have ngx : gx ≠ wr.heap.size := by omega
        clear own9 hB9 hblk9 hkeep9 HPa mbA hown1 x0 x1 y7 esz
        go_wp2_with (at_builtin; refine Ap.wpList_append_x (by rfl) _ _ _ (by rfl) V.heap.size 3 i0 (.int .i64 0) 8 Tryd.underlying29 hi hz0 hz1 hz2 rfl (.slice tO J tc) J (iv8 (ptL m (bitAt xs) J)) (by rfl) (HP9.o2.alloc _) (some ⟨w9.heap.size, 0, none⟩) 1 1 [.int .i64 (Zp : Nat)] (by rfl) rfl ?d1_501 ?d2_501 ?d3_501 ?d4_501 ?d5_501 ?_)
        case d1_501 =>
          have q := (Cel.new (w9.setCell ⟨gx, 7, none⟩ (.slice so2 (J + 1) sc2)) [.int .i64 (Zp : Nat)] 3).cell 0 rfl
          rw [size_set] at q
          exact fun _ => ⟨_, rfl, fun j u hj => by
            match j, hj with
            | 0, hj => simp at hj; subst hj; simp [Addr.add]; exact q⟩
        case d2_501 => intro u hu; simp at hu; subst hu; rfl
        case d3_501 => unfold maxLen; omega
        case d4_501 => omega
        case d5_501 => simp; omega
        intro tO2 tc2 w10 own10 hle10 hB10 hblk10 hkeep10 hsz10
        rw [SU2.out] at own10
        have HPb := HP9.keep (below_alloc _ (.cells #[.int .i64 (Zp : Nat)] 3))
        have esz2 : ((w9.setCell ⟨gx, 7, none⟩ (.slice so2 (J + 1) sc2)).alloc (.cells #[.int .i64 (Zp : Nat)] 3)).heap.size = w9.heap.size + 1 := by simp [size_set]
        rw [← esz2] at hblk10 hkeep10
        have HP10 := HPb.two own10 hB10 hblk10 hkeep10
        have x8b := (HPb.bx.keep hB10 HQ.lt).cell 8 rfl
        have f8b := (HPb.bx.keep hB10 HQ.lt).frozen 8
        have HPH := hide HP10
        clear own10 hB10 hblk10 hkeep10 HPb esz2 HP9 HP10 x7 x8 f7 mb1 hC9 HQ
        go_wp2
        exact ⟨⟨J + 1, so2, sc2, tO2, tc2, by omega, by go_num, hle9, hle10, HPH.out⟩, by simp only [intOf]; omega⟩
      · obtain hJe : J = gN m := by omega
        have zc : Cel wr (w.heap.size + 1) [.int .i64 0, .int .i64 0, .int .i64 0, .int .i64 0, .slice none 0 0, .int .i64 0, .slice none 0 0, .slice none 0 0, .slice none 0 0] 31 := (HQ.same (w.heap.size + 1) (by have := QV0.out.z.lt; exact this) (by have := QV0.out.n4; omega)).trans QV0.out.z
        have d1 : Own wr g1 (rC m (bitAt xs)) := (HQ.same g1 QV0.out.o1.lt QV0.out.n1).trans QV0.out.o1
        have d2 : Own wr g2 (rO m (bitAt xs)) := (HQ.same g2 QV0.out.o2.lt QV0.out.n2).trans QV0.out.o2
        have bwr : Below w.heap.size w wr := QV0.out.hb.trans (HQ.hb.mono (by have := QV0.out.n4; omega))
        have hgV : w.heap.size + 1 < V.heap.size := QV0.out.z.lt
        have e1 : g1 ≠ w.heap.size + 1 := by omega
        have e2 : g2 ≠ w.heap.size + 1 := by omega
        have HH := hide (And.intro HQ (And.intro d1 (And.intro d2 bwr)))
        clear d1 d2 bwr QV0
        go_wp2_with (first | refine load_cel gx _ rfl HQ.bx Tryd.underlying31 info_rrr ?_ | refine store_cel (w.heap.size + 1) _ _ rfl rfl zc rfl info_rrr (by simp [Value.oneCell']) ?_)
        intro w20 C20 hO20
        obtain ⟨HQ2, d1, d2, bwr⟩ := HH.out
        have HF := hide (show Wd w20 (some ⟨g1, 0, none⟩) (rC m (bitAt xs)) ∧ Wd w20 (some ⟨g2, 0, none⟩) (rO m (bitAt xs)) ∧ Nd w20 so (onL m (bitAt xs) J) ∧ Nd w20 tO (ptL m (bitAt xs) J) ∧ Below w.heap.size w w20 from ⟨Own.wd ((hO20.block g1 e1).trans d1), Own.wd ((hO20.block g2 e2).trans d2), nd_own8 (hO20.owns HQ2.o1 hgV), nd_own8 (hO20.owns HQ2.o2 hgV), bwr.trans (hO20.below (by omega))⟩)
        have HC20 := hide C20
        clear HQ HQ2 d1 d2 bwr hO20 HH zc C20
        go_wp2
        (try simp only [Exit.inBlock, Exit.then])
        obtain ⟨p1, p2, p3, p4, p5⟩ := HF.out
        rw [hJe] at p3 p4 hsc htc
        have HC21 := HC20.out
        rw [hJe] at HC21
        exact bodyPost_ret (result_cel rfl (w.heap.size + 1) _ rfl HC21 Tryd.underlying31 info_rrr) rfl ⟨g1, k1, g2, k2, so, sc, tO, tc, rfl, HK1.out, HK2.out, p1, p2, p3, p4, hsc, htc, p5⟩
end Go.Proofs.YtmphbnmcbonmmaaDoor

namespace Go.Proofs.YtmphbnmcbonmmaaDoor
open Go.RowKit Num Bit Bn
set_option linter.unusedVariables false
set_option linter.unusedSimpArgs false
set_option maxRecDepth 100000

set_option maxHeartbeats 4000000 in
theorem qbuild_bad (N : Int) (ao : Option Addr) (xs : List Nat) (cap : Nat) (w : World) (hx : Wd w ao xs) (hk : chk N xs = false) :
    Calls Tryd.prog 8 #[.agg #[.int .i64 N, .slice ao xs.length cap]] w fun e w' => e = .returned (.tuple #[.agg #[.int .i64 0, .int .i64 0, .int .i64 0, .int .i64 0, .slice none 0 0, .int .i64 0, .slice none 0 0, .slice none 0 0, .slice none 0 0], .int .i64 2]) ∧ Below w.heap.size w w' := by
  obtain ⟨W, hW⟩ : ∃ W, W = (w.alloc (.cells #[.int .i64 N, .slice ao xs.length cap] 24)).alloc (.cells #[.int .i64 0, .int .i64 0, .int .i64 0, .int .i64 0, .slice none 0 0, .int .i64 0, .slice none 0 0, .slice none 0 0, .slice none 0 0] 31) := ⟨_, rfl⟩
  have bW : Below w.heap.size w W := by rw [hW]; exact (below_alloc w _).alloc (by simp) _
  have B2 : Cel W (w.heap.size + 1) [.int .i64 0, .int .i64 0, .int .i64 0, .int .i64 0, .slice none 0 0, .int .i64 0, .slice none 0 0, .slice none 0 0, .slice none 0 0] 31 := by rw [hW]; exact Cel.new2 w _ _ _
  have C1 : Hid (∀ w0, Below w.heap.size w w0 → Calls Tryd.prog 18 #[.agg #[.int .i64 N, .slice ao xs.length cap]] w0 fun e w' => e = .returned (.bool false) ∧ Below w0.heap.size w0 w') := fun w0 h => by
    have := check_c N ao xs cap w0 (hx.keep h)
    rw [hk] at this
    exact this
  clear hx hk
  go_enter Tryd.func8, Tryd.ntmps8
  go_wp2_with fail
  rw [← hW]
  refine (C1.out _ bW).mono ?_
  rintro e w1 ⟨rfl, hb⟩
  have bw1 := bW.trans (hb.mono bW.size)
  replace B2 := B2.kept hb
  clear hb C1 hW bW
  go_wp2_with (refine store_cel (w.heap.size + 1) _ [.int .i64 0, .int .i64 0, .int .i64 0, .int .i64 0, .slice none 0 0, .int .i64 0, .slice none 0 0, .slice none 0 0, .slice none 0 0] rfl rfl B2 rfl info_rrr (by simp [Value.oneCell']) ?_)
  intro w2 C2 hO
  have HC := hide C2
  have bw2 := bw1.trans (hO.below (base := w.heap.size) (by omega))
  clear C2 hO B2 bw1
  go_wp2
  exact bodyPost_ret (result_cel rfl (w.heap.size + 1) _ rfl HC.out Tryd.underlying31 info_rrr) rfl ⟨rfl, bw2⟩
theorem build_k (N : Int) (ao : Option Addr) (xs : List Nat) (cap : Nat) (w : World) (hN : I64 N) (hx : Wd w ao xs) (hf : Fit xs) (hcap : xs.length ≤ cap) (hl : xs.length ≤ 1048576) (G : GV w) :
    Calls Tryd.prog 8 #[.agg #[.int .i64 N, .slice ao xs.length cap]] w fun e w' => ∃ cs : List Value, e = .returned (.tuple #[.agg cs.toArray, .int .i64 (kE N xs)]) ∧ KI w' cs (kB N xs) ∧ Below w.heap.size w w' := by
  cases hk : chk N xs with
  | false =>
    refine (qbuild_bad N ao xs cap w hx hk).mono ?_
    rintro e w' ⟨rfl, hb⟩
    have e1 : rbN N xs = 0 := by unfold rbN; rw [hk]; rfl
    have e2 : rbK N xs = 0 := by unfold rbK; rw [hk]; rfl
    have e3 : rbV N xs = 0 := by unfold rbV; rw [hk]; rfl
    have e4 : rbM N xs = 0 := by unfold rbM; rw [hk]; rfl
    have e5 : rbC N xs = [] := by unfold rbC; rw [hk]; rfl
    have e6 : rbL N xs = 0 := by unfold rbL; rw [hk]; rfl
    have e7 : rbO N xs = [] := by unfold rbO; rw [hk]; rfl
    have e8 : rbS N xs = [] := by unfold rbS; rw [hk]; rfl
    have e9 : rbT N xs = [] := by unfold rbT; rw [hk]; rfl
    have eE : kE N xs = 2 := by unfold kE rbE; rw [hk]; rfl
    have R : RO w' (rbC N xs) (rbO N xs) (rbS N xs) (rbT N xs) none 0 none 0 none 0 none 0 := by
      rw [e5, e7, e8, e9]
      exact ⟨fun h => absurd h (Nat.lt_irrefl _), Nat.le_refl _, fun h => absurd h (Nat.lt_irrefl _), Nat.le_refl _, nd0 _ _, Nat.le_refl _, nd0 _ _, Nat.le_refl _⟩
    refine ⟨_, ?_, R.ki (G.kept hb), hb⟩
    rw [eE, e1, e2, e3, e4, e5, e6, e7, e8, e9]
    rfl
  | true =>
    obtain ⟨h0, h1, _, _⟩ := chk_out N xs hk
    obtain ⟨m, rfl⟩ := Int.eq_ofNat_of_zero_le h0
    refine (qbuild_ok m ao xs cap w hx hf hk (by omega) G).mono ?_
    rintro e w' ⟨g1, k1, g2, k2, so, sc, tO, tc, rfl, hk1, hk2, p1, p2, p3, p4, q1, q2, hb⟩
    have e1 : rbN (m : Int) xs = (m : Int) := by unfold rbN; rw [hk]; rfl
    have e2 : rbK (m : Int) xs = (nb m : Int) := by unfold rbK; rw [hk, Int.toNat_natCast]; rfl
    have e3 : rbV (m : Int) xs = 4 := by unfold rbV; rw [hk]; rfl
    have e4 : rbM (m : Int) xs = (nb m : Int) * 4 := by unfold rbM; rw [hk, Int.toNat_natCast]; rfl
    have e5 : rbC (m : Int) xs = rC m (bitAt xs) := by unfold rbC; rw [hk, Int.toNat_natCast]; rfl
    have e6 : rbL (m : Int) xs = (bat m (bitAt xs) (nb m) : Int) := by unfold rbL; rw [hk, Int.toNat_natCast]; rfl
    have e7 : rbO (m : Int) xs = rO m (bitAt xs) := by unfold rbO; rw [hk, Int.toNat_natCast]; rfl
    have e8 : rbS (m : Int) xs = rS m (bitAt xs) := by unfold rbS; rw [hk, Int.toNat_natCast]; rfl
    have e9 : rbT (m : Int) xs = rT m (bitAt xs) := by unfold rbT; rw [hk, Int.toNat_natCast]; rfl
    have lC : (rC m (bitAt xs)).length = k1 := by unfold rC mkS; rw [length_rowOf, length_bclP, hk1]
    have lO : (rO m (bitAt xs)).length = k2 := by unfold rO frL; rw [length_rowOf, length_bofP, hk2]
    have lS : (rS m (bitAt xs)).length = gN m := by unfold rS; rw [length_onL]
    have lT : (rT m (bitAt xs)).length = gN m := by unfold rT; rw [length_ptL]
    have R : RO w' (rbC (m : Int) xs) (rbO (m : Int) xs) (rbS (m : Int) xs) (rbT (m : Int) xs) (some ⟨g1, 0, none⟩) k1 (some ⟨g2, 0, none⟩) k2 so sc tO tc := by
      rw [e5, e7, e8, e9]
      exact ⟨p1, by omega, p2, by omega, p3, by omega, p4, by omega⟩
    refine ⟨_, ?_, R.ki (G.kept hb), hb⟩
    rw [kE_ok _ _ hk, e1, e2, e3, e4, e5, e6, e7, e8, e9, lC, lO, lS, lT]
theorem check_k (cs : List Value) (a : RA) (w : World) (h : KI w cs a) :
    Calls Tryd.prog 12 #[.agg cs.toArray] w fun e w' => e = .returned (.bool (kOk a)) ∧ Below w.heap.size w w' := qcheck_c cs a w h
end Go.Proofs.YtmphbnmcbonmmaaDoor

namespace Go.Proofs.YtmphbnmcbonmmaaDoor
open Go.RowKit Num Bit
set_option linter.unusedVariables false
set_option linter.unusedSimpArgs false
set_option maxRecDepth 100000

def smB (a : RA) : Bool := (decide (a.N ≤ 3000) && (decide (a.k ≤ 3000) && (decide ((a.xs.length : Int) ≤ 3000) && (decide ((a.ys.length : Int) ≤ 3000) && (decide ((a.S.length : Int) ≤ 3000) && decide ((a.T.length : Int) ≤ 3000))))))
theorem sm_out (a : RA) (h : smB a = true) : a.N ≤ 3000 ∧ a.k ≤ 3000 ∧ (a.xs.length : Int) ≤ 3000 ∧ (a.ys.length : Int) ≤ 3000 ∧ (a.S.length : Int) ≤ 3000 ∧ (a.T.length : Int) ≤ 3000 := by
  unfold smB at h
  simp only [Bool.and_eq_true, decide_eq_true_eq] at h
  exact h
theorem KArg.ki {w : World} {cs : List Value} {a : RA} (h : KArg w cs a) (hs : smB a = true) (G : GV w) : KI w cs a := by
  have := sm_out a hs
  exact ⟨h, by omega, by omega, by omega, by omega, G⟩
theorem fit22 : Fit [22] := by
  intro i
  cases i with
  | zero => decide
  | succ i => unfold gt; simp
theorem wd22 (w : World) : Wd (w.alloc (.cells #[.int .u64 22] 46)) (some ⟨w.heap.size, 0, none⟩) [22] := by
  intro _
  refine ⟨w.heap.size, 0, rfl, by simp, fun i hi => ?_⟩
  have hi : i < 1 := hi
  obtain rfl : i = 0 := by omega
  simp [gt]
theorem kE5 : kE 5 [22] = 0 := by decide +kernel
theorem kE1 : kE 1 [] = 2 := by decide +kernel
theorem told5 : gaB true 5 [22] 4 = true ∧ gaE true 5 [22] 4 = 0 ∧ grN true 5 [22] true 4 = 2 ∧ grE true 5 4 = 0 ∧ gsX true 5 [22] true 2 = 4 ∧ gsE true 5 [22] true 2 = 0 ∧ gsX true 5 [22] false 1 = 3 ∧ gsE true 5 [22] false 1 = 0 ∧ gsX true 5 [22] true 3 = 0 ∧ gsE true 5 [22] true 3 = 3 := by decide +kernel

set_option maxHeartbeats 8000000 in
theorem heads_c (w : World) (G : GV w) : Calls Tryd.prog 7 #[] w fun e w' => e = .returned (.bool true) ∧ Below w.heap.size w w' := by
  obtain ⟨ok5, n5, x5⟩ := kB_ok 5 [22] fit22 (by decide)
  have z5 := kZ_pos 5 [22] fit22 (by decide)
  obtain ⟨W, hW⟩ : ∃ W, W = w.alloc (.cells #[.int .u64 22] 46) := ⟨_, rfl⟩
  have bW : Below w.heap.size w W := by rw [hW]; exact below_alloc w _
  have hx : Wd W (some ⟨w.heap.size, 0, none⟩) [22] := by
    rw [hW]
    exact wd22 w
  have H1 : Hid (∀ w0, w0 = W → Calls Tryd.prog 8 #[.agg #[.int .i64 5, .slice (some ⟨w.heap.size, 0, none⟩) 1 1]] w0 fun e w' => ∃ cs : List Value, e = .returned (.tuple #[.agg cs.toArray, .int .i64 0]) ∧ KI w' cs (kB 5 [22]) ∧ Below w0.heap.size w0 w') := fun w0 h => by
    subst h
    have := build_k 5 (some ⟨w.heap.size, 0, none⟩) [22] 1 w0 (by unfold I64; decide) hx fit22 (by decide) (by decide) (G.kept bW)
    rw [kE5] at this
    exact this
  have H7 : Hid (∀ w0 : World, GV w0 → Calls Tryd.prog 8 #[.agg #[.int .i64 1, .slice none 0 0]] w0 fun e w' => ∃ cs : List Value, e = .returned (.tuple #[.agg cs.toArray, .int .i64 2]) ∧ KI w' cs (kB 1 []) ∧ Below w0.heap.size w0 w') := fun w0 g0 => by
    have := build_k 1 none [] 0 w0 (by unfold I64; decide) (wd0' _ _) (fun i => by unfold gt; simp) (by decide) (by decide) g0
    rw [kE1] at this
    exact this
  have H2 : Hid (∀ w0 cs, KI w0 cs (kB 5 [22]) → Calls Tryd.prog 10 #[.agg cs.toArray, .int .i64 4] w0 fun e w' => e = .returned (.tuple #[.bool true, .int .i64 0]) ∧ Below w0.heap.size w0 w') := fun w0 cs h => by
    have := access_k cs (kB 5 [22]) 4 w0 h (by unfold I64; decide)
    rw [ok5, n5, x5, told5.1, told5.2.1] at this
    exact this
  have H3 : Hid (∀ w0 cs, KI w0 cs (kB 5 [22]) → Calls Tryd.prog 9 #[.agg cs.toArray, .bool true, .int .i64 4] w0 fun e w' => e = .returned (.tuple #[.int .i64 2, .int .i64 0]) ∧ Below w0.heap.size w0 w') := fun w0 cs h => by
    have := rank_k cs (kB 5 [22]) true 4 w0 h (by unfold I64; decide)
    rw [ok5, n5, x5, told5.2.2.1, told5.2.2.2.1] at this
    exact this
  have H4 : Hid (∀ w0 cs, KI w0 cs (kB 5 [22]) → Calls Tryd.prog 15 #[.agg cs.toArray, .bool true, .int .i64 2] w0 fun e w' => e = .returned (.tuple #[.int .i64 4, .int .i64 0]) ∧ Below w0.heap.size w0 w') := fun w0 cs h => by
    have := select_k cs (kB 5 [22]) true 2 w0 h (by unfold I64; decide)
    rw [ok5, n5, x5, told5.2.2.2.2.1, told5.2.2.2.2.2.1] at this
    exact this
  have H5 : Hid (∀ w0 cs, KI w0 cs (kB 5 [22]) → Calls Tryd.prog 15 #[.agg cs.toArray, .bool false, .int .i64 1] w0 fun e w' => e = .returned (.tuple #[.int .i64 3, .int .i64 0]) ∧ Below w0.heap.size w0 w') := fun w0 cs h => by
    have := select_k cs (kB 5 [22]) false 1 w0 h (by unfold I64; decide)
    rw [ok5, n5, x5, told5.2.2.2.2.2.2.1, told5.2.2.2.2.2.2.2.1] at this
    exact this
  have H6 : Hid (∀ w0 cs, KI w0 cs (kB 5 [22]) → Calls Tryd.prog 15 #[.agg cs.toArray, .bool true, .int .i64 3] w0 fun e w' => e = .returned (.tuple #[.int .i64 0, .int .i64 3]) ∧ Below w0.heap.size w0 w') := fun w0 cs h => by
    have := select_k cs (kB 5 [22]) true 3 w0 h (by unfold I64; decide)
    rw [ok5, n5, x5, told5.2.2.2.2.2.2.2.2.1, told5.2.2.2.2.2.2.2.2.2] at this
    exact this
  have H8 : Hid (∀ w0 cs, KI w0 cs (kB 5 [22]) → Calls Tryd.prog 12 #[.agg cs.toArray] w0 fun e w' => e = .returned (.bool true) ∧ Below w0.heap.size w0 w') := fun w0 cs h => by
    have := check_k cs (kB 5 [22]) w0 h
    rw [ok5] at this
    exact this
  obtain ⟨Z5, hZ5⟩ : ∃ Z, Hid (Z = kZ (kB 5 [22])) := ⟨_, rfl⟩
  rw [← hZ5.out] at z5
  have H9 : Hid (∀ w0 cs, KI w0 cs (kB 5 [22]) → Calls Tryd.prog 11 #[.agg cs.toArray] w0 fun e w' => e = .returned (.int .i64 Z5) ∧ Below w0.heap.size w0 w') := fun w0 cs h => by
    have := size_k cs (kB 5 [22]) w0 h
    rw [← hZ5.out] at this
    exact this
  have HB : Hid (∀ w0 cs, KI w0 cs (kB 5 [22]) → Calls Tryd.prog 14 #[.agg cs.toArray] w0 fun e w' => ∃ bo bc, e = .returned (.agg #[.int .i64 5, .slice bo 1 bc]) ∧ Wd w' bo [22] ∧ Below w0.heap.size w0 w') := fun w0 cs h => by
    have := bits_k cs (kB 5 [22]) w0 h
    rw [n5, x5] at this
    refine this.mono ?_
    rintro e w' ⟨bo, bc, rfl, h1, _, hb⟩
    exact ⟨bo, bc, rfl, h1, hb⟩
  generalize kB 5 [22] = A5 at *
  clear ok5 n5 x5
  go_enter Tryd.func7, Tryd.ntmps7
  go_wp2_with fail
  rw [← hW]
  refine (H1.out _ rfl).mono ?_
  rintro e w1 ⟨cs, rfl, hP, hb⟩
  have hw := bW.trans (hb.mono bW.size)
  clear H1 hx bW hW W hb
  go_wp2_with (refine store_cel w1.heap.size [.int .i64 0, .int .i64 0, .int .i64 0, .int .i64 0, .slice none 0 0, .int .i64 0, .slice none 0 0, .slice none 0 0, .slice none 0 0] cs rfl rfl (Cel.new w1 [.int .i64 0, .int .i64 0, .int .i64 0, .int .i64 0, .slice none 0 0, .int .i64 0, .slice none 0 0, .slice none 0 0, .slice none 0 0] 31) hP.arg.nine hP.arg.len hP.arg.one ?_)
  intro w2 Bw2 Ow2
  have bw2 : Below w1.heap.size w1 w2 := (below_alloc w1 _).trans (Ow2.below (Nat.le_refl _))
  replace hP := hP.keep bw2
  replace hw := hw.trans (bw2.mono hw.size)
  clear Ow2 bw2
  have hB := Bw2
  clear Bw2
  generalize w1.heap.size = g at *
  go_wp2_with (refine load_obj g cs (by rfl) rfl hB Tryd.underlying31 hP.arg.len ?_)
  refine (H2.out _ _ hP).mono ?_
  rintro e w3 ⟨rfl, hb⟩
  replace hP := hP.keep hb
  replace hB := hB.kept hb
  replace hw := hw.trans (hb.mono hw.size)
  clear hb
  go_wp2_with (refine load_obj g cs (by rfl) rfl hB Tryd.underlying31 hP.arg.len ?_)
  refine (H3.out _ _ hP).mono ?_
  rintro e w4 ⟨rfl, hb⟩
  replace hP := hP.keep hb
  replace hB := hB.kept hb
  replace hw := hw.trans (hb.mono hw.size)
  clear hb
  go_wp2_with (refine load_obj g cs (by rfl) rfl hB Tryd.underlying31 hP.arg.len ?_)
  refine (H4.out _ _ hP).mono ?_
  rintro e w5 ⟨rfl, hb⟩
  replace hP := hP.keep hb
  replace hB := hB.kept hb
  replace hw := hw.trans (hb.mono hw.size)
  clear hb
  go_wp2_with (refine load_obj g cs (by rfl) rfl hB Tryd.underlying31 hP.arg.len ?_)
  refine (H5.out _ _ hP).mono ?_
  rintro e w6 ⟨rfl, hb⟩
  replace hP := hP.keep hb
  replace hB := hB.kept hb
  replace hw := hw.trans (hb.mono hw.size)
  clear hb
  go_wp2_with (refine load_obj g cs (by rfl) rfl hB Tryd.underlying31 hP.arg.len ?_)
  refine (H6.out _ _ hP).mono ?_
  rintro e w7 ⟨rfl, hb⟩
  replace hP := hP.keep hb
  replace hB := hB.kept hb
  replace hw := hw.trans (hb.mono hw.size)
  clear hb
  go_wp2_with fail
  refine (H7.out _ hP.gv).mono ?_
  rintro e w8 ⟨ds, rfl, hQ, hb⟩
  replace hP := hP.keep hb
  replace hB := hB.kept hb
  replace hw := hw.trans (hb.mono hw.size)
  clear hb H7
  go_wp2_with (refine store_cel w8.heap.size [.int .i64 0, .int .i64 0, .int .i64 0, .int .i64 0, .slice none 0 0, .int .i64 0, .slice none 0 0, .slice none 0 0, .slice none 0 0] ds rfl rfl (Cel.new w8 [.int .i64 0, .int .i64 0, .int .i64 0, .int .i64 0, .slice none 0 0, .int .i64 0, .slice none 0 0, .slice none 0 0, .slice none 0 0] 31) hQ.arg.nine hQ.arg.len hQ.arg.one ?_)
  intro w9 Bw9 Ow9
  have bw9 : Below w8.heap.size w8 w9 := (below_alloc w8 _).trans (Ow9.below (Nat.le_refl _))
  replace hQ := hQ.keep bw9
  replace hw := hw.trans (bw9.mono hw.size)
  replace hP := hP.keep bw9
  replace hB := hB.kept bw9
  clear Ow9 bw9
  clear Bw9 hQ
  go_wp2_with (refine load_obj g cs (by rfl) rfl hB Tryd.underlying31 hP.arg.len ?_)
  refine (H8.out _ _ hP).mono ?_
  rintro e wa ⟨rfl, hb⟩
  replace hP := hP.keep hb
  replace hB := hB.kept hb
  replace hw := hw.trans (hb.mono hw.size)
  clear hb
  go_wp2_with (refine load_obj g cs (by rfl) rfl hB Tryd.underlying31 hP.arg.len ?_)
  refine (H9.out _ _ hP).mono ?_
  rintro e wb ⟨rfl, hb⟩
  replace hP := hP.keep hb
  replace hB := hB.kept hb
  replace hw := hw.trans (hb.mono hw.size)
  clear hb
  go_wp2_with (refine load_obj g cs (by rfl) rfl hB Tryd.underlying31 hP.arg.len ?_)
  refine (HB.out _ _ hP).mono ?_
  rintro e wc ⟨ro, rc, rfl, hx2, hb⟩
  replace hw := hw.trans (hb.mono hw.size)
  clear hb HB hP hB
  have bZ := below_alloc wc (.cells #[.int .u64 22] 46)
  have S1 : Hid (∀ w0, w0 = wc.alloc (.cells #[.int .u64 22] 46) → Calls Tryd.prog 13 #[.agg #[.int .i64 5, .slice ro 1 rc], .agg #[.int .i64 5, .slice (some ⟨wc.heap.size, 0, none⟩) 1 1]] w0 fun e w' => e = .returned (.bool true) ∧ Below w0.heap.size w0 w') := fun w0 h => by
    subst h
    have := same_c 5 ro [22] rc 5 (some ⟨wc.heap.size, 0, none⟩) [22] 1 _ (hx2.keep bZ) (wd22 wc) (by decide)
    rw [show (decide ((5 : Int) = 5) && decide (([22] : List Nat) = [22])) = true by decide] at this
    exact this
  go_wp2_with fail
  refine (S1.out _ rfl).mono ?_
  rintro e wd ⟨rfl, hb⟩
  replace hw := (hw.trans (bZ.mono hw.size)).trans (hb.mono (Nat.le_trans hw.size bZ.size))
  go_wp2
  go_ret
  exact ⟨rfl, hw⟩
end Go.Proofs.YtmphbnmcbonmmaaDoor

namespace Go.Proofs.YtmphbnmcbonmmaaDoor
open Go.RowKit Num Bit
set_option linter.unusedVariables false
set_option maxRecDepth 100000

theorem and_tt {a b : Bool} (ha : a = true) (hb : b = true) : (a && b) = true := by rw [ha, hb]; rfl
theorem trod_int1 {W : World} {fuel : Nat} {t : TypeId} {k : IntKind} {cs : List Value} {y : DataW Unit × List MemPlace} (hu : Tryd.prog.underlying t = some (.int k)) (h : DataW.trod (fun _ => ()) Tryd.prog W 0 (fun _ => true) false fuel t cs = some y) : ∃ n, cs = [.int k n] ∧ y.1 = .lit (.int k n) := by
  cases fuel with
  | zero => simp [DataW.trod] at h
  | succ fuel =>
    unfold DataW.trod at h
    rw [hu] at h
    match cs, h with
    | [.int k' n], h =>
      dsimp only at h
      split at h
      · rename_i hk
        obtain ⟨rfl, _⟩ := hk
        cases h
        exact ⟨n, rfl, rfl⟩
      · cases h
theorem mapM_get {α β : Type} (f : α → Option β) : ∀ (L : List α) (ys : List β), L.mapM f = some ys → ys.length = L.length ∧ ∀ (i : Nat) a y, L[i]? = some a → ys[i]? = some y → f a = some y
  | [], ys, h => by
    rw [List.mapM_nil] at h
    cases h
    exact ⟨rfl, fun i a y e => by simp at e⟩
  | b :: L, ys, h => by
    rw [List.mapM_cons] at h
    simp only [Option.bind_eq_bind, Option.bind_eq_some_iff, Option.pure_def, Option.some.injEq] at h
    obtain ⟨z, h1, zs, h2, rfl⟩ := h
    obtain ⟨e1, e2⟩ := mapM_get f L zs h2
    refine ⟨by simp [e1], fun i a y ha hy => ?_⟩
    cases i with
    | zero => simp at ha hy; subst ha; subst hy; exact h1
    | succ i => exact e2 i a y (by simpa using ha) (by simpa using hy)
theorem trod_arr {W : World} {fuel n : Nat} {t e : TypeId} {k : IntKind} {cs : List Value} {l : List Int} {p : List MemPlace} (hu : Tryd.prog.underlying t = some (.array n e)) (he : Tryd.prog.underlying e = some (.int k)) (ce : Tryd.prog.cellsOf e = 1) (ct : Tryd.prog.cellsOf t = n)
    (h : DataW.trod (fun _ => ()) Tryd.prog W 0 (fun _ => true) false fuel t cs = some (.agg (l.map fun x => .lit (.int k x)), p)) : cs = l.map fun x => .int k x := by
  cases fuel with
  | zero => simp [DataW.trod] at h
  | succ fuel =>
    unfold DataW.trod at h
    rw [hu] at h
    dsimp only at h
    split at h
    · rename_i hl
      rw [Option.map_eq_some_iff] at h
      obtain ⟨ys, h1, h2⟩ := h
      obtain ⟨g1, g2⟩ := mapM_get _ _ _ h1
      simp only [Prod.mk.injEq, DataW.agg.injEq] at h2
      have hy := h2.1
      have ll : l.length = n := by
        have := congrArg List.length hy
        simp only [List.length_map] at this
        rw [← this, g1, List.length_range]
      rw [ct] at hl
      refine List.ext_getElem? fun i => ?_
      by_cases hi : i < n
      · obtain ⟨y, ey⟩ : ∃ y, ys[i]? = some y := ⟨_, List.getElem?_eq_getElem (by rw [g1, List.length_range]; exact hi)⟩
        have e3 := g2 i i y (List.getElem?_range hi) ey
        obtain ⟨m, e4, e5⟩ := trod_int1 he e3
        have e6 : (ys.map (·.1))[i]? = some (.lit (.int k m)) := by rw [List.getElem?_map, ey]; exact congrArg some e5
        rw [hy, List.getElem?_map] at e6
        obtain ⟨x, ex⟩ : ∃ x, l[i]? = some x := ⟨_, List.getElem?_eq_getElem (by omega)⟩
        rw [ex] at e6
        simp only [Option.map_some, Option.some.injEq, DataW.lit.injEq, Lit.int.injEq, true_and] at e6
        rw [List.getElem?_map, ex, e6]
        rw [ce, Nat.mul_one] at e4
        have e7 := congrArg (·[0]?) e4
        simp only [List.getElem?_take_of_lt (Nat.one_pos), List.getElem?_drop, Nat.add_zero] at e7
        exact e7
      · rw [List.getElem?_eq_none (by omega), List.getElem?_eq_none (by rw [List.length_map]; omega)]
    · cases h
theorem cel_laid {W : World} {g : Nat} {nm : String} {cs : Array Value} {vs : List Value} (hg : Tryd.prog.globalNamed nm = some g) (hv : W.var? Tryd.prog nm = some cs) (hc : cs.toList = vs) (hm : ∃ c t, W.heap[g]? = some (.cells c t (0, 0))) : Tb W g vs := by
  obtain ⟨c, t, e⟩ := hm
  refine ⟨t, ?_⟩
  unfold World.var? at hv
  rw [hg] at hv
  simp only [Option.bind_some, e, Option.some.injEq] at hv
  subst hv
  unfold Cel
  rw [e, ← hc]
def laidL : List (String × DataW Unit) := [("errors.errorType", Rows.laid_errors_errorType), ("haystack/rrr.ways", Rows.laid_haystack_rrr_ways), ("haystack/rrr.widths", Rows.laid_haystack_rrr_widths)]
theorem gv_of_laid {W : World} (h : laidMetH Tryd.prog laidL W) : GV W := by
  have h0 : laidMet Tryd.prog [("haystack/rrr.ways", Rows.laid_haystack_rrr_ways), ("haystack/rrr.widths", Rows.laid_haystack_rrr_widths)] W := And.left (show _ ∧ _ from h)
  obtain ⟨ps, ⟨g, t, cs, fuel, p, q, hg, ht, hv, hd, ⟨g2, t2, cs2, fuel2, p2, q2, hg2, ht2, hv2, hd2, hr, hq⟩, hps⟩, _, hm⟩ := h0
  obtain rfl : q2 = [] := hr
  obtain rfl := Option.some.inj ((show Tryd.prog.globalNamed "haystack/rrr.ways" = some 0 by kernel_rfl).symm.trans hg)
  obtain rfl := Option.some.inj ((show Tryd.prog.globalNamed "haystack/rrr.widths" = some 1 by kernel_rfl).symm.trans hg2)
  obtain rfl := Option.some.inj ((show (Tryd.prog.globals[0]?).map (·.type) = some 66 by kernel_rfl).symm.trans ht)
  obtain rfl := Option.some.inj ((show (Tryd.prog.globals[1]?).map (·.type) = some 76 by kernel_rfl).symm.trans ht2)
  have e1 : cs.toList = wv chL := (trod_arr (l := [1, 15, 105, 455, 1365, 3003, 5005, 6435, 6435, 5005, 3003, 1365, 455, 105, 15, 1]) Tryd.underlying66 Tryd.underlying46 (by kernel_rfl) (by kernel_rfl) hd).trans rfl
  have e2 : cs2.toList = vI wdL := (trod_arr (l := [0, 4, 7, 9, 11, 12, 13, 13, 13, 13, 12, 11, 9, 7, 4, 0]) Tryd.underlying76 Tryd.underlying3 (by kernel_rfl) (by kernel_rfl) hd2).trans rfl
  have s1 : cs.size = 16 := by rw [← Array.length_toList, e1]; rfl
  have s2 : cs2.size = 16 := by rw [← Array.length_toList, e2]; rfl
  refine ⟨cel_laid hg2 hv2 e2 (hm _ 0 ?_).1, cel_laid hg hv e1 (hm _ 0 ?_).1⟩
  · rw [hps, hq, s2]
    exact List.mem_append_right _ (List.mem_append_left _ (List.mem_append_left _ (List.mem_map.2 ⟨0, List.mem_range.2 (by decide), rfl⟩)))
  · rw [hps, s1]
    exact List.mem_append_left _ (List.mem_append_left _ (List.mem_map.2 ⟨0, List.mem_range.2 (by decide), rfl⟩))
end Go.Proofs.YtmphbnmcbonmmaaDoor
