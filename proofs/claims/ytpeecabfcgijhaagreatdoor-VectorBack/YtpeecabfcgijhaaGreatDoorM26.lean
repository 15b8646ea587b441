/-
  The contracts of the program's classesOf and offsetsOf.
-/
import Derived.Test.YtpeecabfcgijhaaGreatDoorM25
import Derived.Test.YtpeecabfcgijhaaGreatDoorM05
namespace Go.Proofs.YtpeecabfcgijhaaGreatDoor
open Go.RowKit Num Bit Bn
set_option linter.unusedVariables false
set_option linter.unusedSimpArgs false
set_option maxRecDepth 100000

theorem imE_cls (n : Nat) (c : Nat → Nat) (hn : n ≤ 69906) (hc : ∀ i, i < n → c i ≤ 15) : imE ((4 : Nat) : Int) ((List.range n).map c) = 0 := by
 unfold imE
 rw [if_neg]
 simp only [List.length_map, List.length_range]
 intro h
 rcases h with h | h | h | h
 ·omega
 ·omega
 ·omega
 ·refine h fun j hj => ?_
  rw [gt_map n c j hj]
  have := hc j hj
  exact (lenI_fit (c j) 4).2 (by omega)
theorem info_ints : (Tryz.prog.info? 31).map (·.size) = some 4 := by kernel_rfl
set_option maxHeartbeats 8000000 in
theorem qclassesOf_c (n gl k : Nat) (c o : Nat → Nat) (w : World) (hn : n ≤ 69906) (hl : Cel w gl (blP n c o n) 120) (hc : ∀ i, i < n → c i ≤ 15) (hk : k = (n * 4 + 63) / 64) :
  Calls Tryz.prog 71 #[.slice (some ⟨gl, 0, none⟩) n n] w fun e w' => ∃ g, e = .returned (.agg #[.int .i64 (n : Nat), .int .i64 4, .int .i64 ((n : Int) * 4), .slice (some ⟨g, 0, none⟩) k k]) ∧ w.heap.size ≤ g ∧ Own w' g (mkS ((List.range n).map c) 4 n) ∧ Below w.heap.size w w' := by
 obtain ⟨i0, hi, hz0, hz1, hz2⟩ := info_parts Tryz.info61
 have HM : Hid (∀ w0, Wd w0 (some ⟨w.heap.size + 1, 0, none⟩) ((List.range n).map c) → Calls Tryz.prog 128 #[.int .i64 4, .slice (some ⟨w.heap.size + 1, 0, none⟩) n n] w0 fun e w' => ∃ g, e = .returned (.tuple #[.agg #[.int .i64 (n : Nat), .int .i64 4, .int .i64 ((n : Int) * 4), .slice (some ⟨g, 0, none⟩) k k], .int .i64 0]) ∧ w0.heap.size ≤ g ∧ Own w' g (mkS ((List.range n).map c) 4 n) ∧ Below w0.heap.size w0 w') := by
  intro w0 hx
  have hf : Fit ((List.range n).map c) := by
   intro i
   by_cases d : i < n
   ·rw [gt_map n c i d]
    have := hc i d
    omega
   ·rw [gt_out _ _ (by simp; omega)]
    decide
  have := make_ok 4 (some ⟨w.heap.size + 1, 0, none⟩) ((List.range n).map c) n k w0 hx hf (imE_cls n c hn hc) (by simp only [List.length_map, List.length_range]; exact hk)
  simp only [List.length_map, List.length_range] at this
  exact this
 have HC := hide hc
 have lgl := hl.lt
 clear hc hk
 obtain ⟨W, hW⟩ : ∃ W, W = w.alloc (.cells #[.int .i64 0, .int .i64 0, .int .i64 0, .slice none 0 0] 31) := ⟨_, rfl⟩
 have bW : Below w.heap.size w W := by rw [hW]; exact below_alloc w _
 have zW : W.heap.size = w.heap.size + 1 := by rw [hW]; simp
 have B1 : Cel W w.heap.size [.int .i64 0, .int .i64 0, .int .i64 0, .slice none 0 0] 31 := by rw [hW]; exact Cel.new w _ _
 replace hl := hl.kept bW
 go_enter Tryz.func71, Tryz.ntmps71
 go_wp2_with (at_make; refine wpList_make_full _ rfl _ _ 22 rfl (w.heap.size + 1) 61 i0 (.int .u64 0) 1 Tryz.underlying22 hi hz0 hz1 .i64 .i64 _ _ n rfl rfl rfl rfl ?b2 ?b3 ?b4 ?_)
 case b2 => rw [hz2]; omega
 case b3 => unfold maxLen; omega
 case b4 => simp
 intro w2 hown hgr
 rw [← hW] at hgr
 have B2 : Own w2 (w.heap.size + 1) (List.replicate n 0) := own_made (by simpa using hown)
 have hb2 : Below W.heap.size W w2 := (Below.refl _ _).grown hgr (Nat.le_refl _) (fun k h => by cases h)
 have bw2 := bW.trans (hb2.mono bW.size)
 replace B1 := B1.kept hb2
 replace hl := hl.kept hb2
 rw [lsS_zero n c] at B2
 have l2 := B2.lt
 clear hown hgr hb2 hi hz0 hz1 hz2 bW hW zW
 go_wp2
 go_loopw [13] (fun t wr => ∃ q : Nat, q ≤ n ∧ t = .int .i64 q ∧ Cel wr w.heap.size [.int .i64 0, .int .i64 0, .int .i64 0, .slice none 0 0] 31 ∧ Own wr (w.heap.size + 1) (lsS n c q) ∧ Cel wr gl (blP n c o n) 120 ∧ Below w.heap.size w wr) (fun t _ => n - (intOf t).toNat)
 case atStart => exact ⟨0, Nat.zero_le _, rfl, B1, B2, hl, bw2⟩
 case round =>
  obtain ⟨q, hq, rfl, B1, B2, hl, hb⟩ := hrel
  by_cases hqn : q < n
  ·have hqn2 : (q : Int) < (n : Int) := by omega
   have cq15 := HC.out q hqn
   have x0 := hl.cell (q * 2) (blP_fst n c o q hqn)
   have x1 := hl.cell (q * 2 + 1) (blP_snd n c o q hqn)
   have n0 := B2.cell q (by rw [length_lsS]; exact hqn)
   have f0 := B2.frozen q
   have l3 := B2.lt
   have ST := hide (lsS_step n c q hqn)
   generalize hc0 : c q = cq at *
   generalize ho0 : o q = oq at *
   have u1 : IntKind.u64.wrap (cq : Int) = (cq : Int) := by rw [IntKind.wrap_u64]; omega
   go_wp2
   have C2 := B2.set q cq
   rw [ST.out] at C2
   have zr := hb.size
   have hB3 : Below w.heap.size w ((wr.setCell ⟨w.heap.size + 1, q, none⟩ (.int .u64 (cq : Nat))).alloc (.cells #[.int .i64 (cq : Nat), .int .u64 (oq : Nat)] 120)) := (hb.setCell (by show w.heap.size ≤ w.heap.size + 1; omega) _).alloc (by simp; omega) _
   have hA := below_alloc (wr.setCell ⟨w.heap.size + 1, q, none⟩ (.int .u64 (cq : Nat))) (.cells #[.int .i64 (cq : Nat), .int .u64 (oq : Nat)] 120)
   exact ⟨⟨q + 1, by omega, by go_num, (B1.other (by show w.heap.size ≠ w.heap.size + 1; omega) _).kept hA, C2.keep hA, (hl.other (by show gl ≠ w.heap.size + 1; omega) _).kept hA, hB3⟩, by simp only [intOf]; omega⟩
  ·obtain rfl : q = n := by omega
   rw [lsS_all] at B2
   have HMw := HM.out wr B2.wd
   have HM2 := hide HMw
   clear HM HMw
   go_wp2_with fail
   refine HM2.out.mono ?_
   rintro e w5 ⟨g, rfl, hg, hO, hb5⟩
   have lw := B1.lt
   replace B1 := B1.kept hb5
   have bw5 := hb.trans (hb5.mono hb.size)
   have zr := hb.size
   have l5 := B1.lt
   have f0 := B1.frozen 0
   have f1 := B1.frozen 1
   have f2 := B1.frozen 2
   have f3 := B1.frozen 3
   have n0 := B1.cell 0 rfl
   have n1 := B1.cell 1 rfl
   have n2 := B1.cell 2 rfl
   have n3 := B1.cell 3 rfl
   have HO := hide hO
   have lO := hO.lt
   clear hO hb5 hl B2 HM2 hb
   go_wp2
   refine bodyPost_ret (result_cel1 rfl w.heap.size [.int .i64 (q : Nat), .int .i64 4, .int .i64 ((q : Int) * 4), .slice (some ⟨g, 0, none⟩) k k] rfl (((((B1.set 0 _).set 1 _).set 2 _).set 3 _).alloc _) Tryz.underlying31 info_ints) rfl ⟨g, rfl, by omega, ?_, ?_⟩
   ·refine Own.keep ((((HO.out.set_other ?_ _).set_other ?_ _).set_other ?_ _).set_other ?_ _) (below_alloc _ _)
    ·show g ≠ w.heap.size; omega
    ·show g ≠ w.heap.size; omega
    ·show g ≠ w.heap.size; omega
    ·show g ≠ w.heap.size; omega
   ·refine Below.alloc ((((bw5.setCell ?_ _).setCell ?_ _).setCell ?_ _).setCell ?_ _) ?_ _
    ·exact Nat.le_refl _
    ·exact Nat.le_refl _
    ·exact Nat.le_refl _
    ·exact Nat.le_refl _
    ·simp; omega
set_option maxHeartbeats 8000000 in
theorem qoffsetsOf_c (n gl L k : Nat) (c o p : Nat → Nat) (F : Nat → Bool) (w : World) (hn : n ≤ 69906) (hl : Cel w gl (blP n c o n) 120) (hc : ∀ i, i < n → c i ≤ 15) (p0 : p 0 = 0) (hp : ∀ i, i < n → p (i + 1) = p i + kwd (c i)) (hpL : ∀ i, i < n → p (i + 1) ≤ L) (hL : p n = L) (hLb : L ≤ 1048576) (ho : ∀ i, i < n → o i < 2 ^ kwd (c i)) (hF : ∀ i, i < n → ∀ t, t < kwd (c i) → (o i).testBit t = F (p i + t)) (hk : k = (L + 63) / 64) (HG : GV w) :
  Calls Tryz.prog 72 #[.slice (some ⟨gl, 0, none⟩) n n, .int .i64 (L : Nat)] w fun e w' => ∃ g, e = .returned (.agg #[.int .i64 (L : Nat), .slice (some ⟨g, 0, none⟩) k k]) ∧ w.heap.size ≤ g ∧ Own w' g (rowOf L F) ∧ Below w.heap.size w w' := by
 have HN : Hid (∀ w0, Calls Tryz.prog 115 #[.int .i64 (L : Nat)] w0 fun e w' => ∃ g, e = .returned (.agg #[.int .i64 (L : Nat), .slice (some ⟨g, 0, none⟩) k k]) ∧ w0.heap.size ≤ g ∧ Own w' g (rowP L F (p 0)) ∧ Below w0.heap.size w0 w') := by
  intro w0
  rw [p0, rowP_zero]
  exact qnoughts_c L k hLb hk w0
 have HLy : Hid (∀ (g q : Nat) w0, q < n → Own w0 g (rowP L F (p q)) → Calls Tryz.prog 117 #[.slice (some ⟨g, 0, none⟩) k k, .int .i64 (p q : Nat), .int .u64 (o q : Nat)] w0 fun e w' => e = .returned (.tuple #[]) ∧ Own w' g (rowP L F (p (q + 1))) ∧ Turned g w0 w') := by
  intro g q w0 hq h0
  have kb := kwd_le13 (c q) (hc q hq)
  have h1 := hp q hq
  have h2 := hpL q hq
  have o2 := ho q hq
  have o64 : o q < 18446744073709551616 := Nat.lt_of_lt_of_le o2 (Nat.pow_le_pow_right (n := 2) (j := 64) (by decide) (by omega))
  have := qlay_l (rowP L F (p q)) k g k (p q) (o q) w0 (by rw [length_rowP, hk]) h0 (by omega) (fit_rowP _ _ _) o64 (rowP_room L F (p q) (kwd (c q)) (o q) (by omega) (by omega) o2)
  rw [rowP_put L F (p q) (kwd (c q)) (o q) (by omega) (by omega) o2 (hF q hq), ← h1] at this
  exact this
 have HC := hide hc
 have HPs := hide hp
 have HPL : Hid (∀ i, i ≤ n → p i ≤ L) := fun i hi => by
  by_cases z : i = 0
  ·rw [z, p0]; omega
  ·have := hpL (i - 1) (by omega)
   rw [show i - 1 + 1 = i by omega] at this
   exact this
 have HLn : Hid (rowP L F (p n) = rowOf L F) := by
  show rowP L F (p n) = rowOf L F
  rw [hL, rowP_all]
 have HP0 := hide p0
 have lgl := hl.lt
 clear hc hp hpL hL ho hF hk p0
 obtain ⟨W, hW⟩ : ∃ W, W = w.alloc (.cells #[.int .i64 0, .slice none 0 0] 24) := ⟨_, rfl⟩
 have bW : Below w.heap.size w W := by rw [hW]; exact below_alloc w _
 have zW : W.heap.size = w.heap.size + 1 := by rw [hW]; simp
 have B1 : Tb W 1 (vI wdL) := HG.wd.kept bW
 have L0 := HG.two
 have B2 : Cel W w.heap.size [.int .i64 0, .slice none 0 0] 24 := by rw [hW]; exact Cel.new w _ _
 replace hl := hl.kept bW
 go_enter Tryz.func72, Tryz.ntmps72
 go_wp2_with fail
 rw [← hW]
 refine (HN.out _).mono ?_
 rintro e w2 ⟨g, rfl, hg, hO, hb⟩
 have bw2 := bW.trans (hb.mono bW.size)
 have z2 := hb.size
 replace B1 := B1.kept hb
 replace B2 := B2.kept hb
 replace hl := hl.kept hb
 have lg := hO.lt
 have HO := hide hO
 clear hb hW bW HN hO
 go_wp2
 go_loopw [6, 13] (fun a t wr => ∃ q : Nat, q ≤ n ∧ t = .int .i64 q ∧ a = .int .i64 (p q : Nat) ∧ Tb wr 1 (vI wdL) ∧ Cel wr w.heap.size [.int .i64 0, .slice none 0 0] 24 ∧ Cel wr w2.heap.size [.int .i64 (L : Nat), .slice (some ⟨g, 0, none⟩) k k] 24 ∧ Own wr g (rowP L F (p q)) ∧ Cel wr gl (blP n c o n) 120 ∧ Below w.heap.size w wr) (fun _ t _ => n - (intOf t).toNat)
 case atStart =>
  have hA := below_alloc w2 (.cells #[.int .i64 (L : Nat), .slice (some ⟨g, 0, none⟩) k k] 24)
  exact ⟨0, Nat.zero_le _, rfl, by rw [HP0.out]; rfl, B1.kept hA, B2.kept hA, Cel.new w2 _ _, HO.out.keep hA, hl.kept hA, bw2.trans (hA.mono bw2.size)⟩
 case round =>
  obtain ⟨q, hq, rfl, rfl, B1, B2, B3, hO, hl, hb⟩ := hrel
  clear HO
  by_cases hqn : q < n
  ·have hqn2 : (q : Int) < (n : Int) := by omega
   have cq15 := HC.out q hqn
   have pq := HPL.out q hq
   have kb := kwd_le13 (c q) cq15
   have HLq : Hid (∀ w0, Own w0 g (rowP L F (p q)) → Calls Tryz.prog 117 #[.slice (some ⟨g, 0, none⟩) k k, .int .i64 (p q : Nat), .int .u64 (o q : Nat)] w0 fun e w' => e = .returned (.tuple #[]) ∧ Own w' g (rowP L F (p (q + 1))) ∧ Turned g w0 w') := fun w0 h0 => HLy.out g q w0 hqn h0
   have HWd : Hid ((vI wdL)[c q]? = some (.int .i64 (kwd (c q) : Nat))) := by
    show (vI wdL)[c q]? = _
    rw [vI_get wdL (c q) (by rw [length_wdL]; omega), gt_wdL _ cq15]
   have x0 := hl.cell (q * 2) (blP_fst n c o q hqn)
   have x1 := hl.cell (q * 2 + 1) (blP_snd n c o q hqn)
   have hps := hide (HPs.out q hqn)
   have cli : ((c q : Nat) : Int) < 16 := by omega
   generalize hp1 : p (q + 1) = p1 at *
   generalize hc0 : c q = cq at *
   generalize ho0 : o q = oq at *
   generalize hpq : p q = pq' at *
   generalize kwd cq = kq at *
   have r1 := B3.cell 1 rfl
   have l3 := B3.lt
   have lgr := hO.lt
   have zr := hb.size
   obtain ⟨U, hU⟩ : ∃ U, U = wr.alloc (.cells #[.int .i64 (cq : Nat), .int .u64 (oq : Nat)] 120) := ⟨_, rfl⟩
   have hbU : Below wr.heap.size wr U := by rw [hU]; exact below_alloc wr _
   have B5 : Cel U wr.heap.size [.int .i64 (cq : Nat), .int .u64 (oq : Nat)] 120 := by rw [hU]; exact Cel.new wr _ _
   replace B1 := B1.kept hbU
   replace B2 := B2.kept hbU
   replace B3 := B3.kept hbU
   replace hl := hl.kept hbU
   have hO2 := hO.keep hbU
   have bU := hb.trans (hbU.mono hb.size)
   clear HLy hbU hO
   go_wp2_with fail
   rw [← hU]
   refine (HLq.out _ hO2).mono ?_
   rintro e w4 ⟨rfl, hO4, hT⟩
   replace B1 := hT.tb B1 (by omega)
   replace B2 := hT.cel B2 (by omega)
   replace B3 := hT.cel B3 (by omega)
   replace B5 := hT.cel B5 (by omega)
   replace hl := hT.cel hl (by omega)
   have b4 := bU.trans (hT.below (B := w.heap.size) (by omega))
   have c0 := B5.cell 0 rfl
   have wd := B1.cell cq HWd.out
   clear hT hU HLq x0 x1 r1 hO2 bU
   go_wp2
   refine ⟨⟨q + 1, by omega, by go_num, ?_, B1, B2, B3, by rw [hp1]; exact hO4, hl, b4⟩, by simp only [intOf]; omega⟩
   rw [hp1, hps.out]
   exact congrArg (Value.int IntKind.i64) (by omega)
  ·obtain rfl : q = n := by omega
   have r0 := B3.cell 0 rfl
   have r1 := B3.cell 1 rfl
   have f0 := B2.frozen 0
   have f1 := B2.frozen 1
   have n0 := B2.cell 0 rfl
   have n1 := B2.cell 1 rfl
   rw [HLn.out] at hO
   clear HLy HLn
   go_wp2
   refine bodyPost_ret (result_cel1 rfl w.heap.size [.int .i64 (L : Nat), .slice (some ⟨g, 0, none⟩) k k] rfl ((B2.set 0 _).set 1 _) Tryz.underlying24 r8info_b) rfl ⟨g, rfl, by omega, (hO.set_other (by show g ≠ w.heap.size; omega) _).set_other (by show g ≠ w.heap.size; omega) _, (hb.setCell (by show w.heap.size ≤ w.heap.size; omega) _).setCell (by show w.heap.size ≤ w.heap.size; omega) _⟩
end Go.Proofs.YtpeecabfcgijhaaGreatDoor
