/-
  The contract of the document's Whole of layer 9. The contracts of the document's Check, Bits, Access, Rank and Select, over that of its Whole. The contracts of the document's functions of layer 9, over rows by places as values. The contract of the document's Build of layer 9. The contract of the document's Whole.
-/
import Derived.Test.YtpeecabfcgijhaaGreatDoorT34
import Derived.Test.YtpeecabfcgijhaaGreatDoorT11
import Derived.Test.YtpeecabfcgijhaaGreatDoorT07
import Derived.Test.YtpeecabfcgijhaaGreatDoorT08
import Derived.Test.YtpeecabfcgijhaaGreatDoorT02
import Derived.Test.YtpeecabfcgijhaaGreatDoorT12
import Derived.Test.YtpeecabfcgijhaaGreatDoorT13
import Derived.Test.YtpeecabfcgijhaaGreatDoorT32
set_option linter.unusedVariables false
set_option linter.unusedSimpArgs false
set_option maxRecDepth 100000
set_option maxHeartbeats 16000000
namespace Go.Proofs.YtpeecabfcgijhaaGreatDoor
open Go.RowKit Num Bit
theorem row9_c (N M k V LM : Int) (ao : Option Addr) (xs : List Nat) (cap : Nat) (H : Int) (qo : Option Addr) (ys : List Nat) (dap : Nat) (w : World) (hx : Wd w ao xs) (fx : Fit xs) (hy : Wd w qo ys) (fy : Fit ys) :
  Calls Tryz.prog 156 #[.agg #[.int .i64 N, .int .i64 M, .int .i64 k, .int .i64 V, .int .i64 LM, .slice ao xs.length cap, .int .i64 H, .slice qo ys.length dap]] w (ROut (fRow ⟨N, M, k, V, LM, xs, H, ys⟩) w) := by
 by_cases P : (0 ≤ N ∧ N ≤ 1048576 ∧ 0 ≤ M ∧ M ≤ N) ∧ ichk k V LM xs = true ∧ chk H ys = true
 ·obtain ⟨⟨p1, p2, p3, p4⟩, p5, p6⟩ := P
  obtain ⟨v1, v2, v3, v4, v5, v6, v7, v8⟩ := ichk_out _ _ _ _ p5
  obtain ⟨u1, u2, u3, u4⟩ := chk_out _ _ p6
  obtain ⟨n, rfl⟩ := Int.eq_ofNat_of_zero_le p1
  obtain ⟨mm, rfl⟩ := Int.eq_ofNat_of_zero_le p3
  obtain ⟨kn, rfl⟩ := Int.eq_ofNat_of_zero_le v3
  obtain ⟨vn, rfl⟩ := Int.eq_ofNat_of_zero_le (show 0 ≤ V by omega)
  obtain ⟨hh, rfl⟩ := Int.eq_ofNat_of_zero_le u1
  exact row9_main n mm kn vn hh LM ao xs cap qo ys dap w hx fx hy fy (by omega) (by omega) p5 p6
 ·rw [fRow_bad ⟨N, M, k, V, LM, xs, H, ys⟩ (fun h => P ⟨h.1, h.2.1, h.2.2.1⟩)]
  exact row9_bad N M k V LM H ao xs cap qo ys dap w hx fx hy fy P
def WO9 (N : Int) (X : List Nat) (S : Bool) (w : World) (e : Ending) (w' : World) : Prop := ∃ bo bc, e = .returned (.tuple #[.agg #[.int .i64 N, .slice bo X.length bc], .bool S]) ∧ Wd w' bo X ∧ X.length ≤ bc ∧ Below w.heap.size w w'
theorem fRow_n (a : FA) (l : List Nat) (h : fRow a = some l) : 0 ≤ a.N ∧ Rise l a.N.toNat := by
 unfold fRow at h
 simp only at h
 split at h
 ·rename_i c
  exact ⟨c.1.1, (fdec_len _ _ _ _ _ _ h).2⟩
 ·cases h
theorem f9whole_none (N M k V LM : Int) (ao : Option Addr) (xs : List Nat) (cap : Nat) (H : Int) (qo : Option Addr) (ys : List Nat) (dap : Nat) (w : World) (RC : Hid (∀ w0, Below w.heap.size w w0 → Calls Tryz.prog 156 #[.agg #[.int .i64 N, .int .i64 M, .int .i64 k, .int .i64 V, .int .i64 LM, .slice ao xs.length cap, .int .i64 H, .slice qo ys.length dap]] w0 fun e w' => e = .returned (.tuple #[.slice none 0 0, .bool false]) ∧ Below w0.heap.size w0 w')) :
  Calls Tryz.prog 106 #[.agg #[.int .i64 N, .int .i64 M, .int .i64 k, .int .i64 V, .int .i64 LM, .slice ao xs.length cap, .int .i64 H, .slice qo ys.length dap]] w fun e w' => e = .returned (.tuple #[.agg #[.int .i64 0, .slice none 0 0], .bool false]) ∧ Below w.heap.size w w' := by
 obtain ⟨W, hW⟩ : ∃ W, W = (w.alloc (.cells #[.int .i64 N, .int .i64 M, .int .i64 k, .int .i64 V, .int .i64 LM, .slice ao xs.length cap, .int .i64 H, .slice qo ys.length dap] 35)).alloc (.cells #[.int .i64 0, .slice none 0 0] 24) := ⟨_, rfl⟩
 have bW := yb2 hW
 have B1 := yc3 hW
 have B2 := yc2 hW
 go_enter Tryz.func106, Tryz.ntmps106
 go_wp2_with fail
 rw [← hW]
 refine (RC.out _ bW).mono ?_
 rintro e w1 ⟨rfl, hb⟩
 have bw1 := bW.trans (hb.mono bW.size)
 replace B2 := B2.kept hb
 clear hb bW hW RC B1
 go_wp2_with (refine store_cel (w.heap.size + 1) [.int .i64 0, .slice none 0 0] [.int .i64 0, .slice none 0 0] rfl rfl B2 rfl info_b2 (by simp [Value.oneCell']) ?_)
 intro w3 B3 O3
 have HZ := hide9 (And.intro B3 (bw1.trans (O3.below (Nat.le_succ _))))
 clear B3 O3 B2
 go_wp2
 (try simp only [Exit.inBlock, Exit.then])
 exact bodyPost_ret (result_cel rfl (w.heap.size + 1) _ rfl HZ.out.1 Tryz.underlying24 info_b2) rfl ⟨rfl, HZ.out.2⟩
theorem f9whole_some (n : Nat) (M k V LM : Int) (ao : Option Addr) (xs : List Nat) (cap : Nat) (H : Int) (qo : Option Addr) (ys : List Nat) (dap : Nat) (l : List Nat) (w : World) (hn : n ≤ 3000) (hr : Rise l n) (y1 y2 y3 y4 y5 y7 : Int) (y6 y8 : Nat) (S : Bool)
  (RC : Hid (∀ w0, Below w.heap.size w w0 → Calls Tryz.prog 156 #[.agg #[.int .i64 (n : Nat), .int .i64 M, .int .i64 k, .int .i64 V, .int .i64 LM, .slice ao xs.length cap, .int .i64 H, .slice qo ys.length dap]] w0 fun e w' => ∃ so sc, e = .returned (.tuple #[.slice so l.length sc, .bool true]) ∧ Nd w' so (lz l) ∧ l.length ≤ sc ∧ Below w0.heap.size w0 w'))
  (YP : World → Option Addr → Nat → Option Addr → Nat → Prop) (yk : ∀ w1 w2 yo yc zo zc, YP w1 yo yc zo zc → Below w1.heap.size w1 w2 → YP w2 yo yc zo zc)
  (OC : Hid (∀ w0 so sc, Nd w0 so (lz l) → Calls Tryz.prog 96 #[.int .i64 (n : Nat), .slice so l.length sc] w0 fun e w' => ∃ yo yc zo zc, e = .returned (.tuple #[.agg #[.int .i64 y1, .int .i64 y2, .int .i64 y3, .int .i64 y4, .int .i64 y5, .slice yo y6 yc, .int .i64 y7, .slice zo y8 zc], .int .i64 0]) ∧ YP w' yo yc zo zc ∧ Below w0.heap.size w0 w'))
  (SC : Hid (∀ w0 yo yc zo zc, Below w.heap.size w w0 → YP w0 yo yc zo zc → Calls Tryz.prog 46 #[.agg #[.int .i64 (n : Nat), .int .i64 M, .int .i64 k, .int .i64 V, .int .i64 LM, .slice ao xs.length cap, .int .i64 H, .slice qo ys.length dap], .agg #[.int .i64 y1, .int .i64 y2, .int .i64 y3, .int .i64 y4, .int .i64 y5, .slice yo y6 yc, .int .i64 y7, .slice zo y8 zc]] w0 fun e w' => e = .returned (.bool S) ∧ Below w0.heap.size w0 w')) :
  Calls Tryz.prog 106 #[.agg #[.int .i64 (n : Nat), .int .i64 M, .int .i64 k, .int .i64 V, .int .i64 LM, .slice ao xs.length cap, .int .i64 H, .slice qo ys.length dap]] w (WO9 (if S = true then (n : Int) else 0) (if S = true then rowOf n (isIn l) else []) S w) := by
 obtain ⟨i4, hi4, za4, zb4, zc4⟩ := info_parts info4_9
 obtain ⟨W, hW⟩ : ∃ W, W = (w.alloc (.cells #[.int .i64 (n : Nat), .int .i64 M, .int .i64 k, .int .i64 V, .int .i64 LM, .slice ao xs.length cap, .int .i64 H, .slice qo ys.length dap] 35)).alloc (.cells #[.int .i64 0, .slice none 0 0] 24) := ⟨_, rfl⟩
 have bW := yb2 hW
 have B1 := yc3 hW
 have B2 := yc2 hW
 cases S with
 | false =>
  go_enter Tryz.func106, Tryz.ntmps106
  go_wp2_with fail
  rw [← hW]
  refine (RC.out _ bW).mono ?_
  rintro e w1 ⟨so, sc, rfl, hN, hsc, hb⟩
  have bw1 := bW.trans (hb.mono bW.size)
  replace B1 := B1.kept hb
  replace B2 := B2.kept hb
  have q0 := B1.cell 0 rfl
  clear hb bW hW RC
  go_wp2_with fail
  refine (OC.out _ _ _ hN).mono ?_
  rintro e w2 ⟨yo, yc, zo, zc, rfl, hY, hb⟩
  have bw2 := bw1.trans (hb.mono bw1.size)
  replace B1 := B1.kept hb
  replace B2 := B2.kept hb
  clear hb OC bw1 q0
  have bA := below_alloc w2 (.cells #[.int .i64 y1, .int .i64 y2, .int .i64 y3, .int .i64 y4, .int .i64 y5, .slice yo y6 yc, .int .i64 y7, .slice zo y8 zc] 35)
  have D6 := Cel.new w2 [.int .i64 y1, .int .i64 y2, .int .i64 y3, .int .i64 y4, .int .i64 y5, .slice yo y6 yc, .int .i64 y7, .slice zo y8 zc] 35
  have E1 := B1.kept bA
  have E2 := B2.kept bA
  have hY2 := yk _ _ _ _ _ _ hY bA
  have bw3 := bw2.trans (bA.mono bw2.size)
  clear B1 B2 hY bA
  go_wp2_with (first | refine load_obj w.heap.size _ (by rfl) rfl E1 Tryz.underlying35 info_f8 ?_ | refine load_obj w2.heap.size _ (by rfl) rfl D6 Tryz.underlying35 info_f8 ?_)
  refine (SC.out _ _ _ _ _ bw3 hY2).mono ?_
  rintro e w4 ⟨rfl, hb⟩
  have bw4 := bw3.trans (hb.mono bw3.size)
  replace E2 := E2.kept hb
  clear hb SC D6 E1 hY2 bw3
  go_wp2_with (refine store_cel (w.heap.size + 1) [.int .i64 0, .slice none 0 0] [.int .i64 0, .slice none 0 0] rfl rfl E2 rfl info_b2 (by simp [Value.oneCell']) ?_)
  intro w5 B3 O3
  have HZ := hide9 (And.intro B3 (bw4.trans (O3.below (Nat.le_succ _))))
  clear B3 O3 E2
  go_wp2
  (try simp only [Exit.inBlock, Exit.then])
  exact bodyPost_ret (result_cel rfl (w.heap.size + 1) _ rfl HZ.out.1 Tryz.underlying24 info_b2) rfl (show WO9 0 [] false w _ _ from ⟨none, 0, rfl, wd0' _ _, Nat.zero_le _, HZ.out.2⟩)
 | true =>
  have FR : Hid (∀ (w0 : World) (g : Nat), Cel w0 g (bvs n (isIn l)) 4 → Calls Tryz.prog 95 #[.slice (some ⟨g, 0, none⟩) n n] w0 fun e w' => ∃ g', e = .returned (.tuple #[.agg #[.int .i64 (n : Nat), .slice (some ⟨g', 0, none⟩) (rowOf n (isIn l)).length (rowOf n (isIn l)).length], .int .i64 0]) ∧ w0.heap.size ≤ g' ∧ Own w' g' (rowOf n (isIn l)) ∧ Below w0.heap.size w0 w') := fun w0 g h => by
   have hlen : (bls n (isIn l)).length = n := by simp [bls]
   have h3 := reffrom_ok (some ⟨g, 0, none⟩) (bls n (isIn l)) n _ w0 (bl_cel h) (by rw [hlen]; omega) rfl
   rw [fromS_all] at h3
   have e6 : frL (bls n (isIn l)) = rowOf n (isIn l) := by
    unfold frL
    rw [hlen]
    refine rowOf_congr n _ _ fun i hi => ?_
    unfold bt bls
    rw [List.getD_eq_getElem?_getD, List.getElem?_map, List.getElem?_range hi]
    rfl
   have e5 : (rowOf n (isIn l)).length = (n + 63) / 64 := length_rowOf _ _
   rw [hlen, e6] at h3
   rw [e5]
   exact h3
  generalize hYY : rowOf n (isIn l) = YY at *
  clear hYY
  go_enter Tryz.func106, Tryz.ntmps106
  go_wp2_with fail
  rw [← hW]
  refine (RC.out _ bW).mono ?_
  rintro e w1 ⟨so, sc, rfl, hN, hsc, hb⟩
  have bw1 := bW.trans (hb.mono bW.size)
  replace B1 := B1.kept hb
  replace B2 := B2.kept hb
  have q0 := B1.cell 0 rfl
  clear hb bW hW RC
  go_wp2_with fail
  refine (OC.out _ _ _ hN).mono ?_
  rintro e w2 ⟨yo, yc, zo, zc, rfl, hY, hb⟩
  have bw2 := bw1.trans (hb.mono bw1.size)
  replace B1 := B1.kept hb
  replace B2 := B2.kept hb
  replace hN := Nd.keep hN hb
  clear hb OC bw1 q0
  have bA := below_alloc w2 (.cells #[.int .i64 y1, .int .i64 y2, .int .i64 y3, .int .i64 y4, .int .i64 y5, .slice yo y6 yc, .int .i64 y7, .slice zo y8 zc] 35)
  have D6 := Cel.new w2 [.int .i64 y1, .int .i64 y2, .int .i64 y3, .int .i64 y4, .int .i64 y5, .slice yo y6 yc, .int .i64 y7, .slice zo y8 zc] 35
  have E1 := B1.kept bA
  have E2 := B2.kept bA
  have hY2 := yk _ _ _ _ _ _ hY bA
  have bw3 := bw2.trans (bA.mono bw2.size)
  replace hN := Nd.keep hN bA
  clear B1 B2 hY bA
  go_wp2_with (first | refine load_obj w.heap.size _ (by rfl) rfl E1 Tryz.underlying35 info_f8 ?_ | refine load_obj w2.heap.size _ (by rfl) rfl D6 Tryz.underlying35 info_f8 ?_)
  refine (SC.out _ _ _ _ _ bw3 hY2).mono ?_
  rintro e w4 ⟨rfl, hb⟩
  have bw4 := bw3.trans (hb.mono bw3.size)
  replace E1 := E1.kept hb
  replace E2 := E2.kept hb
  replace hN := Nd.keep hN hb
  clear hb SC D6 hY2 bw3 bw2
  have gl := E2.lt
  have q0 := E1.cell 0 rfl
  go_wp2_with (at_make; refine wpList_make_full _ rfl _ _ 130 rfl w4.heap.size 4 i4 (.bool false) 1 Tryz.underlying130 hi4 za4 zb4 .i64 .i64 _ _ n rfl rfl rfl rfl ?b2 ?b3 ?b4 ?_)
  case b2 => rw [zc4]; omega
  case b3 => unfold maxLen; omega
  case b4 => exact Nat.le_refl _
  intro w5 hown hgr
  have hB := bcel_made hown
  have bG : Below w4.heap.size w4 w5 := (Below.refl _ _).grown hgr (Nat.le_refl _) (fun k h => by cases h)
  replace E2 := E2.kept bG
  have bw5 := bw4.trans (bG.mono bw4.size)
  have bz := bw4.size
  clear hown hgr bw4 E1 q0
  have hN2 : Hid (∀ q, q < l.length → ∃ b off, so = some ⟨b, off, none⟩ ∧ b < w4.heap.size ∧ w5.cell? ⟨b, off + q, none⟩ = some (.int .i64 (gt l q : Nat))) := fun q hq => by
   obtain ⟨b, off, e, hbl, hcel⟩ := hN (by rw [length_lz]; omega)
   have h1 := hcel q (by rw [length_lz]; exact hq)
   rw [gi_lz] at h1
   exact ⟨b, off, e, hbl, (bG.cell (p := ⟨b, off + q, none⟩) hbl).trans h1⟩
  clear hN bG
  generalize w4.heap.size = g at *
  go_wp2
  go_loopw [9] (fun iv wr => ∃ q : Nat, q ≤ l.length ∧ iv = .int .i64 q ∧ Cel wr g (bvs n (isIn (l.take q))) 4 ∧ Only g w5 wr) (fun iv _ => l.length - (intOf iv).toNat)
  case atStart => exact ⟨0, Nat.zero_le _, rfl, by rw [bvs_congr n (isIn (l.take 0)) (fun _ => false) (fun i _ => by simp [isIn])]; exact hB, Only.refl _ _⟩
  case round =>
   obtain ⟨q, hq, rfl, hC, hOn⟩ := hrel
   by_cases hlt : q < l.length
   ·have hlt2 : (q : Int) < (l.length : Int) := by omega
    obtain ⟨b, off, rfl, hbl, hc5⟩ := hN2.out q hlt
    have cq : wr.cell? ⟨b, off + q, none⟩ = some (.int .i64 (gt l q : Nat)) := (World.cell?_of_block (w := w5) (hOn.block b (by omega))).trans hc5
    have xl := hr.1 q hlt
    have lln := hr.len
    have ql3 : q < 3000 := by omega
    clear lln
    have ST := hide9 (isIn_snoc (l.take q) (gt l q))
    have TK := hide9 (take_snoc' l q hlt)
    have cj := hC.cell (gt l q) (bvs_get _ _ _ xl)
    have fj := hC.frozen (gt l q)
    have st := hC.set (gt l q) (.bool true)
    rw [bvs_set] at st
    have HS : Hid (Cel (wr.setCell ⟨g, gt l q, none⟩ (.bool true)) g (bvs n (isIn (l.take (q + 1)))) 4 ∧ Only g w5 (wr.setCell ⟨g, gt l q, none⟩ (.bool true))) := by
     refine ⟨?_, hOn.set _ _⟩
     rw [TK.out, bvs_congr n _ _ (fun i _ => ST.out i)]
     exact st
    have xl2 : (gt l q : Int) < (n : Int) := by omega
    clear st hc5 hC hOn
    generalize gt l q = x at *
    go_wp2
    exact ⟨⟨q + 1, by omega, by go_num, HS.out.1, HS.out.2⟩, by simp only [intOf]; omega⟩
   ·obtain rfl : q = l.length := by omega
    rw [List.take_of_length_le (Nat.le_refl _)] at hC
    have F1 := hide9 (FR.out wr g hC)
    have E3 := hOn.cel E2 (by omega)
    have bw6 := bw5.trans (hOn.below (by omega))
    have e3l := E3.lt
    clear FR hC hOn hB E2 bw5
    go_wp2_with fail
    refine F1.out.mono ?_
    rintro e w6 ⟨g', rfl, hg', hO, hb⟩
    replace E3 := E3.kept hb
    have bw7 := bw6.trans (hb.mono bw6.size)
    clear hb F1
    have bA := below_alloc w6 (.cells #[.int .i64 (n : Nat), .slice (some ⟨g', 0, none⟩) YY.length YY.length] 24)
    have D7 := Cel.new w6 [.int .i64 (n : Nat), .slice (some ⟨g', 0, none⟩) YY.length YY.length] 24
    have E4 := E3.kept bA
    have hO2 := hO.keep bA
    have bw8 := bw7.trans (bA.mono bw7.size)
    have gx : g' ≠ w.heap.size + 1 := by omega
    clear E3 hO bA bw6 bw7
    go_wp2_with (first | refine load_cel w6.heap.size _ rfl D7 Tryz.underlying24 info_b2 ?_ | refine store_cel (w.heap.size + 1) [.int .i64 0, .slice none 0 0] _ rfl rfl E4 rfl info_b2 (by simp [Value.oneCell']) ?_)
    intro w9 B3 O3
    have hO3 : Own w9 g' YY := (O3.block g' gx).trans hO2
    have HZ := hide9 (And.intro B3 (And.intro hO3 (bw8.trans (O3.below (Nat.le_succ _)))))
    clear B3 O3 hO2 hO3 D7 E4 bw8
    go_wp2
    (try simp only [Exit.inBlock, Exit.then])
    exact bodyPost_ret (result_cel rfl (w.heap.size + 1) _ rfl HZ.out.1 Tryz.underlying24 info_b2) rfl (show WO9 (n : Int) YY true w _ _ from ⟨some ⟨g', 0, none⟩, YY.length, rfl, HZ.out.2.1.wd, Nat.le_refl _, HZ.out.2.2⟩)
theorem f9check_g (c0 c1 c2 c3 c4 c5 c6 c7 : Value) (ok : Bool) (N : Int) (X : List Nat) (w : World) (hf : Fit X) (hck : ok = true → chk N X = true) (C1 : Hid (∀ w0, Below w.heap.size w w0 → Calls Tryz.prog 106 #[.agg #[c0, c1, c2, c3, c4, c5, c6, c7]] w0 fun e w' => ∃ bo bc, e = .returned (.tuple #[.agg #[.int .i64 N, .slice bo X.length bc], .bool ok]) ∧ Wd w' bo X ∧ X.length ≤ bc ∧ Below w0.heap.size w0 w')) :
  Calls Tryz.prog 102 #[.agg #[c0, c1, c2, c3, c4, c5, c6, c7]] w fun e w' => e = .returned (.bool ok) ∧ Below w.heap.size w w' := by
 obtain ⟨W, hW⟩ : ∃ W, W = w.alloc (.cells #[c0, c1, c2, c3, c4, c5, c6, c7] 35) := ⟨_, rfl⟩
 have bW := yb1 hW
 go_enter Tryz.func102, Tryz.ntmps102
 go_wp2_with fail
 rw [← hW]
 refine (C1.out _ bW).mono ?_
 rintro e w1 ⟨bo, bc, rfl, hx, hbc, hb⟩
 have bw1 := bW.trans (hb.mono bW.size)
 clear hb C1
 have bA := below_alloc w1 (.cells #[.int .i64 N, .slice bo X.length bc] 24)
 have bw2 := bw1.trans (bA.mono bw1.size)
 go_wp2
 go_ret
 exact ⟨rfl, bw2⟩
theorem kOk_nat9 (a : RA9) (h : kOk9 a = true) : ∃ (n mm kn vn hh : Nat) (LM : Int) (xs ys : List Nat), a = ⟨n, mm, kn, vn, LM, xs, hh, ys⟩ := by
 obtain ⟨_, e⟩ := kOk_row a h
 rw [e]
 exact ⟨_, _, _, _, _, _, _, _, rfl⟩
theorem fSame_as (a b : FA) : (decide (a.N = b.N) && (decide (a.M = b.M) && ((decide (a.k = b.k) && (decide (a.V = b.V) && (decide (a.LM = b.LM) && decide (a.xs = b.xs)))) && (decide (a.H = b.H) && decide (a.ys = b.ys))))) = fSame a b := by
 unfold fSame
 simp only [Bool.and_assoc]
theorem f9whole_k (cs : List Value) (a : RA9) (w : World) (h : KI9 w cs a) :
  Calls Tryz.prog 106 #[.agg cs.toArray] w fun e w' => ∃ bo bc, e = .returned (.tuple #[.agg #[.int .i64 (kBN9 a), .slice bo (kBX9 a).length bc], .bool (kOk9 a)]) ∧ Wd w' bo (kBX9 a) ∧ (kBX9 a).length ≤ bc ∧ Below w.heap.size w w' := by
 obtain ⟨⟨ao, cap, qo, dap, rfl, _, a1, a2, a3, a4, a5, a6⟩, n3, xl, yl⟩ := h
 obtain ⟨N, M, k, V, LM, xs, H, ys⟩ := a
 dsimp only at *
 have RC := fun (w0 : World) (hb : Below w.heap.size w w0) => row9_c N M k V LM ao xs cap H qo ys dap w0 (a1.keep hb) a2 (a4.keep hb) a5
 cases hrow : fRow ⟨N, M, k, V, LM, xs, H, ys⟩ with
 | none =>
  rw [hrow] at RC
  have ok : kOk9 ⟨N, M, k, V, LM, xs, H, ys⟩ = false := by unfold kOk9; rw [hrow]
  have e1 : kBN9 ⟨N, M, k, V, LM, xs, H, ys⟩ = 0 := by unfold kBN9; rw [ok]; rfl
  have e2 : kBX9 ⟨N, M, k, V, LM, xs, H, ys⟩ = [] := by unfold kBX9; rw [ok]; rfl
  rw [ok, e1, e2]
  refine (f9whole_none N M k V LM ao xs cap H qo ys dap w RC).mono ?_
  rintro e w' ⟨rfl, hb⟩
  exact ⟨none, 0, rfl, wd0' _ _, Nat.zero_le _, hb⟩
 | some l =>
  rw [hrow] at RC
  obtain ⟨n0, hr⟩ := fRow_n _ l hrow
  dsimp only at n0 hr
  obtain ⟨n, rfl⟩ := Int.eq_ofNat_of_zero_le n0
  rw [Int.toNat_natCast] at hr
  have hn : n ≤ 3000 := by omega
  have ok : kOk9 ⟨n, M, k, V, LM, xs, H, ys⟩ = fSame ⟨n, M, k, V, LM, xs, H, ys⟩ (fOf n l) := by unfold kOk9; rw [hrow]; rfl
  have e0 : kRow ⟨n, M, k, V, LM, xs, H, ys⟩ = l := by unfold kRow; rw [hrow]; rfl
  have e1 : kBN9 ⟨n, M, k, V, LM, xs, H, ys⟩ = if kOk9 ⟨n, M, k, V, LM, xs, H, ys⟩ = true then (n : Int) else 0 := rfl
  have e2 : kBX9 ⟨n, M, k, V, LM, xs, H, ys⟩ = if kOk9 ⟨n, M, k, V, LM, xs, H, ys⟩ = true then rowOf n (isIn l) else [] := by unfold kBX9; rw [e0]; rfl
  rw [e1, e2]
  refine f9whole_some n M k V LM ao xs cap H qo ys dap l w hn hr (fOf n l).N (fOf n l).M (fOf n l).k (fOf n l).V (fOf n l).LM (fOf n l).H (fOf n l).xs.length (fOf n l).ys.length _ RC (fun w0 yo yc zo zc => Wd w0 yo (fOf n l).xs ∧ Wd w0 zo (fOf n l).ys) (fun w1 w2 yo yc zo zc h hb => ⟨h.1.keep hb, h.2.keep hb⟩) ?_ ?_
  ·intro w0 so sc hN
   refine (of9_c n so l sc w0 hN hr hn).mono ?_
   rintro e w' ⟨bo, bc, qo', qc, rfl, ⟨h1, _, h2, _⟩, hb⟩
   exact ⟨bo, bc, qo', qc, rfl, ⟨h1, h2⟩, hb⟩
  ·intro w0 yo yc zo zc hb hY
   have := f9same_c (n : Int) M k V LM ao xs cap H qo ys dap (fOf n l).N (fOf n l).M (fOf n l).k (fOf n l).V (fOf n l).LM yo (fOf n l).xs yc (fOf n l).H zo (fOf n l).ys zc w0 (a1.keep hb) hY.1 (a4.keep hb) hY.2 xl yl
   rw [fSame_as ⟨n, M, k, V, LM, xs, H, ys⟩ (fOf n l), ← ok] at this
   exact this
theorem f9check_k (cs : List Value) (a : RA9) (w : World) (h : KI9 w cs a) :
  Calls Tryz.prog 102 #[.agg cs.toArray] w fun e w' => e = .returned (.bool (kOk9 a)) ∧ Below w.heap.size w w' := by
 have W := fun (w0 : World) (hb : Below w.heap.size w w0) => f9whole_k cs a w0 (h.keep hb)
 obtain ⟨⟨ao, cap, qo, dap, rfl, _⟩, _⟩ := h
 exact f9check_g _ _ _ _ _ _ _ _ (kOk9 a) (kBN9 a) (kBX9 a) w (kB_fit9 a) (kB_chk9 a) W
theorem f9size_k (cs : List Value) (a : RA9) (w : World) (h : KI9 w cs a) :
  Calls Tryz.prog 52 #[.agg cs.toArray] w fun e w' => e = .returned (.int .i64 (kZ9 a)) ∧ Below w.heap.size w w' := by
 have C := fun (w0 : World) (hb : Below w.heap.size w w0) => f9check_k cs a w0 (h.keep hb)
 obtain ⟨⟨ao, cap, qo, dap, rfl, _⟩, _, _, _⟩ := h
 obtain ⟨N, M, k, V, LM, xs, H, ys⟩ := a
 dsimp only at *
 obtain ⟨Z, hZ⟩ : ∃ Z, Hid (Z = kZ9 ⟨N, M, k, V, LM, xs, H, ys⟩) := ⟨_, rfl⟩
 rw [← hZ.out]
 obtain ⟨W, hW⟩ : ∃ W, W = w.alloc (.cells #[.int .i64 N, .int .i64 M, .int .i64 k, .int .i64 V, .int .i64 LM, .slice ao xs.length cap, .int .i64 H, .slice qo ys.length dap] 35) := ⟨_, rfl⟩
 have bW := yb1 hW
 have B1 := yc1 hW
 have CH : Hid (∀ w0, Below w.heap.size w w0 → Calls Tryz.prog 102 #[.agg #[.int .i64 N, .int .i64 M, .int .i64 k, .int .i64 V, .int .i64 LM, .slice ao xs.length cap, .int .i64 H, .slice qo ys.length dap]] w0 fun e w' => e = .returned (.bool (kOk9 ⟨N, M, k, V, LM, xs, H, ys⟩)) ∧ Below w0.heap.size w0 w') := C
 clear C
 cases hk : kOk9 ⟨N, M, k, V, LM, xs, H, ys⟩ with
 | false =>
  rw [hk] at CH
  have E : Hid (Z = 0) := by
   show Z = 0
   rw [hZ.out]
   unfold kZ9
   rw [hk]
   rfl
  clear hk hZ
  go_enter Tryz.func52, Tryz.ntmps52
  go_wp2_with fail
  rw [← hW]
  refine (CH.out _ bW).mono ?_
  rintro e w1 ⟨rfl, hb⟩
  have bw1 := bW.trans (hb.mono bW.size)
  clear hW
  go_wp2
  go_ret
  rw [E.out]
  exact ⟨rfl, bw1⟩
 | true =>
  rw [hk] at CH
  have E : Hid (Z = LM + H + 64) := by
   show Z = _
   rw [hZ.out]
   unfold kZ9
   rw [if_pos hk]
  obtain ⟨n, mm, kn, vn, hh, LM', xs', ys', e⟩ := kOk_nat9 _ hk
  simp only [FA.mk.injEq] at e
  obtain ⟨rfl, rfl, rfl, rfl, rfl, rfl, rfl, rfl⟩ := e
  obtain ⟨F, _⟩ := ok_fits n mm kn vn hh LM xs ys hk
  obtain ⟨_, _, _, _, _, m1, m2, _⟩ := ichk_out _ _ _ _ F.ik
  obtain ⟨l1, l2, _, _⟩ := chk_out _ _ F.ck
  clear hk hZ F
  go_enter Tryz.func52, Tryz.ntmps52
  go_wp2_with fail
  rw [← hW]
  refine (CH.out _ bW).mono ?_
  rintro e w1 ⟨rfl, hb⟩
  have bw1 := bW.trans (hb.mono bW.size)
  replace B1 := B1.kept hb
  have r4 := B1.cell 4 rfl
  have r6 := B1.cell 6 rfl
  clear hW hb
  go_wp2
  go_ret
  rw [E.out]
  exact ⟨rfl, bw1⟩
theorem step_store9 {ops : Array Oper} {d : Option Tmp} {ty T : TypeId} {ps : String} {af : Array Edge} {a : Act} {w : World} {K : Act → World → Prop} {Q : Exit → Act → World → Prop} {E : Prop} {x y : Operand}
  (g : Nat) (old cs : List Value) (hx : a.eval x = .pointer (some ⟨g, 0, none⟩)) (hy : a.eval y = .agg cs.toArray) (hc : Cel w g old T) (lo : old.length = cs.length) (hi : (Tryz.prog.info? T).map (·.size) = some cs.length) (h1 : cs.toArray.all (·.oneCell') = true)
  (h : ∀ w1, Cel w1 g cs T → Only g w w1 → K (a.put d undef) w1) :
  if Region.wanted (⟨d, .store T x y, ty, ps, af, none⟩ : Oper) (yielded ops a.tmps) = true then Oper.wp Tryz.prog (⟨d, .store T x y, ty, ps, af, none⟩ : Oper) a w K Q else E := by
 rw [if_pos (by simp [Region.wanted])]
 exact wp_store_row _ x y rfl g cs.toArray hx hy _ _ hc (by simpa using hi) (by simpa using lo) h1 (h _ (setRow_heap w g _ _ _ _ hc) (Only.row g w _))
theorem v10whole_k (cs : List Value) (a : RA) (w : World) (h : KI w cs a) :
  Calls Tryz.prog 54 #[.agg cs.toArray] w fun e w' => ∃ bo bc, e = .returned (.tuple #[.agg #[.int .i64 (kBN a), .slice bo (kBX a).length bc], .bool (kOk a)]) ∧ Wd w' bo (kBX a) ∧ (kBX a).length ≤ bc ∧ Below w.heap.size w w' := by
 have ZE0 := fun (w0 : World) (hb : Below w.heap.size w w0) => zero_c cs a w0 (h.keep hb)
 have HL := Hid.mk8 h.arg.len
 have sm := h.sm
 have gv := h.gv
 replace h := h.arg
 obtain ⟨cp, cr, cf, rfl, hK, h1, h2, h3⟩ := h
 have l4 := Hid.mk8 h1.four
 have l9 := Hid.mk8 h2.nine
 have LP := Hid.mk8 h1.len
 have LR := Hid.mk8 h2.len
 have LF := Hid.mk8 h3.len
 obtain ⟨K, p, r, f⟩ := a
 dsimp only at *
 have k7 : KI7 w cp p := ⟨h1, sm.p1, sm.p2, sm.p3⟩
 have k8 : KI8 w cr r := ⟨h2, sm.r1, sm.r2, sm.r3, sm.r4, gv⟩
 have k9 : KI9 w cf f := ⟨h3, sm.f0, sm.f1, sm.f2⟩
 have ZE : Hid (∀ w0, Below w.heap.size w w0 → Calls Tryz.prog 103 #[.agg (Value.int .i64 K :: (cp ++ (cr ++ cf))).toArray] w0 fun e w' => e = .returned (.bool (kZs ⟨K, p, r, f⟩)) ∧ Below w0.heap.size w0 w') := ZE0
 clear ZE0 h1 h2 h3 sm gv
 have bw : Below w.heap.size w ((w.alloc (.cells (Value.int .i64 K :: (cp ++ (cr ++ cf))).toArray 37)).alloc (.cells #[.int .i64 0, .slice none 0 0] 24)) := (below_alloc w _).alloc (by simp) _
 have B0 : Cel ((w.alloc (.cells (Value.int .i64 K :: (cp ++ (cr ++ cf))).toArray 37)).alloc (.cells #[.int .i64 0, .slice none 0 0] 24)) w.heap.size (Value.int .i64 K :: (cp ++ (cr ++ cf))) 37 := (Cel.new w _ _).alloc _
 have B2 : Cel ((w.alloc (.cells (Value.int .i64 K :: (cp ++ (cr ++ cf))).toArray 37)).alloc (.cells #[.int .i64 0, .slice none 0 0] 24)) (w.heap.size + 1) [.int .i64 0, .slice none 0 0] 24 := Cel.new2 w _ _ _
 cases hz : kZs ⟨K, p, r, f⟩ with
 | false =>
  have o : kOn ⟨K, p, r, f⟩ = 0 := by unfold kOn; rw [hz]; rfl
  obtain ⟨e1, e2, e3, e4⟩ := on_n (a := ⟨K, p, r, f⟩) (by omega) (by omega) (by omega)
  rw [e1, e2, e3]
  rw [hz] at ZE
  clear e1 e2 e3 e4 o hz k7 k8 k9
  go_enter Tryz.func54, Tryz.ntmps54
  go_wp2_with (refine load_obj w.heap.size _ (by rfl) rfl B0 Tryz.underlying37 HL.out ?_)
  refine (ZE.out _ bw).mono ?_
  rintro e w1 ⟨rfl, hb⟩
  replace B0 := B0.kept hb
  replace B2 := B2.kept hb
  replace bw := bw.trans (hb.mono bw.size)
  clear hb
  obtain ⟨c0, p1, p2, p3⟩ := parts l4.out l9.out B0
  go_wp2_with (refine store_cel (w.heap.size + 1) _ [.int .i64 0, .slice none 0 0] rfl rfl B2 rfl info_bv (by simp [Value.oneCell']) ?_)
  intro w3 B3 O3
  have HZ : Hid (Cel w3 (w.heap.size + 1) [.int .i64 0, .slice none 0 0] 24 ∧ Below w.heap.size w w3) := ⟨B3, bw.trans (O3.below (Nat.le_succ _))⟩
  clear B3 O3 B2 B0 c0 p1 p2 p3
  go_wp2
  (try simp only [Exit.inBlock, Exit.then])
  exact bodyPost_ret (result_cel rfl (w.heap.size + 1) _ rfl HZ.out.1 Tryz.underlying24 info_bv) rfl ⟨none, 0, rfl, wd0' _ _, Nat.le_refl _, HZ.out.2⟩
 | true =>
  have o : kOn ⟨K, p, r, f⟩ = K := by unfold kOn; rw [hz]; rfl
  rw [hz] at ZE
  clear hz
  by_cases q7 : K = 1
  ·subst q7
   obtain ⟨e1, e2, e3, e4⟩ := on_p o
   rw [e1, e2, e3]
   have C : Hid (∀ w0, Below w.heap.size w w0 → Calls Tryz.prog 104 #[.agg cp.toArray] w0 fun e w' => ∃ bo bc, e = .returned (.tuple #[.agg #[.int .i64 (kBN7 p), .slice bo (kBX7 p).length bc], .bool (kOk7 p)]) ∧ Wd w' bo (kBX7 p) ∧ (kBX7 p).length ≤ bc ∧ Below w0.heap.size w0 w') := fun w0 g => p7whole_k cp p w0 (k7.keep g)
   clear e1 e2 e3 e4 k7 k8 k9 o
   generalize kBN7 p = N at *
   generalize kBX7 p = X at *
   generalize kOk7 p = ok at *
   go_enter Tryz.func54, Tryz.ntmps54
   go_wp2_with (refine load_obj w.heap.size _ (by rfl) rfl B0 Tryz.underlying37 HL.out ?_)
   refine (ZE.out _ bw).mono ?_
   rintro e w1 ⟨rfl, hb⟩
   replace B0 := B0.kept hb
   replace B2 := B2.kept hb
   replace bw := bw.trans (hb.mono bw.size)
   clear hb
   obtain ⟨c0, p1, p2, p3⟩ := parts l4.out l9.out B0
   go_wp2_with (refine load_part w.heap.size 1 cp (by rfl) rfl p1 Tryz.underlying29 LP.out ?_)
   refine (C.out _ bw).mono ?_
   rintro e w2 ⟨bo, bc, rfl, hx, hbc, hb⟩
   replace bw := bw.trans (hb.mono bw.size)
   replace B2 := B2.kept hb
   clear hb C ZE B0 c0 p1 p2 p3
   have hne := hx.apart B2 (by intro v hv n; simp at hv; rcases hv with rfl | rfl <;> simp)
   go_wp2_with (refine store_cel (w.heap.size + 1) _ [.int .i64 N, .slice bo X.length bc] rfl rfl B2 rfl info_bv (by simp [Value.oneCell']) ?_)
   intro w3 B3 O3
   have HZ : Hid (Cel w3 (w.heap.size + 1) [.int .i64 N, .slice bo X.length bc] 24 ∧ Wd w3 bo X ∧ Below w.heap.size w w3) := ⟨B3, O3.wd hx hne, bw.trans (O3.below (Nat.le_succ _))⟩
   clear B3 O3 B2 hx hne
   go_wp2
   (try simp only [Exit.inBlock, Exit.then])
   exact bodyPost_ret (result_cel rfl (w.heap.size + 1) _ rfl HZ.out.1 Tryz.underlying24 info_bv) rfl ⟨bo, bc, rfl, HZ.out.2.1, hbc, HZ.out.2.2⟩
  by_cases q8 : K = 2
  ·subst q8
   obtain ⟨e1, e2, e3, e4⟩ := on_r o
   rw [e1, e2, e3]
   have C : Hid (∀ w0, Below w.heap.size w w0 → Calls Tryz.prog 105 #[.agg cr.toArray] w0 fun e w' => ∃ bo bc, e = .returned (.tuple #[.agg #[.int .i64 (kBN8 r), .slice bo (kBX8 r).length bc], .bool (kOk8 r)]) ∧ Wd w' bo (kBX8 r) ∧ (kBX8 r).length ≤ bc ∧ Below w0.heap.size w0 w') := fun w0 g => r8whole_k cr r w0 (k8.keep g)
   clear e1 e2 e3 e4 k7 k8 k9 o
   generalize kBN8 r = N at *
   generalize kBX8 r = X at *
   generalize kOk8 r = ok at *
   go_enter Tryz.func54, Tryz.ntmps54
   go_wp2_with (refine load_obj w.heap.size _ (by rfl) rfl B0 Tryz.underlying37 HL.out ?_)
   refine (ZE.out _ bw).mono ?_
   rintro e w1 ⟨rfl, hb⟩
   replace B0 := B0.kept hb
   replace B2 := B2.kept hb
   replace bw := bw.trans (hb.mono bw.size)
   clear hb
   obtain ⟨c0, p1, p2, p3⟩ := parts l4.out l9.out B0
   go_wp2_with (refine load_part w.heap.size 5 cr (by rfl) rfl p2 Tryz.underlying33 LR.out ?_)
   refine (C.out _ bw).mono ?_
   rintro e w2 ⟨bo, bc, rfl, hx, hbc, hb⟩
   replace bw := bw.trans (hb.mono bw.size)
   replace B2 := B2.kept hb
   clear hb C ZE B0 c0 p1 p2 p3
   have hne := hx.apart B2 (by intro v hv n; simp at hv; rcases hv with rfl | rfl <;> simp)
   go_wp2_with (refine store_cel (w.heap.size + 1) _ [.int .i64 N, .slice bo X.length bc] rfl rfl B2 rfl info_bv (by simp [Value.oneCell']) ?_)
   intro w3 B3 O3
   have HZ : Hid (Cel w3 (w.heap.size + 1) [.int .i64 N, .slice bo X.length bc] 24 ∧ Wd w3 bo X ∧ Below w.heap.size w w3) := ⟨B3, O3.wd hx hne, bw.trans (O3.below (Nat.le_succ _))⟩
   clear B3 O3 B2 hx hne
   go_wp2
   (try simp only [Exit.inBlock, Exit.then])
   exact bodyPost_ret (result_cel rfl (w.heap.size + 1) _ rfl HZ.out.1 Tryz.underlying24 info_bv) rfl ⟨bo, bc, rfl, HZ.out.2.1, hbc, HZ.out.2.2⟩
  by_cases q9 : K = 3
  ·subst q9
   obtain ⟨e1, e2, e3, e4⟩ := on_f o
   rw [e1, e2, e3]
   have C : Hid (∀ w0, Below w.heap.size w w0 → Calls Tryz.prog 106 #[.agg cf.toArray] w0 fun e w' => ∃ bo bc, e = .returned (.tuple #[.agg #[.int .i64 (kBN9 f), .slice bo (kBX9 f).length bc], .bool (kOk9 f)]) ∧ Wd w' bo (kBX9 f) ∧ (kBX9 f).length ≤ bc ∧ Below w0.heap.size w0 w') := fun w0 g => f9whole_k cf f w0 (k9.keep g)
   clear e1 e2 e3 e4 k7 k8 k9 o
   generalize kBN9 f = N at *
   generalize kBX9 f = X at *
   generalize kOk9 f = ok at *
   go_enter Tryz.func54, Tryz.ntmps54
   go_wp2_with (refine load_obj w.heap.size _ (by rfl) rfl B0 Tryz.underlying37 HL.out ?_)
   refine (ZE.out _ bw).mono ?_
   rintro e w1 ⟨rfl, hb⟩
   replace B0 := B0.kept hb
   replace B2 := B2.kept hb
   replace bw := bw.trans (hb.mono bw.size)
   clear hb
   obtain ⟨c0, p1, p2, p3⟩ := parts l4.out l9.out B0
   go_wp2_with (refine load_part w.heap.size 14 cf (by rfl) rfl p3 Tryz.underlying35 LF.out ?_)
   refine (C.out _ bw).mono ?_
   rintro e w2 ⟨bo, bc, rfl, hx, hbc, hb⟩
   replace bw := bw.trans (hb.mono bw.size)
   replace B2 := B2.kept hb
   clear hb C ZE B0 c0 p1 p2 p3
   have hne := hx.apart B2 (by intro v hv n; simp at hv; rcases hv with rfl | rfl <;> simp)
   go_wp2_with (refine store_cel (w.heap.size + 1) _ [.int .i64 N, .slice bo X.length bc] rfl rfl B2 rfl info_bv (by simp [Value.oneCell']) ?_)
   intro w3 B3 O3
   have HZ : Hid (Cel w3 (w.heap.size + 1) [.int .i64 N, .slice bo X.length bc] 24 ∧ Wd w3 bo X ∧ Below w.heap.size w w3) := ⟨B3, O3.wd hx hne, bw.trans (O3.below (Nat.le_succ _))⟩
   clear B3 O3 B2 hx hne
   go_wp2
   (try simp only [Exit.inBlock, Exit.then])
   exact bodyPost_ret (result_cel rfl (w.heap.size + 1) _ rfl HZ.out.1 Tryz.underlying24 info_bv) rfl ⟨bo, bc, rfl, HZ.out.2.1, hbc, HZ.out.2.2⟩
  obtain ⟨e1, e2, e3, e4⟩ := on_n (a := ⟨K, p, r, f⟩) (by rw [o]; exact q7) (by rw [o]; exact q8) (by rw [o]; exact q9)
  rw [e1, e2, e3]
  have d7 : (K == 1) = false := by simp [q7]
  have d8 : (K == 2) = false := by simp [q8]
  have d9 : (K == 3) = false := by simp [q9]
  clear e1 e2 e3 e4 o k7 k8 k9
  go_enter Tryz.func54, Tryz.ntmps54
  go_wp2_with (refine load_obj w.heap.size _ (by rfl) rfl B0 Tryz.underlying37 HL.out ?_)
  refine (ZE.out _ bw).mono ?_
  rintro e w1 ⟨rfl, hb⟩
  replace B0 := B0.kept hb
  replace B2 := B2.kept hb
  replace bw := bw.trans (hb.mono bw.size)
  clear hb
  obtain ⟨c0, p1, p2, p3⟩ := parts l4.out l9.out B0
  go_wp2_with (refine store_cel (w.heap.size + 1) _ [.int .i64 0, .slice none 0 0] rfl rfl B2 rfl info_bv (by simp [Value.oneCell']) ?_)
  intro w3 B3 O3
  have HZ : Hid (Cel w3 (w.heap.size + 1) [.int .i64 0, .slice none 0 0] 24 ∧ Below w.heap.size w w3) := ⟨B3, bw.trans (O3.below (Nat.le_succ _))⟩
  clear B3 O3 B2 B0 c0 p1 p2 p3
  go_wp2
  (try simp only [Exit.inBlock, Exit.then])
  exact bodyPost_ret (result_cel rfl (w.heap.size + 1) _ rfl HZ.out.1 Tryz.underlying24 info_bv) rfl ⟨none, 0, rfl, wd0' _ _, Nat.le_refl _, HZ.out.2⟩
end Go.Proofs.YtpeecabfcgijhaaGreatDoor
