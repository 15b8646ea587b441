/-
  The contract of the document's Whole of layer 9. The contracts of the document's Check, Bits, Access, Rank and Select, over that of its Whole. The contracts of the document's functions of layer 9, over rows by places as values. The contract of the document's Build of layer 9.
-/
import Derived.Test.YtcaalcjcpddhaaaGreatR21
import Derived.Test.YtcaalcjcpddhaaaGreatR14
import Derived.Test.YtcaalcjcpddhaaaGreatR09
import Derived.Test.YtcaalcjcpddhaaaGreatR11
import Derived.Test.YtcaalcjcpddhaaaGreatR02
namespace Go.Proofs.YtcaalcjcpddhaaaGreat
open Go.RowKit Num Bit
set_option linter.unusedVariables false
set_option linter.unusedSimpArgs false
set_option maxRecDepth 100000

theorem row9_c (N M k V LM : Int) (ao : Option Addr) (xs : List Nat) (cap : Nat) (H : Int) (qo : Option Addr) (ys : List Nat) (dap : Nat) (w : World) (hx : Wd w ao xs) (fx : Fit xs) (hy : Wd w qo ys) (fy : Fit ys) :
  Calls Tryz.prog 92 #[.agg #[.int .i64 N, .int .i64 M, .int .i64 k, .int .i64 V, .int .i64 LM, .slice ao xs.length cap, .int .i64 H, .slice qo ys.length dap]] w (ROut (fRow ⟨N, M, k, V, LM, xs, H, ys⟩) w) := by
 by_cases P : (0 ≤ N ∧ N ≤ 1048576 ∧ 0 ≤ M ∧ M ≤ N) ∧ ichk k V LM xs = true ∧ chk H ys = true
 ·obtain ⟨⟨p1, p2, p3, p4⟩, p5, p6⟩ := P
  obtain ⟨v1, v2, v3, v4, v5, v6, v7, v8⟩ := ichk_out _ _ _ _ p5
  obtain ⟨u1, u2, u3, u4⟩ := chk_out _ _ p6
  obtain ⟨n, rfl⟩ := Int.eq_ofNat_of_zero_le p1
  obtain ⟨mm, rfl⟩ := Int.eq_ofNat_of_zero_le p3
  obtain ⟨kn, rfl⟩ := Int.eq_ofNat_of_zero_le v3
  obtain ⟨vn, rfl⟩ := Int.eq_ofNat_of_zero_le (show 0 ≤ V by omega)
  obtain ⟨hh, rfl⟩ := Int.eq_ofNat_of_zero_le u1
  exact row9_main n mm kn vn hh LM ao xs cap qo ys dap w hx fx hy fy (by omega) (by omega) p5 p6
 ·rw [fRow_bad ⟨N, M, k, V, LM, xs, H, ys⟩ (fun h => P ⟨h.1, h.2.1, h.2.2.1⟩)]
  exact row9_bad N M k V LM H ao xs cap qo ys dap w hx fx hy fy P
def WO9 (N : Int) (X : List Nat) (S : Bool) (w : World) (e : Ending) (w' : World) : Prop := ∃ bo bc, e = .returned (.tuple #[.agg #[.int .i64 N, .slice bo X.length bc], .bool S]) ∧ Wd w' bo X ∧ X.length ≤ bc ∧ Below w.heap.size w w'
theorem fRow_n (a : FA) (l : List Nat) (h : fRow a = some l) : 0 ≤ a.N ∧ Rise l a.N.toNat := by
 unfold fRow at h
 simp only at h
 split at h
 ·rename_i c
  exact ⟨c.1.1, (fdec_len _ _ _ _ _ _ h).2⟩
 ·cases h
set_option maxHeartbeats 8000000 in
theorem f9whole_none (N M k V LM : Int) (ao : Option Addr) (xs : List Nat) (cap : Nat) (H : Int) (qo : Option Addr) (ys : List Nat) (dap : Nat) (w : World) (RC : Hid (∀ w0, Below w.heap.size w w0 → Calls Tryz.prog 92 #[.agg #[.int .i64 N, .int .i64 M, .int .i64 k, .int .i64 V, .int .i64 LM, .slice ao xs.length cap, .int .i64 H, .slice qo ys.length dap]] w0 fun e w' => e = .returned (.tuple #[.slice none 0 0, .bool false]) ∧ Below w0.heap.size w0 w')) :
  Calls Tryz.prog 71 #[.agg #[.int .i64 N, .int .i64 M, .int .i64 k, .int .i64 V, .int .i64 LM, .slice ao xs.length cap, .int .i64 H, .slice qo ys.length dap]] w fun e w' => e = .returned (.tuple #[.agg #[.int .i64 0, .slice none 0 0], .bool false]) ∧ Below w.heap.size w w' := by
 obtain ⟨W, hW⟩ : ∃ W, W = (w.alloc (.cells #[.int .i64 N, .int .i64 M, .int .i64 k, .int .i64 V, .int .i64 LM, .slice ao xs.length cap, .int .i64 H, .slice qo ys.length dap] 34)).alloc (.cells #[.int .i64 0, .slice none 0 0] 24) := ⟨_, rfl⟩
 have bW : Below w.heap.size w W := by rw [hW]; exact (below_alloc w _).alloc (by simp) _
 have B1 : Cel W w.heap.size [.int .i64 N, .int .i64 M, .int .i64 k, .int .i64 V, .int .i64 LM, .slice ao xs.length cap, .int .i64 H, .slice qo ys.length dap] 34 := by rw [hW]; exact (Cel.new w _ _).alloc _
 have B2 : Cel W (w.heap.size + 1) [.int .i64 0, .slice none 0 0] 24 := by rw [hW]; exact Cel.new2 w _ _ _
 go_enter Tryz.func71, Tryz.ntmps71
 go_wp2_with fail
 rw [← hW]
 refine (RC.out _ bW).mono ?_
 rintro e w1 ⟨rfl, hb⟩
 have bw1 := bW.trans (hb.mono bW.size)
 replace B2 := B2.kept hb
 clear hb bW hW RC B1
 go_wp2_with (refine store_cel (w.heap.size + 1) [.int .i64 0, .slice none 0 0] [.int .i64 0, .slice none 0 0] rfl rfl B2 rfl info_b2 (by simp [Value.oneCell']) ?_)
 intro w3 B3 O3
 have HZ := hide9 (And.intro B3 (bw1.trans (O3.below (Nat.le_succ _))))
 clear B3 O3 B2
 go_wp2
 (try simp only [Exit.inBlock, Exit.then])
 exact bodyPost_ret (result_cel rfl (w.heap.size + 1) _ rfl HZ.out.1 Tryz.underlying24 info_b2) rfl ⟨rfl, HZ.out.2⟩
set_option maxHeartbeats 16000000 in
theorem f9whole_some (n : Nat) (M k V LM : Int) (ao : Option Addr) (xs : List Nat) (cap : Nat) (H : Int) (qo : Option Addr) (ys : List Nat) (dap : Nat) (l : List Nat) (w : World) (hn : n ≤ 3000) (hr : Rise l n) (y1 y2 y3 y4 y5 y7 : Int) (y6 y8 : Nat) (S : Bool)
  (RC : Hid (∀ w0, Below w.heap.size w w0 → Calls Tryz.prog 92 #[.agg #[.int .i64 (n : Nat), .int .i64 M, .int .i64 k, .int .i64 V, .int .i64 LM, .slice ao xs.length cap, .int .i64 H, .slice qo ys.length dap]] w0 fun e w' => ∃ so sc, e = .returned (.tuple #[.slice so l.length sc, .bool true]) ∧ Nd w' so (lz l) ∧ l.length ≤ sc ∧ Below w0.heap.size w0 w'))
  (YP : World → Option Addr → Nat → Option Addr → Nat → Prop) (yk : ∀ w1 w2 yo yc zo zc, YP w1 yo yc zo zc → Below w1.heap.size w1 w2 → YP w2 yo yc zo zc)
  (OC : Hid (∀ w0 so sc, Nd w0 so (lz l) → Calls Tryz.prog 38 #[.int .i64 (n : Nat), .slice so l.length sc] w0 fun e w' => ∃ yo yc zo zc, e = .returned (.tuple #[.agg #[.int .i64 y1, .int .i64 y2, .int .i64 y3, .int .i64 y4, .int .i64 y5, .slice yo y6 yc, .int .i64 y7, .slice zo y8 zc], .int .i64 0]) ∧ YP w' yo yc zo zc ∧ Below w0.heap.size w0 w'))
  (SC : Hid (∀ w0 yo yc zo zc, Below w.heap.size w w0 → YP w0 yo yc zo zc → Calls Tryz.prog 93 #[.agg #[.int .i64 (n : Nat), .int .i64 M, .int .i64 k, .int .i64 V, .int .i64 LM, .slice ao xs.length cap, .int .i64 H, .slice qo ys.length dap], .agg #[.int .i64 y1, .int .i64 y2, .int .i64 y3, .int .i64 y4, .int .i64 y5, .slice yo y6 yc, .int .i64 y7, .slice zo y8 zc]] w0 fun e w' => e = .returned (.bool S) ∧ Below w0.heap.size w0 w')) :
  Calls Tryz.prog 71 #[.agg #[.int .i64 (n : Nat), .int .i64 M, .int .i64 k, .int .i64 V, .int .i64 LM, .slice ao xs.length cap, .int .i64 H, .slice qo ys.length dap]] w (WO9 (if S = true then (n : Int) else 0) (if S = true then rowOf n (isIn l) else []) S w) := by
 obtain ⟨i4, hi4, za4, zb4, zc4⟩ := info_parts info4_9
 obtain ⟨W, hW⟩ : ∃ W, W = (w.alloc (.cells #[.int .i64 (n : Nat), .int .i64 M, .int .i64 k, .int .i64 V, .int .i64 LM, .slice ao xs.length cap, .int .i64 H, .slice qo ys.length dap] 34)).alloc (.cells #[.int .i64 0, .slice none 0 0] 24) := ⟨_, rfl⟩
 have bW : Below w.heap.size w W := by rw [hW]; exact (below_alloc w _).alloc (by simp) _
 have B1 : Cel W w.heap.size [.int .i64 (n : Nat), .int .i64 M, .int .i64 k, .int .i64 V, .int .i64 LM, .slice ao xs.length cap, .int .i64 H, .slice qo ys.length dap] 34 := by rw [hW]; exact (Cel.new w _ _).alloc _
 have B2 : Cel W (w.heap.size + 1) [.int .i64 0, .slice none 0 0] 24 := by rw [hW]; exact Cel.new2 w _ _ _
 cases S with
 | false =>
  go_enter Tryz.func71, Tryz.ntmps71
  go_wp2_with fail
  rw [← hW]
  refine (RC.out _ bW).mono ?_
  rintro e w1 ⟨so, sc, rfl, hN, hsc, hb⟩
  have bw1 := bW.trans (hb.mono bW.size)
  replace B1 := B1.kept hb
  replace B2 := B2.kept hb
  have q0 := B1.cell 0 rfl
  clear hb bW hW RC
  go_wp2_with fail
  refine (OC.out _ _ _ hN).mono ?_
  rintro e w2 ⟨yo, yc, zo, zc, rfl, hY, hb⟩
  have bw2 := bw1.trans (hb.mono bw1.size)
  replace B1 := B1.kept hb
  replace B2 := B2.kept hb
  clear hb OC bw1 q0
  have bA := below_alloc w2 (.cells #[.int .i64 y1, .int .i64 y2, .int .i64 y3, .int .i64 y4, .int .i64 y5, .slice yo y6 yc, .int .i64 y7, .slice zo y8 zc] 34)
  have D6 := Cel.new w2 [.int .i64 y1, .int .i64 y2, .int .i64 y3, .int .i64 y4, .int .i64 y5, .slice yo y6 yc, .int .i64 y7, .slice zo y8 zc] 34
  have E1 := B1.kept bA
  have E2 := B2.kept bA
  have hY2 := yk _ _ _ _ _ _ hY bA
  have bw3 := bw2.trans (bA.mono bw2.size)
  clear B1 B2 hY bA
  go_wp2_with (first | refine load_obj w.heap.size _ (by rfl) rfl E1 Tryz.underlying34 info_f8 ?_ | refine load_obj w2.heap.size _ (by rfl) rfl D6 Tryz.underlying34 info_f8 ?_)
  refine (SC.out _ _ _ _ _ bw3 hY2).mono ?_
  rintro e w4 ⟨rfl, hb⟩
  have bw4 := bw3.trans (hb.mono bw3.size)
  replace E2 := E2.kept hb
  clear hb SC D6 E1 hY2 bw3
  go_wp2_with (refine store_cel (w.heap.size + 1) [.int .i64 0, .slice none 0 0] [.int .i64 0, .slice none 0 0] rfl rfl E2 rfl info_b2 (by simp [Value.oneCell']) ?_)
  intro w5 B3 O3
  have HZ := hide9 (And.intro B3 (bw4.trans (O3.below (Nat.le_succ _))))
  clear B3 O3 E2
  go_wp2
  (try simp only [Exit.inBlock, Exit.then])
  exact bodyPost_ret (result_cel rfl (w.heap.size + 1) _ rfl HZ.out.1 Tryz.underlying24 info_b2) rfl (show WO9 0 [] false w _ _ from ⟨none, 0, rfl, wd0' _ _, Nat.zero_le _, HZ.out.2⟩)
 | true =>
  have FR : Hid (∀ (w0 : World) (g : Nat), Cel w0 g (bvs n (isIn l)) 4 → Calls Tryz.prog 37 #[.slice (some ⟨g, 0, none⟩) n n] w0 fun e w' => ∃ g', e = .returned (.tuple #[.agg #[.int .i64 (n : Nat), .slice (some ⟨g', 0, none⟩) (rowOf n (isIn l)).length (rowOf n (isIn l)).length], .int .i64 0]) ∧ w0.heap.size ≤ g' ∧ Own w' g' (rowOf n (isIn l)) ∧ Below w0.heap.size w0 w') := fun w0 g h => by
   have hlen : (bls n (isIn l)).length = n := by simp [bls]
   have h3 := reffrom_ok (some ⟨g, 0, none⟩) (bls n (isIn l)) n _ w0 (bl_cel h) (by rw [hlen]; omega) rfl
   rw [fromS_all] at h3
   have e6 : frL (bls n (isIn l)) = rowOf n (isIn l) := by
    unfold frL
    rw [hlen]
    refine rowOf_congr n _ _ fun i hi => ?_
    unfold bt bls
    rw [List.getD_eq_getElem?_getD, List.getElem?_map, List.getElem?_range hi]
    rfl
   have e5 : (rowOf n (isIn l)).length = (n + 63) / 64 := length_rowOf _ _
   rw [hlen, e6] at h3
   rw [e5]
   exact h3
  generalize hYY : rowOf n (isIn l) = YY at *
  clear hYY
  go_enter Tryz.func71, Tryz.ntmps71
  go_wp2_with fail
  rw [← hW]
  refine (RC.out _ bW).mono ?_
  rintro e w1 ⟨so, sc, rfl, hN, hsc, hb⟩
  have bw1 := bW.trans (hb.mono bW.size)
  replace B1 := B1.kept hb
  replace B2 := B2.kept hb
  have q0 := B1.cell 0 rfl
  clear hb bW hW RC
  go_wp2_with fail
  refine (OC.out _ _ _ hN).mono ?_
  rintro e w2 ⟨yo, yc, zo, zc, rfl, hY, hb⟩
  have bw2 := bw1.trans (hb.mono bw1.size)
  replace B1 := B1.kept hb
  replace B2 := B2.kept hb
  replace hN := Nd.keep hN hb
  clear hb OC bw1 q0
  have bA := below_alloc w2 (.cells #[.int .i64 y1, .int .i64 y2, .int .i64 y3, .int .i64 y4, .int .i64 y5, .slice yo y6 yc, .int .i64 y7, .slice zo y8 zc] 34)
  have D6 := Cel.new w2 [.int .i64 y1, .int .i64 y2, .int .i64 y3, .int .i64 y4, .int .i64 y5, .slice yo y6 yc, .int .i64 y7, .slice zo y8 zc] 34
  have E1 := B1.kept bA
  have E2 := B2.kept bA
  have hY2 := yk _ _ _ _ _ _ hY bA
  have bw3 := bw2.trans (bA.mono bw2.size)
  replace hN := Nd.keep hN bA
  clear B1 B2 hY bA
  go_wp2_with (first | refine load_obj w.heap.size _ (by rfl) rfl E1 Tryz.underlying34 info_f8 ?_ | refine load_obj w2.heap.size _ (by rfl) rfl D6 Tryz.underlying34 info_f8 ?_)
  refine (SC.out _ _ _ _ _ bw3 hY2).mono ?_
  rintro e w4 ⟨rfl, hb⟩
  have bw4 := bw3.trans (hb.mono bw3.size)
  replace E1 := E1.kept hb
  replace E2 := E2.kept hb
  replace hN := Nd.keep hN hb
  clear hb SC D6 hY2 bw3 bw2
  have gl := E2.lt
  have q0 := E1.cell 0 rfl
  go_wp2_with (at_make; refine wpList_make_full _ rfl _ _ 82 rfl w4.heap.size 4 i4 (.bool false) 1 Tryz.underlying82 hi4 za4 zb4 .i64 .i64 _ _ n rfl rfl rfl rfl ?b2 ?b3 ?b4 ?_)
  case b2 => rw [zc4]; omega
  case b3 => unfold maxLen; omega
  case b4 => exact Nat.le_refl _
  intro w5 hown hgr
  have hB := bcel_made hown
  have bG : Below w4.heap.size w4 w5 := (Below.refl _ _).grown hgr (Nat.le_refl _) (fun k h => by cases h)
  replace E2 := E2.kept bG
  have bw5 := bw4.trans (bG.mono bw4.size)
  have bz := bw4.size
  clear hown hgr bw4 E1 q0
  have hN2 : Hid (∀ q, q < l.length → ∃ b off, so = some ⟨b, off, none⟩ ∧ b < w4.heap.size ∧ w5.cell? ⟨b, off + q, none⟩ = some (.int .i64 (gt l q : Nat))) := fun q hq => by
   obtain ⟨b, off, e, hbl, hcel⟩ := hN (by rw [length_lz]; omega)
   have h1 := hcel q (by rw [length_lz]; exact hq)
   rw [gi_lz] at h1
   exact ⟨b, off, e, hbl, (bG.cell (p := ⟨b, off + q, none⟩) hbl).trans h1⟩
  clear hN bG
  generalize w4.heap.size = g at *
  go_wp2
  go_loopw [9] (fun iv wr => ∃ q : Nat, q ≤ l.length ∧ iv = .int .i64 q ∧ Cel wr g (bvs n (isIn (l.take q))) 4 ∧ Only g w5 wr) (fun iv _ => l.length - (intOf iv).toNat)
  case atStart => exact ⟨0, Nat.zero_le _, rfl, by rw [bvs_congr n (isIn (l.take 0)) (fun _ => false) (fun i _ => by simp [isIn])]; exact hB, Only.refl _ _⟩
  case round =>
   obtain ⟨q, hq, rfl, hC, hOn⟩ := hrel
   by_cases hlt : q < l.length
   ·have hlt2 : (q : Int) < (l.length : Int) := by omega
    obtain ⟨b, off, rfl, hbl, hc5⟩ := hN2.out q hlt
    have cq : wr.cell? ⟨b, off + q, none⟩ = some (.int .i64 (gt l q : Nat)) := (World.cell?_of_block (w := w5) (hOn.block b (by omega))).trans hc5
    have xl := hr.1 q hlt
    have lln := hr.len
    have ql3 : q < 3000 := by omega
    clear lln
    have ST := hide9 (isIn_snoc (l.take q) (gt l q))
    have TK := hide9 (take_snoc' l q hlt)
    have cj := hC.cell (gt l q) (bvs_get _ _ _ xl)
    have fj := hC.frozen (gt l q)
    have st := hC.set (gt l q) (.bool true)
    rw [bvs_set] at st
    have HS : Hid (Cel (wr.setCell ⟨g, gt l q, none⟩ (.bool true)) g (bvs n (isIn (l.take (q + 1)))) 4 ∧ Only g w5 (wr.setCell ⟨g, gt l q, none⟩ (.bool true))) := by
     refine ⟨?_, hOn.set _ _⟩
     rw [TK.out, bvs_congr n _ _ (fun i _ => ST.out i)]
     exact st
    have xl2 : (gt l q : Int) < (n : Int) := by omega
    clear st hc5 hC hOn
    generalize gt l q = x at *
    go_wp2
    exact ⟨⟨q + 1, by omega, by go_num, HS.out.1, HS.out.2⟩, by simp only [intOf]; omega⟩
   ·obtain rfl : q = l.length := by omega
    rw [List.take_of_length_le (Nat.le_refl _)] at hC
    have F1 := hide9 (FR.out wr g hC)
    have E3 := hOn.cel E2 (by omega)
    have bw6 := bw5.trans (hOn.below (by omega))
    have e3l := E3.lt
    clear FR hC hOn hB E2 bw5
    go_wp2_with fail
    refine F1.out.mono ?_
    rintro e w6 ⟨g', rfl, hg', hO, hb⟩
    replace E3 := E3.kept hb
    have bw7 := bw6.trans (hb.mono bw6.size)
    clear hb F1
    have bA := below_alloc w6 (.cells #[.int .i64 (n : Nat), .slice (some ⟨g', 0, none⟩) YY.length YY.length] 24)
    have D7 := Cel.new w6 [.int .i64 (n : Nat), .slice (some ⟨g', 0, none⟩) YY.length YY.length] 24
    have E4 := E3.kept bA
    have hO2 := hO.keep bA
    have bw8 := bw7.trans (bA.mono bw7.size)
    have gx : g' ≠ w.heap.size + 1 := by omega
    clear E3 hO bA bw6 bw7
    go_wp2_with (first | refine load_cel w6.heap.size _ rfl D7 Tryz.underlying24 info_b2 ?_ | refine store_cel (w.heap.size + 1) [.int .i64 0, .slice none 0 0] _ rfl rfl E4 rfl info_b2 (by simp [Value.oneCell']) ?_)
    intro w9 B3 O3
    have hO3 : Own w9 g' YY := (O3.block g' gx).trans hO2
    have HZ := hide9 (And.intro B3 (And.intro hO3 (bw8.trans (O3.below (Nat.le_succ _)))))
    clear B3 O3 hO2 hO3 D7 E4 bw8
    go_wp2
    (try simp only [Exit.inBlock, Exit.then])
    exact bodyPost_ret (result_cel rfl (w.heap.size + 1) _ rfl HZ.out.1 Tryz.underlying24 info_b2) rfl (show WO9 (n : Int) YY true w _ _ from ⟨some ⟨g', 0, none⟩, YY.length, rfl, HZ.out.2.1.wd, Nat.le_refl _, HZ.out.2.2⟩)
end Go.Proofs.YtcaalcjcpddhaaaGreat

namespace Go.Proofs.YtcaalcjcpddhaaaGreat
open Go.RowKit Num Bit
set_option linter.unusedVariables false
set_option linter.unusedSimpArgs false
set_option maxRecDepth 100000

set_option maxHeartbeats 2000000 in
theorem f9check_g (c0 c1 c2 c3 c4 c5 c6 c7 : Value) (ok : Bool) (N : Int) (X : List Nat) (w : World) (hf : Fit X) (hck : ok = true → chk N X = true) (C1 : Hid (∀ w0, Below w.heap.size w w0 → Calls Tryz.prog 71 #[.agg #[c0, c1, c2, c3, c4, c5, c6, c7]] w0 fun e w' => ∃ bo bc, e = .returned (.tuple #[.agg #[.int .i64 N, .slice bo X.length bc], .bool ok]) ∧ Wd w' bo X ∧ X.length ≤ bc ∧ Below w0.heap.size w0 w')) :
  Calls Tryz.prog 43 #[.agg #[c0, c1, c2, c3, c4, c5, c6, c7]] w fun e w' => e = .returned (.bool ok) ∧ Below w.heap.size w w' := by
 obtain ⟨W, hW⟩ : ∃ W, W = w.alloc (.cells #[c0, c1, c2, c3, c4, c5, c6, c7] 34) := ⟨_, rfl⟩
 have bW : Below w.heap.size w W := by rw [hW]; exact below_alloc w _
 go_enter Tryz.func43, Tryz.ntmps43
 go_wp2_with fail
 rw [← hW]
 refine (C1.out _ bW).mono ?_
 rintro e w1 ⟨bo, bc, rfl, hx, hbc, hb⟩
 have bw1 := bW.trans (hb.mono bW.size)
 clear hb C1
 have bA := below_alloc w1 (.cells #[.int .i64 N, .slice bo X.length bc] 24)
 have bw2 := bw1.trans (bA.mono bw1.size)
 go_wp2
 go_ret
 exact ⟨rfl, bw2⟩
end Go.Proofs.YtcaalcjcpddhaaaGreat

namespace Go.Proofs.YtcaalcjcpddhaaaGreat
open Go.RowKit Num Bit
set_option linter.unusedVariables false
set_option linter.unusedSimpArgs false
set_option maxRecDepth 100000

theorem kOk_nat9 (a : RA9) (h : kOk9 a = true) : ∃ (n mm kn vn hh : Nat) (LM : Int) (xs ys : List Nat), a = ⟨n, mm, kn, vn, LM, xs, hh, ys⟩ := by
 obtain ⟨_, e⟩ := kOk_row a h
 rw [e]
 exact ⟨_, _, _, _, _, _, _, _, rfl⟩
theorem fSame_as (a b : FA) : (decide (a.N = b.N) && (decide (a.M = b.M) && ((decide (a.k = b.k) && (decide (a.V = b.V) && (decide (a.LM = b.LM) && decide (a.xs = b.xs)))) && (decide (a.H = b.H) && decide (a.ys = b.ys))))) = fSame a b := by
 unfold fSame
 simp only [Bool.and_assoc]
theorem f9whole_k (cs : List Value) (a : RA9) (w : World) (h : KI9 w cs a) :
  Calls Tryz.prog 71 #[.agg cs.toArray] w fun e w' => ∃ bo bc, e = .returned (.tuple #[.agg #[.int .i64 (kBN9 a), .slice bo (kBX9 a).length bc], .bool (kOk9 a)]) ∧ Wd w' bo (kBX9 a) ∧ (kBX9 a).length ≤ bc ∧ Below w.heap.size w w' := by
 obtain ⟨⟨ao, cap, qo, dap, rfl, _, a1, a2, a3, a4, a5, a6⟩, n3, xl, yl⟩ := h
 obtain ⟨N, M, k, V, LM, xs, H, ys⟩ := a
 dsimp only at *
 have RC := fun (w0 : World) (hb : Below w.heap.size w w0) => row9_c N M k V LM ao xs cap H qo ys dap w0 (a1.keep hb) a2 (a4.keep hb) a5
 cases hrow : fRow ⟨N, M, k, V, LM, xs, H, ys⟩ with
 | none =>
  rw [hrow] at RC
  have ok : kOk9 ⟨N, M, k, V, LM, xs, H, ys⟩ = false := by unfold kOk9; rw [hrow]
  have e1 : kBN9 ⟨N, M, k, V, LM, xs, H, ys⟩ = 0 := by unfold kBN9; rw [ok]; rfl
  have e2 : kBX9 ⟨N, M, k, V, LM, xs, H, ys⟩ = [] := by unfold kBX9; rw [ok]; rfl
  rw [ok, e1, e2]
  refine (f9whole_none N M k V LM ao xs cap H qo ys dap w RC).mono ?_
  rintro e w' ⟨rfl, hb⟩
  exact ⟨none, 0, rfl, wd0' _ _, Nat.zero_le _, hb⟩
 | some l =>
  rw [hrow] at RC
  obtain ⟨n0, hr⟩ := fRow_n _ l hrow
  dsimp only at n0 hr
  obtain ⟨n, rfl⟩ := Int.eq_ofNat_of_zero_le n0
  rw [Int.toNat_natCast] at hr
  have hn : n ≤ 3000 := by omega
  have ok : kOk9 ⟨n, M, k, V, LM, xs, H, ys⟩ = fSame ⟨n, M, k, V, LM, xs, H, ys⟩ (fOf n l) := by unfold kOk9; rw [hrow]; rfl
  have e0 : kRow ⟨n, M, k, V, LM, xs, H, ys⟩ = l := by unfold kRow; rw [hrow]; rfl
  have e1 : kBN9 ⟨n, M, k, V, LM, xs, H, ys⟩ = if kOk9 ⟨n, M, k, V, LM, xs, H, ys⟩ = true then (n : Int) else 0 := rfl
  have e2 : kBX9 ⟨n, M, k, V, LM, xs, H, ys⟩ = if kOk9 ⟨n, M, k, V, LM, xs, H, ys⟩ = true then rowOf n (isIn l) else [] := by unfold kBX9; rw [e0]; rfl
  rw [e1, e2]
  refine f9whole_some n M k V LM ao xs cap H qo ys dap l w hn hr (fOf n l).N (fOf n l).M (fOf n l).k (fOf n l).V (fOf n l).LM (fOf n l).H (fOf n l).xs.length (fOf n l).ys.length _ RC (fun w0 yo yc zo zc => Wd w0 yo (fOf n l).xs ∧ Wd w0 zo (fOf n l).ys) (fun w1 w2 yo yc zo zc h hb => ⟨h.1.keep hb, h.2.keep hb⟩) ?_ ?_
  ·intro w0 so sc hN
   refine (of9_c n so l sc w0 hN hr hn).mono ?_
   rintro e w' ⟨bo, bc, qo', qc, rfl, ⟨h1, _, h2, _⟩, hb⟩
   exact ⟨bo, bc, qo', qc, rfl, ⟨h1, h2⟩, hb⟩
  ·intro w0 yo yc zo zc hb hY
   have := f9same_c (n : Int) M k V LM ao xs cap H qo ys dap (fOf n l).N (fOf n l).M (fOf n l).k (fOf n l).V (fOf n l).LM yo (fOf n l).xs yc (fOf n l).H zo (fOf n l).ys zc w0 (a1.keep hb) hY.1 (a4.keep hb) hY.2 xl yl
   rw [fSame_as ⟨n, M, k, V, LM, xs, H, ys⟩ (fOf n l), ← ok] at this
   exact this
theorem f9check_k (cs : List Value) (a : RA9) (w : World) (h : KI9 w cs a) :
  Calls Tryz.prog 43 #[.agg cs.toArray] w fun e w' => e = .returned (.bool (kOk9 a)) ∧ Below w.heap.size w w' := by
 have W := fun (w0 : World) (hb : Below w.heap.size w w0) => f9whole_k cs a w0 (h.keep hb)
 obtain ⟨⟨ao, cap, qo, dap, rfl, _⟩, _⟩ := h
 exact f9check_g _ _ _ _ _ _ _ _ (kOk9 a) (kBN9 a) (kBX9 a) w (kB_fit9 a) (kB_chk9 a) W
set_option maxHeartbeats 4000000 in
theorem f9size_k (cs : List Value) (a : RA9) (w : World) (h : KI9 w cs a) :
  Calls Tryz.prog 18 #[.agg cs.toArray] w fun e w' => e = .returned (.int .i64 (kZ9 a)) ∧ Below w.heap.size w w' := by
 have C := fun (w0 : World) (hb : Below w.heap.size w w0) => f9check_k cs a w0 (h.keep hb)
 obtain ⟨⟨ao, cap, qo, dap, rfl, _⟩, _, _, _⟩ := h
 obtain ⟨N, M, k, V, LM, xs, H, ys⟩ := a
 dsimp only at *
 obtain ⟨Z, hZ⟩ : ∃ Z, Hid (Z = kZ9 ⟨N, M, k, V, LM, xs, H, ys⟩) := ⟨_, rfl⟩
 rw [← hZ.out]
 obtain ⟨W, hW⟩ : ∃ W, W = w.alloc (.cells #[.int .i64 N, .int .i64 M, .int .i64 k, .int .i64 V, .int .i64 LM, .slice ao xs.length cap, .int .i64 H, .slice qo ys.length dap] 34) := ⟨_, rfl⟩
 have bW : Below w.heap.size w W := by rw [hW]; exact below_alloc w _
 have B1 : Cel W w.heap.size [.int .i64 N, .int .i64 M, .int .i64 k, .int .i64 V, .int .i64 LM, .slice ao xs.length cap, .int .i64 H, .slice qo ys.length dap] 34 := by rw [hW]; exact Cel.new w _ _
 have CH : Hid (∀ w0, Below w.heap.size w w0 → Calls Tryz.prog 43 #[.agg #[.int .i64 N, .int .i64 M, .int .i64 k, .int .i64 V, .int .i64 LM, .slice ao xs.length cap, .int .i64 H, .slice qo ys.length dap]] w0 fun e w' => e = .returned (.bool (kOk9 ⟨N, M, k, V, LM, xs, H, ys⟩)) ∧ Below w0.heap.size w0 w') := C
 clear C
 cases hk : kOk9 ⟨N, M, k, V, LM, xs, H, ys⟩ with
 | false =>
  rw [hk] at CH
  have E : Hid (Z = 0) := by
   show Z = 0
   rw [hZ.out]
   unfold kZ9
   rw [hk]
   rfl
  clear hk hZ
  go_enter Tryz.func18, Tryz.ntmps18
  go_wp2_with fail
  rw [← hW]
  refine (CH.out _ bW).mono ?_
  rintro e w1 ⟨rfl, hb⟩
  have bw1 := bW.trans (hb.mono bW.size)
  clear hW
  go_wp2
  go_ret
  rw [E.out]
  exact ⟨rfl, bw1⟩
 | true =>
  rw [hk] at CH
  have E : Hid (Z = LM + H + 64) := by
   show Z = _
   rw [hZ.out]
   unfold kZ9
   rw [if_pos hk]
  obtain ⟨n, mm, kn, vn, hh, LM', xs', ys', e⟩ := kOk_nat9 _ hk
  simp only [FA.mk.injEq] at e
  obtain ⟨rfl, rfl, rfl, rfl, rfl, rfl, rfl, rfl⟩ := e
  obtain ⟨F, _⟩ := ok_fits n mm kn vn hh LM xs ys hk
  obtain ⟨_, _, _, _, _, m1, m2, _⟩ := ichk_out _ _ _ _ F.ik
  obtain ⟨l1, l2, _, _⟩ := chk_out _ _ F.ck
  clear hk hZ F
  go_enter Tryz.func18, Tryz.ntmps18
  go_wp2_with fail
  rw [← hW]
  refine (CH.out _ bW).mono ?_
  rintro e w1 ⟨rfl, hb⟩
  have bw1 := bW.trans (hb.mono bW.size)
  replace B1 := B1.kept hb
  have r4 := B1.cell 4 rfl
  have r6 := B1.cell 6 rfl
  clear hW hb
  go_wp2
  go_ret
  rw [E.out]
  exact ⟨rfl, bw1⟩
end Go.Proofs.YtcaalcjcpddhaaaGreat

namespace Go.Proofs.YtcaalcjcpddhaaaGreat
open Go.RowKit Num Bit
set_option linter.unusedVariables false
set_option linter.unusedSimpArgs false
set_option maxRecDepth 100000

theorem step_store9 {ops : Array Oper} {d : Option Tmp} {ty T : TypeId} {ps : String} {af : Array Edge} {a : Act} {w : World} {K : Act → World → Prop} {Q : Exit → Act → World → Prop} {E : Prop} {x y : Operand}
  (g : Nat) (old cs : List Value) (hx : a.eval x = .pointer (some ⟨g, 0, none⟩)) (hy : a.eval y = .agg cs.toArray) (hc : Cel w g old T) (lo : old.length = cs.length) (hi : (Tryz.prog.info? T).map (·.size) = some cs.length) (h1 : cs.toArray.all (·.oneCell') = true)
  (h : ∀ w1, Cel w1 g cs T → Only g w w1 → K (a.put d undef) w1) :
  if Region.wanted (⟨d, .store T x y, ty, ps, af, none⟩ : Oper) (yielded ops a.tmps) = true then Oper.wp Tryz.prog (⟨d, .store T x y, ty, ps, af, none⟩ : Oper) a w K Q else E := by
 rw [if_pos (by simp [Region.wanted])]
 exact wp_store_row _ x y rfl g cs.toArray hx hy _ _ hc (by simpa using hi) (by simpa using lo) h1 (h _ (setRow_heap w g _ _ _ _ hc) (Only.row g w _))
set_option maxHeartbeats 4000000 in
theorem f9build_bad (N : Int) (ao : Option Addr) (xs : List Nat) (cap : Nat) (w : World) (hx : Wd w ao xs) (hf : Fit xs) (hk : chk N xs = false) :
  Calls Tryz.prog 14 #[.agg #[.int .i64 N, .slice ao xs.length cap]] w fun e w' => e = .returned (.tuple #[.agg #[.int .i64 0, .int .i64 0, .int .i64 0, .int .i64 0, .int .i64 0, .slice none 0 0, .int .i64 0, .slice none 0 0], .int .i64 2]) ∧ Below w.heap.size w w' := by
 have CC : Hid (∀ w0, Below w.heap.size w w0 → Calls Tryz.prog 21 #[.agg #[.int .i64 N, .slice ao xs.length cap]] w0 fun e w' => e = .returned (.bool false) ∧ Below w0.heap.size w0 w') := fun w0 hb => by
  have := refcheck_c N ao xs cap w0 (hx.keep hb) hf
  rw [hk] at this
  exact this
 obtain ⟨W1, hW1⟩ : ∃ W1, W1 = (w.alloc (.cells #[.int .i64 N, .slice ao xs.length cap] 24)).alloc (.cells #[.int .i64 0, .int .i64 0, .int .i64 0, .int .i64 0, .int .i64 0, .slice none 0 0, .int .i64 0, .slice none 0 0] 34) := ⟨_, rfl⟩
 have b1 : Below w.heap.size w W1 := by rw [hW1]; exact (below_alloc w _).alloc (by simp) _
 have c1 : Cel W1 (w.heap.size + 1) [.int .i64 0, .int .i64 0, .int .i64 0, .int .i64 0, .int .i64 0, .slice none 0 0, .int .i64 0, .slice none 0 0] 34 := by rw [hW1]; exact Cel.new2 w _ _ _
 go_enter Tryz.func14, Tryz.ntmps14
 go_wp2_with fail
 rw [← hW1]
 clear hW1 hx
 refine (CC.out _ b1).mono ?_
 rintro e wf ⟨rfl, hb⟩
 replace b1 := b1.trans (hb.mono b1.size)
 replace c1 := c1.kept hb
 clear hb CC
 go_wp2_with (refine store_cel (w.heap.size + 1) [.int .i64 0, .int .i64 0, .int .i64 0, .int .i64 0, .int .i64 0, .slice none 0 0, .int .i64 0, .slice none 0 0] [.int .i64 0, .int .i64 0, .int .i64 0, .int .i64 0, .int .i64 0, .slice none 0 0, .int .i64 0, .slice none 0 0] rfl rfl c1 rfl info_f8 (by simp [Value.oneCell']) ?_)
 intro w3 B3 O3
 have HZ := hide9 (And.intro B3 (b1.trans (O3.below (Nat.le_succ _))))
 clear B3 O3 b1 c1
 go_wp2
 (try simp only [Exit.inBlock, Exit.then])
 exact bodyPost_ret (result_cel rfl (w.heap.size + 1) _ rfl HZ.out.1 Tryz.underlying34 info_f8) rfl ⟨rfl, HZ.out.2⟩
set_option maxHeartbeats 8000000 in
theorem f9build_ok (n : Nat) (ao : Option Addr) (xs : List Nat) (cap : Nat) (l : List Nat) (w : World) (y1 y2 y3 y4 y5 y7 : Int) (y6 y8 : Nat)
  (CC : Hid (∀ w0, Below w.heap.size w w0 → Calls Tryz.prog 21 #[.agg #[.int .i64 (n : Nat), .slice ao xs.length cap]] w0 fun e w' => e = .returned (.bool true) ∧ Below w0.heap.size w0 w'))
  (PC : Hid (∀ w0, Below w.heap.size w w0 → Calls Tryz.prog 39 #[.agg #[.int .i64 (n : Nat), .slice ao xs.length cap]] w0 fun e w' => ∃ so sc, e = .returned (.slice so l.length sc) ∧ Nd w' so (lz l) ∧ Below w0.heap.size w0 w'))
  (YP : World → Option Addr → Nat → Option Addr → Nat → Prop) (yo9 : ∀ w1 w2 yo yc zo zc, YP w1 yo yc zo zc → Only (w.heap.size + 1) w1 w2 → Cel w1 (w.heap.size + 1) [.int .i64 0, .int .i64 0, .int .i64 0, .int .i64 0, .int .i64 0, .slice none 0 0, .int .i64 0, .slice none 0 0] 34 → YP w2 yo yc zo zc)
  (OC : Hid (∀ w0 so sc, Nd w0 so (lz l) → Calls Tryz.prog 38 #[.int .i64 (n : Nat), .slice so l.length sc] w0 fun e w' => ∃ yo yc zo zc, e = .returned (.tuple #[.agg #[.int .i64 y1, .int .i64 y2, .int .i64 y3, .int .i64 y4, .int .i64 y5, .slice yo y6 yc, .int .i64 y7, .slice zo y8 zc], .int .i64 0]) ∧ YP w' yo yc zo zc ∧ Below w0.heap.size w0 w')) :
  Calls Tryz.prog 14 #[.agg #[.int .i64 (n : Nat), .slice ao xs.length cap]] w fun e w' => ∃ yo yc zo zc, e = .returned (.tuple #[.agg #[.int .i64 y1, .int .i64 y2, .int .i64 y3, .int .i64 y4, .int .i64 y5, .slice yo y6 yc, .int .i64 y7, .slice zo y8 zc], .int .i64 0]) ∧ YP w' yo yc zo zc ∧ Below w.heap.size w w' := by
 obtain ⟨W1, hW1⟩ : ∃ W1, W1 = (w.alloc (.cells #[.int .i64 (n : Nat), .slice ao xs.length cap] 24)).alloc (.cells #[.int .i64 0, .int .i64 0, .int .i64 0, .int .i64 0, .int .i64 0, .slice none 0 0, .int .i64 0, .slice none 0 0] 34) := ⟨_, rfl⟩
 have b1 : Below w.heap.size w W1 := by rw [hW1]; exact (below_alloc w _).alloc (by simp) _
 have c0 : Cel W1 w.heap.size [.int .i64 (n : Nat), .slice ao xs.length cap] 24 := by rw [hW1]; exact (Cel.new w _ _).alloc _
 have c1 : Cel W1 (w.heap.size + 1) [.int .i64 0, .int .i64 0, .int .i64 0, .int .i64 0, .int .i64 0, .slice none 0 0, .int .i64 0, .slice none 0 0] 34 := by rw [hW1]; exact Cel.new2 w _ _ _
 go_enter Tryz.func14, Tryz.ntmps14
 go_wp2_with fail
 rw [← hW1]
 clear hW1
 refine (CC.out _ b1).mono ?_
 rintro e wf ⟨rfl, hb⟩
 replace b1 := b1.trans (hb.mono b1.size)
 replace c0 := c0.kept hb
 replace c1 := c1.kept hb
 clear hb CC
 go_wp2_with fail
 refine region_g [7] (fun w0 => Cel w0 w.heap.size [.int .i64 (n : Nat), .slice ao xs.length cap] 24 ∧ Cel w0 (w.heap.size + 1) [.int .i64 0, .int .i64 0, .int .i64 0, .int .i64 0, .int .i64 0, .slice none 0 0, .int .i64 0, .slice none 0 0] 34 ∧ Below w.heap.size w w0) (by kernel_rfl) ?_
 have hS : (fun w0 : World => Cel w0 w.heap.size [.int .i64 (n : Nat), .slice ao xs.length cap] 24 ∧ Cel w0 (w.heap.size + 1) [.int .i64 0, .int .i64 0, .int .i64 0, .int .i64 0, .int .i64 0, .slice none 0 0, .int .i64 0, .slice none 0 0] 34 ∧ Below w.heap.size w w0) wf.drew := ⟨c0.drew, c1.drew, b1.drew⟩
 clear c0 c1 b1
 refine AnyG.take 0 (v := ?vv1) rfl (by kernel_rfl) (by kernel_rfl) (by kernel_rfl) (by kernel_rfl) (fun _ _ _ h => h) hS ?hy1 (by rfl) ?rest1
 case hy1 =>
  intro w0 h0
  go_simp
  try with_reducible rfl
 simp only [Act.put, yq0, yq1, yq2, yq3, yq4, yq5]
 refine AnyG.take 1 (v := ?vv2) rfl (by kernel_rfl) (by kernel_rfl) (by kernel_rfl) (by kernel_rfl) (fun _ _ _ h => h) hS ?hy2 (by rfl) ?rest2
 case hy2 =>
  intro w0 h0
  have := h0.1.cell 0 rfl
  go_simp
  try with_reducible rfl
 simp only [Act.put, yq0, yq1, yq2, yq3, yq4, yq5]
 refine AnyG.take 2 (v := ?vv3) rfl (by kernel_rfl) (by kernel_rfl) (by kernel_rfl) (by kernel_rfl) (fun _ _ _ h => h) hS ?hy3 (by rfl) ?rest3
 case hy3 =>
  intro w0 h0
  have := h0.1.cell 0 rfl
  have := h0.1.cell 1 rfl
  go_simp
  try with_reducible rfl
 simp only [Act.put, yq0, yq1, yq2, yq3, yq4, yq5]
 refine AnyG.one 3 (by kernel_rfl) rfl ?_
 intro K hK
 go_simp
 refine (PC.out _ hS.2.2).mono ?_
 rintro e w2 ⟨so, sc, rfl, hN, hb⟩
 replace hS := And.intro (hS.1.kept hb) (And.intro (hS.2.1.kept hb) (hS.2.2.trans (hb.mono hS.2.2.size)))
 clear hb
 refine hK.out _ _ (fun _ => hS) ?_
 clear hK K
 try simp only [Act.put, yq0, yq1, yq2, yq3, yq4, yq5]
 refine AnyG.one 4 (by kernel_rfl) rfl ?_
 intro K hK
 go_simp
 refine (OC.out _ _ _ hN).mono ?_
 rintro e w3 ⟨yo, yc, zo, zc, rfl, hY, hb⟩
 replace hS := And.intro (hS.1.kept hb) (And.intro (hS.2.1.kept hb) (hS.2.2.trans (hb.mono hS.2.2.size)))
 clear hb hN
 refine hK.out _ _ (fun _ => hS) ?_
 clear hK K
 try simp only [Act.put, yq0, yq1, yq2, yq3, yq4, yq5]
 refine AnyG.take 5 (v := ?vv4) rfl (by kernel_rfl) (by kernel_rfl) (by kernel_rfl) (by kernel_rfl) (fun _ _ _ h => h) hS ?hy4 (by rfl) ?rest4
 case hy4 =>
  intro w0 h0
  go_simp
  try with_reducible rfl
 simp only [Act.put, yq0, yq1, yq2, yq3, yq4, yq5]
 refine AnyG.take 6 (v := ?vv5) rfl (by kernel_rfl) (by kernel_rfl) (by kernel_rfl) (by kernel_rfl) (fun _ _ _ h => h) hS ?hy5 (by rfl) ?rest5
 case hy5 =>
  intro w0 h0
  go_simp
  try with_reducible rfl
 simp only [Act.put, yq0, yq1, yq2, yq3, yq4, yq5]
 refine AnyG.one 7 (by kernel_rfl) rfl ?_
 intro K hK
 refine step_store9 (w.heap.size + 1) [.int .i64 0, .int .i64 0, .int .i64 0, .int .i64 0, .int .i64 0, .slice none 0 0, .int .i64 0, .slice none 0 0] _ rfl rfl hS.2.1 rfl info_f8 (by simp [Value.oneCell']) ?_
 intro w9 B9 O9
 have hY9 := yo9 _ _ _ _ _ _ hY O9 hS.2.1
 have HZ := hide9 (And.intro B9 (And.intro hY9 (hS.2.2.trans (O9.below (Nat.le_succ _)))))
 clear hY9 B9 O9 hS hY
 refine hK.out _ _ (fun h => absurd (by decide) h) ?_
 clear hK K
 try simp only [Act.put, yq0, yq1, yq2, yq3, yq4, yq5]
 refine AnyG.takeW 8 (v := ?vv90) rfl (by kernel_rfl) (by kernel_rfl) (by kernel_rfl) (fun _ _ _ h => h) ?hy90 (by rfl) ?rest90
 case hy90 =>
  intro w0
  go_simp
  try with_reducible rfl
 simp only [Act.put, yq0, yq1, yq2, yq3, yq4, yq5]
 refine AnyG.done (by kernel_rfl) ?_ _
 go_wp2
 (try simp only [Exit.inBlock, Exit.then])
 exact bodyPost_ret (result_cel rfl (w.heap.size + 1) _ rfl HZ.out.1 Tryz.underlying34 info_f8) rfl ⟨yo, yc, zo, zc, rfl, HZ.out.2.1, HZ.out.2.2⟩
theorem f9build_k (N : Int) (ao : Option Addr) (xs : List Nat) (cap : Nat) (w : World) (hx : Wd w ao xs) (hf : Fit xs) (hN : N ≤ 3000) :
  Calls Tryz.prog 14 #[.agg #[.int .i64 N, .slice ao xs.length cap]] w fun e w' => ∃ cs : List Value, e = .returned (.tuple #[.agg cs.toArray, .int .i64 (kE9 N xs)]) ∧ KI9 w' cs (kB9 N xs) ∧ Below w.heap.size w w' := by
 have z : I64 0 := ⟨by decide, by decide⟩
 cases hk : chk N xs with
 | false =>
  refine (f9build_bad N ao xs cap w hx hf hk).mono ?_
  rintro e w' ⟨rfl, hb⟩
  have e1 : kE9 N xs = 2 := by unfold kE9; rw [hk]; rfl
  have e2 : kB9 N xs = ⟨0, 0, 0, 0, 0, [], 0, []⟩ := by unfold kB9; rw [hk]; rfl
  rw [e1, e2]
  have f0 : Fit [] := fun i => by unfold gt; simp
  exact ⟨_, rfl, ⟨⟨none, 0, none, 0, rfl, ⟨z, z, z, z, z, z⟩, wd0' _ _, f0, Nat.le_refl _, wd0' _ _, f0, Nat.le_refl _⟩, by decide, by simp, by simp⟩, hb⟩
 | true =>
  obtain ⟨u1, u2, u3, u4⟩ := chk_out _ _ hk
  obtain ⟨n, rfl⟩ := Int.eq_ofNat_of_zero_le u1
  have hn : n ≤ 3000 := by omega
  obtain ⟨L, hL⟩ : ∃ L, L = plc (bitAt xs) n := ⟨_, rfl⟩
  have RS : Rise L n := by rw [hL]; exact plc_rise _ _
  have mn := RS.len
  have e1 : kE9 (n : Int) xs = 0 := by unfold kE9; rw [hk]; rfl
  have e2 : kB9 (n : Int) xs = fOf n L := by
   unfold kB9
   rw [if_pos hk, Int.toNat_natCast, ← hL]
  have CC : Hid (∀ w0, Below w.heap.size w w0 → Calls Tryz.prog 21 #[.agg #[.int .i64 (n : Nat), .slice ao xs.length cap]] w0 fun e w' => e = .returned (.bool true) ∧ Below w0.heap.size w0 w') := fun w0 hb => by
   have := refcheck_c n ao xs cap w0 (hx.keep hb) hf
   rw [hk] at this
   exact this
  have PC : Hid (∀ w0, Below w.heap.size w w0 → Calls Tryz.prog 39 #[.agg #[.int .i64 (n : Nat), .slice ao xs.length cap]] w0 fun e w' => ∃ so sc, e = .returned (.slice so L.length sc) ∧ Nd w' so (lz L) ∧ Below w0.heap.size w0 w') := fun w0 hb => by
   refine (places_c n ao xs cap w0 (hx.keep hb) hk).mono ?_
   rintro e w' ⟨v, rfl, ho, hb2⟩
   rw [← hL] at ho
   obtain ⟨so, sc, rfl, _, _⟩ := Ap.owns_shape ho
   exact ⟨so, sc, rfl, nd_own9 ho, hb2.mono (Nat.le_refl _)⟩
  have i_y : ∀ {w1 : World} {yo : Option Addr} {X : List Nat}, Wd w1 yo X → Cel w1 (w.heap.size + 1) [.int .i64 0, .int .i64 0, .int .i64 0, .int .i64 0, .int .i64 0, .slice none 0 0, .int .i64 0, .slice none 0 0] 34 → ∀ a, 0 < X.length → yo = some a → a.block ≠ w.heap.size + 1 := fun h hc => h.apart hc (by intro v hv n; simp at hv; rcases hv with rfl | rfl | rfl | rfl <;> simp)
  refine (f9build_ok n ao xs cap L w (fOf n L).N (fOf n L).M (fOf n L).k (fOf n L).V (fOf n L).LM (fOf n L).H (fOf n L).xs.length (fOf n L).ys.length CC PC (fun w0 yo yc zo zc => Wd w0 yo (fOf n L).xs ∧ (fOf n L).xs.length ≤ yc ∧ Wd w0 zo (fOf n L).ys ∧ (fOf n L).ys.length ≤ zc) (fun w1 w2 yo yc zo zc h hO hc => ⟨hO.wd h.1 (i_y h.1 hc), h.2.1, hO.wd h.2.2.1 (i_y h.2.2.1 hc), h.2.2.2⟩) ?_).mono ?_
  ·intro w0 so sc hNd
   exact of9_c n so L sc w0 hNd RS hn
  ·rintro e w' ⟨bo, bc, qo, qc, rfl, ⟨p1, p2, p3, p4⟩, hb⟩
   rw [e1, e2]
   obtain ⟨v, hv⟩ : ∃ v, v = wdF n L.length := ⟨_, rfl⟩
   have v20 : v ≤ 20 := by rw [hv]; exact wdF_le n _ (by omega)
   have e3 : fOf n L = ⟨n, L.length, (loP L v).length, (max v 1 : Nat), ((loP L v).length : Int) * (max v 1 : Nat), mkS (loP L v) (max v 1) (loP L v).length, hiN L n v, rowOf (hiN L n v) (isIn (hiP L v))⟩ := by
    unfold fOf
    rw [← hv]
   rw [e3] at p1 p2 p3 p4 ⊢
   dsimp only at p1 p2 p3 p4 ⊢
   have l1 := length_lo_le L v
   have hE : n / 2 ^ v ≤ n := Nat.div_le_self _ _
   have l2 : hiN L n v ≤ 6001 := by unfold hiN; omega
   have l3 : (loP L v).length * max v 1 ≤ 3000 * 20 := Nat.mul_le_mul (by omega) (by omega)
   have l4 : (mkS (loP L v) (max v 1) (loP L v).length).length ≤ 1048576 := by rw [length_mkS]; omega
   have l5 : (rowOf (hiN L n v) (isIn (hiP L v))).length ≤ 1048576 := by rw [length_rowOf]; omega
   have i1 : I64 (n : Int) := ⟨by omega, by omega⟩
   have i2 : I64 (L.length : Int) := ⟨by omega, by omega⟩
   have i3 : I64 ((loP L v).length : Int) := ⟨by omega, by omega⟩
   have i5 : I64 ((max v 1 : Nat) : Int) := ⟨by omega, by omega⟩
   have i6 : I64 (hiN L n v : Int) := ⟨by omega, by omega⟩
   have i4 : I64 (((loP L v).length : Int) * (max v 1 : Nat)) := by
    rw [← Int.natCast_mul]
    exact ⟨by omega, by omega⟩
   exact ⟨_, rfl, ⟨⟨bo, bc, qo, qc, rfl, ⟨i1, i2, i3, i5, i4, i6⟩, p1, fit_mkS _ _ _, p2, p3, fit_rowOf _ _, p4⟩, hN, l4, l5⟩, hb⟩
end Go.Proofs.YtcaalcjcpddhaaaGreat
