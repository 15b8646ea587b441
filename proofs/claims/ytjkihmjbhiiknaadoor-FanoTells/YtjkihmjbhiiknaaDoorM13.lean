/-
  The contract of the document's Whole of layer 9. The contracts of the document's Check, Bits, Access, Rank and Select, over that of its Whole. The contracts of the document's functions of layer 9, over rows by places as values.
-/
import Derived.Test.YtjkihmjbhiiknaaDoorM12
import Derived.Test.YtjkihmjbhiiknaaDoorM09
import Derived.Test.YtjkihmjbhiiknaaDoorM05
import Derived.Test.YtjkihmjbhiiknaaDoorM06
import Derived.Test.YtjkihmjbhiiknaaDoorM03
namespace Go.Proofs.YtjkihmjbhiiknaaDoor
open Go.RowKit Num Bit
set_option linter.unusedVariables false
set_option linter.unusedSimpArgs false
set_option maxRecDepth 100000

theorem row9_c (N M k V LM : Int) (ao : Option Addr) (xs : List Nat) (cap : Nat) (H : Int) (qo : Option Addr) (ys : List Nat) (dap : Nat) (w : World) (hx : Wd w ao xs) (fx : Fit xs) (hy : Wd w qo ys) (fy : Fit ys) :
    Calls Tryd.prog 60 #[.agg #[.int .i64 N, .int .i64 M, .int .i64 k, .int .i64 V, .int .i64 LM, .slice ao xs.length cap, .int .i64 H, .slice qo ys.length dap]] w (ROut (fRow ⟨N, M, k, V, LM, xs, H, ys⟩) w) := by
  by_cases P : (0 ≤ N ∧ N ≤ 1048576 ∧ 0 ≤ M ∧ M ≤ N) ∧ ichk k V LM xs = true ∧ chk H ys = true
  · obtain ⟨⟨p1, p2, p3, p4⟩, p5, p6⟩ := P
    obtain ⟨v1, v2, v3, v4, v5, v6, v7, v8⟩ := ichk_out _ _ _ _ p5
    obtain ⟨u1, u2, u3, u4⟩ := chk_out _ _ p6
    obtain ⟨n, rfl⟩ := Int.eq_ofNat_of_zero_le p1
    obtain ⟨mm, rfl⟩ := Int.eq_ofNat_of_zero_le p3
    obtain ⟨kn, rfl⟩ := Int.eq_ofNat_of_zero_le v3
    obtain ⟨vn, rfl⟩ := Int.eq_ofNat_of_zero_le (show 0 ≤ V by omega)
    obtain ⟨hh, rfl⟩ := Int.eq_ofNat_of_zero_le u1
    exact row9_main n mm kn vn hh LM ao xs cap qo ys dap w hx fx hy fy (by omega) (by omega) p5 p6
  · rw [fRow_bad ⟨N, M, k, V, LM, xs, H, ys⟩ (fun h => P ⟨h.1, h.2.1, h.2.2.1⟩)]
    exact row9_bad N M k V LM H ao xs cap qo ys dap w hx fx hy fy P

/-- What Whole answers. -/
def WO9 (N : Int) (X : List Nat) (S : Bool) (w : World) (e : Ending) (w' : World) : Prop := ∃ bo bc, e = .returned (.tuple #[.agg #[.int .i64 N, .slice bo X.length bc], .bool S]) ∧ Wd w' bo X ∧ X.length ≤ bc ∧ Below w.heap.size w w'
theorem fRow_n (a : FA) (l : List Nat) (h : fRow a = some l) : 0 ≤ a.N ∧ Rise l a.N.toNat := by
  unfold fRow at h
  simp only at h
  split at h
  · rename_i c
    exact ⟨c.1.1, (fdec_len _ _ _ _ _ _ h).2⟩
  · cases h

set_option maxHeartbeats 8000000 in
theorem f9whole_none (N M k V LM : Int) (ao : Option Addr) (xs : List Nat) (cap : Nat) (H : Int) (qo : Option Addr) (ys : List Nat) (dap : Nat) (w : World) (RC : Hid (∀ w0, Below w.heap.size w w0 → Calls Tryd.prog 60 #[.agg #[.int .i64 N, .int .i64 M, .int .i64 k, .int .i64 V, .int .i64 LM, .slice ao xs.length cap, .int .i64 H, .slice qo ys.length dap]] w0 fun e w' => e = .returned (.tuple #[.slice none 0 0, .bool false]) ∧ Below w0.heap.size w0 w')) :
    Calls Tryd.prog 41 #[.agg #[.int .i64 N, .int .i64 M, .int .i64 k, .int .i64 V, .int .i64 LM, .slice ao xs.length cap, .int .i64 H, .slice qo ys.length dap]] w fun e w' => e = .returned (.tuple #[.agg #[.int .i64 0, .slice none 0 0], .bool false]) ∧ Below w.heap.size w w' := by
  obtain ⟨W, hW⟩ : ∃ W, W = (w.alloc (.cells #[.int .i64 N, .int .i64 M, .int .i64 k, .int .i64 V, .int .i64 LM, .slice ao xs.length cap, .int .i64 H, .slice qo ys.length dap] 30)).alloc (.cells #[.int .i64 0, .slice none 0 0] 24) := ⟨_, rfl⟩
  have bW : Below w.heap.size w W := by rw [hW]; exact (below_alloc w _).alloc (by simp) _
  have B1 : Cel W w.heap.size [.int .i64 N, .int .i64 M, .int .i64 k, .int .i64 V, .int .i64 LM, .slice ao xs.length cap, .int .i64 H, .slice qo ys.length dap] 30 := by rw [hW]; exact (Cel.new w _ _).alloc _
  have B2 : Cel W (w.heap.size + 1) [.int .i64 0, .slice none 0 0] 24 := by rw [hW]; exact Cel.new2 w _ _ _
  go_enter Tryd.func41, Tryd.ntmps41
  go_wp2_with fail
  rw [← hW]
  refine (RC.out _ bW).mono ?_
  rintro e w1 ⟨rfl, hb⟩
  have bw1 := bW.trans (hb.mono bW.size)
  replace B2 := B2.kept hb
  clear hb bW hW RC B1
  go_wp2_with (refine store_cel (w.heap.size + 1) [.int .i64 0, .slice none 0 0] [.int .i64 0, .slice none 0 0] rfl rfl B2 rfl info_b2 (by simp [Value.oneCell']) ?_)
  intro w3 B3 O3
  have HZ := hide9 (And.intro B3 (bw1.trans (O3.below (Nat.le_succ _))))
  clear B3 O3 B2
  go_wp2
  (try simp only [Exit.inBlock, Exit.then])
  exact bodyPost_ret (result_cel rfl (w.heap.size + 1) _ rfl HZ.out.1 Tryd.underlying24 info_b2) rfl ⟨rfl, HZ.out.2⟩

set_option maxHeartbeats 16000000 in
theorem f9whole_some (n : Nat) (M k V LM : Int) (ao : Option Addr) (xs : List Nat) (cap : Nat) (H : Int) (qo : Option Addr) (ys : List Nat) (dap : Nat) (l : List Nat) (w : World) (hn : n ≤ 3000) (hr : Rise l n) (y1 y2 y3 y4 y5 y7 : Int) (y6 y8 : Nat) (S : Bool)
    (RC : Hid (∀ w0, Below w.heap.size w w0 → Calls Tryd.prog 60 #[.agg #[.int .i64 (n : Nat), .int .i64 M, .int .i64 k, .int .i64 V, .int .i64 LM, .slice ao xs.length cap, .int .i64 H, .slice qo ys.length dap]] w0 fun e w' => ∃ so sc, e = .returned (.tuple #[.slice so l.length sc, .bool true]) ∧ Nd w' so (lz l) ∧ l.length ≤ sc ∧ Below w0.heap.size w0 w'))
    (YP : World → Option Addr → Nat → Option Addr → Nat → Prop) (yk : ∀ w1 w2 yo yc zo zc, YP w1 yo yc zo zc → Below w1.heap.size w1 w2 → YP w2 yo yc zo zc)
    (OC : Hid (∀ w0 so sc, Nd w0 so (lz l) → Calls Tryd.prog 38 #[.int .i64 (n : Nat), .slice so l.length sc] w0 fun e w' => ∃ yo yc zo zc, e = .returned (.tuple #[.agg #[.int .i64 y1, .int .i64 y2, .int .i64 y3, .int .i64 y4, .int .i64 y5, .slice yo y6 yc, .int .i64 y7, .slice zo y8 zc], .int .i64 0]) ∧ YP w' yo yc zo zc ∧ Below w0.heap.size w0 w'))
    (SC : Hid (∀ w0 yo yc zo zc, Below w.heap.size w w0 → YP w0 yo yc zo zc → Calls Tryd.prog 16 #[.agg #[.int .i64 (n : Nat), .int .i64 M, .int .i64 k, .int .i64 V, .int .i64 LM, .slice ao xs.length cap, .int .i64 H, .slice qo ys.length dap], .agg #[.int .i64 y1, .int .i64 y2, .int .i64 y3, .int .i64 y4, .int .i64 y5, .slice yo y6 yc, .int .i64 y7, .slice zo y8 zc]] w0 fun e w' => e = .returned (.bool S) ∧ Below w0.heap.size w0 w')) :
    Calls Tryd.prog 41 #[.agg #[.int .i64 (n : Nat), .int .i64 M, .int .i64 k, .int .i64 V, .int .i64 LM, .slice ao xs.length cap, .int .i64 H, .slice qo ys.length dap]] w (WO9 (if S = true then (n : Int) else 0) (if S = true then rowOf n (isIn l) else []) S w) := by
  obtain ⟨i4, hi4, za4, zb4, zc4⟩ := info_parts info4_9
  obtain ⟨W, hW⟩ : ∃ W, W = (w.alloc (.cells #[.int .i64 (n : Nat), .int .i64 M, .int .i64 k, .int .i64 V, .int .i64 LM, .slice ao xs.length cap, .int .i64 H, .slice qo ys.length dap] 30)).alloc (.cells #[.int .i64 0, .slice none 0 0] 24) := ⟨_, rfl⟩
  have bW : Below w.heap.size w W := by rw [hW]; exact (below_alloc w _).alloc (by simp) _
  have B1 : Cel W w.heap.size [.int .i64 (n : Nat), .int .i64 M, .int .i64 k, .int .i64 V, .int .i64 LM, .slice ao xs.length cap, .int .i64 H, .slice qo ys.length dap] 30 := by rw [hW]; exact (Cel.new w _ _).alloc _
  have B2 : Cel W (w.heap.size + 1) [.int .i64 0, .slice none 0 0] 24 := by rw [hW]; exact Cel.new2 w _ _ _
  cases S with
  | false =>
    go_enter Tryd.func41, Tryd.ntmps41
    go_wp2_with fail
    rw [← hW]
    refine (RC.out _ bW).mono ?_
    rintro e w1 ⟨so, sc, rfl, hN, hsc, hb⟩
    have bw1 := bW.trans (hb.mono bW.size)
    replace B1 := B1.kept hb
    replace B2 := B2.kept hb
    have q0 := B1.cell 0 rfl
    clear hb bW hW RC
    go_wp2_with fail
    refine (OC.out _ _ _ hN).mono ?_
    rintro e w2 ⟨yo, yc, zo, zc, rfl, hY, hb⟩
    have bw2 := bw1.trans (hb.mono bw1.size)
    replace B1 := B1.kept hb
    replace B2 := B2.kept hb
    clear hb OC bw1 q0
    have bA := below_alloc w2 (.cells #[.int .i64 y1, .int .i64 y2, .int .i64 y3, .int .i64 y4, .int .i64 y5, .slice yo y6 yc, .int .i64 y7, .slice zo y8 zc] 30)
    have D6 := Cel.new w2 [.int .i64 y1, .int .i64 y2, .int .i64 y3, .int .i64 y4, .int .i64 y5, .slice yo y6 yc, .int .i64 y7, .slice zo y8 zc] 30
    have E1 := B1.kept bA
    have E2 := B2.kept bA
    have hY2 := yk _ _ _ _ _ _ hY bA
    have bw3 := bw2.trans (bA.mono bw2.size)
    clear B1 B2 hY bA
    go_wp2_with (first | refine load_obj w.heap.size _ (by rfl) rfl E1 Tryd.underlying30 info_f8 ?_ | refine load_obj w2.heap.size _ (by rfl) rfl D6 Tryd.underlying30 info_f8 ?_)
    refine (SC.out _ _ _ _ _ bw3 hY2).mono ?_
    rintro e w4 ⟨rfl, hb⟩
    have bw4 := bw3.trans (hb.mono bw3.size)
    replace E2 := E2.kept hb
    clear hb SC D6 E1 hY2 bw3
    go_wp2_with (refine store_cel (w.heap.size + 1) [.int .i64 0, .slice none 0 0] [.int .i64 0, .slice none 0 0] rfl rfl E2 rfl info_b2 (by simp [Value.oneCell']) ?_)
    intro w5 B3 O3
    have HZ := hide9 (And.intro B3 (bw4.trans (O3.below (Nat.le_succ _))))
    clear B3 O3 E2
    go_wp2
    (try simp only [Exit.inBlock, Exit.then])
    exact bodyPost_ret (result_cel rfl (w.heap.size + 1) _ rfl HZ.out.1 Tryd.underlying24 info_b2) rfl (show WO9 0 [] false w _ _ from ⟨none, 0, rfl, wd0' _ _, Nat.zero_le _, HZ.out.2⟩)
  | true =>
    have FR : Hid (∀ (w0 : World) (g : Nat), Cel w0 g (bvs n (isIn l)) 4 → Calls Tryd.prog 59 #[.slice (some ⟨g, 0, none⟩) n n] w0 fun e w' => ∃ g', e = .returned (.tuple #[.agg #[.int .i64 (n : Nat), .slice (some ⟨g', 0, none⟩) (rowOf n (isIn l)).length (rowOf n (isIn l)).length], .int .i64 0]) ∧ w0.heap.size ≤ g' ∧ Own w' g' (rowOf n (isIn l)) ∧ Below w0.heap.size w0 w') := fun w0 g h => by
      have hlen : (bls n (isIn l)).length = n := by simp [bls]
      have h3 := reffrom_ok (some ⟨g, 0, none⟩) (bls n (isIn l)) n _ w0 (bl_cel h) (by rw [hlen]; omega) rfl
      rw [fromS_all] at h3
      have e6 : frL (bls n (isIn l)) = rowOf n (isIn l) := by
        unfold frL
        rw [hlen]
        refine rowOf_congr n _ _ fun i hi => ?_
        unfold bt bls
        rw [List.getD_eq_getElem?_getD, List.getElem?_map, List.getElem?_range hi]
        rfl
      have e5 : (rowOf n (isIn l)).length = (n + 63) / 64 := length_rowOf _ _
      rw [hlen, e6] at h3
      rw [e5]
      exact h3
    generalize hYY : rowOf n (isIn l) = YY at *
    clear hYY
    go_enter Tryd.func41, Tryd.ntmps41
    go_wp2_with fail
    rw [← hW]
    refine (RC.out _ bW).mono ?_
    rintro e w1 ⟨so, sc, rfl, hN, hsc, hb⟩
    have bw1 := bW.trans (hb.mono bW.size)
    replace B1 := B1.kept hb
    replace B2 := B2.kept hb
    have q0 := B1.cell 0 rfl
    clear hb bW hW RC
    go_wp2_with fail
    refine (OC.out _ _ _ hN).mono ?_
    rintro e w2 ⟨yo, yc, zo, zc, rfl, hY, hb⟩
    have bw2 := bw1.trans (hb.mono bw1.size)
    replace B1 := B1.kept hb
    replace B2 := B2.kept hb
    replace hN := Nd.keep hN hb
    clear hb OC bw1 q0
    have bA := below_alloc w2 (.cells #[.int .i64 y1, .int .i64 y2, .int .i64 y3, .int .i64 y4, .int .i64 y5, .slice yo y6 yc, .int .i64 y7, .slice zo y8 zc] 30)
    have D6 := Cel.new w2 [.int .i64 y1, .int .i64 y2, .int .i64 y3, .int .i64 y4, .int .i64 y5, .slice yo y6 yc, .int .i64 y7, .slice zo y8 zc] 30
    have E1 := B1.kept bA
    have E2 := B2.kept bA
    have hY2 := yk _ _ _ _ _ _ hY bA
    have bw3 := bw2.trans (bA.mono bw2.size)
    replace hN := Nd.keep hN bA
    clear B1 B2 hY bA
    go_wp2_with (first | refine load_obj w.heap.size _ (by rfl) rfl E1 Tryd.underlying30 info_f8 ?_ | refine load_obj w2.heap.size _ (by rfl) rfl D6 Tryd.underlying30 info_f8 ?_)
    refine (SC.out _ _ _ _ _ bw3 hY2).mono ?_
    rintro e w4 ⟨rfl, hb⟩
    have bw4 := bw3.trans (hb.mono bw3.size)
    replace E1 := E1.kept hb
    replace E2 := E2.kept hb
    replace hN := Nd.keep hN hb
    clear hb SC D6 hY2 bw3 bw2
    have gl := E2.lt
    have q0 := E1.cell 0 rfl
    go_wp2_with (at_make; refine wpList_make_full _ rfl _ _ 83 rfl w4.heap.size 4 i4 (.bool false) 1 Tryd.underlying83 hi4 za4 zb4 .i64 .i64 _ _ n rfl rfl rfl rfl ?b2 ?b3 ?b4 ?_)
    case b2 => rw [zc4]; omega
    case b3 => unfold maxLen; omega
    case b4 => exact Nat.le_refl _
    intro w5 hown hgr
    have hB := bcel_made hown
    have bG : Below w4.heap.size w4 w5 := (Below.refl _ _).grown hgr (Nat.le_refl _) (fun k h => by cases h)
    replace E2 := E2.kept bG
    have bw5 := bw4.trans (bG.mono bw4.size)
    have bz := bw4.size
    clear hown hgr bw4 E1 q0
    have hN2 : Hid (∀ q, q < l.length → ∃ b off, so = some ⟨b, off, none⟩ ∧ b < w4.heap.size ∧ w5.cell? ⟨b, off + q, none⟩ = some (.int .i64 (gt l q : Nat))) := fun q hq => by
      obtain ⟨b, off, e, hbl, hcel⟩ := hN (by rw [length_lz]; omega)
      have h1 := hcel q (by rw [length_lz]; exact hq)
      rw [gi_lz] at h1
      exact ⟨b, off, e, hbl, (bG.cell (p := ⟨b, off + q, none⟩) hbl).trans h1⟩
    clear hN bG
    generalize w4.heap.size = g at *
    go_wp2
    go_loopw [9] (fun iv wr => ∃ q : Nat, q ≤ l.length ∧ iv = .int .i64 q ∧ Cel wr g (bvs n (isIn (l.take q))) 4 ∧ Only g w5 wr) (fun iv _ => l.length - (intOf iv).toNat)
    case atStart => exact ⟨0, Nat.zero_le _, rfl, by rw [bvs_congr n (isIn (l.take 0)) (fun _ => false) (fun i _ => by simp [isIn])]; exact hB, Only.refl _ _⟩
    case round =>
      obtain ⟨q, hq, rfl, hC, hOn⟩ := hrel
      by_cases hlt : q < l.length
      · have hlt2 : (q : Int) < (l.length : Int) := by omega
        obtain ⟨b, off, rfl, hbl, hc5⟩ := hN2.out q hlt
        have cq : wr.cell? ⟨b, off + q, none⟩ = some (.int .i64 (gt l q : Nat)) := (World.cell?_of_block (w := w5) (hOn.block b (by omega))).trans hc5
        have xl := hr.1 q hlt
        have lln := hr.len
        have ql3 : q < 3000 := by omega
        clear lln
        have ST := hide9 (isIn_snoc (l.take q) (gt l q))
        have TK := hide9 (take_snoc' l q hlt)
        have cj := hC.cell (gt l q) (bvs_get _ _ _ xl)
        have fj := hC.frozen (gt l q)
        have st := hC.set (gt l q) (.bool true)
        rw [bvs_set] at st
        have HS : Hid (Cel (wr.setCell ⟨g, gt l q, none⟩ (.bool true)) g (bvs n (isIn (l.take (q + 1)))) 4 ∧ Only g w5 (wr.setCell ⟨g, gt l q, none⟩ (.bool true))) := by
          refine ⟨?_, hOn.set _ _⟩
          rw [TK.out, bvs_congr n _ _ (fun i _ => ST.out i)]
          exact st
        have xl2 : (gt l q : Int) < (n : Int) := by omega
        clear st hc5 hC hOn
        generalize gt l q = x at *
        go_wp2
        exact ⟨⟨q + 1, by omega, by go_num, HS.out.1, HS.out.2⟩, by simp only [intOf]; omega⟩
      · obtain rfl : q = l.length := by omega
        rw [List.take_of_length_le (Nat.le_refl _)] at hC
        have F1 := hide9 (FR.out wr g hC)
        have E3 := hOn.cel E2 (by omega)
        have bw6 := bw5.trans (hOn.below (by omega))
        have e3l := E3.lt
        clear FR hC hOn hB E2 bw5
        go_wp2_with fail
        refine F1.out.mono ?_
        rintro e w6 ⟨g', rfl, hg', hO, hb⟩
        replace E3 := E3.kept hb
        have bw7 := bw6.trans (hb.mono bw6.size)
        clear hb F1
        have bA := below_alloc w6 (.cells #[.int .i64 (n : Nat), .slice (some ⟨g', 0, none⟩) YY.length YY.length] 24)
        have D7 := Cel.new w6 [.int .i64 (n : Nat), .slice (some ⟨g', 0, none⟩) YY.length YY.length] 24
        have E4 := E3.kept bA
        have hO2 := hO.keep bA
        have bw8 := bw7.trans (bA.mono bw7.size)
        have gx : g' ≠ w.heap.size + 1 := by omega
        clear E3 hO bA bw6 bw7
        go_wp2_with (first | refine load_cel w6.heap.size _ rfl D7 Tryd.underlying24 info_b2 ?_ | refine store_cel (w.heap.size + 1) [.int .i64 0, .slice none 0 0] _ rfl rfl E4 rfl info_b2 (by simp [Value.oneCell']) ?_)
        intro w9 B3 O3
        have hO3 : Own w9 g' YY := (O3.block g' gx).trans hO2
        have HZ := hide9 (And.intro B3 (And.intro hO3 (bw8.trans (O3.below (Nat.le_succ _)))))
        clear B3 O3 hO2 hO3 D7 E4 bw8
        go_wp2
        (try simp only [Exit.inBlock, Exit.then])
        exact bodyPost_ret (result_cel rfl (w.heap.size + 1) _ rfl HZ.out.1 Tryd.underlying24 info_b2) rfl (show WO9 (n : Int) YY true w _ _ from ⟨some ⟨g', 0, none⟩, YY.length, rfl, HZ.out.2.1.wd, Nat.le_refl _, HZ.out.2.2⟩)
end Go.Proofs.YtjkihmjbhiiknaaDoor

namespace Go.Proofs.YtjkihmjbhiiknaaDoor
open Go.RowKit Num Bit
set_option linter.unusedVariables false
set_option linter.unusedSimpArgs false
set_option maxRecDepth 100000

theorem f9info_b : (Tryd.prog.info? 24).map (·.size) = some 2 := by kernel_rfl

set_option maxHeartbeats 2000000 in
theorem f9check_g (c0 c1 c2 c3 c4 c5 c6 c7 : Value) (ok : Bool) (N : Int) (X : List Nat) (w : World) (hf : Fit X) (hck : ok = true → chk N X = true) (C1 : Hid (∀ w0, Below w.heap.size w w0 → Calls Tryd.prog 41 #[.agg #[c0, c1, c2, c3, c4, c5, c6, c7]] w0 fun e w' => ∃ bo bc, e = .returned (.tuple #[.agg #[.int .i64 N, .slice bo X.length bc], .bool ok]) ∧ Wd w' bo X ∧ X.length ≤ bc ∧ Below w0.heap.size w0 w')) :
    Calls Tryd.prog 24 #[.agg #[c0, c1, c2, c3, c4, c5, c6, c7]] w fun e w' => e = .returned (.bool ok) ∧ Below w.heap.size w w' := by
  obtain ⟨W, hW⟩ : ∃ W, W = w.alloc (.cells #[c0, c1, c2, c3, c4, c5, c6, c7] 30) := ⟨_, rfl⟩
  have bW : Below w.heap.size w W := by rw [hW]; exact below_alloc w _
  go_enter Tryd.func24, Tryd.ntmps24
  go_wp2_with fail
  rw [← hW]
  refine (C1.out _ bW).mono ?_
  rintro e w1 ⟨bo, bc, rfl, hx, hbc, hb⟩
  have bw1 := bW.trans (hb.mono bW.size)
  clear hb C1
  have bA := below_alloc w1 (.cells #[.int .i64 N, .slice bo X.length bc] 24)
  have bw2 := bw1.trans (bA.mono bw1.size)
  go_wp2
  go_ret
  exact ⟨rfl, bw2⟩

set_option maxHeartbeats 2000000 in
theorem f9bits_g (c0 c1 c2 c3 c4 c5 c6 c7 : Value) (ok : Bool) (N : Int) (X : List Nat) (w : World) (hf : Fit X) (hck : ok = true → chk N X = true) (C1 : Hid (∀ w0, Below w.heap.size w w0 → Calls Tryd.prog 41 #[.agg #[c0, c1, c2, c3, c4, c5, c6, c7]] w0 fun e w' => ∃ bo bc, e = .returned (.tuple #[.agg #[.int .i64 N, .slice bo X.length bc], .bool ok]) ∧ Wd w' bo X ∧ X.length ≤ bc ∧ Below w0.heap.size w0 w')) :
    Calls Tryd.prog 27 #[.agg #[c0, c1, c2, c3, c4, c5, c6, c7]] w fun e w' => ∃ bo bc, e = .returned (.agg #[.int .i64 N, .slice bo X.length bc]) ∧ Wd w' bo X ∧ X.length ≤ bc ∧ Below w.heap.size w w' := by
  obtain ⟨W, hW⟩ : ∃ W, W = (w.alloc (.cells #[c0, c1, c2, c3, c4, c5, c6, c7] 30)).alloc (.cells #[.int .i64 0, .slice none 0 0] 24) := ⟨_, rfl⟩
  have bW : Below w.heap.size w W := by rw [hW]; exact (below_alloc w _).alloc (by simp) _
  have B2 : Cel W (w.heap.size + 1) [.int .i64 0, .slice none 0 0] 24 := by rw [hW]; exact Cel.new2 w _ _ _
  go_enter Tryd.func27, Tryd.ntmps27
  go_wp2_with fail
  rw [← hW]
  refine (C1.out _ bW).mono ?_
  rintro e w1 ⟨bo, bc, rfl, hx, hbc, hb⟩
  have bw1 := bW.trans (hb.mono bW.size)
  have z2 : w.heap.size + 1 < w1.heap.size := Nat.lt_of_lt_of_le B2.lt hb.size
  replace B2 := B2.kept hb
  have bA := below_alloc w1 (.cells #[.int .i64 N, .slice bo X.length bc] 24)
  replace B2 := B2.kept bA
  have hx2 := hx.keep bA
  have bw2 := bw1.trans (bA.mono bw1.size)
  have D1 := Cel.new w1 [.int .i64 N, .slice bo X.length bc] 24
  have hne := hx2.apart B2 (by intro v hv n; simp at hv; rcases hv with rfl | rfl <;> simp)
  go_wp2_with (first | refine load_cel w1.heap.size _ rfl D1 Tryd.underlying24 f9info_b ?_ | refine store_cel (w.heap.size + 1) _ _ rfl rfl B2 rfl f9info_b (by simp [Value.oneCell']) ?_)
  intro w3 B3 O3
  have HZ : Hid (Cel w3 (w.heap.size + 1) [.int .i64 N, .slice bo X.length bc] 24 ∧ Wd w3 bo X ∧ Below w.heap.size w w3) := ⟨B3, O3.wd hx2 hne, bw2.trans (O3.below (Nat.le_succ _))⟩
  clear B3 O3 hx hx2 hb B2 D1
  go_wp2
  (try simp only [Exit.inBlock, Exit.then])
  exact bodyPost_ret (result_cel1 rfl (w.heap.size + 1) _ rfl HZ.out.1 Tryd.underlying24 f9info_b) rfl ⟨bo, bc, rfl, HZ.out.2.1, hbc, HZ.out.2.2⟩

set_option maxHeartbeats 2000000 in
theorem f9access_g (c0 c1 c2 c3 c4 c5 c6 c7 : Value) (i : Int) (ok : Bool) (N : Int) (X : List Nat) (w : World) (hf : Fit X) (hck : ok = true → chk N X = true) (C1 : Hid (∀ w0, Below w.heap.size w w0 → Calls Tryd.prog 41 #[.agg #[c0, c1, c2, c3, c4, c5, c6, c7]] w0 fun e w' => ∃ bo bc, e = .returned (.tuple #[.agg #[.int .i64 N, .slice bo X.length bc], .bool ok]) ∧ Wd w' bo X ∧ X.length ≤ bc ∧ Below w0.heap.size w0 w')) :
    Calls Tryd.prog 19 #[.agg #[c0, c1, c2, c3, c4, c5, c6, c7], .int .i64 i] w fun e w' => e = .returned (.tuple #[.bool (gaB ok N X i), .int .i64 (gaE ok N X i)]) ∧ Below w.heap.size w w' := by
  obtain ⟨W, hW⟩ : ∃ W, W = w.alloc (.cells #[c0, c1, c2, c3, c4, c5, c6, c7] 30) := ⟨_, rfl⟩
  have bW : Below w.heap.size w W := by rw [hW]; exact below_alloc w _
  obtain ⟨P1, hP1⟩ : ∃ P : Bool, Hid (P = gaB ok N X i) := ⟨gaB ok N X i, (rfl : gaB ok N X i = gaB ok N X i)⟩
  obtain ⟨P2, hP2⟩ : ∃ P : Int, Hid (P = gaE ok N X i) := ⟨gaE ok N X i, (rfl : gaE ok N X i = gaE ok N X i)⟩
  rw [← hP1.out, ← hP2.out]
  cases hk : ok with
  | false =>
    subst hk
    have E : Hid (P1 = false ∧ P2 = 2) := by
      show _ ∧ _
      rw [hP1.out, hP2.out]
      unfold gaB gaE
      exact ⟨rfl, rfl⟩
    go_enter Tryd.func19, Tryd.ntmps19
    go_wp2_with fail
    rw [← hW]
    refine (C1.out _ bW).mono ?_
    rintro e w1 ⟨bo, bc, rfl, hx, hbc, hb⟩
    have bw1 := bW.trans (hb.mono bW.size)
    clear hb C1
    have bA := below_alloc w1 (.cells #[.int .i64 N, .slice bo X.length bc] 24)
    have bw2 := bw1.trans (bA.mono bw1.size)
    go_wp2
    go_ret2
    rw [E.out.1, E.out.2]
    exact ⟨rfl, bw2⟩
  | true =>
    subst hk
    have E : Hid (P1 = getB N X i ∧ P2 = getE N X i) := by
      show _ ∧ _
      rw [hP1.out, hP2.out]
      unfold gaB gaE
      exact ⟨rfl, rfl⟩
    have C2 : Hid (∀ w0 bo bc, Wd w0 bo X → Calls Tryd.prog 42 #[.agg #[.int .i64 N, .slice bo X.length bc], .int .i64 i] w0 fun e w' => e = .returned (.tuple #[.bool P1, .int .i64 P2]) ∧ Below w0.heap.size w0 w') := fun w0 bo bc h => by
      rw [E.out.1, E.out.2]
      exact refget_c N bo X bc i w0 h hf
    go_enter Tryd.func19, Tryd.ntmps19
    go_wp2_with fail
    rw [← hW]
    refine (C1.out _ bW).mono ?_
    rintro e w1 ⟨bo, bc, rfl, hx, hbc, hb⟩
    have bw1 := bW.trans (hb.mono bW.size)
    clear hb C1
    have bA := below_alloc w1 (.cells #[.int .i64 N, .slice bo X.length bc] 24)
    have bw2 := bw1.trans (bA.mono bw1.size)
    have hx2 := hx.keep bA
    go_wp2_with fail
    refine (C2.out _ _ _ hx2).mono ?_
    rintro e w2 ⟨rfl, hb2⟩
    have bw3 := bw2.trans (hb2.mono bw2.size)
    go_wp2
    go_ret2
    exact ⟨rfl, bw3⟩

theorem f9onesI_in (N : Int) (xs : List Nat) (i : Nat) (hk : chk N xs = true) (hi : (i : Int) ≤ N) : onesI N xs i = (cntB xs i : Int) := by
  unfold onesI
  rw [hk, show min (i : Int) N = (i : Int) by omega, Int.toNat_natCast]
  rfl

set_option maxHeartbeats 2000000 in
theorem f9rank_g (c0 c1 c2 c3 c4 c5 c6 c7 : Value) (bit : Bool) (i : Int) (ok : Bool) (N : Int) (X : List Nat) (w : World) (hf : Fit X) (hck : ok = true → chk N X = true) (C1 : Hid (∀ w0, Below w.heap.size w w0 → Calls Tryd.prog 41 #[.agg #[c0, c1, c2, c3, c4, c5, c6, c7]] w0 fun e w' => ∃ bo bc, e = .returned (.tuple #[.agg #[.int .i64 N, .slice bo X.length bc], .bool ok]) ∧ Wd w' bo X ∧ X.length ≤ bc ∧ Below w0.heap.size w0 w')) :
    Calls Tryd.prog 20 #[.agg #[c0, c1, c2, c3, c4, c5, c6, c7], .bool bit, .int .i64 i] w fun e w' => e = .returned (.tuple #[.int .i64 (grN ok N X bit i), .int .i64 (grE ok N i)]) ∧ Below w.heap.size w w' := by
  obtain ⟨W, hW⟩ : ∃ W, W = w.alloc (.cells #[c0, c1, c2, c3, c4, c5, c6, c7] 30) := ⟨_, rfl⟩
  have bW : Below w.heap.size w W := by rw [hW]; exact below_alloc w _
  obtain ⟨P1, hP1⟩ : ∃ P : Int, Hid (P = grN ok N X bit i) := ⟨grN ok N X bit i, (rfl : grN ok N X bit i = grN ok N X bit i)⟩
  obtain ⟨P2, hP2⟩ : ∃ P : Int, Hid (P = grE ok N i) := ⟨grE ok N i, (rfl : grE ok N i = grE ok N i)⟩
  rw [← hP1.out, ← hP2.out]
  cases hk : ok with
  | false =>
    subst hk
    have E : Hid (P1 = 0 ∧ P2 = 2) := by
      show _ ∧ _
      rw [hP1.out, hP2.out]
      unfold grN grE
      exact ⟨rfl, rfl⟩
    go_enter Tryd.func20, Tryd.ntmps20
    go_wp2_with fail
    rw [← hW]
    refine (C1.out _ bW).mono ?_
    rintro e w1 ⟨bo, bc, rfl, hx, hbc, hb⟩
    have bw1 := bW.trans (hb.mono bW.size)
    clear hb C1
    have bA := below_alloc w1 (.cells #[.int .i64 N, .slice bo X.length bc] 24)
    have bw2 := bw1.trans (bA.mono bw1.size)
    go_wp2
    go_ret2
    rw [E.out.1, E.out.2]
    exact ⟨rfl, bw2⟩
  | true =>
    subst hk
    replace hck := hck rfl
    obtain ⟨h0, h1, -, -⟩ := chk_out N X hck
    by_cases hi : i < 0
    · have E : Hid (P1 = 0 ∧ P2 = 3) := by
        show _ ∧ _
        have e2 : grE true N i = 3 := by unfold grE; rw [if_pos rfl, if_pos (.inl hi)]
        rw [hP1.out, hP2.out]
        unfold grN
        rw [e2]
        exact ⟨rfl, rfl⟩
      go_enter Tryd.func20, Tryd.ntmps20
      go_wp2_with fail
      rw [← hW]
      refine (C1.out _ bW).mono ?_
      rintro e w1 ⟨bo, bc, rfl, hx, hbc, hb⟩
      have bw1 := bW.trans (hb.mono bW.size)
      clear hb C1
      have bA := below_alloc w1 (.cells #[.int .i64 N, .slice bo X.length bc] 24)
      have bw2 := bw1.trans (bA.mono bw1.size)
      go_wp2
      go_ret2
      rw [E.out.1, E.out.2]
      exact ⟨rfl, bw2⟩
    by_cases hi2 : N < i
    · have E : Hid (P1 = 0 ∧ P2 = 3) := by
        show _ ∧ _
        have e2 : grE true N i = 3 := by unfold grE; rw [if_pos rfl, if_pos (.inr hi2)]
        rw [hP1.out, hP2.out]
        unfold grN
        rw [e2]
        exact ⟨rfl, rfl⟩
      go_enter Tryd.func20, Tryd.ntmps20
      go_wp2_with fail
      rw [← hW]
      refine (C1.out _ bW).mono ?_
      rintro e w1 ⟨bo, bc, rfl, hx, hbc, hb⟩
      have bw1 := bW.trans (hb.mono bW.size)
      clear hb C1
      have bA := below_alloc w1 (.cells #[.int .i64 N, .slice bo X.length bc] 24)
      have bw2 := bw1.trans (bA.mono bw1.size)
      go_wp2
      go_ret2
      rw [E.out.1, E.out.2]
      exact ⟨rfl, bw2⟩
    have E : Hid (P1 = (cB X bit i.toNat : Int) ∧ P2 = 0) := by
      show _ ∧ _
      have e2 : grE true N i = 0 := by unfold grE; rw [if_pos rfl, if_neg (by omega)]
      rw [hP1.out, hP2.out]
      unfold grN
      rw [e2]
      exact ⟨rfl, rfl⟩
    obtain ⟨k, rfl⟩ := Int.eq_ofNat_of_zero_le (show 0 ≤ i by omega)
    have hc := cntB_le X k
    have C2 : Hid (∀ w0 bo bc, Wd w0 bo X → Calls Tryd.prog 13 #[.agg #[.int .i64 N, .slice bo X.length bc], .int .i64 k] w0 fun e w' => e = .returned (.int .i64 (cntB X k)) ∧ Below w0.heap.size w0 w') := fun w0 bo bc h => by
      have := refones_c N bo X bc k w0 h hf
      rw [f9onesI_in N X k hck (by omega)] at this
      exact this
    rw [Int.toNat_natCast] at E
    cases bit with
    | true =>
      rw [show cB X true k = cntB X k from rfl] at E
      generalize cntB X k = Z at *
      go_enter Tryd.func20, Tryd.ntmps20
      go_wp2_with fail
      rw [← hW]
      refine (C1.out _ bW).mono ?_
      rintro e w1 ⟨bo, bc, rfl, hx, hbc, hb⟩
      have bw1 := bW.trans (hb.mono bW.size)
      clear hb C1
      have bA := below_alloc w1 (.cells #[.int .i64 N, .slice bo X.length bc] 24)
      have bw2 := bw1.trans (bA.mono bw1.size)
      have hx2 := hx.keep bA
      go_wp2_with fail
      refine (C2.out _ _ _ hx2).mono ?_
      rintro e w2 ⟨rfl, hb2⟩
      have bw3 := bw2.trans (hb2.mono bw2.size)
      go_wp2
      go_ret2
      rw [E.out.1, E.out.2]
      exact ⟨rfl, bw3⟩
    | false =>
      rw [show cB X false k = k - cntB X k from rfl] at E
      generalize cntB X k = Z at *
      have eZ : Hid (((k - Z : Nat) : Int) = (k : Int) - (Z : Int)) := by show ((k - Z : Nat) : Int) = (k : Int) - (Z : Int); omega
      go_enter Tryd.func20, Tryd.ntmps20
      go_wp2_with fail
      rw [← hW]
      refine (C1.out _ bW).mono ?_
      rintro e w1 ⟨bo, bc, rfl, hx, hbc, hb⟩
      have bw1 := bW.trans (hb.mono bW.size)
      clear hb C1
      have bA := below_alloc w1 (.cells #[.int .i64 N, .slice bo X.length bc] 24)
      have bw2 := bw1.trans (bA.mono bw1.size)
      have hx2 := hx.keep bA
      go_wp2_with fail
      refine (C2.out _ _ _ hx2).mono ?_
      rintro e w2 ⟨rfl, hb2⟩
      have bw3 := bw2.trans (hb2.mono bw2.size)
      go_wp2
      go_ret2
      rw [E.out.1, E.out.2, eZ.out]
      exact ⟨rfl, bw3⟩

set_option maxHeartbeats 2000000 in
theorem f9select_g (c0 c1 c2 c3 c4 c5 c6 c7 : Value) (bit : Bool) (k : Int) (ok : Bool) (N : Int) (X : List Nat) (w : World) (hf : Fit X) (hck : ok = true → chk N X = true) (C1 : Hid (∀ w0, Below w.heap.size w w0 → Calls Tryd.prog 41 #[.agg #[c0, c1, c2, c3, c4, c5, c6, c7]] w0 fun e w' => ∃ bo bc, e = .returned (.tuple #[.agg #[.int .i64 N, .slice bo X.length bc], .bool ok]) ∧ Wd w' bo X ∧ X.length ≤ bc ∧ Below w0.heap.size w0 w')) :
    Calls Tryd.prog 22 #[.agg #[c0, c1, c2, c3, c4, c5, c6, c7], .bool bit, .int .i64 k] w fun e w' => e = .returned (.tuple #[.int .i64 (gsX ok N X bit k), .int .i64 (gsE ok N X bit k)]) ∧ Below w.heap.size w w' := by
  obtain ⟨W, hW⟩ : ∃ W, W = w.alloc (.cells #[c0, c1, c2, c3, c4, c5, c6, c7] 30) := ⟨_, rfl⟩
  have bW : Below w.heap.size w W := by rw [hW]; exact below_alloc w _
  obtain ⟨P1, hP1⟩ : ∃ P : Int, Hid (P = gsX ok N X bit k) := ⟨gsX ok N X bit k, (rfl : gsX ok N X bit k = gsX ok N X bit k)⟩
  obtain ⟨P2, hP2⟩ : ∃ P : Int, Hid (P = gsE ok N X bit k) := ⟨gsE ok N X bit k, (rfl : gsE ok N X bit k = gsE ok N X bit k)⟩
  rw [← hP1.out, ← hP2.out]
  cases hk : ok with
  | false =>
    subst hk
    have E : Hid (P1 = 0 ∧ P2 = 2) := by
      show _ ∧ _
      rw [hP1.out, hP2.out]
      unfold gsX gsE
      exact ⟨rfl, rfl⟩
    go_enter Tryd.func22, Tryd.ntmps22
    go_wp2_with fail
    rw [← hW]
    refine (C1.out _ bW).mono ?_
    rintro e w1 ⟨bo, bc, rfl, hx, hbc, hb⟩
    have bw1 := bW.trans (hb.mono bW.size)
    clear hb C1
    have bA := below_alloc w1 (.cells #[.int .i64 N, .slice bo X.length bc] 24)
    have bw2 := bw1.trans (bA.mono bw1.size)
    go_wp2
    go_ret2
    rw [E.out.1, E.out.2]
    exact ⟨rfl, bw2⟩
  | true =>
    subst hk
    replace hck := hck rfl
    obtain ⟨h0, h1, h2, -⟩ := chk_out N X hck
    obtain ⟨m, rfl⟩ := Int.eq_ofNat_of_zero_le h0
    have E1 : ∀ o, pselO m X bit k = o → P1 = ((o.getD 0 : Nat) : Int) ∧ P2 = (if o.isSome = true then (0 : Int) else 3) := fun o ho => by
      rw [hP1.out, hP2.out]
      unfold gsX gsE
      rw [ho]
      exact ⟨rfl, rfl⟩
    have E : Hid (∀ o, pselO m X bit k = o → P1 = ((o.getD 0 : Nat) : Int) ∧ P2 = (if o.isSome = true then (0 : Int) else 3)) := E1
    clear E1
    have HL : Hid (∀ j, j < m → j / 64 < X.length) := fun j hj => by omega
    clear h2
    go_enter Tryd.func22, Tryd.ntmps22
    go_wp2_with fail
    rw [← hW]
    refine (C1.out _ bW).mono ?_
    rintro e w1 ⟨bo, bc, rfl, hx, hbc, hb⟩
    have bw1 := bW.trans (hb.mono bW.size)
    clear hb C1
    have bA := below_alloc w1 (.cells #[.int .i64 m, .slice bo X.length bc] 24)
    have bw2 := bw1.trans (bA.mono bw1.size)
    have D0 := Cel.new w1 [.int .i64 m, .slice bo X.length bc] 24
    have hx2 := hx.keep bA
    go_wp2
    go_loopw [10, 11] (fun n i wr => ∃ q c : Nat, q ≤ m ∧ i = .int .i64 q ∧ n = .int .i64 c ∧ c ≤ q ∧ Hid (c = cB X bit q) ∧ Hid (∀ j, j < q → here X bit k j = false) ∧ Cel wr w1.heap.size [.int .i64 m, .slice bo X.length bc] 24 ∧ Wd wr bo X ∧ Below w.heap.size w wr) (fun _ i _ => m - (intOf i).toNat)
    case atStart => exact ⟨0, 0, by omega, rfl, rfl, by omega, by show 0 = cB X bit 0; have := cB_le X bit 0; omega, fun j hj => absurd hj (by omega), D0, hx2, bw2⟩
    case round =>
      obtain ⟨q, c, hq, rfl, rfl, hcq, Hc, Hh, hD, hxr, hwr⟩ := hrel
      have r0 := hD.cell 0 rfl
      have r1 := hD.cell 1 rfl
      by_cases hlt : q < m
      · have hlt2 : (q : Int) < (m : Int) := by omega
        have C2 : Hid (∀ w0, Wd w0 bo X → Calls Tryd.prog 37 #[.agg #[.int .i64 m, .slice bo X.length bc], .int .i64 q] w0 fun e w' => e = .returned (.bool (bitAt X q)) ∧ Below w0.heap.size w0 w') := fun w0 h => at_c m bo X bc q w0 h (HL.out q hlt) (by omega)
        go_wp2_with fail
        refine (C2.out _ hxr).mono ?_
        rintro e w2 ⟨rfl, hb2⟩
        have hw2 := hwr.trans (hb2.mono hwr.size)
        have hD2 := hD.kept hb2
        have hx3 := hxr.keep hb2
        clear hb2 r0 r1
        by_cases hbit : bitAt X q = bit
        · have nb : (bitAt X q != bit) = false := by simp [hbit]
          by_cases hck2 : (c : Int) = k
          · have hh : here X bit k q = true := by
              unfold here
              rw [← Hc.out]
              simp [hbit, hck2]
            have hs := psel_some m X bit k q (by omega) hh
            have RS : Hid (P1 = (q : Int) ∧ P2 = 0) := E.out (some q) hs
            have ek : ((c : Int) == k) = true := by simp [hck2]
            clear hs hh
            go_wp2
            go_ret2
            rw [RS.out.1, RS.out.2]
            exact ⟨rfl, hw2⟩
          · have ek : ((c : Int) == k) = false := by simp [hck2]
            have hn : here X bit k q = false := by
              unfold here
              rw [← Hc.out]
              simp [hck2]
            have Hc2 : Hid (c + 1 = cB X bit (q + 1)) := by show c + 1 = cB X bit (q + 1); rw [cB_succ, if_pos hbit, ← Hc.out]
            have Hh2 : Hid (∀ j, j < q + 1 → here X bit k j = false) := fun j hj => by
              by_cases e : j = q
              · subst e; exact hn
              · exact Hh.out j (by omega)
            clear hn Hc Hh
            go_wp2
            exact ⟨⟨q + 1, c + 1, by omega, by go_num, by go_num, by omega, Hc2, Hh2, hD2, hx3, hw2⟩, by simp only [intOf]; omega⟩
        · have nb : (bitAt X q != bit) = true := by simp [hbit]
          have nb2 : (bitAt X q == bit) = false := by simp [hbit]
          have nb3 : (bitAt X q ^^ bit) = true := by revert hbit; cases bitAt X q <;> cases bit <;> simp
          have hn : here X bit k q = false := by
            unfold here
            simp [hbit]
          have Hc2 : Hid (c = cB X bit (q + 1)) := by show c = cB X bit (q + 1); rw [cB_succ, if_neg hbit, ← Hc.out]; rfl
          have Hh2 : Hid (∀ j, j < q + 1 → here X bit k j = false) := fun j hj => by
            by_cases e : j = q
            · subst e; exact hn
            · exact Hh.out j (by omega)
          clear hn Hc Hh
          go_wp2
          exact ⟨⟨q + 1, c, by omega, by go_num, rfl, by omega, Hc2, Hh2, hD2, hx3, hw2⟩, by simp only [intOf]; omega⟩
      · obtain rfl : q = m := by omega
        have hs : pselO q X bit k = none := psel_none q X bit k (fun i hi => Hh.out i (by rw [Int.toNat_natCast] at hi; exact hi))
        have RS : Hid (P1 = 0 ∧ P2 = 3) := E.out none hs
        clear hs
        go_wp2
        go_ret2
        rw [RS.out.1, RS.out.2]
        exact ⟨rfl, hwr⟩
end Go.Proofs.YtjkihmjbhiiknaaDoor

namespace Go.Proofs.YtjkihmjbhiiknaaDoor
open Go.RowKit Num Bit
set_option linter.unusedVariables false
set_option linter.unusedSimpArgs false
set_option maxRecDepth 100000

theorem kOk_nat9 (a : RA) (h : kOk a = true) : ∃ (n mm kn vn hh : Nat) (LM : Int) (xs ys : List Nat), a = ⟨n, mm, kn, vn, LM, xs, hh, ys⟩ := by
  obtain ⟨_, e⟩ := kOk_row a h
  rw [e]
  exact ⟨_, _, _, _, _, _, _, _, rfl⟩
theorem fSame_as (a b : FA) : (decide (a.N = b.N) && (decide (a.M = b.M) && ((decide (a.k = b.k) && (decide (a.V = b.V) && (decide (a.LM = b.LM) && decide (a.xs = b.xs)))) && (decide (a.H = b.H) && decide (a.ys = b.ys))))) = fSame a b := by
  unfold fSame
  simp only [Bool.and_assoc]
theorem f9whole_k (cs : List Value) (a : RA) (w : World) (h : KI w cs a) :
    Calls Tryd.prog 41 #[.agg cs.toArray] w fun e w' => ∃ bo bc, e = .returned (.tuple #[.agg #[.int .i64 (kBN a), .slice bo (kBX a).length bc], .bool (kOk a)]) ∧ Wd w' bo (kBX a) ∧ (kBX a).length ≤ bc ∧ Below w.heap.size w w' := by
  obtain ⟨⟨ao, cap, qo, dap, rfl, _, a1, a2, a3, a4, a5, a6⟩, n3, xl, yl⟩ := h
  obtain ⟨N, M, k, V, LM, xs, H, ys⟩ := a
  dsimp only at *
  have RC := fun (w0 : World) (hb : Below w.heap.size w w0) => row9_c N M k V LM ao xs cap H qo ys dap w0 (a1.keep hb) a2 (a4.keep hb) a5
  cases hrow : fRow ⟨N, M, k, V, LM, xs, H, ys⟩ with
  | none =>
    rw [hrow] at RC
    have ok : kOk ⟨N, M, k, V, LM, xs, H, ys⟩ = false := by unfold kOk; rw [hrow]
    have e1 : kBN ⟨N, M, k, V, LM, xs, H, ys⟩ = 0 := by unfold kBN; rw [ok]; rfl
    have e2 : kBX ⟨N, M, k, V, LM, xs, H, ys⟩ = [] := by unfold kBX; rw [ok]; rfl
    rw [ok, e1, e2]
    refine (f9whole_none N M k V LM ao xs cap H qo ys dap w RC).mono ?_
    rintro e w' ⟨rfl, hb⟩
    exact ⟨none, 0, rfl, wd0' _ _, Nat.zero_le _, hb⟩
  | some l =>
    rw [hrow] at RC
    obtain ⟨n0, hr⟩ := fRow_n _ l hrow
    dsimp only at n0 hr
    obtain ⟨n, rfl⟩ := Int.eq_ofNat_of_zero_le n0
    rw [Int.toNat_natCast] at hr
    have hn : n ≤ 3000 := by omega
    have ok : kOk ⟨n, M, k, V, LM, xs, H, ys⟩ = fSame ⟨n, M, k, V, LM, xs, H, ys⟩ (fOf n l) := by unfold kOk; rw [hrow]; rfl
    have e0 : kRow ⟨n, M, k, V, LM, xs, H, ys⟩ = l := by unfold kRow; rw [hrow]; rfl
    have e1 : kBN ⟨n, M, k, V, LM, xs, H, ys⟩ = if kOk ⟨n, M, k, V, LM, xs, H, ys⟩ = true then (n : Int) else 0 := rfl
    have e2 : kBX ⟨n, M, k, V, LM, xs, H, ys⟩ = if kOk ⟨n, M, k, V, LM, xs, H, ys⟩ = true then rowOf n (isIn l) else [] := by unfold kBX; rw [e0]; rfl
    rw [e1, e2]
    refine f9whole_some n M k V LM ao xs cap H qo ys dap l w hn hr (fOf n l).N (fOf n l).M (fOf n l).k (fOf n l).V (fOf n l).LM (fOf n l).H (fOf n l).xs.length (fOf n l).ys.length _ RC (fun w0 yo yc zo zc => Wd w0 yo (fOf n l).xs ∧ Wd w0 zo (fOf n l).ys) (fun w1 w2 yo yc zo zc h hb => ⟨h.1.keep hb, h.2.keep hb⟩) ?_ ?_
    · intro w0 so sc hN
      refine (of9_c n so l sc w0 hN hr hn).mono ?_
      rintro e w' ⟨bo, bc, qo', qc, rfl, ⟨h1, _, h2, _⟩, hb⟩
      exact ⟨bo, bc, qo', qc, rfl, ⟨h1, h2⟩, hb⟩
    · intro w0 yo yc zo zc hb hY
      have := f9same_c (n : Int) M k V LM ao xs cap H qo ys dap (fOf n l).N (fOf n l).M (fOf n l).k (fOf n l).V (fOf n l).LM yo (fOf n l).xs yc (fOf n l).H zo (fOf n l).ys zc w0 (a1.keep hb) hY.1 (a4.keep hb) hY.2 xl yl
      rw [fSame_as ⟨n, M, k, V, LM, xs, H, ys⟩ (fOf n l), ← ok] at this
      exact this
theorem f9check_k (cs : List Value) (a : RA) (w : World) (h : KI w cs a) :
    Calls Tryd.prog 24 #[.agg cs.toArray] w fun e w' => e = .returned (.bool (kOk a)) ∧ Below w.heap.size w w' := by
  have W := fun (w0 : World) (hb : Below w.heap.size w w0) => f9whole_k cs a w0 (h.keep hb)
  obtain ⟨⟨ao, cap, qo, dap, rfl, _⟩, _⟩ := h
  exact f9check_g _ _ _ _ _ _ _ _ (kOk a) (kBN a) (kBX a) w (kB_fit a) (kB_chk a) W
theorem f9bits_k (cs : List Value) (a : RA) (w : World) (h : KI w cs a) :
    Calls Tryd.prog 27 #[.agg cs.toArray] w fun e w' => ∃ bo bc, e = .returned (.agg #[.int .i64 (kBN a), .slice bo (kBX a).length bc]) ∧ Wd w' bo (kBX a) ∧ (kBX a).length ≤ bc ∧ Below w.heap.size w w' := by
  have W := fun (w0 : World) (hb : Below w.heap.size w w0) => f9whole_k cs a w0 (h.keep hb)
  obtain ⟨⟨ao, cap, qo, dap, rfl, _⟩, _⟩ := h
  exact f9bits_g _ _ _ _ _ _ _ _ (kOk a) (kBN a) (kBX a) w (kB_fit a) (kB_chk a) W
theorem f9access_k (cs : List Value) (a : RA) (i : Int) (w : World) (h : KI w cs a) :
    Calls Tryd.prog 19 #[.agg cs.toArray, .int .i64 i] w fun e w' => e = .returned (.tuple #[.bool (gaB (kOk a) (kBN a) (kBX a) i), .int .i64 (gaE (kOk a) (kBN a) (kBX a) i)]) ∧ Below w.heap.size w w' := by
  have W := fun (w0 : World) (hb : Below w.heap.size w w0) => f9whole_k cs a w0 (h.keep hb)
  obtain ⟨⟨ao, cap, qo, dap, rfl, _⟩, _⟩ := h
  exact f9access_g _ _ _ _ _ _ _ _ i (kOk a) (kBN a) (kBX a) w (kB_fit a) (kB_chk a) W
theorem f9rank_k (cs : List Value) (a : RA) (bit : Bool) (i : Int) (w : World) (h : KI w cs a) :
    Calls Tryd.prog 20 #[.agg cs.toArray, .bool bit, .int .i64 i] w fun e w' => e = .returned (.tuple #[.int .i64 (grN (kOk a) (kBN a) (kBX a) bit i), .int .i64 (grE (kOk a) (kBN a) i)]) ∧ Below w.heap.size w w' := by
  have W := fun (w0 : World) (hb : Below w.heap.size w w0) => f9whole_k cs a w0 (h.keep hb)
  obtain ⟨⟨ao, cap, qo, dap, rfl, _⟩, _⟩ := h
  exact f9rank_g _ _ _ _ _ _ _ _ bit i (kOk a) (kBN a) (kBX a) w (kB_fit a) (kB_chk a) W
theorem f9select_k (cs : List Value) (a : RA) (bit : Bool) (k : Int) (w : World) (h : KI w cs a) :
    Calls Tryd.prog 22 #[.agg cs.toArray, .bool bit, .int .i64 k] w fun e w' => e = .returned (.tuple #[.int .i64 (gsX (kOk a) (kBN a) (kBX a) bit k), .int .i64 (gsE (kOk a) (kBN a) (kBX a) bit k)]) ∧ Below w.heap.size w w' := by
  have W := fun (w0 : World) (hb : Below w.heap.size w w0) => f9whole_k cs a w0 (h.keep hb)
  obtain ⟨⟨ao, cap, qo, dap, rfl, _⟩, _⟩ := h
  exact f9select_g _ _ _ _ _ _ _ _ bit k (kOk a) (kBN a) (kBX a) w (kB_fit a) (kB_chk a) W


set_option maxHeartbeats 4000000 in
theorem f9size_k (cs : List Value) (a : RA) (w : World) (h : KI w cs a) :
    Calls Tryd.prog 17 #[.agg cs.toArray] w fun e w' => e = .returned (.int .i64 (kZ a)) ∧ Below w.heap.size w w' := by
  have C := fun (w0 : World) (hb : Below w.heap.size w w0) => f9check_k cs a w0 (h.keep hb)
  obtain ⟨⟨ao, cap, qo, dap, rfl, _⟩, _, _, _⟩ := h
  obtain ⟨N, M, k, V, LM, xs, H, ys⟩ := a
  dsimp only at *
  obtain ⟨Z, hZ⟩ : ∃ Z, Hid (Z = kZ ⟨N, M, k, V, LM, xs, H, ys⟩) := ⟨_, rfl⟩
  rw [← hZ.out]
  obtain ⟨W, hW⟩ : ∃ W, W = w.alloc (.cells #[.int .i64 N, .int .i64 M, .int .i64 k, .int .i64 V, .int .i64 LM, .slice ao xs.length cap, .int .i64 H, .slice qo ys.length dap] 30) := ⟨_, rfl⟩
  have bW : Below w.heap.size w W := by rw [hW]; exact below_alloc w _
  have B1 : Cel W w.heap.size [.int .i64 N, .int .i64 M, .int .i64 k, .int .i64 V, .int .i64 LM, .slice ao xs.length cap, .int .i64 H, .slice qo ys.length dap] 30 := by rw [hW]; exact Cel.new w _ _
  have CH : Hid (∀ w0, Below w.heap.size w w0 → Calls Tryd.prog 24 #[.agg #[.int .i64 N, .int .i64 M, .int .i64 k, .int .i64 V, .int .i64 LM, .slice ao xs.length cap, .int .i64 H, .slice qo ys.length dap]] w0 fun e w' => e = .returned (.bool (kOk ⟨N, M, k, V, LM, xs, H, ys⟩)) ∧ Below w0.heap.size w0 w') := C
  clear C
  cases hk : kOk ⟨N, M, k, V, LM, xs, H, ys⟩ with
  | false =>
    rw [hk] at CH
    have E : Hid (Z = 0) := by
      show Z = 0
      rw [hZ.out]
      unfold kZ
      rw [hk]
      rfl
    clear hk hZ
    go_enter Tryd.func17, Tryd.ntmps17
    go_wp2_with fail
    rw [← hW]
    refine (CH.out _ bW).mono ?_
    rintro e w1 ⟨rfl, hb⟩
    have bw1 := bW.trans (hb.mono bW.size)
    clear hW
    go_wp2
    go_ret
    rw [E.out]
    exact ⟨rfl, bw1⟩
  | true =>
    rw [hk] at CH
    have E : Hid (Z = LM + H + 64) := by
      show Z = _
      rw [hZ.out]
      unfold kZ
      rw [if_pos hk]
    obtain ⟨n, mm, kn, vn, hh, LM', xs', ys', e⟩ := kOk_nat9 _ hk
    simp only [FA.mk.injEq] at e
    obtain ⟨rfl, rfl, rfl, rfl, rfl, rfl, rfl, rfl⟩ := e
    obtain ⟨F, _⟩ := ok_fits n mm kn vn hh LM xs ys hk
    obtain ⟨_, _, _, _, _, m1, m2, _⟩ := ichk_out _ _ _ _ F.ik
    obtain ⟨l1, l2, _, _⟩ := chk_out _ _ F.ck
    clear hk hZ F
    go_enter Tryd.func17, Tryd.ntmps17
    go_wp2_with fail
    rw [← hW]
    refine (CH.out _ bW).mono ?_
    rintro e w1 ⟨rfl, hb⟩
    have bw1 := bW.trans (hb.mono bW.size)
    replace B1 := B1.kept hb
    have r4 := B1.cell 4 rfl
    have r6 := B1.cell 6 rfl
    clear hW hb
    go_wp2
    go_ret
    rw [E.out]
    exact ⟨rfl, bw1⟩

theorem f9same_k (cs ds : List Value) (a : RA) (w : World) (h : KI w cs a) (g : KI w ds a) :
    Calls Tryd.prog 16 #[.agg cs.toArray, .agg ds.toArray] w fun e w' => e = .returned (.bool true) ∧ Below w.heap.size w w' := by
  obtain ⟨⟨ao, cap, qo, dap, rfl, _, a1, a2, a3, a4, a5, a6⟩, n3, xl, yl⟩ := h
  obtain ⟨⟨bo, bap, ro, eap, rfl, _, b1, b2, b3, b4, b5, b6⟩, _⟩ := g
  have := f9same_c a.N a.M a.k a.V a.LM ao a.xs cap a.H qo a.ys dap a.N a.M a.k a.V a.LM bo a.xs bap a.H ro a.ys eap w a1 b1 a4 b4 xl yl
  simpa using this
end Go.Proofs.YtjkihmjbhiiknaaDoor
